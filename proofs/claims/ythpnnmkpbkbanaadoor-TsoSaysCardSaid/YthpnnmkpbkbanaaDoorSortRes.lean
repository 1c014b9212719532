/-
  slices.SortFunc over lists of numbers, each in memory of its own, with slices.Compare.
-/
import Derived.Test.YthpnnmkpbkbanaaDoorResMem
import Derived.Test.YthpnnmkpbkbanaaDoorCmp
import Derived.Test.YthpnnmkpbkbanaaDoorSortLay
namespace Go.Proofs.YthpnnmkpbkbanaaDoor
open Go.RowKit Go.Shelf Go.Lib Go.Sort

theorem perm_of_whole {α : Type} [Inhabited α] {d d' : Array α} (h : PermIn 0 d.size d d') : d'.size = d.size ∧ d'.toList.Perm d.toList := by
  obtain ⟨h1, _, h3⟩ := h
  refine ⟨h1, ?_⟩
  have e1 : d'.extract 0 d.size = d' := by rw [← h1]; simp
  have e2 : d.extract 0 d.size = d := by simp
  rwa [e1, e2] at h3

theorem touch_sortWorld {α : Type} [Inhabited α] (enc : α → Value) (w : World) (g off m : Nat) (dk : Array α) (os : Array Obj) : Touch (fun k => k = g) w (sortWorld enc w g off m dk os) := by
  refine ⟨rfl, rfl, rfl, ?_, fun k hk hn => ?_⟩
  · simp [sortWorld, putRow, mapBlock, Sort.ahead]
  · show (grow (putRow enc (Sort.ahead w m) g off dk) os).heap[k]? = _
    rw [heap_grow_old _ _ (by simpa [putRow, mapBlock, Sort.ahead] using hk)]
    simp [putRow, mapBlock, Sort.ahead, Array.getElem?_modify, show ¬ g = k from fun e => hn e.symm]
theorem block_sortWorld {α : Type} [Inhabited α] (enc : α → Value) (w : World) (g off m : Nat) (dk : Array α) (os : Array Obj) {cur : Array Value} {t : TypeId} (h : w.heap[g]? = some (.cells cur t (0, 0))) :
    (sortWorld enc w g off m dk os).heap[g]? = some (.cells (putCells enc off dk cur) t (0, 0)) := by
  have hk := (Array.getElem?_eq_some_iff.1 h).1
  show (grow (putRow enc (Sort.ahead w m) g off dk) os).heap[g]? = _
  rw [heap_grow_old _ _ (by simpa [putRow, mapBlock, Sort.ahead] using hk)]
  simp [putRow, mapBlock, Sort.ahead, Array.getElem?_modify, h, onCells]
theorem putCells_take {α : Type} [Inhabited α] (enc : α → Value) (dk : Array α) (cur : Array Value) (hs : dk.size ≤ cur.size) : (putCells enc 0 dk cur).toList.take dk.size = dk.toList.map enc := by
  apply List.ext_getElem?
  intro i
  rw [List.getElem?_take, List.getElem?_map]
  by_cases h : i < dk.size
  · rw [if_pos h]
    simp [putCells, h, Array.getElem?_eq_getElem (show i < cur.size by omega)]
  · rw [if_neg h]
    simp [h]

theorem swo_cmp {α : Type} (f : α → List Int) : SWO (ltOf fun x y : α => cmpL (f x) (f y)) where
  irrefl := fun x => by simp [ltOf, cmpL_self]
  trans := fun x y z h1 h2 => by
    simp only [ltOf, decide_eq_true_eq] at *
    exact cmpL_trans h1 h2
  ntrans := fun x y z h1 h2 => by
    simp only [ltOf, decide_eq_false_iff_not] at *
    exact cmpL_ntrans h1 h2

/-- A value with its list, readable in world W, out of block g. -/
def Item (W : World) (pb g : Nat) : Type := { p : Value × List Int // Tell W pb p.1 p.2 ∧ ∀ k, p.1.ownBlock = some k → k ≠ g }

theorem items_of {W : World} {pb g : Nat} {cap : Nat} : ∀ {xs : List Value} {ts : List (List Int)} (n : Nat), RowsOf W pb ts xs (.slice (some ⟨g, 0, none⟩) n cap) → ∃ is : List (Item W pb g), is.map (fun p => p.1.1) = xs ∧ is.map (fun p => p.1.2) = ts
  | [], [], _, _ => ⟨[], rfl, rfl⟩
  | [], t :: ts, _, h => by cases h.1
  | x :: xs, [], _, h => by cases h.1
  | x :: xs, t :: ts, n, h => by
    obtain ⟨is, h1, h2⟩ := items_of (W := W) (pb := pb) (g := g) (cap := cap) (xs := xs) (ts := ts) n ⟨by simpa using h.1, fun i y s hy hs => h.2 (i + 1) y s (by simpa using hy) (by simpa using hs)⟩
    obtain ⟨h3, h4⟩ := h.2 0 x t rfl rfl
    exact ⟨⟨(x, t), h3, fun k hk e => h4 k hk (by rw [e]; rfl)⟩ :: is, congrArg (x :: ·) h1, congrArg (t :: ·) h2⟩

theorem sort_any {w : World} {words : Int} {hv : Value} {hs : List (List Ln)} {pb ob : Nat} {ts : List (List Int)} {v : Value} {xs : List Value} {W : World} (h : ResV w words hv hs pb ob ts v xs W) (hlen : xs.length ≤ 1073741824) :
    Calls Tryd.prog 27 #[v, .func (.func 28) #[] #[]] W fun e W' => e = .returned (.tuple #[]) ∧ Touch (fun k => v.ownBlock = some k) W W' ∧ ∃ xs' ts', (∀ x ∈ xs', x ∈ xs) ∧ ts'.Perm ts ∧ ts'.Pairwise (fun a b => ¬ cmpL b a < 0) ∧ ResV w words hv hs pb ob ts' v xs' W' := by
  have h0 := h
  obtain ⟨h1, h2, h3, h4, h5, h6, h7⟩ := h
  rcases h6.2 with ⟨rfl, hn⟩ | ⟨g, cap, cur, rfl, hg, hgh, hnc, hcm, hsz, htk⟩
  · have hx : xs = [] := List.eq_nil_of_length_eq_zero hn
    have ht : ts = [] := List.eq_nil_of_length_eq_zero (by rw [← h7.1, hn])
    subst hx
    subst ht
    refine (AnyF.slices_SortFunc_none ({ sortL with }) none 0 _ W).mono ?_
    rintro e W' ⟨rfl, rfl⟩
    exact ⟨rfl, Touch.refl _ _, [], [], fun _ h => h, List.Perm.refl _, List.Pairwise.nil, h0⟩
  · obtain ⟨is, hi1, hi2⟩ := items_of _ h7
    cases is with
    | nil =>
      have hx : xs = [] := hi1.symm
      have ht : ts = [] := hi2.symm
      subst hx
      subst ht
      refine (AnyF.slices_SortFunc_none ({ sortL with }) _ cap _ W).mono ?_
      rintro e W' ⟨rfl, rfl⟩
      exact ⟨rfl, Touch.refl _ _, [], [], fun _ h => h, List.Perm.refl _, List.Pairwise.nil, h0⟩
    | cons i0 is =>
      haveI : Inhabited (Item W pb g) := ⟨i0⟩
      obtain ⟨d, hd⟩ : ∃ d : Array (Item W pb g), d = (i0 :: is).toArray := ⟨_, rfl⟩
      have hdl : d.toList = i0 :: is := by rw [hd]
      have hds : d.size = xs.length := by rw [hd, ← hi1]; simp
      have hgl : g < W.heap.size := (Array.getElem?_eq_some_iff.1 hgh).1
      have hone : OneCell (fun p : Item W pb g => p.1.1) := fun p => p.2.1.one
      have hcmp : CmpReads Tryd.prog 28 #[] (fun p : Item W pb g => p.1.1) (fun x y => cmpL x.1.2 y.1.2) g 0 d.size W := by
        intro m os dk _ x y
        have ht := touch_sortWorld (fun p : Item W pb g => p.1.1) W g 0 m dk os
        refine (compare_any x.1.1 y.1.1 x.1.2 y.1.2 _ _ (x.2.1.touch ht fun k hk e => x.2.2 k hk e).1 (y.2.1.touch ht fun k hk e => y.2.2 k hk e).1).mono ?_
        rintro e W' ⟨rfl, rfl⟩
        exact ⟨rfl, 0, rfl⟩
      have hH : Holds (fun p : Item W pb g => p.1.1) W g 0 d := by
        intro j hj
        have hB : Block W g 47 cur := hgh
        refine ⟨?_, hB.free _⟩
        rw [hB.cell, Nat.zero_add]
        have e1 : cur.toList[j]? = xs[j]? := by rw [← htk, List.getElem?_take, if_pos (by omega)]
        rw [← Array.getElem?_toList, e1, ← hi1, List.getElem?_map, ← hdl, Array.getElem?_toList]
        simp [hj]
      have hL := Any.slices_SortFunc sortL (fun p : Item W pb g => p.1.1) hone (fun x y => cmpL x.1.2 y.1.2) (swo_cmp _) 28 #[] g 0 cap d W (enters_of Tryd.func28 (by kernel_rfl) rfl) hcmp.lays hH hgl (by omega)
      rw [hds] at hL
      refine Calls.mono hL ?_
      rintro e W' ⟨rfl, d', m, os, hp, hso, rfl⟩
      rw [← hds] at hp hso
      obtain ⟨hps, hpp⟩ := perm_of_whole hp
      have ht := touch_sortWorld (fun p : Item W pb g => p.1.1) W g 0 m d' os
      have hgs := ht.size
      have hne : ∀ k, k = g → w.heap.size + 1 ≤ k ∧ k ≠ pb := fun k hk => by omega
      have hlx : (d'.toList.map fun p => p.1.1).length = xs.length := by rw [List.length_map, Array.length_toList, hps, hds]
      refine ⟨rfl, ht.mono fun k hk => by rw [hk]; rfl, d'.toList.map fun p => p.1.1, d'.toList.map fun p => p.1.2, ?_, ?_, ?_, h1.touch ht (by omega), h2.touch ht h3.size fun i hi => by have := hne i hi; omega, h3.trans (ht.below h3.size fun i hi => by have := hne i hi; omega), by omega, h5.touch ht (by omega), ⟨by rw [hlx, Nat.mul_one], Or.inr ⟨g, cap, _, by rw [hlx], hg, block_sortWorld _ _ _ _ _ _ _ hgh, by rw [hlx]; exact hnc, hcm, by simp [putCells, hsz], ?_⟩⟩, ?_, ?_⟩
      · intro x hx
        rw [← hi1, ← hdl]
        exact (hpp.map _).mem_iff.1 hx
      · rw [← hi2, ← hdl]
        exact hpp.map _
      · rw [List.pairwise_map, List.pairwise_iff_getElem]
        intro i j hi hj hij
        have hi' : i < d'.size := by simpa using hi
        have hj' : j < d'.size := by simpa using hj
        have := hso i j (Nat.zero_le _) hij (by rw [← hps]; exact hj')
        rw [getElem!_pos d' j hj', getElem!_pos d' i hi'] at this
        simpa [ltOf] using this
      · rw [hlx, Nat.mul_one, ← hds, ← hps]
        exact putCells_take _ _ _ (by omega)
      · simp
      · intro i x t hx hts
        rw [List.getElem?_map] at hx hts
        cases e : d'.toList[i]? with
        | none => rw [e] at hx; cases hx
        | some p =>
          rw [e] at hx hts
          obtain rfl := Option.some.inj hx
          obtain rfl := Option.some.inj hts
          exact ⟨p.2.1.touch ht fun k hk e => p.2.2 k hk e, fun k hk e => p.2.2 k hk (Option.some.inj e).symm⟩
end Go.Proofs.YthpnnmkpbkbanaaDoor
