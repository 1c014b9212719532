/-
  Texts merged: TsoOut, TsoRes.
-/
import Derived.Test.YthpnnmkpbkbanaaDoorSortRes
import Derived.Test.YthpnnmkpbkbanaaDoorResults
import Derived.Test.YthpnnmkpbkbanaaDoorTsoFt
import Derived.Test.YthpnnmkpbkbanaaDoorTsoQ
import Derived.Test.YthpnnmkpbkbanaaDoorTold
import Derived.Deep.AppendLies
/-
  A slice of lists of numbers that grows in a slot: what is collected, and how it is sorted.
-/
namespace Go.Proofs.YthpnnmkpbkbanaaDoor
open Go.RowKit Go.Maps Go.Shelf Go.Lib Go.Sort

/-- The slice value v has the values xs, and they the lists ts; all lies beyond block pb. -/
structure OutV (W : World) (pb : Nat) (ts : List (List Int)) (v : Value) (xs : List Value) : Prop where
  own : W.ownsRow (pb + 1) 47 1 v xs.length xs
  rows : RowsOf W pb ts xs v
def OutO (v : Value) (xs : List Value) (k : Nat) : Prop := v.ownBlock = some k ∨ ∃ x ∈ xs, x.ownBlock = some k
theorem OutV.nil (W : World) (pb : Nat) : OutV W pb [] (.slice none 0 0) [] := ⟨World.ownsRow_nil _ _ _ 1, rfl, fun i x t hx => by simp at hx⟩
section
variable {W W' : World} {pb : Nat} {ts : List (List Int)} {v : Value} {xs : List Value}
theorem OutV.tell (h : OutV W pb ts v xs) {x : Value} (hx : x ∈ xs) : ∃ t, Tell W pb x t ∧ ∀ k, x.ownBlock = some k → v.ownBlock ≠ some k := by
  obtain ⟨i, hi, rfl⟩ := List.getElem_of_mem hx
  exact ⟨_, h.rows.2 i _ (ts[i]'(by rw [← h.rows.1]; exact hi)) (List.getElem?_eq_getElem hi) (List.getElem?_eq_getElem (by rw [← h.rows.1]; exact hi))⟩
theorem OutV.lt (h : OutV W pb ts v xs) {k : Nat} (hk : OutO v xs k) : pb < k ∧ k < W.heap.size := by
  rcases hk with hk | ⟨x, hx, hk⟩
  · have := h.own.lt k hk
    exact ⟨by omega, this.2⟩
  · obtain ⟨t, ⟨_, _, k', hk', h1, h2, _⟩, _⟩ := h.tell hx
    rw [hk] at hk'
    obtain rfl := Option.some.inj hk'
    exact ⟨h1, h2⟩
theorem OutV.touch {O : Nat → Prop} (h : OutV W pb ts v xs) (ht : Touch O W W') (hn : ∀ k, OutO v xs k → ¬ O k) : OutV W' pb ts v xs := by
  refine ⟨ownsRow_touch h.own ht fun k hk => hn k (Or.inl hk), h.rows.1, fun i x t hx hts => ?_⟩
  obtain ⟨h8, h9⟩ := h.rows.2 i x t hx hts
  exact ⟨h8.touch ht fun k hk => hn k (Or.inr ⟨x, List.mem_of_getElem? hx, hk⟩), h9⟩
theorem OutV.more (h : OutV W pb ts v xs) {x : Value} {t : List Int} {wT w2 : World} {o : Obj} {g cap : Nat} (hpb : pb < W.heap.size) (hb : Below W.heap.size W wT) (hx : Nums wT wT.heap.size x t) (ht0 : 0 < t.length) (hf : ∀ k, x.ownBlock = some k → W.heap.size ≤ k) (hcap : Capd x)
    (hown : w2.ownsRow (pb + 1) 47 1 (.slice (some ⟨g, 0, none⟩) (xs.length + 1) cap) (xs.length + 1) (xs ++ [x])) (hg : (wT.alloc o).grownBy w2 v.ownBlock) (hat : v.ownBlock = some g ∨ g = wT.heap.size + 1) :
    OutV w2 pb (ts ++ [t]) (.slice (some ⟨g, 0, none⟩) (xs.length + 1) cap) (xs ++ [x]) ∧ Touch (fun k => v.ownBlock = some k) W w2 ∧ ∀ k, OutO (.slice (some ⟨g, 0, none⟩) (xs.length + 1) cap) (xs ++ [x]) k → OutO v xs k ∨ W.heap.size ≤ k := by
  have hsT := hb.size
  have hs2 := hg.size
  simp only [World.size_alloc] at hs2
  have hT1 : Touch (fun _ => False) W wT := Touch.of_below hb fun i a b => by omega
  have hT : Touch (fun k => v.ownBlock = some k) W w2 := ((hT1.mono fun _ h => h.elim).alloc o).grown hg fun k hk => Or.inl hk
  have hTT : Touch (fun k => v.ownBlock = some k) wT w2 := ((Touch.refl _ wT).alloc o).grown hg fun k hk => Or.inl hk
  obtain ⟨A, c, rfl, hlx, hcc⟩ := id hx
  obtain ⟨b, o', rfl, hbT, hcell⟩ := hcc ht0
  have hbW : W.heap.size ≤ b := hf b rfl
  have hgb : ∀ k, OutO v xs k → (∃ y ∈ xs, y.ownBlock = some k) → g ≠ k := fun k hk ⟨y, hy, hyk⟩ e => by
    obtain ⟨_, _, h9⟩ := h.tell hy
    rcases hat with h1 | h1
    · exact h9 k hyk (e ▸ h1)
    · have := (h.lt hk).2
      omega
  refine ⟨⟨by simpa using hown, by simp [h.rows.1], fun i y s hy hs => ?_⟩, hT, fun k hk => ?_⟩
  · rcases Nat.lt_or_ge i xs.length with hi | hi
    · rw [List.getElem?_append_left hi] at hy
      rw [List.getElem?_append_left (by rw [← h.rows.1]; exact hi)] at hs
      obtain ⟨h8, h9⟩ := h.rows.2 i y s hy hs
      have hm := List.mem_of_getElem? hy
      exact ⟨h8.touch hT fun k hk e => h9 k hk e, fun k hk e => hgb k (Or.inr ⟨y, hm, hk⟩) ⟨y, hm, hk⟩ (Option.some.inj e)⟩
    · rw [List.getElem?_append_right hi] at hy
      rw [List.getElem?_append_right (by rw [← h.rows.1]; exact hi)] at hs
      have hi0 : i - xs.length = 0 := by
        rcases Nat.eq_zero_or_pos (i - xs.length) with h1 | h1
        · exact h1
        · rw [List.getElem?_eq_none (by simp; omega)] at hy; cases hy
      rw [hi0] at hy
      rw [← h.rows.1, hi0] at hs
      have hy : (.slice (some ⟨b, o', none⟩) t.length c : Value) = y := by simpa using hy
      have hs : t = s := by simpa using hs
      subst hy
      subst hs
      have hbv : v.ownBlock ≠ some b := fun e => by have := (h.own.lt b e).2; omega
      refine ⟨⟨⟨_, c, rfl, hlx, fun _ => ⟨b, o', rfl, by omega, fun i z hz => (hTT.cell (p := ⟨b, o' + i, none⟩) hbT hbv).trans (hcell i z hz)⟩⟩, ht0, b, rfl, by omega, by omega, hcap⟩, fun k hk e => ?_⟩
      · obtain rfl : b = k := Option.some.inj hk
        obtain rfl : g = b := Option.some.inj e
        rcases hat with h1 | h1
        · exact hbv h1
        · omega
  · rcases hk with hk | ⟨y, hy, hk⟩
    · obtain rfl : g = k := Option.some.inj hk
      rcases hat with h1 | h1
      · exact Or.inl (Or.inl h1)
      · exact Or.inr (by omega)
    · rcases List.mem_append.1 hy with h1 | h1
      · exact Or.inl (Or.inr ⟨y, h1, hk⟩)
      · rw [List.mem_singleton.1 h1] at hk
        exact Or.inr (hf k hk)
theorem OutV.lsts (h : OutV W pb ts v xs) (hl : ts.length ≤ 9223372036854775807) : Lsts W W.heap.size v ts := by
  obtain ⟨h6, h7⟩ := h
  rcases h6.2 with ⟨rfl, hn⟩ | ⟨g, cap, cur, rfl, hg, hgh, hnc, hcm, hsz, htk⟩
  · have ht : ts = [] := List.eq_nil_of_length_eq_zero (by rw [← h7.1, hn])
    subst ht
    exact Lsts.nil _ _
  · rw [h7.1]
    refine ⟨_, cap, rfl, hl, fun _ => ⟨g, 0, rfl, (Array.getElem?_eq_some_iff.1 hgh).1, fun i l hi => ?_⟩⟩
    have hi' : i < xs.length := by rw [h7.1]; exact (List.getElem?_eq_some_iff.1 hi).1
    have hB : Block W g 47 cur := hgh
    refine ⟨xs[i], ?_, (h7.2 i _ l (List.getElem?_eq_getElem hi') hi).1.1, (h7.2 i _ l (List.getElem?_eq_getElem hi') hi).1.cap⟩
    rw [hB.cell, Nat.zero_add, ← Array.getElem?_toList, ← List.getElem?_eq_getElem hi', ← htk, List.getElem?_take, if_pos (by omega)]
end

set_option maxHeartbeats 1000000 in
theorem sortV_any {W : World} {pb : Nat} {ts : List (List Int)} {v : Value} {xs : List Value} (h : OutV W pb ts v xs) (hlen : xs.length ≤ 1073741824000) :
    Calls Tryd.prog 27 #[v, .func (.func 28) #[] #[]] W fun e W' => e = .returned (.tuple #[]) ∧ Touch (fun k => v.ownBlock = some k) W W' ∧ ∃ xs' ts', (∀ x ∈ xs', x ∈ xs) ∧ ts'.Perm ts ∧ ts'.Pairwise (fun a b => ¬ cmpL b a < 0) ∧ OutV W' pb ts' v xs' := by
  have h0 := h
  obtain ⟨h6, h7⟩ := h
  rcases h6.2 with ⟨rfl, hn⟩ | ⟨g, cap, cur, rfl, hg, hgh, hnc, hcm, hsz, htk⟩
  · have hx : xs = [] := List.eq_nil_of_length_eq_zero hn
    have ht : ts = [] := List.eq_nil_of_length_eq_zero (by rw [← h7.1, hn])
    subst hx
    subst ht
    refine (AnyF.slices_SortFunc_none ({ sortL with }) none 0 _ W).mono ?_
    rintro e W' ⟨rfl, rfl⟩
    exact ⟨rfl, Touch.refl _ _, [], [], fun _ h => h, List.Perm.refl _, List.Pairwise.nil, h0⟩
  · obtain ⟨is, hi1, hi2⟩ := items_of _ h7
    cases is with
    | nil =>
      have hx : xs = [] := hi1.symm
      have ht : ts = [] := hi2.symm
      subst hx
      subst ht
      refine (AnyF.slices_SortFunc_none ({ sortL with }) _ cap _ W).mono ?_
      rintro e W' ⟨rfl, rfl⟩
      exact ⟨rfl, Touch.refl _ _, [], [], fun _ h => h, List.Perm.refl _, List.Pairwise.nil, h0⟩
    | cons i0 is =>
      haveI : Inhabited (Item W pb g) := ⟨i0⟩
      obtain ⟨d, hd⟩ : ∃ d : Array (Item W pb g), d = (i0 :: is).toArray := ⟨_, rfl⟩
      have hdl : d.toList = i0 :: is := by rw [hd]
      have hds : d.size = xs.length := by rw [hd, ← hi1]; simp
      have hgl : g < W.heap.size := (Array.getElem?_eq_some_iff.1 hgh).1
      have hone : OneCell (fun p : Item W pb g => p.1.1) := fun p => p.2.1.one
      have hcmp : CmpReads Tryd.prog 28 #[] (fun p : Item W pb g => p.1.1) (fun x y => cmpL x.1.2 y.1.2) g 0 d.size W := by
        intro m os dk _ x y
        have ht := touch_sortWorld (fun p : Item W pb g => p.1.1) W g 0 m dk os
        refine (compare_any x.1.1 y.1.1 x.1.2 y.1.2 _ _ (x.2.1.touch ht fun k hk e => x.2.2 k hk e).1 (y.2.1.touch ht fun k hk e => y.2.2 k hk e).1).mono ?_
        rintro e W' ⟨rfl, rfl⟩
        exact ⟨rfl, 0, rfl⟩
      have hH : Holds (fun p : Item W pb g => p.1.1) W g 0 d := by
        intro j hj
        have hB : Block W g 47 cur := hgh
        refine ⟨?_, hB.free _⟩
        rw [hB.cell, Nat.zero_add]
        have e1 : cur.toList[j]? = xs[j]? := by rw [← htk, List.getElem?_take, if_pos (by omega)]
        rw [← Array.getElem?_toList, e1, ← hi1, List.getElem?_map, ← hdl, Array.getElem?_toList]
        simp [hj]
      have hL := Any.slices_SortFunc sortL (fun p : Item W pb g => p.1.1) hone (fun x y => cmpL x.1.2 y.1.2) (swo_cmp _) 28 #[] g 0 cap d W (enters_of Tryd.func28 (by kernel_rfl) rfl) hcmp.lays hH hgl (by omega)
      rw [hds] at hL
      refine Calls.mono hL ?_
      rintro e W' ⟨rfl, d', m, os, hp, hso, rfl⟩
      rw [← hds] at hp hso
      obtain ⟨hps, hpp⟩ := perm_of_whole hp
      have ht := touch_sortWorld (fun p : Item W pb g => p.1.1) W g 0 m d' os
      have hgs := ht.size
      have hlx : (d'.toList.map fun p => p.1.1).length = xs.length := by rw [List.length_map, Array.length_toList, hps, hds]
      refine ⟨rfl, ht.mono fun k hk => by rw [hk]; rfl, d'.toList.map fun p => p.1.1, d'.toList.map fun p => p.1.2, ?_, ?_, ?_, ⟨by rw [hlx, Nat.mul_one], Or.inr ⟨g, cap, _, by rw [hlx], hg, block_sortWorld _ _ _ _ _ _ _ hgh, by rw [hlx]; exact hnc, hcm, by simp [putCells, hsz], ?_⟩⟩, ?_, ?_⟩
      · intro x hx
        rw [← hi1, ← hdl]
        exact (hpp.map _).mem_iff.1 hx
      · rw [← hi2, ← hdl]
        exact hpp.map _
      · rw [List.pairwise_map, List.pairwise_iff_getElem]
        intro i j hi hj hij
        have hi' : i < d'.size := by simpa using hi
        have hj' : j < d'.size := by simpa using hj
        have := hso i j (Nat.zero_le _) hij (by rw [← hps]; exact hj')
        rw [getElem!_pos d' j hj', getElem!_pos d' i hi'] at this
        simpa [ltOf] using this
      · rw [hlx, Nat.mul_one, ← hds, ← hps]
        exact putCells_take _ _ _ (by omega)
      · simp
      · intro i x t hx hts
        rw [List.getElem?_map] at hx hts
        cases e : d'.toList[i]? with
        | none => rw [e] at hx; cases hx
        | some p =>
          rw [e] at hx hts
          obtain rfl := Option.some.inj hx
          obtain rfl := Option.some.inj hts
          exact ⟨p.2.1.touch ht fun k hk e => p.2.2 k hk e, fun k hk e => p.2.2 k hk (Option.some.inj e).symm⟩
end Go.Proofs.YthpnnmkpbkbanaaDoor

/-
  What tso.Results answers.
-/
namespace Go.Proofs.YthpnnmkpbkbanaaDoor
open Go.RowKit

theorem e49_start : e49 ts0 = zero49 := by decide +kernel

/-- Where the search stands: the program, the queue, the state that was taken, what is told. -/
structure TAt (w : World) (words : Int) (hv : Value) (W : World) (g m lb sb : Nat) (z : List Int) (known left : List TS) (ts : List (List Int)) (v : Value) (xs : List Value) : Prop where
  prog : Block W w.heap.size 24 #[.int .i64 words, hv]
  below : Below w.heap.size w W
  q : QT W g m lb (known.map e49) (left.map e49)
  s : Block W sb 80 (row z)
  len : z.length = 49
  out : OutV W w.heap.size ts v xs
  apart : ∀ k, OutO v xs k → k ≠ g ∧ k ≠ m ∧ k ≠ lb ∧ k ≠ sb
  lows : w.heap.size < g ∧ w.heap.size < m ∧ w.heap.size < lb ∧ w.heap.size < sb
  tops : g < W.heap.size ∧ m < W.heap.size ∧ lb < W.heap.size
  sne : sb ≠ g ∧ sb ≠ m ∧ sb ≠ lb
section
variable {w W W' : World} {words : Int} {hv : Value} {g m lb sb : Nat} {z : List Int} {known left : List TS} {ts : List (List Int)} {v : Value} {xs : List Value}
theorem TAt.touchB {O : Nat → Prop} (h : TAt w words hv W g m lb sb z known left ts v xs) (ht : Touch O W W') (hO : ∀ k, O k → w.heap.size < k) : Block W' w.heap.size 24 #[.int .i64 words, hv] ∧ Below w.heap.size w W' :=
  ⟨h.prog.touch ht fun h' => Nat.lt_irrefl _ (hO _ h'), h.below.trans (ht.below h.below.size fun i hi => Nat.le_of_lt (hO i hi))⟩
theorem TAt.on (h : TAt w words hv W g m lb sb z known left ts v xs) (hb : Below W.heap.size W W') : TAt w words hv W' g m lb sb z known left ts v xs := by
  have ht : Touch (fun _ => False) W W' := Touch.of_below hb fun i a b => by omega
  have hs := hb.size
  obtain ⟨h1, h2⟩ := h.touchB ht fun _ h => h.elim
  exact ⟨h1, h2, h.q.touch ht (fun h => h) (fun h => h) (fun h => h), h.s.touch ht fun h => h, h.len, h.out.touch ht fun _ _ h => h, h.apart, h.lows, by have := h.tops; omega, h.sne⟩
theorem TAt.put {lb' : Nat} {known' left' : List TS} (h : TAt w words hv W g m lb sb z known left ts v xs) (ht : Touch (fun k => k = g ∨ k = m ∨ k = lb) W W') (hq : QT W' g m lb' (known'.map e49) (left'.map e49)) (hl : lb' = lb ∨ W.heap.size ≤ lb') : TAt w words hv W' g m lb' sb z known' left' ts v xs := by
  have hs := ht.size
  obtain ⟨l1, l2, l3, l4⟩ := h.lows
  obtain ⟨t1, t2, t3⟩ := h.tops
  obtain ⟨n1, n2, n3⟩ := h.sne
  have hsb := h.s.lt
  have hlt : lb' < W'.heap.size := by
    obtain ⟨vv, _, _, e⟩ := hq.blk
    rcases e with ⟨_, e⟩ | ⟨_, _, e⟩ <;> omega
  obtain ⟨h1, h2⟩ := h.touchB ht fun k hk => by rcases hk with rfl | rfl | rfl <;> assumption
  refine ⟨h1, h2, hq, h.s.touch ht fun hk => by rcases hk with e | e | e <;> omega, h.len, h.out.touch ht fun k hk e => by have := h.apart k hk; omega, fun k hk => ?_, by omega, by omega, by omega⟩
  have a1 := h.apart k hk
  have a2 := (h.out.lt hk).2
  omega
theorem TAt.take {left' : List TS} (h : TAt w words hv W g m lb sb z known left ts v xs) (ht : Touch (fun k => k = g) W W') (hq : QT W' g m lb (known.map e49) (left'.map e49)) : TAt w words hv W' g m lb sb z known left' ts v xs := by
  have hs := ht.size
  obtain ⟨l1, l2, l3, l4⟩ := h.lows
  obtain ⟨t1, t2, t3⟩ := h.tops
  obtain ⟨h1, h2⟩ := h.touchB ht fun k hk => by rw [hk]; exact l1
  exact ⟨h1, h2, hq, h.s.touch ht h.sne.1, h.len, h.out.touch ht fun k hk e => (h.apart k hk).1 e, h.apart, h.lows, by omega, h.sne⟩
theorem TAt.store {z' : List Int} (h : TAt w words hv W g m lb sb z known left ts v xs) (hz : z'.length = 49) : TAt w words hv (W.setRow sb (row z')) g m lb sb z' known left ts v xs := by
  have ht : Touch (fun k => k = sb) W (W.setRow sb (row z')) := (Touch.refl (fun k => k = sb) W).setRow (Or.inl rfl) _
  obtain ⟨n1, n2, n3⟩ := h.sne
  obtain ⟨h1, h2⟩ := h.touchB ht fun k hk => by rw [hk]; exact h.lows.2.2.2
  exact ⟨h1, h2, h.q.touch ht (fun e => n1 e.symm) (fun e => n2 e.symm) (fun e => n3 e.symm), setRow_heap _ _ _ _ _ _ h.s, hz, h.out.touch ht fun k hk e => (h.apart k hk).2.2.2 e, h.apart, h.lows, by have := h.tops; have := ht.size; omega, h.sne⟩
theorem TAt.next {cs : Array Value} (h : TAt w words hv W g m lb sb z known left ts v xs) : TAt w words hv ((W.alloc (.cells cs 80)).setRow W.heap.size (row z)) g m lb W.heap.size z known left ts v xs := by
  have ht : Touch (fun _ => False) W ((W.alloc (.cells cs 80)).setRow W.heap.size (row z)) := ((Touch.refl _ W).alloc _).setRow (Or.inr (Nat.le_refl _)) _
  have hs := ht.size
  obtain ⟨t1, t2, t3⟩ := h.tops
  obtain ⟨h1, h2⟩ := h.touchB ht fun _ h => h.elim
  refine ⟨h1, h2, h.q.touch ht (fun h => h) (fun h => h) (fun h => h), setRow_heap _ _ _ _ _ _ (Block.made W _ _), h.len, h.out.touch ht fun _ _ h => h, fun k hk => ?_, ?_, by omega, by omega⟩
  · have := h.apart k hk
    have := (h.out.lt hk).2
    omega
  · have := h.lows
    have := h.below.size
    have := h.prog.lt
    omega
theorem TAt.more (h : TAt w words hv W g m lb sb z known left ts v xs) {ts' : List (List Int)} {v' : Value} {xs' : List Value} (ho : OutV W' w.heap.size ts' v' xs') (ht : Touch (fun k => v.ownBlock = some k) W W') (hO : ∀ k, OutO v' xs' k → OutO v xs k ∨ W.heap.size ≤ k) : TAt w words hv W' g m lb sb z known left ts' v' xs' := by
  have hs := ht.size
  have hsb := h.s.lt
  obtain ⟨t1, t2, t3⟩ := h.tops
  have ha : ∀ k, v.ownBlock = some k → k ≠ g ∧ k ≠ m ∧ k ≠ lb ∧ k ≠ sb := fun k hk => h.apart k (Or.inl hk)
  obtain ⟨h1, h2⟩ := h.touchB ht fun k hk => (h.out.lt (Or.inl hk)).1
  refine ⟨h1, h2, h.q.touch ht (fun e => (ha _ e).1 rfl) (fun e => (ha _ e).2.1 rfl) (fun e => (ha _ e).2.2.1 rfl), h.s.touch ht fun e => (ha _ e).2.2.2 rfl, h.len, ho, fun k hk => ?_, h.lows, by omega, h.sne⟩
  rcases hO k hk with h3 | h3
  · exact h.apart k h3
  · omega
end
/-- What was taken, and what is told so far. -/
def TGo (words : Int) (hs : List (List Ln)) (b : Bool) (z : List Int) (known left : List TS) (ts : List (List Int)) (n : Nat) : Prop :=
  (b = true ∧ ∃ s pre, z = e49 s ∧ n = pre.length + 1 ∧ ts = toldsT words hs pre ∧ TKnow hs known (pre ++ [s]) left (some s) 0) ∨ (b = false ∧ left = [] ∧ ∃ pre, n = pre.length + 1 ∧ ts = toldsT words hs pre ∧ TKnow hs known pre [] none 0)

set_option maxRecDepth 100000 in
set_option maxHeartbeats 4000000 in
theorem tresults_bad (words : Int) (hv : Value) (hs : List (List Ln)) (w : World) (hh : Hands w w.heap.size hv hs) (hc : check words hs ≠ 0) :
    Calls Tryd.prog 12 #[.agg #[.int .i64 words, hv]] w fun e w' => e = .returned (.tuple #[.slice none 0 0, .iface 67 (.int .i64 (check words hs))]) ∧ Below w.heap.size w w' := by
  have HH := Lib.hid hh
  obtain ⟨A, c, rfl, hlen, _⟩ := hh
  have HC := Lib.hid hc
  have HB0 := Lib.hid ((Below.refl w.heap.size w).alloc (Nat.le_refl _) (.cells #[.int .i64 words, .slice A hs.length c] 24))
  clear hc
  go_enter Tryd.func12, Tryd.ntmps12
  go_wp2_with (go_at_call 23; refine (check_any words _ hs _ ((HH.out.below HB0.out (Nat.le_refl _)).more HB0.out.size)).mono ?_; rw [show errV 67 (check words hs) = Value.iface 67 (.int .i64 (check words hs)) from if_neg HC.out]; rintro e w1 ⟨rfl, hb1⟩; have HB1 := Lib.hid hb1; clear hb1)
  go_ret2
  exact ⟨rfl, HB0.out.trans (HB1.out.mono HB0.out.size)⟩

set_option maxRecDepth 100000 in
set_option maxHeartbeats 8000000 in
theorem tresults_good (words : Int) (hv : Value) (hs : List (List Ln)) (w : World) (hh : Hands w w.heap.size hv hs) (hc : check words hs = 0) :
    Calls Tryd.prog 12 #[.agg #[.int .i64 words, hv]] w fun e w' => ∃ v ts, e = .returned (.tuple #[v, .nilIface]) ∧ Lsts w' w'.heap.size v ts ∧ TsoOf words hs ts ∧ Below w.heap.size w w' := by
  have HH := Lib.hid hh
  obtain ⟨A, c, rfl, hlen, _⟩ := hh
  have HC := Lib.hid hc
  have HW := Lib.hid (check_well hc)
  have HB0 := Lib.hid ((Below.refl w.heap.size w).alloc (Nat.le_refl _) (.cells #[.int .i64 words, .slice A hs.length c] 24))
  have HK0 := Lib.hid (Block.made w 24 #[.int .i64 words, .slice A hs.length c])
  clear hc
  go_enter Tryd.func12, Tryd.ntmps12
  go_wp2_with (go_at_call 23; refine (check_any words _ hs _ ((HH.out.below HB0.out (Nat.le_refl _)).more HB0.out.size)).mono ?_; rw [HC.out, show errV 67 0 = Value.nilIface from rfl]; rintro e w1 ⟨rfl, hb1⟩; have HB1 := Lib.hid hb1; clear hb1)
  obtain ⟨V, hV⟩ : ∃ V, V = w1.alloc (.cells (row zero49) 80) := ⟨_, rfl⟩
  have hBV : Block V w1.heap.size 80 (row (e49 ts0)) := by rw [hV, e49_start]; exact Block.made w1 _ _
  have HV := Lib.hid hV
  have HBV := Lib.hid hBV
  rw [zero49_row] at hV
  rw [← hV]
  clear hV hBV
  have hok := (TReach.start (hs := hs)).ok HW.out
  refine (newT_any w1.heap.size (e49 ts0) V HBV.out (e49_length fun p _ => hok.q5 HW.out p) (e49_wf HW.out hok)).mono ?_
  rintro e w2 ⟨g, m, lb, rfl, ht2, hq2, l1, l2, l3⟩
  have hsV : V.heap.size = w1.heap.size + 1 := by rw [HV.out]; simp
  have hb1s := HB1.out.size
  simp only [World.size_alloc] at hb1s
  have ht1 : Touch (fun _ => False) w w2 := by
    have h1 : Touch (fun _ => False) w w1 := ((Touch.refl _ w).alloc _).calls HB1.out (by simp)
    have h2 : Touch (fun _ => False) w V := by rw [HV.out]; exact h1.alloc _
    exact h2.trans ht2 fun _ h => h.elim
  have hk2 : Block w2 w.heap.size 24 #[.int .i64 words, .slice A hs.length c] := by
    have h1 := HK0.out.below HB1.out (by simp)
    have h2 : Block V w.heap.size 24 #[.int .i64 words, .slice A hs.length c] := by rw [HV.out]; exact h1.alloc _
    exact h2.touch ht2 fun h => h
  have HT1 := Lib.hid ht1
  have HK2 := Lib.hid hk2
  have HQ2 := Lib.hid hq2
  have HSZ := Lib.hid (show (row (e49 ts0)).size = 49 by rw [row_size]; exact e49_length fun p _ => hok.q5 HW.out p)
  have HL := Lib.hid (show w.heap.size < g ∧ w.heap.size < m ∧ w.heap.size < lb by omega)
  have HLT := Lib.hid (show g < w2.heap.size ∧ m < w2.heap.size ∧ lb < w2.heap.size by
    have h1 : g < w2.heap.size := by obtain ⟨vv, hb, _⟩ := hq2.blk; exact hb.lt
    refine ⟨h1, ?_, ?_⟩
    · exact hq2.set.lt
    · obtain ⟨vv, _, _, e⟩ := hq2.blk
      rcases e with ⟨_, e⟩ | ⟨_, _, e⟩ <;> omega)
  clear ht1 hk2 hq2 hok ht2 hsV hb1s l1 l2 l3
  go_wp2_with (first | (go_at_call 33; (with_reducible refine (takeT_some g m lb [e49 ts0] [] (e49 ts0) w2 HQ2.out).mono ?_); rintro e w3 ⟨rfl, ht3, hq3⟩; have HT3 := Lib.hid ht3; have HQ3 := Lib.hid hq3; have HA := Lib.hid (Block.made w3 80 (row zero49)); rw [zero49_row] at HA; clear ht3 hq3) | (refine wpList_store_row rfl 80 (.tmp 7) (.tmp 21) rfl w3.heap.size (row (e49 ts0)) rfl rfl _ _ HA.out (by rw [HSZ.out]; exact T64.info) (by rw [HSZ.out]; rfl) (row_one _) ?_))
  have HT0 := Lib.hid (show TAt w words (.slice A hs.length c) ((w3.alloc (.cells (row zero49) 80)).setRow w3.heap.size (row (e49 ts0))) g m lb w3.heap.size (e49 ts0) [ts0] [] [] (.slice none 0 0) [] from by
    have hs3 := HT3.out.size
    obtain ⟨k1, k2, k3⟩ := HL.out
    obtain ⟨j1, j2, j3⟩ := HLT.out
    have h3 : Touch (fun k => k = g) w w3 := (HT1.out.mono fun _ h => h.elim).trans HT3.out fun _ h => Or.inl h
    have ht : Touch (fun _ => False) w3 ((w3.alloc (.cells (row zero49) 80)).setRow w3.heap.size (row (e49 ts0))) := ((Touch.refl _ w3).alloc _).setRow (Or.inr (Nat.le_refl _)) _
    have hs4 := ht.size
    have hb3 : Below w.heap.size w w3 := h3.below (Nat.le_refl _) fun i hi => by rw [hi]; omega
    have hws := HT1.out.size
    exact ⟨(HK2.out.touch HT3.out (by omega)).touch ht fun h => h, hb3.trans (ht.below hb3.size fun _ h => h.elim), HQ3.out.touch ht (fun h => h) (fun h => h) (fun h => h), setRow_heap _ _ _ _ _ _ (Block.made w3 _ _), by have := HSZ.out; rwa [row_size] at this, OutV.nil _ _, fun k hk => (by rcases hk with hk | ⟨x, hx, _⟩ <;> first | cases hk | cases hx), ⟨k1, k2, k3, by omega⟩, ⟨by omega, by omega, by omega⟩, by omega, by omega, by omega⟩)
  rw [zero49_row] at HT0
  clear HA HV HBV HSZ HB0 HB1 HK0 HT1 HT3 HK2 HQ2 HQ3 HL HLT
  go_loopg [5, 7, 8] 20644068913 (fun gk v sp ok wr => ∃ (b : Bool) (lb sb : Nat) (z : List Int) (known left : List TS) (ts : List (List Int)) (xs : List Value) (n : Nat), sp = .pointer (some ⟨sb, 0, none⟩) ∧ ok = .bool b ∧ gk + n = 20644068914 ∧ TAt w words (.slice A hs.length c) wr g m lb sb z known left ts v xs ∧ TGo words hs b z known left ts n)
  case atStart => exact ⟨true, lb, _, e49 ts0, [ts0], [], [], [], 1, rfl, rfl, rfl, HT0.out, Or.inl ⟨rfl, ts0, [], rfl, rfl, rfl, (TKnow.start hs).take⟩⟩
  case round =>
    clear HT0
    obtain ⟨b, lb, sb, z, known, left, ts, xs, n, rfl, rfl, hgk, hta, hgo⟩ := hrel
    have HTA := Lib.hid hta
    have HGK := Lib.hid hgk
    have c0 := hta.prog.cell 0
    have c1 := hta.prog.cell 1
    simp at c0 c1
    clear hta hgk
    rcases hgo with ⟨rfl, s, pre, rfl, hn, rfl, hk⟩ | ⟨rfl, rfl, pre, hn, rfl, hk⟩
    · have HN := Lib.hid hn
      have HK := Lib.hid hk
      have hr : TReach hs s := hk.rch s (by rw [hk.eq]; simp)
      have HR := Lib.hid hr
      have HOK := Lib.hid (hr.ok HW.out)
      have HS := Lib.hid HTA.out.s
      have HSZ := Lib.hid (show (row (e49 s)).size = 49 by rw [row_size]; exact HTA.out.len)
      have HFEW := Lib.hid (show pre.length + 1 ≤ 20644068912 by have := hk.few2 HW.out; simp at this; omega)
      have HHr := Lib.hid (show Hands wr wr.heap.size (.slice A hs.length c) hs from (HH.out.below HTA.out.below (Nat.le_refl _)).more HTA.out.below.size)
      clear hn hk hr
      by_cases he : tEndB hs s = true
      · have HE := Lib.hid he
        clear he
        have HKE := Lib.hid (HK.out.ended ((tEndB_iff HW.out HOK.out).1 HE.out))
        obtain ⟨i1, hi1, hy0, hy1, hy2⟩ := info_parts Tls.info
        have HXL := Lib.hid (show xs.length + 1 ≤ 20644068913 by have h1 := HTA.out.out.rows.1; have h2 := toldsT_length (words := words) (hs := hs) (pre := pre); have := HFEW.out; omega)
        rcases left with _ | ⟨s2, left2⟩
        · go_wp2_with (first | (refine wpList_load_row rfl 80 (.tmp 7) rfl sb rfl _ (row (e49 s)) _ _ HS.out Tryd.underlying80 rfl (by rw [HSZ.out]; exact T64.info) ?_) | (go_at_call 34; (with_reducible refine (tended_ts words _ hs s wr HHr.out HW.out HOK.out).mono ?_); rw [HE.out]; rintro e w5 ⟨rfl, hb5⟩; have HB5 := Lib.hid hb5; have HTA5 := Lib.hid (HTA.out.on hb5); have HS5 := Lib.hid HTA5.out.s; have d0 := HTA5.out.prog.cell 0; have d1 := HTA5.out.prog.cell 1; simp at d0 d1; clear hb5) | (refine wpList_load_mid rfl 63 (.tmp 33) rfl sb 0 rfl ((e16 s).map (Value.int .i64)) _ (Block.range16 HS5.out) Tryd.underlying63 rfl (by rw [List.length_map, e16_length]; exact Tst.info) ?_) | (go_at_call 26; refine (told_fresh (e16 s) words _ hs w5 ((HH.out.below HTA5.out.below (Nat.le_refl _)).more HTA5.out.below.size) HW.out.few HW.out.lo HW.out.hi (e16_length s)).mono ?_; rintro e w6 ⟨y, rfl, hny, hb6, hfy, hcy⟩; have HNY := Lib.hid hny; have HB6 := Lib.hid hb6; have HFY := Lib.hid hfy; have HCY := Lib.hid hcy; have HTA6 := Lib.hid (HTA5.out.on hb6); obtain ⟨Ay, cy, rfl, _, _⟩ := hny; clear hb6 hfy hcy) | (at_builtin; refine wpList_append_lies _ rfl (.tmp 32) (.tmp 37) 26 rfl (w.heap.size + 1) 47 i1 (.slice none 0 0) 1 24 Tryd.underlying26 hi1 hy0 hy1 hy2 rfl (by omega) u5 xs.length xs rfl (HTA6.out.out.own.alloc _) ⟨w6.heap.size, 0, none⟩ 1 1 _ rfl rfl (one_cell (by simp; rfl)) (by intro u hu; simp at hu; subst hu; rfl) (by omega) (by have := HXL.out; unfold maxLen; omega) (by have := HXL.out; omega) (by have := HTA6.out.prog.lt; simp; omega) (w6.heap.size + 1) (by simp) ?_; intro g2 cap2 w7 hown hgrow hat _; have HO7 := Lib.hid (HTA5.out.out.more HTA5.out.prog.lt HB6.out HNY.out (by rw [toldOf_length]; have := HW.out.lo; omega) HFY.out HCY.out hown hgrow hat); have HT7 := Lib.hid (HTA5.out.more HO7.out.1 HO7.out.2.1 HO7.out.2.2); have HS7 := Lib.hid HT7.out.s; have HA7 := Lib.hid (Block.made w7 80 (row zero49)); have HY := Lib.hid (HT7.out.next (cs := row zero49)); have HYQ := Lib.hid (show QT _ g m _ (known.map e49) [] from HY.out.q); rw [zero49_row] at HA7 HY HYQ; have HSZ2 := Lib.hid (show (row zero49).size = 49 by rw [row_size]; rfl); clear hown hgrow hat) | (refine wpList_load_row rfl 80 (.tmp 7) rfl sb rfl _ (row (e49 s)) _ _ HS7.out Tryd.underlying80 rfl (by rw [HSZ.out]; exact T64.info) ?_) | (refine wpList_store_row rfl 80 (.tmp 7) (.tmp 57) rfl w7.heap.size (row (e49 s)) rfl rfl _ _ HA7.out (by rw [HSZ.out]; exact T64.info) (by rw [HSZ.out]; rfl) (row_one _) ?_) | (go_at_call 33; (with_reducible refine (takeT_none g m _ (known.map e49) _ HYQ.out).mono ?_); rintro e w9 ⟨rfl, ht9⟩; have HT9 := Lib.hid (HY.out.take (left' := []) (ht9.mono fun _ h => h.elim) (HYQ.out.touch ht9 (fun h => h) (fun h => h) (fun h => h))); have HS9 := Lib.hid HT9.out.s; clear ht9) | (refine wpList_store_row rfl 80 (.tmp 7) (.tmp 27) rfl w7.heap.size (row zero49) rfl rfl _ _ HS9.out (by rw [HSZ2.out]; exact T64.info) (by rw [HSZ2.out, HSZ.out]) (row_one _) ?_))
          go_roundg (gk - 1)
          case measure => have := HFEW.out; have := HGK.out; have := HN.out; omega
          case rel => exact ⟨false, _, _, zero49, known, [], _, _, n + 1, rfl, rfl, by have := HFEW.out; have := HGK.out; have := HN.out; omega, HT9.out.store rfl, Or.inr ⟨rfl, rfl, pre ++ [s], by rw [HN.out]; simp, (toldsT_yes HE.out).symm, HKE.out⟩⟩
        · go_wp2_with (first | (refine wpList_load_row rfl 80 (.tmp 7) rfl sb rfl _ (row (e49 s)) _ _ HS.out Tryd.underlying80 rfl (by rw [HSZ.out]; exact T64.info) ?_) | (go_at_call 34; (with_reducible refine (tended_ts words _ hs s wr HHr.out HW.out HOK.out).mono ?_); rw [HE.out]; rintro e w5 ⟨rfl, hb5⟩; have HB5 := Lib.hid hb5; have HTA5 := Lib.hid (HTA.out.on hb5); have HS5 := Lib.hid HTA5.out.s; have d0 := HTA5.out.prog.cell 0; have d1 := HTA5.out.prog.cell 1; simp at d0 d1; clear hb5) | (refine wpList_load_mid rfl 63 (.tmp 33) rfl sb 0 rfl ((e16 s).map (Value.int .i64)) _ (Block.range16 HS5.out) Tryd.underlying63 rfl (by rw [List.length_map, e16_length]; exact Tst.info) ?_) | (go_at_call 26; refine (told_fresh (e16 s) words _ hs w5 ((HH.out.below HTA5.out.below (Nat.le_refl _)).more HTA5.out.below.size) HW.out.few HW.out.lo HW.out.hi (e16_length s)).mono ?_; rintro e w6 ⟨y, rfl, hny, hb6, hfy, hcy⟩; have HNY := Lib.hid hny; have HB6 := Lib.hid hb6; have HFY := Lib.hid hfy; have HCY := Lib.hid hcy; have HTA6 := Lib.hid (HTA5.out.on hb6); obtain ⟨Ay, cy, rfl, _, _⟩ := hny; clear hb6 hfy hcy) | (at_builtin; refine wpList_append_lies _ rfl (.tmp 32) (.tmp 37) 26 rfl (w.heap.size + 1) 47 i1 (.slice none 0 0) 1 24 Tryd.underlying26 hi1 hy0 hy1 hy2 rfl (by omega) u5 xs.length xs rfl (HTA6.out.out.own.alloc _) ⟨w6.heap.size, 0, none⟩ 1 1 _ rfl rfl (one_cell (by simp; rfl)) (by intro u hu; simp at hu; subst hu; rfl) (by omega) (by have := HXL.out; unfold maxLen; omega) (by have := HXL.out; omega) (by have := HTA6.out.prog.lt; simp; omega) (w6.heap.size + 1) (by simp) ?_; intro g2 cap2 w7 hown hgrow hat _; have HO7 := Lib.hid (HTA5.out.out.more HTA5.out.prog.lt HB6.out HNY.out (by rw [toldOf_length]; have := HW.out.lo; omega) HFY.out HCY.out hown hgrow hat); have HT7 := Lib.hid (HTA5.out.more HO7.out.1 HO7.out.2.1 HO7.out.2.2); have HS7 := Lib.hid HT7.out.s; have HA7 := Lib.hid (Block.made w7 80 (row zero49)); have HY := Lib.hid (HT7.out.next (cs := row zero49)); have HYQ := Lib.hid (show QT _ g m _ (known.map e49) (e49 s2 :: left2.map e49) from HY.out.q); rw [zero49_row] at HA7 HY HYQ; have HR2 := Lib.hid (HKE.out.rch s2 (by rw [HKE.out.eq]; simp)); have HSZ2 := Lib.hid (show (row (e49 s2)).size = 49 by rw [row_size]; exact e49_length fun p _ => (HR2.out.ok HW.out).q5 HW.out p); clear hown hgrow hat) | (refine wpList_load_row rfl 80 (.tmp 7) rfl sb rfl _ (row (e49 s)) _ _ HS7.out Tryd.underlying80 rfl (by rw [HSZ.out]; exact T64.info) ?_) | (refine wpList_store_row rfl 80 (.tmp 7) (.tmp 57) rfl w7.heap.size (row (e49 s)) rfl rfl _ _ HA7.out (by rw [HSZ.out]; exact T64.info) (by rw [HSZ.out]; rfl) (row_one _) ?_) | (go_at_call 33; (with_reducible refine (takeT_some g m _ (known.map e49) (left2.map e49) (e49 s2) _ HYQ.out).mono ?_); rintro e w9 ⟨rfl, ht9, hq9⟩; have HT9 := Lib.hid (HY.out.take ht9 hq9); clear hq9; have HS9 := Lib.hid HT9.out.s; clear ht9) | (refine wpList_store_row rfl 80 (.tmp 7) (.tmp 27) rfl w7.heap.size (row (e49 s2)) rfl rfl _ _ HS9.out (by rw [HSZ2.out]; exact T64.info) (by rw [HSZ2.out, HSZ.out]) (row_one _) ?_))
          go_roundg (gk - 1)
          case measure => have := HFEW.out; have := HGK.out; have := HN.out; omega
          case rel => exact ⟨true, _, _, e49 s2, known, left2, _, _, n + 1, rfl, rfl, by have := HFEW.out; have := HGK.out; have := HN.out; omega, HT9.out.store (by have := HSZ2.out; rwa [row_size] at this), Or.inl ⟨rfl, s2, pre ++ [s], rfl, by rw [HN.out]; simp, (toldsT_yes HE.out).symm, HKE.out.take⟩⟩
      · have HE := Lib.hid (show tEndB hs s = false by simpa using he)
        clear he
        go_wp2_with (first | (refine wpList_load_row rfl 80 (.tmp 7) rfl sb rfl _ (row (e49 s)) _ _ HS.out Tryd.underlying80 rfl (by rw [HSZ.out]; exact T64.info) ?_) | (go_at_call 34; (with_reducible refine (tended_ts words _ hs s wr HHr.out HW.out HOK.out).mono ?_); rw [HE.out]; rintro e w5 ⟨rfl, hb5⟩; have HTA5 := Lib.hid (HTA.out.on hb5); have d0 := HTA5.out.prog.cell 0; have d1 := HTA5.out.prog.cell 1; simp at d0 d1; clear hb5))
        obtain ⟨lb0, hlb0⟩ : ∃ l, l = lb := ⟨_, rfl⟩
        go_loopw [42] (fun i wr => ∃ (p : Nat) (lb : Nat) (known left : List TS), p ≤ hs.length ∧ i = .int .i64 p ∧ TAt w words (.slice A hs.length c) wr g m lb sb (e49 s) known left (toldsT words hs pre) u5 xs ∧ TKnow hs known (pre ++ [s]) left (some s) p) (fun i _ => hs.length - (intOf i).toNat)
        case atStart => exact ⟨0, lb, known, left, by omega, rfl, HTA5.out, HK.out⟩
        case round =>
          obtain ⟨p, lb1, kn, lf, hp, rfl, hta, hk⟩ := hrel
          have HT1 := Lib.hid hta
          have HK1 := Lib.hid hk
          have e0 := hta.prog.cell 0
          have e1 := hta.prog.cell 1
          simp at e0 e1
          have HS1 := Lib.hid hta.s
          have HH1 := Lib.hid (show Hands wr wr.heap.size (.slice A hs.length c) hs from (HH.out.below hta.below (Nat.le_refl _)).more hta.below.size)
          clear hta hk d0 d1 c0 c1 hlb0
          by_cases hpl : p < hs.length
          · have hpI : (p : Int) < hs.length := by omega
            have HSP := Lib.hid (HR.out.step hpl)
            have HCP := Lib.hid (HR.out.come hpl)
            have HF1 := Lib.hid (HK1.out.few HW.out)
            have HF2 := Lib.hid (HK1.out.few2 HW.out)
            have HL1 := Lib.hid (e49_length fun p _ => (HSP.out.ok HW.out).q5 HW.out p)
            have HL2 := Lib.hid (e49_length fun p _ => (HCP.out.ok HW.out).q5 HW.out p)
            have HW1 := Lib.hid (e49_wf HW.out (HSP.out.ok HW.out))
            have HW2 := Lib.hid (e49_wf HW.out (HCP.out.ok HW.out))
            go_wp2_with (first | (refine wpList_load_row rfl 80 (.tmp 7) rfl sb rfl _ (row (e49 s)) _ _ HS1.out Tryd.underlying80 rfl (by rw [HSZ.out]; exact T64.info) ?_) | (go_at_call 36; (with_reducible refine (tstep_ts words _ hs s p wr HH1.out HW.out HOK.out hpl).mono ?_); rintro e w6 ⟨rfl, hb6⟩; have HT6 := Lib.hid (HT1.out.on hb6); clear hb6) | (go_at_call 35; (with_reducible refine (putT_any g m lb1 (kn.map e49) (lf.map e49) (e49 (tstp hs s p)) w6 HT6.out.q HL1.out HW1.out (by rw [List.length_map]; have := HF1.out; omega) (by rw [List.length_map]; have := HF2.out; omega)).mono ?_); rintro e w7 ⟨rfl, ht7, lb7, hq7, hl7⟩; obtain ⟨kn2, lf2, p1, p2, hk2, hm2, _⟩ := HK1.out.put HW.out HSP.out; rw [p1, p2] at hq7; have HT7 := Lib.hid (HT6.out.put ht7 hq7 hl7); have HK2 := Lib.hid hk2; have HM2 := Lib.hid hm2; have HS7 := Lib.hid HT7.out.s; have HF3 := Lib.hid (hk2.few HW.out); have HF4 := Lib.hid (hk2.few2 HW.out); clear ht7 hq7 hl7 p1 p2 hk2 hm2) | (refine wpList_load_row rfl 80 (.tmp 7) rfl sb rfl _ (row (e49 s)) _ _ HS7.out Tryd.underlying80 rfl (by rw [HSZ.out]; exact T64.info) ?_) | (go_at_call 37; (with_reducible refine (tcome_ts words hs s p w7 HW.out HOK.out hpl).mono ?_); rintro e w8 ⟨rfl, hb8⟩; have HT8 := Lib.hid (HT7.out.on hb8); clear hb8) | (go_at_call 35; (with_reducible refine (putT_any g m lb7 (kn2.map e49) (lf2.map e49) (e49 (tcom s p)) w8 HT8.out.q HL2.out HW2.out (by rw [List.length_map]; have := HF3.out; omega) (by rw [List.length_map]; have := HF4.out; omega)).mono ?_); rintro e w9 ⟨rfl, ht9, lb9, hq9, hl9⟩; obtain ⟨kn3, lf3, p3, p4, hk3, hm3, hs3⟩ := HK2.out.put HW.out HCP.out; rw [p3, p4] at hq9; have HT9 := Lib.hid (HT8.out.put ht9 hq9 hl9); have HK3 := Lib.hid (hk3.next (hs3 _ HM2.out) hm3); clear ht9 hq9 hl9 p3 p4 hk3 hm3 hs3))
            go_roundw
            case rel => exact ⟨p + 1, lb9, kn3, lf3, by omega, by go_num, HT9.out, HK3.out⟩
            case measure => simp [intOf]; omega

          · obtain rfl : p = hs.length := by omega
            have hpI : ¬ (hs.length : Int) < hs.length := by omega
            have HKD := Lib.hid HK1.out.done
            rcases lf with _ | ⟨s2, left2⟩
            · have HA7 := Lib.hid (Block.made wr 80 (row zero49))
              have HY := Lib.hid (HT1.out.next (cs := row zero49))
              have HYQ := Lib.hid (show QT _ g m _ (kn.map e49) [] from HY.out.q)
              rw [zero49_row] at HA7 HY HYQ
              have HSZ2 := Lib.hid (show (row zero49).size = 49 by rw [row_size]; rfl)
              go_wp2_with (first | (refine wpList_load_row rfl 80 (.tmp 7) rfl sb rfl _ (row (e49 s)) _ _ HS1.out Tryd.underlying80 rfl (by rw [HSZ.out]; exact T64.info) ?_) | (refine wpList_store_row rfl 80 (.tmp 7) (.tmp 57) rfl wr.heap.size (row (e49 s)) rfl rfl _ _ HA7.out (by rw [HSZ.out]; exact T64.info) (by rw [HSZ.out]; rfl) (row_one _) ?_) | (go_at_call 33; (with_reducible refine (takeT_none g m _ (kn.map e49) _ HYQ.out).mono ?_); rintro e w9 ⟨rfl, ht9⟩; have HT9 := Lib.hid (HY.out.take (left' := []) (ht9.mono fun _ h => h.elim) (HYQ.out.touch ht9 (fun h => h) (fun h => h) (fun h => h))); have HS9 := Lib.hid HT9.out.s; clear ht9) | (refine wpList_store_row rfl 80 (.tmp 7) (.tmp 27) rfl wr.heap.size (row zero49) rfl rfl _ _ HS9.out (by rw [HSZ2.out]; exact T64.info) (by rw [HSZ2.out, HSZ.out]) (row_one _) ?_))
              go_roundg (gk - 1)
              case measure => have := HFEW.out; have := HGK.out; have := HN.out; omega
              case rel => exact ⟨false, _, _, zero49, kn, [], _, _, n + 1, rfl, rfl, by have := HFEW.out; have := HGK.out; have := HN.out; omega, HT9.out.store rfl, Or.inr ⟨rfl, rfl, pre ++ [s], by rw [HN.out]; simp, (toldsT_no HE.out).symm, HKD.out⟩⟩
            · have HA7 := Lib.hid (Block.made wr 80 (row zero49))
              have HY := Lib.hid (HT1.out.next (cs := row zero49))
              have HYQ := Lib.hid (show QT _ g m _ (kn.map e49) (e49 s2 :: left2.map e49) from HY.out.q)
              rw [zero49_row] at HA7 HY HYQ
              have HR2 := Lib.hid (HKD.out.rch s2 (by rw [HKD.out.eq]; simp))
              have HSZ2 := Lib.hid (show (row (e49 s2)).size = 49 by rw [row_size]; exact e49_length fun p _ => (HR2.out.ok HW.out).q5 HW.out p)
              go_wp2_with (first | (refine wpList_load_row rfl 80 (.tmp 7) rfl sb rfl _ (row (e49 s)) _ _ HS1.out Tryd.underlying80 rfl (by rw [HSZ.out]; exact T64.info) ?_) | (refine wpList_store_row rfl 80 (.tmp 7) (.tmp 57) rfl wr.heap.size (row (e49 s)) rfl rfl _ _ HA7.out (by rw [HSZ.out]; exact T64.info) (by rw [HSZ.out]; rfl) (row_one _) ?_) | (go_at_call 33; (with_reducible refine (takeT_some g m _ (kn.map e49) (left2.map e49) (e49 s2) _ HYQ.out).mono ?_); rintro e w9 ⟨rfl, ht9, hq9⟩; have HT9 := Lib.hid (HY.out.take ht9 hq9); clear hq9; have HS9 := Lib.hid HT9.out.s; clear ht9) | (refine wpList_store_row rfl 80 (.tmp 7) (.tmp 27) rfl wr.heap.size (row (e49 s2)) rfl rfl _ _ HS9.out (by rw [HSZ2.out]; exact T64.info) (by rw [HSZ2.out, HSZ.out]) (row_one _) ?_))
              go_roundg (gk - 1)
              case measure => have := HFEW.out; have := HGK.out; have := HN.out; omega
              case rel => exact ⟨true, _, _, e49 s2, kn, left2, _, _, n + 1, rfl, rfl, by have := HFEW.out; have := HGK.out; have := HN.out; omega, HT9.out.store (by have := HSZ2.out; rwa [row_size] at this), Or.inl ⟨rfl, s2, pre ++ [s], rfl, by rw [HN.out]; simp, (toldsT_no HE.out).symm, HKD.out.take⟩⟩
    · have HN := Lib.hid hn
      have HK := Lib.hid hk
      have HXL := Lib.hid (show xs.length ≤ 1073741824000 by have h1 := HTA.out.out.rows.1; have h2 := toldsT_length (words := words) (hs := hs) (pre := pre); have h3 := hk.few2 HW.out; simp at h3; omega)
      have HTL := Lib.hid (show (toldsT words hs pre).length ≤ 1073741824000 by have h2 := toldsT_length (words := words) (hs := hs) (pre := pre); have h3 := hk.few2 HW.out; simp at h3; omega)
      clear hn hk
      go_wp2_with (go_at_call 27; refine (sortV_any HTA.out.out HXL.out).mono ?_; rintro e w8 ⟨rfl, ht8, xs8, ts8, hsub, hp, hpw, ho8⟩; have HT8 := Lib.hid ht8; have HP := Lib.hid hp; have HPW := Lib.hid hpw; have HO8 := Lib.hid ho8; clear ht8 hp hpw ho8 hsub)
      go_ret2
      refine ⟨_, ts8, rfl, HO8.out.lsts (by rw [HP.out.length_eq]; have := HTL.out; omega), tresults_of HW.out HK.out HP.out (HPW.out.imp fun h => by omega), HTA.out.below.trans (HT8.out.below HTA.out.below.size fun i hi => Nat.le_of_lt (HTA.out.out.lt (Or.inl hi)).1)⟩
end Go.Proofs.YthpnnmkpbkbanaaDoor
