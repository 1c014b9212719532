/-
  The reference's machine, new: what New and Zeros answer.
-/
import Derived.Test.YthainkgpafbjcaaDoorMach
import Derived.Deep.AppendLies
import Derived.Deep.RegionLaw
import Derived.Deep.OwnRows
namespace Go.Proofs.YthainkgpafbjcaaDoor
open Go.RowKit

theorem Trow.info : (Tryd.prog.info? 22).map (fun i => (i.zero, i.size, i.bytes)) = some (some (.slice none 0 0), 1, 24) := by kernel_rfl

theorem ownsRow_keep {w w' : World} {base e size : Nat} {v : Value} {n : Nat} {xs : List Value} (h : w.ownsRow base e size v n xs) (hk : ∀ k, v.ownBlock = some k → w'.heap[k]? = w.heap[k]?) : w'.ownsRow base e size v n xs := by
  refine ⟨h.1, ?_⟩
  rcases h.2 with h0 | ⟨g, cap, cur, rfl, r2, r3, r4⟩
  · exact Or.inl h0
  · exact Or.inr ⟨g, cap, cur, rfl, r2, (hk g rfl).trans r3, r4⟩
theorem ownsRow_at {w : World} {base e size : Nat} {v : Value} {n : Nat} {xs : List Value} (h : w.ownsRow base e size v n xs) {k : Nat} (hk : v.ownBlock = some k) : base ≤ k ∧ k < w.heap.size := by
  rcases h.2 with ⟨rfl, _⟩ | ⟨g, cap, cur, rfl, r2, r3, r4⟩
  · cases hk
  · have e : g = k := Option.some.inj hk
    subst e
    refine ⟨r2, ?_⟩
    rcases Nat.lt_or_ge g w.heap.size with h1 | h1
    · exact h1
    · rw [Array.getElem?_eq_none h1] at r3; cases r3

/-- A machine that is being made at block h + 1: so many lines, so many rows of k own numbers. -/
structure MNew (w wr : World) (h : Nat) (n : Int) (k ja jo : Nat) (x lv ov : Value) : Prop where
  low : w.heap.size ≤ h
  res : Block wr h 31 #[.int .i64 0, .slice none 0 0, .slice none 0 0, .slice none 0 0]
  mac : Block wr (h + 1) 31 #[.int .i64 n, x, lv, ov]
  ra : wr.ownsRow (h + 2) 3 1 lv ja (List.replicate ja (.int .i64 1))
  ro : ∃ us, wr.ownsRow (h + 2) 22 1 ov jo us ∧ ∀ u ∈ us, NumsP wr (fun b => h + 2 ≤ b ∧ b < wr.heap.size ∧ lv.ownBlock ≠ some b ∧ ov.ownBlock ≠ some b) u (List.replicate k 0)
  apart : ∀ a, lv.ownBlock = some a → ov.ownBlock ≠ some a
  below : Below w.heap.size w wr
section
variable {w wr : World} {h : Nat} {n : Int} {k ja jo : Nat} {x lv ov : Value}
theorem MNew.cells (m : MNew w wr h n k ja jo x lv ov) :
    wr.cell? ⟨h + 1, 0, none⟩ = some (.int .i64 n) ∧ wr.cell? ⟨h + 1, 1, none⟩ = some x ∧ wr.cell? ⟨h + 1, 2, none⟩ = some lv ∧ wr.cell? ⟨h + 1, 3, none⟩ = some ov ∧ wr.frozen? ⟨h + 1, 2, none⟩ = false ∧ wr.frozen? ⟨h + 1, 3, none⟩ = false :=
  ⟨(m.mac.cell 0).trans rfl, (m.mac.cell 1).trans rfl, (m.mac.cell 2).trans rfl, (m.mac.cell 3).trans rfl, m.mac.free 2, m.mac.free 3⟩
/-- One line more. -/
theorem MNew.line (m : MNew w wr h n k ja jo x lv ov) {o : Obj} {w2 : World} {g cap : Nat} (hown : w2.ownsRow (h + 2) 3 1 (.slice (some ⟨g, 0, none⟩) (ja + 1) cap) (ja + 1) (List.replicate ja (.int .i64 1) ++ [.int .i64 1]))
    (hg : (wr.alloc o).grownBy w2 lv.ownBlock) (hat : lv.ownBlock = some g ∨ g = wr.heap.size + 1) :
    MNew w (w2.setCell ⟨h + 1, 2, none⟩ (.slice (some ⟨g, 0, none⟩) (ja + 1) cap)) h n k (ja + 1) jo x (.slice (some ⟨g, 0, none⟩) (ja + 1) cap) ov := by
  have hs : wr.heap.size + 1 ≤ w2.heap.size := by have := hg.size; simpa using this
  have hlo : ∀ b, b < h + 2 → lv.ownBlock ≠ some b := fun b hb e => by have := (ownsRow_at m.ra e).1; omega
  -- what other blocks are
  have hk : ∀ b, b < wr.heap.size → lv.ownBlock ≠ some b → w2.heap[b]? = wr.heap[b]? := fun b hb hn => (hg.block b (by simp; omega) (fun e => hn e.symm)).trans (Below.heap_alloc wr o b hb)
  have hk3 : ∀ b, b < wr.heap.size → lv.ownBlock ≠ some b → b ≠ h + 1 → (w2.setCell ⟨h + 1, 2, none⟩ (.slice (some ⟨g, 0, none⟩) (ja + 1) cap)).heap[b]? = wr.heap[b]? := fun b hb hn hne => (Below.heap_setCell w2 ⟨h + 1, 2, none⟩ _ b hne).trans (hk b hb hn)
  have hgne : g ≠ h + 1 := by
    rcases hat with e | e
    · exact fun e2 => hlo (h + 1) (by omega) (e2 ▸ e)
    · have := m.mac.lt
      omega
  refine ⟨m.low, (hk3 h m.res.lt (hlo h (by omega)) (by omega)).trans m.res, Block.put (cs := #[.int .i64 n, x, lv, ov]) ((hk (h + 1) m.mac.lt (hlo _ (by omega))).trans m.mac) 2 _, ?_, ?_, ?_, ?_⟩
  · rw [List.replicate_succ']
    exact ownsRow_keep hown fun b hb => by
      obtain rfl : g = b := Option.some.inj hb
      exact Below.heap_setCell w2 ⟨h + 1, 2, none⟩ _ g hgne
  · obtain ⟨us, h1, h2⟩ := m.ro
    refine ⟨us, ownsRow_keep h1 fun b hb => ?_, fun u hu => (h2 u hu).keep (fun b hb => ⟨hb.1, by simp [World.setCell]; omega, fun e => ?_, hb.2.2.2⟩) fun p hp => World.cell?_of_block (hk3 _ hp.2.1 hp.2.2.1 (by omega))⟩
    · have := ownsRow_at h1 hb
      exact hk3 b this.2 (fun e => m.apart b e hb) (by omega)
    · obtain rfl : g = b := Option.some.inj e
      rcases hat with e | e
      · exact hb.2.2.1 e
      · omega
  · intro a ha hb
    obtain rfl : g = a := Option.some.inj ha
    obtain ⟨us, h1, _⟩ := m.ro
    have := ownsRow_at h1 hb
    rcases hat with e | e
    · exact m.apart g e hb
    · omega
  · exact ((m.below.alloc m.below.size o).grown hg (Nat.le_trans m.below.size (by simp)) (fun q hq => Nat.le_trans m.low (by have := (ownsRow_at m.ra hq).1; omega))).setCell (by have := m.low; show w.heap.size ≤ h + 1; omega) _
theorem MNew.grown (m : MNew w wr h n k ja jo x lv ov) {o : Obj} {w2 : World} (hg : (wr.alloc o).grownBy w2 lv.ownBlock) : Block w2 (h + 1) 31 #[.int .i64 n, x, lv, ov] :=
  (hg.block (h + 1) (by have := m.mac.lt; simp; omega) (fun e => by have := (ownsRow_at m.ra e.symm).1; omega)).trans (m.mac.alloc o)
theorem MNew.grown2 (m : MNew w wr h n k ja jo x lv ov) {o o' : Obj} {w2 : World} (hg : ((wr.drew.alloc o).alloc o').grownBy w2 ov.ownBlock) : Block w2 (h + 1) 31 #[.int .i64 n, x, lv, ov] :=
  (hg.block (h + 1) (by have := m.mac.lt; simp; omega) (fun e => by obtain ⟨us, h1, _⟩ := m.ro; have := (ownsRow_at h1 e.symm).1; omega)).trans ((m.mac.drew.alloc o).alloc o')
theorem MNew.drew (m : MNew w wr h n k ja jo x lv ov) : MNew w wr.drew h n k ja jo x lv ov := ⟨m.low, m.res, m.mac, m.ra, m.ro, m.apart, m.below.drew⟩
theorem MNew.start (w : World) (n : Int) (k : Nat) (x : Value) : MNew w ((w.alloc (.cells #[.int .i64 0, .slice none 0 0, .slice none 0 0, .slice none 0 0] 31)).alloc (.cells #[.int .i64 n, x, .slice none 0 0, .slice none 0 0] 31)) w.heap.size n k 0 0 x (.slice none 0 0) (.slice none 0 0) := by
  refine ⟨Nat.le_refl _, (Block.made w _ _).alloc _, ?_, World.ownsRow_nil _ _ _ _, ⟨[], World.ownsRow_nil _ _ _ _, fun u hu => by cases hu⟩, fun a ha => (by cases ha), ((Below.refl _ _).alloc (Nat.le_refl _) _).alloc (by simp) _⟩
  have := Block.made (w.alloc (.cells #[.int .i64 0, .slice none 0 0, .slice none 0 0, .slice none 0 0] 31)) 31 #[.int .i64 n, x, .slice none 0 0, .slice none 0 0]
  rwa [World.size_alloc] at this
/-- One row more. -/
theorem MNew.row (m : MNew w wr h n k ja jo x lv ov) {u : Value} {o : Obj} {w1 w2 : World} {g cap : Nat} (h1w : Below wr.heap.size wr w1) (h1s : w1.heap.size = wr.heap.size + 1) (hu : NumsP w1 (fun b => b = wr.heap.size) u (List.replicate k 0))
    {us : List Value} (h1 : wr.ownsRow (h + 2) 22 1 ov jo us) (h2 : ∀ u ∈ us, NumsP wr (fun b => h + 2 ≤ b ∧ b < wr.heap.size ∧ lv.ownBlock ≠ some b ∧ ov.ownBlock ≠ some b) u (List.replicate k 0))
    (hown : w2.ownsRow (h + 2) 22 1 (.slice (some ⟨g, 0, none⟩) (jo + 1) cap) (jo + 1) (us ++ [u]))
    (hg : (w1.alloc o).grownBy w2 ov.ownBlock) (hat : ov.ownBlock = some g ∨ g = wr.heap.size + 2) :
    MNew w (w2.setCell ⟨h + 1, 3, none⟩ (.slice (some ⟨g, 0, none⟩) (jo + 1) cap)) h n k ja (jo + 1) x lv (.slice (some ⟨g, 0, none⟩) (jo + 1) cap) := by
  have hs : wr.heap.size + 2 ≤ w2.heap.size := by have := hg.size; simp [h1s] at this; exact this
  have hlo : ∀ b, b < h + 2 → ov.ownBlock ≠ some b := fun b hb e => by have := (ownsRow_at h1 e).1; omega
  have hk1 : ∀ b, b < w1.heap.size → ov.ownBlock ≠ some b → w2.heap[b]? = w1.heap[b]? := fun b hb hn => (hg.block b (by simp; omega) (fun e => hn e.symm)).trans (Below.heap_alloc w1 o b hb)
  have hk : ∀ b, b < wr.heap.size → ov.ownBlock ≠ some b → w2.heap[b]? = wr.heap[b]? := fun b hb hn => (hk1 b (by omega) hn).trans (h1w.block b hb)
  have hk3 : ∀ b, b < wr.heap.size → ov.ownBlock ≠ some b → b ≠ h + 1 → (w2.setCell ⟨h + 1, 3, none⟩ (.slice (some ⟨g, 0, none⟩) (jo + 1) cap)).heap[b]? = wr.heap[b]? := fun b hb hn hne => (Below.heap_setCell w2 ⟨h + 1, 3, none⟩ _ b hne).trans (hk b hb hn)
  have hgne : g ≠ h + 1 := by
    rcases hat with e | e
    · exact fun e2 => hlo (h + 1) (by omega) (e2 ▸ e)
    · have := m.mac.lt
      omega
  have hmh := m.mac.lt
  refine ⟨m.low, (hk3 h m.res.lt (hlo h (by omega)) (by omega)).trans m.res, Block.put (cs := #[.int .i64 n, x, lv, ov]) ((hk (h + 1) m.mac.lt (hlo _ (by omega))).trans m.mac) 3 _, ?_, ?_, ?_, ?_⟩
  · refine ownsRow_keep m.ra fun b hb => ?_
    have := ownsRow_at m.ra hb
    exact hk3 b this.2 (fun e => m.apart b hb e) (by omega)
  · refine ⟨us ++ [u], ownsRow_keep hown fun b hb => ?_, fun u' hu' => ?_⟩
    · obtain rfl : g = b := Option.some.inj hb
      exact Below.heap_setCell w2 ⟨h + 1, 3, none⟩ _ g hgne
    · rcases List.mem_append.1 hu' with hu' | hu'
      · refine (h2 u' hu').keep (fun b hb => ⟨hb.1, by simp [World.setCell]; omega, hb.2.2.1, fun e => ?_⟩) fun p hp => World.cell?_of_block (hk3 _ hp.2.1 hp.2.2.2 (by omega))
        obtain rfl : g = b := Option.some.inj e
        rcases hat with e | e
        · exact hb.2.2.2 e
        · omega
      · rw [List.mem_singleton.1 hu']
        have hne : ov.ownBlock ≠ some wr.heap.size := fun e => by have := (ownsRow_at h1 e).2; omega
        refine hu.keep (fun b hb => ⟨by omega, by simp [World.setCell]; omega, fun e => ?_, fun e => ?_⟩) fun p hp => ?_
        · have := (ownsRow_at m.ra e).2; omega
        · have e : g = b := Option.some.inj e
          rcases hat with e2 | e2
          · exact hne (by rw [e2, e, hb])
          · omega
        · have hp' : p.block = wr.heap.size := hp
          exact World.cell?_of_block ((Below.heap_setCell w2 ⟨h + 1, 3, none⟩ _ p.block (by show p.block ≠ h + 1; omega)).trans (hk1 _ (by omega) (by rw [hp']; exact hne)))
  · intro a ha hb
    obtain rfl : g = a := Option.some.inj hb
    have := ownsRow_at m.ra ha
    rcases hat with e | e
    · exact m.apart g ha e
    · omega
  · have h3 : Below w.heap.size w w1 := m.below.trans (h1w.mono m.below.size)
    exact ((h3.alloc h3.size o).grown hg (Nat.le_trans h3.size (by simp)) (fun q hq => Nat.le_trans m.low (by have := (ownsRow_at h1 hq).1; omega))).setCell (by have := m.low; show w.heap.size ≤ h + 1; omega) _
end

theorem made_get (z : Value) (k : Nat) {i : Nat} (hi : i < k) : (madeCells #[z] k)[i]? = some z := by
  have h1 : (#[z] : Array Value)[i % (#[z] : Array Value).size]! = z := by simp [Nat.mod_one]
  rw [madeCells, Array.getElem?_map, Array.getElem?_range, if_pos hi, Option.map_some, h1]
theorem make_ints (k : Nat) (hk : k ≤ 1000) (w : World) : (Instr.makeSlice 22 (.int .i64 k) (.int .i64 k)).run Tryd.prog w = .ok (.slice (some ⟨w.heap.size, 0, none⟩) k k) (w.alloc (.cells (madeCells #[.int .i64 0] k) 3)) :=
  run_make_row' 22 3 (.int .i64 0) 8 Tryd.underlying22 Tint.info rfl .i64 .i64 k (by omega) (by omega) w
theorem rowAt_made (k : Nat) (w : World) : RowAt (w.alloc (.cells (madeCells #[.int .i64 0] k) 3)) w.heap.size (List.replicate k 0) := fun i z hz => by
  have hi : i < k := by have := (List.getElem?_eq_some_iff.1 hz).1; simpa using this
  have hB := Block.made w 3 (madeCells #[.int .i64 0] k)
  rw [List.getElem?_replicate, if_pos hi] at hz
  refine ⟨?_, hB.free i⟩
  rw [hB.cell i, made_get _ _ hi, ← Option.some.inj hz]

theorem zeros_any (k : Nat) (hk : k ≤ 1000) (w : World) : Calls Tryd.prog 7 #[.int .i64 k] w fun e w' => ∃ v, e = .returned v ∧ NumsP w' (fun b => w.heap.size ≤ b ∧ b < w'.heap.size) v (List.replicate k 0) ∧ Below w.heap.size w w' := by
  have HM := Lib.hid (make_ints k hk)
  have hm := make_ints k hk w
  have HR := Lib.hid (rowAt_made k w)
  go_enter Tryd.func7, Tryd.ntmps7
  go_wp2
  go_ret
  exact ⟨_, rfl, HR.out.numsP (by simp) (by omega) ⟨Nat.le_refl _, by simp⟩, (Below.refl _ _).alloc (Nat.le_refl _) _⟩

theorem numsP_of_own {w : World} {base e : Nat} {v : Value} {zs : List Int} (h : w.ownsRow base e 1 v zs.length (zs.map (Value.int .i64))) (hm : zs.length ≤ 1000) : NumsP w (fun b => base ≤ b ∧ b < w.heap.size) v zs := by
  rcases Nat.eq_zero_or_pos zs.length with h0 | h0
  · rcases h.2 with ⟨rfl, _⟩ | ⟨g, cap, cur, rfl, _⟩
    · exact ⟨none, 0, by rw [h0], by omega, fun hlt => by omega⟩
    · exact ⟨_, _, rfl, by omega, fun hlt => by omega⟩
  · obtain ⟨g, cap, rfl, hb, hg, hr⟩ := rowAt_of_own h h0
    exact hr.numsP rfl (by omega) ⟨hb, hg⟩
/-- What is told when all is made. -/
theorem MNew.told {w wr : World} {h n k : Nat} {x lv ov : Value} {ws : List Int} (hn : n ≤ 10) (hh : h = w.heap.size) (m : MNew w wr h n k n n x lv ov) {P : Nat → Prop} (hP : ∀ b, P b → b < w.heap.size) (hx : NumsP w P x ws) :
    let U := (((wr.setCell ⟨h, 0, none⟩ (.int .i64 n)).setCell ⟨h, 1, none⟩ x).setCell ⟨h, 2, none⟩ lv).setCell ⟨h, 3, none⟩ ov
    Block U h 31 #[.int .i64 n, x, lv, ov] ∧ Mc U (New P w U) n (.agg #[.int .i64 n, x, lv, ov]) ws (List.replicate n 1) (List.replicate n (List.replicate k 0)) ∧ Below w.heap.size w U := by
  intro U
  have hs : U.heap.size = wr.heap.size := by simp [U, World.setCell]
  have hb : Below w.heap.size w U := (((m.below.setCell m.low _).setCell m.low _).setCell m.low _).setCell m.low _
  have hoff : ∀ p : Addr, p.block ≠ h → U.cell? p = wr.cell? p := fun p hp => four_off wr h _ _ _ _ p hp
  have hL : NumsP wr (fun b => h + 2 ≤ b ∧ b < wr.heap.size) lv (List.replicate n 1) := numsP_of_own (by simpa using m.ra) (by simp; omega)
  refine ⟨(((m.res.put 0 _).put 1 _).put 2 _).put 3 _, ⟨_, _, _, rfl, ?_, ?_, ?_⟩, hb⟩
  · exact hx.keep (fun _ => Or.inl) fun p hp => hb.cell (hP _ hp)
  · exact hL.keep (fun b hb => Or.inr ⟨by omega, by omega⟩) fun p hp => hoff p (by omega)
  · obtain ⟨us, h1, h2⟩ := m.ro
    have hus : us.length = n := by have := h1.1; omega
    rcases h1.2 with ⟨rfl, h0⟩ | ⟨g, cap, cur, rfl, hg, hgh, hnc, hcm, hsz, htk⟩
    · subst h0
      exact ⟨none, 0, rfl, by simp, fun hlt => by simp at hlt⟩
    · refine ⟨_, cap, by rw [List.length_replicate], by simp; omega, fun h0 => ⟨g, 0, rfl, ?_, fun i l hi => ?_⟩⟩
      · have := (ownsRow_at h1 (k := g) rfl).2
        exact Or.inr ⟨by omega, by omega⟩
      · have hin : i < n := by have := (List.getElem?_eq_some_iff.1 hi).1; simpa using this
        rw [List.getElem?_replicate, if_pos hin] at hi
        rw [← Option.some.inj hi]
        have hu : us[i]? = some us[i] := List.getElem?_eq_getElem (by omega)
        refine ⟨us[i], ?_, (h2 us[i] (List.getElem_mem _)).keep (fun b hb => Or.inr ⟨by omega, by omega⟩) fun p hp => hoff p (by omega)⟩
        rw [hoff _ (show g ≠ h by omega)]
        have := h1.cells (g := g) rfl i us[i] hu
        unfold Addr.add at this
        split at this
        · rename_i h3; subst h3; simpa using this
        · simpa using this

set_option maxHeartbeats 4000000 in
theorem machNew_any (n k : Nat) (hn : n ≤ 10) (hk : k ≤ 1000) (x : Value) (ws : List Int) (w : World) {P : Nat → Prop} (hP : ∀ b, P b → b < w.heap.size) (hx : NumsP w P x ws) :
    Calls Tryd.prog 6 #[.int .i64 n, x, .int .i64 k] w fun e w' => ∃ v, e = .returned v ∧ Mc w' (New P w w') n v ws (List.replicate n 1) (List.replicate n (List.replicate k 0)) ∧ Below w.heap.size w w' := by
  obtain ⟨i0, hi0, hz0, hz1, hz2⟩ := info_parts Tint.info
  obtain ⟨i1, hi1, hy0, hy1, hy2⟩ := info_parts Trow.info
  have HX := Lib.hid hx
  have HPP := Lib.hid hP
  obtain ⟨A, c, rfl, hlen, _⟩ := hx
  clear hP
  have HM := Lib.hid (make_ints k hk)
  go_enter Tryd.func6, Tryd.ntmps6
  go_wp2
  go_loopw [8] (fun i wr => ∃ (j : Nat) (lv ov : Value), j ≤ n ∧ i = .int .i64 j ∧ MNew w wr w.heap.size n k j j (.slice A ws.length c) lv ov) (fun i _ => n - (intOf i).toNat)
  case atStart =>
    exact ⟨0, .slice none 0 0, .slice none 0 0, by omega, rfl, MNew.start w n k _⟩
  case round =>
    obtain ⟨j, lv, ov, hj, rfl, hm⟩ := hrel
    by_cases hjn : j < n
    · have hjI : (j : Int) < n := by omega
      obtain ⟨us, hro, _⟩ := hm.ro
      obtain ⟨A1, c1, e1⟩ : ∃ A1 c1, lv = .slice A1 j c1 := by
        rcases hm.ra.2 with ⟨rfl, h0⟩ | ⟨g, cap, cur, rfl, _⟩
        · exact ⟨none, 0, by rw [h0]⟩
        · exact ⟨_, _, rfl⟩
      obtain ⟨A2, c2, e2⟩ : ∃ A2 c2, ov = .slice A2 j c2 := by
        rcases hro.2 with ⟨rfl, h0⟩ | ⟨g, cap, cur, rfl, _⟩
        · exact ⟨none, 0, by rw [h0]⟩
        · exact ⟨_, _, rfl⟩
      subst e1 e2
      obtain ⟨x0, x1, x2, x3, z2, z3⟩ := hm.cells
      have HM0 := Lib.hid hm
      clear hro hm
      go_wp2_with (at_builtin; refine wpList_append_lies _ rfl (.tmp 18) (.tmp 19) 22 rfl (w.heap.size + 2) 3 i0 (.int .i64 0) 1 8 Tryd.underlying22 hi0 hz0 hz1 hz2 rfl (by omega) (.slice A1 j c1) j (List.replicate j (.int .i64 1)) rfl (HM0.out.ra.alloc _) ⟨wr.heap.size, 0, none⟩ 1 1 [.int .i64 1] rfl rfl (one_cell (by simp)) (by intro u hu; simp at hu; subst hu; rfl) (by omega) (by unfold maxLen; omega) (by omega) (by have := HM0.out.mac.lt; simp; omega) (wr.heap.size + 1) (by simp) ?_; intro g cap w2 hown hgrow hat hlt; have HL := Lib.hid (HM0.out.line hown hgrow hat); have hb2 := HM0.out.grown hgrow; have y2 := (hb2.cell 2).trans rfl; have y3 := hb2.free 2; clear hown hgrow hat hlt hb2)
      obtain ⟨W, hW⟩ : ∃ W, W = w2.setCell ⟨w.heap.size + 1, 2, none⟩ (.slice (some ⟨g, 0, none⟩) (j + 1) cap) := ⟨_, rfl⟩
      rw [← hW] at HL
      rw [← hW]
      obtain ⟨x0', x1', x2', x3', z2', z3'⟩ := HL.out.cells
      obtain ⟨us, hro, hrs⟩ := HL.out.ro
      have HRO := Lib.hid hro
      have HRS := Lib.hid hrs
      have HW := Lib.hid hW
      have hmk := HM.out W.drew
      have HS := Lib.hid (show W.drew.cell? ⟨w.heap.size + 1, 3, none⟩ = some (.slice A2 j c2) from x3')
      clear hW hro hrs y2 y3 x0 x1 x2 x3 z2 z3 x0' x1' x2' x3' z2' z3'
      have e1 : W.cell? ⟨w.heap.size + 1, 3, none⟩ = some (.slice A2 j c2) := HS.out
      have e2 : (W.alloc (.cells (madeCells #[.int .i64 0] k) 3)).cell? ⟨w.heap.size + 1, 3, none⟩ = some (.slice A2 j c2) := (World.cell?_alloc_lt _ _ _ (by have := HL.out.mac.lt; exact this)).trans e1
      have e3 : ((W.alloc (.cells (madeCells #[.int .i64 0] k) 3)).alloc (.cells #[.slice (some ⟨W.heap.size, 0, none⟩) k k] 22)).cell? ⟨w.heap.size + 1, 3, none⟩ = some (.slice A2 j c2) := (World.cell?_alloc_lt _ _ _ (by have := HL.out.mac.lt; simp; omega)).trans e2
      have hbs : w.heap.size + 2 ≤ W.heap.size := by have := HL.out.mac.lt; omega
      have HBS := Lib.hid hbs
      clear hbs
      go_region_law ((refine step_append_lies _ (by rfl) (.tmp 23) (.tmp 26) 29 (by rfl) (w.heap.size + 2) 22 i1 (.slice none 0 0) 1 24 Tryd.underlying29 hi1 hy0 hy1 hy2 rfl (by omega) (.slice A2 j c2) j us (by rfl) ((World.ownsRow.alloc (World.ownsRow.alloc (show W.drew.ownsRow (w.heap.size + 2) 22 1 (.slice A2 j c2) j us from HRO.out) _) _)) ⟨W.heap.size + 1, 0, none⟩ 1 1 [.slice (some ⟨W.heap.size, 0, none⟩) k k] (by rfl) (by rfl) (one_cell (by simp)) (by intro u hu; simp at hu; subst hu; rfl) (by omega) (by unfold maxLen; omega) (by omega) (by have := HBS.out; simp; omega) (W.heap.size + 2) (by simp) ?_; intro g2 cap2 w4 hown2 hgrow2 hat2 hlt2; have hb4 := HL.out.grown2 hgrow2; have q2 := (hb4.cell 3).trans rfl; have q3 := hb4.free 3; have HO2 := Lib.hid hown2; have HG2 := Lib.hid hgrow2; have HA2 := Lib.hid hat2; clear hb4 hown2 hgrow2 hat2 hlt2))
      all_goals
        go_wp2
        go_roundw
        case rel =>
          refine ⟨j + 1, _, _, by omega, by go_num, HL.out.row (w1 := W.alloc (.cells (madeCells #[.int .i64 0] k) 3)) (o := .cells #[.slice (some ⟨W.heap.size, 0, none⟩) k k] 22) ((Below.refl _ _).alloc (Nat.le_refl _) _) (by simp) ?_ HRO.out HRS.out HO2.out ?_ HA2.out⟩
          · exact (rowAt_made k W).numsP (by simp) (by omega) rfl
          · exact ⟨HG2.out.os, HG2.out.tape, HG2.out.output, HG2.out.size, HG2.out.block⟩
        case measure => simp [intOf]; omega
    · obtain rfl : j = n := by omega
      have hjI : ¬ (j : Int) < j := by omega
      obtain ⟨us, hro, _⟩ := hm.ro
      obtain ⟨A1, c1, e1⟩ : ∃ A1 c1, lv = .slice A1 j c1 := by
        rcases hm.ra.2 with ⟨rfl, h0⟩ | ⟨g, cap, cur, rfl, _⟩
        · exact ⟨none, 0, by rw [h0]⟩
        · exact ⟨_, _, rfl⟩
      obtain ⟨A2, c2, e2⟩ : ∃ A2 c2, ov = .slice A2 j c2 := by
        rcases hro.2 with ⟨rfl, h0⟩ | ⟨g, cap, cur, rfl, _⟩
        · exact ⟨none, 0, by rw [h0]⟩
        · exact ⟨_, _, rfl⟩
      subst e1 e2
      obtain ⟨x0, x1, x2, x3, z2, z3⟩ := hm.cells
      obtain ⟨r0, r1, r2, r3⟩ : wr.cell? ⟨w.heap.size, 0, none⟩ = some (.int .i64 0) ∧ wr.cell? ⟨w.heap.size, 1, none⟩ = some (.slice none 0 0) ∧ wr.cell? ⟨w.heap.size, 2, none⟩ = some (.slice none 0 0) ∧ wr.cell? ⟨w.heap.size, 3, none⟩ = some (.slice none 0 0) :=
        ⟨(hm.res.cell 0).trans rfl, (hm.res.cell 1).trans rfl, (hm.res.cell 2).trans rfl, (hm.res.cell 3).trans rfl⟩
      obtain ⟨s0, s1, s2, s3⟩ : wr.frozen? ⟨w.heap.size, 0, none⟩ = false ∧ wr.frozen? ⟨w.heap.size, 1, none⟩ = false ∧ wr.frozen? ⟨w.heap.size, 2, none⟩ = false ∧ wr.frozen? ⟨w.heap.size, 3, none⟩ = false :=
        ⟨hm.res.free 0, hm.res.free 1, hm.res.free 2, hm.res.free 3⟩
      have HT := Lib.hid (hm.told hn rfl HPP.out HX.out)
      clear hro hm
      go_wp2
      obtain ⟨hB, hmc, hbel⟩ := HT.out
      exact bodyPost_ret (v := .agg #[.int .i64 j, .slice A ws.length c, .slice A1 j c1, .slice A2 j c2]) (results_cell_row rfl _ _ w.heap.size 31 _ (0, 0) _ rfl hB Tryd.underlying31 rfl (by kernel_rfl)) rfl ⟨_, rfl, hmc, hbel⟩
end Go.Proofs.YthainkgpafbjcaaDoor
