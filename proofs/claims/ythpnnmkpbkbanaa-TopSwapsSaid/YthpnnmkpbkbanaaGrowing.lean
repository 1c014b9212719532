/-
  A program that grows in memory of one's own: line by line, and hand by hand.
-/
import Derived.Test.YthpnnmkpbkbanaaTouch
import Derived.Test.YthpnnmkpbkbanaaLnCells
import Derived.Deep.AppendLies
namespace Go.Proofs.Ythpnnmkpbkbanaa
open Go.RowKit

theorem ownsRow_tch {O : Nat → Prop} {w w' : World} {base e size : Nat} {v : Value} {n : Nat} {xs : List Value} (h : w.ownsRow base e size v n xs) (ht : Touch O w w') (hn : ∀ k, v.ownBlock = some k → ¬ O k) : w'.ownsRow base e size v n xs := by
  refine ⟨h.1, ?_⟩
  rcases h.2 with h0 | ⟨g, cap, cur, rfl, r2, r3, r4⟩
  · exact Or.inl h0
  · exact Or.inr ⟨g, cap, cur, rfl, r2, (ht.block g (Array.getElem?_eq_some_iff.1 r3).1 (hn g rfl)).trans r3, r4⟩
theorem Lines.own_touch {O : Nat → Prop} {W W' : World} {u : Value} {l : List Ln} (h : Lines W W.heap.size u l) (ht : Touch O W W') (hn : ∀ k, u.ownBlock = some k → ¬ O k) : Lines W' W'.heap.size u l := by
  obtain ⟨A, c, rfl, hl, h⟩ := h
  refine ⟨A, c, rfl, hl, fun h0 => ?_⟩
  obtain ⟨b, o, rfl, hb, hc⟩ := h h0
  have hs := ht.size
  refine ⟨b, o, rfl, by omega, fun i x hx => ?_⟩
  obtain ⟨h1, h2, h3, h4⟩ := hc i x hx
  have e : ∀ j, W'.cell? ⟨b, j, none⟩ = W.cell? ⟨b, j, none⟩ := fun j => ht.cell (p := ⟨b, j, none⟩) hb (hn b rfl)
  exact ⟨(e _).trans h1, (e _).trans h2, (e _).trans h3, (e _).trans h4⟩

/-- In block qb a program grows: it has the hands rows, whose slices us lie in memory of one's own. -/
structure PG (w W : World) (words : Int) (hv : Value) (qb : Nat) (qv : Value) (rows : List (List Ln)) (us : List Value) : Prop where
  prog : Block W w.heap.size 24 #[.int .i64 words, hv]
  low : w.heap.size < qb
  qblk : Block W qb 24 #[.int .i64 words, qv]
  below : Below w.heap.size w W
  own : W.ownsRow (qb + 1) 27 1 qv us.length us
  len : us.length = rows.length
  rws : ∀ (i : Nat) u l, us[i]? = some u → rows[i]? = some l → Lines W W.heap.size u l
  far : ∀ u ∈ us, ∀ k, u.ownBlock = some k → qb < k ∧ k < W.heap.size ∧ qv.ownBlock ≠ some k
/-- The lines of the hand at hand. -/
structure LG (W : World) (qb : Nat) (qv : Value) (us : List Value) (lv : Value) (ls : List Ln) : Prop where
  own : W.ownsRow (qb + 1) 26 4 lv ls.length (ls.flatMap lnCells)
  far : ∀ k, lv.ownBlock = some k → qv.ownBlock ≠ some k ∧ ∀ u ∈ us, u.ownBlock ≠ some k
section
variable {w W W' w2 : World} {words : Int} {hv : Value} {qb : Nat} {qv : Value} {rows : List (List Ln)} {us : List Value} {lv : Value} {ls : List Ln} {o : Obj} {g cap : Nat}
theorem PG.touch {O : Nat → Prop} (h : PG w W words hv qb qv rows us) (ht : Touch O W W') (hO : ∀ k, O k → qb < k ∧ qv.ownBlock ≠ some k ∧ ∀ u ∈ us, u.ownBlock ≠ some k) : PG w W' words hv qb qv rows us := by
  have hs := ht.size
  have hl := h.low
  refine ⟨h.prog.touch ht fun e => by have := hO _ e; omega, h.low, h.qblk.touch ht fun e => by have := (hO _ e).1; omega, h.below.trans (ht.below h.below.size fun i hi => by have := (hO i hi).1; omega), ownsRow_tch h.own ht fun k hk e => (hO k e).2.1 hk, h.len, fun i u l hu hr => (h.rws i u l hu hr).own_touch ht fun k hk e => (hO k e).2.2 u (List.mem_of_getElem? hu) hk, fun u hu k hk => ?_⟩
  have := h.far u hu k hk
  exact ⟨this.1, by omega, this.2.2⟩
theorem LG.nil (W : World) (qb : Nat) (qv : Value) (us : List Value) : LG W qb qv us (.slice none 0 0) [] := ⟨World.ownsRow_nil _ _ _ _, fun k hk => by cases hk⟩
theorem LG.touch {O : Nat → Prop} (h : LG W qb qv us lv ls) (ht : Touch O W W') (hO : ∀ k, lv.ownBlock = some k → ¬ O k) : LG W' qb qv us lv ls := ⟨ownsRow_tch h.own ht hO, h.far⟩
/-- A line more. -/
theorem LG.line (p : PG w W words hv qb qv rows us) (h : LG W qb qv us lv ls) (l : Ln) (hown : w2.ownsRow (qb + 1) 26 4 (.slice (some ⟨g, 0, none⟩) (ls.length + 1) cap) (ls.length + 1) (ls.flatMap lnCells ++ lnCells l))
    (hg : (W.alloc o).grownBy w2 lv.ownBlock) (hat : lv.ownBlock = some g ∨ g = W.heap.size + 1) : PG w w2 words hv qb qv rows us ∧ LG w2 qb qv us (.slice (some ⟨g, 0, none⟩) (ls.length + 1) cap) (ls ++ [l]) := by
  have ht : Touch (fun k => lv.ownBlock = some k) W w2 := ((Touch.refl _ W).alloc o).grown hg fun k hk => Or.inl hk
  refine ⟨p.touch ht fun k hk => ⟨by have := (h.own.lt k hk).1; omega, (h.far k hk).1, (h.far k hk).2⟩, ⟨by simpa [List.flatMap_append] using hown, fun k hk => ?_⟩⟩
  obtain rfl : g = k := Option.some.inj hk
  rcases hat with e | e
  · exact h.far g e
  · refine ⟨fun e2 => ?_, fun u hu e2 => ?_⟩
    · have := (p.own.lt g e2).2; omega
    · have := (p.far u hu g e2).2.1; omega
/-- A hand more. -/
theorem PG.hand (p : PG w W words hv qb qv rows us) (h : LG W qb qv us lv ls) (hm : ls.length ≤ 9223372036854775807) (hown : w2.ownsRow (qb + 1) 27 1 (.slice (some ⟨g, 0, none⟩) (us.length + 1) cap) (us.length + 1) (us ++ [lv]))
    (hg : (W.alloc o).grownBy w2 qv.ownBlock) (hat : qv.ownBlock = some g ∨ g = W.heap.size + 1) : Block w2 qb 24 #[.int .i64 words, qv] ∧ PG w (w2.setCell ⟨qb, 1, none⟩ (.slice (some ⟨g, 0, none⟩) (us.length + 1) cap)) words hv qb (.slice (some ⟨g, 0, none⟩) (us.length + 1) cap) (rows ++ [ls]) (us ++ [lv]) := by
  have ht : Touch (fun k => qv.ownBlock = some k) W w2 := ((Touch.refl _ W).alloc o).grown hg fun k hk => Or.inl hk
  have hq : ∀ k, qv.ownBlock = some k → qb < k ∧ k < W.heap.size := fun k hk => by have := p.own.lt k hk; omega
  have hb2 : Block w2 qb 24 #[.int .i64 words, qv] := p.qblk.touch ht fun e => by have := (hq _ e).1; omega
  have ht3 : Touch (fun k => qv.ownBlock = some k ∨ k = qb) W (w2.setCell ⟨qb, 1, none⟩ (.slice (some ⟨g, 0, none⟩) (us.length + 1) cap)) := Touch.setCell (O := fun k => qv.ownBlock = some k ∨ k = qb) (p := ⟨qb, 1, none⟩) (ht.mono fun _ => Or.inl) (Or.inl (Or.inr rfl)) _
  have hl := p.low
  have hs := ht3.size
  have hqs := p.qblk.lt
  have hgq : g ≠ qb := by
    rcases hat with e | e
    · have := (hq g e).1; omega
    · omega
  have hlv := lines_of_own h.own hm
  have hg2 : g < w2.heap.size := (hown.lt g rfl).2
  refine ⟨hb2, ⟨p.prog.touch ht3 fun e => ?_, p.low, hb2.put 1 _, p.below.trans (ht3.below p.below.size fun i hi => ?_), ?_, by simp [p.len], fun i u l hu hr => ?_, fun u hu k hk => ?_⟩⟩
  · rcases e with e | e
    · have := (hq _ e).1; omega
    · omega
  · rcases hi with e | e
    · have := (hq _ e).1; omega
    · omega
  · have := ownsRow_tch hown ((Touch.refl (fun k => k = qb) w2).setCell (p := ⟨qb, 1, none⟩) (Or.inl rfl) (.slice (some ⟨g, 0, none⟩) (us.length + 1) cap)) fun k hk e => by
      obtain rfl : g = k := Option.some.inj hk
      exact hgq e
    simpa using this
  · rcases Nat.lt_or_ge i us.length with hi | hi
    · rw [List.getElem?_append_left hi] at hu
      rw [List.getElem?_append_left (by rw [← p.len]; exact hi)] at hr
      have hm := List.mem_of_getElem? hu
      refine (p.rws i u l hu hr).own_touch ht3 fun k hk e => ?_
      have := p.far u hm k hk
      rcases e with e | e
      · exact this.2.2 e
      · omega
    · rw [List.getElem?_append_right hi] at hu
      rw [List.getElem?_append_right (by rw [← p.len]; exact hi)] at hr
      have hi0 : i - us.length = 0 := by
        rcases Nat.eq_zero_or_pos (i - us.length) with h1 | h1
        · exact h1
        · rw [List.getElem?_eq_none (by simp; omega)] at hu; cases hu
      rw [hi0] at hu
      rw [← p.len, hi0] at hr
      obtain rfl : lv = u := by simpa using hu
      obtain rfl : ls = l := by simpa using hr
      refine hlv.own_touch ht3 fun k hk e => ?_
      rcases e with e | e
      · exact (h.far k hk).1 e
      · have := (h.own.lt k hk).1; omega
  · have hgk : g ≠ k := by
      rcases List.mem_append.1 hu with h1 | h1
      · have := p.far u h1 k hk
        rcases hat with e | e
        · exact fun e2 => this.2.2 (e2 ▸ e)
        · omega
      · rw [List.mem_singleton.1 h1] at hk
        have h2 := (h.own.lt k hk).2
        rcases hat with e | e
        · exact fun e2 => (h.far k hk).1 (e2 ▸ e)
        · omega
    refine ⟨?_, ?_, fun e => hgk (Option.some.inj e)⟩
    · rcases List.mem_append.1 hu with h1 | h1
      · exact (p.far u h1 k hk).1
      · rw [List.mem_singleton.1 h1] at hk
        have := (h.own.lt k hk).1; omega
    · rcases List.mem_append.1 hu with h1 | h1
      · have := (p.far u h1 k hk).2.1; omega
      · rw [List.mem_singleton.1 h1] at hk
        have := (h.own.lt k hk).2; omega
/-- The program, as it is handed over. -/
theorem PG.hands (p : PG w W words hv qb qv rows us) (hm : rows.length ≤ 9223372036854775807) : Hands W W.heap.size qv rows := by
  have hl := p.len
  rcases p.own.2 with ⟨rfl, h0⟩ | ⟨g, cp, cur, rfl, hg, hgh, hnc, hcm, hsz, htk⟩
  · exact ⟨none, 0, by rw [← hl, h0], hm, fun h => by omega⟩
  · refine ⟨_, cp, by rw [hl], hm, fun _ => ⟨g, 0, rfl, (Array.getElem?_eq_some_iff.1 hgh).1, fun i l hi => ?_⟩⟩
    have hi' : i < us.length := by rw [hl]; exact (List.getElem?_eq_some_iff.1 hi).1
    have hu : us[i]? = some us[i] := List.getElem?_eq_getElem hi'
    refine ⟨us[i], ?_, p.rws i _ l hu hi⟩
    have := p.own.cells (g := g) rfl i us[i] hu
    unfold Addr.add at this
    split at this
    · rename_i h3; subst h3; simpa using this
    · simpa using this
end
end Go.Proofs.Ythpnnmkpbkbanaa
