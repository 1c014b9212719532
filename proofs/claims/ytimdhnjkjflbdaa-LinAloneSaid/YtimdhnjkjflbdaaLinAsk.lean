/-
  Package lin: the kinds of objects behind one face: fresh, ask.
-/
import Derived.Test.YtimdhnjkjflbdaaLinThing
namespace Go.Proofs.Ytimdhnjkjflbdaa.Lin
open Go.RowKit

set_option maxHeartbeats 4000000 in
theorem count_in (s x : Int) (a : Nat) (w : World) (hc : w.cell? ⟨a, 0, none⟩ = some (.int .i64 s)) (hf : w.frozen? ⟨a, 0, none⟩ = false) (hs : 0 ≤ s ∧ s ≤ 1000000) (hx : 0 ≤ x ∧ x ≤ 1000) :
    Calls Try.prog 81 #[.pointer (some ⟨a, 0, none⟩), .int .i64 x] w fun e w' => e = .returned (.int .i64 s) ∧ w' = w.setCell ⟨a, 0, none⟩ (.int .i64 (s + x)) := by
  obtain ⟨hs1, hs2⟩ := hs
  obtain ⟨hx1, hx2⟩ := hx
  go_enter Try.func81, Try.ntmps81
  go_wp2
  go_ret
  exact ⟨rfl, rfl⟩
set_option maxHeartbeats 4000000 in
theorem count_out (s : Int) (a : Nat) (w : World) (hc : w.cell? ⟨a, 0, none⟩ = some (.int .i64 s)) :
    Calls Try.prog 82 #[.pointer (some ⟨a, 0, none⟩)] w fun e w' => e = .returned (.int .i64 s) ∧ w = w' := by
  go_enter Try.func82, Try.ntmps82
  go_wp2
  go_ret
  exact ⟨rfl, rfl⟩
set_option maxHeartbeats 4000000 in
theorem queue_none {base a : Nat} {v : Value} (w : World) (h : PileAt w base a v []) :
    Calls Try.prog 88 #[.pointer (some ⟨a, 0, none⟩)] w fun e w' => e = .returned (.int .i64 (-1)) ∧ w = w' := by
  have HT := Lib.hid (take_none 0 w h)
  have hca := h.cell
  clear h
  go_enter Try.func88, Try.ntmps88
  go_wp2_with (go_at_call 86; (with_reducible refine HT.out.mono ?_); rintro e w6 ⟨rfl, rfl⟩)
  go_ret
  exact ⟨rfl, rfl⟩
set_option maxHeartbeats 4000000 in
theorem queue_some {base a : Nat} {v : Value} {has : List Int} (h0 : 0 < has.length) (w : World) (h : PileAt w base a v has) (hb : base ≤ w.heap.size) (hl : has.length ≤ 1000) :
    Calls Try.prog 88 #[.pointer (some ⟨a, 0, none⟩)] w fun e w' => e = .returned (.int .i64 has[0]) ∧ (∃ v', PileAt w' base a v' (has.eraseIdx 0)) ∧ Below base w w' := by
  have HT := Lib.hid (take_some 0 h0 w h hb hl)
  rw [show ((0 : Nat) : Int) = 0 from rfl] at HT
  obtain ⟨z, hz⟩ : ∃ z, z = has[0] := ⟨_, rfl⟩
  rw [← hz] at HT ⊢
  have hca := h.cell
  clear h hz
  go_enter Try.func88, Try.ntmps88
  go_wp2_with (go_at_call 86; (with_reducible refine HT.out.mono ?_); rintro e w6 ⟨rfl, hp6, hb6⟩; have HP6 := Lib.hid hp6; have HB6 := Lib.hid hb6; clear hp6 hb6)
  go_ret
  exact ⟨rfl, HP6.out, HB6.out⟩
set_option maxHeartbeats 4000000 in
theorem stack_none {base a : Nat} {v : Value} (w : World) (h : PileAt w base a v []) :
    Calls Try.prog 85 #[.pointer (some ⟨a, 0, none⟩)] w fun e w' => e = .returned (.int .i64 (-1)) ∧ ∃ i, w' = w.drewN i := by
  have HL := Lib.hid (pile_last w.drew (h.below (below_drewN (Below.refl _ w) 1)) (by simp))
  rw [show ((([] : List Int).length : Nat) : Int) - 1 = -1 from rfl] at HL
  have HT := Lib.hid (take_none (-1) w.drew (h.below (below_drewN (Below.refl _ w) 1)))
  have hca := h.cell
  clear h
  go_enter Try.func85, Try.ntmps85
  go_wp2_with fail
  go_region_with (first | (go_at_call 84; (with_reducible refine HL.out.mono ?_); rintro e w6 ⟨rfl, rfl⟩) | (go_at_call 86; (with_reducible refine HT.out.mono ?_); rintro e w6 ⟨rfl, rfl⟩))
  go_wp2
  go_ret
  exact ⟨rfl, 1, rfl⟩
set_option maxHeartbeats 4000000 in
theorem stack_some {base a : Nat} {v : Value} {l : List Int} {z : Int} (w : World) (h : PileAt w base a v (l ++ [z])) (hb : base ≤ w.heap.size) (hl : l.length + 1 ≤ 1000) :
    Calls Try.prog 85 #[.pointer (some ⟨a, 0, none⟩)] w fun e w' => e = .returned (.int .i64 z) ∧ (∃ v', PileAt w' base a v' l) ∧ Below base w w' := by
  have HL := Lib.hid (pile_last w.drew (h.below (below_drewN (Below.refl _ w) 1)) (by simpa using hl))
  have HT := Lib.hid (take_some (has := l ++ [z]) l.length (by simp) w.drew (h.below (below_drewN (Below.refl _ w) 1)) hb (by simpa using hl))
  rw [show (l ++ [z])[l.length]'(by simp) = z by simp, show (l ++ [z]).eraseIdx l.length = l by rw [List.eraseIdx_append_of_length_le (Nat.le_refl _)]; simp] at HT
  rw [show (((l ++ [z]).length : Nat) : Int) - 1 = (l.length : Int) by simp] at HL
  have hca := h.cell
  clear h
  go_enter Try.func85, Try.ntmps85
  go_wp2_with fail
  go_region_with (first | (go_at_call 84; (with_reducible refine HL.out.mono ?_); rintro e w6 ⟨rfl, rfl⟩) | (go_at_call 86; (with_reducible refine HT.out.mono ?_); rintro e w6 ⟨rfl, hp6, hb6⟩; have HP6 := Lib.hid hp6; have HB6 := Lib.hid hb6; clear hp6 hb6))
  go_wp2
  go_ret
  exact ⟨rfl, HP6.out, (below_drewN (Below.refl _ w) 1).trans HB6.out⟩
/-- What is held, of an object of a kind that lies in block a, in memory from base on. -/
def Th (ob : Nat) (W : World) (base a : Nat) (has : List Int) : Prop :=
  if ob = 0 then ∃ s, has = [s] ∧ base ≤ a ∧ W.cell? ⟨a, 0, none⟩ = some (.int .i64 s) ∧ W.frozen? ⟨a, 0, none⟩ = false
  else ∃ v, PileAt W base a v has
/-- The value behind the face. -/
def TI (ob a : Nat) : Value := .iface (if ob = 0 then 110 else if ob = 1 then 113 else 118) (.pointer (some ⟨a, 0, none⟩))
set_option maxHeartbeats 4000000 in
theorem fresh_any (ob : Nat) (h2 : ob ≤ 2) (w : World) :
    Calls Try.prog 58 #[.int .i64 ob] w fun e w' => e = .returned (TI ob w.heap.size) ∧ Th ob w' w.heap.size w.heap.size (linit ob) ∧ Below w.heap.size w w' := by
  match ob, h2 with
  | 0, _ =>
    go_enter Try.func58, Try.ntmps58
    go_wp2
    go_ret
    exact ⟨rfl, ⟨0, rfl, Nat.le_refl _, by simp, by simp⟩, (Below.refl _ _).alloc (Nat.le_refl _) _⟩
  | 1, _ =>
    go_enter Try.func58, Try.ntmps58
    go_wp2
    go_ret
    exact ⟨rfl, ⟨.slice none 0 0, by simp, by simp, World.ownsRow_nil _ _ _ _, (by intro c; cases c), Nat.le_refl _⟩, (Below.refl _ _).alloc (Nat.le_refl _) _⟩
  | 2, _ =>
    go_enter Try.func58, Try.ntmps58
    go_wp2
    go_ret
    exact ⟨rfl, ⟨.slice none 0 0, by simp, by simp, World.ownsRow_nil _ _ _ _, (by intro c; cases c), Nat.le_refl _⟩, (Below.refl _ _).alloc (Nat.le_refl _) _⟩
set_option maxHeartbeats 4000000 in
/-- What an op gets, of each kind of object: what comes in. -/
theorem ask_in (ob : Nat) (h2 : ob ≤ 2) (hd gt fr tz x : Int) {base a : Nat} {has : List Int} (w : World) (h : Th ob w base a has) (hb : base ≤ w.heap.size) (hl : has.length ≤ 900) (hs : ∀ z, z ∈ has → 0 ≤ z ∧ z ≤ 1000000) (hx : 0 ≤ x ∧ x ≤ 1000) :
    Calls Try.prog 59 #[TI ob a, .agg #[.int .i64 hd, .int .i64 0, .int .i64 x, .int .i64 gt, .int .i64 fr, .int .i64 tz]] w fun e w' =>
      e = .returned (.int .i64 (lgets ob 0 x has).2) ∧ Th ob w' base a (lgets ob 0 x has).1 ∧ Below base w w' := by
  match ob, h2 with
  | 0, _ =>
    obtain ⟨s, rfl, hba, hc, hf⟩ := h
    have hal := lt_of_cell hc
    have HC := Lib.hid (count_in s x a (w.alloc (.cells #[.int .i64 hd, .int .i64 0, .int .i64 x, .int .i64 gt, .int .i64 fr, .int .i64 tz] 34)) ((World.cell?_alloc_lt _ _ ⟨a, 0, none⟩ hal).trans hc) ((World.frozen?_of_block (w := w) (Below.heap_alloc w _ a hal)).trans hf) (hs s (by simp)) hx)
    show Calls Try.prog 59 #[.iface 110 (.pointer (some ⟨a, 0, none⟩)), .agg #[.int .i64 hd, .int .i64 0, .int .i64 x, .int .i64 gt, .int .i64 fr, .int .i64 tz]] w fun e w' => e = .returned (.int .i64 s) ∧ Th 0 w' base a [s + x] ∧ Below base w w'
    go_enter Try.func59, Try.ntmps59
    go_wp2_with (go_at_call 81; (with_reducible refine HC.out.mono ?_); rintro e w6 ⟨rfl, hw6⟩; have HW6 := Lib.hid hw6; clear hw6)
    go_ret
    have hb1 := (Below.refl base w).alloc hb (.cells #[.int .i64 hd, .int .i64 0, .int .i64 x, .int .i64 gt, .int .i64 fr, .int .i64 tz] 34)
    rw [HW6.out]
    refine ⟨rfl, ⟨s + x, rfl, hba, World.cell?_setCell_same _ _ _ ((World.cell?_alloc_lt _ _ ⟨a, 0, none⟩ hal).trans hc), ?_⟩, hb1.setCell (p := ⟨a, 0, none⟩) hba _⟩
    rw [World.frozen?_setCell]
    exact (World.frozen?_of_block (w := w) (Below.heap_alloc w _ a hal)).trans hf
  | 1, _ =>
    obtain ⟨v, hp⟩ := h
    have HC := Lib.hid (pile_in x (w.alloc (.cells #[.int .i64 hd, .int .i64 0, .int .i64 x, .int .i64 gt, .int .i64 fr, .int .i64 tz] 34)) (hp.below ((Below.refl _ w).alloc (Nat.le_refl _) _)) (by simp; omega) (by omega))
    show Calls Try.prog 59 #[.iface 113 (.pointer (some ⟨a, 0, none⟩)), .agg #[.int .i64 hd, .int .i64 0, .int .i64 x, .int .i64 gt, .int .i64 fr, .int .i64 tz]] w fun e w' => e = .returned (.int .i64 (-1)) ∧ Th 1 w' base a (has ++ [x]) ∧ Below base w w'
    clear hp
    go_enter Try.func59, Try.ntmps59
    go_wp2_with (go_at_call 83; (with_reducible refine HC.out.mono ?_); rintro e w6 ⟨rfl, hp6, hb6⟩; have HP6 := Lib.hid hp6; have HB6 := Lib.hid hb6; clear hp6 hb6)
    go_ret
    exact ⟨rfl, HP6.out, ((Below.refl base w).alloc hb _).trans HB6.out⟩
  | 2, _ =>
    obtain ⟨v, hp⟩ := h
    have HC := Lib.hid (pile_in x (w.alloc (.cells #[.int .i64 hd, .int .i64 0, .int .i64 x, .int .i64 gt, .int .i64 fr, .int .i64 tz] 34)) (hp.below ((Below.refl _ w).alloc (Nat.le_refl _) _)) (by simp; omega) (by omega))
    show Calls Try.prog 59 #[.iface 118 (.pointer (some ⟨a, 0, none⟩)), .agg #[.int .i64 hd, .int .i64 0, .int .i64 x, .int .i64 gt, .int .i64 fr, .int .i64 tz]] w fun e w' => e = .returned (.int .i64 (-1)) ∧ Th 2 w' base a (has ++ [x]) ∧ Below base w w'
    clear hp
    go_enter Try.func59, Try.ntmps59
    go_wp2_with (go_at_call 83; (with_reducible refine HC.out.mono ?_); rintro e w6 ⟨rfl, hp6, hb6⟩; have HP6 := Lib.hid hp6; have HB6 := Lib.hid hb6; clear hp6 hb6)
    go_ret
    exact ⟨rfl, HP6.out, ((Below.refl base w).alloc hb _).trans HB6.out⟩
set_option maxHeartbeats 4000000 in
/-- And what is taken out. -/
theorem ask_out (ob : Nat) (h2 : ob ≤ 2) (hd gt fr tz x : Int) {base a : Nat} {has : List Int} (w : World) (h : Th ob w base a has) (hb : base ≤ w.heap.size) (hl : has.length ≤ 900) :
    Calls Try.prog 59 #[TI ob a, .agg #[.int .i64 hd, .int .i64 1, .int .i64 x, .int .i64 gt, .int .i64 fr, .int .i64 tz]] w fun e w' =>
      e = .returned (.int .i64 (lgets ob 1 x has).2) ∧ Th ob w' base a (lgets ob 1 x has).1 ∧ Below base w w' := by
  have hb1 := (Below.refl base w).alloc hb (.cells #[.int .i64 hd, .int .i64 1, .int .i64 x, .int .i64 gt, .int .i64 fr, .int .i64 tz] 34)
  match ob, h2 with
  | 0, _ =>
    obtain ⟨s, rfl, hba, hc, hf⟩ := h
    have hal := lt_of_cell hc
    have HC := Lib.hid (count_out s a (w.alloc (.cells #[.int .i64 hd, .int .i64 1, .int .i64 x, .int .i64 gt, .int .i64 fr, .int .i64 tz] 34)) ((World.cell?_alloc_lt _ _ ⟨a, 0, none⟩ hal).trans hc))
    have HT := Lib.hid (show Th 0 (w.alloc (.cells #[.int .i64 hd, .int .i64 1, .int .i64 x, .int .i64 gt, .int .i64 fr, .int .i64 tz] 34)) base a [s] from ⟨s, rfl, hba, (World.cell?_alloc_lt _ _ ⟨a, 0, none⟩ hal).trans hc, (World.frozen?_of_block (w := w) (Below.heap_alloc w _ a hal)).trans hf⟩)
    show Calls Try.prog 59 #[.iface 110 (.pointer (some ⟨a, 0, none⟩)), .agg #[.int .i64 hd, .int .i64 1, .int .i64 x, .int .i64 gt, .int .i64 fr, .int .i64 tz]] w fun e w' => e = .returned (.int .i64 s) ∧ Th 0 w' base a [s] ∧ Below base w w'
    go_enter Try.func59, Try.ntmps59
    go_wp2_with (go_at_call 82; (with_reducible refine HC.out.mono ?_); rintro e w6 ⟨rfl, rfl⟩)
    go_ret
    exact ⟨rfl, HT.out, hb1⟩
  | 1, _ =>
    obtain ⟨v, hp⟩ := h
    have hp1 := hp.below ((Below.refl _ w).alloc (Nat.le_refl _) (.cells #[.int .i64 hd, .int .i64 1, .int .i64 x, .int .i64 gt, .int .i64 fr, .int .i64 tz] 34))
    clear hp
    rcases List.eq_nil_or_concat has with rfl | ⟨l, z, rfl⟩
    · have HC := Lib.hid (stack_none (w.alloc (.cells #[.int .i64 hd, .int .i64 1, .int .i64 x, .int .i64 gt, .int .i64 fr, .int .i64 tz] 34)) hp1)
      have HP := Lib.hid hp1; clear hp1
      show Calls Try.prog 59 #[.iface 113 (.pointer (some ⟨a, 0, none⟩)), .agg #[.int .i64 hd, .int .i64 1, .int .i64 x, .int .i64 gt, .int .i64 fr, .int .i64 tz]] w fun e w' => e = .returned (.int .i64 (-1)) ∧ Th 1 w' base a [] ∧ Below base w w'
      go_enter Try.func59, Try.ntmps59
      go_wp2_with (go_at_call 85; (with_reducible refine HC.out.mono ?_); rintro e w6 ⟨rfl, i6, rfl⟩)
      go_ret
      exact ⟨rfl, ⟨v, HP.out.below (below_drewN (Below.refl _ _) i6)⟩, below_drewN hb1 i6⟩
    · rw [List.concat_eq_append] at hp1 hl ⊢
      have HC := Lib.hid (stack_some (w.alloc (.cells #[.int .i64 hd, .int .i64 1, .int .i64 x, .int .i64 gt, .int .i64 fr, .int .i64 tz] 34)) hp1 (by simp; omega) (by simp at hl; omega))
      clear hp1
      have e1 : lgets 1 1 x (l ++ [z]) = (l, z) := by
        unfold lgets
        rw [if_neg (by decide), if_neg (by decide), if_neg (by simp), if_pos rfl]
        simp
      rw [e1]
      show Calls Try.prog 59 #[.iface 113 (.pointer (some ⟨a, 0, none⟩)), .agg #[.int .i64 hd, .int .i64 1, .int .i64 x, .int .i64 gt, .int .i64 fr, .int .i64 tz]] w fun e w' => e = .returned (.int .i64 z) ∧ Th 1 w' base a l ∧ Below base w w'
      go_enter Try.func59, Try.ntmps59
      go_wp2_with (go_at_call 85; (with_reducible refine HC.out.mono ?_); rintro e w6 ⟨rfl, hp6, hb6⟩; have HP6 := Lib.hid hp6; have HB6 := Lib.hid hb6; clear hp6 hb6)
      go_ret
      exact ⟨rfl, HP6.out, hb1.trans HB6.out⟩
  | 2, _ =>
    obtain ⟨v, hp⟩ := h
    have hp1 := hp.below ((Below.refl _ w).alloc (Nat.le_refl _) (.cells #[.int .i64 hd, .int .i64 1, .int .i64 x, .int .i64 gt, .int .i64 fr, .int .i64 tz] 34))
    clear hp
    cases has with
    | nil =>
      have HC := Lib.hid (queue_none (w.alloc (.cells #[.int .i64 hd, .int .i64 1, .int .i64 x, .int .i64 gt, .int .i64 fr, .int .i64 tz] 34)) hp1)
      have HP := Lib.hid hp1; clear hp1
      show Calls Try.prog 59 #[.iface 118 (.pointer (some ⟨a, 0, none⟩)), .agg #[.int .i64 hd, .int .i64 1, .int .i64 x, .int .i64 gt, .int .i64 fr, .int .i64 tz]] w fun e w' => e = .returned (.int .i64 (-1)) ∧ Th 2 w' base a [] ∧ Below base w w'
      go_enter Try.func59, Try.ntmps59
      go_wp2_with (go_at_call 88; (with_reducible refine HC.out.mono ?_); rintro e w6 ⟨rfl, rfl⟩)
      go_ret
      exact ⟨rfl, ⟨v, HP.out⟩, hb1⟩
    | cons z l =>
      have HC := Lib.hid (queue_some (by simp) (w.alloc (.cells #[.int .i64 hd, .int .i64 1, .int .i64 x, .int .i64 gt, .int .i64 fr, .int .i64 tz] 34)) hp1 (by simp; omega) (by omega))
      clear hp1
      rw [show (z :: l)[0]'(by simp) = z from rfl, show (z :: l).eraseIdx 0 = l from rfl] at HC
      show Calls Try.prog 59 #[.iface 118 (.pointer (some ⟨a, 0, none⟩)), .agg #[.int .i64 hd, .int .i64 1, .int .i64 x, .int .i64 gt, .int .i64 fr, .int .i64 tz]] w fun e w' => e = .returned (.int .i64 z) ∧ Th 2 w' base a l ∧ Below base w w'
      go_enter Try.func59, Try.ntmps59
      go_wp2_with (go_at_call 88; (with_reducible refine HC.out.mono ?_); rintro e w6 ⟨rfl, hp6, hb6⟩; have HP6 := Lib.hid hp6; have HB6 := Lib.hid hb6; clear hp6 hb6)
      go_ret
      exact ⟨rfl, HP6.out, hb1.trans HB6.out⟩
theorem ask_any (ob : Nat) (h2 : ob ≤ 2) (o : LO) (ho : o.inb) {base a : Nat} {has : List Int} (w : World) (h : Th ob w base a has) (hb : base ≤ w.heap.size) (hl : has.length ≤ 900) (hs : ∀ z, z ∈ has → 0 ≤ z ∧ z ≤ 1000000) :
    Calls Try.prog 59 #[TI ob a, .agg #[.int .i64 o.hd, .int .i64 o.kd, .int .i64 o.ar, .int .i64 o.gt, .int .i64 o.fr, .int .i64 o.to]] w fun e w' =>
      e = .returned (.int .i64 (lgets ob o.kd.toNat o.ar has).2) ∧ Th ob w' base a (lgets ob o.kd.toNat o.ar has).1 ∧ Below base w w' := by
  obtain ⟨-, hk, ha, -⟩ := ho
  rcases (show o.kd = 0 ∨ o.kd = 1 by omega) with e | e
  · rw [e]; exact ask_in ob h2 o.hd o.gt o.fr o.to o.ar w h hb hl hs ha
  · rw [e]; exact ask_out ob h2 o.hd o.gt o.fr o.to o.ar w h hb hl
end Go.Proofs.Ytimdhnjkjflbdaa.Lin