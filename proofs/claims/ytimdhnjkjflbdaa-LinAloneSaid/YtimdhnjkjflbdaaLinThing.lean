/-
  Package lin: what an object holds, and what it gives.
-/
import Derived.Test.YtimdhnjkjflbdaaLinDel
import Derived.Test.YtimdhnjkjflbdaaLinChk
import Derived.Test.YtimdhnjkjflbdaaLinFin
namespace Go.Proofs.Ytimdhnjkjflbdaa.Lin
open Go.RowKit

theorem Tint.info : (Try.prog.info? 3).map (fun i => (i.zero, i.size, i.bytes)) = some (some (.int .i64 0), 1, 8) := by kernel_rfl
/-- A pile in block a: the slice v, in memory from base on, has what is in. -/
structure PileAt (W : World) (base a : Nat) (v : Value) (has : List Int) : Prop where
  cell : W.cell? ⟨a, 0, none⟩ = some v
  free : W.frozen? ⟨a, 0, none⟩ = false
  own : W.ownsRow base 3 1 v has.length (has.map (Value.int .i64))
  far : v.ownBlock ≠ some a
  ge : base ≤ a
section
variable {W W' : World} {base a : Nat} {v : Value} {has : List Int}
theorem PileAt.lt (h : PileAt W base a v has) : a < W.heap.size := lt_of_cell h.cell
theorem PileAt.below (h : PileAt W base a v has) (hb : Below W.heap.size W W') : PileAt W' base a v has :=
  ⟨(hb.cell (p := ⟨a, 0, none⟩) h.lt).trans h.cell, (World.frozen?_of_block (w := W) (hb.block a h.lt)).trans h.free,
    own_touch (O := fun k => W.heap.size ≤ k) h.own (Touch.of_below hb fun _ h _ => h) fun k hk e => by have := (h.own.lt k hk).2; omega, h.far, h.ge⟩
theorem PileAt.form (h : PileAt W base a v has) : ∃ A c, v = .slice A has.length c ∧ (has.length ≤ c ∧ c ≤ 9223372036854775807) ∧ (0 < has.length → ∃ b, A = some ⟨b, 0, none⟩ ∧ base ≤ b ∧ b < W.heap.size ∧ b ≠ a) := by
  rcases h.own.2 with ⟨e, h0⟩ | ⟨g, cap, cur, e, h1, h2, h3, h4, _⟩
  · exact ⟨none, 0, by rw [e, h0], by omega, fun h => by omega⟩
  · unfold maxLen at h4
    refine ⟨_, cap, e, ⟨h3, by omega⟩, fun _ => ⟨g, rfl, h1, (Array.getElem?_eq_some_iff.1 h2).1, fun e2 => h.far (by rw [e, ← e2]; rfl)⟩⟩
theorem PileAt.at_ {b c n : Nat} (h : PileAt W base a (.slice (some ⟨b, 0, none⟩) n c) has) {j : Nat} {z : Int} (hj : has[j]? = some z) : W.cell? ⟨b, j, none⟩ = some (.int .i64 z) := by
  have h1 := h.own.cells (show (Value.slice (some ⟨b, 0, none⟩) n c).ownBlock = some b from rfl) j (.int .i64 z) (by rw [List.getElem?_map, hj]; rfl)
  unfold Addr.add at h1
  split at h1
  · rename_i h3; subst h3; exact h1
  · simpa using h1
end
set_option maxHeartbeats 4000000 in
theorem pile_in {base a : Nat} {v : Value} {has : List Int} (x : Int) (w : World) (h : PileAt w base a v has) (hb : base ≤ w.heap.size) (hl : has.length ≤ 1000) :
    Calls Try.prog 83 #[.pointer (some ⟨a, 0, none⟩), .int .i64 x] w fun e w' => e = .returned (.int .i64 (-1)) ∧ (∃ v', PileAt w' base a v' (has ++ [x])) ∧ Below base w w' := by
  obtain ⟨i0, hi0, hz0, hz1, hz2⟩ := info_parts Tint.info
  have hca := h.cell
  have hal := h.lt
  have HO := Lib.hid h
  have HW := Lib.hid (show (w.alloc (.cells #[.int .i64 x] 3)).ownsRow base 3 1 v has.length (has.map (Value.int .i64)) from own_touch h.own ((Touch.refl (fun _ => False) w).alloc _) fun _ _ e => e)
  clear h
  go_enter Try.func83, Try.ntmps83
  go_wp2_with (at_builtin; refine wpList_append_lies _ rfl (.tmp 9) (.tmp 11) 23 rfl base 3 i0 (.int .i64 0) 1 8 Try.underlying23 hi0 hz0 hz1 hz2 rfl (by omega) v has.length (has.map (Value.int .i64)) rfl HW.out ⟨w.heap.size, 0, none⟩ 1 1 [.int .i64 x] rfl (by rfl) (one_cell (by simp)) (by intro u hu; simp at hu; subst hu; rfl) (by omega) (by unfold maxLen; omega) (by omega) (by simp; omega) (w.heap.size + 1) (by simp) ?_; intro g cap w6 hown hgrow hat hlt6; have ht := ((Touch.refl (fun k => v.ownBlock = some k) w).alloc _).grown hgrow (fun k hk => Or.inl hk); have hc6 := (ht.cell (p := ⟨a, 0, none⟩) HO.out.lt HO.out.far).trans HO.out.cell; have hf6 := (ht.frozen (p := ⟨a, 0, none⟩) HO.out.lt HO.out.far).trans HO.out.free; have HOWN := Lib.hid hown; have HT := Lib.hid ht; have HAT := Lib.hid hat; have HL6 := Lib.hid hlt6; clear hown hgrow hat hlt6 ht)
  go_ret
  have hga : g ≠ a := by
    rcases HAT.out with e | e
    · exact fun c => HO.out.far (by rw [e, c])
    · omega
  have hts : Touch (fun k => k = a) w6 (w6.setCell ⟨a, 0, none⟩ (.slice (some ⟨g, 0, none⟩) (has.length + 1) cap)) := (Touch.refl (fun k => k = a) w6).setCell (p := ⟨a, 0, none⟩) (Or.inl rfl) _
  refine ⟨rfl, ⟨.slice (some ⟨g, 0, none⟩) (has.length + 1) cap, World.cell?_setCell_same _ _ _ hc6, by rw [World.frozen?_setCell]; exact hf6, ?_, fun e => hga (Option.some.inj e), HO.out.ge⟩, ?_⟩
  · rw [show (has ++ [x]).length = has.length + 1 by simp, show (has ++ [x]).map (Value.int .i64) = has.map (Value.int .i64) ++ [.int .i64 x] by simp]
    exact own_touch HOWN.out hts fun k hk e => hga ((Option.some.inj hk).trans e)
  · exact ((HT.out.mono (O' := fun k => base ≤ k) fun i e => (HO.out.own.lt i e).1).trans (hts.mono (O' := fun k => base ≤ k) fun i e => by rw [e]; exact HO.out.ge) fun i e => Or.inl e).below hb fun i e => e
set_option maxHeartbeats 4000000 in
theorem pile_last {base a : Nat} {v : Value} {has : List Int} (w : World) (h : PileAt w base a v has) (hl : has.length ≤ 1000) :
    Calls Try.prog 84 #[.pointer (some ⟨a, 0, none⟩)] w fun e w' => e = .returned (.int .i64 (has.length - 1)) ∧ w = w' := by
  have hca := h.cell
  obtain ⟨A, c, rfl, -, -⟩ := h.form
  clear h
  go_enter Try.func84, Try.ntmps84
  go_wp2
  go_ret
  exact ⟨by go_num, rfl⟩
set_option maxHeartbeats 4000000 in
theorem take_none {base a : Nat} {v : Value} (p : Int) (w : World) (h : PileAt w base a v []) :
    Calls Try.prog 86 #[.pointer (some ⟨a, 0, none⟩), .int .i64 p] w fun e w' => e = .returned (.int .i64 (-1)) ∧ w = w' := by
  have hca := h.cell
  obtain ⟨A, c, rfl, -, -⟩ := h.form
  clear h
  go_enter Try.func86, Try.ntmps86
  go_wp2
  go_ret
  exact ⟨rfl, rfl⟩
set_option maxHeartbeats 4000000 in
theorem take_some {base a : Nat} {v : Value} {has : List Int} (j : Nat) (hj : j < has.length) (w : World) (h : PileAt w base a v has) (hb : base ≤ w.heap.size) (hl : has.length ≤ 1000) :
    Calls Try.prog 86 #[.pointer (some ⟨a, 0, none⟩), .int .i64 j] w fun e w' => e = .returned (.int .i64 has[j]) ∧ (∃ v', PileAt w' base a v' (has.eraseIdx j)) ∧ Below base w w' := by
  have hca := h.cell
  have hal := h.lt
  obtain ⟨A, c, rfl, ⟨hc1, hc2⟩, hf⟩ := h.form
  obtain ⟨b, rfl, hb1, hb2, hb3⟩ := hf (by omega)
  obtain ⟨z, hz⟩ : ∃ z, z = has[j] := ⟨_, rfl⟩
  rw [← hz]
  have hcz := h.at_ (j := j) (z := z) (by rw [hz]; exact List.getElem?_eq_getElem hj)
  have hl0 : ((has.length : Int) == 0) = false := beq_eq_false_iff_ne.2 (by omega)
  have HD := Lib.hid (delete_any w h.own hj)
  rw [show (((j + 1 : Nat)) : Int) = (j : Int) + 1 by omega] at HD
  have HO := Lib.hid h
  clear h hf hz
  go_enter Try.func86, Try.ntmps86
  go_wp2_with (go_at_call 87; (with_reducible refine HD.out.mono ?_); rintro e w6 ⟨rfl, hown, ht⟩; have hc6 := (ht.cell (p := ⟨a, 0, none⟩) hal (fun e => hb3 e.symm)).trans hca; have hf6 := (ht.frozen (p := ⟨a, 0, none⟩) hal (fun e => hb3 e.symm)).trans HO.out.free; have HOWN := Lib.hid hown; have HT := Lib.hid ht; clear hown ht)
  go_ret
  have hts : Touch (fun k => k = a) w6 (w6.setCell ⟨a, 0, none⟩ (.slice (some ⟨b, 0, none⟩) (has.length - 1) c)) := (Touch.refl (fun k => k = a) w6).setCell (p := ⟨a, 0, none⟩) (Or.inl rfl) _
  refine ⟨rfl, ⟨.slice (some ⟨b, 0, none⟩) (has.length - 1) c, World.cell?_setCell_same _ _ _ hc6, by rw [World.frozen?_setCell]; exact hf6, ?_, fun e => hb3 (Option.some.inj e), HO.out.ge⟩, ?_⟩
  · rw [show (has.eraseIdx j).length = has.length - 1 by rw [List.length_eraseIdx, if_pos hj]]
    exact own_touch HOWN.out hts fun k hk e => hb3 ((Option.some.inj hk).trans e)
  · exact ((HT.out.mono (O' := fun k => base ≤ k) fun i e => by rw [e]; exact hb1).trans (hts.mono (O' := fun k => base ≤ k) fun i e => by rw [e]; exact HO.out.ge) fun i e => Or.inl e).below hb fun i e => e
end Go.Proofs.Ytimdhnjkjflbdaa.Lin
