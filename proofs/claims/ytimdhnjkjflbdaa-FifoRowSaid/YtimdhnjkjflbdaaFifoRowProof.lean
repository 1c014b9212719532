/- latchgarthlaw3.FifoRow, lifted. No condition. -/
import Derived.Test.YtimdhnjkjflbdaaRows
import Derived.Test.YtimdhnjkjflbdaaFifLRow
import Derived.Test.YtimdhnjkjflbdaaOpenR
namespace Go.Proofs.Ytimdhnjkjflbdaa.fifoRow
open Go.ChangeShapes Go.WideShapes Go.ChangeAt Go.RowKit

theorem own : ownKnob Try.prog.godebug = none := by kernel_rfl

set_option maxRecDepth 100000 in
theorem lifted (os : Os) (started : os.Started) (H : Type) (enc : TypeId × Value → H) :
    ReturnsInHanded {} Try.checked os 4 .any (Rows.fifoRowSpec.pre6 enc Try.prog Try.f4 Rows.fifoRowRow.domain false) (Rows.fifoRowSpec.post enc Try.prog Try.f4 false true false false) := by
  refine returnsInHanded_of_change (C := Try.checked) own started (by kernel_rfl) Try.func4
    (ChangeSpec.witness6 (enc := enc) (C := Try.checked) false ⟨#[], #[.int .i64 0, .slice none 0 0], []⟩ 8 (by kernel_rfl) (by kernel_rfl) (by kernel_rfl) (by kernel_rfl)) ?_
  intro W base args ds gs before hval0 hW _ _
  have hval : ∀ (j : Nat) t v, Try.f4.params[j]? = some t → args[j]? = some v → Value.okWide Try.prog W .any base t v := hval0
  have hW' := hW
  obtain ⟨p, q, hA0, hV, rfl, _, _⟩ := hW
  have hA : DataW.TrodAll enc Try.prog W 0 (fun _ => true) true Try.f4.params.toList args.toList ds p := hA0
  rw [Try.params4] at hA hval
  obtain ⟨v0, v1, d0, d1, p0, p1, rfl, rfl, rfl, h0, h1⟩ := trodAll_two hA
  obtain ⟨rfl, rfl⟩ := trodVars_none hV
  have h0k := h0
  obtain ⟨z0, rfl⟩ : ∃ z, v0 = .int .i64 z := okWide_int Try.underlying3 (hval 0 3 v0 rfl rfl)
  have h1k := h1
  obtain ⟨a1, l1, c1, rfl⟩ := okWide_slice Try.underlying22 (hval 1 22 v1 rfl rfl)
  obtain ⟨fuel1, hf1⟩ := h1
  obtain ⟨zs1, hn1⟩ := rws_in hf1
  clear hA0 hval0
  simp only [List.append_nil] at hW'
  have hlt : ∀ x ∈ p0 ++ p1, x.block < W.heap.size := fun x hx => by simpa using hW'.lt x hx
  refine (Fif.row_law z0 _ zs1 W hn1).mono fun e W' ⟨he, hb⟩ => ?_
  subst he
  have er : (Rows.fifoRowSpec.fn H ([d0, d1] ++ [])).results = [.lit (.bool true)] := by simp [Rows.fifoRowSpec]
  have ea : (Rows.fifoRowSpec.fn H ([d0, d1] ++ [])).args = [d0, d1] := by simp [Rows.fifoRowSpec]
  have ev : (Rows.fifoRowSpec.fn H ([d0, d1] ++ [])).vars = [] := by simp [Rows.fifoRowSpec]
  refine ⟨_, rfl, _, _, _, [] ++ [], p0 ++ p1, [], hW', ?_, ?_, by rw [ev]; rfl, hb.frame _, fun h => by cases h⟩
  · rw [er]; exact trodAll_mk1 (shut_bool Try.underlying4 true)
  · rw [ea]; exact trodAll_mk2 (Below.trod Tlaid (by kernel_rfl) (of_decide_eq_true (by kernel_rfl)) h0k hb (fun x hx => hlt x (List.mem_append_left _ hx))) (Below.trod Tlaid (by kernel_rfl) (of_decide_eq_true (by kernel_rfl)) h1k hb (fun x hx => hlt x (List.mem_append_right _ hx)))

theorem over : Rows.fifoRowRow.holds Try.pinned (OpenSpec.ofChange Rows.fifoRowSpec) :=
  OpenClaim.holds_of_wide 4 Try.f4 rfl rfl rfl rfl rfl rfl rfl ⟨rfl, rfl, rfl, rfl, rfl⟩ rfl rfl rfl rfl rfl (by kernel_rfl) Try.func4 (by kernel_rfl)
    (of_decide_eq_true (by kernel_rfl)) (by unfold Func.isWrapper; first | (rw [if_pos (by decide +kernel)]; kernel_rfl) | (rw [if_neg (by decide +kernel)]; exact ⟨rfl, rfl⟩))
    (fun os started H enc _ => lifted os started H enc)

theorem proved : Rows.FifoRowSaid :=
  over
#print axioms proved
end Go.Proofs.Ytimdhnjkjflbdaa.fifoRow
