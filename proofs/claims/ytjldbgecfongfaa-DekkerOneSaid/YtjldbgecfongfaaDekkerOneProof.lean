/- latchgarthlaw2.DekkerOne answers true for every script: one hand at most is in. No condition. -/
import Derived.Test.YtjldbgecfongfaaRows
import Derived.Test.YtjldbgecfongfaaDekOne
import Derived.Test.YtjldbgecfongfaaOpenI
namespace Go.Proofs.Ytjldbgecfongfaa.dekkerOne
open Go.ChangeShapes Go.WideShapes Go.ChangeAt Go.RowKit

theorem own : ownKnob Try.prog.godebug = none := by kernel_rfl

set_option maxRecDepth 100000 in
theorem lifted (os : Os) (started : os.Started) (H : Type) (enc : TypeId × Value → H) :
    ReturnsInHanded {} Try.checked os 3 .any (Rows.dekkerOneSpec.pre6 enc Try.prog Try.f3 Rows.dekkerOneRow.domain false) (Rows.dekkerOneSpec.post enc Try.prog Try.f3 false true false false) := by
  refine returnsInHanded_of_change (C := Try.checked) own started (by kernel_rfl) Try.func3
    (ChangeSpec.witness6 (enc := enc) (C := Try.checked) false ⟨#[], #[.slice none 0 0], []⟩ 8 (by kernel_rfl) (by kernel_rfl) (by kernel_rfl) (by kernel_rfl)) ?_
  intro W base args ds gs before hval0 hW _ _
  have hval : ∀ (j : Nat) t v, Try.f3.params[j]? = some t → args[j]? = some v → Value.okWide Try.prog W .any base t v := hval0
  have hW' := hW
  obtain ⟨p, q, hA0, hV, rfl, _, _⟩ := hW
  have hA : DataW.TrodAll enc Try.prog W 0 (fun _ => true) true Try.f3.params.toList args.toList ds p := hA0
  rw [Try.params3] at hA hval
  obtain ⟨v0, d0, rfl, rfl, h0⟩ := trodAll_one hA
  obtain ⟨rfl, rfl⟩ := trodVars_none hV
  have h0k := h0
  obtain ⟨a0, l0, c0, rfl⟩ := okWide_slice Try.underlying22 (hval 0 22 v0 rfl rfl)
  obtain ⟨fuel0, hf0⟩ := h0
  obtain ⟨zs0, hn0, _⟩ := nums_in hf0
  clear hA0 hval0
  simp only [List.append_nil] at hW'
  have hlt : ∀ x ∈ p, x.block < W.heap.size := fun x hx => by simpa using hW'.lt x hx
  refine (one_law _ zs0 W hn0).mono fun e W' ⟨he, hb⟩ => ?_
  subst he
  have er : (Rows.dekkerOneSpec.fn H ([d0] ++ [])).results = [.lit (.bool true)] := by simp [Rows.dekkerOneSpec]
  have ea : (Rows.dekkerOneSpec.fn H ([d0] ++ [])).args = [d0] := by simp [Rows.dekkerOneSpec]
  have ev : (Rows.dekkerOneSpec.fn H ([d0] ++ [])).vars = [] := by simp [Rows.dekkerOneSpec]
  refine ⟨_, rfl, _, _, _, [] ++ [], p, [], hW', ?_, ?_, by rw [ev]; rfl, hb.frame _, fun h => by cases h⟩
  · rw [er]; exact trodAll_mk1 (shut_bool Try.underlying4 true)
  · rw [ea]; exact trodAll_mk1 (Below.trod Tlaid (by kernel_rfl) (of_decide_eq_true (by kernel_rfl)) h0k hb hlt)

theorem over : Rows.dekkerOneRow.holds Try.pinned (OpenSpec.ofChange Rows.dekkerOneSpec) :=
  OpenClaim.holds_of_wide 3 Try.f3 rfl rfl rfl rfl rfl rfl rfl ⟨rfl, rfl, rfl, rfl, rfl⟩ rfl rfl rfl rfl rfl (by kernel_rfl) Try.func3 (by kernel_rfl)
    (of_decide_eq_true (by kernel_rfl)) (by unfold Func.isWrapper; first | (rw [if_pos (by decide +kernel)]; kernel_rfl) | (rw [if_neg (by decide +kernel)]; exact ⟨rfl, rfl⟩))
    (fun os started H enc _ => lifted os started H enc)

theorem proved : Rows.DekkerOneSaid :=
  over
#print axioms proved
end Go.Proofs.Ytjldbgecfongfaa.dekkerOne
