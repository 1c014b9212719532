/- latchgarthlaw2.DekkerFair answers true for every script and every hand: a hand at line 2 to 6 is passed at most twice before it is in, when both do a line in turn. No condition. -/
import Derived.Test.YtjldbgecfongfaaRows
import Derived.Test.YtjldbgecfongfaaDekFair
import Derived.Test.YtjldbgecfongfaaOpenI
namespace Go.Proofs.Ytjldbgecfongfaa.dekkerFair
open Go.ChangeShapes Go.WideShapes Go.ChangeAt Go.RowKit

theorem own : ownKnob Try.prog.godebug = none := by kernel_rfl

set_option maxRecDepth 100000 in
theorem lifted (os : Os) (started : os.Started) (H : Type) (enc : TypeId × Value → H) :
    ReturnsInHanded {} Try.checked os 5 .any (Rows.dekkerFairSpec.pre6 enc Try.prog Try.f5 Rows.dekkerFairRow.domain false) (Rows.dekkerFairSpec.post enc Try.prog Try.f5 false true false false) := by
  refine returnsInHanded_of_change (C := Try.checked) own started (by kernel_rfl) Try.func5
    (ChangeSpec.witness6 (enc := enc) (C := Try.checked) false ⟨#[], #[.slice none 0 0, .int .i64 0], []⟩ 8 (by kernel_rfl) (by kernel_rfl) (by kernel_rfl) (by kernel_rfl)) ?_
  intro W base args ds gs before hval0 hW _ _
  have hval : ∀ (j : Nat) t v, Try.f5.params[j]? = some t → args[j]? = some v → Value.okWide Try.prog W .any base t v := hval0
  have hW' := hW
  obtain ⟨p, q, hA0, hV, rfl, _, _⟩ := hW
  have hA : DataW.TrodAll enc Try.prog W 0 (fun _ => true) true Try.f5.params.toList args.toList ds p := hA0
  rw [Try.params5] at hA hval
  obtain ⟨v0, v1, d0, d1, p0, p1, rfl, rfl, rfl, h0, h1⟩ := trodAll_two hA
  obtain ⟨rfl, rfl⟩ := trodVars_none hV
  have h0k := h0
  obtain ⟨a0, l0, c0, rfl⟩ := okWide_slice Try.underlying22 (hval 0 22 v0 rfl rfl)
  obtain ⟨fuel0, hf0⟩ := h0
  obtain ⟨zs0, hn0, _⟩ := nums_in hf0
  have h1k := h1
  obtain ⟨z1, rfl⟩ : ∃ z, v1 = .int .i64 z := okWide_int Try.underlying3 (hval 1 3 v1 rfl rfl)
  clear hA0 hval0
  simp only [List.append_nil] at hW'
  have hlt : ∀ x ∈ p0 ++ p1, x.block < W.heap.size := fun x hx => by simpa using hW'.lt x hx
  refine (dekfair_law _ zs0 z1 W hn0).mono fun e W' ⟨he, hb⟩ => ?_
  subst he
  have er : (Rows.dekkerFairSpec.fn H ([d0, d1] ++ [])).results = [.lit (.bool true)] := by simp [Rows.dekkerFairSpec]
  have ea : (Rows.dekkerFairSpec.fn H ([d0, d1] ++ [])).args = [d0, d1] := by simp [Rows.dekkerFairSpec]
  have ev : (Rows.dekkerFairSpec.fn H ([d0, d1] ++ [])).vars = [] := by simp [Rows.dekkerFairSpec]
  refine ⟨_, rfl, _, _, _, [] ++ [], p0 ++ p1, [], hW', ?_, ?_, by rw [ev]; rfl, hb.frame _, fun h => by cases h⟩
  · rw [er]; exact trodAll_mk1 (shut_bool Try.underlying4 true)
  · rw [ea]; exact trodAll_mk2 (Below.trod Tlaid (by kernel_rfl) (of_decide_eq_true (by kernel_rfl)) h0k hb (fun x hx => hlt x (List.mem_append_left _ hx))) (Below.trod Tlaid (by kernel_rfl) (of_decide_eq_true (by kernel_rfl)) h1k hb (fun x hx => hlt x (List.mem_append_right _ hx)))

theorem over : Rows.dekkerFairRow.holds Try.pinned (OpenSpec.ofChange Rows.dekkerFairSpec) :=
  OpenClaim.holds_of_wide 5 Try.f5 rfl rfl rfl rfl rfl rfl rfl ⟨rfl, rfl, rfl, rfl, rfl⟩ rfl rfl rfl rfl rfl (by kernel_rfl) Try.func5 (by kernel_rfl)
    (of_decide_eq_true (by kernel_rfl)) (by unfold Func.isWrapper; first | (rw [if_pos (by decide +kernel)]; kernel_rfl) | (rw [if_neg (by decide +kernel)]; exact ⟨rfl, rfl⟩))
    (fun os started H enc _ => lifted os started H enc)

theorem proved : Rows.DekkerFairSaid :=
  over
#print axioms proved
end Go.Proofs.Ytjldbgecfongfaa.dekkerFair
