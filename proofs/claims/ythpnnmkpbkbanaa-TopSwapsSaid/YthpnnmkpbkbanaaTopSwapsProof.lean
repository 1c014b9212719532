/- latchgarthtop.TopSwaps answers true for every program: with its loads and stores made swaps it does not race, and does the same where what is stored waits. No condition. -/
import Derived.Test.YthpnnmkpbkbanaaRows
import Derived.Test.YthpnnmkpbkbanaaTopSwaps
import Derived.Test.YthpnnmkpbkbanaaOpen
namespace Go.Proofs.Ythpnnmkpbkbanaa.topSwaps
open Go.ChangeShapes Go.WideShapes Go.ChangeAt Go.RowKit

theorem own : ownKnob Try.prog.godebug = none := by kernel_rfl

set_option maxRecDepth 100000 in
theorem lifted (os : Os) (started : os.Started) (H : Type) (enc : TypeId × Value → H) :
    ReturnsInHanded {} Try.checked os 3 .any (Rows.topSwapsSpec.pre6 enc Try.prog Try.f3 Rows.topSwapsRow.domain false) (Rows.topSwapsSpec.post enc Try.prog Try.f3 false true false false) := by
  refine returnsInHanded_of_change (C := Try.checked) own started (by kernel_rfl) Try.func3
    (ChangeSpec.witness6 (enc := enc) (C := Try.checked) false ⟨#[], #[.agg #[.int .i64 0, .slice none 0 0]], []⟩ 8 (by kernel_rfl) (by kernel_rfl) (by kernel_rfl) (by kernel_rfl)) ?_
  intro W base args ds gs before hval0 hW _ _
  have hval : ∀ (j : Nat) t v, Try.f3.params[j]? = some t → args[j]? = some v → Value.okWide Try.prog W .any base t v := hval0
  have hW' := hW
  obtain ⟨p, q, hA0, hV, rfl, _, _⟩ := hW
  have hA : DataW.TrodAll enc Try.prog W 0 (fun _ => true) true Try.f3.params.toList args.toList ds p := hA0
  rw [Try.params3] at hA hval
  obtain ⟨v0, d0, rfl, rfl, h0⟩ := trodAll_one hA
  obtain ⟨rfl, rfl⟩ := trodVars_none hV
  have h0k := h0
  obtain ⟨words0, hv0, hs0, rfl, hh0⟩ := prog_in (hval 0 24 v0 rfl rfl) h0
  clear hA0 hval0
  simp only [List.append_nil] at hW'
  have hlt : ∀ x ∈ p, x.block < W.heap.size := fun x hx => by simpa using hW'.lt x hx
  refine (topswaps_law words0 hv0 hs0 W hh0).mono fun e W' ⟨he, hb⟩ => ?_
  subst he
  have er : (Rows.topSwapsSpec.fn H ([d0] ++ [])).results = [.lit (.bool true)] := by simp [Rows.topSwapsSpec]
  have ea : (Rows.topSwapsSpec.fn H ([d0] ++ [])).args = [d0] := by simp [Rows.topSwapsSpec]
  have ev : (Rows.topSwapsSpec.fn H ([d0] ++ [])).vars = [] := by simp [Rows.topSwapsSpec]
  refine ⟨_, rfl, _, _, _, [] ++ [], p, [], hW', ?_, ?_, by rw [ev]; rfl, hb.frame _, fun h => by cases h⟩
  · rw [er]; exact trodAll_mk1 (shut_bool Try.underlying4 true)
  · rw [ea]; exact trodAll_mk1 (Below.trod Tlaid (by kernel_rfl) (of_decide_eq_true (by kernel_rfl)) h0k hb hlt)

theorem over : Rows.topSwapsRow.holds Try.pinned (OpenSpec.ofChange Rows.topSwapsSpec) :=
  OpenClaim.holds_of_wide 3 Try.f3 rfl rfl rfl rfl rfl rfl rfl ⟨rfl, rfl, rfl, rfl, rfl⟩ rfl rfl rfl rfl rfl (by kernel_rfl) Try.func3 (by kernel_rfl)
    (of_decide_eq_true (by kernel_rfl)) (by unfold Func.isWrapper; first | (rw [if_pos (by decide +kernel)]; kernel_rfl) | (rw [if_neg (by decide +kernel)]; exact ⟨rfl, rfl⟩))
    (fun os started H enc _ => lifted os started H enc)

theorem proved : Rows.TopSwapsSaid :=
  over
#print axioms proved
end Go.Proofs.Ythpnnmkpbkbanaa.topSwaps
