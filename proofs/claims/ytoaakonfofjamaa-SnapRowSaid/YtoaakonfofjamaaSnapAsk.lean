/-
  Package snap: Write, Look, Step where they are right, and where they are not.
-/
import Derived.Test.YtoaakonfofjamaaSnapFact
import Derived.Test.YtoaakonfofjamaaRws
namespace Go.Proofs.Ytoaakonfofjamaa.Snap
open Go.RowKit

theorem row_case (l : List Int) : (∃ x y, l = [x, y]) ∨ (∃ x, l = [x]) ∨ l.length ≠ 2 ∧ l.length ≠ 1 := by
  match l with
  | [] => exact .inr (.inr ⟨by simp, by simp⟩)
  | [x] => exact .inr (.inl ⟨x, rfl⟩)
  | [x, y] => exact .inl ⟨x, y, rfl⟩
  | _ :: _ :: _ :: _ => exact .inr (.inr ⟨by simp, by simp⟩)
/-- The list at place k, where it came in. -/
theorem rws_at {w : World} {A : Option Addr} {c : Nat} {ls : List (List Int)} (h : Rws w w.heap.size (.slice A ls.length c) ls) {k : Nat} {l : List Int} (hk : ls[k]? = some l) :
    ∃ b o, A = some ⟨b, o, none⟩ ∧ b < w.heap.size ∧ ∃ A' c', w.cell? ⟨b, o + k, none⟩ = some (.slice A' l.length c') ∧ Nums w w.heap.size (.slice A' l.length c') l := by
  obtain ⟨b, o, e, A', c', h1, h2⟩ := h.at_ hk
  exact ⟨b, o, e, lt_of_cell h1, A', c', h1, h2⟩
theorem errV_ne {z : Int} (h : z ≠ 0) : ∃ u, errV 39 z = .iface 39 u := by
  unfold errV
  rw [if_neg h]
  exact ⟨_, rfl⟩
section
variable {w wr w' : World} {g n T : Nat} {s : SS}
theorem writeNil (h : LkAt w wr g n T s) {p x : Int} (he : wrE n s p x = 0) :
    Calls Try.prog 8 #[.pointer (some ⟨g, 0, none⟩), .int .i64 p, .int .i64 x] wr fun e w' => e = .returned .nilIface ∧ LkAt w w' g n T (gwr n s p x) ∧ Touch (fun k => k = g) wr w' :=
  (writeT h p x).mono fun _ _ ⟨h1, h2, h3⟩ => ⟨by rw [h1, he]; rfl, h2, h3⟩
theorem writeErr (h : LkAt w wr g n T s) {p x : Int} (he : wrE n s p x ≠ 0) :
    Calls Try.prog 8 #[.pointer (some ⟨g, 0, none⟩), .int .i64 p, .int .i64 x] wr fun e w' => (∃ u, e = .returned (.iface 39 u)) ∧ LkAt w w' g n T s ∧ Touch (fun k => k = g) wr w' :=
  (writeT h p x).mono fun _ _ ⟨h1, h2, h3⟩ => by
    obtain ⟨u, hu⟩ := errV_ne he
    have e : gwr n s p x = s := if_neg he
    rw [e] at h2
    exact ⟨⟨u, by rw [h1, hu]⟩, h2, h3⟩
theorem lookNil (h : LkAt w wr g n T s) {p : Int} (he : bgE n s p = 0) :
    Calls Try.prog 9 #[.pointer (some ⟨g, 0, none⟩), .int .i64 p] wr fun e w' => e = .returned .nilIface ∧ LkAt w w' g n T (glk n s p) ∧ Touch (fun k => k = g) wr w' :=
  (lookT h p).mono fun _ _ ⟨h1, h2, h3⟩ => ⟨by rw [h1, he]; rfl, h2, h3⟩
theorem lookErr (h : LkAt w wr g n T s) {p : Int} (he : bgE n s p ≠ 0) :
    Calls Try.prog 9 #[.pointer (some ⟨g, 0, none⟩), .int .i64 p] wr fun e w' => (∃ u, e = .returned (.iface 39 u)) ∧ LkAt w w' g n T s ∧ Touch (fun k => k = g) wr w' :=
  (lookT h p).mono fun _ _ ⟨h1, h2, h3⟩ => by
    obtain ⟨u, hu⟩ := errV_ne he
    have e : glk n s p = s := if_neg he
    rw [e] at h2
    exact ⟨⟨u, by rw [h1, hu]⟩, h2, h3⟩
/-- Does p step? -/
def stOk (n : Nat) (s : SS) (p : Int) : Prop := (0 ≤ p ∧ p < n) ∧ (s.h p.toNat).a ≠ 0
instance (n : Nat) (s : SS) (p : Int) : Decidable (stOk n s p) := by unfold stOk; infer_instance
theorem stepNil (h : LkAt w wr g n T s) (hT : T ≤ 1000000) {p : Int} (he : stOk n s p) :
    Calls Try.prog 10 #[.pointer (some ⟨g, 0, none⟩), .int .i64 p] wr fun e w' => (∃ u, e = .returned (.tuple #[.bool (decide ((sone n s p.toNat).a = 0)), u, .nilIface]) ∧ (∀ f, stold n s p.toNat = some f → Nums w' w'.heap.size u (lkS n f) ∧ Fresh wr.heap.size u) ∧ (stold n s p.toNat = none → u = .slice none 0 0)) ∧ LkAt w w' g n (T + 1) (gst n s p) ∧ Touch (fun k => k = g) wr w' :=
  (stepT h hT p).mono fun _ _ ⟨h1, h2, h3⟩ => by
    unfold GR at h1
    rw [if_neg (show ¬ ¬ (0 ≤ p ∧ p < n) from fun h => h he.1), if_neg he.2] at h1
    exact ⟨h1, h2, h3⟩
theorem stepErr (h : LkAt w wr g n T s) (hT : T ≤ 1000000) {p : Int} (he : ¬ stOk n s p) :
    Calls Try.prog 10 #[.pointer (some ⟨g, 0, none⟩), .int .i64 p] wr fun e w' => (∃ u, e = .returned (.tuple #[.bool false, .slice none 0 0, .iface 39 u])) ∧ LkAt w w' g n (T + 1) s ∧ Touch (fun k => k = g) wr w' :=
  (stepT h hT p).mono fun _ _ ⟨h1, h2, h3⟩ => by
    have e : gst n s p = s := if_pos (by
      unfold stOk at he
      by_cases h : 0 ≤ p ∧ p < n
      · exact Or.inr (Decidable.of_not_not fun h2 => he ⟨h, h2⟩)
      · exact Or.inl h)
    rw [e] at h2
    refine ⟨?_, h2, h3⟩
    unfold GR at h1
    by_cases hp : 0 ≤ p ∧ p < n
    · rw [if_neg (show ¬ ¬ (0 ≤ p ∧ p < n) from fun h => h hp), if_pos (Decidable.of_not_not fun h2 => he ⟨hp, h2⟩)] at h1
      exact ⟨_, h1⟩
    · rw [if_pos hp] at h1
      exact ⟨_, h1⟩
end
theorem gst_ok {n : Nat} {s : SS} {x : Int} (he : stOk n s x) : gst n s x = sstep n s x.toNat := if_neg fun h => h.elim (fun h => h he.1) he.2
end Go.Proofs.Ytoaakonfofjamaa.Snap
