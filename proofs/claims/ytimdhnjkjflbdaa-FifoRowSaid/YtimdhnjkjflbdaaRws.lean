/-
  A slice of lists of numbers that came in.
-/
import Derived.Test.YtimdhnjkjflbdaaBase
namespace Go.Proofs.Ytimdhnjkjflbdaa
open Go.RowKit

/-- The slice value v has the lists ls, in blocks below B. -/
def Rws (w : World) (B : Nat) (v : Value) (ls : List (List Int)) : Prop :=
  ∃ A c, v = .slice A ls.length c ∧ ls.length ≤ 9223372036854775807 ∧
    (0 < ls.length → ∃ b o, A = some ⟨b, o, none⟩ ∧ b < B ∧ ∀ (i : Nat) l, ls[i]? = some l → ∃ u, w.cell? ⟨b, o + i, none⟩ = some u ∧ Nums w B u l)
theorem Rws.keep {w w' : World} {B : Nat} {v : Value} {ls : List (List Int)} (h : Rws w B v ls) (hk : ∀ p : Addr, p.block < B → w'.cell? p = w.cell? p) : Rws w' B v ls := by
  obtain ⟨A, c, e, hl, h⟩ := h
  refine ⟨A, c, e, hl, fun h0 => ?_⟩
  obtain ⟨b, o, e1, hb, hc⟩ := h h0
  refine ⟨b, o, e1, hb, fun i l hi => ?_⟩
  obtain ⟨u, hu, hn⟩ := hc i l hi
  exact ⟨u, (hk _ hb).trans hu, hn.keep hk⟩
theorem Rws.below {w w' : World} {B B' : Nat} {v : Value} {ls : List (List Int)} (h : Rws w B v ls) (hb : Below B' w w') (hB : B ≤ B') : Rws w' B v ls :=
  h.keep fun _ hp => hb.cell (Nat.lt_of_lt_of_le hp hB)
theorem Rws.more {w : World} {B B' : Nat} {v : Value} {ls : List (List Int)} (h : Rws w B v ls) (hB : B ≤ B') : Rws w B' v ls := by
  obtain ⟨A, c, e, hl, h⟩ := h
  refine ⟨A, c, e, hl, fun h0 => ?_⟩
  obtain ⟨b, o, e1, hb, hc⟩ := h h0
  refine ⟨b, o, e1, Nat.lt_of_lt_of_le hb hB, fun i l hi => ?_⟩
  obtain ⟨u, hu, hn⟩ := hc i l hi
  exact ⟨u, hu, hn.more hB⟩
/-- The list at place k: where its slice lies. -/
theorem Rws.at_ {w : World} {B : Nat} {A : Option Addr} {c : Nat} {ls : List (List Int)} (h : Rws w B (.slice A ls.length c) ls) {k : Nat} {l : List Int} (hk : ls[k]? = some l) :
    ∃ b o, A = some ⟨b, o, none⟩ ∧ ∃ A' c', w.cell? ⟨b, o + k, none⟩ = some (.slice A' l.length c') ∧ Nums w B (.slice A' l.length c') l := by
  obtain ⟨A0, c0, e, hl, h⟩ := h
  injection e with e1 _ e3
  subst e1 e3
  obtain ⟨b, o, e1, hb, hc⟩ := h (by have := (List.getElem?_eq_some_iff.1 hk).1; omega)
  obtain ⟨u, hu, hn⟩ := hc k l hk
  obtain ⟨A', c', e', _⟩ := id hn
  exact ⟨b, o, e1, A', c', by rw [← e']; exact hu, by rw [← e']; exact hn⟩
/-- The number at place k of a list: where it lies. -/
theorem Nums.at_ {w : World} {B : Nat} {A : Option Addr} {n c : Nat} {l : List Int} (h : Nums w B (.slice A n c) l) {k : Nat} {z : Int} (hk : l[k]? = some z) :
    ∃ b o, A = some ⟨b, o, none⟩ ∧ b < B ∧ w.cell? ⟨b, o + k, none⟩ = some (.int .i64 z) := by
  obtain ⟨A0, c0, e, hl, h⟩ := h
  injection e with e1 _ e3
  subst e1 e3
  obtain ⟨b, o, e1, hb, hc⟩ := h (by have := (List.getElem?_eq_some_iff.1 hk).1; omega)
  exact ⟨b, o, e1, hb, hc k z hk⟩
end Go.Proofs.Ytimdhnjkjflbdaa
