/-
  Lines as cells: what is appended to a slice of lines.
-/
import Derived.Test.YthpnnmkpbkbanaaDoorBase
import Derived.Laws.OwnMore
import Derived.Outline
namespace Go.Proofs.YthpnnmkpbkbanaaDoor
open Go.RowKit

def lnCells (l : Ln) : List Value := [.int .i64 l.k, .int .i64 l.r, .int .i64 l.d, .int .i64 l.v]
theorem flat_cells (ls : List Ln) (i : Nat) (l : Ln) (h : ls[i]? = some l) :
    (ls.flatMap lnCells)[i * 4]? = some (.int .i64 l.k) ∧ (ls.flatMap lnCells)[i * 4 + 1]? = some (.int .i64 l.r) ∧ (ls.flatMap lnCells)[i * 4 + 2]? = some (.int .i64 l.d) ∧ (ls.flatMap lnCells)[i * 4 + 3]? = some (.int .i64 l.v) := by
  induction ls generalizing i with
  | nil => simp at h
  | cons x r ih =>
    rw [List.flatMap_cons]
    match i, h with
    | 0, h => simp at h; subst h; simp [lnCells]
    | i + 1, h =>
      have := ih i (by simpa using h)
      have e : ∀ j, (lnCells x ++ r.flatMap lnCells)[(i + 1) * 4 + j]? = (r.flatMap lnCells)[i * 4 + j]? := fun j => by
        rw [List.getElem?_append_right (by simp [lnCells]; omega)]
        congr 1
        simp [lnCells]; omega
      exact ⟨(e 0).trans this.1, (e 1).trans this.2.1, (e 2).trans this.2.2.1, (e 3).trans this.2.2.2⟩
theorem lines_of_own {w : World} {base e : Nat} {v : Value} {ls : List Ln} (h : w.ownsRow base e 4 v ls.length (ls.flatMap lnCells)) (hm : ls.length ≤ 9223372036854775807) : Lines w w.heap.size v ls := by
  rcases h.2 with ⟨rfl, h0⟩ | ⟨g, cap, cur, rfl, hb, hh, hc, _, _, _⟩
  · exact ⟨none, 0, by rw [h0], by omega, fun hlt => by omega⟩
  · have get : ∀ j u, (ls.flatMap lnCells)[j]? = some u → w.cell? ⟨g, 0 + j, none⟩ = some u := fun j u hu => by
      have := h.cells (g := g) rfl j u hu
      unfold Addr.add at this
      split at this
      · rename_i hi; subst hi; simpa using this
      · simpa using this
    refine ⟨_, _, rfl, hm, fun h0 => ⟨g, 0, rfl, (h.lt g rfl).2, fun i l hl => ?_⟩⟩
    obtain ⟨a1, a2, a3, a4⟩ := flat_cells ls i l hl
    exact ⟨get _ _ a1, get _ _ a2, get _ _ a3, get _ _ a4⟩

theorem four_cells {w : World} {g : Nat} {a b c d : Value} (h0 : w.cell? ⟨g, 0, none⟩ = some a) (h1 : w.cell? ⟨g, 1, none⟩ = some b) (h2 : w.cell? ⟨g, 2, none⟩ = some c) (h3 : w.cell? ⟨g, 3, none⟩ = some d) : ∀ j u, [a, b, c, d][j]? = some u → w.cell? ((⟨g, 0, none⟩ : Addr).add j) = some u := by
  intro j u hu
  match j, hu with
  | 0, hu => simp at hu; subst hu; simpa [Addr.add] using h0
  | 1, hu => simp at hu; subst hu; simpa [Addr.add] using h1
  | 2, hu => simp at hu; subst hu; simpa [Addr.add] using h2
  | 3, hu => simp at hu; subst hu; simpa [Addr.add] using h3

/-- A store into a block that is too small for a line turns no line. -/
theorem lines_set {w : World} {B g : Nat} {v : Value} {ls : List Ln} {t : TypeId} {cs : Array Value} (h : Lines w B v ls) (k : Block w g t cs) (hs : cs.size < 4) (i : Nat) (u : Value) : Lines (w.setCell ⟨g, i, none⟩ u) B v ls := by
  obtain ⟨A, c, e, hl, h⟩ := h
  refine ⟨A, c, e, hl, fun h0 => ?_⟩
  obtain ⟨b, o, e1, hb, hc⟩ := h h0
  have hne : b ≠ g := by
    rintro rfl
    have := (hc 0 ls[0] (List.getElem?_eq_getElem h0)).2.2.2
    rw [k.cell, Array.getElem?_eq_none (by omega)] at this
    cases this
  have far : ∀ j, (w.setCell ⟨g, i, none⟩ u).cell? ⟨b, j, none⟩ = w.cell? ⟨b, j, none⟩ := fun j => World.cell?_setCell_other _ _ _ _ (fun e => hne (by injection e with e; exact e.symm))
  exact ⟨b, o, e1, hb, fun i l hz => by simpa only [far] using hc i l hz⟩

theorem Tln.info : (Tryd.prog.info? 40).map (fun i => (i.zero, i.size, i.bytes)) = some (some (.agg #[.int .i64 0, .int .i64 0, .int .i64 0, .int .i64 0]), 4, 32) := by kernel_rfl

end Go.Proofs.YthpnnmkpbkbanaaDoor
