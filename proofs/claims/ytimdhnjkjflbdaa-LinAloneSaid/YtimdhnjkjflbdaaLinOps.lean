/-
  Histories of the law's own: what is appended; an op's cells, written.
-/
import Derived.Test.YtimdhnjkjflbdaaLinRow
namespace Go.Proofs.Ytimdhnjkjflbdaa.Lin
open Go.RowKit

theorem Top.info : (Try.prog.info? 34).map (fun i => (i.zero, i.size, i.bytes)) = some (some (.agg #[.int .i64 0, .int .i64 0, .int .i64 0, .int .i64 0, .int .i64 0, .int .i64 0]), 6, 48) := by kernel_rfl
theorem errV_bad {ob : Int} {h : List LO} (e : lchk ob h ≠ 0) : errV 55 (lchk ob h) = .iface 55 (.int .i64 (lchk ob h)) := by
  rcases lchk_errs ob h with e2 | e2 | e2 | e2 | e2
  · exact absurd e2 e
  all_goals (rw [e2]; rfl)
theorem nums_form {w : World} {B : Nat} {v : Value} {zs : List Int} (h : Nums w B v zs) : ∃ A c, v = .slice A zs.length c ∧ zs.length ≤ 9223372036854775807 := by
  obtain ⟨A, c, e, hl, _⟩ := h
  exact ⟨A, c, e, hl⟩
theorem lcells_one {h : List LO} : ∀ u ∈ lcells h, u.oneCell' = true := by
  intro u hu
  obtain ⟨o, _, ho⟩ := List.mem_flatMap.1 hu
  simp [LO.cells] at ho
  rcases ho with e | e | e | e | e | e <;> subst e <;> rfl
/-- All cells of a history that is read. -/
theorem ops_cells {w : World} {B b o c : Nat} {h : List LO} (hh : Ops w B (.slice (some ⟨b, o, none⟩) h.length c) h) : ∀ j u, (lcells h)[j]? = some u → w.cell? ((⟨b, o, none⟩ : Addr).add j) = some u := by
  intro j u hj
  have hjl : j < (lcells h).length := (List.getElem?_eq_some_iff.1 hj).1
  rw [lcells_len] at hjl
  have hj6 : j % 6 < 6 := Nat.mod_lt _ (by omega)
  have e : j = j / 6 * 6 + j % 6 := by omega
  have hi : j / 6 < h.length := by omega
  obtain ⟨A0, c0, ea, _, hf⟩ := hh
  injection ea with e1 _ _
  subst e1
  obtain ⟨b', o', e3, hb, hc⟩ := hf (by omega)
  injection e3 with e3
  injection e3 with e4 e5
  subst e4 e5
  rw [Addr.add_lit, e, show o + (j / 6 * 6 + j % 6) = o + j / 6 * 6 + j % 6 by omega]
  refine hc (j / 6) _ (lat_get hi) (j % 6) u ?_
  rw [e] at hj
  rw [← lcells_get (lat_get hi) hj6]
  exact hj
end Go.Proofs.Ytimdhnjkjflbdaa.Lin
