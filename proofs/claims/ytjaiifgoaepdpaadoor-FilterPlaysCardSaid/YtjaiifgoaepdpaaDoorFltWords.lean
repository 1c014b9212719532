/-
  Package filter: what Words answers.
-/
import Derived.Test.YtjaiifgoaepdpaaDoorFlt
import Derived.Laws.OwnMore
import Derived.Laws.MakeOwn
import Derived.StillTailTactics
namespace Go.Proofs.YtjaiifgoaepdpaaDoor.Filter
open Go.RowKit

theorem TintI.info : (Tryd.prog.info? 3).map (fun i => (i.zero, i.size, i.bytes)) = some (some (.int .i64 0), 1, 8) := by kernel_rfl
theorem nums_of_lk {w : World} {base : Nat} {v : Value} {zs : List Int} (h : w.ownsRow base 3 1 v zs.length (zs.map (Value.int .i64))) (hm : zs.length ≤ 9223372036854775807) : Nums w w.heap.size v zs := by
  rcases h.2 with ⟨rfl, h0⟩ | ⟨g, cap, cur, rfl, hb, hh, hc, _, hsz, htk⟩
  · exact ⟨none, 0, by rw [h0], by omega, fun hlt => by omega⟩
  · refine ⟨_, _, rfl, hm, fun h0 => ⟨g, 0, rfl, (h.lt g rfl).2, fun i z hz => ?_⟩⟩
    have hB : Block w g 3 cur := hh
    rw [hB.cell]
    have hi : i < zs.length := (List.getElem?_eq_some_iff.1 hz).1
    have h2 : (cur.toList.take (zs.length * 1))[i]? = some (.int .i64 z) := by rw [htk, List.getElem?_map, hz]; rfl
    rw [List.getElem?_take, if_pos (by omega)] at h2
    simpa using h2
/-- The words of a lock. -/
def lkWords (n : Nat) (s : FS) : List Int := (List.range n).map (fun p => ((s.l p : Nat) : Int)) ++ (List.range n).map (fun d => ((s.v (d + 1) : Nat) : Int))
theorem range_cells {w : World} {g o n : Nat} {f : Nat → Nat} (h : ∀ i, i < n → w.cell? ⟨g, o + i, none⟩ = some (.int .i64 (f i))) :
    ∀ j u, ((List.range n).map (fun p => ((f p : Nat) : Int)) |>.map (Value.int .i64))[j]? = some u → w.cell? ((⟨g, o, none⟩ : Addr).add j) = some u := by
  intro j u hu
  simp only [List.getElem?_map] at hu
  by_cases hj : j < n
  · rw [List.getElem?_range hj] at hu
    simp only [Option.map_some, Option.some.injEq] at hu
    subst hu
    have := h j hj
    unfold Addr.add
    split
    · rename_i e; subst e; simpa using this
    · simpa using this
  · rw [List.getElem?_eq_none (by simp; omega)] at hu
    cases hu

set_option maxHeartbeats 4000000 in
set_option maxRecDepth 100000 in
theorem words_any {g n : Nat} {s : FS} (w : World) (hk : Lk w g n s) (h1 : 1 ≤ n) (hn : n ≤ 4) :
    Calls Tryd.prog 11 #[.pointer (some ⟨g, 0, none⟩)] w fun e w' => ∃ v, e = .returned v ∧ Nums w' w'.heap.size v (lkWords n s) ∧ Below w.heap.size w w' := by
  obtain ⟨i0, hi0, hz0, hz1, hz2⟩ := info_parts TintI.info
  have hcn := hk.num
  have hlt := hk.lt
  have hw2 : IntKind.i64.wrap (2 * (n : Int)) = 2 * (n : Int) := IntWalk.i64_in _ (by omega)
  have hw1 : IntKind.i64.wrap ((n : Int) + 1) = (n : Int) + 1 := IntWalk.i64_in _ (by omega)
  have hmk : ∀ w, (Instr.makeSlice 22 (.int .i64 0) (.int .i64 (2 * (n : Int)))).run Tryd.prog w = .ok (.slice (some ⟨w.heap.size, 0, none⟩) 0 (2 * n)) (w.alloc (.cells (madeCells #[.int .i64 0] (2 * n)) 3)) := by
    intro w
    have := run_make (P := Tryd.prog) w 22 3 i0 _ Tryd.underlying22 hi0 hz0 .i64 .i64 0 (2 * n : Nat) (by omega) (by omega) (by rw [hz2]; omega) (by omega)
    have e : (2 * (n : Int)).toNat = 2 * n := by omega
    simpa [hz1, e, Value.cells] using this
  have HA := Lib.hid (World.ownsRow_made (base := w.heap.size) (e := 3) (size := 1) w (madeCells #[.int .i64 0] (2 * n)) (2 * n) (Nat.le_refl _) (by unfold maxLen; omega) (by simp [size_madeCells]))
  have HB := Lib.hid ((Below.refl w.heap.size w).alloc (Nat.le_refl _) (.cells (madeCells #[.int .i64 0] (2 * n)) 3))
  have HK := Lib.hid hk
  go_enter Tryd.func11, Tryd.ntmps11
  go_wp2
  obtain ⟨V, hV⟩ : ∃ V, V = w.alloc (.cells (madeCells #[.int .i64 0] (2 * n)) 3) := ⟨_, rfl⟩
  rw [← hV] at HA HB ⊢
  have hvs : w.heap.size + 1 = V.heap.size := by rw [hV]; simp
  have HKV := Lib.hid (show Lk V g n s from (by obtain ⟨cs, h1, h2⟩ := HK.out; exact ⟨cs, (by rw [hV]; exact h1.alloc _), h2⟩))
  clear hV
  have HC1 := Lib.hid (range_cells (w := V.drew) (g := g) (o := 1) (n := n) (f := s.l) (fun i hi => HKV.out.l hi))
  have hcv := HKV.out.num
  have HA' := Lib.hid (show V.drew.ownsRow w.heap.size 3 1 (.slice (some ⟨w.heap.size, 0, none⟩) 0 (2 * n)) 0 [] from HA.out)
  have HB' := Lib.hid (show Below w.heap.size w V.drew from HB.out.drew)
  have hn4 : (n : Int) ≤ 4 := by omega
  clear hk HK HA HB hcn
  go_still_tail 9, (by kernel_rfl)
  change wpList _ _ _ _ _ V.drew
  go_wp2_with (at_builtin; refine wpList_append_own _ rfl (.tmp 10) (.tmp 18) 22 rfl w.heap.size 3 i0 (.int .i64 0) 1 8 Tryd.underlying22 hi0 hz0 hz1 hz2 rfl (by decide) _ _ _ rfl HA'.out ⟨g, 1, none⟩ n 4 _ rfl (by simp) HC1.out (by intro u hu; obtain ⟨z, _, rfl⟩ := List.mem_map.1 hu; rfl) (by unfold maxLen; omega) (by omega) (by simp; omega) ?_; intro v' w3 hown3 hg3 _)
  have HB3 := Lib.hid (HB'.out.grown hg3 HB'.out.size (fun q hq => by have := Option.some.inj (show some w.heap.size = some q from hq); omega))
  have HK3 := Lib.hid (show Lk w3 g n s from (by obtain ⟨cs, h1, h2⟩ := HKV.out; exact ⟨cs, (hg3.block g (by have := h1.lt; exact this) (fun e => by have := Option.some.inj (show some w.heap.size = some g from e.symm); omega)).trans h1, h2⟩))
  have HO3 := Lib.hid hown3
  have hcv3 := HK3.out.num
  have hn5 : (n : Int) + 1 ≤ 5 := by omega
  have hn1 : (1 : Int) ≤ (n : Int) + 1 := by omega
  clear hown3 hg3 hcv
  go_still_tail 10, (by kernel_rfl)
  change wpList _ _ _ _ _ w3.drew
  have HC2 := Lib.hid (range_cells (w := w3.drew) (g := g) (o := 6) (n := n) (f := fun d => s.v (d + 1)) (fun i hi => by have := HK3.out.v (d := i + 1) (by omega) (by omega); rw [show 5 + (i + 1) = 6 + i by omega] at this; exact this))
  have HO3' := Lib.hid (show w3.drew.ownsRow w.heap.size 3 1 v' (0 + n) ([] ++ ((List.range n).map (fun p => ((s.l p : Nat) : Int)) |>.map (Value.int .i64))) from HO3.out)
  go_wp2_with (at_builtin; refine wpList_append_own _ rfl (.tmp 20) (.tmp 29) 22 rfl w.heap.size 3 i0 (.int .i64 0) 1 8 Tryd.underlying22 hi0 hz0 hz1 hz2 rfl (by decide) _ _ _ rfl HO3'.out ⟨g, 6, none⟩ n 4 _ rfl (by simp) HC2.out (by intro u hu; obtain ⟨z, _, rfl⟩ := List.mem_map.1 hu; rfl) (by unfold maxLen; omega) (by omega) (by have := HB3.out.size; simp; omega) ?_; intro v4 w4 hown4 hg4 _)
  go_ret
  refine ⟨v4, rfl, nums_of_lk (zs := lkWords n s) (by rw [lkWords, List.map_append, List.length_append, List.length_map, List.length_map, List.length_range]; simpa using hown4) (by simp [lkWords]; omega), ?_⟩
  exact HB3.out.drew.grown hg4 HB3.out.size (fun q hq => (HO3.out.lt q hq).1)
end Go.Proofs.YtjaiifgoaepdpaaDoor.Filter
