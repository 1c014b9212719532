/-
  Package snap: what is told; what a hand has read is compared.
-/
import Derived.Test.YtnplhjbbkccdnaaDoorSnapSees
import Derived.Laws.OwnMore
import Derived.Laws.MakeOwn
import Derived.Lib.SliceRun
namespace Go.Proofs.YtnplhjbbkccdnaaDoor.Snap
open Go.RowKit

theorem TintI.info : (Tryd.prog.info? 3).map (fun i => (i.zero, i.size, i.bytes)) = some (some (.int .i64 0), 1, 8) := by kernel_rfl
/-- Its memory is new from block B on. -/
def Fresh (B : Nat) (u : Value) : Prop := ∀ k, u.ownBlock = some k → B ≤ k
theorem nums_of_lk {w : World} {base : Nat} {v : Value} {zs : List Int} (h : w.ownsRow base 3 1 v zs.length (zs.map (Value.int .i64))) (hm : zs.length ≤ 9223372036854775807) : Nums w w.heap.size v zs := by
  rcases h.2 with ⟨rfl, h0⟩ | ⟨g, cap, cur, rfl, hb, hh, hc, _, hsz, htk⟩
  · exact ⟨none, 0, by rw [h0], by omega, fun hlt => by omega⟩
  · refine ⟨_, _, rfl, hm, fun h0 => ⟨g, 0, rfl, (h.lt g rfl).2, fun i z hz => ?_⟩⟩
    have hB : Block w g 3 cur := hh
    rw [hB.cell]
    have hi : i < zs.length := (List.getElem?_eq_some_iff.1 hz).1
    have h2 : (cur.toList.take (zs.length * 1))[i]? = some (.int .i64 z) := by rw [htk, List.getElem?_map, hz]; rfl
    rw [List.getElem?_take, if_pos (by omega)] at h2
    simpa using h2
set_option maxHeartbeats 4000000 in
set_option maxRecDepth 100000 in
theorem clone_any {g o c : Nat} {zs : List Int} (w : World) (h0 : 0 < zs.length) (h8 : zs.length ≤ 1000) (hg : g < w.heap.size)
    (hc : ∀ j u, (zs.map (Value.int .i64))[j]? = some u → w.cell? ((⟨g, o, none⟩ : Addr).add j) = some u) :
    Calls Tryd.prog 45 #[.slice (some ⟨g, o, none⟩) zs.length c] w fun e w' => ∃ v, e = .returned v ∧ Nums w' w'.heap.size v zs ∧ Fresh w.heap.size v ∧ Below w.heap.size w w' := by
  obtain ⟨i0, hi0, hz0, hz1, hz2⟩ := info_parts TintI.info
  have heq : ∀ W : World, (binOp .eql 30 (.slice (some ⟨g, o, none⟩) zs.length c) (.slice none 0 0)).run Tryd.prog W = .ok (.bool false) W := fun W => Lib.run_eql_slice_nil W 30 3 _ _ _ _ _ Tryd.underlying30
  have hcells : ∀ j u, (zs.map (Value.int .i64))[j]? = some u → (w.alloc (.cells #[] 3)).cell? ((⟨g, o, none⟩ : Addr).add j) = some u := fun j u hu =>
    (((Below.refl w.heap.size w).alloc (Nat.le_refl _) (.cells #[] 3)).cell (p := (⟨g, o, none⟩ : Addr).add j) (by unfold Addr.add; split <;> exact hg)).trans (hc j u hu)
  have HC := Lib.hid hcells
  have HB := Lib.hid ((Below.refl w.heap.size w).alloc (Nat.le_refl _) (.cells #[] 3))
  have HA := Lib.hid (World.ownsRow_made (base := w.heap.size) (e := 3) (size := 1) w #[] 0 (Nat.le_refl _) (Nat.zero_le _) rfl)
  clear hc hcells hg
  go_enter Tryd.func45, Tryd.ntmps45
  go_wp2_with (at_builtin; refine wpList_append_own _ rfl _ _ 30 rfl w.heap.size 3 i0 (.int .i64 0) 1 8 Tryd.underlying30 hi0 hz0 hz1 hz2 rfl (by decide) _ _ _ rfl HA.out ⟨g, o, none⟩ zs.length c (zs.map (Value.int .i64)) rfl (by simp) HC.out (by intro u hu; obtain ⟨z, _, rfl⟩ := List.mem_map.1 hu; rfl) (by unfold maxLen; omega) (by omega) (by simp) ?_; intro v w1 hown hgr hnn)
  go_ret
  refine ⟨v, rfl, nums_of_lk (zs := zs) (by simpa using hown) (by omega), fun k hk => (hown.lt k hk).1, ?_⟩
  exact HB.out.grown hgr (by simp) (fun q hq => (by have := Option.some.inj (show some w.heap.size = some q from hq); omega))



/-- What n hands have. -/
def lkS (n : Nat) (s : Nat → Nat) : List Int := (List.range n).map fun r => ((s r : Nat) : Int)
theorem lkS_len (n : Nat) (s : Nat → Nat) : (lkS n s).length = n := by simp [lkS]
theorem told_cells {w : World} {g n : Nat} {s : Nat → Nat} (hn : n ≤ 4) (h : Block w g 66 #[.int .i64 (s 0), .int .i64 (s 1), .int .i64 (s 2), .int .i64 (s 3)]) :
    ∀ j u, ((lkS n s).map (Value.int .i64))[j]? = some u → w.cell? ((⟨g, 0, none⟩ : Addr).add j) = some u := by
  intro j u hu
  have e : (⟨g, 0, none⟩ : Addr).add j = ⟨g, j, none⟩ := by
    unfold Addr.add
    split
    · rename_i e; subst e; rfl
    · simp
  rw [e, h.cell]
  by_cases hj : j < n
  · have : ((lkS n s).map (Value.int .i64))[j]? = some (.int .i64 (s j)) := by simp [lkS, hj]
    rw [this] at hu
    cases hu
    match j, (show j < 4 by omega) with
    | 0, _ => rfl
    | 1, _ => rfl
    | 2, _ => rfl
    | 3, _ => rfl
  · rw [List.getElem?_eq_none (by rw [List.length_map, lkS_len]; omega)] at hu
    cases hu
set_option maxHeartbeats 4000000 in
theorem told_any {g n : Nat} (s : Nat → Nat) (w : World) (h1 : 1 ≤ n) (h4 : n ≤ 4) (hc : w.cell? ⟨g, 0, none⟩ = some (.int .i64 n)) :
    Calls Tryd.prog 35 #[.pointer (some ⟨g, 0, none⟩), .agg #[.int .i64 (s 0), .int .i64 (s 1), .int .i64 (s 2), .int .i64 (s 3)]] w fun e w' => ∃ u, e = .returned u ∧ Nums w' w'.heap.size u (lkS n s) ∧ Fresh w.heap.size u ∧ Below w.heap.size w w' := by
  have hg : g < w.heap.size := lt_of_cell hc
  have hcl : Calls Tryd.prog 45 #[.slice (some ⟨w.heap.size, 0, none⟩) n 4] (w.alloc (.cells #[.int .i64 (s 0), .int .i64 (s 1), .int .i64 (s 2), .int .i64 (s 3)] 66)) fun e w' => ∃ u, e = .returned u ∧ Nums w' w'.heap.size u (lkS n s) ∧ Fresh w.heap.size u ∧ Below w.heap.size w w' := by
    have := clone_any (o := 0) (c := 4) (zs := lkS n s) _ (by rw [lkS_len]; omega) (by rw [lkS_len]; omega) (by rw [World.size_alloc]; exact Nat.lt_succ_self _) (told_cells h4 (Block.made w 66 #[.int .i64 (s 0), .int .i64 (s 1), .int .i64 (s 2), .int .i64 (s 3)]))
    rw [lkS_len] at this
    refine this.mono ?_
    rintro e w' ⟨u, e1, e2, ef, e3⟩
    exact ⟨u, e1, e2, fun k hk => Nat.le_trans (by simp) (ef k hk), ((Below.refl w.heap.size w).alloc (Nat.le_refl _) _).trans (e3.mono (by simp))⟩
  have HCL := Lib.hid hcl
  have hc2 : (w.alloc (.cells #[.int .i64 (s 0), .int .i64 (s 1), .int .i64 (s 2), .int .i64 (s 3)] 66)).cell? ⟨g, 0, none⟩ = some (.int .i64 n) := (World.cell?_alloc_lt _ _ _ hg).trans hc
  have hn4 : (n : Int) ≤ 4 := by omega
  clear hcl
  go_enter Tryd.func35, Tryd.ntmps35
  go_wp2_with (go_at_call 45; refine HCL.out.mono ?_; rintro e w1 ⟨u, rfl, hv, hf, hb⟩; have HV := Lib.hid hv; have HF := Lib.hid hf; have HB := Lib.hid hb; clear hv hb hf)
  go_ret
  exact ⟨u, rfl, HV.out, HF.out, HB.out⟩
end Go.Proofs.YtnplhjbbkccdnaaDoor.Snap
