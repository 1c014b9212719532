/-
  Package fast: what Words answers.
-/
import Derived.Test.YtjnfecaghkgdpaaDoorFastStep
import Derived.Laws.OwnMore
import Derived.Laws.MakeOwn
import Derived.StillTailTactics
import Derived.Lib.SliceRun
namespace Go.Proofs.YtjnfecaghkgdpaaDoor.Fast
open Go.RowKit

theorem TintI.info : (Tryd.prog.info? 3).map (fun i => (i.zero, i.size, i.bytes)) = some (some (.int .i64 0), 1, 8) := by kernel_rfl
theorem nums_of_lk {w : World} {base : Nat} {v : Value} {zs : List Int} (h : w.ownsRow base 3 1 v zs.length (zs.map (Value.int .i64))) (hm : zs.length ≤ 9223372036854775807) : Nums w w.heap.size v zs := by
  rcases h.2 with ⟨rfl, h0⟩ | ⟨g, cap, cur, rfl, hb, hh, hc, _, hsz, htk⟩
  · exact ⟨none, 0, by rw [h0], by omega, fun hlt => by omega⟩
  · refine ⟨_, _, rfl, hm, fun h0 => ⟨g, 0, rfl, (h.lt g rfl).2, fun i z hz => ?_⟩⟩
    have hB : Block w g 3 cur := hh
    rw [hB.cell]
    have hi : i < zs.length := (List.getElem?_eq_some_iff.1 hz).1
    have h2 : (cur.toList.take (zs.length * 1))[i]? = some (.int .i64 z) := by rw [htk, List.getElem?_map, hz]; rfl
    rw [List.getElem?_take, if_pos (by omega)] at h2
    simpa using h2
/-- The words of a lock. -/
def lkWords (n : Nat) (s : VS) : List Int := (s.X : Int) :: (s.Y : Int) :: (List.range n).map (fun p => (((s.s p).b : Nat) : Int))
theorem lkWords_len (n : Nat) (s : VS) : (lkWords n s).length = n + 2 := by simp [lkWords]
theorem lkWords_mark {n : Nat} (s : VS) {q : Nat} (hq : q < n) : (lkWords n s)[2 + q]? = some (((s.s q).b : Nat) : Int) := by
  rw [lkWords, show 2 + q = q + 1 + 1 by omega, List.getElem?_cons_succ, List.getElem?_cons_succ]
  simp [hq]
theorem words_cells {w : World} {g n : Nat} {s : VS} (h : Lk w g n s) :
    ∀ j u, ((lkWords n s).map (Value.int .i64))[j]? = some u → w.cell? ((⟨g, 1, none⟩ : Addr).add j) = some u := by
  intro j u hu
  have e : (⟨g, 1, none⟩ : Addr).add j = ⟨g, 1 + j, none⟩ := by
    unfold Addr.add
    split
    · rename_i e; subst e; rfl
    · rfl
  rw [e]
  rw [List.getElem?_map] at hu
  by_cases h0 : j = 0
  · subst h0
    cases hu
    exact Lk0.xX (s := vraw s) h
  by_cases h00 : j = 1
  · subst h00
    cases hu
    exact Lk0.xY (s := vraw s) h
  by_cases h1 : j < n + 2
  · obtain ⟨q, rfl⟩ : ∃ q, j = 2 + q := ⟨j - 2, by omega⟩
    rw [lkWords_mark s (by omega)] at hu
    cases hu
    exact Lk0.xb (s := vraw s) h (by omega)
  · rw [List.getElem?_eq_none (by rw [lkWords_len]; omega)] at hu
    cases hu

set_option maxHeartbeats 4000000 in
set_option maxRecDepth 100000 in
theorem clone_any {g o c : Nat} {zs : List Int} (w : World) (h0 : 0 < zs.length) (h8 : zs.length ≤ 1000) (hg : g < w.heap.size)
    (hc : ∀ j u, (zs.map (Value.int .i64))[j]? = some u → w.cell? ((⟨g, o, none⟩ : Addr).add j) = some u) :
    Calls Tryd.prog 21 #[.slice (some ⟨g, o, none⟩) zs.length c] w fun e w' => ∃ v, e = .returned v ∧ Nums w' w'.heap.size v zs ∧ Below w.heap.size w w' := by
  obtain ⟨i0, hi0, hz0, hz1, hz2⟩ := info_parts TintI.info
  have heq : ∀ W : World, (binOp .eql 22 (.slice (some ⟨g, o, none⟩) zs.length c) (.slice none 0 0)).run Tryd.prog W = .ok (.bool false) W := fun W => Lib.run_eql_slice_nil W 22 3 _ _ _ _ _ Tryd.underlying22
  have hcells : ∀ j u, (zs.map (Value.int .i64))[j]? = some u → (w.alloc (.cells #[] 3)).cell? ((⟨g, o, none⟩ : Addr).add j) = some u := fun j u hu =>
    (((Below.refl w.heap.size w).alloc (Nat.le_refl _) (.cells #[] 3)).cell (p := (⟨g, o, none⟩ : Addr).add j) (by unfold Addr.add; split <;> exact hg)).trans (hc j u hu)
  have HC := Lib.hid hcells
  have HB := Lib.hid ((Below.refl w.heap.size w).alloc (Nat.le_refl _) (.cells #[] 3))
  have HA := Lib.hid (World.ownsRow_made (base := w.heap.size) (e := 3) (size := 1) w #[] 0 (Nat.le_refl _) (Nat.zero_le _) rfl)
  clear hc hcells hg
  go_enter Tryd.func21, Tryd.ntmps21
  go_wp2_with (at_builtin; refine wpList_append_own _ rfl _ _ 22 rfl w.heap.size 3 i0 (.int .i64 0) 1 8 Tryd.underlying22 hi0 hz0 hz1 hz2 rfl (by decide) _ _ _ rfl HA.out ⟨g, o, none⟩ zs.length c (zs.map (Value.int .i64)) rfl (by simp) HC.out (by intro u hu; obtain ⟨z, _, rfl⟩ := List.mem_map.1 hu; rfl) (by unfold maxLen; omega) (by omega) (by simp) ?_; intro v w1 hown hgr hnn)
  go_ret
  refine ⟨v, rfl, nums_of_lk (zs := zs) (by simpa using hown) (by omega), ?_⟩
  exact HB.out.grown hgr (by simp) (fun q hq => (by have := Option.some.inj (show some w.heap.size = some q from hq); omega))

set_option maxHeartbeats 4000000 in
theorem words_any {g n : Nat} {s : VS} (w : World) (hk : Lk w g n s) (h1 : 1 ≤ n) (hn : n ≤ 4) :
    Calls Tryd.prog 12 #[.pointer (some ⟨g, 0, none⟩)] w fun e w' => ∃ v, e = .returned v ∧ Nums w' w'.heap.size v (lkWords n s) ∧ Below w.heap.size w w' := by
  have hcn := hk.num
  obtain ⟨N, hN⟩ : ∃ N, N = n + 2 := ⟨_, rfl⟩
  have hw2 : IntKind.i64.wrap (2 + (n : Int)) = (N : Int) := (IntWalk.i64_in _ (by omega)).trans (by omega)
  have hn8 : (N : Int) ≤ 6 := by omega
  have hlen : (lkWords n s).length = n + 2 := lkWords_len n s
  have hcl := clone_any (o := 1) (c := 6) (zs := lkWords n s) w.drew (by rw [hlen]; omega) (by rw [hlen]; omega) hk.lt (words_cells hk.drew)
  rw [hlen, ← hN] at hcl
  have HCL := Lib.hid hcl
  clear hk hcl hlen hN
  go_enter Tryd.func12, Tryd.ntmps12
  go_wp2_with fail
  go_region_with (go_at_call 21; refine HCL.out.mono ?_; rintro e w1 ⟨v, rfl, hv, hb⟩; have HV := Lib.hid hv; have HB := Lib.hid (below_undrew hb); clear hv hb)
  all_goals
    go_wp2
    go_ret
    exact ⟨v, rfl, HV.out, HB.out⟩
end Go.Proofs.YtjnfecaghkgdpaaDoor.Fast
