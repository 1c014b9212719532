/-
  Package ring: what Places answers.
-/
import Derived.Test.YtbicckeoidijpaaDoorDequeLkN
import Derived.Laws.OwnMore
import Derived.Laws.MakeOwn
import Derived.StillTailTactics
import Derived.Lib.SliceRun
namespace Go.Proofs.YtbicckeoidijpaaDoor.Dq
open Go.RowKit

theorem TintI.info : (Tryd.prog.info? 3).map (fun i => (i.zero, i.size, i.bytes)) = some (some (.int .i64 0), 1, 8) := by kernel_rfl
theorem nums_of_lk {w : World} {base : Nat} {v : Value} {zs : List Int} (h : w.ownsRow base 3 1 v zs.length (zs.map (Value.int .i64))) (hm : zs.length ≤ 9223372036854775807) : Nums w w.heap.size v zs := by
  rcases h.2 with ⟨rfl, h0⟩ | ⟨g, cap, cur, rfl, hb, hh, hc, _, hsz, htk⟩
  · exact ⟨none, 0, by rw [h0], by omega, fun hlt => by omega⟩
  · refine ⟨_, _, rfl, hm, fun h0 => ⟨g, 0, rfl, (h.lt g rfl).2, fun i z hz => ?_⟩⟩
    have hB : Block w g 3 cur := hh
    rw [hB.cell]
    have hi : i < zs.length := (List.getElem?_eq_some_iff.1 hz).1
    have h2 : (cur.toList.take (zs.length * 1))[i]? = some (.int .i64 z) := by rw [htk, List.getElem?_map, hz]; rfl
    rw [List.getElem?_take, if_pos (by omega)] at h2
    simpa using h2
/-- The places of a deque. -/
def lkPlaces (s : DV) : List Int := (List.range 8).map s.pl
theorem lkPlaces_len (s : DV) : (lkPlaces s).length = 8 := by simp [lkPlaces]
theorem places_cells {w : World} {g n : Nat} {v : DV} (h : Lk w g n v) :
    ∀ j u, ((lkPlaces v).map (Value.int .i64))[j]? = some u → w.cell? ((⟨g, 1, none⟩ : Addr).add j) = some u := by
  intro j u hu
  have e : (⟨g, 1, none⟩ : Addr).add j = ⟨g, 1 + j, none⟩ := by
    unfold Addr.add
    split
    · rename_i e; subst e; rfl
    · rfl
  rw [e]
  rw [List.getElem?_map] at hu
  by_cases h1 : j < 8
  · rw [show (lkPlaces v)[j]? = some (v.pl j) by simp [lkPlaces, h1]] at hu
    cases hu
    exact h.xpl h1
  · rw [List.getElem?_eq_none (by rw [lkPlaces_len]; omega)] at hu
    cases hu

set_option maxHeartbeats 4000000 in
set_option maxRecDepth 100000 in
theorem clone_any {g o c : Nat} {zs : List Int} (w : World) (h0 : 0 < zs.length) (h8 : zs.length ≤ 1000) (hg : g < w.heap.size)
    (hc : ∀ j u, (zs.map (Value.int .i64))[j]? = some u → w.cell? ((⟨g, o, none⟩ : Addr).add j) = some u) :
    Calls Tryd.prog 24 #[.slice (some ⟨g, o, none⟩) zs.length c] w fun e w' => ∃ v, e = .returned v ∧ Nums w' w'.heap.size v zs ∧ Below w.heap.size w w' := by
  obtain ⟨i0, hi0, hz0, hz1, hz2⟩ := info_parts TintI.info
  have heq : ∀ W : World, (binOp .eql 29 (.slice (some ⟨g, o, none⟩) zs.length c) (.slice none 0 0)).run Tryd.prog W = .ok (.bool false) W := fun W => Lib.run_eql_slice_nil W 29 3 _ _ _ _ _ Tryd.underlying29
  have hcells : ∀ j u, (zs.map (Value.int .i64))[j]? = some u → (w.alloc (.cells #[] 3)).cell? ((⟨g, o, none⟩ : Addr).add j) = some u := fun j u hu =>
    (((Below.refl w.heap.size w).alloc (Nat.le_refl _) (.cells #[] 3)).cell (p := (⟨g, o, none⟩ : Addr).add j) (by unfold Addr.add; split <;> exact hg)).trans (hc j u hu)
  have HC := Lib.hid hcells
  have HB := Lib.hid ((Below.refl w.heap.size w).alloc (Nat.le_refl _) (.cells #[] 3))
  have HA := Lib.hid (World.ownsRow_made (base := w.heap.size) (e := 3) (size := 1) w #[] 0 (Nat.le_refl _) (Nat.zero_le _) rfl)
  clear hc hcells hg
  go_enter Tryd.func24, Tryd.ntmps24
  go_wp2_with (at_builtin; refine wpList_append_own _ rfl _ _ 29 rfl w.heap.size 3 i0 (.int .i64 0) 1 8 Tryd.underlying29 hi0 hz0 hz1 hz2 rfl (by decide) _ _ _ rfl HA.out ⟨g, o, none⟩ zs.length c (zs.map (Value.int .i64)) rfl (by simp) HC.out (by intro u hu; obtain ⟨z, _, rfl⟩ := List.mem_map.1 hu; rfl) (by unfold maxLen; omega) (by omega) (by simp) ?_; intro v w1 hown hgr hnn)
  go_ret
  refine ⟨v, rfl, nums_of_lk (zs := zs) (by simpa using hown) (by omega), ?_⟩
  exact HB.out.grown hgr (by simp) (fun q hq => (by have := Option.some.inj (show some w.heap.size = some q from hq); omega))

set_option maxHeartbeats 4000000 in
theorem places_any {g n : Nat} {v : DV} (w : World) (hk : Lk w g n v) :
    Calls Tryd.prog 16 #[.pointer (some ⟨g, 0, none⟩)] w fun e w' => ∃ u, e = .returned u ∧ Nums w' w'.heap.size u (lkPlaces v) ∧ Below w.heap.size w w' := by
  have hlen : (lkPlaces v).length = 8 := lkPlaces_len v
  have hcl := clone_any (o := 1) (c := 8) (zs := lkPlaces v) w (by rw [hlen]; omega) (by rw [hlen]; omega) hk.lt (places_cells hk)
  rw [hlen] at hcl
  have HCL := Lib.hid hcl
  clear hk hcl hlen
  go_enter Tryd.func16, Tryd.ntmps16
  go_wp2_with (go_at_call 24; refine HCL.out.mono ?_; rintro e w1 ⟨u, rfl, hv, hb⟩; have HV := Lib.hid hv; have HB := Lib.hid hb; clear hv hb)
  go_ret
  exact ⟨u, rfl, HV.out, HB.out⟩
theorem placesL {w wr : World} {g n : Nat} {s : DV} {A : Nat} (h : LkAt w wr g n s A) :
    Calls Tryd.prog 16 #[.pointer (some ⟨g, 0, none⟩)] wr fun e w' => ∃ u, e = .returned u ∧ Nums w' w'.heap.size u (lkPlaces s) ∧ Below wr.heap.size wr w' ∧ LkAt w w' g n s A := by
  obtain ⟨v, hv, hr⟩ := h.lk
  have hp : lkPlaces v = lkPlaces s := by unfold lkPlaces; rw [hr.pl]
  exact (places_any wr hv).mono fun _ _ ⟨u, he, hn, hb⟩ => ⟨u, he, hp ▸ hn, hb, h.on hb (Nat.le_refl _)⟩
end Go.Proofs.YtbicckeoidijpaaDoor.Dq
