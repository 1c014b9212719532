/-
  What (prog.state).told answers.
-/
import Derived.Test.YthpnnmkpbkbanaaDoorState
import Derived.Deep.LoopGhost
import Derived.Deep.MidRow
namespace Go.Proofs.YthpnnmkpbkbanaaDoor
open Go.RowKit

theorem Tin.info : (Tryd.prog.info? 3).map (fun i => (i.zero, i.size, i.bytes)) = some (some (.int .i64 0), 1, 8) := by kernel_rfl

/-- A row of the call's own reads as its numbers. -/
theorem nums_of_own {w : World} {base e : Nat} {v : Value} {zs : List Int} (h : w.ownsRow base e 1 v zs.length (zs.map (Value.int .i64))) (hm : zs.length ≤ 9223372036854775807) : Nums w w.heap.size v zs := by
  rcases h.2 with ⟨rfl, h0⟩ | ⟨g, cap, cur, rfl, hb, hh, hc, _, _, _⟩
  · exact ⟨none, 0, by rw [h0], by omega, fun hlt => by omega⟩
  · refine ⟨_, _, rfl, hm, fun h0 => ⟨g, 0, rfl, ?_, fun i z hz => ?_⟩⟩
    · have := (h.lt g rfl).2; exact this
    · have := h.cells (g := g) rfl i (.int .i64 z) (by rw [List.getElem?_map, hz]; rfl)
      unfold Addr.add at this
      split at this
      · rename_i hi; subst hi; simpa using this
      · simpa using this
/-- A slice value has room for what it holds. -/
def Capd (v : Value) : Prop := ∀ A n c, v = .slice A n c → n ≤ c
theorem cap_of_own {w : World} {base e size : Nat} {v : Value} {n : Nat} {xs : List Value} (h : w.ownsRow base e size v n xs) : Capd v := by
  intro A n' c hv
  rcases h.2 with ⟨rfl, h0⟩ | ⟨g, cap, cur, rfl, hb, hh, hc, _, _, _⟩
  · injection hv with h1 h2 h3
    omega
  · injection hv with h1 h2 h3
    omega
theorem two_cells {w : World} {g o : Nat} {x y : Value} (hx : w.cell? ⟨g, o, none⟩ = some x) (hy : w.cell? ⟨g, o + 1, none⟩ = some y) : ∀ j u, [x, y][j]? = some u → w.cell? ((⟨g, o, none⟩ : Addr).add j) = some u := by
  intro j u hu
  match j, hu with
  | 0, hu => simp at hu; subst hu; simpa [Addr.add] using hx
  | 1, hu => simp at hu; subst hu; simpa [Addr.add] using hy
theorem getD_at {zs : List Int} {i : Nat} (h : i < zs.length) : zs[i]? = some (zs.getD i 0) := by simp [List.getD_eq_getElem?_getD, List.getElem?_eq_getElem h]

set_option maxRecDepth 100000 in
set_option maxHeartbeats 2000000 in
theorem told_fresh (zs : List Int) (words : Int) (hv : Value) (hs : List (List Ln)) (w : World) (hh : Hands w w.heap.size hv hs) (h3 : hs.length ≤ 3) (hw1 : 1 ≤ words) (hw4 : words ≤ 4) (hz : zs.length = 16) :
    Calls Tryd.prog 26 #[.agg (row zs), .agg #[.int .i64 words, hv]] w fun e w' => ∃ v, e = .returned v ∧ Nums w' w'.heap.size v (toldOf hs words zs) ∧ Below w.heap.size w w' ∧ (∀ k, v.ownBlock = some k → w.heap.size ≤ k) ∧ Capd v := by
  obtain ⟨A, c, rfl, hlen, hh⟩ := hh
  clear hh
  obtain ⟨n, rfl⟩ := Int.eq_ofNat_of_zero_le (show 0 ≤ words by omega)
  obtain ⟨i0, hi, hz0, hz1, hz2⟩ := info_parts Tin.info
  have HZ := Lib.hid hz
  clear hz
  have k1 : Block ((w.alloc (.cells (row zs) 63)).alloc (.cells #[.int .i64 n, .slice A hs.length c] 24)) w.heap.size 63 (row zs) := (Block.made _ _ _).alloc _
  have k2 : Block ((w.alloc (.cells (row zs) 63)).alloc (.cells #[.int .i64 n, .slice A hs.length c] 24)) (w.heap.size + 1) 24 #[.int .i64 n, .slice A hs.length c] := (by simpa using (Block.made (w.alloc _) _ _))
  have K1 := Lib.hid k1
  have K2 := Lib.hid k2
  clear k1 k2
  go_enter Tryd.func26, Tryd.ntmps26
  go_wp2_with (at_make; refine wpList_make_own _ rfl _ _ 47 rfl (w.heap.size + 2) 3 i0 (.int .i64 0) 1 Tryd.underlying47 hi hz0 hz1 .i64 .i64 _ (hs.length * 2 + n) rfl rfl (by simp) (by rw [hz2]; omega) (by unfold maxLen; omega) (by simp) ?_; intro w1 hown1 hg1; simp only [World.size_alloc] at hown1; have hS1 := hg1.size; simp at hS1; have b1 : Block w1 w.heap.size 63 (row zs) := (hg1.block w.heap.size K1.out.lt (by simp)).trans K1.out; have b2 : Block w1 (w.heap.size + 1) 24 #[.int .i64 n, .slice A hs.length c] := (hg1.block (w.heap.size + 1) K2.out.lt (by simp)).trans K2.out; have hB1 : Below w.heap.size w w1 := (((Below.refl _ _).alloc (Nat.le_refl _) _).alloc (by simp) _).grown hg1 (by simp; omega) (fun k hk => by cases hk); have c0 := b2.cell 0; have c1 := b2.cell 1; simp at c0 c1; have B1 := Lib.hid b1; have B2 := Lib.hid b2; have HO := Lib.hid hown1; clear K1 K2 hown1 hg1 b1 b2)
  go_loopw [5, 18] (fun v i wr => ∃ k : Nat, k ≤ hs.length ∧ i = .int .i64 k ∧ wr.ownsRow (w.heap.size + 2) 3 1 v (regsOf zs k).length ((regsOf zs k).map (Value.int .i64)) ∧ Block wr w.heap.size 63 (row zs) ∧ Block wr (w.heap.size + 1) 24 #[.int .i64 n, .slice A hs.length c] ∧ Below w.heap.size w wr) (fun _ i _ => hs.length - (intOf i).toNat)
  case atStart => exact ⟨0, Nat.zero_le _, rfl, HO.out, B1.out, B2.out, hB1⟩
  case round =>
    obtain ⟨k, hk, rfl, hown, b1, b2, hb⟩ := hrel
    have HOW := Lib.hid hown
    have C1 := Lib.hid b1
    have C2 := Lib.hid b2
    clear hown b1 b2 B1 B2 HO c0 c1 hB1
    by_cases hlt : k < hs.length
    · have hkI : (k : Int) < hs.length := by omega
      have g1 := (C1.out.cell (k * 4)).trans (row_get (getD_at (zs := zs) (i := k * 4) (by have := HZ.out; omega)))
      have g2 := (C1.out.cell (k * 4 + 1)).trans (row_get (getD_at (zs := zs) (i := k * 4 + 1) (by have := HZ.out; omega)))
      have G1 := Lib.hid g1
      have G2 := Lib.hid g2
      have hl2 := regsOf_length zs k
      have HL2 := Lib.hid hl2
      clear g1 g2 hl2
      go_wp2_with (at_builtin; refine wpList_append_own _ rfl (.tmp 21) (.tmp 24) 47 rfl (w.heap.size + 2) 3 i0 (.int .i64 0) 1 8 Tryd.underlying47 hi hz0 hz1 hz2 rfl (by decide) _ _ _ rfl HOW.out ⟨w.heap.size, k * 4, none⟩ 2 4 [.int .i64 (zs.getD (k * 4) 0), .int .i64 (zs.getD (k * 4 + 1) 0)] rfl rfl (two_cells G1.out G2.out) (by intro u hu; simp at hu; rcases hu with rfl | rfl <;> rfl) (by rw [HL2.out]; unfold maxLen; omega) (by rw [HL2.out]; omega) (by have := hb.size; have := C2.out.lt; omega) ?_; intro v' w2 hown2 hg2 _; have hlt2 := HOW.out.lt; have D1 := Lib.hid ((hg2.block w.heap.size C1.out.lt (fun e => by have := (hlt2 _ e.symm).1; omega)).trans C1.out); have D2 := Lib.hid ((hg2.block (w.heap.size + 1) C2.out.lt (fun e => by have := (hlt2 _ e.symm).1; omega)).trans C2.out); have hb2 := hb.grown hg2 hb.size (fun k hk => by have := (hlt2 _ hk).1; omega); have HO2 := Lib.hid hown2; clear hown2 hg2 hlt2)
      go_roundw
      case rel => exact ⟨k + 1, by omega, by go_num, by rw [regsOf_succ, List.length_append, List.map_append]; exact HO2.out, D1.out, D2.out, hb2⟩
      case measure => simp [intOf]; omega
    · have hkI : ¬ (k : Int) < hs.length := by omega
      have HK := Lib.hid (show k = hs.length by omega)
      have g1 : ∀ j u, ((wordsOf zs n).map (Value.int .i64))[j]? = some u → wr.cell? ((⟨w.heap.size, 12, none⟩ : Addr).add j) = some u := by
        intro j u hu
        have hj : j < n := by have := (List.getElem?_eq_some_iff.1 hu).1; simpa [wordsOf_length] using this
        have e : u = .int .i64 (zs.getD (12 + j) 0) := by
          rw [List.getElem?_map, wordsOf, List.getElem?_map, List.getElem?_range hj] at hu
          exact (Option.some.inj hu).symm
        rw [e, show (⟨w.heap.size, 12, none⟩ : Addr).add j = ⟨w.heap.size, 12 + j, none⟩ by unfold Addr.add; split <;> simp_all]
        exact (C1.out.cell (12 + j)).trans (row_get (getD_at (by have := HZ.out; omega)))
      have G1 := Lib.hid g1
      have HL2 := Lib.hid (regsOf_length zs k)
      have HL3 := Lib.hid (wordsOf_length zs n)
      have c0 := C2.out.cell 0
      simp at c0
      have i1 : (0 : Int) ≤ (n : Int) := by omega
      clear g1
      go_wp2_with (at_builtin; refine wpList_append_own _ rfl (.tmp 27) (.tmp 31) 47 rfl (w.heap.size + 2) 3 i0 (.int .i64 0) 1 8 Tryd.underlying47 hi hz0 hz1 hz2 rfl (by decide) _ _ _ rfl HOW.out ⟨w.heap.size, 12, none⟩ n 4 ((wordsOf zs n).map (Value.int .i64)) rfl (by simp [HL3.out]) G1.out (by intro u hu; simp at hu; obtain ⟨a, _, rfl⟩ := hu; rfl) (by rw [HL2.out]; unfold maxLen; omega) (by rw [HL2.out]; omega) (by have := hb.size; have := C2.out.lt; omega) ?_; intro v' w2 hown2 hg2 _; have hlt2 := HOW.out.lt; have hb2 := hb.grown hg2 hb.size (fun k hk => by have := (hlt2 _ hk).1; omega); have HO2 := Lib.hid hown2; clear hown2 hg2 hlt2)
      go_ret
      have e : toldOf hs (n : Int) zs = regsOf zs k ++ wordsOf zs n := by rw [toldOf, HK.out]; rfl
      have h1 := HO2.out
      refine ⟨_, rfl, ?_, hb2, fun k hk => (by have := (h1.lt k hk).1; omega), cap_of_own h1⟩
      rw [e]
      refine nums_of_own (base := w.heap.size + 2) (e := 3) (by rw [List.length_append, HL3.out, List.map_append]; exact h1) ?_
      rw [List.length_append, HL2.out, HL3.out]; omega
theorem told_any (zs : List Int) (words : Int) (hv : Value) (hs : List (List Ln)) (w : World) (hh : Hands w w.heap.size hv hs) (h3 : hs.length ≤ 3) (hw1 : 1 ≤ words) (hw4 : words ≤ 4) (hz : zs.length = 16) :
    Calls Tryd.prog 26 #[.agg (row zs), .agg #[.int .i64 words, hv]] w fun e w' => ∃ v, e = .returned v ∧ Nums w' w'.heap.size v (toldOf hs words zs) ∧ Below w.heap.size w w' :=
  (told_fresh zs words hv hs w hh h3 hw1 hw4 hz).mono fun _ _ ⟨v, h1, h2, h3, _, _⟩ => ⟨v, h1, h2, h3⟩
end Go.Proofs.YthpnnmkpbkbanaaDoor
