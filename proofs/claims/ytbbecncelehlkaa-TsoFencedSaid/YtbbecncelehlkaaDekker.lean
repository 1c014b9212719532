/-
  The little program of the statements' closed facts: each hand stores in its own word, and loads the other one's.
-/
import Derived.Test.YtbbecncelehlkaaBase
import Derived.Laws.OwnMore
import Derived.Outline
namespace Go.Proofs.Ytbbecncelehlkaa
open Go.RowKit

def lnCells (l : Ln) : List Value := [.int .i64 l.k, .int .i64 l.r, .int .i64 l.d, .int .i64 l.v]
theorem flat_cells (ls : List Ln) (i : Nat) (l : Ln) (h : ls[i]? = some l) :
    (ls.flatMap lnCells)[i * 4]? = some (.int .i64 l.k) ∧ (ls.flatMap lnCells)[i * 4 + 1]? = some (.int .i64 l.r) ∧ (ls.flatMap lnCells)[i * 4 + 2]? = some (.int .i64 l.d) ∧ (ls.flatMap lnCells)[i * 4 + 3]? = some (.int .i64 l.v) := by
  induction ls generalizing i with
  | nil => simp at h
  | cons x r ih =>
    rw [List.flatMap_cons]
    match i, h with
    | 0, h => simp at h; subst h; simp [lnCells]
    | i + 1, h =>
      have := ih i (by simpa using h)
      have e : ∀ j, (lnCells x ++ r.flatMap lnCells)[(i + 1) * 4 + j]? = (r.flatMap lnCells)[i * 4 + j]? := fun j => by
        rw [List.getElem?_append_right (by simp [lnCells]; omega)]
        congr 1
        simp [lnCells]; omega
      exact ⟨(e 0).trans this.1, (e 1).trans this.2.1, (e 2).trans this.2.2.1, (e 3).trans this.2.2.2⟩
theorem lines_of_own {w : World} {base e : Nat} {v : Value} {ls : List Ln} (h : w.ownsRow base e 4 v ls.length (ls.flatMap lnCells)) (hm : ls.length ≤ 9223372036854775807) : Lines w w.heap.size v ls := by
  rcases h.2 with ⟨rfl, h0⟩ | ⟨g, cap, cur, rfl, hb, hh, hc, _, _, _⟩
  · exact ⟨none, 0, by rw [h0], by omega, fun hlt => by omega⟩
  · have get : ∀ j u, (ls.flatMap lnCells)[j]? = some u → w.cell? ⟨g, 0 + j, none⟩ = some u := fun j u hu => by
      have := h.cells (g := g) rfl j u hu
      unfold Addr.add at this
      split at this
      · rename_i hi; subst hi; simpa using this
      · simpa using this
    refine ⟨_, _, rfl, hm, fun h0 => ⟨g, 0, rfl, (h.lt g rfl).2, fun i l hl => ?_⟩⟩
    obtain ⟨a1, a2, a3, a4⟩ := flat_cells ls i l hl
    exact ⟨get _ _ a1, get _ _ a2, get _ _ a3, get _ _ a4⟩

theorem four_cells {w : World} {g : Nat} {a b c d : Value} (h0 : w.cell? ⟨g, 0, none⟩ = some a) (h1 : w.cell? ⟨g, 1, none⟩ = some b) (h2 : w.cell? ⟨g, 2, none⟩ = some c) (h3 : w.cell? ⟨g, 3, none⟩ = some d) : ∀ j u, [a, b, c, d][j]? = some u → w.cell? ((⟨g, 0, none⟩ : Addr).add j) = some u := by
  intro j u hu
  match j, hu with
  | 0, hu => simp at hu; subst hu; simpa [Addr.add] using h0
  | 1, hu => simp at hu; subst hu; simpa [Addr.add] using h1
  | 2, hu => simp at hu; subst hu; simpa [Addr.add] using h2
  | 3, hu => simp at hu; subst hu; simpa [Addr.add] using h3

/-- A store into a block that is too small for a line turns no line. -/
theorem lines_set {w : World} {B g : Nat} {v : Value} {ls : List Ln} {t : TypeId} {cs : Array Value} (h : Lines w B v ls) (k : Block w g t cs) (hs : cs.size < 4) (i : Nat) (u : Value) : Lines (w.setCell ⟨g, i, none⟩ u) B v ls := by
  obtain ⟨A, c, e, hl, h⟩ := h
  refine ⟨A, c, e, hl, fun h0 => ?_⟩
  obtain ⟨b, o, e1, hb, hc⟩ := h h0
  have hne : b ≠ g := by
    rintro rfl
    have := (hc 0 ls[0] (List.getElem?_eq_getElem h0)).2.2.2
    rw [k.cell, Array.getElem?_eq_none (by omega)] at this
    cases this
  have far : ∀ j, (w.setCell ⟨g, i, none⟩ u).cell? ⟨b, j, none⟩ = w.cell? ⟨b, j, none⟩ := fun j => World.cell?_setCell_other _ _ _ _ (fun e => hne (by injection e with e; exact e.symm))
  exact ⟨b, o, e1, hb, fun i l hz => by simpa only [far] using hc i l hz⟩

/-- The lines of a hand whose own word is m. -/
def sideL (m : Int) (f : Bool) : List Ln := [⟨0, 0, 0, 1⟩, ⟨2, 0, m, 0⟩] ++ (if f then [⟨4, 0, 0, 0⟩] else []) ++ [⟨1, 1, 1 - m, 0⟩]

theorem Tln.info : (Try.prog.info? 39).map (fun i => (i.zero, i.size, i.bytes)) = some (some (.agg #[.int .i64 0, .int .i64 0, .int .i64 0, .int .i64 0]), 4, 32) := by kernel_rfl

set_option maxHeartbeats 1000000 in
theorem side_any (m : Int) (hm0 : 0 ≤ m) (hm1 : m ≤ 1) (f : Bool) (w : World) :
    Calls Try.prog 30 #[.int .i64 m, .bool f] w fun e w' => ∃ v, e = .returned v ∧ Lines w' w'.heap.size v (sideL m f) ∧ Below w.heap.size w w' := by
  obtain ⟨i0, hi, hz0, hz1, hz2⟩ := info_parts Tln.info
  cases f
  · have hown := World.ownsRow_lit (base := w.heap.size) (e := 39) (size := 4) w #[.int .i64 0, .int .i64 0, .int .i64 0, .int .i64 1, .int .i64 2, .int .i64 0, .int .i64 m, .int .i64 0] 2 (Nat.le_refl _) (by unfold maxLen; omega) rfl
    have HO := Lib.hid hown
    clear hown
    go_enter Try.func30, Try.ntmps30
    go_wp2_with (at_builtin; refine wpList_append_own _ rfl (.tmp 15) (.tmp 19) 37 rfl w.heap.size 39 i0 _ 4 32 Try.underlying37 hi hz0 hz1 hz2 rfl (by decide) _ 2 _ rfl (HO.out.alloc _) ⟨w.heap.size + 1, 0, none⟩ 1 1 [.int .i64 1, .int .i64 1, .int .i64 (1 - m), .int .i64 0] rfl rfl (four_cells (by simp) (by simp) (by simp) (by simp)) (by intro u hu; simp at hu; rcases hu with rfl | rfl | rfl | rfl <;> rfl) (by unfold maxLen; omega) (by omega) (by simp; omega) ?_; intro v1 w1 hown1 hg1 _)
    go_ret
    refine ⟨v1, rfl, lines_of_own (base := w.heap.size) (e := 39) (ls := sideL m false) hown1 (by simp [sideL]), ((((Below.refl _ _).alloc (Nat.le_refl _) _).alloc (by simp) _).grown hg1 (by simp; omega) (fun k hk => by have := Option.some.inj (show some w.heap.size = some k from hk); omega))⟩
  · have hown := World.ownsRow_lit (base := w.heap.size) (e := 39) (size := 4) w #[.int .i64 0, .int .i64 0, .int .i64 0, .int .i64 1, .int .i64 2, .int .i64 0, .int .i64 m, .int .i64 0] 2 (Nat.le_refl _) (by unfold maxLen; omega) rfl
    have HO := Lib.hid hown
    clear hown
    go_enter Try.func30, Try.ntmps30
    go_wp2_with (first | (at_builtin; refine wpList_append_own _ rfl (.tmp 11) (.tmp 13) 37 rfl w.heap.size 39 i0 _ 4 32 Try.underlying37 hi hz0 hz1 hz2 rfl (by decide) _ 2 _ rfl (HO.out.alloc _) ⟨w.heap.size + 1, 0, none⟩ 1 1 [.int .i64 4, .int .i64 0, .int .i64 0, .int .i64 0] rfl rfl (four_cells (by simp) (by simp) (by simp) (by simp)) (by intro u hu; simp at hu; rcases hu with rfl | rfl | rfl | rfl <;> rfl) (by unfold maxLen; omega) (by omega) (by simp; omega) ?_; intro v1 w1 hown1 hg1 _; have hb1 := (((Below.refl w.heap.size w).alloc (Nat.le_refl _) _).alloc (by simp) _).grown hg1 (by simp; omega) (fun k hk => by have := Option.some.inj (show some w.heap.size = some k from hk); omega); have HO1 := Lib.hid hown1; clear hown1 hg1) | (at_builtin; refine wpList_append_own _ rfl (.tmp 15) (.tmp 19) 37 rfl w.heap.size 39 i0 _ 4 32 Try.underlying37 hi hz0 hz1 hz2 rfl (by decide) _ 3 _ rfl (HO1.out.alloc _) ⟨w1.heap.size, 0, none⟩ 1 1 [.int .i64 1, .int .i64 1, .int .i64 (1 - m), .int .i64 0] rfl rfl (four_cells (by simp) (by simp) (by simp) (by simp)) (by intro u hu; simp at hu; rcases hu with rfl | rfl | rfl | rfl <;> rfl) (by unfold maxLen; omega) (by omega) (by have := hb1.size; simp; omega) ?_; intro v2 w2 hown2 hg2 _; have hb2 := (hb1.alloc hb1.size _).grown hg2 (by have := hb1.size; simp; omega) (fun k hk => (HO1.out.lt k hk).1)))
    go_ret
    exact ⟨v2, rfl, lines_of_own (base := w.heap.size) (e := 39) (ls := sideL m true) hown2 (by simp [sideL]), hb2⟩

def dekkerL (a b : Bool) : List (List Ln) := [sideL 0 a, sideL 1 b]

set_option maxHeartbeats 1000000 in
theorem dekker_any (a b : Bool) (w : World) :
    Calls Try.prog 15 #[.bool a, .bool b] w fun e w' => ∃ v, e = .returned (.agg #[.int .i64 2, v]) ∧ Hands w' w'.heap.size v (dekkerL a b) ∧ Below w.heap.size w w' := by
  have k0 : Block (w.alloc (.cells #[.int .i64 0, .slice none 0 0] 24)) w.heap.size 24 #[.int .i64 0, .slice none 0 0] := Block.made _ _ _
  have K0 := Lib.hid k0
  clear k0
  go_enter Try.func15, Try.ntmps15
  go_wp2_with fail
  refine (side_any 0 (by omega) (by omega) a _).mono ?_
  rintro e w1 ⟨v1, rfl, hl1, hb1⟩
  have H1 := Lib.hid hl1
  obtain ⟨A1, c1, rfl, hn1, _⟩ := hl1
  have HB1 := Lib.hid hb1
  clear hb1
  go_wp2_with fail
  refine (side_any 1 (by omega) (by omega) b _).mono ?_
  rintro e w2 ⟨v2, rfl, hl2, hb2⟩
  have H2 := Lib.hid hl2
  obtain ⟨A2, c2, rfl, hn2, _⟩ := hl2
  have hs1 := HB1.out.size
  have hs2 := hb2.size
  simp at hs1
  have k2 : Block w2 w.heap.size 24 #[.int .i64 0, .slice none 0 0] := (K0.out.below HB1.out (by simp)).below hb2 (by omega)
  have x0 := k2.cell 0
  have x1 := k2.cell 1
  have y0 := k2.free 0
  have y1 := k2.free 1
  simp at x0 x1
  have hlt : w.heap.size < w2.heap.size := by omega
  have HB2 := Lib.hid hb2
  have K2 := Lib.hid k2
  clear k2 hb2
  go_wp2
  have hF : Block (((w2.setCell ⟨w.heap.size, 0, none⟩ (.int .i64 2)).setCell ⟨w.heap.size, 1, none⟩ (.slice (some ⟨w2.heap.size, 0, none⟩) 2 2)).alloc (.cells #[.slice A1 (sideL 0 a).length c1, .slice A2 (sideL 1 b).length c2] 37)) w.heap.size 24 #[.int .i64 2, .slice (some ⟨w2.heap.size, 0, none⟩) 2 2] := (((K2.out.put 0 _).put 1 _).alloc _)
  have hb0 : Below w.heap.size w w2 := (((Below.refl _ _).alloc (Nat.le_refl _) _).trans (HB1.out.mono (by simp))).trans (HB2.out.mono (by omega))
  have hend : Below w.heap.size w (((w2.setCell ⟨w.heap.size, 0, none⟩ (.int .i64 2)).setCell ⟨w.heap.size, 1, none⟩ (.slice (some ⟨w2.heap.size, 0, none⟩) 2 2)).alloc (.cells #[.slice A1 (sideL 0 a).length c1, .slice A2 (sideL 1 b).length c2] 37)) := ((hb0.setCell (Nat.le_refl _) _).setCell (Nat.le_refl _) _).alloc (by simp; omega) _
  have hN : Block (((w2.setCell ⟨w.heap.size, 0, none⟩ (.int .i64 2)).setCell ⟨w.heap.size, 1, none⟩ (.slice (some ⟨w2.heap.size, 0, none⟩) 2 2)).alloc (.cells #[.slice A1 (sideL 0 a).length c1, .slice A2 (sideL 1 b).length c2] 37)) w2.heap.size 37 #[.slice A1 (sideL 0 a).length c1, .slice A2 (sideL 1 b).length c2] := (by simpa using Block.made ((w2.setCell ⟨w.heap.size, 0, none⟩ (.int .i64 2)).setCell ⟨w.heap.size, 1, none⟩ (.slice (some ⟨w2.heap.size, 0, none⟩) 2 2)) 37 #[.slice A1 (sideL 0 a).length c1, .slice A2 (sideL 1 b).length c2])
  have L1 : Lines w2 w2.heap.size (.slice A1 (sideL 0 a).length c1) (sideL 0 a) := (H1.out.below HB2.out (Nat.le_refl _)).more hs2
  have M1 := (lines_set (lines_set L1 K2.out (by simp) 0 (.int .i64 2)) (K2.out.put 0 _) (by simp) 1 (.slice (some ⟨w2.heap.size, 0, none⟩) 2 2)).keep (fun p hp => World.cell?_alloc_lt _ (.cells #[.slice A1 (sideL 0 a).length c1, .slice A2 (sideL 1 b).length c2] 37) p (by simpa using hp))
  have M2 := (lines_set (lines_set H2.out K2.out (by simp) 0 (.int .i64 2)) (K2.out.put 0 _) (by simp) 1 (.slice (some ⟨w2.heap.size, 0, none⟩) 2 2)).keep (fun p hp => World.cell?_alloc_lt _ (.cells #[.slice A1 (sideL 0 a).length c1, .slice A2 (sideL 1 b).length c2] 37) p (by simpa using hp))
  refine bodyPost_ret (v := .agg #[.int .i64 2, .slice (some ⟨w2.heap.size, 0, none⟩) 2 2]) (results_cell_row rfl _ _ w.heap.size 24 _ (0, 0) _ rfl hF Try.underlying24 rfl (by kernel_rfl)) rfl ⟨_, rfl, ?_, hend⟩
  refine ⟨_, _, rfl, by simp [dekkerL], fun _ => ⟨_, _, rfl, hN.lt, fun i l hl => ?_⟩⟩
  match i, hl with
  | 0, hl =>
    simp [dekkerL] at hl
    subst hl
    exact ⟨_, hN.cell 0, M1.more (by simp)⟩
  | 1, hl =>
    simp [dekkerL] at hl
    subst hl
    exact ⟨_, hN.cell 1, M2.more (by simp)⟩
end Go.Proofs.Ytbbecncelehlkaa
