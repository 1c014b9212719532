/-
  The reference of package deque: NewDeque.
-/
import Derived.Test.YtbicckeoidijpaaDoorDqRef
import Derived.Test.YtbicckeoidijpaaDoorRegInv
import Derived.StillTailTactics
import Derived.Deep.WholeRow
namespace Go.Proofs.YtbicckeoidijpaaDoor.Dq
open Go.RowKit Rf

theorem zeros_nm {F : Nat → Prop} {W : World} {h n : Nat} (k : IRow W h n (fun _ => 0)) (hF : ¬ F h) (h1 : 1 ≤ n) : nm n (fun _ => 0) F W (.slice (some ⟨h, 0, none⟩) n n) := by
  refine ⟨_, n, rfl, fun e => ?_, fun _ => ⟨h, 0, rfl, k.lt, hF, fun i P hP => ?_⟩⟩
  · have := sl_len n (fun i => isInt ((fun _ => (0 : Int)) i)); rw [e] at this; simp at this; omega
  · have hi : i < n := by have := (List.getElem?_eq_some_iff.1 hP).1; simpa using this
    rw [sl_get _ hi] at hP
    rw [← Option.some.inj hP]
    exact ⟨_, by rw [Nat.zero_add]; exact k.cell hi, rfl⟩
set_option maxHeartbeats 8000000 in
set_option maxRecDepth 100000 in
theorem refnew_any {F : Nat → Prop} (n : Nat) (h1 : 1 ≤ n) (h4 : n ≤ 4) (w : World) (hF : ∀ b, F b → b < w.heap.size) :
    Calls Tryd.prog 6 #[.int .i64 n] w fun e w' => ∃ u0 u3 u4 u5 u6, e = .returned (.agg #[u0, .int .i64 0, .int .i64 0, u3, u4, u5, u6]) ∧ RD F w' n dvnew u0 (.int .i64 0) (.int .i64 0) u3 u4 u5 u6 ∧ Below w.heap.size w w' := by
  obtain ⟨b, hb⟩ : ∃ b, b = w.heap.size := ⟨_, rfl⟩
  obtain ⟨W0, hW0⟩ : ∃ W0, W0 = w.alloc (.cells #[.slice none 0 0, .int .i64 0, .int .i64 0, .slice none 0 0, .slice none 0 0, .slice none 0 0, .slice none 0 0] 31) := ⟨_, rfl⟩
  have HB0 := Lib.hid (show Below w.heap.size w W0 from by rw [hW0]; exact (Below.refl _ w).alloc (Nat.le_refl _) _)
  have HK0 := Lib.hid (show Block W0 b 31 #[.slice none 0 0, .int .i64 0, .int .i64 0, .slice none 0 0, .slice none 0 0, .slice none 0 0, .slice none 0 0] from by rw [hW0, hb]; exact Block.made _ _ _)
  have HBW := Lib.hid hb
  go_enter Tryd.func6, Tryd.ntmps6
  go_wp2_with fail
  rw [← hb, ← hW0]
  clear hW0 hb
  refine wp_region_last (fun L a W => ∃ x3 x4 x5 x6 x7 x8 x9 x10 x11 x12 : Value, a = ⟨#[.int .i64 n, undef, .pointer (some ⟨b, 0, none⟩), x3, x4, x5, x6, x7, x8, x9, x10, x11, x12], []⟩ ∧ (L 0 = true → ∃ A c, x3 = .slice A 8 c ∧ nm 8 (fun _ => 0) (fun x => F x ∨ x = b) W x3) ∧ (L 1 = true → x4 = .int .i64 n) ∧ (L 2 = true → ∃ A c, x5 = .slice A n c ∧ nm n (fun _ => 0) (fun x => F x ∨ x = b) W x5) ∧ (L 3 = true → x6 = .int .i64 n) ∧ (L 4 = true → ∃ A c, x7 = .slice A n c ∧ nm n (fun _ => 0) (fun x => F x ∨ x = b) W x7) ∧ (L 5 = true → x8 = .int .i64 n) ∧ (L 6 = true → ∃ A c, x9 = .slice A n c ∧ nm n (fun _ => 0) (fun x => F x ∨ x = b) W x9) ∧ (L 7 = true → x10 = .int .i64 n) ∧ (L 8 = true → ∃ A c, x11 = .slice A n c ∧ nm n (fun _ => 0) (fun x => F x ∨ x = b) W x11) ∧ (L 9 = true → (∀ d, d ∈ [0, 2, 4, 6, 8] → L d = true) ∧ x12 = .agg #[x3, .int .i64 0, .int .i64 0, x5, x7, x9, x11]) ∧ (Below w.heap.size w W ∧ Block W b 31 #[.slice none 0 0, .int .i64 0, .int .i64 0, .slice none 0 0, .slice none 0 0, .slice none 0 0, .slice none 0 0])) (m := 10) (by kernel_rfl) (by kernel_rfl) (by kernel_rfl) rfl (by kernel_rfl) ?_ ?_ ?_
  · exact ⟨_, _, _, _, _, _, _, _, _, _, rfl, fun h => (by cases h), fun h => (by cases h), fun h => (by cases h), fun h => (by cases h), fun h => (by cases h), fun h => (by cases h), fun h => (by cases h), fun h => (by cases h), fun h => (by cases h), fun h => (by cases h), HB0.out.drew, HK0.out.drew⟩
  · rw [show List.range 10 = [0, 1, 2, 3, 4, 5, 6, 7, 8, 9] from rfl]
    refine StepsOk.cons (ds := []) rfl (by kernel_rfl) ?_ ?_
    · intro L a W hL hd hJ K hK
      obtain ⟨x3, x4, x5, x6, x7, x8, x9, x10, x11, x12, rfl, h0, h1, h2, h3, h4, h5, h6, h7, h8, h9, hW⟩ := hJ
      have hmk : ∀ W : World, (Instr.makeSlice 29 (.int .i64 8) (.int .i64 8)).run Tryd.prog W = .ok (.slice (some ⟨W.heap.size, 0, none⟩) 8 8) (W.alloc (.cells (madeCells #[.int .i64 0] 8) 3)) := make_ints 8 (by omega)
      go_simp
      exact hK _ _ ⟨_, _, _, _, _, _, _, _, _, _, rfl, fun _ => ⟨_, _, rfl, zeros_nm (IRow.made W 8) (fun e => by rcases e with e | e; (exact absurd (hF _ e) (by have := hW.1.size; omega)); (have := hW.2.lt; omega)) (by omega)⟩, fun h => h1 (cup_off (by decide) h), fun h => (let ⟨A, c, e, q⟩ := h2 (cup_off (by decide) h); ⟨A, c, e, (nm_stb _ _).below ((Below.refl _ W).alloc (Nat.le_refl _) _) q⟩), fun h => h3 (cup_off (by decide) h), fun h => (let ⟨A, c, e, q⟩ := h4 (cup_off (by decide) h); ⟨A, c, e, (nm_stb _ _).below ((Below.refl _ W).alloc (Nat.le_refl _) _) q⟩), fun h => h5 (cup_off (by decide) h), fun h => (let ⟨A, c, e, q⟩ := h6 (cup_off (by decide) h); ⟨A, c, e, (nm_stb _ _).below ((Below.refl _ W).alloc (Nat.le_refl _) _) q⟩), fun h => h7 (cup_off (by decide) h), fun h => (let ⟨A, c, e, q⟩ := h8 (cup_off (by decide) h); ⟨A, c, e, (nm_stb _ _).below ((Below.refl _ W).alloc (Nat.le_refl _) _) q⟩), fun h => absurd ((h9 (cup_off (by decide) h)).1 0 (by simp)) (by rw [hL]; decide), ⟨hW.1.alloc (by have := hW.1.size; omega) _, hW.2.alloc _⟩⟩
    refine StepsOk.cons (ds := []) rfl (by kernel_rfl) ?_ ?_
    · intro L a W hL hd hJ K hK
      obtain ⟨x3, x4, x5, x6, x7, x8, x9, x10, x11, x12, rfl, h0, h1, h2, h3, h4, h5, h6, h7, h8, h9, hW⟩ := hJ
      go_simp
      exact hK _ _ ⟨_, _, _, _, _, _, _, _, _, _, rfl, fun h => h0 (cup_off (by decide) h), fun _ => rfl, fun h => h2 (cup_off (by decide) h), fun h => h3 (cup_off (by decide) h), fun h => h4 (cup_off (by decide) h), fun h => h5 (cup_off (by decide) h), fun h => h6 (cup_off (by decide) h), fun h => h7 (cup_off (by decide) h), fun h => h8 (cup_off (by decide) h), fun h => (let q := h9 (cup_off (by decide) h); ⟨fun d hd => cup_on (q.1 d hd), q.2⟩), hW⟩
    refine StepsOk.cons (ds := [1, 1]) rfl (by kernel_rfl) ?_ ?_
    · intro L a W hL hd hJ K hK
      obtain ⟨x3, x4, x5, x6, x7, x8, x9, x10, x11, x12, rfl, h0, h1, h2, h3, h4, h5, h6, h7, h8, h9, hW⟩ := hJ
      have e1 := h1 (hd 1 (by simp))
      subst e1
      have hmk := make_ints n (by omega)
      go_simp
      exact hK _ _ ⟨_, _, _, _, _, _, _, _, _, _, rfl, fun h => (let ⟨A, c, e, q⟩ := h0 (cup_off (by decide) h); ⟨A, c, e, (nm_stb _ _).below ((Below.refl _ W).alloc (Nat.le_refl _) _) q⟩), fun h => h1 (cup_off (by decide) h), fun _ => ⟨_, _, rfl, zeros_nm (IRow.made W n) (fun e => by rcases e with e | e; (exact absurd (hF _ e) (by have := hW.1.size; omega)); (have := hW.2.lt; omega)) (by omega)⟩, fun h => h3 (cup_off (by decide) h), fun h => (let ⟨A, c, e, q⟩ := h4 (cup_off (by decide) h); ⟨A, c, e, (nm_stb _ _).below ((Below.refl _ W).alloc (Nat.le_refl _) _) q⟩), fun h => h5 (cup_off (by decide) h), fun h => (let ⟨A, c, e, q⟩ := h6 (cup_off (by decide) h); ⟨A, c, e, (nm_stb _ _).below ((Below.refl _ W).alloc (Nat.le_refl _) _) q⟩), fun h => h7 (cup_off (by decide) h), fun h => (let ⟨A, c, e, q⟩ := h8 (cup_off (by decide) h); ⟨A, c, e, (nm_stb _ _).below ((Below.refl _ W).alloc (Nat.le_refl _) _) q⟩), fun h => absurd ((h9 (cup_off (by decide) h)).1 2 (by simp)) (by rw [hL]; decide), ⟨hW.1.alloc (by have := hW.1.size; omega) _, hW.2.alloc _⟩⟩
    refine StepsOk.cons (ds := []) rfl (by kernel_rfl) ?_ ?_
    · intro L a W hL hd hJ K hK
      obtain ⟨x3, x4, x5, x6, x7, x8, x9, x10, x11, x12, rfl, h0, h1, h2, h3, h4, h5, h6, h7, h8, h9, hW⟩ := hJ
      go_simp
      exact hK _ _ ⟨_, _, _, _, _, _, _, _, _, _, rfl, fun h => h0 (cup_off (by decide) h), fun h => h1 (cup_off (by decide) h), fun h => h2 (cup_off (by decide) h), fun _ => rfl, fun h => h4 (cup_off (by decide) h), fun h => h5 (cup_off (by decide) h), fun h => h6 (cup_off (by decide) h), fun h => h7 (cup_off (by decide) h), fun h => h8 (cup_off (by decide) h), fun h => (let q := h9 (cup_off (by decide) h); ⟨fun d hd => cup_on (q.1 d hd), q.2⟩), hW⟩
    refine StepsOk.cons (ds := [3, 3]) rfl (by kernel_rfl) ?_ ?_
    · intro L a W hL hd hJ K hK
      obtain ⟨x3, x4, x5, x6, x7, x8, x9, x10, x11, x12, rfl, h0, h1, h2, h3, h4, h5, h6, h7, h8, h9, hW⟩ := hJ
      have e3 := h3 (hd 3 (by simp))
      subst e3
      have hmk := make_ints n (by omega)
      go_simp
      exact hK _ _ ⟨_, _, _, _, _, _, _, _, _, _, rfl, fun h => (let ⟨A, c, e, q⟩ := h0 (cup_off (by decide) h); ⟨A, c, e, (nm_stb _ _).below ((Below.refl _ W).alloc (Nat.le_refl _) _) q⟩), fun h => h1 (cup_off (by decide) h), fun h => (let ⟨A, c, e, q⟩ := h2 (cup_off (by decide) h); ⟨A, c, e, (nm_stb _ _).below ((Below.refl _ W).alloc (Nat.le_refl _) _) q⟩), fun h => h3 (cup_off (by decide) h), fun _ => ⟨_, _, rfl, zeros_nm (IRow.made W n) (fun e => by rcases e with e | e; (exact absurd (hF _ e) (by have := hW.1.size; omega)); (have := hW.2.lt; omega)) (by omega)⟩, fun h => h5 (cup_off (by decide) h), fun h => (let ⟨A, c, e, q⟩ := h6 (cup_off (by decide) h); ⟨A, c, e, (nm_stb _ _).below ((Below.refl _ W).alloc (Nat.le_refl _) _) q⟩), fun h => h7 (cup_off (by decide) h), fun h => (let ⟨A, c, e, q⟩ := h8 (cup_off (by decide) h); ⟨A, c, e, (nm_stb _ _).below ((Below.refl _ W).alloc (Nat.le_refl _) _) q⟩), fun h => absurd ((h9 (cup_off (by decide) h)).1 4 (by simp)) (by rw [hL]; decide), ⟨hW.1.alloc (by have := hW.1.size; omega) _, hW.2.alloc _⟩⟩
    refine StepsOk.cons (ds := []) rfl (by kernel_rfl) ?_ ?_
    · intro L a W hL hd hJ K hK
      obtain ⟨x3, x4, x5, x6, x7, x8, x9, x10, x11, x12, rfl, h0, h1, h2, h3, h4, h5, h6, h7, h8, h9, hW⟩ := hJ
      go_simp
      exact hK _ _ ⟨_, _, _, _, _, _, _, _, _, _, rfl, fun h => h0 (cup_off (by decide) h), fun h => h1 (cup_off (by decide) h), fun h => h2 (cup_off (by decide) h), fun h => h3 (cup_off (by decide) h), fun h => h4 (cup_off (by decide) h), fun _ => rfl, fun h => h6 (cup_off (by decide) h), fun h => h7 (cup_off (by decide) h), fun h => h8 (cup_off (by decide) h), fun h => (let q := h9 (cup_off (by decide) h); ⟨fun d hd => cup_on (q.1 d hd), q.2⟩), hW⟩
    refine StepsOk.cons (ds := [5, 5]) rfl (by kernel_rfl) ?_ ?_
    · intro L a W hL hd hJ K hK
      obtain ⟨x3, x4, x5, x6, x7, x8, x9, x10, x11, x12, rfl, h0, h1, h2, h3, h4, h5, h6, h7, h8, h9, hW⟩ := hJ
      have e5 := h5 (hd 5 (by simp))
      subst e5
      have hmk := make_ints n (by omega)
      go_simp
      exact hK _ _ ⟨_, _, _, _, _, _, _, _, _, _, rfl, fun h => (let ⟨A, c, e, q⟩ := h0 (cup_off (by decide) h); ⟨A, c, e, (nm_stb _ _).below ((Below.refl _ W).alloc (Nat.le_refl _) _) q⟩), fun h => h1 (cup_off (by decide) h), fun h => (let ⟨A, c, e, q⟩ := h2 (cup_off (by decide) h); ⟨A, c, e, (nm_stb _ _).below ((Below.refl _ W).alloc (Nat.le_refl _) _) q⟩), fun h => h3 (cup_off (by decide) h), fun h => (let ⟨A, c, e, q⟩ := h4 (cup_off (by decide) h); ⟨A, c, e, (nm_stb _ _).below ((Below.refl _ W).alloc (Nat.le_refl _) _) q⟩), fun h => h5 (cup_off (by decide) h), fun _ => ⟨_, _, rfl, zeros_nm (IRow.made W n) (fun e => by rcases e with e | e; (exact absurd (hF _ e) (by have := hW.1.size; omega)); (have := hW.2.lt; omega)) (by omega)⟩, fun h => h7 (cup_off (by decide) h), fun h => (let ⟨A, c, e, q⟩ := h8 (cup_off (by decide) h); ⟨A, c, e, (nm_stb _ _).below ((Below.refl _ W).alloc (Nat.le_refl _) _) q⟩), fun h => absurd ((h9 (cup_off (by decide) h)).1 6 (by simp)) (by rw [hL]; decide), ⟨hW.1.alloc (by have := hW.1.size; omega) _, hW.2.alloc _⟩⟩
    refine StepsOk.cons (ds := []) rfl (by kernel_rfl) ?_ ?_
    · intro L a W hL hd hJ K hK
      obtain ⟨x3, x4, x5, x6, x7, x8, x9, x10, x11, x12, rfl, h0, h1, h2, h3, h4, h5, h6, h7, h8, h9, hW⟩ := hJ
      go_simp
      exact hK _ _ ⟨_, _, _, _, _, _, _, _, _, _, rfl, fun h => h0 (cup_off (by decide) h), fun h => h1 (cup_off (by decide) h), fun h => h2 (cup_off (by decide) h), fun h => h3 (cup_off (by decide) h), fun h => h4 (cup_off (by decide) h), fun h => h5 (cup_off (by decide) h), fun h => h6 (cup_off (by decide) h), fun _ => rfl, fun h => h8 (cup_off (by decide) h), fun h => (let q := h9 (cup_off (by decide) h); ⟨fun d hd => cup_on (q.1 d hd), q.2⟩), hW⟩
    refine StepsOk.cons (ds := [7, 7]) rfl (by kernel_rfl) ?_ ?_
    · intro L a W hL hd hJ K hK
      obtain ⟨x3, x4, x5, x6, x7, x8, x9, x10, x11, x12, rfl, h0, h1, h2, h3, h4, h5, h6, h7, h8, h9, hW⟩ := hJ
      have e7 := h7 (hd 7 (by simp))
      subst e7
      have hmk := make_ints n (by omega)
      go_simp
      exact hK _ _ ⟨_, _, _, _, _, _, _, _, _, _, rfl, fun h => (let ⟨A, c, e, q⟩ := h0 (cup_off (by decide) h); ⟨A, c, e, (nm_stb _ _).below ((Below.refl _ W).alloc (Nat.le_refl _) _) q⟩), fun h => h1 (cup_off (by decide) h), fun h => (let ⟨A, c, e, q⟩ := h2 (cup_off (by decide) h); ⟨A, c, e, (nm_stb _ _).below ((Below.refl _ W).alloc (Nat.le_refl _) _) q⟩), fun h => h3 (cup_off (by decide) h), fun h => (let ⟨A, c, e, q⟩ := h4 (cup_off (by decide) h); ⟨A, c, e, (nm_stb _ _).below ((Below.refl _ W).alloc (Nat.le_refl _) _) q⟩), fun h => h5 (cup_off (by decide) h), fun h => (let ⟨A, c, e, q⟩ := h6 (cup_off (by decide) h); ⟨A, c, e, (nm_stb _ _).below ((Below.refl _ W).alloc (Nat.le_refl _) _) q⟩), fun h => h7 (cup_off (by decide) h), fun _ => ⟨_, _, rfl, zeros_nm (IRow.made W n) (fun e => by rcases e with e | e; (exact absurd (hF _ e) (by have := hW.1.size; omega)); (have := hW.2.lt; omega)) (by omega)⟩, fun h => absurd ((h9 (cup_off (by decide) h)).1 8 (by simp)) (by rw [hL]; decide), ⟨hW.1.alloc (by have := hW.1.size; omega) _, hW.2.alloc _⟩⟩
    refine StepsOk.cons (ds := [0, 2, 4, 6, 8]) rfl (by kernel_rfl) ?_ ?_
    · intro L a W hL hd hJ K hK
      obtain ⟨x3, x4, x5, x6, x7, x8, x9, x10, x11, x12, rfl, h0, h1, h2, h3, h4, h5, h6, h7, h8, h9, hW⟩ := hJ
      have e0 := h0 (hd 0 (by simp))
      have e2 := h2 (hd 2 (by simp))
      have e4 := h4 (hd 4 (by simp))
      have e6 := h6 (hd 6 (by simp))
      have e8 := h8 (hd 8 (by simp))
      obtain ⟨A0, c0, rfl, -⟩ := e0
      obtain ⟨A2, c2, rfl, -⟩ := e2
      obtain ⟨A4, c4, rfl, -⟩ := e4
      obtain ⟨A6, c6, rfl, -⟩ := e6
      obtain ⟨A8, c8, rfl, -⟩ := e8
      go_simp
      exact hK _ _ ⟨_, _, _, _, _, _, _, _, _, _, rfl, fun h => h0 (cup_off (by decide) h), fun h => h1 (cup_off (by decide) h), fun h => h2 (cup_off (by decide) h), fun h => h3 (cup_off (by decide) h), fun h => h4 (cup_off (by decide) h), fun h => h5 (cup_off (by decide) h), fun h => h6 (cup_off (by decide) h), fun h => h7 (cup_off (by decide) h), fun h => h8 (cup_off (by decide) h), fun _ => ⟨fun d hd2 => cup_on (hd d hd2), rfl⟩, hW⟩
    exact StepsOk.nil
  · intro L a W hL hJ K hK
    obtain ⟨x3, x4, x5, x6, x7, x8, x9, x10, x11, x12, rfl, h0, h1, h2, h3, h4, h5, h6, h7, h8, h9, hW⟩ := hJ
    have e0 := h0 (hL 0 (by decide))
    have e1 := h1 (hL 1 (by decide))
    have e2 := h2 (hL 2 (by decide))
    have e3 := h3 (hL 3 (by decide))
    have e4 := h4 (hL 4 (by decide))
    have e5 := h5 (hL 5 (by decide))
    have e6 := h6 (hL 6 (by decide))
    have e7 := h7 (hL 7 (by decide))
    have e8 := h8 (hL 8 (by decide))
    have e9 := h9 (hL 9 (by decide))
    clear h0 h1 h2 h3 h4 h5 h6 h7 h8 h9 hL
    obtain ⟨A0, c0, rfl, g0⟩ := e0
    obtain ⟨A2, c2, rfl, g2⟩ := e2
    obtain ⟨A4, c4, rfl, g4⟩ := e4
    obtain ⟨A6, c6, rfl, g6⟩ := e6
    obtain ⟨A8, c8, rfl, g8⟩ := e8
    obtain ⟨-, rfl⟩ := e9
    have r0 := hW.2.cell 0
    have r1 := hW.2.cell 1
    have r2 := hW.2.cell 2
    have r3 := hW.2.cell 3
    have r4 := hW.2.cell 4
    have r5 := hW.2.cell 5
    have r6 := hW.2.cell 6
    have fr0 := hW.2.free 0
    have fr1 := hW.2.free 1
    have fr2 := hW.2.free 2
    have fr3 := hW.2.free 3
    have fr4 := hW.2.free 4
    have fr5 := hW.2.free 5
    have fr6 := hW.2.free 6
    simp at r0 r1 r2 r3 r4 r5 r6
    have hlo : w.heap.size ≤ b := by have := HBW.out; omega
    have hb : (fun x => F x ∨ x = b) b := Or.inr rfl
    have hblk := (((((((hW.2.put 0 (.slice A0 8 c0)).put 1 (.int .i64 0)).put 2 (.int .i64 0)).put 3 (.slice A2 n c2)).put 4 (.slice A4 n c4)).put 5 (.slice A6 n c6)).put 6 (.slice A8 n c8))
    simp at hblk
    have hbel := (((((((hW.1.setCell (p := ⟨b, 0, none⟩) hlo (.slice A0 8 c0)).setCell (p := ⟨b, 1, none⟩) hlo (.int .i64 0)).setCell (p := ⟨b, 2, none⟩) hlo (.int .i64 0)).setCell (p := ⟨b, 3, none⟩) hlo (.slice A2 n c2)).setCell (p := ⟨b, 4, none⟩) hlo (.slice A4 n c4)).setCell (p := ⟨b, 5, none⟩) hlo (.slice A6 n c6)).setCell (p := ⟨b, 6, none⟩) hlo (.slice A8 n c8))
    have G0 := ((nm_stb _ _).more (fun _ _ h => Or.inl h) (Stb.put (F := (fun x => F x ∨ x = b)) (nm_stb _ _) (p := ⟨b, 6, none⟩) hb (.slice A8 n c8) (Stb.put (F := (fun x => F x ∨ x = b)) (nm_stb _ _) (p := ⟨b, 5, none⟩) hb (.slice A6 n c6) (Stb.put (F := (fun x => F x ∨ x = b)) (nm_stb _ _) (p := ⟨b, 4, none⟩) hb (.slice A4 n c4) (Stb.put (F := (fun x => F x ∨ x = b)) (nm_stb _ _) (p := ⟨b, 3, none⟩) hb (.slice A2 n c2) (Stb.put (F := (fun x => F x ∨ x = b)) (nm_stb _ _) (p := ⟨b, 2, none⟩) hb (.int .i64 0) (Stb.put (F := (fun x => F x ∨ x = b)) (nm_stb _ _) (p := ⟨b, 1, none⟩) hb (.int .i64 0) (Stb.put (F := (fun x => F x ∨ x = b)) (nm_stb _ _) (p := ⟨b, 0, none⟩) hb (.slice A0 8 c0) g0))))))))
    have G2 := ((nm_stb _ _).more (fun _ _ h => Or.inl h) (Stb.put (F := (fun x => F x ∨ x = b)) (nm_stb _ _) (p := ⟨b, 6, none⟩) hb (.slice A8 n c8) (Stb.put (F := (fun x => F x ∨ x = b)) (nm_stb _ _) (p := ⟨b, 5, none⟩) hb (.slice A6 n c6) (Stb.put (F := (fun x => F x ∨ x = b)) (nm_stb _ _) (p := ⟨b, 4, none⟩) hb (.slice A4 n c4) (Stb.put (F := (fun x => F x ∨ x = b)) (nm_stb _ _) (p := ⟨b, 3, none⟩) hb (.slice A2 n c2) (Stb.put (F := (fun x => F x ∨ x = b)) (nm_stb _ _) (p := ⟨b, 2, none⟩) hb (.int .i64 0) (Stb.put (F := (fun x => F x ∨ x = b)) (nm_stb _ _) (p := ⟨b, 1, none⟩) hb (.int .i64 0) (Stb.put (F := (fun x => F x ∨ x = b)) (nm_stb _ _) (p := ⟨b, 0, none⟩) hb (.slice A0 8 c0) g2))))))))
    have G4 := ((nm_stb _ _).more (fun _ _ h => Or.inl h) (Stb.put (F := (fun x => F x ∨ x = b)) (nm_stb _ _) (p := ⟨b, 6, none⟩) hb (.slice A8 n c8) (Stb.put (F := (fun x => F x ∨ x = b)) (nm_stb _ _) (p := ⟨b, 5, none⟩) hb (.slice A6 n c6) (Stb.put (F := (fun x => F x ∨ x = b)) (nm_stb _ _) (p := ⟨b, 4, none⟩) hb (.slice A4 n c4) (Stb.put (F := (fun x => F x ∨ x = b)) (nm_stb _ _) (p := ⟨b, 3, none⟩) hb (.slice A2 n c2) (Stb.put (F := (fun x => F x ∨ x = b)) (nm_stb _ _) (p := ⟨b, 2, none⟩) hb (.int .i64 0) (Stb.put (F := (fun x => F x ∨ x = b)) (nm_stb _ _) (p := ⟨b, 1, none⟩) hb (.int .i64 0) (Stb.put (F := (fun x => F x ∨ x = b)) (nm_stb _ _) (p := ⟨b, 0, none⟩) hb (.slice A0 8 c0) g4))))))))
    have G6 := ((nm_stb _ _).more (fun _ _ h => Or.inl h) (Stb.put (F := (fun x => F x ∨ x = b)) (nm_stb _ _) (p := ⟨b, 6, none⟩) hb (.slice A8 n c8) (Stb.put (F := (fun x => F x ∨ x = b)) (nm_stb _ _) (p := ⟨b, 5, none⟩) hb (.slice A6 n c6) (Stb.put (F := (fun x => F x ∨ x = b)) (nm_stb _ _) (p := ⟨b, 4, none⟩) hb (.slice A4 n c4) (Stb.put (F := (fun x => F x ∨ x = b)) (nm_stb _ _) (p := ⟨b, 3, none⟩) hb (.slice A2 n c2) (Stb.put (F := (fun x => F x ∨ x = b)) (nm_stb _ _) (p := ⟨b, 2, none⟩) hb (.int .i64 0) (Stb.put (F := (fun x => F x ∨ x = b)) (nm_stb _ _) (p := ⟨b, 1, none⟩) hb (.int .i64 0) (Stb.put (F := (fun x => F x ∨ x = b)) (nm_stb _ _) (p := ⟨b, 0, none⟩) hb (.slice A0 8 c0) g6))))))))
    have G8 := ((nm_stb _ _).more (fun _ _ h => Or.inl h) (Stb.put (F := (fun x => F x ∨ x = b)) (nm_stb _ _) (p := ⟨b, 6, none⟩) hb (.slice A8 n c8) (Stb.put (F := (fun x => F x ∨ x = b)) (nm_stb _ _) (p := ⟨b, 5, none⟩) hb (.slice A6 n c6) (Stb.put (F := (fun x => F x ∨ x = b)) (nm_stb _ _) (p := ⟨b, 4, none⟩) hb (.slice A4 n c4) (Stb.put (F := (fun x => F x ∨ x = b)) (nm_stb _ _) (p := ⟨b, 3, none⟩) hb (.slice A2 n c2) (Stb.put (F := (fun x => F x ∨ x = b)) (nm_stb _ _) (p := ⟨b, 2, none⟩) hb (.int .i64 0) (Stb.put (F := (fun x => F x ∨ x = b)) (nm_stb _ _) (p := ⟨b, 1, none⟩) hb (.int .i64 0) (Stb.put (F := (fun x => F x ∨ x = b)) (nm_stb _ _) (p := ⟨b, 0, none⟩) hb (.slice A0 8 c0) g8))))))))
    have HBLK := Lib.hid hblk
    have HBEL := Lib.hid hbel
    have HG0 := Lib.hid G0
    have HG2 := Lib.hid G2
    have HG4 := Lib.hid G4
    have HG6 := Lib.hid G6
    have HG8 := Lib.hid G8
    clear hblk hbel hW g0 G0 g2 G2 g4 G4 g6 G6 g8 G8 e1 e3 e5 e7
    go_simp
    refine hK _ _ ?_
    clear hK K
    go_wp2
    refine bodyPost_ret (v := .agg _) (results_cell_row rfl _ _ b 31 _ (0, 0) _ rfl HBLK.out Tryd.underlying31 rfl (by kernel_rfl)) rfl ⟨_, _, _, _, _, rfl, ⟨HG0.out, rfl, rfl, HG2.out, HG4.out, HG6.out, HG8.out, nm_stb _ _, isInt_stb _, isInt_stb _, nm_stb _ _, nm_stb _ _, nm_stb _ _, nm_stb _ _⟩, HBEL.out⟩
end Go.Proofs.YtbicckeoidijpaaDoor.Dq
