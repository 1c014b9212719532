/-
  The reference of package fifo: how its slices hold the queue; NewFifo.
-/
import Derived.Test.YtnplhjbbkccdnaaDoorFifoRel
import Derived.Test.YtnplhjbbkccdnaaDoorFifRS
import Derived.Test.YtnplhjbbkccdnaaDoorRefMore
import Derived.Test.YtnplhjbbkccdnaaDoorRegInv
import Derived.StillTailTactics
import Derived.Deep.WholeRow
namespace Go.Proofs.YtnplhjbbkccdnaaDoor.Fif
open Go.RowKit Rf

/-- The reference's queue: its cells, and what of them is as s says, the values as vl. -/
structure RK (F : Nat → Prop) (W : World) (n : Nat) (s : FS) (vl : Nat → Int) (v0 v1 v2 v3 v4 v5 v6 v7 v8 : Value) (fx : Nat → Int) : Prop where
  rv : RV F W v0 v1 v2 v3 v4 v5 v6 v7 v8 (isInt ((s.hd : Nat) : Int)) (isInt ((s.tl : Nat) : Int)) (nm s.k vl) (nm s.k fun i => fi (s.nx i)) (nm n fun p => (((s.h p).a : Nat) : Int)) (nm n fun p => (((s.h p).e : Nat) : Int)) (nm n fun p => (((s.h p).t : Nat) : Int)) (nm n fun p => (((s.h p).h : Nat) : Int)) (nm n fx)
  f : ∀ p, p < n → (s.h p).a = 4 ∨ (s.h p).a = 9 ∨ (s.h p).a = 10 → fx p = fi (s.h p).x
theorem zeros_nm {F : Nat → Prop} {W : World} {h n : Nat} (k : IRow W h n (fun _ => 0)) (hF : ¬ F h) (h1 : 1 ≤ n) : nm n (fun _ => 0) F W (.slice (some ⟨h, 0, none⟩) n n) := by
  refine ⟨_, n, rfl, fun e => ?_, fun _ => ⟨h, 0, rfl, k.lt, hF, fun i P hP => ?_⟩⟩
  · have := sl_len n (fun i => isInt ((fun _ => (0 : Int)) i)); rw [e] at this; simp at this; omega
  · have hi : i < n := by have := (List.getElem?_eq_some_iff.1 hP).1; simpa using this
    rw [sl_get _ hi] at hP
    rw [← Option.some.inj hP]
    exact ⟨_, by rw [Nat.zero_add]; exact k.cell hi, rfl⟩
theorem one_nm {F : Nat → Prop} (W : World) {z : Int} (hF : ¬ F W.heap.size) : nm 1 (fun _ => z) F (W.alloc (.cells #[.int .i64 z] 3)) (.slice (some ⟨W.heap.size, 0, none⟩) 1 1) := by
  have hb := Block.made W 3 #[.int .i64 z]
  refine ⟨_, 1, rfl, fun e => (by simp [List.range, List.range.loop] at e), fun _ => ⟨W.heap.size, 0, rfl, hb.lt, hF, fun i P hP => ?_⟩⟩
  have hi : i < 1 := by have := (List.getElem?_eq_some_iff.1 hP).1; simpa using this
  rw [sl_get _ hi] at hP
  rw [← Option.some.inj hP]
  obtain rfl : i = 0 := by omega
  exact ⟨_, hb.cell 0, rfl⟩
set_option maxHeartbeats 8000000 in
set_option maxRecDepth 100000 in
theorem refnew_any {F : Nat → Prop} (n : Nat) (h1 : 1 ≤ n) (h4 : n ≤ 4) (w : World) (hF : ∀ b, F b → b < w.heap.size) :
    Calls Tryd.prog 17 #[.int .i64 n] w fun e w' => ∃ u2 u3 u4 u5 u6 u7 u8, e = .returned (.agg #[.int .i64 0, .int .i64 0, u2, u3, u4, u5, u6, u7, u8]) ∧ RK F w' n ffnew (fun _ => 0) (.int .i64 0) (.int .i64 0) u2 u3 u4 u5 u6 u7 u8 (fun _ => 0) ∧ Below w.heap.size w w' := by
  obtain ⟨b, hb⟩ : ∃ b, b = w.heap.size := ⟨_, rfl⟩
  obtain ⟨W0, hW0⟩ : ∃ W0, W0 = w.alloc (.cells #[.int .i64 0, .int .i64 0, .slice none 0 0, .slice none 0 0, .slice none 0 0, .slice none 0 0, .slice none 0 0, .slice none 0 0, .slice none 0 0] 54) := ⟨_, rfl⟩
  have HB0 := Lib.hid (show Below w.heap.size w W0 from by rw [hW0]; exact (Below.refl _ w).alloc (Nat.le_refl _) _)
  have HK0 := Lib.hid (show Block W0 b 54 #[.int .i64 0, .int .i64 0, .slice none 0 0, .slice none 0 0, .slice none 0 0, .slice none 0 0, .slice none 0 0, .slice none 0 0, .slice none 0 0] from by rw [hW0, hb]; exact Block.made _ _ _)
  have HBW := Lib.hid hb
  go_enter Tryd.func17, Tryd.ntmps17
  go_wp2_with fail
  rw [← hb, ← hW0]
  clear hW0 hb
  refine wp_region_last (fun L a W => ∃ x3 x4 x5 x6 x7 x8 x9 x10 x11 x12 x13 x14 x15 : Value, a = ⟨#[.int .i64 n, undef, .pointer (some ⟨b, 0, none⟩), x3, x4, x5, x6, x7, x8, x9, x10, x11, x12, x13, x14, x15], []⟩ ∧ (L 0 = true → ∃ A c, x3 = .slice A 1 c ∧ nm 1 (fun _ => 0) (fun x => F x ∨ x = b) W x3) ∧ (L 1 = true → ∃ A c, x4 = .slice A 1 c ∧ nm 1 (fun _ => -1) (fun x => F x ∨ x = b) W x4) ∧ (L 2 = true → x5 = .int .i64 n) ∧ (L 3 = true → ∃ A c, x6 = .slice A n c ∧ nm n (fun _ => 0) (fun x => F x ∨ x = b) W x6) ∧ (L 4 = true → x7 = .int .i64 n) ∧ (L 5 = true → ∃ A c, x8 = .slice A n c ∧ nm n (fun _ => 0) (fun x => F x ∨ x = b) W x8) ∧ (L 6 = true → x9 = .int .i64 n) ∧ (L 7 = true → ∃ A c, x10 = .slice A n c ∧ nm n (fun _ => 0) (fun x => F x ∨ x = b) W x10) ∧ (L 8 = true → x11 = .int .i64 n) ∧ (L 9 = true → ∃ A c, x12 = .slice A n c ∧ nm n (fun _ => 0) (fun x => F x ∨ x = b) W x12) ∧ (L 10 = true → x13 = .int .i64 n) ∧ (L 11 = true → ∃ A c, x14 = .slice A n c ∧ nm n (fun _ => 0) (fun x => F x ∨ x = b) W x14) ∧ (L 12 = true → (∀ d, d ∈ [0, 1, 3, 5, 7, 9, 11] → L d = true) ∧ x15 = .agg #[.int .i64 0, .int .i64 0, x3, x4, x6, x8, x10, x12, x14]) ∧ (Below w.heap.size w W ∧ Block W b 54 #[.int .i64 0, .int .i64 0, .slice none 0 0, .slice none 0 0, .slice none 0 0, .slice none 0 0, .slice none 0 0, .slice none 0 0, .slice none 0 0])) (m := 13) (by kernel_rfl) (by kernel_rfl) (by kernel_rfl) rfl (by kernel_rfl) ?_ ?_ ?_
  · exact ⟨_, _, _, _, _, _, _, _, _, _, _, _, _, rfl, fun h => (by cases h), fun h => (by cases h), fun h => (by cases h), fun h => (by cases h), fun h => (by cases h), fun h => (by cases h), fun h => (by cases h), fun h => (by cases h), fun h => (by cases h), fun h => (by cases h), fun h => (by cases h), fun h => (by cases h), fun h => (by cases h), HB0.out.drew, HK0.out.drew⟩
  · rw [show List.range 13 = [0, 1, 2, 3, 4, 5, 6, 7, 8, 9, 10, 11, 12] from rfl]
    refine StepsOk.cons (ds := []) rfl (by kernel_rfl) ?_ ?_
    · intro L a W hL hd hJ K hK
      obtain ⟨x3, x4, x5, x6, x7, x8, x9, x10, x11, x12, x13, x14, x15, rfl, h0, h1, h2, h3, h4, h5, h6, h7, h8, h9, h10, h11, h12, hW⟩ := hJ
      go_simp
      exact hK _ _ ⟨_, _, _, _, _, _, _, _, _, _, _, _, _, rfl, fun _ => ⟨_, _, rfl, one_nm W (fun e => by rcases e with e | e; (exact absurd (hF _ e) (by have := hW.1.size; omega)); (have := hW.2.lt; omega))⟩, fun h => (let ⟨A, c, e, q⟩ := h1 (cup_off (by decide) h); ⟨A, c, e, (nm_stb _ _).below ((Below.refl _ W).alloc (Nat.le_refl _) _) q⟩), fun h => h2 (cup_off (by decide) h), fun h => (let ⟨A, c, e, q⟩ := h3 (cup_off (by decide) h); ⟨A, c, e, (nm_stb _ _).below ((Below.refl _ W).alloc (Nat.le_refl _) _) q⟩), fun h => h4 (cup_off (by decide) h), fun h => (let ⟨A, c, e, q⟩ := h5 (cup_off (by decide) h); ⟨A, c, e, (nm_stb _ _).below ((Below.refl _ W).alloc (Nat.le_refl _) _) q⟩), fun h => h6 (cup_off (by decide) h), fun h => (let ⟨A, c, e, q⟩ := h7 (cup_off (by decide) h); ⟨A, c, e, (nm_stb _ _).below ((Below.refl _ W).alloc (Nat.le_refl _) _) q⟩), fun h => h8 (cup_off (by decide) h), fun h => (let ⟨A, c, e, q⟩ := h9 (cup_off (by decide) h); ⟨A, c, e, (nm_stb _ _).below ((Below.refl _ W).alloc (Nat.le_refl _) _) q⟩), fun h => h10 (cup_off (by decide) h), fun h => (let ⟨A, c, e, q⟩ := h11 (cup_off (by decide) h); ⟨A, c, e, (nm_stb _ _).below ((Below.refl _ W).alloc (Nat.le_refl _) _) q⟩), fun h => absurd ((h12 (cup_off (by decide) h)).1 0 (by simp)) (by rw [hL]; decide), ⟨hW.1.alloc (by have := hW.1.size; omega) _, hW.2.alloc _⟩⟩
    refine StepsOk.cons (ds := []) rfl (by kernel_rfl) ?_ ?_
    · intro L a W hL hd hJ K hK
      obtain ⟨x3, x4, x5, x6, x7, x8, x9, x10, x11, x12, x13, x14, x15, rfl, h0, h1, h2, h3, h4, h5, h6, h7, h8, h9, h10, h11, h12, hW⟩ := hJ
      go_simp
      exact hK _ _ ⟨_, _, _, _, _, _, _, _, _, _, _, _, _, rfl, fun h => (let ⟨A, c, e, q⟩ := h0 (cup_off (by decide) h); ⟨A, c, e, (nm_stb _ _).below ((Below.refl _ W).alloc (Nat.le_refl _) _) q⟩), fun _ => ⟨_, _, rfl, one_nm W (fun e => by rcases e with e | e; (exact absurd (hF _ e) (by have := hW.1.size; omega)); (have := hW.2.lt; omega))⟩, fun h => h2 (cup_off (by decide) h), fun h => (let ⟨A, c, e, q⟩ := h3 (cup_off (by decide) h); ⟨A, c, e, (nm_stb _ _).below ((Below.refl _ W).alloc (Nat.le_refl _) _) q⟩), fun h => h4 (cup_off (by decide) h), fun h => (let ⟨A, c, e, q⟩ := h5 (cup_off (by decide) h); ⟨A, c, e, (nm_stb _ _).below ((Below.refl _ W).alloc (Nat.le_refl _) _) q⟩), fun h => h6 (cup_off (by decide) h), fun h => (let ⟨A, c, e, q⟩ := h7 (cup_off (by decide) h); ⟨A, c, e, (nm_stb _ _).below ((Below.refl _ W).alloc (Nat.le_refl _) _) q⟩), fun h => h8 (cup_off (by decide) h), fun h => (let ⟨A, c, e, q⟩ := h9 (cup_off (by decide) h); ⟨A, c, e, (nm_stb _ _).below ((Below.refl _ W).alloc (Nat.le_refl _) _) q⟩), fun h => h10 (cup_off (by decide) h), fun h => (let ⟨A, c, e, q⟩ := h11 (cup_off (by decide) h); ⟨A, c, e, (nm_stb _ _).below ((Below.refl _ W).alloc (Nat.le_refl _) _) q⟩), fun h => absurd ((h12 (cup_off (by decide) h)).1 1 (by simp)) (by rw [hL]; decide), ⟨hW.1.alloc (by have := hW.1.size; omega) _, hW.2.alloc _⟩⟩
    refine StepsOk.cons (ds := []) rfl (by kernel_rfl) ?_ ?_
    · intro L a W hL hd hJ K hK
      obtain ⟨x3, x4, x5, x6, x7, x8, x9, x10, x11, x12, x13, x14, x15, rfl, h0, h1, h2, h3, h4, h5, h6, h7, h8, h9, h10, h11, h12, hW⟩ := hJ
      go_simp
      exact hK _ _ ⟨_, _, _, _, _, _, _, _, _, _, _, _, _, rfl, fun h => h0 (cup_off (by decide) h), fun h => h1 (cup_off (by decide) h), fun _ => rfl, fun h => h3 (cup_off (by decide) h), fun h => h4 (cup_off (by decide) h), fun h => h5 (cup_off (by decide) h), fun h => h6 (cup_off (by decide) h), fun h => h7 (cup_off (by decide) h), fun h => h8 (cup_off (by decide) h), fun h => h9 (cup_off (by decide) h), fun h => h10 (cup_off (by decide) h), fun h => h11 (cup_off (by decide) h), fun h => (let q := h12 (cup_off (by decide) h); ⟨fun d hd => cup_on (q.1 d hd), q.2⟩), hW⟩
    refine StepsOk.cons (ds := [2, 2]) rfl (by kernel_rfl) ?_ ?_
    · intro L a W hL hd hJ K hK
      obtain ⟨x3, x4, x5, x6, x7, x8, x9, x10, x11, x12, x13, x14, x15, rfl, h0, h1, h2, h3, h4, h5, h6, h7, h8, h9, h10, h11, h12, hW⟩ := hJ
      have e2 := h2 (hd 2 (by simp))
      subst e2
      have hmk := make_ints n (by omega)
      go_simp
      exact hK _ _ ⟨_, _, _, _, _, _, _, _, _, _, _, _, _, rfl, fun h => (let ⟨A, c, e, q⟩ := h0 (cup_off (by decide) h); ⟨A, c, e, (nm_stb _ _).below ((Below.refl _ W).alloc (Nat.le_refl _) _) q⟩), fun h => (let ⟨A, c, e, q⟩ := h1 (cup_off (by decide) h); ⟨A, c, e, (nm_stb _ _).below ((Below.refl _ W).alloc (Nat.le_refl _) _) q⟩), fun h => h2 (cup_off (by decide) h), fun _ => ⟨_, _, rfl, zeros_nm (IRow.made W n) (fun e => by rcases e with e | e; (exact absurd (hF _ e) (by have := hW.1.size; omega)); (have := hW.2.lt; omega)) (by omega)⟩, fun h => h4 (cup_off (by decide) h), fun h => (let ⟨A, c, e, q⟩ := h5 (cup_off (by decide) h); ⟨A, c, e, (nm_stb _ _).below ((Below.refl _ W).alloc (Nat.le_refl _) _) q⟩), fun h => h6 (cup_off (by decide) h), fun h => (let ⟨A, c, e, q⟩ := h7 (cup_off (by decide) h); ⟨A, c, e, (nm_stb _ _).below ((Below.refl _ W).alloc (Nat.le_refl _) _) q⟩), fun h => h8 (cup_off (by decide) h), fun h => (let ⟨A, c, e, q⟩ := h9 (cup_off (by decide) h); ⟨A, c, e, (nm_stb _ _).below ((Below.refl _ W).alloc (Nat.le_refl _) _) q⟩), fun h => h10 (cup_off (by decide) h), fun h => (let ⟨A, c, e, q⟩ := h11 (cup_off (by decide) h); ⟨A, c, e, (nm_stb _ _).below ((Below.refl _ W).alloc (Nat.le_refl _) _) q⟩), fun h => absurd ((h12 (cup_off (by decide) h)).1 3 (by simp)) (by rw [hL]; decide), ⟨hW.1.alloc (by have := hW.1.size; omega) _, hW.2.alloc _⟩⟩
    refine StepsOk.cons (ds := []) rfl (by kernel_rfl) ?_ ?_
    · intro L a W hL hd hJ K hK
      obtain ⟨x3, x4, x5, x6, x7, x8, x9, x10, x11, x12, x13, x14, x15, rfl, h0, h1, h2, h3, h4, h5, h6, h7, h8, h9, h10, h11, h12, hW⟩ := hJ
      go_simp
      exact hK _ _ ⟨_, _, _, _, _, _, _, _, _, _, _, _, _, rfl, fun h => h0 (cup_off (by decide) h), fun h => h1 (cup_off (by decide) h), fun h => h2 (cup_off (by decide) h), fun h => h3 (cup_off (by decide) h), fun _ => rfl, fun h => h5 (cup_off (by decide) h), fun h => h6 (cup_off (by decide) h), fun h => h7 (cup_off (by decide) h), fun h => h8 (cup_off (by decide) h), fun h => h9 (cup_off (by decide) h), fun h => h10 (cup_off (by decide) h), fun h => h11 (cup_off (by decide) h), fun h => (let q := h12 (cup_off (by decide) h); ⟨fun d hd => cup_on (q.1 d hd), q.2⟩), hW⟩
    refine StepsOk.cons (ds := [4, 4]) rfl (by kernel_rfl) ?_ ?_
    · intro L a W hL hd hJ K hK
      obtain ⟨x3, x4, x5, x6, x7, x8, x9, x10, x11, x12, x13, x14, x15, rfl, h0, h1, h2, h3, h4, h5, h6, h7, h8, h9, h10, h11, h12, hW⟩ := hJ
      have e4 := h4 (hd 4 (by simp))
      subst e4
      have hmk := make_ints n (by omega)
      go_simp
      exact hK _ _ ⟨_, _, _, _, _, _, _, _, _, _, _, _, _, rfl, fun h => (let ⟨A, c, e, q⟩ := h0 (cup_off (by decide) h); ⟨A, c, e, (nm_stb _ _).below ((Below.refl _ W).alloc (Nat.le_refl _) _) q⟩), fun h => (let ⟨A, c, e, q⟩ := h1 (cup_off (by decide) h); ⟨A, c, e, (nm_stb _ _).below ((Below.refl _ W).alloc (Nat.le_refl _) _) q⟩), fun h => h2 (cup_off (by decide) h), fun h => (let ⟨A, c, e, q⟩ := h3 (cup_off (by decide) h); ⟨A, c, e, (nm_stb _ _).below ((Below.refl _ W).alloc (Nat.le_refl _) _) q⟩), fun h => h4 (cup_off (by decide) h), fun _ => ⟨_, _, rfl, zeros_nm (IRow.made W n) (fun e => by rcases e with e | e; (exact absurd (hF _ e) (by have := hW.1.size; omega)); (have := hW.2.lt; omega)) (by omega)⟩, fun h => h6 (cup_off (by decide) h), fun h => (let ⟨A, c, e, q⟩ := h7 (cup_off (by decide) h); ⟨A, c, e, (nm_stb _ _).below ((Below.refl _ W).alloc (Nat.le_refl _) _) q⟩), fun h => h8 (cup_off (by decide) h), fun h => (let ⟨A, c, e, q⟩ := h9 (cup_off (by decide) h); ⟨A, c, e, (nm_stb _ _).below ((Below.refl _ W).alloc (Nat.le_refl _) _) q⟩), fun h => h10 (cup_off (by decide) h), fun h => (let ⟨A, c, e, q⟩ := h11 (cup_off (by decide) h); ⟨A, c, e, (nm_stb _ _).below ((Below.refl _ W).alloc (Nat.le_refl _) _) q⟩), fun h => absurd ((h12 (cup_off (by decide) h)).1 5 (by simp)) (by rw [hL]; decide), ⟨hW.1.alloc (by have := hW.1.size; omega) _, hW.2.alloc _⟩⟩
    refine StepsOk.cons (ds := []) rfl (by kernel_rfl) ?_ ?_
    · intro L a W hL hd hJ K hK
      obtain ⟨x3, x4, x5, x6, x7, x8, x9, x10, x11, x12, x13, x14, x15, rfl, h0, h1, h2, h3, h4, h5, h6, h7, h8, h9, h10, h11, h12, hW⟩ := hJ
      go_simp
      exact hK _ _ ⟨_, _, _, _, _, _, _, _, _, _, _, _, _, rfl, fun h => h0 (cup_off (by decide) h), fun h => h1 (cup_off (by decide) h), fun h => h2 (cup_off (by decide) h), fun h => h3 (cup_off (by decide) h), fun h => h4 (cup_off (by decide) h), fun h => h5 (cup_off (by decide) h), fun _ => rfl, fun h => h7 (cup_off (by decide) h), fun h => h8 (cup_off (by decide) h), fun h => h9 (cup_off (by decide) h), fun h => h10 (cup_off (by decide) h), fun h => h11 (cup_off (by decide) h), fun h => (let q := h12 (cup_off (by decide) h); ⟨fun d hd => cup_on (q.1 d hd), q.2⟩), hW⟩
    refine StepsOk.cons (ds := [6, 6]) rfl (by kernel_rfl) ?_ ?_
    · intro L a W hL hd hJ K hK
      obtain ⟨x3, x4, x5, x6, x7, x8, x9, x10, x11, x12, x13, x14, x15, rfl, h0, h1, h2, h3, h4, h5, h6, h7, h8, h9, h10, h11, h12, hW⟩ := hJ
      have e6 := h6 (hd 6 (by simp))
      subst e6
      have hmk := make_ints n (by omega)
      go_simp
      exact hK _ _ ⟨_, _, _, _, _, _, _, _, _, _, _, _, _, rfl, fun h => (let ⟨A, c, e, q⟩ := h0 (cup_off (by decide) h); ⟨A, c, e, (nm_stb _ _).below ((Below.refl _ W).alloc (Nat.le_refl _) _) q⟩), fun h => (let ⟨A, c, e, q⟩ := h1 (cup_off (by decide) h); ⟨A, c, e, (nm_stb _ _).below ((Below.refl _ W).alloc (Nat.le_refl _) _) q⟩), fun h => h2 (cup_off (by decide) h), fun h => (let ⟨A, c, e, q⟩ := h3 (cup_off (by decide) h); ⟨A, c, e, (nm_stb _ _).below ((Below.refl _ W).alloc (Nat.le_refl _) _) q⟩), fun h => h4 (cup_off (by decide) h), fun h => (let ⟨A, c, e, q⟩ := h5 (cup_off (by decide) h); ⟨A, c, e, (nm_stb _ _).below ((Below.refl _ W).alloc (Nat.le_refl _) _) q⟩), fun h => h6 (cup_off (by decide) h), fun _ => ⟨_, _, rfl, zeros_nm (IRow.made W n) (fun e => by rcases e with e | e; (exact absurd (hF _ e) (by have := hW.1.size; omega)); (have := hW.2.lt; omega)) (by omega)⟩, fun h => h8 (cup_off (by decide) h), fun h => (let ⟨A, c, e, q⟩ := h9 (cup_off (by decide) h); ⟨A, c, e, (nm_stb _ _).below ((Below.refl _ W).alloc (Nat.le_refl _) _) q⟩), fun h => h10 (cup_off (by decide) h), fun h => (let ⟨A, c, e, q⟩ := h11 (cup_off (by decide) h); ⟨A, c, e, (nm_stb _ _).below ((Below.refl _ W).alloc (Nat.le_refl _) _) q⟩), fun h => absurd ((h12 (cup_off (by decide) h)).1 7 (by simp)) (by rw [hL]; decide), ⟨hW.1.alloc (by have := hW.1.size; omega) _, hW.2.alloc _⟩⟩
    refine StepsOk.cons (ds := []) rfl (by kernel_rfl) ?_ ?_
    · intro L a W hL hd hJ K hK
      obtain ⟨x3, x4, x5, x6, x7, x8, x9, x10, x11, x12, x13, x14, x15, rfl, h0, h1, h2, h3, h4, h5, h6, h7, h8, h9, h10, h11, h12, hW⟩ := hJ
      go_simp
      exact hK _ _ ⟨_, _, _, _, _, _, _, _, _, _, _, _, _, rfl, fun h => h0 (cup_off (by decide) h), fun h => h1 (cup_off (by decide) h), fun h => h2 (cup_off (by decide) h), fun h => h3 (cup_off (by decide) h), fun h => h4 (cup_off (by decide) h), fun h => h5 (cup_off (by decide) h), fun h => h6 (cup_off (by decide) h), fun h => h7 (cup_off (by decide) h), fun _ => rfl, fun h => h9 (cup_off (by decide) h), fun h => h10 (cup_off (by decide) h), fun h => h11 (cup_off (by decide) h), fun h => (let q := h12 (cup_off (by decide) h); ⟨fun d hd => cup_on (q.1 d hd), q.2⟩), hW⟩
    refine StepsOk.cons (ds := [8, 8]) rfl (by kernel_rfl) ?_ ?_
    · intro L a W hL hd hJ K hK
      obtain ⟨x3, x4, x5, x6, x7, x8, x9, x10, x11, x12, x13, x14, x15, rfl, h0, h1, h2, h3, h4, h5, h6, h7, h8, h9, h10, h11, h12, hW⟩ := hJ
      have e8 := h8 (hd 8 (by simp))
      subst e8
      have hmk := make_ints n (by omega)
      go_simp
      exact hK _ _ ⟨_, _, _, _, _, _, _, _, _, _, _, _, _, rfl, fun h => (let ⟨A, c, e, q⟩ := h0 (cup_off (by decide) h); ⟨A, c, e, (nm_stb _ _).below ((Below.refl _ W).alloc (Nat.le_refl _) _) q⟩), fun h => (let ⟨A, c, e, q⟩ := h1 (cup_off (by decide) h); ⟨A, c, e, (nm_stb _ _).below ((Below.refl _ W).alloc (Nat.le_refl _) _) q⟩), fun h => h2 (cup_off (by decide) h), fun h => (let ⟨A, c, e, q⟩ := h3 (cup_off (by decide) h); ⟨A, c, e, (nm_stb _ _).below ((Below.refl _ W).alloc (Nat.le_refl _) _) q⟩), fun h => h4 (cup_off (by decide) h), fun h => (let ⟨A, c, e, q⟩ := h5 (cup_off (by decide) h); ⟨A, c, e, (nm_stb _ _).below ((Below.refl _ W).alloc (Nat.le_refl _) _) q⟩), fun h => h6 (cup_off (by decide) h), fun h => (let ⟨A, c, e, q⟩ := h7 (cup_off (by decide) h); ⟨A, c, e, (nm_stb _ _).below ((Below.refl _ W).alloc (Nat.le_refl _) _) q⟩), fun h => h8 (cup_off (by decide) h), fun _ => ⟨_, _, rfl, zeros_nm (IRow.made W n) (fun e => by rcases e with e | e; (exact absurd (hF _ e) (by have := hW.1.size; omega)); (have := hW.2.lt; omega)) (by omega)⟩, fun h => h10 (cup_off (by decide) h), fun h => (let ⟨A, c, e, q⟩ := h11 (cup_off (by decide) h); ⟨A, c, e, (nm_stb _ _).below ((Below.refl _ W).alloc (Nat.le_refl _) _) q⟩), fun h => absurd ((h12 (cup_off (by decide) h)).1 9 (by simp)) (by rw [hL]; decide), ⟨hW.1.alloc (by have := hW.1.size; omega) _, hW.2.alloc _⟩⟩
    refine StepsOk.cons (ds := []) rfl (by kernel_rfl) ?_ ?_
    · intro L a W hL hd hJ K hK
      obtain ⟨x3, x4, x5, x6, x7, x8, x9, x10, x11, x12, x13, x14, x15, rfl, h0, h1, h2, h3, h4, h5, h6, h7, h8, h9, h10, h11, h12, hW⟩ := hJ
      go_simp
      exact hK _ _ ⟨_, _, _, _, _, _, _, _, _, _, _, _, _, rfl, fun h => h0 (cup_off (by decide) h), fun h => h1 (cup_off (by decide) h), fun h => h2 (cup_off (by decide) h), fun h => h3 (cup_off (by decide) h), fun h => h4 (cup_off (by decide) h), fun h => h5 (cup_off (by decide) h), fun h => h6 (cup_off (by decide) h), fun h => h7 (cup_off (by decide) h), fun h => h8 (cup_off (by decide) h), fun h => h9 (cup_off (by decide) h), fun _ => rfl, fun h => h11 (cup_off (by decide) h), fun h => (let q := h12 (cup_off (by decide) h); ⟨fun d hd => cup_on (q.1 d hd), q.2⟩), hW⟩
    refine StepsOk.cons (ds := [10, 10]) rfl (by kernel_rfl) ?_ ?_
    · intro L a W hL hd hJ K hK
      obtain ⟨x3, x4, x5, x6, x7, x8, x9, x10, x11, x12, x13, x14, x15, rfl, h0, h1, h2, h3, h4, h5, h6, h7, h8, h9, h10, h11, h12, hW⟩ := hJ
      have e10 := h10 (hd 10 (by simp))
      subst e10
      have hmk := make_ints n (by omega)
      go_simp
      exact hK _ _ ⟨_, _, _, _, _, _, _, _, _, _, _, _, _, rfl, fun h => (let ⟨A, c, e, q⟩ := h0 (cup_off (by decide) h); ⟨A, c, e, (nm_stb _ _).below ((Below.refl _ W).alloc (Nat.le_refl _) _) q⟩), fun h => (let ⟨A, c, e, q⟩ := h1 (cup_off (by decide) h); ⟨A, c, e, (nm_stb _ _).below ((Below.refl _ W).alloc (Nat.le_refl _) _) q⟩), fun h => h2 (cup_off (by decide) h), fun h => (let ⟨A, c, e, q⟩ := h3 (cup_off (by decide) h); ⟨A, c, e, (nm_stb _ _).below ((Below.refl _ W).alloc (Nat.le_refl _) _) q⟩), fun h => h4 (cup_off (by decide) h), fun h => (let ⟨A, c, e, q⟩ := h5 (cup_off (by decide) h); ⟨A, c, e, (nm_stb _ _).below ((Below.refl _ W).alloc (Nat.le_refl _) _) q⟩), fun h => h6 (cup_off (by decide) h), fun h => (let ⟨A, c, e, q⟩ := h7 (cup_off (by decide) h); ⟨A, c, e, (nm_stb _ _).below ((Below.refl _ W).alloc (Nat.le_refl _) _) q⟩), fun h => h8 (cup_off (by decide) h), fun h => (let ⟨A, c, e, q⟩ := h9 (cup_off (by decide) h); ⟨A, c, e, (nm_stb _ _).below ((Below.refl _ W).alloc (Nat.le_refl _) _) q⟩), fun h => h10 (cup_off (by decide) h), fun _ => ⟨_, _, rfl, zeros_nm (IRow.made W n) (fun e => by rcases e with e | e; (exact absurd (hF _ e) (by have := hW.1.size; omega)); (have := hW.2.lt; omega)) (by omega)⟩, fun h => absurd ((h12 (cup_off (by decide) h)).1 11 (by simp)) (by rw [hL]; decide), ⟨hW.1.alloc (by have := hW.1.size; omega) _, hW.2.alloc _⟩⟩
    refine StepsOk.cons (ds := [0, 1, 3, 5, 7, 9, 11]) rfl (by kernel_rfl) ?_ ?_
    · intro L a W hL hd hJ K hK
      obtain ⟨x3, x4, x5, x6, x7, x8, x9, x10, x11, x12, x13, x14, x15, rfl, h0, h1, h2, h3, h4, h5, h6, h7, h8, h9, h10, h11, h12, hW⟩ := hJ
      have e0 := h0 (hd 0 (by simp))
      have e1 := h1 (hd 1 (by simp))
      have e3 := h3 (hd 3 (by simp))
      have e5 := h5 (hd 5 (by simp))
      have e7 := h7 (hd 7 (by simp))
      have e9 := h9 (hd 9 (by simp))
      have e11 := h11 (hd 11 (by simp))
      obtain ⟨A0, c0, rfl, -⟩ := e0
      obtain ⟨A1, c1, rfl, -⟩ := e1
      obtain ⟨A3, c3, rfl, -⟩ := e3
      obtain ⟨A5, c5, rfl, -⟩ := e5
      obtain ⟨A7, c7, rfl, -⟩ := e7
      obtain ⟨A9, c9, rfl, -⟩ := e9
      obtain ⟨A11, c11, rfl, -⟩ := e11
      go_simp
      exact hK _ _ ⟨_, _, _, _, _, _, _, _, _, _, _, _, _, rfl, fun h => h0 (cup_off (by decide) h), fun h => h1 (cup_off (by decide) h), fun h => h2 (cup_off (by decide) h), fun h => h3 (cup_off (by decide) h), fun h => h4 (cup_off (by decide) h), fun h => h5 (cup_off (by decide) h), fun h => h6 (cup_off (by decide) h), fun h => h7 (cup_off (by decide) h), fun h => h8 (cup_off (by decide) h), fun h => h9 (cup_off (by decide) h), fun h => h10 (cup_off (by decide) h), fun h => h11 (cup_off (by decide) h), fun _ => ⟨fun d hd2 => cup_on (hd d hd2), rfl⟩, hW⟩
    exact StepsOk.nil
  · intro L a W hL hJ K hK
    obtain ⟨x3, x4, x5, x6, x7, x8, x9, x10, x11, x12, x13, x14, x15, rfl, h0, h1, h2, h3, h4, h5, h6, h7, h8, h9, h10, h11, h12, hW⟩ := hJ
    have e0 := h0 (hL 0 (by decide))
    have e1 := h1 (hL 1 (by decide))
    have e2 := h2 (hL 2 (by decide))
    have e3 := h3 (hL 3 (by decide))
    have e4 := h4 (hL 4 (by decide))
    have e5 := h5 (hL 5 (by decide))
    have e6 := h6 (hL 6 (by decide))
    have e7 := h7 (hL 7 (by decide))
    have e8 := h8 (hL 8 (by decide))
    have e9 := h9 (hL 9 (by decide))
    have e10 := h10 (hL 10 (by decide))
    have e11 := h11 (hL 11 (by decide))
    have e12 := h12 (hL 12 (by decide))
    clear h0 h1 h2 h3 h4 h5 h6 h7 h8 h9 h10 h11 h12 hL
    obtain ⟨A0, c0, rfl, g0⟩ := e0
    obtain ⟨A1, c1, rfl, g1⟩ := e1
    obtain ⟨A3, c3, rfl, g3⟩ := e3
    obtain ⟨A5, c5, rfl, g5⟩ := e5
    obtain ⟨A7, c7, rfl, g7⟩ := e7
    obtain ⟨A9, c9, rfl, g9⟩ := e9
    obtain ⟨A11, c11, rfl, g11⟩ := e11
    obtain ⟨-, rfl⟩ := e12
    have r0 := hW.2.cell 0
    have r1 := hW.2.cell 1
    have r2 := hW.2.cell 2
    have r3 := hW.2.cell 3
    have r4 := hW.2.cell 4
    have r5 := hW.2.cell 5
    have r6 := hW.2.cell 6
    have r7 := hW.2.cell 7
    have r8 := hW.2.cell 8
    have fr0 := hW.2.free 0
    have fr1 := hW.2.free 1
    have fr2 := hW.2.free 2
    have fr3 := hW.2.free 3
    have fr4 := hW.2.free 4
    have fr5 := hW.2.free 5
    have fr6 := hW.2.free 6
    have fr7 := hW.2.free 7
    have fr8 := hW.2.free 8
    simp at r0 r1 r2 r3 r4 r5 r6 r7 r8
    have hlo : w.heap.size ≤ b := by have := HBW.out; omega
    have hb : (fun x => F x ∨ x = b) b := Or.inr rfl
    have hblk := (((((((((hW.2.put 0 (.int .i64 0)).put 1 (.int .i64 0)).put 2 (.slice A0 1 c0)).put 3 (.slice A1 1 c1)).put 4 (.slice A3 n c3)).put 5 (.slice A5 n c5)).put 6 (.slice A7 n c7)).put 7 (.slice A9 n c9)).put 8 (.slice A11 n c11))
    simp at hblk
    have hbel := (((((((((hW.1.setCell (p := ⟨b, 0, none⟩) hlo (.int .i64 0)).setCell (p := ⟨b, 1, none⟩) hlo (.int .i64 0)).setCell (p := ⟨b, 2, none⟩) hlo (.slice A0 1 c0)).setCell (p := ⟨b, 3, none⟩) hlo (.slice A1 1 c1)).setCell (p := ⟨b, 4, none⟩) hlo (.slice A3 n c3)).setCell (p := ⟨b, 5, none⟩) hlo (.slice A5 n c5)).setCell (p := ⟨b, 6, none⟩) hlo (.slice A7 n c7)).setCell (p := ⟨b, 7, none⟩) hlo (.slice A9 n c9)).setCell (p := ⟨b, 8, none⟩) hlo (.slice A11 n c11))
    have G0 := ((nm_stb _ _).more (fun _ _ h => Or.inl h) (Stb.put (F := (fun x => F x ∨ x = b)) (nm_stb _ _) (p := ⟨b, 8, none⟩) hb (.slice A11 n c11) (Stb.put (F := (fun x => F x ∨ x = b)) (nm_stb _ _) (p := ⟨b, 7, none⟩) hb (.slice A9 n c9) (Stb.put (F := (fun x => F x ∨ x = b)) (nm_stb _ _) (p := ⟨b, 6, none⟩) hb (.slice A7 n c7) (Stb.put (F := (fun x => F x ∨ x = b)) (nm_stb _ _) (p := ⟨b, 5, none⟩) hb (.slice A5 n c5) (Stb.put (F := (fun x => F x ∨ x = b)) (nm_stb _ _) (p := ⟨b, 4, none⟩) hb (.slice A3 n c3) (Stb.put (F := (fun x => F x ∨ x = b)) (nm_stb _ _) (p := ⟨b, 3, none⟩) hb (.slice A1 1 c1) (Stb.put (F := (fun x => F x ∨ x = b)) (nm_stb _ _) (p := ⟨b, 2, none⟩) hb (.slice A0 1 c0) (Stb.put (F := (fun x => F x ∨ x = b)) (nm_stb _ _) (p := ⟨b, 1, none⟩) hb (.int .i64 0) (Stb.put (F := (fun x => F x ∨ x = b)) (nm_stb _ _) (p := ⟨b, 0, none⟩) hb (.int .i64 0) g0))))))))))
    have G1 := ((nm_stb _ _).more (fun _ _ h => Or.inl h) (Stb.put (F := (fun x => F x ∨ x = b)) (nm_stb _ _) (p := ⟨b, 8, none⟩) hb (.slice A11 n c11) (Stb.put (F := (fun x => F x ∨ x = b)) (nm_stb _ _) (p := ⟨b, 7, none⟩) hb (.slice A9 n c9) (Stb.put (F := (fun x => F x ∨ x = b)) (nm_stb _ _) (p := ⟨b, 6, none⟩) hb (.slice A7 n c7) (Stb.put (F := (fun x => F x ∨ x = b)) (nm_stb _ _) (p := ⟨b, 5, none⟩) hb (.slice A5 n c5) (Stb.put (F := (fun x => F x ∨ x = b)) (nm_stb _ _) (p := ⟨b, 4, none⟩) hb (.slice A3 n c3) (Stb.put (F := (fun x => F x ∨ x = b)) (nm_stb _ _) (p := ⟨b, 3, none⟩) hb (.slice A1 1 c1) (Stb.put (F := (fun x => F x ∨ x = b)) (nm_stb _ _) (p := ⟨b, 2, none⟩) hb (.slice A0 1 c0) (Stb.put (F := (fun x => F x ∨ x = b)) (nm_stb _ _) (p := ⟨b, 1, none⟩) hb (.int .i64 0) (Stb.put (F := (fun x => F x ∨ x = b)) (nm_stb _ _) (p := ⟨b, 0, none⟩) hb (.int .i64 0) g1))))))))))
    have G3 := ((nm_stb _ _).more (fun _ _ h => Or.inl h) (Stb.put (F := (fun x => F x ∨ x = b)) (nm_stb _ _) (p := ⟨b, 8, none⟩) hb (.slice A11 n c11) (Stb.put (F := (fun x => F x ∨ x = b)) (nm_stb _ _) (p := ⟨b, 7, none⟩) hb (.slice A9 n c9) (Stb.put (F := (fun x => F x ∨ x = b)) (nm_stb _ _) (p := ⟨b, 6, none⟩) hb (.slice A7 n c7) (Stb.put (F := (fun x => F x ∨ x = b)) (nm_stb _ _) (p := ⟨b, 5, none⟩) hb (.slice A5 n c5) (Stb.put (F := (fun x => F x ∨ x = b)) (nm_stb _ _) (p := ⟨b, 4, none⟩) hb (.slice A3 n c3) (Stb.put (F := (fun x => F x ∨ x = b)) (nm_stb _ _) (p := ⟨b, 3, none⟩) hb (.slice A1 1 c1) (Stb.put (F := (fun x => F x ∨ x = b)) (nm_stb _ _) (p := ⟨b, 2, none⟩) hb (.slice A0 1 c0) (Stb.put (F := (fun x => F x ∨ x = b)) (nm_stb _ _) (p := ⟨b, 1, none⟩) hb (.int .i64 0) (Stb.put (F := (fun x => F x ∨ x = b)) (nm_stb _ _) (p := ⟨b, 0, none⟩) hb (.int .i64 0) g3))))))))))
    have G5 := ((nm_stb _ _).more (fun _ _ h => Or.inl h) (Stb.put (F := (fun x => F x ∨ x = b)) (nm_stb _ _) (p := ⟨b, 8, none⟩) hb (.slice A11 n c11) (Stb.put (F := (fun x => F x ∨ x = b)) (nm_stb _ _) (p := ⟨b, 7, none⟩) hb (.slice A9 n c9) (Stb.put (F := (fun x => F x ∨ x = b)) (nm_stb _ _) (p := ⟨b, 6, none⟩) hb (.slice A7 n c7) (Stb.put (F := (fun x => F x ∨ x = b)) (nm_stb _ _) (p := ⟨b, 5, none⟩) hb (.slice A5 n c5) (Stb.put (F := (fun x => F x ∨ x = b)) (nm_stb _ _) (p := ⟨b, 4, none⟩) hb (.slice A3 n c3) (Stb.put (F := (fun x => F x ∨ x = b)) (nm_stb _ _) (p := ⟨b, 3, none⟩) hb (.slice A1 1 c1) (Stb.put (F := (fun x => F x ∨ x = b)) (nm_stb _ _) (p := ⟨b, 2, none⟩) hb (.slice A0 1 c0) (Stb.put (F := (fun x => F x ∨ x = b)) (nm_stb _ _) (p := ⟨b, 1, none⟩) hb (.int .i64 0) (Stb.put (F := (fun x => F x ∨ x = b)) (nm_stb _ _) (p := ⟨b, 0, none⟩) hb (.int .i64 0) g5))))))))))
    have G7 := ((nm_stb _ _).more (fun _ _ h => Or.inl h) (Stb.put (F := (fun x => F x ∨ x = b)) (nm_stb _ _) (p := ⟨b, 8, none⟩) hb (.slice A11 n c11) (Stb.put (F := (fun x => F x ∨ x = b)) (nm_stb _ _) (p := ⟨b, 7, none⟩) hb (.slice A9 n c9) (Stb.put (F := (fun x => F x ∨ x = b)) (nm_stb _ _) (p := ⟨b, 6, none⟩) hb (.slice A7 n c7) (Stb.put (F := (fun x => F x ∨ x = b)) (nm_stb _ _) (p := ⟨b, 5, none⟩) hb (.slice A5 n c5) (Stb.put (F := (fun x => F x ∨ x = b)) (nm_stb _ _) (p := ⟨b, 4, none⟩) hb (.slice A3 n c3) (Stb.put (F := (fun x => F x ∨ x = b)) (nm_stb _ _) (p := ⟨b, 3, none⟩) hb (.slice A1 1 c1) (Stb.put (F := (fun x => F x ∨ x = b)) (nm_stb _ _) (p := ⟨b, 2, none⟩) hb (.slice A0 1 c0) (Stb.put (F := (fun x => F x ∨ x = b)) (nm_stb _ _) (p := ⟨b, 1, none⟩) hb (.int .i64 0) (Stb.put (F := (fun x => F x ∨ x = b)) (nm_stb _ _) (p := ⟨b, 0, none⟩) hb (.int .i64 0) g7))))))))))
    have G9 := ((nm_stb _ _).more (fun _ _ h => Or.inl h) (Stb.put (F := (fun x => F x ∨ x = b)) (nm_stb _ _) (p := ⟨b, 8, none⟩) hb (.slice A11 n c11) (Stb.put (F := (fun x => F x ∨ x = b)) (nm_stb _ _) (p := ⟨b, 7, none⟩) hb (.slice A9 n c9) (Stb.put (F := (fun x => F x ∨ x = b)) (nm_stb _ _) (p := ⟨b, 6, none⟩) hb (.slice A7 n c7) (Stb.put (F := (fun x => F x ∨ x = b)) (nm_stb _ _) (p := ⟨b, 5, none⟩) hb (.slice A5 n c5) (Stb.put (F := (fun x => F x ∨ x = b)) (nm_stb _ _) (p := ⟨b, 4, none⟩) hb (.slice A3 n c3) (Stb.put (F := (fun x => F x ∨ x = b)) (nm_stb _ _) (p := ⟨b, 3, none⟩) hb (.slice A1 1 c1) (Stb.put (F := (fun x => F x ∨ x = b)) (nm_stb _ _) (p := ⟨b, 2, none⟩) hb (.slice A0 1 c0) (Stb.put (F := (fun x => F x ∨ x = b)) (nm_stb _ _) (p := ⟨b, 1, none⟩) hb (.int .i64 0) (Stb.put (F := (fun x => F x ∨ x = b)) (nm_stb _ _) (p := ⟨b, 0, none⟩) hb (.int .i64 0) g9))))))))))
    have G11 := ((nm_stb _ _).more (fun _ _ h => Or.inl h) (Stb.put (F := (fun x => F x ∨ x = b)) (nm_stb _ _) (p := ⟨b, 8, none⟩) hb (.slice A11 n c11) (Stb.put (F := (fun x => F x ∨ x = b)) (nm_stb _ _) (p := ⟨b, 7, none⟩) hb (.slice A9 n c9) (Stb.put (F := (fun x => F x ∨ x = b)) (nm_stb _ _) (p := ⟨b, 6, none⟩) hb (.slice A7 n c7) (Stb.put (F := (fun x => F x ∨ x = b)) (nm_stb _ _) (p := ⟨b, 5, none⟩) hb (.slice A5 n c5) (Stb.put (F := (fun x => F x ∨ x = b)) (nm_stb _ _) (p := ⟨b, 4, none⟩) hb (.slice A3 n c3) (Stb.put (F := (fun x => F x ∨ x = b)) (nm_stb _ _) (p := ⟨b, 3, none⟩) hb (.slice A1 1 c1) (Stb.put (F := (fun x => F x ∨ x = b)) (nm_stb _ _) (p := ⟨b, 2, none⟩) hb (.slice A0 1 c0) (Stb.put (F := (fun x => F x ∨ x = b)) (nm_stb _ _) (p := ⟨b, 1, none⟩) hb (.int .i64 0) (Stb.put (F := (fun x => F x ∨ x = b)) (nm_stb _ _) (p := ⟨b, 0, none⟩) hb (.int .i64 0) g11))))))))))
    have HBLK := Lib.hid hblk
    have HBEL := Lib.hid hbel
    have HG0 := Lib.hid G0
    have HG1 := Lib.hid G1
    have HG3 := Lib.hid G3
    have HG5 := Lib.hid G5
    have HG7 := Lib.hid G7
    have HG9 := Lib.hid G9
    have HG11 := Lib.hid G11
    clear hblk hbel hW g0 G0 g1 G1 g3 G3 g5 G5 g7 G7 g9 G9 g11 G11 e2 e4 e6 e8 e10
    go_simp
    refine hK _ _ ?_
    clear hK K
    go_wp2
    refine bodyPost_ret (v := .agg _) (results_cell_row rfl _ _ b 54 _ (0, 0) _ rfl HBLK.out Tryd.underlying54 rfl (by kernel_rfl)) rfl ⟨_, _, _, _, _, _, _, rfl, ⟨⟨rfl, rfl, HG0.out, HG1.out, HG3.out, HG5.out, HG7.out, HG9.out, HG11.out, isInt_stb _, isInt_stb _, nm_stb _ _, nm_stb _ _, nm_stb _ _, nm_stb _ _, nm_stb _ _, nm_stb _ _, nm_stb _ _⟩, fun p _ h => (by rcases h with h | h | h <;> cases h)⟩, HBEL.out⟩
end Go.Proofs.YtnplhjbbkccdnaaDoor.Fif
