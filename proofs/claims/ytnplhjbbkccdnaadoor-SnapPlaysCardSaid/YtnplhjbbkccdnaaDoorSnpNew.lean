/-
  The reference of package snap: the first region of NewBoard.
-/
import Derived.Test.YtnplhjbbkccdnaaDoorSnpRef3
import Derived.Test.YtnplhjbbkccdnaaDoorRegInv
namespace Go.Proofs.YtnplhjbbkccdnaaDoor.Snap
open Go.RowKit

theorem zeros_sl {F : Nat → Prop} {W : World} {h n : Nat} {e : TypeId} {z : Value} {P : Pd} (hb : Block W h e (madeCells #[z] n)) (hF : ¬ F h) (h1 : 1 ≤ n) (hz : P F W z) : sl n (fun _ => P) F W (.slice (some ⟨h, 0, none⟩) n n) := by
  refine ⟨_, n, rfl, fun e => ?_, fun _ => ⟨h, 0, rfl, hb.lt, hF, fun i Q hQ => ?_⟩⟩
  · have := sl_len n (fun _ => P); rw [e] at this; simp at this; omega
  · have hi : i < n := by have := (List.getElem?_eq_some_iff.1 hQ).1; simpa using this
    rw [sl_get _ hi] at hQ
    rw [← Option.some.inj hQ]
    refine ⟨z, ?_, hz⟩
    rw [Nat.zero_add, hb.cell]
    have h1 : (#[z] : Array Value)[i % (#[z] : Array Value).size]! = z := by simp [Nat.mod_one]
    rw [madeCells, Array.getElem?_map, Array.getElem?_range, if_pos hi, Option.map_some, h1]
theorem make_i (k : Nat) (hk : k ≤ 1000) (w : World) : (Instr.makeSlice 30 (.int .i64 k) (.int .i64 k)).run Tryd.prog w = .ok (.slice (some ⟨w.heap.size, 0, none⟩) k k) (w.alloc (.cells (madeCells #[.int .i64 0] k) 3)) := make_ints k hk w
theorem make_b (k : Nat) (hk : k ≤ 1000) (w : World) : (Instr.makeSlice 31 (.int .i64 k) (.int .i64 k)).run Tryd.prog w = .ok (.slice (some ⟨w.heap.size, 0, none⟩) k k) (w.alloc (.cells (madeCells #[.bool false] k) 4)) :=
  run_make_row' 31 4 (.bool false) 1 Tryd.underlying31 Tbool_info rfl .i64 .i64 k (by omega) (by omega) w
theorem make_w (k : Nat) (hk : k ≤ 1000) (w : World) : (Instr.makeSlice 32 (.int .i64 k) (.int .i64 k)).run Tryd.prog w = .ok (.slice (some ⟨w.heap.size, 0, none⟩) k k) (w.alloc (.cells (madeCells #[.slice none 0 0] k) 29)) :=
  run_make_row' 32 29 (.slice none 0 0) 24 Tryd.underlying32 Twords_info rfl .i64 .i64 k (by omega) (by omega) w
theorem make_r (k : Nat) (hk : k ≤ 1000) (w : World) : (Instr.makeSlice 22 (.int .i64 k) (.int .i64 k)).run Tryd.prog w = .ok (.slice (some ⟨w.heap.size, 0, none⟩) k k) (w.alloc (.cells (madeCells #[.slice none 0 0] k) 30)) :=
  run_make_row' 22 30 (.slice none 0 0) 24 Tryd.underlying22 Tnums_info rfl .i64 .i64 k (by omega) (by omega) w
/-- The region of that number, taken out of the translation. -/
def regionS (id : Nat) : Code → Option Code
  | .region i ops d => if i = id then some (.region i ops d) else none
  | .loop c => regionS id c
  | .seq a b => match regionS id a with
    | some c => some c
    | none => regionS id b
  | .block _ c => regionS id c
  | .scope c => regionS id c
  | .cond _ a b => match regionS id a with
    | some c => some c
    | none => regionS id b
  | _ => none
noncomputable def nreg1 : Code := ((Tryd.f7.body.bind (regionS 1)).getD .skip)
set_option maxRecDepth 1000000 in
set_option maxHeartbeats 8000000 in
theorem nreg1_any {F : Nat → Prop} {w W0 : World} {b n : Nat} {Q : Exit → Act → World → Prop} (hn1 : 1 ≤ n) (_hn4 : n ≤ 4) (hF : ∀ x, F x → x < w.heap.size) (_hlb : w.heap.size ≤ b) (HB0 : Below w.heap.size w W0) (HK0 : Block W0 b 34 #[.slice none 0 0, .slice none 0 0, .slice none 0 0, .slice none 0 0, .slice none 0 0, .slice none 0 0, .slice none 0 0, .slice none 0 0]) (z1 z2 z3 z4 z5 z6 z7 z8 z9 z10 z11 z12 z13 z14 z15 z16 z17 z18 z19 z20 z21 z22 z23 z24 z25 z26 z27 z28 z29 z30 z31 z32 z33 : Value)
    (hQ : ∀ (x5 x7 x9 x11 x13 x15 x17 x19 : Value) (W : World) (bx : Nat), w.heap.size ≤ bx → bx ≠ b → ∀ (A1 A3 A5 A7 A9 A11 A13 : Option Addr) (d1 d3 d5 d7 d9 d11 d13 : Nat), Block W bx 34 #[.slice none 0 0, .slice A1 n d1, .slice A3 n d3, .slice A5 n d5, .slice A7 n d7, .slice A9 n d9, .slice A11 n d11, .slice A13 n d13] → Below w.heap.size w W → Block W b 34 #[.slice none 0 0, .slice none 0 0, .slice none 0 0, .slice none 0 0, .slice none 0 0, .slice none 0 0, .slice none 0 0, .slice none 0 0] → sl n (fun _ => isInt 0) (fun z => (F z ∨ z = b) ∨ z = bx) W (.slice A1 n d1) → sl n (fun _ => isInt 0) (fun z => (F z ∨ z = b) ∨ z = bx) W (.slice A3 n d3) → sl n (fun _ => isBool false) (fun z => (F z ∨ z = b) ∨ z = bx) W (.slice A5 n d5) → sl n (fun _ => SL 0 []) (fun z => (F z ∨ z = b) ∨ z = bx) W (.slice A7 n d7) → sl n (fun _ => SL 0 []) (fun z => (F z ∨ z = b) ∨ z = bx) W (.slice A9 n d9) → sl n (fun _ => SL 0 []) (fun z => (F z ∨ z = b) ∨ z = bx) W (.slice A11 n d11) → sl n (fun _ => SL 0 []) (fun z => (F z ∨ z = b) ∨ z = bx) W (.slice A13 n d13) → Q .normal ⟨#[.int .i64 ((n : Nat) : Int), z1, z2, (.pointer (some ⟨bx, 0, none⟩)), z4, x5, (.slice A1 n d1), x7, (.slice A3 n d3), x9, (.slice A5 n d5), x11, (.slice A7 n d7), x13, (.slice A9 n d9), x15, (.slice A11 n d11), x17, (.slice A13 n d13), x19, z20, z21, z22, z23, z24, z25, z26, z27, z28, z29, z30, z31, z32, z33], []⟩ W) : Code.wp Tryd.prog nreg1 Q ⟨#[.int .i64 ((n : Nat) : Int), z1, z2, z3, z4, z5, z6, z7, z8, z9, z10, z11, z12, z13, z14, z15, z16, z17, z18, z19, z20, z21, z22, z23, z24, z25, z26, z27, z28, z29, z30, z31, z32, z33], []⟩ W0 := by
  have HNS : Stb (SL 0 []) := SL_stb (fun _ h => by cases h)
  conv => arg 2; whnf
  refine wp_region_last (fun L a W => ∃ (x5 x6 x7 x8 x9 x10 x11 x12 x13 x14 x15 x16 x17 x18 x19 x3 : Value) (bx : Nat), a = ⟨#[.int .i64 ((n : Nat) : Int), z1, z2, x3, z4, x5, x6, x7, x8, x9, x10, x11, x12, x13, x14, x15, x16, x17, x18, x19, z20, z21, z22, z23, z24, z25, z26, z27, z28, z29, z30, z31, z32, z33], []⟩ ∧ (L 0 = true → x5 = .int .i64 n) ∧ (L 1 = true → ∃ A d, x6 = .slice A n d ∧ sl n (fun _ => isInt 0) (fun z => (F z ∨ z = b) ∨ z = bx) W x6) ∧ (L 2 = true → x7 = .int .i64 n) ∧ (L 3 = true → ∃ A d, x8 = .slice A n d ∧ sl n (fun _ => isInt 0) (fun z => (F z ∨ z = b) ∨ z = bx) W x8) ∧ (L 4 = true → x9 = .int .i64 n) ∧ (L 5 = true → ∃ A d, x10 = .slice A n d ∧ sl n (fun _ => isBool false) (fun z => (F z ∨ z = b) ∨ z = bx) W x10) ∧ (L 6 = true → x11 = .int .i64 n) ∧ (L 7 = true → ∃ A d, x12 = .slice A n d ∧ sl n (fun _ => SL 0 []) (fun z => (F z ∨ z = b) ∨ z = bx) W x12) ∧ (L 8 = true → x13 = .int .i64 n) ∧ (L 9 = true → ∃ A d, x14 = .slice A n d ∧ sl n (fun _ => SL 0 []) (fun z => (F z ∨ z = b) ∨ z = bx) W x14) ∧ (L 10 = true → x15 = .int .i64 n) ∧ (L 11 = true → ∃ A d, x16 = .slice A n d ∧ sl n (fun _ => SL 0 []) (fun z => (F z ∨ z = b) ∨ z = bx) W x16) ∧ (L 12 = true → x17 = .int .i64 n) ∧ (L 13 = true → ∃ A d, x18 = .slice A n d ∧ sl n (fun _ => SL 0 []) (fun z => (F z ∨ z = b) ∨ z = bx) W x18) ∧ (L 14 = true → (∀ d, d ∈ [1, 3, 5, 7, 9, 11, 13] → L d = true) ∧ x19 = .agg #[.slice none 0 0, x6, x8, x10, x12, x14, x16, x18]) ∧ (L 15 = true → x3 = .pointer (some ⟨bx, 0, none⟩) ∧ w.heap.size ≤ bx ∧ bx ≠ b ∧ Block W bx 34 #[.slice none 0 0, .slice none 0 0, .slice none 0 0, .slice none 0 0, .slice none 0 0, .slice none 0 0, .slice none 0 0, .slice none 0 0]) ∧ (Below w.heap.size w W ∧ Block W b 34 #[.slice none 0 0, .slice none 0 0, .slice none 0 0, .slice none 0 0, .slice none 0 0, .slice none 0 0, .slice none 0 0, .slice none 0 0] ∧ bx < W.heap.size ∧ (bx = b ∨ w.heap.size ≤ bx))) (m := 16) (by kernel_rfl) (by kernel_rfl) (by kernel_rfl) rfl (by kernel_rfl) ?_ ?_ ?_
  · exact ⟨_, _, _, _, _, _, _, _, _, _, _, _, _, _, _, _, b, rfl, fun h => (by cases h), fun h => (by cases h), fun h => (by cases h), fun h => (by cases h), fun h => (by cases h), fun h => (by cases h), fun h => (by cases h), fun h => (by cases h), fun h => (by cases h), fun h => (by cases h), fun h => (by cases h), fun h => (by cases h), fun h => (by cases h), fun h => (by cases h), fun h => (by cases h), fun h => (by cases h), (HB0.drew), HK0.drew, HK0.lt, Or.inl rfl⟩
  · rw [show List.range 16 = [0, 1, 2, 3, 4, 5, 6, 7, 8, 9, 10, 11, 12, 13, 14, 15] from rfl]
    refine StepsOk.cons (ds := []) rfl (by kernel_rfl) ?_ ?_
    · intro L a W hL hd hJ K hK
      obtain ⟨x5, x6, x7, x8, x9, x10, x11, x12, x13, x14, x15, x16, x17, x18, x19, x3, bx, rfl, h0, h1, h2, h3, h4, h5, h6, h7, h8, h9, h10, h11, h12, h13, h14, h15, hW⟩ := hJ
      have HD := Lib.hid hd
      clear hd
      go_simp
      exact hK _ _ ⟨_, _, _, _, _, _, _, _, _, _, _, _, _, _, _, _, bx, rfl, fun _ => rfl, fun h => h1 (cup_off (by decide) h), fun h => h2 (cup_off (by decide) h), fun h => h3 (cup_off (by decide) h), fun h => h4 (cup_off (by decide) h), fun h => h5 (cup_off (by decide) h), fun h => h6 (cup_off (by decide) h), fun h => h7 (cup_off (by decide) h), fun h => h8 (cup_off (by decide) h), fun h => h9 (cup_off (by decide) h), fun h => h10 (cup_off (by decide) h), fun h => h11 (cup_off (by decide) h), fun h => h12 (cup_off (by decide) h), fun h => h13 (cup_off (by decide) h), fun h => (let q := h14 (cup_off (by decide) h); ⟨fun d hd => cup_on (q.1 d hd), q.2⟩), fun h => h15 (cup_off (by decide) h), hW⟩
    refine StepsOk.cons (ds := [0, 0]) rfl (by kernel_rfl) ?_ ?_
    · intro L a W hL hd hJ K hK
      obtain ⟨x5, x6, x7, x8, x9, x10, x11, x12, x13, x14, x15, x16, x17, x18, x19, x3, bx, rfl, h0, h1, h2, h3, h4, h5, h6, h7, h8, h9, h10, h11, h12, h13, h14, h15, hW⟩ := hJ
      obtain rfl := h0 (hd 0 (by simp))
      have hmk := make_i n (by omega)
      have HD := Lib.hid hd
      clear hd
      go_simp
      exact hK _ _ ⟨_, _, _, _, _, _, _, _, _, _, _, _, _, _, _, _, bx, rfl, fun h => h0 (cup_off (by decide) h), fun _ => ⟨_, _, rfl, zeros_sl (Block.made W _ _) (fun e => by rcases e with (e | e) | e; (exact absurd (hF _ e) (by have := hW.1.size; omega)); (have := hW.2.1.lt; omega); (have := hW.2.2.1; omega)) hn1 rfl⟩, fun h => h2 (cup_off (by decide) h), fun h => (let ⟨A, d, e, q⟩ := h3 (cup_off (by decide) h); ⟨A, d, e, (sl_stb (fun _ _ => isInt_stb 0)).below ((Below.refl _ W).alloc (Nat.le_refl _) _) q⟩), fun h => h4 (cup_off (by decide) h), fun h => (let ⟨A, d, e, q⟩ := h5 (cup_off (by decide) h); ⟨A, d, e, (sl_stb (fun _ _ => isBool_stb false)).below ((Below.refl _ W).alloc (Nat.le_refl _) _) q⟩), fun h => h6 (cup_off (by decide) h), fun h => (let ⟨A, d, e, q⟩ := h7 (cup_off (by decide) h); ⟨A, d, e, (sl_stb (fun _ _ => HNS)).below ((Below.refl _ W).alloc (Nat.le_refl _) _) q⟩), fun h => h8 (cup_off (by decide) h), fun h => (let ⟨A, d, e, q⟩ := h9 (cup_off (by decide) h); ⟨A, d, e, (sl_stb (fun _ _ => HNS)).below ((Below.refl _ W).alloc (Nat.le_refl _) _) q⟩), fun h => h10 (cup_off (by decide) h), fun h => (let ⟨A, d, e, q⟩ := h11 (cup_off (by decide) h); ⟨A, d, e, (sl_stb (fun _ _ => HNS)).below ((Below.refl _ W).alloc (Nat.le_refl _) _) q⟩), fun h => h12 (cup_off (by decide) h), fun h => (let ⟨A, d, e, q⟩ := h13 (cup_off (by decide) h); ⟨A, d, e, (sl_stb (fun _ _ => HNS)).below ((Below.refl _ W).alloc (Nat.le_refl _) _) q⟩), fun h => absurd ((h14 (cup_off (by decide) h)).1 1 (by simp)) (by rw [hL]; decide), fun h => (let q := h15 (cup_off (by decide) h); ⟨q.1, q.2.1, q.2.2.1, q.2.2.2.alloc _⟩), ⟨hW.1.alloc (by have := hW.1.size; omega) _, hW.2.1.alloc _, Nat.lt_of_lt_of_le hW.2.2.1 (by simp), hW.2.2.2⟩⟩
    refine StepsOk.cons (ds := []) rfl (by kernel_rfl) ?_ ?_
    · intro L a W hL hd hJ K hK
      obtain ⟨x5, x6, x7, x8, x9, x10, x11, x12, x13, x14, x15, x16, x17, x18, x19, x3, bx, rfl, h0, h1, h2, h3, h4, h5, h6, h7, h8, h9, h10, h11, h12, h13, h14, h15, hW⟩ := hJ
      have HD := Lib.hid hd
      clear hd
      go_simp
      exact hK _ _ ⟨_, _, _, _, _, _, _, _, _, _, _, _, _, _, _, _, bx, rfl, fun h => h0 (cup_off (by decide) h), fun h => h1 (cup_off (by decide) h), fun _ => rfl, fun h => h3 (cup_off (by decide) h), fun h => h4 (cup_off (by decide) h), fun h => h5 (cup_off (by decide) h), fun h => h6 (cup_off (by decide) h), fun h => h7 (cup_off (by decide) h), fun h => h8 (cup_off (by decide) h), fun h => h9 (cup_off (by decide) h), fun h => h10 (cup_off (by decide) h), fun h => h11 (cup_off (by decide) h), fun h => h12 (cup_off (by decide) h), fun h => h13 (cup_off (by decide) h), fun h => (let q := h14 (cup_off (by decide) h); ⟨fun d hd => cup_on (q.1 d hd), q.2⟩), fun h => h15 (cup_off (by decide) h), hW⟩
    refine StepsOk.cons (ds := [2, 2]) rfl (by kernel_rfl) ?_ ?_
    · intro L a W hL hd hJ K hK
      obtain ⟨x5, x6, x7, x8, x9, x10, x11, x12, x13, x14, x15, x16, x17, x18, x19, x3, bx, rfl, h0, h1, h2, h3, h4, h5, h6, h7, h8, h9, h10, h11, h12, h13, h14, h15, hW⟩ := hJ
      obtain rfl := h2 (hd 2 (by simp))
      have hmk := make_i n (by omega)
      have HD := Lib.hid hd
      clear hd
      go_simp
      exact hK _ _ ⟨_, _, _, _, _, _, _, _, _, _, _, _, _, _, _, _, bx, rfl, fun h => h0 (cup_off (by decide) h), fun h => (let ⟨A, d, e, q⟩ := h1 (cup_off (by decide) h); ⟨A, d, e, (sl_stb (fun _ _ => isInt_stb 0)).below ((Below.refl _ W).alloc (Nat.le_refl _) _) q⟩), fun h => h2 (cup_off (by decide) h), fun _ => ⟨_, _, rfl, zeros_sl (Block.made W _ _) (fun e => by rcases e with (e | e) | e; (exact absurd (hF _ e) (by have := hW.1.size; omega)); (have := hW.2.1.lt; omega); (have := hW.2.2.1; omega)) hn1 rfl⟩, fun h => h4 (cup_off (by decide) h), fun h => (let ⟨A, d, e, q⟩ := h5 (cup_off (by decide) h); ⟨A, d, e, (sl_stb (fun _ _ => isBool_stb false)).below ((Below.refl _ W).alloc (Nat.le_refl _) _) q⟩), fun h => h6 (cup_off (by decide) h), fun h => (let ⟨A, d, e, q⟩ := h7 (cup_off (by decide) h); ⟨A, d, e, (sl_stb (fun _ _ => HNS)).below ((Below.refl _ W).alloc (Nat.le_refl _) _) q⟩), fun h => h8 (cup_off (by decide) h), fun h => (let ⟨A, d, e, q⟩ := h9 (cup_off (by decide) h); ⟨A, d, e, (sl_stb (fun _ _ => HNS)).below ((Below.refl _ W).alloc (Nat.le_refl _) _) q⟩), fun h => h10 (cup_off (by decide) h), fun h => (let ⟨A, d, e, q⟩ := h11 (cup_off (by decide) h); ⟨A, d, e, (sl_stb (fun _ _ => HNS)).below ((Below.refl _ W).alloc (Nat.le_refl _) _) q⟩), fun h => h12 (cup_off (by decide) h), fun h => (let ⟨A, d, e, q⟩ := h13 (cup_off (by decide) h); ⟨A, d, e, (sl_stb (fun _ _ => HNS)).below ((Below.refl _ W).alloc (Nat.le_refl _) _) q⟩), fun h => absurd ((h14 (cup_off (by decide) h)).1 3 (by simp)) (by rw [hL]; decide), fun h => (let q := h15 (cup_off (by decide) h); ⟨q.1, q.2.1, q.2.2.1, q.2.2.2.alloc _⟩), ⟨hW.1.alloc (by have := hW.1.size; omega) _, hW.2.1.alloc _, Nat.lt_of_lt_of_le hW.2.2.1 (by simp), hW.2.2.2⟩⟩
    refine StepsOk.cons (ds := []) rfl (by kernel_rfl) ?_ ?_
    · intro L a W hL hd hJ K hK
      obtain ⟨x5, x6, x7, x8, x9, x10, x11, x12, x13, x14, x15, x16, x17, x18, x19, x3, bx, rfl, h0, h1, h2, h3, h4, h5, h6, h7, h8, h9, h10, h11, h12, h13, h14, h15, hW⟩ := hJ
      have HD := Lib.hid hd
      clear hd
      go_simp
      exact hK _ _ ⟨_, _, _, _, _, _, _, _, _, _, _, _, _, _, _, _, bx, rfl, fun h => h0 (cup_off (by decide) h), fun h => h1 (cup_off (by decide) h), fun h => h2 (cup_off (by decide) h), fun h => h3 (cup_off (by decide) h), fun _ => rfl, fun h => h5 (cup_off (by decide) h), fun h => h6 (cup_off (by decide) h), fun h => h7 (cup_off (by decide) h), fun h => h8 (cup_off (by decide) h), fun h => h9 (cup_off (by decide) h), fun h => h10 (cup_off (by decide) h), fun h => h11 (cup_off (by decide) h), fun h => h12 (cup_off (by decide) h), fun h => h13 (cup_off (by decide) h), fun h => (let q := h14 (cup_off (by decide) h); ⟨fun d hd => cup_on (q.1 d hd), q.2⟩), fun h => h15 (cup_off (by decide) h), hW⟩
    refine StepsOk.cons (ds := [4, 4]) rfl (by kernel_rfl) ?_ ?_
    · intro L a W hL hd hJ K hK
      obtain ⟨x5, x6, x7, x8, x9, x10, x11, x12, x13, x14, x15, x16, x17, x18, x19, x3, bx, rfl, h0, h1, h2, h3, h4, h5, h6, h7, h8, h9, h10, h11, h12, h13, h14, h15, hW⟩ := hJ
      obtain rfl := h4 (hd 4 (by simp))
      have hmk := make_b n (by omega)
      have HD := Lib.hid hd
      clear hd
      go_simp
      exact hK _ _ ⟨_, _, _, _, _, _, _, _, _, _, _, _, _, _, _, _, bx, rfl, fun h => h0 (cup_off (by decide) h), fun h => (let ⟨A, d, e, q⟩ := h1 (cup_off (by decide) h); ⟨A, d, e, (sl_stb (fun _ _ => isInt_stb 0)).below ((Below.refl _ W).alloc (Nat.le_refl _) _) q⟩), fun h => h2 (cup_off (by decide) h), fun h => (let ⟨A, d, e, q⟩ := h3 (cup_off (by decide) h); ⟨A, d, e, (sl_stb (fun _ _ => isInt_stb 0)).below ((Below.refl _ W).alloc (Nat.le_refl _) _) q⟩), fun h => h4 (cup_off (by decide) h), fun _ => ⟨_, _, rfl, zeros_sl (Block.made W _ _) (fun e => by rcases e with (e | e) | e; (exact absurd (hF _ e) (by have := hW.1.size; omega)); (have := hW.2.1.lt; omega); (have := hW.2.2.1; omega)) hn1 rfl⟩, fun h => h6 (cup_off (by decide) h), fun h => (let ⟨A, d, e, q⟩ := h7 (cup_off (by decide) h); ⟨A, d, e, (sl_stb (fun _ _ => HNS)).below ((Below.refl _ W).alloc (Nat.le_refl _) _) q⟩), fun h => h8 (cup_off (by decide) h), fun h => (let ⟨A, d, e, q⟩ := h9 (cup_off (by decide) h); ⟨A, d, e, (sl_stb (fun _ _ => HNS)).below ((Below.refl _ W).alloc (Nat.le_refl _) _) q⟩), fun h => h10 (cup_off (by decide) h), fun h => (let ⟨A, d, e, q⟩ := h11 (cup_off (by decide) h); ⟨A, d, e, (sl_stb (fun _ _ => HNS)).below ((Below.refl _ W).alloc (Nat.le_refl _) _) q⟩), fun h => h12 (cup_off (by decide) h), fun h => (let ⟨A, d, e, q⟩ := h13 (cup_off (by decide) h); ⟨A, d, e, (sl_stb (fun _ _ => HNS)).below ((Below.refl _ W).alloc (Nat.le_refl _) _) q⟩), fun h => absurd ((h14 (cup_off (by decide) h)).1 5 (by simp)) (by rw [hL]; decide), fun h => (let q := h15 (cup_off (by decide) h); ⟨q.1, q.2.1, q.2.2.1, q.2.2.2.alloc _⟩), ⟨hW.1.alloc (by have := hW.1.size; omega) _, hW.2.1.alloc _, Nat.lt_of_lt_of_le hW.2.2.1 (by simp), hW.2.2.2⟩⟩
    refine StepsOk.cons (ds := []) rfl (by kernel_rfl) ?_ ?_
    · intro L a W hL hd hJ K hK
      obtain ⟨x5, x6, x7, x8, x9, x10, x11, x12, x13, x14, x15, x16, x17, x18, x19, x3, bx, rfl, h0, h1, h2, h3, h4, h5, h6, h7, h8, h9, h10, h11, h12, h13, h14, h15, hW⟩ := hJ
      have HD := Lib.hid hd
      clear hd
      go_simp
      exact hK _ _ ⟨_, _, _, _, _, _, _, _, _, _, _, _, _, _, _, _, bx, rfl, fun h => h0 (cup_off (by decide) h), fun h => h1 (cup_off (by decide) h), fun h => h2 (cup_off (by decide) h), fun h => h3 (cup_off (by decide) h), fun h => h4 (cup_off (by decide) h), fun h => h5 (cup_off (by decide) h), fun _ => rfl, fun h => h7 (cup_off (by decide) h), fun h => h8 (cup_off (by decide) h), fun h => h9 (cup_off (by decide) h), fun h => h10 (cup_off (by decide) h), fun h => h11 (cup_off (by decide) h), fun h => h12 (cup_off (by decide) h), fun h => h13 (cup_off (by decide) h), fun h => (let q := h14 (cup_off (by decide) h); ⟨fun d hd => cup_on (q.1 d hd), q.2⟩), fun h => h15 (cup_off (by decide) h), hW⟩
    refine StepsOk.cons (ds := [6, 6]) rfl (by kernel_rfl) ?_ ?_
    · intro L a W hL hd hJ K hK
      obtain ⟨x5, x6, x7, x8, x9, x10, x11, x12, x13, x14, x15, x16, x17, x18, x19, x3, bx, rfl, h0, h1, h2, h3, h4, h5, h6, h7, h8, h9, h10, h11, h12, h13, h14, h15, hW⟩ := hJ
      obtain rfl := h6 (hd 6 (by simp))
      have hmk := make_w n (by omega)
      have HD := Lib.hid hd
      clear hd
      go_simp
      exact hK _ _ ⟨_, _, _, _, _, _, _, _, _, _, _, _, _, _, _, _, bx, rfl, fun h => h0 (cup_off (by decide) h), fun h => (let ⟨A, d, e, q⟩ := h1 (cup_off (by decide) h); ⟨A, d, e, (sl_stb (fun _ _ => isInt_stb 0)).below ((Below.refl _ W).alloc (Nat.le_refl _) _) q⟩), fun h => h2 (cup_off (by decide) h), fun h => (let ⟨A, d, e, q⟩ := h3 (cup_off (by decide) h); ⟨A, d, e, (sl_stb (fun _ _ => isInt_stb 0)).below ((Below.refl _ W).alloc (Nat.le_refl _) _) q⟩), fun h => h4 (cup_off (by decide) h), fun h => (let ⟨A, d, e, q⟩ := h5 (cup_off (by decide) h); ⟨A, d, e, (sl_stb (fun _ _ => isBool_stb false)).below ((Below.refl _ W).alloc (Nat.le_refl _) _) q⟩), fun h => h6 (cup_off (by decide) h), fun _ => ⟨_, _, rfl, zeros_sl (Block.made W _ _) (fun e => by rcases e with (e | e) | e; (exact absurd (hF _ e) (by have := hW.1.size; omega)); (have := hW.2.1.lt; omega); (have := hW.2.2.1; omega)) hn1 (SL.nil 0 _ _)⟩, fun h => h8 (cup_off (by decide) h), fun h => (let ⟨A, d, e, q⟩ := h9 (cup_off (by decide) h); ⟨A, d, e, (sl_stb (fun _ _ => HNS)).below ((Below.refl _ W).alloc (Nat.le_refl _) _) q⟩), fun h => h10 (cup_off (by decide) h), fun h => (let ⟨A, d, e, q⟩ := h11 (cup_off (by decide) h); ⟨A, d, e, (sl_stb (fun _ _ => HNS)).below ((Below.refl _ W).alloc (Nat.le_refl _) _) q⟩), fun h => h12 (cup_off (by decide) h), fun h => (let ⟨A, d, e, q⟩ := h13 (cup_off (by decide) h); ⟨A, d, e, (sl_stb (fun _ _ => HNS)).below ((Below.refl _ W).alloc (Nat.le_refl _) _) q⟩), fun h => absurd ((h14 (cup_off (by decide) h)).1 7 (by simp)) (by rw [hL]; decide), fun h => (let q := h15 (cup_off (by decide) h); ⟨q.1, q.2.1, q.2.2.1, q.2.2.2.alloc _⟩), ⟨hW.1.alloc (by have := hW.1.size; omega) _, hW.2.1.alloc _, Nat.lt_of_lt_of_le hW.2.2.1 (by simp), hW.2.2.2⟩⟩
    refine StepsOk.cons (ds := []) rfl (by kernel_rfl) ?_ ?_
    · intro L a W hL hd hJ K hK
      obtain ⟨x5, x6, x7, x8, x9, x10, x11, x12, x13, x14, x15, x16, x17, x18, x19, x3, bx, rfl, h0, h1, h2, h3, h4, h5, h6, h7, h8, h9, h10, h11, h12, h13, h14, h15, hW⟩ := hJ
      have HD := Lib.hid hd
      clear hd
      go_simp
      exact hK _ _ ⟨_, _, _, _, _, _, _, _, _, _, _, _, _, _, _, _, bx, rfl, fun h => h0 (cup_off (by decide) h), fun h => h1 (cup_off (by decide) h), fun h => h2 (cup_off (by decide) h), fun h => h3 (cup_off (by decide) h), fun h => h4 (cup_off (by decide) h), fun h => h5 (cup_off (by decide) h), fun h => h6 (cup_off (by decide) h), fun h => h7 (cup_off (by decide) h), fun _ => rfl, fun h => h9 (cup_off (by decide) h), fun h => h10 (cup_off (by decide) h), fun h => h11 (cup_off (by decide) h), fun h => h12 (cup_off (by decide) h), fun h => h13 (cup_off (by decide) h), fun h => (let q := h14 (cup_off (by decide) h); ⟨fun d hd => cup_on (q.1 d hd), q.2⟩), fun h => h15 (cup_off (by decide) h), hW⟩
    refine StepsOk.cons (ds := [8, 8]) rfl (by kernel_rfl) ?_ ?_
    · intro L a W hL hd hJ K hK
      obtain ⟨x5, x6, x7, x8, x9, x10, x11, x12, x13, x14, x15, x16, x17, x18, x19, x3, bx, rfl, h0, h1, h2, h3, h4, h5, h6, h7, h8, h9, h10, h11, h12, h13, h14, h15, hW⟩ := hJ
      obtain rfl := h8 (hd 8 (by simp))
      have hmk := make_w n (by omega)
      have HD := Lib.hid hd
      clear hd
      go_simp
      exact hK _ _ ⟨_, _, _, _, _, _, _, _, _, _, _, _, _, _, _, _, bx, rfl, fun h => h0 (cup_off (by decide) h), fun h => (let ⟨A, d, e, q⟩ := h1 (cup_off (by decide) h); ⟨A, d, e, (sl_stb (fun _ _ => isInt_stb 0)).below ((Below.refl _ W).alloc (Nat.le_refl _) _) q⟩), fun h => h2 (cup_off (by decide) h), fun h => (let ⟨A, d, e, q⟩ := h3 (cup_off (by decide) h); ⟨A, d, e, (sl_stb (fun _ _ => isInt_stb 0)).below ((Below.refl _ W).alloc (Nat.le_refl _) _) q⟩), fun h => h4 (cup_off (by decide) h), fun h => (let ⟨A, d, e, q⟩ := h5 (cup_off (by decide) h); ⟨A, d, e, (sl_stb (fun _ _ => isBool_stb false)).below ((Below.refl _ W).alloc (Nat.le_refl _) _) q⟩), fun h => h6 (cup_off (by decide) h), fun h => (let ⟨A, d, e, q⟩ := h7 (cup_off (by decide) h); ⟨A, d, e, (sl_stb (fun _ _ => HNS)).below ((Below.refl _ W).alloc (Nat.le_refl _) _) q⟩), fun h => h8 (cup_off (by decide) h), fun _ => ⟨_, _, rfl, zeros_sl (Block.made W _ _) (fun e => by rcases e with (e | e) | e; (exact absurd (hF _ e) (by have := hW.1.size; omega)); (have := hW.2.1.lt; omega); (have := hW.2.2.1; omega)) hn1 (SL.nil 0 _ _)⟩, fun h => h10 (cup_off (by decide) h), fun h => (let ⟨A, d, e, q⟩ := h11 (cup_off (by decide) h); ⟨A, d, e, (sl_stb (fun _ _ => HNS)).below ((Below.refl _ W).alloc (Nat.le_refl _) _) q⟩), fun h => h12 (cup_off (by decide) h), fun h => (let ⟨A, d, e, q⟩ := h13 (cup_off (by decide) h); ⟨A, d, e, (sl_stb (fun _ _ => HNS)).below ((Below.refl _ W).alloc (Nat.le_refl _) _) q⟩), fun h => absurd ((h14 (cup_off (by decide) h)).1 9 (by simp)) (by rw [hL]; decide), fun h => (let q := h15 (cup_off (by decide) h); ⟨q.1, q.2.1, q.2.2.1, q.2.2.2.alloc _⟩), ⟨hW.1.alloc (by have := hW.1.size; omega) _, hW.2.1.alloc _, Nat.lt_of_lt_of_le hW.2.2.1 (by simp), hW.2.2.2⟩⟩
    refine StepsOk.cons (ds := []) rfl (by kernel_rfl) ?_ ?_
    · intro L a W hL hd hJ K hK
      obtain ⟨x5, x6, x7, x8, x9, x10, x11, x12, x13, x14, x15, x16, x17, x18, x19, x3, bx, rfl, h0, h1, h2, h3, h4, h5, h6, h7, h8, h9, h10, h11, h12, h13, h14, h15, hW⟩ := hJ
      have HD := Lib.hid hd
      clear hd
      go_simp
      exact hK _ _ ⟨_, _, _, _, _, _, _, _, _, _, _, _, _, _, _, _, bx, rfl, fun h => h0 (cup_off (by decide) h), fun h => h1 (cup_off (by decide) h), fun h => h2 (cup_off (by decide) h), fun h => h3 (cup_off (by decide) h), fun h => h4 (cup_off (by decide) h), fun h => h5 (cup_off (by decide) h), fun h => h6 (cup_off (by decide) h), fun h => h7 (cup_off (by decide) h), fun h => h8 (cup_off (by decide) h), fun h => h9 (cup_off (by decide) h), fun _ => rfl, fun h => h11 (cup_off (by decide) h), fun h => h12 (cup_off (by decide) h), fun h => h13 (cup_off (by decide) h), fun h => (let q := h14 (cup_off (by decide) h); ⟨fun d hd => cup_on (q.1 d hd), q.2⟩), fun h => h15 (cup_off (by decide) h), hW⟩
    refine StepsOk.cons (ds := [10, 10]) rfl (by kernel_rfl) ?_ ?_
    · intro L a W hL hd hJ K hK
      obtain ⟨x5, x6, x7, x8, x9, x10, x11, x12, x13, x14, x15, x16, x17, x18, x19, x3, bx, rfl, h0, h1, h2, h3, h4, h5, h6, h7, h8, h9, h10, h11, h12, h13, h14, h15, hW⟩ := hJ
      obtain rfl := h10 (hd 10 (by simp))
      have hmk := make_r n (by omega)
      have HD := Lib.hid hd
      clear hd
      go_simp
      exact hK _ _ ⟨_, _, _, _, _, _, _, _, _, _, _, _, _, _, _, _, bx, rfl, fun h => h0 (cup_off (by decide) h), fun h => (let ⟨A, d, e, q⟩ := h1 (cup_off (by decide) h); ⟨A, d, e, (sl_stb (fun _ _ => isInt_stb 0)).below ((Below.refl _ W).alloc (Nat.le_refl _) _) q⟩), fun h => h2 (cup_off (by decide) h), fun h => (let ⟨A, d, e, q⟩ := h3 (cup_off (by decide) h); ⟨A, d, e, (sl_stb (fun _ _ => isInt_stb 0)).below ((Below.refl _ W).alloc (Nat.le_refl _) _) q⟩), fun h => h4 (cup_off (by decide) h), fun h => (let ⟨A, d, e, q⟩ := h5 (cup_off (by decide) h); ⟨A, d, e, (sl_stb (fun _ _ => isBool_stb false)).below ((Below.refl _ W).alloc (Nat.le_refl _) _) q⟩), fun h => h6 (cup_off (by decide) h), fun h => (let ⟨A, d, e, q⟩ := h7 (cup_off (by decide) h); ⟨A, d, e, (sl_stb (fun _ _ => HNS)).below ((Below.refl _ W).alloc (Nat.le_refl _) _) q⟩), fun h => h8 (cup_off (by decide) h), fun h => (let ⟨A, d, e, q⟩ := h9 (cup_off (by decide) h); ⟨A, d, e, (sl_stb (fun _ _ => HNS)).below ((Below.refl _ W).alloc (Nat.le_refl _) _) q⟩), fun h => h10 (cup_off (by decide) h), fun _ => ⟨_, _, rfl, zeros_sl (Block.made W _ _) (fun e => by rcases e with (e | e) | e; (exact absurd (hF _ e) (by have := hW.1.size; omega)); (have := hW.2.1.lt; omega); (have := hW.2.2.1; omega)) hn1 (SL.nil 0 _ _)⟩, fun h => h12 (cup_off (by decide) h), fun h => (let ⟨A, d, e, q⟩ := h13 (cup_off (by decide) h); ⟨A, d, e, (sl_stb (fun _ _ => HNS)).below ((Below.refl _ W).alloc (Nat.le_refl _) _) q⟩), fun h => absurd ((h14 (cup_off (by decide) h)).1 11 (by simp)) (by rw [hL]; decide), fun h => (let q := h15 (cup_off (by decide) h); ⟨q.1, q.2.1, q.2.2.1, q.2.2.2.alloc _⟩), ⟨hW.1.alloc (by have := hW.1.size; omega) _, hW.2.1.alloc _, Nat.lt_of_lt_of_le hW.2.2.1 (by simp), hW.2.2.2⟩⟩
    refine StepsOk.cons (ds := []) rfl (by kernel_rfl) ?_ ?_
    · intro L a W hL hd hJ K hK
      obtain ⟨x5, x6, x7, x8, x9, x10, x11, x12, x13, x14, x15, x16, x17, x18, x19, x3, bx, rfl, h0, h1, h2, h3, h4, h5, h6, h7, h8, h9, h10, h11, h12, h13, h14, h15, hW⟩ := hJ
      have HD := Lib.hid hd
      clear hd
      go_simp
      exact hK _ _ ⟨_, _, _, _, _, _, _, _, _, _, _, _, _, _, _, _, bx, rfl, fun h => h0 (cup_off (by decide) h), fun h => h1 (cup_off (by decide) h), fun h => h2 (cup_off (by decide) h), fun h => h3 (cup_off (by decide) h), fun h => h4 (cup_off (by decide) h), fun h => h5 (cup_off (by decide) h), fun h => h6 (cup_off (by decide) h), fun h => h7 (cup_off (by decide) h), fun h => h8 (cup_off (by decide) h), fun h => h9 (cup_off (by decide) h), fun h => h10 (cup_off (by decide) h), fun h => h11 (cup_off (by decide) h), fun _ => rfl, fun h => h13 (cup_off (by decide) h), fun h => (let q := h14 (cup_off (by decide) h); ⟨fun d hd => cup_on (q.1 d hd), q.2⟩), fun h => h15 (cup_off (by decide) h), hW⟩
    refine StepsOk.cons (ds := [12, 12]) rfl (by kernel_rfl) ?_ ?_
    · intro L a W hL hd hJ K hK
      obtain ⟨x5, x6, x7, x8, x9, x10, x11, x12, x13, x14, x15, x16, x17, x18, x19, x3, bx, rfl, h0, h1, h2, h3, h4, h5, h6, h7, h8, h9, h10, h11, h12, h13, h14, h15, hW⟩ := hJ
      obtain rfl := h12 (hd 12 (by simp))
      have hmk := make_r n (by omega)
      have HD := Lib.hid hd
      clear hd
      go_simp
      exact hK _ _ ⟨_, _, _, _, _, _, _, _, _, _, _, _, _, _, _, _, bx, rfl, fun h => h0 (cup_off (by decide) h), fun h => (let ⟨A, d, e, q⟩ := h1 (cup_off (by decide) h); ⟨A, d, e, (sl_stb (fun _ _ => isInt_stb 0)).below ((Below.refl _ W).alloc (Nat.le_refl _) _) q⟩), fun h => h2 (cup_off (by decide) h), fun h => (let ⟨A, d, e, q⟩ := h3 (cup_off (by decide) h); ⟨A, d, e, (sl_stb (fun _ _ => isInt_stb 0)).below ((Below.refl _ W).alloc (Nat.le_refl _) _) q⟩), fun h => h4 (cup_off (by decide) h), fun h => (let ⟨A, d, e, q⟩ := h5 (cup_off (by decide) h); ⟨A, d, e, (sl_stb (fun _ _ => isBool_stb false)).below ((Below.refl _ W).alloc (Nat.le_refl _) _) q⟩), fun h => h6 (cup_off (by decide) h), fun h => (let ⟨A, d, e, q⟩ := h7 (cup_off (by decide) h); ⟨A, d, e, (sl_stb (fun _ _ => HNS)).below ((Below.refl _ W).alloc (Nat.le_refl _) _) q⟩), fun h => h8 (cup_off (by decide) h), fun h => (let ⟨A, d, e, q⟩ := h9 (cup_off (by decide) h); ⟨A, d, e, (sl_stb (fun _ _ => HNS)).below ((Below.refl _ W).alloc (Nat.le_refl _) _) q⟩), fun h => h10 (cup_off (by decide) h), fun h => (let ⟨A, d, e, q⟩ := h11 (cup_off (by decide) h); ⟨A, d, e, (sl_stb (fun _ _ => HNS)).below ((Below.refl _ W).alloc (Nat.le_refl _) _) q⟩), fun h => h12 (cup_off (by decide) h), fun _ => ⟨_, _, rfl, zeros_sl (Block.made W _ _) (fun e => by rcases e with (e | e) | e; (exact absurd (hF _ e) (by have := hW.1.size; omega)); (have := hW.2.1.lt; omega); (have := hW.2.2.1; omega)) hn1 (SL.nil 0 _ _)⟩, fun h => absurd ((h14 (cup_off (by decide) h)).1 13 (by simp)) (by rw [hL]; decide), fun h => (let q := h15 (cup_off (by decide) h); ⟨q.1, q.2.1, q.2.2.1, q.2.2.2.alloc _⟩), ⟨hW.1.alloc (by have := hW.1.size; omega) _, hW.2.1.alloc _, Nat.lt_of_lt_of_le hW.2.2.1 (by simp), hW.2.2.2⟩⟩
    refine StepsOk.cons (ds := [1, 3, 5, 7, 9, 11, 13]) rfl (by kernel_rfl) ?_ ?_
    · intro L a W hL hd hJ K hK
      obtain ⟨x5, x6, x7, x8, x9, x10, x11, x12, x13, x14, x15, x16, x17, x18, x19, x3, bx, rfl, h0, h1, h2, h3, h4, h5, h6, h7, h8, h9, h10, h11, h12, h13, h14, h15, hW⟩ := hJ
      obtain ⟨A1, d1, rfl, -⟩ := h1 (hd 1 (by simp))
      obtain ⟨A3, d3, rfl, -⟩ := h3 (hd 3 (by simp))
      obtain ⟨A5, d5, rfl, -⟩ := h5 (hd 5 (by simp))
      obtain ⟨A7, d7, rfl, -⟩ := h7 (hd 7 (by simp))
      obtain ⟨A9, d9, rfl, -⟩ := h9 (hd 9 (by simp))
      obtain ⟨A11, d11, rfl, -⟩ := h11 (hd 11 (by simp))
      obtain ⟨A13, d13, rfl, -⟩ := h13 (hd 13 (by simp))
      have HD := Lib.hid hd
      clear hd
      go_simp
      exact hK _ _ ⟨_, _, _, _, _, _, _, _, _, _, _, _, _, _, _, _, bx, rfl, fun h => h0 (cup_off (by decide) h), fun h => h1 (cup_off (by decide) h), fun h => h2 (cup_off (by decide) h), fun h => h3 (cup_off (by decide) h), fun h => h4 (cup_off (by decide) h), fun h => h5 (cup_off (by decide) h), fun h => h6 (cup_off (by decide) h), fun h => h7 (cup_off (by decide) h), fun h => h8 (cup_off (by decide) h), fun h => h9 (cup_off (by decide) h), fun h => h10 (cup_off (by decide) h), fun h => h11 (cup_off (by decide) h), fun h => h12 (cup_off (by decide) h), fun h => h13 (cup_off (by decide) h), fun _ => ⟨fun d hd2 => cup_on (HD.out d hd2), rfl⟩, fun h => h15 (cup_off (by decide) h), hW⟩
    refine StepsOk.cons (ds := []) rfl (by kernel_rfl) ?_ ?_
    · intro L a W hL hd hJ K hK
      obtain ⟨x5, x6, x7, x8, x9, x10, x11, x12, x13, x14, x15, x16, x17, x18, x19, x3, bx, rfl, h0, h1, h2, h3, h4, h5, h6, h7, h8, h9, h10, h11, h12, h13, h14, h15, hW⟩ := hJ
      have HD := Lib.hid hd
      clear hd
      go_simp
      exact hK _ _ ⟨_, _, _, _, _, _, _, _, _, _, _, _, _, _, _, _, W.heap.size, rfl, fun h => h0 (cup_off (by decide) h), fun h => (let ⟨A, d, e, q⟩ := h1 (cup_off (by decide) h); ⟨A, d, e, (sl_stb (fun _ _ => isInt_stb 0)).below ((Below.refl _ W).alloc (Nat.le_refl _) _) ((sl_stb (fun _ _ => isInt_stb 0)).more (fun z hz hv => hv.elim Or.inl fun e => absurd hz (by omega)) q)⟩), fun h => h2 (cup_off (by decide) h), fun h => (let ⟨A, d, e, q⟩ := h3 (cup_off (by decide) h); ⟨A, d, e, (sl_stb (fun _ _ => isInt_stb 0)).below ((Below.refl _ W).alloc (Nat.le_refl _) _) ((sl_stb (fun _ _ => isInt_stb 0)).more (fun z hz hv => hv.elim Or.inl fun e => absurd hz (by omega)) q)⟩), fun h => h4 (cup_off (by decide) h), fun h => (let ⟨A, d, e, q⟩ := h5 (cup_off (by decide) h); ⟨A, d, e, (sl_stb (fun _ _ => isBool_stb false)).below ((Below.refl _ W).alloc (Nat.le_refl _) _) ((sl_stb (fun _ _ => isBool_stb false)).more (fun z hz hv => hv.elim Or.inl fun e => absurd hz (by omega)) q)⟩), fun h => h6 (cup_off (by decide) h), fun h => (let ⟨A, d, e, q⟩ := h7 (cup_off (by decide) h); ⟨A, d, e, (sl_stb (fun _ _ => HNS)).below ((Below.refl _ W).alloc (Nat.le_refl _) _) ((sl_stb (fun _ _ => HNS)).more (fun z hz hv => hv.elim Or.inl fun e => absurd hz (by omega)) q)⟩), fun h => h8 (cup_off (by decide) h), fun h => (let ⟨A, d, e, q⟩ := h9 (cup_off (by decide) h); ⟨A, d, e, (sl_stb (fun _ _ => HNS)).below ((Below.refl _ W).alloc (Nat.le_refl _) _) ((sl_stb (fun _ _ => HNS)).more (fun z hz hv => hv.elim Or.inl fun e => absurd hz (by omega)) q)⟩), fun h => h10 (cup_off (by decide) h), fun h => (let ⟨A, d, e, q⟩ := h11 (cup_off (by decide) h); ⟨A, d, e, (sl_stb (fun _ _ => HNS)).below ((Below.refl _ W).alloc (Nat.le_refl _) _) ((sl_stb (fun _ _ => HNS)).more (fun z hz hv => hv.elim Or.inl fun e => absurd hz (by omega)) q)⟩), fun h => h12 (cup_off (by decide) h), fun h => (let ⟨A, d, e, q⟩ := h13 (cup_off (by decide) h); ⟨A, d, e, (sl_stb (fun _ _ => HNS)).below ((Below.refl _ W).alloc (Nat.le_refl _) _) ((sl_stb (fun _ _ => HNS)).more (fun z hz hv => hv.elim Or.inl fun e => absurd hz (by omega)) q)⟩), fun h => (let q := h14 (cup_off (by decide) h); ⟨fun d hd => cup_on (q.1 d hd), q.2⟩), fun _ => ⟨rfl, hW.1.size, (by have := hW.2.1.lt; omega), Block.made W _ _⟩, ⟨hW.1.alloc (by have := hW.1.size; omega) _, hW.2.1.alloc _, by simp, Or.inr hW.1.size⟩⟩
    exact StepsOk.nil
  · intro L a W hL hJ K hK
    obtain ⟨x5, x6, x7, x8, x9, x10, x11, x12, x13, x14, x15, x16, x17, x18, x19, x3, bx, rfl, h0, h1, h2, h3, h4, h5, h6, h7, h8, h9, h10, h11, h12, h13, h14, h15, hW⟩ := hJ
    obtain ⟨rfl, hlo, hne, hbk⟩ := h15 (hL 15 (by decide))
    obtain ⟨A1, d1, rfl, g1⟩ := h1 (hL 1 (by decide))
    obtain ⟨A3, d3, rfl, g3⟩ := h3 (hL 3 (by decide))
    obtain ⟨A5, d5, rfl, g5⟩ := h5 (hL 5 (by decide))
    obtain ⟨A7, d7, rfl, g7⟩ := h7 (hL 7 (by decide))
    obtain ⟨A9, d9, rfl, g9⟩ := h9 (hL 9 (by decide))
    obtain ⟨A11, d11, rfl, g11⟩ := h11 (hL 11 (by decide))
    obtain ⟨A13, d13, rfl, g13⟩ := h13 (hL 13 (by decide))
    obtain ⟨-, rfl⟩ := h14 (hL 14 (by decide))
    have r0 := hbk.cell 0
    have r1 := hbk.cell 1
    have r2 := hbk.cell 2
    have r3 := hbk.cell 3
    have r4 := hbk.cell 4
    have r5 := hbk.cell 5
    have r6 := hbk.cell 6
    have r7 := hbk.cell 7
    have fr0 := hbk.free 0
    have fr1 := hbk.free 1
    have fr2 := hbk.free 2
    have fr3 := hbk.free 3
    have fr4 := hbk.free 4
    have fr5 := hbk.free 5
    have fr6 := hbk.free 6
    have fr7 := hbk.free 7
    simp at r0 r1 r2 r3 r4 r5 r6 r7
    have hput := ((((((((hbk.put 0 (.slice none 0 0)).put 1 (.slice A1 n d1)).put 2 (.slice A3 n d3)).put 3 (.slice A5 n d5)).put 4 (.slice A7 n d7)).put 5 (.slice A9 n d9)).put 6 (.slice A11 n d11)).put 7 (.slice A13 n d13))
    simp at hput
    have hbel := ((((((((hW.1.setCell (p := ⟨bx, 0, none⟩) hlo (.slice none 0 0)).setCell (p := ⟨bx, 1, none⟩) hlo (.slice A1 n d1)).setCell (p := ⟨bx, 2, none⟩) hlo (.slice A3 n d3)).setCell (p := ⟨bx, 3, none⟩) hlo (.slice A5 n d5)).setCell (p := ⟨bx, 4, none⟩) hlo (.slice A7 n d7)).setCell (p := ⟨bx, 5, none⟩) hlo (.slice A9 n d9)).setCell (p := ⟨bx, 6, none⟩) hlo (.slice A11 n d11)).setCell (p := ⟨bx, 7, none⟩) hlo (.slice A13 n d13))
    have hbb := (Block.far (Block.far (Block.far (Block.far (Block.far (Block.far (Block.far (Block.far hW.2.1 (p := ⟨bx, 0, none⟩) (fun e => hne e.symm) (.slice none 0 0)) (p := ⟨bx, 1, none⟩) (fun e => hne e.symm) (.slice A1 n d1)) (p := ⟨bx, 2, none⟩) (fun e => hne e.symm) (.slice A3 n d3)) (p := ⟨bx, 3, none⟩) (fun e => hne e.symm) (.slice A5 n d5)) (p := ⟨bx, 4, none⟩) (fun e => hne e.symm) (.slice A7 n d7)) (p := ⟨bx, 5, none⟩) (fun e => hne e.symm) (.slice A9 n d9)) (p := ⟨bx, 6, none⟩) (fun e => hne e.symm) (.slice A11 n d11)) (p := ⟨bx, 7, none⟩) (fun e => hne e.symm) (.slice A13 n d13))
    have G1 := (Stb.put (F := (fun z => (F z ∨ z = b) ∨ z = bx)) (sl_stb (fun _ _ => isInt_stb 0)) (p := ⟨bx, 7, none⟩) (Or.inr rfl) (.slice A13 n d13) (Stb.put (F := (fun z => (F z ∨ z = b) ∨ z = bx)) (sl_stb (fun _ _ => isInt_stb 0)) (p := ⟨bx, 6, none⟩) (Or.inr rfl) (.slice A11 n d11) (Stb.put (F := (fun z => (F z ∨ z = b) ∨ z = bx)) (sl_stb (fun _ _ => isInt_stb 0)) (p := ⟨bx, 5, none⟩) (Or.inr rfl) (.slice A9 n d9) (Stb.put (F := (fun z => (F z ∨ z = b) ∨ z = bx)) (sl_stb (fun _ _ => isInt_stb 0)) (p := ⟨bx, 4, none⟩) (Or.inr rfl) (.slice A7 n d7) (Stb.put (F := (fun z => (F z ∨ z = b) ∨ z = bx)) (sl_stb (fun _ _ => isInt_stb 0)) (p := ⟨bx, 3, none⟩) (Or.inr rfl) (.slice A5 n d5) (Stb.put (F := (fun z => (F z ∨ z = b) ∨ z = bx)) (sl_stb (fun _ _ => isInt_stb 0)) (p := ⟨bx, 2, none⟩) (Or.inr rfl) (.slice A3 n d3) (Stb.put (F := (fun z => (F z ∨ z = b) ∨ z = bx)) (sl_stb (fun _ _ => isInt_stb 0)) (p := ⟨bx, 1, none⟩) (Or.inr rfl) (.slice A1 n d1) (Stb.put (F := (fun z => (F z ∨ z = b) ∨ z = bx)) (sl_stb (fun _ _ => isInt_stb 0)) (p := ⟨bx, 0, none⟩) (Or.inr rfl) (.slice none 0 0) g1))))))))
    have G3 := (Stb.put (F := (fun z => (F z ∨ z = b) ∨ z = bx)) (sl_stb (fun _ _ => isInt_stb 0)) (p := ⟨bx, 7, none⟩) (Or.inr rfl) (.slice A13 n d13) (Stb.put (F := (fun z => (F z ∨ z = b) ∨ z = bx)) (sl_stb (fun _ _ => isInt_stb 0)) (p := ⟨bx, 6, none⟩) (Or.inr rfl) (.slice A11 n d11) (Stb.put (F := (fun z => (F z ∨ z = b) ∨ z = bx)) (sl_stb (fun _ _ => isInt_stb 0)) (p := ⟨bx, 5, none⟩) (Or.inr rfl) (.slice A9 n d9) (Stb.put (F := (fun z => (F z ∨ z = b) ∨ z = bx)) (sl_stb (fun _ _ => isInt_stb 0)) (p := ⟨bx, 4, none⟩) (Or.inr rfl) (.slice A7 n d7) (Stb.put (F := (fun z => (F z ∨ z = b) ∨ z = bx)) (sl_stb (fun _ _ => isInt_stb 0)) (p := ⟨bx, 3, none⟩) (Or.inr rfl) (.slice A5 n d5) (Stb.put (F := (fun z => (F z ∨ z = b) ∨ z = bx)) (sl_stb (fun _ _ => isInt_stb 0)) (p := ⟨bx, 2, none⟩) (Or.inr rfl) (.slice A3 n d3) (Stb.put (F := (fun z => (F z ∨ z = b) ∨ z = bx)) (sl_stb (fun _ _ => isInt_stb 0)) (p := ⟨bx, 1, none⟩) (Or.inr rfl) (.slice A1 n d1) (Stb.put (F := (fun z => (F z ∨ z = b) ∨ z = bx)) (sl_stb (fun _ _ => isInt_stb 0)) (p := ⟨bx, 0, none⟩) (Or.inr rfl) (.slice none 0 0) g3))))))))
    have G5 := (Stb.put (F := (fun z => (F z ∨ z = b) ∨ z = bx)) (sl_stb (fun _ _ => isBool_stb false)) (p := ⟨bx, 7, none⟩) (Or.inr rfl) (.slice A13 n d13) (Stb.put (F := (fun z => (F z ∨ z = b) ∨ z = bx)) (sl_stb (fun _ _ => isBool_stb false)) (p := ⟨bx, 6, none⟩) (Or.inr rfl) (.slice A11 n d11) (Stb.put (F := (fun z => (F z ∨ z = b) ∨ z = bx)) (sl_stb (fun _ _ => isBool_stb false)) (p := ⟨bx, 5, none⟩) (Or.inr rfl) (.slice A9 n d9) (Stb.put (F := (fun z => (F z ∨ z = b) ∨ z = bx)) (sl_stb (fun _ _ => isBool_stb false)) (p := ⟨bx, 4, none⟩) (Or.inr rfl) (.slice A7 n d7) (Stb.put (F := (fun z => (F z ∨ z = b) ∨ z = bx)) (sl_stb (fun _ _ => isBool_stb false)) (p := ⟨bx, 3, none⟩) (Or.inr rfl) (.slice A5 n d5) (Stb.put (F := (fun z => (F z ∨ z = b) ∨ z = bx)) (sl_stb (fun _ _ => isBool_stb false)) (p := ⟨bx, 2, none⟩) (Or.inr rfl) (.slice A3 n d3) (Stb.put (F := (fun z => (F z ∨ z = b) ∨ z = bx)) (sl_stb (fun _ _ => isBool_stb false)) (p := ⟨bx, 1, none⟩) (Or.inr rfl) (.slice A1 n d1) (Stb.put (F := (fun z => (F z ∨ z = b) ∨ z = bx)) (sl_stb (fun _ _ => isBool_stb false)) (p := ⟨bx, 0, none⟩) (Or.inr rfl) (.slice none 0 0) g5))))))))
    have G7 := (Stb.put (F := (fun z => (F z ∨ z = b) ∨ z = bx)) (sl_stb (fun _ _ => HNS)) (p := ⟨bx, 7, none⟩) (Or.inr rfl) (.slice A13 n d13) (Stb.put (F := (fun z => (F z ∨ z = b) ∨ z = bx)) (sl_stb (fun _ _ => HNS)) (p := ⟨bx, 6, none⟩) (Or.inr rfl) (.slice A11 n d11) (Stb.put (F := (fun z => (F z ∨ z = b) ∨ z = bx)) (sl_stb (fun _ _ => HNS)) (p := ⟨bx, 5, none⟩) (Or.inr rfl) (.slice A9 n d9) (Stb.put (F := (fun z => (F z ∨ z = b) ∨ z = bx)) (sl_stb (fun _ _ => HNS)) (p := ⟨bx, 4, none⟩) (Or.inr rfl) (.slice A7 n d7) (Stb.put (F := (fun z => (F z ∨ z = b) ∨ z = bx)) (sl_stb (fun _ _ => HNS)) (p := ⟨bx, 3, none⟩) (Or.inr rfl) (.slice A5 n d5) (Stb.put (F := (fun z => (F z ∨ z = b) ∨ z = bx)) (sl_stb (fun _ _ => HNS)) (p := ⟨bx, 2, none⟩) (Or.inr rfl) (.slice A3 n d3) (Stb.put (F := (fun z => (F z ∨ z = b) ∨ z = bx)) (sl_stb (fun _ _ => HNS)) (p := ⟨bx, 1, none⟩) (Or.inr rfl) (.slice A1 n d1) (Stb.put (F := (fun z => (F z ∨ z = b) ∨ z = bx)) (sl_stb (fun _ _ => HNS)) (p := ⟨bx, 0, none⟩) (Or.inr rfl) (.slice none 0 0) g7))))))))
    have G9 := (Stb.put (F := (fun z => (F z ∨ z = b) ∨ z = bx)) (sl_stb (fun _ _ => HNS)) (p := ⟨bx, 7, none⟩) (Or.inr rfl) (.slice A13 n d13) (Stb.put (F := (fun z => (F z ∨ z = b) ∨ z = bx)) (sl_stb (fun _ _ => HNS)) (p := ⟨bx, 6, none⟩) (Or.inr rfl) (.slice A11 n d11) (Stb.put (F := (fun z => (F z ∨ z = b) ∨ z = bx)) (sl_stb (fun _ _ => HNS)) (p := ⟨bx, 5, none⟩) (Or.inr rfl) (.slice A9 n d9) (Stb.put (F := (fun z => (F z ∨ z = b) ∨ z = bx)) (sl_stb (fun _ _ => HNS)) (p := ⟨bx, 4, none⟩) (Or.inr rfl) (.slice A7 n d7) (Stb.put (F := (fun z => (F z ∨ z = b) ∨ z = bx)) (sl_stb (fun _ _ => HNS)) (p := ⟨bx, 3, none⟩) (Or.inr rfl) (.slice A5 n d5) (Stb.put (F := (fun z => (F z ∨ z = b) ∨ z = bx)) (sl_stb (fun _ _ => HNS)) (p := ⟨bx, 2, none⟩) (Or.inr rfl) (.slice A3 n d3) (Stb.put (F := (fun z => (F z ∨ z = b) ∨ z = bx)) (sl_stb (fun _ _ => HNS)) (p := ⟨bx, 1, none⟩) (Or.inr rfl) (.slice A1 n d1) (Stb.put (F := (fun z => (F z ∨ z = b) ∨ z = bx)) (sl_stb (fun _ _ => HNS)) (p := ⟨bx, 0, none⟩) (Or.inr rfl) (.slice none 0 0) g9))))))))
    have G11 := (Stb.put (F := (fun z => (F z ∨ z = b) ∨ z = bx)) (sl_stb (fun _ _ => HNS)) (p := ⟨bx, 7, none⟩) (Or.inr rfl) (.slice A13 n d13) (Stb.put (F := (fun z => (F z ∨ z = b) ∨ z = bx)) (sl_stb (fun _ _ => HNS)) (p := ⟨bx, 6, none⟩) (Or.inr rfl) (.slice A11 n d11) (Stb.put (F := (fun z => (F z ∨ z = b) ∨ z = bx)) (sl_stb (fun _ _ => HNS)) (p := ⟨bx, 5, none⟩) (Or.inr rfl) (.slice A9 n d9) (Stb.put (F := (fun z => (F z ∨ z = b) ∨ z = bx)) (sl_stb (fun _ _ => HNS)) (p := ⟨bx, 4, none⟩) (Or.inr rfl) (.slice A7 n d7) (Stb.put (F := (fun z => (F z ∨ z = b) ∨ z = bx)) (sl_stb (fun _ _ => HNS)) (p := ⟨bx, 3, none⟩) (Or.inr rfl) (.slice A5 n d5) (Stb.put (F := (fun z => (F z ∨ z = b) ∨ z = bx)) (sl_stb (fun _ _ => HNS)) (p := ⟨bx, 2, none⟩) (Or.inr rfl) (.slice A3 n d3) (Stb.put (F := (fun z => (F z ∨ z = b) ∨ z = bx)) (sl_stb (fun _ _ => HNS)) (p := ⟨bx, 1, none⟩) (Or.inr rfl) (.slice A1 n d1) (Stb.put (F := (fun z => (F z ∨ z = b) ∨ z = bx)) (sl_stb (fun _ _ => HNS)) (p := ⟨bx, 0, none⟩) (Or.inr rfl) (.slice none 0 0) g11))))))))
    have G13 := (Stb.put (F := (fun z => (F z ∨ z = b) ∨ z = bx)) (sl_stb (fun _ _ => HNS)) (p := ⟨bx, 7, none⟩) (Or.inr rfl) (.slice A13 n d13) (Stb.put (F := (fun z => (F z ∨ z = b) ∨ z = bx)) (sl_stb (fun _ _ => HNS)) (p := ⟨bx, 6, none⟩) (Or.inr rfl) (.slice A11 n d11) (Stb.put (F := (fun z => (F z ∨ z = b) ∨ z = bx)) (sl_stb (fun _ _ => HNS)) (p := ⟨bx, 5, none⟩) (Or.inr rfl) (.slice A9 n d9) (Stb.put (F := (fun z => (F z ∨ z = b) ∨ z = bx)) (sl_stb (fun _ _ => HNS)) (p := ⟨bx, 4, none⟩) (Or.inr rfl) (.slice A7 n d7) (Stb.put (F := (fun z => (F z ∨ z = b) ∨ z = bx)) (sl_stb (fun _ _ => HNS)) (p := ⟨bx, 3, none⟩) (Or.inr rfl) (.slice A5 n d5) (Stb.put (F := (fun z => (F z ∨ z = b) ∨ z = bx)) (sl_stb (fun _ _ => HNS)) (p := ⟨bx, 2, none⟩) (Or.inr rfl) (.slice A3 n d3) (Stb.put (F := (fun z => (F z ∨ z = b) ∨ z = bx)) (sl_stb (fun _ _ => HNS)) (p := ⟨bx, 1, none⟩) (Or.inr rfl) (.slice A1 n d1) (Stb.put (F := (fun z => (F z ∨ z = b) ∨ z = bx)) (sl_stb (fun _ _ => HNS)) (p := ⟨bx, 0, none⟩) (Or.inr rfl) (.slice none 0 0) g13))))))))
    have HP := Lib.hid (⟨hput, hbel, hbb, G1, G3, G5, G7, G9, G11, G13⟩ : _ ∧ _ ∧ _ ∧ _ ∧ _ ∧ _ ∧ _ ∧ _ ∧ _ ∧ _)
    clear h0 h1 h2 h3 h4 h5 h6 h7 h8 h9 h10 h11 h12 h13 h14 h15 hL hbk hput hbel hbb hW g1 G1 g3 G3 g5 G5 g7 G7 g9 G9 g11 G11 g13 G13
    go_simp
    exact hK _ _ (hQ _ _ _ _ _ _ _ _ _ bx hlo hne A1 A3 A5 A7 A9 A11 A13 d1 d3 d5 d7 d9 d11 d13 HP.out.1 HP.out.2.1 HP.out.2.2.1 HP.out.2.2.2.1 HP.out.2.2.2.2.1 HP.out.2.2.2.2.2.1 HP.out.2.2.2.2.2.2.1 HP.out.2.2.2.2.2.2.2.1 HP.out.2.2.2.2.2.2.2.2.1 HP.out.2.2.2.2.2.2.2.2.2)
end Go.Proofs.YtnplhjbbkccdnaaDoor.Snap
