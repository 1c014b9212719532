/-
  The walk of latchgarthlaw4.DequePlays: region 30, in which the reference is called.
-/
import Derived.Test.YtbicckeoidijpaaDoorDequeRegC
import Derived.Test.YtbicckeoidijpaaDoorHeldA
namespace Go.Proofs.YtbicckeoidijpaaDoor.Dq
open Go.RowKit Rf

noncomputable def reg30 : Code := ((Tryd.f3.body.bind (regionC 30)).getD .skip)
set_option maxRecDepth 1000000 in
set_option maxHeartbeats 8000000 in
theorem reg30_any {w wr : World} {g b n A b1 o1 c' d0 d3 d4 d5 d6 : Nat} {B0 B3 B4 B5 B6 : Option Addr} {s : DV} {x : Int} {Q : Exit → Act → World → Prop} (HU : Hid (UP w wr g b n s A s (.slice B0 8 d0) (.int .i64 ((s.T : Nat) : Int)) (.int .i64 s.B) (.slice B3 n d3) (.slice B4 n d4) (.slice B5 n d5) (.slice B6 n d6))) (HC2 : Hid (∀ W, Below w.heap.size w W → W.cell? ⟨b1, o1, none⟩ = some (.int .i64 x))) (hA : A ≤ 1000000) (hn4 : n ≤ 4) (z0 z1 z2 z3 z4 z5 z6 z8 z10 z11 z12 z13 z14 z15 z16 z17 z18 z19 z20 z21 z22 z23 z24 z25 z26 z27 z28 z29 z30 z31 z32 z33 z34 z35 z36 z37 z38 z39 z40 z41 z42 z43 z44 z45 z46 z47 z48 z49 z50 z51 z52 z53 z54 z55 z56 z57 z58 z59 z60 z61 z62 z63 z64 z65 z66 z67 z68 z69 z70 z71 z72 z73 z74 z75 z76 z77 z78 z79 z80 z81 z82 z83 z84 z85 z86 z87 z88 z89 z90 z91 z92 z93 z94 z95 z96 z97 z98 z99 z100 z101 z102 z103 z104 z105 z106 z107 z108 z109 z110 z111 z112 z113 z114 z115 z116 z117 z118 z119 z120 z121 z122 z123 z124 z125 z126 z127 z128 z129 z130 z131 z132 z133 z134 z135 z136 z137 z138 z139 z140 z141 z142 z143 z144 z145 z146 z147 z148 z149 z150 z151 z152 z153 z154 z155 z156 z157 z158 z159 z160 z161 z162 z163 z164 z165 z166 z167 z168 z169 z170 z171 z172 z173 z174 z175 z176 z177 z178 z179 z180 z181 z182 z183 z184 z185 z186 z187 z188 z189 z190 z191 z192 z193 z194 z195 z196 z197 z198 : Value)
    (hQ : Hid (∀ (x115 x116 x117 x118 x119 x114 x120 x121 x122 x123 : Value) (W : World) (bv : Nat) (y0 y1 y2 y3 y4 y5 y6 : Value), Block W bv 31 #[y0, y1, y2, y3, y4, y5, y6] → UP w W g b n s A s (.slice B0 8 d0) (.int .i64 ((s.T : Nat) : Int)) (.int .i64 s.B) (.slice B3 n d3) (.slice B4 n d4) (.slice B5 n d5) (.slice B6 n d6) → RD (fun z => z = g ∨ z = b) W n (sStpS n s x) y0 y1 y2 y3 y4 y5 y6 → Q .normal ⟨#[z0, z1, z2, z3, z4, z5, z6, .pointer (some ⟨b, 0, none⟩), z8, Value.slice (some ⟨b1, o1, none⟩) ([x] : List Int).length c', z10, z11, .pointer (some ⟨bv, 0, none⟩), .bool (sStpD n s x), .int .i64 (sStpG n s x), .int .i64 (sStpE n s x), z16, z17, z18, z19, z20, z21, z22, z23, z24, z25, z26, z27, z28, z29, z30, z31, z32, z33, z34, z35, z36, z37, z38, z39, z40, z41, z42, z43, z44, z45, z46, z47, z48, z49, z50, z51, z52, z53, z54, z55, z56, z57, z58, z59, z60, z61, z62, z63, z64, z65, z66, z67, z68, z69, z70, z71, z72, z73, z74, z75, z76, z77, z78, z79, z80, z81, z82, z83, z84, z85, z86, z87, z88, z89, z90, z91, z92, z93, z94, z95, z96, z97, z98, z99, z100, z101, z102, z103, z104, z105, z106, z107, z108, z109, z110, z111, z112, z113, x114, x115, x116, x117, x118, x119, x120, x121, x122, x123, z124, z125, z126, z127, z128, z129, z130, z131, z132, z133, z134, z135, z136, z137, z138, z139, z140, z141, z142, z143, z144, z145, z146, z147, z148, z149, z150, z151, z152, z153, z154, z155, z156, z157, z158, z159, z160, z161, z162, z163, z164, z165, z166, z167, z168, z169, z170, z171, z172, z173, z174, z175, z176, z177, z178, z179, z180, z181, z182, z183, z184, z185, z186, z187, z188, z189, z190, z191, z192, z193, z194, z195, z196, z197, z198], []⟩ W)) (hP : ∀ (c : List PanicEntry) (a : Act) (d : Option Tmp) (v : Value) (w : World), Q (.panic c) (a.put d v) w → Q (.panic c) a w) : Code.wp Tryd.prog reg30 Q ⟨#[z0, z1, z2, z3, z4, z5, z6, .pointer (some ⟨b, 0, none⟩), z8, Value.slice (some ⟨b1, o1, none⟩) ([x] : List Int).length c', z10, z11, z12, z13, z14, z15, z16, z17, z18, z19, z20, z21, z22, z23, z24, z25, z26, z27, z28, z29, z30, z31, z32, z33, z34, z35, z36, z37, z38, z39, z40, z41, z42, z43, z44, z45, z46, z47, z48, z49, z50, z51, z52, z53, z54, z55, z56, z57, z58, z59, z60, z61, z62, z63, z64, z65, z66, z67, z68, z69, z70, z71, z72, z73, z74, z75, z76, z77, z78, z79, z80, z81, z82, z83, z84, z85, z86, z87, z88, z89, z90, z91, z92, z93, z94, z95, z96, z97, z98, z99, z100, z101, z102, z103, z104, z105, z106, z107, z108, z109, z110, z111, z112, z113, z114, z115, z116, z117, z118, z119, z120, z121, z122, z123, z124, z125, z126, z127, z128, z129, z130, z131, z132, z133, z134, z135, z136, z137, z138, z139, z140, z141, z142, z143, z144, z145, z146, z147, z148, z149, z150, z151, z152, z153, z154, z155, z156, z157, z158, z159, z160, z161, z162, z163, z164, z165, z166, z167, z168, z169, z170, z171, z172, z173, z174, z175, z176, z177, z178, z179, z180, z181, z182, z183, z184, z185, z186, z187, z188, z189, z190, z191, z192, z193, z194, z195, z196, z197, z198], []⟩ wr := by
  conv => arg 2; whnf
  have HSS := Lib.hid (show ∀ W, Below wr.heap.size wr W → (fun W : World => (W.cell? ⟨b, 0, none⟩ = some (.slice B0 8 d0) ∧ W.cell? ⟨b, 1, none⟩ = some (.int .i64 ((s.T : Nat) : Int)) ∧ W.cell? ⟨b, 2, none⟩ = some (.int .i64 s.B) ∧ W.cell? ⟨b, 3, none⟩ = some (.slice B3 n d3) ∧ W.cell? ⟨b, 4, none⟩ = some (.slice B4 n d4) ∧ W.cell? ⟨b, 5, none⟩ = some (.slice B5 n d5) ∧ W.cell? ⟨b, 6, none⟩ = some (.slice B6 n d6)) ∧ W.cell? ⟨b1, o1, none⟩ = some (.int .i64 x)) W from fun W hb => ⟨(HU.out.call hb).q, HC2.out W (HU.out.call hb).lk.below⟩)
  refine wp_region_held_drew (S := (fun W : World => (W.cell? ⟨b, 0, none⟩ = some (.slice B0 8 d0) ∧ W.cell? ⟨b, 1, none⟩ = some (.int .i64 ((s.T : Nat) : Int)) ∧ W.cell? ⟨b, 2, none⟩ = some (.int .i64 s.B) ∧ W.cell? ⟨b, 3, none⟩ = some (.slice B3 n d3) ∧ W.cell? ⟨b, 4, none⟩ = some (.slice B4 n d4) ∧ W.cell? ⟨b, 5, none⟩ = some (.slice B5 n d5) ∧ W.cell? ⟨b, 6, none⟩ = some (.slice B6 n d6)) ∧ W.cell? ⟨b1, o1, none⟩ = some (.int .i64 x))) (by kernel_rfl) ?_ (fun hHeld => ?_)
  · exact HSS.out wr.drew (Below.refl _ wr).drew
  refine wpAnyH_take (i := 0) (oi := { dst := some 115, op := Op.load 31 (Operand.tmp 7), type := 31, pos := "law.go:209", after := #[], guard := none }) (v := .agg #[.slice B0 8 d0, .int .i64 ((s.T : Nat) : Int), .int .i64 s.B, .slice B3 n d3, .slice B4 n d4, .slice B5 n d5, .slice B6 n d6]) rfl (by kernel_rfl) (by kernel_rfl) (by kernel_rfl) (fun _ _ _ h => hP _ _ _ _ _ h) (Or.inl ⟨by rfl, fun W hSw => by (try dsimp only at hSw); go_simp⟩) (by assumption) ?_
  try simp only [Act.put, List.setIfInBounds_toArray, List.set_cons_zero, List.set_cons_succ]
  refine wpAnyH_take (i := 1) (oi := { dst := some 116, op := Op.move (Operand.tmp 9), type := 29, pos := "law.go:209", after := #[], guard := none }) (v := Value.slice (some ⟨b1, o1, none⟩) ([x] : List Int).length c') rfl (by kernel_rfl) (by kernel_rfl) (by kernel_rfl) (fun _ _ _ h => hP _ _ _ _ _ h) (Or.inl ⟨by rfl, fun W hSw => by (try dsimp only at hSw); go_simp⟩) (by assumption) ?_
  try simp only [Act.put, List.setIfInBounds_toArray, List.set_cons_zero, List.set_cons_succ]
  refine wpAnyH_take (i := 2) (oi := { dst := some 117, op := Op.indexAddr 29 (Operand.tmp 116) (Operand.const (Value.int IntKind.i64 0)), type := 0, pos := "law.go:209", after := #[{ on := 1, ground := Ground.data }], guard := none }) (v := .pointer (some ⟨b1, o1, none⟩)) rfl (by kernel_rfl) (by kernel_rfl) (by kernel_rfl) (fun _ _ _ h => hP _ _ _ _ _ h) (Or.inl ⟨by rfl, fun W hSw => by (try dsimp only at hSw); go_simp⟩) (by assumption) ?_
  try simp only [Act.put, List.setIfInBounds_toArray, List.set_cons_zero, List.set_cons_succ]
  refine wpAnyH_take (i := 3) (oi := { dst := some 118, op := Op.load 3 (Operand.tmp 117), type := 3, pos := "law.go:209", after := #[{ on := 2, ground := Ground.data }], guard := none }) (v := .int .i64 x) rfl (by kernel_rfl) (by kernel_rfl) (by kernel_rfl) (fun _ _ _ h => hP _ _ _ _ _ h) (Or.inl ⟨by rfl, fun W hSw => by (try dsimp only at hSw); go_simp⟩) (by assumption) ?_
  try simp only [Act.put, List.setIfInBounds_toArray, List.set_cons_zero, List.set_cons_succ]
  have hwd : Below wr.heap.size wr wr.drew := (Below.refl _ wr).drew
  have hal : Below wr.heap.size wr (wr.drew.alloc (.cells #[.slice none 0 0, .int .i64 0, .int .i64 0, .slice none 0 0, .slice none 0 0, .slice none 0 0, .slice none 0 0] 31)) := hwd.alloc (Nat.le_refl _) _
  have HRA := Lib.hid (refstep_any (F := (fun z => z = g ∨ z = b)) wr.drew (HU.out.call hwd).rk (HU.out.call hwd).F hn4 HU.out.lk.ok (Nat.le_trans HU.out.lk.age hA) x)
  refine held_two 4 10 (o := { dst := some 119, op := Op.call { callee := Callee.value (Operand.func 12), args := #[Operand.tmp 115, Operand.tmp 118], argTypes := #[31, 3] }, type := 38, pos := "law.go:209", after := #[{ on := 0, ground := Ground.data }, { on := 3, ground := Ground.data }], guard := none }) (p := { dst := some 12, op := Op.alloc 31, type := 0, pos := "law.go:209", after := #[], guard := none }) ?hr_1 ?ho_1 ?hp_1 ?hw_1 ?hw2_1 12 #[.agg #[.slice B0 8 d0, .int .i64 ((s.T : Nat) : Int), .int .i64 s.B, .slice B3 n d3, .slice B4 n d4, .slice B5 n d5, .slice B6 n d6], .int .i64 x] ?hx_1 _ HRA.out (.pointer (some ⟨wr.heap.size, 0, none⟩)) (wr.drew.alloc (.cells #[.slice none 0 0, .int .i64 0, .int .i64 0, .slice none 0 0, .slice none 0 0, .slice none 0 0, .slice none 0 0] 31)) ?hy_1 ?hS_1 ?h_1 ?h2_1
  case hr_1 => kernel_rfl
  case ho_1 => rfl
  case hp_1 => rfl
  case hw_1 => rfl
  case hw2_1 => rfl
  case hx_1 => (go_simp; try rfl)
  case hy_1 => (intro K hK; go_simp; exact hK)
  case hS_1 => exact HSS.out _ hal
  case h_1 =>
    rintro e w5 ⟨y0, y1, y2, y3, y4, y5, y6, rfl, hr5, hb5⟩
    obtain ⟨rfl, rfl, E0, f0, E3, f3, E4, f4, E5, f5, E6, f6, rfl, rfl, rfl, rfl, rfl⟩ := hr5.forms
    have hb := hwd.trans (hb5.mono hwd.size)
    clear hHeld
    refine ⟨_, rfl, HSS.out w5 hb, ?_⟩
    have hHeld := HSS.out w5 hb
    try simp only [Act.put, List.setIfInBounds_toArray, List.set_cons_zero, List.set_cons_succ]
    refine wpAnyH_take (i := 5) (oi := { dst := some 114, op := Op.move (Operand.tmp 119), type := 38, pos := "law.go:209", after := #[{ on := 4, ground := Ground.data }], guard := none }) (v := .tuple #[.agg #[.slice E0 8 f0, .int .i64 (((sStpS n s x).T : Nat) : Int), .int .i64 (sStpS n s x).B, .slice E3 n f3, .slice E4 n f4, .slice E5 n f5, .slice E6 n f6], .bool (sStpD n s x), .int .i64 (sStpG n s x), .int .i64 (sStpE n s x)]) rfl (by kernel_rfl) (by kernel_rfl) (by kernel_rfl) (fun _ _ _ h => hP _ _ _ _ _ h) (Or.inl ⟨by rfl, fun W hSw => by (try dsimp only at hSw); go_simp⟩) (by assumption) ?_
    try simp only [Act.put, List.setIfInBounds_toArray, List.set_cons_zero, List.set_cons_succ]
    refine wpAnyH_take (i := 6) (oi := { dst := some 120, op := Op.extract (Operand.tmp 114) 0, type := 31, pos := "law.go:209", after := #[{ on := 5, ground := Ground.data }], guard := none }) (v := .agg #[.slice E0 8 f0, .int .i64 (((sStpS n s x).T : Nat) : Int), .int .i64 (sStpS n s x).B, .slice E3 n f3, .slice E4 n f4, .slice E5 n f5, .slice E6 n f6]) rfl (by kernel_rfl) (by kernel_rfl) (by kernel_rfl) (fun _ _ _ h => hP _ _ _ _ _ h) (Or.inl ⟨by rfl, fun W hSw => by (try dsimp only at hSw); go_simp⟩) (by assumption) ?_
    try simp only [Act.put, List.setIfInBounds_toArray, List.set_cons_zero, List.set_cons_succ]
    refine wpAnyH_take (i := 7) (oi := { dst := some 121, op := Op.extract (Operand.tmp 114) 1, type := 4, pos := "law.go:209", after := #[{ on := 5, ground := Ground.data }, { on := 11, ground := Ground.gcOnly Departure.lateStores }], guard := none }) (v := .bool (sStpD n s x)) rfl (by kernel_rfl) (by kernel_rfl) (by kernel_rfl) (fun _ _ _ h => hP _ _ _ _ _ h) (Or.inl ⟨by rfl, fun W hSw => by (try dsimp only at hSw); go_simp⟩) (by assumption) ?_
    try simp only [Act.put, List.setIfInBounds_toArray, List.set_cons_zero, List.set_cons_succ]
    refine wpAnyH_take (i := 8) (oi := { dst := some 122, op := Op.extract (Operand.tmp 114) 2, type := 3, pos := "law.go:209", after := #[{ on := 5, ground := Ground.data }, { on := 12, ground := Ground.gcOnly Departure.lateStores }], guard := none }) (v := .int .i64 (sStpG n s x)) rfl (by kernel_rfl) (by kernel_rfl) (by kernel_rfl) (fun _ _ _ h => hP _ _ _ _ _ h) (Or.inl ⟨by rfl, fun W hSw => by (try dsimp only at hSw); go_simp⟩) (by assumption) ?_
    try simp only [Act.put, List.setIfInBounds_toArray, List.set_cons_zero, List.set_cons_succ]
    refine wpAnyH_take (i := 9) (oi := { dst := some 123, op := Op.extract (Operand.tmp 114) 3, type := 3, pos := "law.go:209", after := #[{ on := 5, ground := Ground.data }, { on := 13, ground := Ground.gcOnly Departure.lateStores }], guard := none }) (v := .int .i64 (sStpE n s x)) rfl (by kernel_rfl) (by kernel_rfl) (by kernel_rfl) (fun _ _ _ h => hP _ _ _ _ _ h) (Or.inl ⟨by rfl, fun W hSw => by (try dsimp only at hSw); go_simp⟩) (by assumption) ?_
    try simp only [Act.put, List.setIfInBounds_toArray, List.set_cons_zero, List.set_cons_succ]
    have hbk := Block.made w5 31 #[.slice none 0 0, .int .i64 0, .int .i64 0, .slice none 0 0, .slice none 0 0, .slice none 0 0, .slice none 0 0]
    have hb6 := hb.alloc hb.size (.cells #[.slice none 0 0, .int .i64 0, .int .i64 0, .slice none 0 0, .slice none 0 0, .slice none 0 0, .slice none 0 0] 31)
    have hlo : wr.heap.size ≤ w5.heap.size := hb.size
    have hr6 := (hr5.more (F' := fun z => (z = g ∨ z = b) ∨ z = w5.heap.size) (fun z hz h => h.elim id fun e => absurd hz (by omega))).below ((Below.refl _ w5).alloc (Nat.le_refl _) (.cells #[.slice none 0 0, .int .i64 0, .int .i64 0, .slice none 0 0, .slice none 0 0, .slice none 0 0, .slice none 0 0] 31))
    clear hHeld
    have hHeld := HSS.out _ hb6
    have HSN0 := Lib.hid hHeld
    clear hHeld
    refine held_any 10 (o := { dst := some 12, op := Op.alloc 31, type := 0, pos := "law.go:209", after := #[], guard := none }) ?hr_2 ?ho_2 ?hw_2 (.pointer (some ⟨w5.heap.size, 0, none⟩)) (w5.alloc (.cells #[.slice none 0 0, .int .i64 0, .int .i64 0, .slice none 0 0, .slice none 0 0, .slice none 0 0, .slice none 0 0] 31)) ?hy_2 ?hS_2 ?h_2
    case hr_2 => kernel_rfl
    case ho_2 => rfl
    case hw_2 => rfl
    case hy_2 => (intro K hK; go_simp; exact hK)
    case hS_2 => exact HSN0.out
    try simp only [Act.put, List.setIfInBounds_toArray, List.set_cons_zero, List.set_cons_succ]
    obtain ⟨w6, hw6⟩ : ∃ W, W = w5.alloc (.cells #[.slice none 0 0, .int .i64 0, .int .i64 0, .slice none 0 0, .slice none 0 0, .slice none 0 0, .slice none 0 0] 31) := ⟨_, rfl⟩
    rw [← hw6] at hbk hb6 hr6 ⊢
    clear hw6
    have r0 := hbk.cell 0
    have r1 := hbk.cell 1
    have r2 := hbk.cell 2
    have r3 := hbk.cell 3
    have r4 := hbk.cell 4
    have r5 := hbk.cell 5
    have r6 := hbk.cell 6
    have fr0 := hbk.free 0
    have fr1 := hbk.free 1
    have fr2 := hbk.free 2
    have fr3 := hbk.free 3
    have fr4 := hbk.free 4
    have fr5 := hbk.free 5
    have fr6 := hbk.free 6
    simp at r0 r1 r2 r3 r4 r5 r6
    have hput := (((((((hbk.put 0 (.slice E0 8 f0)).put 1 (.int .i64 (((sStpS n s x).T : Nat) : Int))).put 2 (.int .i64 (sStpS n s x).B)).put 3 (.slice E3 n f3)).put 4 (.slice E4 n f4)).put 5 (.slice E5 n f5)).put 6 (.slice E6 n f6))
    simp at hput
    have htch := ((((((((Touch.refl (fun z => z = w5.heap.size) w6).setCell (p := ⟨w5.heap.size, 0, none⟩) (Or.inl rfl) (.slice E0 8 f0)).setCell (p := ⟨w5.heap.size, 1, none⟩) (Or.inl rfl) (.int .i64 (((sStpS n s x).T : Nat) : Int))).setCell (p := ⟨w5.heap.size, 2, none⟩) (Or.inl rfl) (.int .i64 (sStpS n s x).B)).setCell (p := ⟨w5.heap.size, 3, none⟩) (Or.inl rfl) (.slice E3 n f3)).setCell (p := ⟨w5.heap.size, 4, none⟩) (Or.inl rfl) (.slice E4 n f4)).setCell (p := ⟨w5.heap.size, 5, none⟩) (Or.inl rfl) (.slice E5 n f5)).setCell (p := ⟨w5.heap.size, 6, none⟩) (Or.inl rfl) (.slice E6 n f6))
    have hbel := (((((((hb6.setCell (p := ⟨w5.heap.size, 0, none⟩) hlo (.slice E0 8 f0)).setCell (p := ⟨w5.heap.size, 1, none⟩) hlo (.int .i64 (((sStpS n s x).T : Nat) : Int))).setCell (p := ⟨w5.heap.size, 2, none⟩) hlo (.int .i64 (sStpS n s x).B)).setCell (p := ⟨w5.heap.size, 3, none⟩) hlo (.slice E3 n f3)).setCell (p := ⟨w5.heap.size, 4, none⟩) hlo (.slice E4 n f4)).setCell (p := ⟨w5.heap.size, 5, none⟩) hlo (.slice E5 n f5)).setCell (p := ⟨w5.heap.size, 6, none⟩) hlo (.slice E6 n f6))
    have hrk2 := ((hr6).touch htch (fun z _ e => Or.inr e)).more (F' := (fun z => z = g ∨ z = b)) (fun z _ h => Or.inl h)
    have HPUT := Lib.hid hput
    have HRK := Lib.hid hrk2
    have HUW := Lib.hid (HU.out.call hbel)
    have hHeld := HSS.out _ hbel
    have HSN := Lib.hid hHeld
    clear hput htch hbel hrk2 hHeld
    refine held_any 11 (o := { dst := none, op := Op.store 31 (Operand.tmp 12) (Operand.tmp 120), type := 0, pos := "law.go:209", after := #[{ on := 10, ground := Ground.data }, { on := 6, ground := Ground.data }, { on := 4, ground := Ground.chain }, { on := 0, ground := Ground.phase }, { on := 1, ground := Ground.phase }, { on := 2, ground := Ground.phase }, { on := 3, ground := Ground.phase }, { on := 4, ground := Ground.phase }, { on := 5, ground := Ground.phase }, { on := 6, ground := Ground.phase }, { on := 7, ground := Ground.textOnly Departure.lateStores }, { on := 8, ground := Ground.textOnly Departure.lateStores }, { on := 9, ground := Ground.textOnly Departure.lateStores }, { on := 10, ground := Ground.phase }], guard := none }) ?hr_3 ?ho_3 ?hw_3 undef (((((((w6.setCell ⟨w5.heap.size, 0, none⟩ (.slice E0 8 f0)).setCell ⟨w5.heap.size, 1, none⟩ (.int .i64 (((sStpS n s x).T : Nat) : Int))).setCell ⟨w5.heap.size, 2, none⟩ (.int .i64 (sStpS n s x).B)).setCell ⟨w5.heap.size, 3, none⟩ (.slice E3 n f3)).setCell ⟨w5.heap.size, 4, none⟩ (.slice E4 n f4)).setCell ⟨w5.heap.size, 5, none⟩ (.slice E5 n f5)).setCell ⟨w5.heap.size, 6, none⟩ (.slice E6 n f6)) ?hy_3 ?hS_3 ?h_3
    case hr_3 => kernel_rfl
    case ho_3 => rfl
    case hw_3 => rfl
    case hy_3 => (intro K hK; go_simp; exact hK)
    case hS_3 => exact HSN.out
    have hHeld := HSN.out
    clear r0 fr0 r1 fr1 r2 fr2 r3 fr3 r4 fr4 r5 fr5 r6 fr6
    try simp only [Act.put]
    refine wpAnyH_take (i := 12) (oi := { dst := some 13, op := Op.assign (Operand.tmp 121), type := 4, pos := "law.go:209", after := #[{ on := 7, ground := Ground.data }, { on := 11, ground := Ground.chain }, { on := 0, ground := Ground.phase }, { on := 1, ground := Ground.phase }, { on := 2, ground := Ground.phase }, { on := 3, ground := Ground.phase }, { on := 4, ground := Ground.phase }, { on := 5, ground := Ground.phase }, { on := 6, ground := Ground.phase }, { on := 7, ground := Ground.phase }, { on := 8, ground := Ground.textOnly Departure.lateStores }, { on := 9, ground := Ground.textOnly Departure.lateStores }, { on := 10, ground := Ground.phase }, { on := 11, ground := Ground.phase }], guard := none }) (v := .bool (sStpD n s x)) rfl (by kernel_rfl) (by kernel_rfl) (by kernel_rfl) (fun _ _ _ h => hP _ _ _ _ _ h) (Or.inl ⟨by rfl, fun W hSw => by (try dsimp only at hSw); go_simp⟩) (by assumption) ?_
    try simp only [Act.put, List.setIfInBounds_toArray, List.set_cons_zero, List.set_cons_succ]
    refine wpAnyH_take (i := 13) (oi := { dst := some 14, op := Op.assign (Operand.tmp 122), type := 3, pos := "law.go:209", after := #[{ on := 8, ground := Ground.data }, { on := 12, ground := Ground.chain }, { on := 0, ground := Ground.phase }, { on := 1, ground := Ground.phase }, { on := 2, ground := Ground.phase }, { on := 3, ground := Ground.phase }, { on := 4, ground := Ground.phase }, { on := 5, ground := Ground.phase }, { on := 6, ground := Ground.phase }, { on := 7, ground := Ground.phase }, { on := 8, ground := Ground.phase }, { on := 9, ground := Ground.textOnly Departure.lateStores }, { on := 10, ground := Ground.phase }, { on := 11, ground := Ground.phase }, { on := 12, ground := Ground.phase }], guard := none }) (v := .int .i64 (sStpG n s x)) rfl (by kernel_rfl) (by kernel_rfl) (by kernel_rfl) (fun _ _ _ h => hP _ _ _ _ _ h) (Or.inl ⟨by rfl, fun W hSw => by (try dsimp only at hSw); go_simp⟩) (by assumption) ?_
    try simp only [Act.put, List.setIfInBounds_toArray, List.set_cons_zero, List.set_cons_succ]
    refine wpAnyH_take (i := 14) (oi := { dst := some 15, op := Op.assign (Operand.tmp 123), type := 3, pos := "law.go:209", after := #[{ on := 9, ground := Ground.data }, { on := 13, ground := Ground.chain }, { on := 0, ground := Ground.phase }, { on := 1, ground := Ground.phase }, { on := 2, ground := Ground.phase }, { on := 3, ground := Ground.phase }, { on := 4, ground := Ground.phase }, { on := 5, ground := Ground.phase }, { on := 6, ground := Ground.phase }, { on := 7, ground := Ground.phase }, { on := 8, ground := Ground.phase }, { on := 9, ground := Ground.phase }, { on := 10, ground := Ground.phase }, { on := 11, ground := Ground.phase }, { on := 12, ground := Ground.phase }, { on := 13, ground := Ground.phase }], guard := none }) (v := .int .i64 (sStpE n s x)) rfl (by kernel_rfl) (by kernel_rfl) (by kernel_rfl) (fun _ _ _ h => hP _ _ _ _ _ h) (Or.inl ⟨by rfl, fun W hSw => by (try dsimp only at hSw); go_simp⟩) (by assumption) ?_
    try simp only [Act.put, List.setIfInBounds_toArray, List.set_cons_zero, List.set_cons_succ]
    refine wpAnyH_done (by kernel_rfl) ?_ _
    exact hQ.out _ _ _ _ _ _ _ _ _ _ _ w5.heap.size _ _ _ _ _ _ _ HPUT.out HUW.out HRK.out
  case h2_1 =>
    obtain ⟨w6, hw6⟩ : ∃ W, W = wr.drew.alloc (.cells #[.slice none 0 0, .int .i64 0, .int .i64 0, .slice none 0 0, .slice none 0 0, .slice none 0 0, .slice none 0 0] 31) := ⟨_, rfl⟩
    have hbk : Block w6 wr.heap.size 31 #[.slice none 0 0, .int .i64 0, .int .i64 0, .slice none 0 0, .slice none 0 0, .slice none 0 0, .slice none 0 0] := (by rw [hw6]; exact Block.made wr.drew _ _)
    rw [← hw6] at hal ⊢
    clear hw6
    clear hHeld
    have hHeld := HSS.out w6 hal
    try simp only [Act.put, List.setIfInBounds_toArray, List.set_cons_zero, List.set_cons_succ]
    have hrk := (HU.out.rk.more (F' := (fun z => (z = g ∨ z = b) ∨ z = wr.heap.size)) (fun z hz h => h.elim id fun e => absurd hz (by omega))).below hal
    have hFv : ∀ z, (fun z => (z = g ∨ z = b) ∨ z = wr.heap.size) z → z < w6.heap.size := fun z hz => hz.elim (fun h => (HU.out.call hal).F z h) fun h => (by rw [h]; exact hbk.lt)
    have HRB := Lib.hid (refstep_any (F := (fun z => (z = g ∨ z = b) ∨ z = wr.heap.size)) w6 hrk hFv hn4 HU.out.lk.ok (Nat.le_trans HU.out.lk.age hA) x)
    refine held_call 4 (o := { dst := some 119, op := Op.call { callee := Callee.value (Operand.func 12), args := #[Operand.tmp 115, Operand.tmp 118], argTypes := #[31, 3] }, type := 38, pos := "law.go:209", after := #[{ on := 0, ground := Ground.data }, { on := 3, ground := Ground.data }], guard := none }) ?hr_4 ?ho_4 ?hw_4 12 #[.agg #[.slice B0 8 d0, .int .i64 ((s.T : Nat) : Int), .int .i64 s.B, .slice B3 n d3, .slice B4 n d4, .slice B5 n d5, .slice B6 n d6], .int .i64 x] ?hx_4 _ HRB.out ?h_4
    case hr_4 => kernel_rfl
    case ho_4 => rfl
    case hw_4 => rfl
    case hx_4 => (go_simp; try rfl)
    case h_4 =>
    rintro e w5 ⟨y0, y1, y2, y3, y4, y5, y6, rfl, hr5, hb5⟩
    obtain ⟨rfl, rfl, E0, f0, E3, f3, E4, f4, E5, f5, E6, f6, rfl, rfl, rfl, rfl, rfl⟩ := hr5.forms
    have hb := hal.trans (hb5.mono hal.size)
    have hbk5 := hbk.below hb5 hbk.lt
    have hlo : wr.heap.size ≤ wr.heap.size := Nat.le_refl _
    clear hHeld
    refine ⟨_, rfl, HSS.out w5 hb, ?_⟩
    have hHeld := HSS.out w5 hb
    try simp only [Act.put, List.setIfInBounds_toArray, List.set_cons_zero, List.set_cons_succ]
    refine wpAnyH_take (i := 5) (oi := { dst := some 114, op := Op.move (Operand.tmp 119), type := 38, pos := "law.go:209", after := #[{ on := 4, ground := Ground.data }], guard := none }) (v := .tuple #[.agg #[.slice E0 8 f0, .int .i64 (((sStpS n s x).T : Nat) : Int), .int .i64 (sStpS n s x).B, .slice E3 n f3, .slice E4 n f4, .slice E5 n f5, .slice E6 n f6], .bool (sStpD n s x), .int .i64 (sStpG n s x), .int .i64 (sStpE n s x)]) rfl (by kernel_rfl) (by kernel_rfl) (by kernel_rfl) (fun _ _ _ h => hP _ _ _ _ _ h) (Or.inl ⟨by rfl, fun W hSw => by (try dsimp only at hSw); go_simp⟩) (by assumption) ?_
    try simp only [Act.put, List.setIfInBounds_toArray, List.set_cons_zero, List.set_cons_succ]
    refine wpAnyH_take (i := 6) (oi := { dst := some 120, op := Op.extract (Operand.tmp 114) 0, type := 31, pos := "law.go:209", after := #[{ on := 5, ground := Ground.data }], guard := none }) (v := .agg #[.slice E0 8 f0, .int .i64 (((sStpS n s x).T : Nat) : Int), .int .i64 (sStpS n s x).B, .slice E3 n f3, .slice E4 n f4, .slice E5 n f5, .slice E6 n f6]) rfl (by kernel_rfl) (by kernel_rfl) (by kernel_rfl) (fun _ _ _ h => hP _ _ _ _ _ h) (Or.inl ⟨by rfl, fun W hSw => by (try dsimp only at hSw); go_simp⟩) (by assumption) ?_
    try simp only [Act.put, List.setIfInBounds_toArray, List.set_cons_zero, List.set_cons_succ]
    refine wpAnyH_take (i := 7) (oi := { dst := some 121, op := Op.extract (Operand.tmp 114) 1, type := 4, pos := "law.go:209", after := #[{ on := 5, ground := Ground.data }, { on := 11, ground := Ground.gcOnly Departure.lateStores }], guard := none }) (v := .bool (sStpD n s x)) rfl (by kernel_rfl) (by kernel_rfl) (by kernel_rfl) (fun _ _ _ h => hP _ _ _ _ _ h) (Or.inl ⟨by rfl, fun W hSw => by (try dsimp only at hSw); go_simp⟩) (by assumption) ?_
    try simp only [Act.put, List.setIfInBounds_toArray, List.set_cons_zero, List.set_cons_succ]
    refine wpAnyH_take (i := 8) (oi := { dst := some 122, op := Op.extract (Operand.tmp 114) 2, type := 3, pos := "law.go:209", after := #[{ on := 5, ground := Ground.data }, { on := 12, ground := Ground.gcOnly Departure.lateStores }], guard := none }) (v := .int .i64 (sStpG n s x)) rfl (by kernel_rfl) (by kernel_rfl) (by kernel_rfl) (fun _ _ _ h => hP _ _ _ _ _ h) (Or.inl ⟨by rfl, fun W hSw => by (try dsimp only at hSw); go_simp⟩) (by assumption) ?_
    try simp only [Act.put, List.setIfInBounds_toArray, List.set_cons_zero, List.set_cons_succ]
    refine wpAnyH_take (i := 9) (oi := { dst := some 123, op := Op.extract (Operand.tmp 114) 3, type := 3, pos := "law.go:209", after := #[{ on := 5, ground := Ground.data }, { on := 13, ground := Ground.gcOnly Departure.lateStores }], guard := none }) (v := .int .i64 (sStpE n s x)) rfl (by kernel_rfl) (by kernel_rfl) (by kernel_rfl) (fun _ _ _ h => hP _ _ _ _ _ h) (Or.inl ⟨by rfl, fun W hSw => by (try dsimp only at hSw); go_simp⟩) (by assumption) ?_
    try simp only [Act.put, List.setIfInBounds_toArray, List.set_cons_zero, List.set_cons_succ]
    clear hHeld
    have r0 := hbk5.cell 0
    have r1 := hbk5.cell 1
    have r2 := hbk5.cell 2
    have r3 := hbk5.cell 3
    have r4 := hbk5.cell 4
    have r5 := hbk5.cell 5
    have r6 := hbk5.cell 6
    have fr0 := hbk5.free 0
    have fr1 := hbk5.free 1
    have fr2 := hbk5.free 2
    have fr3 := hbk5.free 3
    have fr4 := hbk5.free 4
    have fr5 := hbk5.free 5
    have fr6 := hbk5.free 6
    simp at r0 r1 r2 r3 r4 r5 r6
    have hput := (((((((hbk5.put 0 (.slice E0 8 f0)).put 1 (.int .i64 (((sStpS n s x).T : Nat) : Int))).put 2 (.int .i64 (sStpS n s x).B)).put 3 (.slice E3 n f3)).put 4 (.slice E4 n f4)).put 5 (.slice E5 n f5)).put 6 (.slice E6 n f6))
    simp at hput
    have htch := ((((((((Touch.refl (fun z => z = wr.heap.size) w5).setCell (p := ⟨wr.heap.size, 0, none⟩) (Or.inl rfl) (.slice E0 8 f0)).setCell (p := ⟨wr.heap.size, 1, none⟩) (Or.inl rfl) (.int .i64 (((sStpS n s x).T : Nat) : Int))).setCell (p := ⟨wr.heap.size, 2, none⟩) (Or.inl rfl) (.int .i64 (sStpS n s x).B)).setCell (p := ⟨wr.heap.size, 3, none⟩) (Or.inl rfl) (.slice E3 n f3)).setCell (p := ⟨wr.heap.size, 4, none⟩) (Or.inl rfl) (.slice E4 n f4)).setCell (p := ⟨wr.heap.size, 5, none⟩) (Or.inl rfl) (.slice E5 n f5)).setCell (p := ⟨wr.heap.size, 6, none⟩) (Or.inl rfl) (.slice E6 n f6))
    have hbel := (((((((hb.setCell (p := ⟨wr.heap.size, 0, none⟩) hlo (.slice E0 8 f0)).setCell (p := ⟨wr.heap.size, 1, none⟩) hlo (.int .i64 (((sStpS n s x).T : Nat) : Int))).setCell (p := ⟨wr.heap.size, 2, none⟩) hlo (.int .i64 (sStpS n s x).B)).setCell (p := ⟨wr.heap.size, 3, none⟩) hlo (.slice E3 n f3)).setCell (p := ⟨wr.heap.size, 4, none⟩) hlo (.slice E4 n f4)).setCell (p := ⟨wr.heap.size, 5, none⟩) hlo (.slice E5 n f5)).setCell (p := ⟨wr.heap.size, 6, none⟩) hlo (.slice E6 n f6))
    have hrk2 := ((hr5).touch htch (fun z _ e => Or.inr e)).more (F' := (fun z => z = g ∨ z = b)) (fun z _ h => Or.inl h)
    have HPUT := Lib.hid hput
    have HRK := Lib.hid hrk2
    have HUW := Lib.hid (HU.out.call hbel)
    have hHeld := HSS.out _ hbel
    have HSN := Lib.hid hHeld
    clear hput htch hbel hrk2 hHeld
    refine held_any 11 (o := { dst := none, op := Op.store 31 (Operand.tmp 12) (Operand.tmp 120), type := 0, pos := "law.go:209", after := #[{ on := 10, ground := Ground.data }, { on := 6, ground := Ground.data }, { on := 4, ground := Ground.chain }, { on := 0, ground := Ground.phase }, { on := 1, ground := Ground.phase }, { on := 2, ground := Ground.phase }, { on := 3, ground := Ground.phase }, { on := 4, ground := Ground.phase }, { on := 5, ground := Ground.phase }, { on := 6, ground := Ground.phase }, { on := 7, ground := Ground.textOnly Departure.lateStores }, { on := 8, ground := Ground.textOnly Departure.lateStores }, { on := 9, ground := Ground.textOnly Departure.lateStores }, { on := 10, ground := Ground.phase }], guard := none }) ?hr_5 ?ho_5 ?hw_5 undef (((((((w5.setCell ⟨wr.heap.size, 0, none⟩ (.slice E0 8 f0)).setCell ⟨wr.heap.size, 1, none⟩ (.int .i64 (((sStpS n s x).T : Nat) : Int))).setCell ⟨wr.heap.size, 2, none⟩ (.int .i64 (sStpS n s x).B)).setCell ⟨wr.heap.size, 3, none⟩ (.slice E3 n f3)).setCell ⟨wr.heap.size, 4, none⟩ (.slice E4 n f4)).setCell ⟨wr.heap.size, 5, none⟩ (.slice E5 n f5)).setCell ⟨wr.heap.size, 6, none⟩ (.slice E6 n f6)) ?hy_5 ?hS_5 ?h_5
    case hr_5 => kernel_rfl
    case ho_5 => rfl
    case hw_5 => rfl
    case hy_5 => (intro K hK; go_simp; exact hK)
    case hS_5 => exact HSN.out
    have hHeld := HSN.out
    clear r0 fr0 r1 fr1 r2 fr2 r3 fr3 r4 fr4 r5 fr5 r6 fr6
    try simp only [Act.put]
    refine wpAnyH_take (i := 12) (oi := { dst := some 13, op := Op.assign (Operand.tmp 121), type := 4, pos := "law.go:209", after := #[{ on := 7, ground := Ground.data }, { on := 11, ground := Ground.chain }, { on := 0, ground := Ground.phase }, { on := 1, ground := Ground.phase }, { on := 2, ground := Ground.phase }, { on := 3, ground := Ground.phase }, { on := 4, ground := Ground.phase }, { on := 5, ground := Ground.phase }, { on := 6, ground := Ground.phase }, { on := 7, ground := Ground.phase }, { on := 8, ground := Ground.textOnly Departure.lateStores }, { on := 9, ground := Ground.textOnly Departure.lateStores }, { on := 10, ground := Ground.phase }, { on := 11, ground := Ground.phase }], guard := none }) (v := .bool (sStpD n s x)) rfl (by kernel_rfl) (by kernel_rfl) (by kernel_rfl) (fun _ _ _ h => hP _ _ _ _ _ h) (Or.inl ⟨by rfl, fun W hSw => by (try dsimp only at hSw); go_simp⟩) (by assumption) ?_
    try simp only [Act.put, List.setIfInBounds_toArray, List.set_cons_zero, List.set_cons_succ]
    refine wpAnyH_take (i := 13) (oi := { dst := some 14, op := Op.assign (Operand.tmp 122), type := 3, pos := "law.go:209", after := #[{ on := 8, ground := Ground.data }, { on := 12, ground := Ground.chain }, { on := 0, ground := Ground.phase }, { on := 1, ground := Ground.phase }, { on := 2, ground := Ground.phase }, { on := 3, ground := Ground.phase }, { on := 4, ground := Ground.phase }, { on := 5, ground := Ground.phase }, { on := 6, ground := Ground.phase }, { on := 7, ground := Ground.phase }, { on := 8, ground := Ground.phase }, { on := 9, ground := Ground.textOnly Departure.lateStores }, { on := 10, ground := Ground.phase }, { on := 11, ground := Ground.phase }, { on := 12, ground := Ground.phase }], guard := none }) (v := .int .i64 (sStpG n s x)) rfl (by kernel_rfl) (by kernel_rfl) (by kernel_rfl) (fun _ _ _ h => hP _ _ _ _ _ h) (Or.inl ⟨by rfl, fun W hSw => by (try dsimp only at hSw); go_simp⟩) (by assumption) ?_
    try simp only [Act.put, List.setIfInBounds_toArray, List.set_cons_zero, List.set_cons_succ]
    refine wpAnyH_take (i := 14) (oi := { dst := some 15, op := Op.assign (Operand.tmp 123), type := 3, pos := "law.go:209", after := #[{ on := 9, ground := Ground.data }, { on := 13, ground := Ground.chain }, { on := 0, ground := Ground.phase }, { on := 1, ground := Ground.phase }, { on := 2, ground := Ground.phase }, { on := 3, ground := Ground.phase }, { on := 4, ground := Ground.phase }, { on := 5, ground := Ground.phase }, { on := 6, ground := Ground.phase }, { on := 7, ground := Ground.phase }, { on := 8, ground := Ground.phase }, { on := 9, ground := Ground.phase }, { on := 10, ground := Ground.phase }, { on := 11, ground := Ground.phase }, { on := 12, ground := Ground.phase }, { on := 13, ground := Ground.phase }], guard := none }) (v := .int .i64 (sStpE n s x)) rfl (by kernel_rfl) (by kernel_rfl) (by kernel_rfl) (fun _ _ _ h => hP _ _ _ _ _ h) (Or.inl ⟨by rfl, fun W hSw => by (try dsimp only at hSw); go_simp⟩) (by assumption) ?_
    try simp only [Act.put, List.setIfInBounds_toArray, List.set_cons_zero, List.set_cons_succ]
    refine wpAnyH_done (by kernel_rfl) ?_ _
    exact hQ.out _ _ _ _ _ _ _ _ _ _ _ wr.heap.size _ _ _ _ _ _ _ HPUT.out HUW.out HRK.out
end Go.Proofs.YtbicckeoidijpaaDoor.Dq
