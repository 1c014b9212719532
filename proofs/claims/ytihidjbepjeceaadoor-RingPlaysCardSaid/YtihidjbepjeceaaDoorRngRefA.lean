/-
  The reference of package ring: sp0, sp1y, sp1n, sp3.
-/
import Derived.Test.YtihidjbepjeceaaDoorRngRefH
namespace Go.Proofs.YtihidjbepjeceaaDoor.Ring
open Go.RowKit Rf

set_option maxHeartbeats 8000000 in
set_option maxRecDepth 100000 in
theorem sp0 {F : Nat → Prop} {n : Nat} {s : RGS} {A0 : Option Addr} {c0 : Nat} (w : World) (h : pn n s F w (.slice A0 n c0)) (hF : ∀ b, F b → b < w.heap.size) (ha : s.pa = 0) :
    Calls Tryd.prog 6 #[.agg #[.slice A0 n c0, .int .i64 ((s.hd : Nat) : Int), .int .i64 ((s.tl : Nat) : Int), .int .i64 ((s.pa : Nat) : Int), .int .i64 ((s.ga : Nat) : Int), .int .i64 ((s.pv : Nat) : Int), .int .i64 ((s.gv : Nat) : Int)]] w fun e w' => SpT F w w' n ⟨0, s.pv, s.ga, s.gv, s.hd, s.tl, s.pl, s.puts, s.out, s.have'⟩ (.bool false) (.bool false) (.int .i64 7) e := by
  have hst := RS.start (start_ring h) hF
  obtain ⟨b, hb⟩ : ∃ b, b = w.heap.size := ⟨_, rfl⟩
  obtain ⟨W0, hW0⟩ : ∃ W0, W0 = (w.alloc (.cells #[.slice A0 n c0, .int .i64 ((s.hd : Nat) : Int), .int .i64 ((s.tl : Nat) : Int), .int .i64 ((s.pa : Nat) : Int), .int .i64 ((s.ga : Nat) : Int), .int .i64 ((s.pv : Nat) : Int), .int .i64 ((s.gv : Nat) : Int)] 30)).alloc (.cells #[.slice none 0 0, .int .i64 0, .int .i64 0, .int .i64 0, .int .i64 0, .int .i64 0, .int .i64 0] 30) := ⟨_, rfl⟩
  rw [← hW0, ← hb] at hst
  have haI : ((s.pa : Nat) : Int) = 0 := by omega
  rw [haI] at hst hW0 ⊢
  have HS0 := Lib.hid hst
  have HW0 := Lib.hid hW0
  have HBW := Lib.hid hb.symm
  clear hst h hF hb hW0 ha haI
  go_enter Tryd.func6, Tryd.ntmps6
  go_upto_region 1 with fail
  rw [← HW0.out, HBW.out]
  obtain ⟨q0, q1, q2, q3, q4, q5, q6⟩ := HS0.out.q
  have fq0 := HS0.out.box.free 0
  have fq1 := HS0.out.box.free 1
  have fq2 := HS0.out.box.free 2
  have fq3 := HS0.out.box.free 3
  have fq4 := HS0.out.box.free 4
  have fq5 := HS0.out.box.free 5
  have fq6 := HS0.out.box.free 6
  obtain ⟨r0, r1, r2, r3, r4, r5, r6⟩ := HS0.out.r
  have fr0 := HS0.out.res.free 0
  have fr1 := HS0.out.res.free 1
  have fr2 := HS0.out.res.free 2
  have fr3 := HS0.out.res.free 3
  have fr4 := HS0.out.res.free 4
  have fr5 := HS0.out.res.free 5
  have fr6 := HS0.out.res.free 6
  go_wp2_with fail
  refine bodyPost_ret (v := .tuple _) (results_cell4 rfl _ _ (b + 1) 30 _ (0, 0) _ rfl HS0.out.told.1 Tryd.underlying30 rfl (by kernel_rfl)) rfl (SpT.of ⟨_, _, rfl, HS0.out.told.2.2.p0, HS0.out.told.2.1⟩)
set_option maxHeartbeats 8000000 in
set_option maxRecDepth 100000 in
theorem sp1y {F : Nat → Prop} {n : Nat} {s : RGS} {A0 : Option Addr} {c0 : Nat} (w : World) (h : pn n s F w (.slice A0 n c0)) (hF : ∀ b, F b → b < w.heap.size) (ha : s.pa = 1) (hf : s.tl = s.hd + n) (h8 : n ≤ 8) :
    Calls Tryd.prog 6 #[.agg #[.slice A0 n c0, .int .i64 ((s.hd : Nat) : Int), .int .i64 ((s.tl : Nat) : Int), .int .i64 ((s.pa : Nat) : Int), .int .i64 ((s.ga : Nat) : Int), .int .i64 ((s.pv : Nat) : Int), .int .i64 ((s.gv : Nat) : Int)]] w fun e w' => SpT F w w' n ⟨0, s.pv, s.ga, s.gv, s.hd, s.tl, s.pl, s.puts, s.out, s.have'⟩ (.bool true) (.bool false) (.int .i64 0) e := by
  have hst := RS.start (start_ring h) hF
  obtain ⟨b, hb⟩ : ∃ b, b = w.heap.size := ⟨_, rfl⟩
  obtain ⟨W0, hW0⟩ : ∃ W0, W0 = (w.alloc (.cells #[.slice A0 n c0, .int .i64 ((s.hd : Nat) : Int), .int .i64 ((s.tl : Nat) : Int), .int .i64 ((s.pa : Nat) : Int), .int .i64 ((s.ga : Nat) : Int), .int .i64 ((s.pv : Nat) : Int), .int .i64 ((s.gv : Nat) : Int)] 30)).alloc (.cells #[.slice none 0 0, .int .i64 0, .int .i64 0, .int .i64 0, .int .i64 0, .int .i64 0, .int .i64 0] 30) := ⟨_, rfl⟩
  rw [← hW0, ← hb] at hst
  have haI : ((s.pa : Nat) : Int) = 1 := by omega
  rw [haI] at hst hW0 ⊢
  have hw : IntKind.i64.wrap ((s.tl : Int) - (s.hd : Int)) = (n : Int) := (IntWalk.i64_in _ (by omega)).trans (by omega)
  have HS0 := Lib.hid hst
  have HW0 := Lib.hid hW0
  have HBW := Lib.hid hb.symm
  clear hst h hF hb hW0 ha haI hf h8
  go_enter Tryd.func6, Tryd.ntmps6
  go_upto_region 1 with fail
  rw [← HW0.out, HBW.out]
  obtain ⟨q0, q1, q2, q3, q4, q5, q6⟩ := HS0.out.q
  have fq0 := HS0.out.box.free 0
  have fq1 := HS0.out.box.free 1
  have fq2 := HS0.out.box.free 2
  have fq3 := HS0.out.box.free 3
  have fq4 := HS0.out.box.free 4
  have fq5 := HS0.out.box.free 5
  have fq6 := HS0.out.box.free 6
  obtain ⟨r0, r1, r2, r3, r4, r5, r6⟩ := HS0.out.r
  have fr0 := HS0.out.res.free 0
  have fr1 := HS0.out.res.free 1
  have fr2 := HS0.out.res.free 2
  have fr3 := HS0.out.res.free 3
  have fr4 := HS0.out.res.free 4
  have fr5 := HS0.out.res.free 5
  have fr6 := HS0.out.res.free 6
  go_upto_region 5 with fail
  clear q0 fq0 r0 fr0 q1 fq1 r1 fr1 q2 fq2 r2 fr2 q3 fq3 r3 fr3 q4 fq4 r4 fr4 q5 fq5 r5 fr5 q6 fq6 r6 fr6
  have hpV1 := HS0.out.put3 (isInt_stb _) (u := .int .i64 0) (Q := isInt 0) rfl
  obtain ⟨V1, hVV1⟩ : ∃ V, V = W0.setCell ⟨b, 3, none⟩ (.int .i64 0) := ⟨_, rfl⟩
  rw [← hVV1] at hpV1 ⊢
  have HS1 := Lib.hid hpV1
  clear hpV1 hVV1
  obtain ⟨q0, q1, q2, q3, q4, q5, q6⟩ := HS1.out.q
  have fq0 := HS1.out.box.free 0
  have fq1 := HS1.out.box.free 1
  have fq2 := HS1.out.box.free 2
  have fq3 := HS1.out.box.free 3
  have fq4 := HS1.out.box.free 4
  have fq5 := HS1.out.box.free 5
  have fq6 := HS1.out.box.free 6
  obtain ⟨r0, r1, r2, r3, r4, r5, r6⟩ := HS1.out.r
  have fr0 := HS1.out.res.free 0
  have fr1 := HS1.out.res.free 1
  have fr2 := HS1.out.res.free 2
  have fr3 := HS1.out.res.free 3
  have fr4 := HS1.out.res.free 4
  have fr5 := HS1.out.res.free 5
  have fr6 := HS1.out.res.free 6
  go_wp2_with fail
  refine bodyPost_ret (v := .tuple _) (results_cell4 rfl _ _ (b + 1) 30 _ (0, 0) _ rfl HS1.out.told.1 Tryd.underlying30 rfl (by kernel_rfl)) rfl (SpT.of ⟨_, _, rfl, HS1.out.told.2.2.p0, HS1.out.told.2.1⟩)
set_option maxHeartbeats 8000000 in
set_option maxRecDepth 100000 in
theorem sp1n {F : Nat → Prop} {n : Nat} {s : RGS} {A0 : Option Addr} {c0 : Nat} (w : World) (h : pn n s F w (.slice A0 n c0)) (hF : ∀ b, F b → b < w.heap.size) (ha : s.pa = 1) (hf : ¬ s.tl = s.hd + n) (hl : s.hd ≤ s.tl) (ht : s.tl ≤ 1000000) :
    Calls Tryd.prog 6 #[.agg #[.slice A0 n c0, .int .i64 ((s.hd : Nat) : Int), .int .i64 ((s.tl : Nat) : Int), .int .i64 ((s.pa : Nat) : Int), .int .i64 ((s.ga : Nat) : Int), .int .i64 ((s.pv : Nat) : Int), .int .i64 ((s.gv : Nat) : Int)]] w fun e w' => SpT F w w' n ⟨2, s.pv, s.ga, s.gv, s.hd, s.tl, s.pl, s.puts, s.out, s.have'⟩ (.bool false) (.bool false) (.int .i64 0) e := by
  have hst := RS.start (start_ring h) hF
  obtain ⟨b, hb⟩ : ∃ b, b = w.heap.size := ⟨_, rfl⟩
  obtain ⟨W0, hW0⟩ : ∃ W0, W0 = (w.alloc (.cells #[.slice A0 n c0, .int .i64 ((s.hd : Nat) : Int), .int .i64 ((s.tl : Nat) : Int), .int .i64 ((s.pa : Nat) : Int), .int .i64 ((s.ga : Nat) : Int), .int .i64 ((s.pv : Nat) : Int), .int .i64 ((s.gv : Nat) : Int)] 30)).alloc (.cells #[.slice none 0 0, .int .i64 0, .int .i64 0, .int .i64 0, .int .i64 0, .int .i64 0, .int .i64 0] 30) := ⟨_, rfl⟩
  rw [← hW0, ← hb] at hst
  have haI : ((s.pa : Nat) : Int) = 1 := by omega
  rw [haI] at hst hW0 ⊢
  obtain ⟨d, hd⟩ : ∃ d, d = s.tl - s.hd := ⟨_, rfl⟩
  have hw : IntKind.i64.wrap ((s.tl : Int) - (s.hd : Int)) = (d : Int) := (IntWalk.i64_in _ (by omega)).trans (by omega)
  have hI : ((d : Int) == (n : Int)) = false := by simp; omega
  have hI2 : (d == n) = false := by simp; omega
  have hw2 : IntKind.i64.wrap (1 + 1) = 2 := by rfl
  have HS0 := Lib.hid hst
  have HW0 := Lib.hid hW0
  have HBW := Lib.hid hb.symm
  clear hst h hF hb hW0 ha haI hf hl ht hd
  go_enter Tryd.func6, Tryd.ntmps6
  go_upto_region 1 with fail
  rw [← HW0.out, HBW.out]
  obtain ⟨q0, q1, q2, q3, q4, q5, q6⟩ := HS0.out.q
  have fq0 := HS0.out.box.free 0
  have fq1 := HS0.out.box.free 1
  have fq2 := HS0.out.box.free 2
  have fq3 := HS0.out.box.free 3
  have fq4 := HS0.out.box.free 4
  have fq5 := HS0.out.box.free 5
  have fq6 := HS0.out.box.free 6
  obtain ⟨r0, r1, r2, r3, r4, r5, r6⟩ := HS0.out.r
  have fr0 := HS0.out.res.free 0
  have fr1 := HS0.out.res.free 1
  have fr2 := HS0.out.res.free 2
  have fr3 := HS0.out.res.free 3
  have fr4 := HS0.out.res.free 4
  have fr5 := HS0.out.res.free 5
  have fr6 := HS0.out.res.free 6
  go_upto_region 13 with fail
  clear q0 fq0 r0 fr0 q1 fq1 r1 fr1 q2 fq2 r2 fr2 q3 fq3 r3 fr3 q4 fq4 r4 fr4 q5 fq5 r5 fr5 q6 fq6 r6 fr6
  have hpV1 := HS0.out.put3 (isInt_stb _) (u := .int .i64 2) (Q := isInt 2) rfl
  obtain ⟨V1, hVV1⟩ : ∃ V, V = W0.setCell ⟨b, 3, none⟩ (.int .i64 2) := ⟨_, rfl⟩
  rw [← hVV1] at hpV1 ⊢
  have HS1 := Lib.hid hpV1
  clear hpV1 hVV1
  obtain ⟨q0, q1, q2, q3, q4, q5, q6⟩ := HS1.out.q
  have fq0 := HS1.out.box.free 0
  have fq1 := HS1.out.box.free 1
  have fq2 := HS1.out.box.free 2
  have fq3 := HS1.out.box.free 3
  have fq4 := HS1.out.box.free 4
  have fq5 := HS1.out.box.free 5
  have fq6 := HS1.out.box.free 6
  obtain ⟨r0, r1, r2, r3, r4, r5, r6⟩ := HS1.out.r
  have fr0 := HS1.out.res.free 0
  have fr1 := HS1.out.res.free 1
  have fr2 := HS1.out.res.free 2
  have fr3 := HS1.out.res.free 3
  have fr4 := HS1.out.res.free 4
  have fr5 := HS1.out.res.free 5
  have fr6 := HS1.out.res.free 6
  go_wp2_with fail
  refine bodyPost_ret (v := .tuple _) (results_cell4 rfl _ _ (b + 1) 30 _ (0, 0) _ rfl HS1.out.told.1 Tryd.underlying30 rfl (by kernel_rfl)) rfl (SpT.of ⟨_, _, rfl, HS1.out.told.2.2.p0, HS1.out.told.2.1⟩)
set_option maxHeartbeats 8000000 in
set_option maxRecDepth 100000 in
theorem sp3 {F : Nat → Prop} {n : Nat} {s : RGS} {A0 : Option Addr} {c0 : Nat} (w : World) (h : pn n s F w (.slice A0 n c0)) (hF : ∀ b, F b → b < w.heap.size) {t1 : Nat} (ha : s.pa = 3) (ht : t1 = s.tl + 1) (hb6 : s.tl ≤ 1000000) :
    Calls Tryd.prog 6 #[.agg #[.slice A0 n c0, .int .i64 ((s.hd : Nat) : Int), .int .i64 ((s.tl : Nat) : Int), .int .i64 ((s.pa : Nat) : Int), .int .i64 ((s.ga : Nat) : Int), .int .i64 ((s.pv : Nat) : Int), .int .i64 ((s.gv : Nat) : Int)]] w fun e w' => SpT F w w' n ⟨0, s.pv, s.ga, s.gv, s.hd, t1, s.pl, s.puts, s.out, s.have'⟩ (.bool true) (.bool true) (.int .i64 0) e := by
  have hst := RS.start (start_ring h) hF
  obtain ⟨b, hb⟩ : ∃ b, b = w.heap.size := ⟨_, rfl⟩
  obtain ⟨W0, hW0⟩ : ∃ W0, W0 = (w.alloc (.cells #[.slice A0 n c0, .int .i64 ((s.hd : Nat) : Int), .int .i64 ((s.tl : Nat) : Int), .int .i64 ((s.pa : Nat) : Int), .int .i64 ((s.ga : Nat) : Int), .int .i64 ((s.pv : Nat) : Int), .int .i64 ((s.gv : Nat) : Int)] 30)).alloc (.cells #[.slice none 0 0, .int .i64 0, .int .i64 0, .int .i64 0, .int .i64 0, .int .i64 0, .int .i64 0] 30) := ⟨_, rfl⟩
  rw [← hW0, ← hb] at hst
  have haI : ((s.pa : Nat) : Int) = 3 := by omega
  rw [haI] at hst hW0 ⊢
  have hw : IntKind.i64.wrap ((s.tl : Int) + 1) = (t1 : Int) := (IntWalk.i64_in _ (by omega)).trans (by omega)
  have HS0 := Lib.hid hst
  have HW0 := Lib.hid hW0
  have HBW := Lib.hid hb.symm
  clear hst h hF hb hW0 ha haI ht hb6
  go_enter Tryd.func6, Tryd.ntmps6
  go_upto_region 1 with fail
  rw [← HW0.out, HBW.out]
  obtain ⟨q0, q1, q2, q3, q4, q5, q6⟩ := HS0.out.q
  have fq0 := HS0.out.box.free 0
  have fq1 := HS0.out.box.free 1
  have fq2 := HS0.out.box.free 2
  have fq3 := HS0.out.box.free 3
  have fq4 := HS0.out.box.free 4
  have fq5 := HS0.out.box.free 5
  have fq6 := HS0.out.box.free 6
  obtain ⟨r0, r1, r2, r3, r4, r5, r6⟩ := HS0.out.r
  have fr0 := HS0.out.res.free 0
  have fr1 := HS0.out.res.free 1
  have fr2 := HS0.out.res.free 2
  have fr3 := HS0.out.res.free 3
  have fr4 := HS0.out.res.free 4
  have fr5 := HS0.out.res.free 5
  have fr6 := HS0.out.res.free 6
  go_upto_region 10 with fail
  clear q0 fq0 r0 fr0 q1 fq1 r1 fr1 q2 fq2 r2 fr2 q3 fq3 r3 fr3 q4 fq4 r4 fr4 q5 fq5 r5 fr5 q6 fq6 r6 fr6
  have hpV1 := HS0.out.put2 (isInt_stb _) (u := .int .i64 (t1 : Int)) (Q := isInt (t1 : Int)) rfl
  obtain ⟨V1, hVV1⟩ : ∃ V, V = W0.setCell ⟨b, 2, none⟩ (.int .i64 (t1 : Int)) := ⟨_, rfl⟩
  rw [← hVV1] at hpV1 ⊢
  have HS1 := Lib.hid hpV1
  clear hpV1 hVV1
  obtain ⟨q0, q1, q2, q3, q4, q5, q6⟩ := HS1.out.q
  have fq0 := HS1.out.box.free 0
  have fq1 := HS1.out.box.free 1
  have fq2 := HS1.out.box.free 2
  have fq3 := HS1.out.box.free 3
  have fq4 := HS1.out.box.free 4
  have fq5 := HS1.out.box.free 5
  have fq6 := HS1.out.box.free 6
  obtain ⟨r0, r1, r2, r3, r4, r5, r6⟩ := HS1.out.r
  have fr0 := HS1.out.res.free 0
  have fr1 := HS1.out.res.free 1
  have fr2 := HS1.out.res.free 2
  have fr3 := HS1.out.res.free 3
  have fr4 := HS1.out.res.free 4
  have fr5 := HS1.out.res.free 5
  have fr6 := HS1.out.res.free 6
  go_upto_region 11 with fail
  clear q0 fq0 r0 fr0 q1 fq1 r1 fr1 q2 fq2 r2 fr2 q3 fq3 r3 fr3 q4 fq4 r4 fr4 q5 fq5 r5 fr5 q6 fq6 r6 fr6
  have hpV2 := HS1.out.put3 (isInt_stb _) (u := .int .i64 0) (Q := isInt 0) rfl
  obtain ⟨V2, hVV2⟩ : ∃ V, V = V1.setCell ⟨b, 3, none⟩ (.int .i64 0) := ⟨_, rfl⟩
  rw [← hVV2] at hpV2 ⊢
  have HS2 := Lib.hid hpV2
  clear hpV2 hVV2
  obtain ⟨q0, q1, q2, q3, q4, q5, q6⟩ := HS2.out.q
  have fq0 := HS2.out.box.free 0
  have fq1 := HS2.out.box.free 1
  have fq2 := HS2.out.box.free 2
  have fq3 := HS2.out.box.free 3
  have fq4 := HS2.out.box.free 4
  have fq5 := HS2.out.box.free 5
  have fq6 := HS2.out.box.free 6
  obtain ⟨r0, r1, r2, r3, r4, r5, r6⟩ := HS2.out.r
  have fr0 := HS2.out.res.free 0
  have fr1 := HS2.out.res.free 1
  have fr2 := HS2.out.res.free 2
  have fr3 := HS2.out.res.free 3
  have fr4 := HS2.out.res.free 4
  have fr5 := HS2.out.res.free 5
  have fr6 := HS2.out.res.free 6
  go_wp2_with fail
  refine bodyPost_ret (v := .tuple _) (results_cell4 rfl _ _ (b + 1) 30 _ (0, 0) _ rfl HS2.out.told.1 Tryd.underlying30 rfl (by kernel_rfl)) rfl (SpT.of ⟨_, _, rfl, HS2.out.told.2.2.p0, HS2.out.told.2.1⟩)
end Go.Proofs.YtihidjbepjeceaaDoor.Ring
