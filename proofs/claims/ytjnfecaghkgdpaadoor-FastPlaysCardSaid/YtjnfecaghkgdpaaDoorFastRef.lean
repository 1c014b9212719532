/-
  The reference's step of the lock that who is alone has soon, line by line.
-/
import Derived.Test.YtjnfecaghkgdpaaDoorMachMs
import Derived.Test.YtjnfecaghkgdpaaDoorMachGoes
import Derived.Test.YtjnfecaghkgdpaaDoorFastLk
namespace Go.Proofs.YtjnfecaghkgdpaaDoor.Fast
open Go.RowKit

theorem ms_drewN {P : Nat → Prop} {V W : World} {n : Int} {v : Value} {ws ls : List Int} {os : List (List Int)} (h : MS P V W n v ws ls os) (i : Nat) : MS P V (W.drewN i) n v ws ls os :=
  ⟨h.mc.keep (fun _ h => h) fun _ _ => rfl, below_drewN h.below i⟩
theorem ms_drew {P : Nat → Prop} {V W : World} {n : Int} {v : Value} {ws ls : List Int} {os : List (List Int)} (h : MS P V W n v ws ls os) : MS P V W.drew n v ws ls os :=
  ⟨h.mc.keep (fun _ h => h) fun _ _ => rfl, h.below.drew⟩
theorem ms_goes {P : Nat → Prop} {V W : World} {n : Int} {v : Value} {ws ls : List Int} {os : List (List Int)} (hP : ∀ b, P b → b < V.heap.size) (h : MS P V W n v ws ls os) (i : Nat) (may : Bool) (z a : Int) (hi : i < ls.length) (hl : ls.length ≤ 1000) (ha : ls[i]? = some a) (h0 : 0 ≤ a) (h1 : a ≤ 1000) :
    Calls Tryd.prog 17 #[v, .int .i64 i, .bool may, .int .i64 z] W fun e W' => ∃ v', e = .returned v' ∧ MS P V W' n v' ws (ls.set i (if may then a + 1 else z)) os :=
  (goes_any n v ws ls os i may z W (h.lt hP) h.mc hi hl a ha h0 h1).mono fun _ _ ⟨v', he, hm, hb⟩ => ⟨v', he, h.step hm hb⟩
theorem ms_w0 {P : Nat → Prop} {V W : World} {n : Int} {v : Value} {ws ls : List Int} {os : List (List Int)} (hP : ∀ b, P b → b < V.heap.size) (h : MS P V W n v ws ls os) (z : Int) (hi : 0 < ws.length) (hl : ws.length ≤ 1000) :
    Calls Tryd.prog 16 #[v, .int .i64 0, .int .i64 z] W fun e W' => ∃ v', e = .returned v' ∧ MS P V W' n v' (ws.set 0 z) ls os := ms_word hP h 0 z hi hl
theorem ms_w1 {P : Nat → Prop} {V W : World} {n : Int} {v : Value} {ws ls : List Int} {os : List (List Int)} (hP : ∀ b, P b → b < V.heap.size) (h : MS P V W n v ws ls os) (z : Int) (hi : 1 < ws.length) (hl : ws.length ≤ 1000) :
    Calls Tryd.prog 16 #[v, .int .i64 1, .int .i64 z] W fun e W' => ∃ v', e = .returned v' ∧ MS P V W' n v' (ws.set 1 z) ls os := ms_word hP h 1 z hi hl

set_option maxHeartbeats 4000000 in
set_option maxRecDepth 100000 in
theorem ref1 (n p k d : Nat) (v : Value) (ws ls : List Int) (os : List (List Int)) (w : World) {P : Nat → Prop} (hP : ∀ b, P b → b < w.heap.size) (h : Mc w P n v ws ls os)
    (hh : RefAt n p ws ls os) (hl : ls[p]? = some 1) (ho : os[p]? = some [(k : Int)]) (hd : d = 2 + p) (hdw : d < ws.length) :
    Calls Tryd.prog 9 #[v, .int .i64 p] w fun e w' => ∃ v', e = .returned v' ∧ Mc w' (New P w w') n v' (ws.set d 1) (ls.set p 2) os ∧ Below w.heap.size w w' := by
  obtain ⟨hn, hp, h1, hwl, hls, hos⟩ := hh
  have hp2 : p < ls.length := (List.getElem?_eq_some_iff.1 hl).1
  have hp3 : p < os.length := (List.getElem?_eq_some_iff.1 ho).1
  have hp2I : (p : Int) < ls.length := by omega
  have hp3I : (p : Int) < os.length := by omega
  have HM := Lib.hid h
  obtain ⟨b1, o1, c1, b2, o2, c2, b3, o3, c3, bp, op, cp, rfl, hread⟩ := mc_open hP h h1 hl ho (by simp)
  obtain ⟨wv, av, ov, e, k1, k2, k3⟩ := h
  injection e with e
  simp at e
  obtain ⟨rfl, rfl, rfl⟩ := e
  have HF := Lib.hid (MBox.made (x3 := .slice (some ⟨b3, o3, none⟩) os.length c3) (n := n) w _ (k1.nums hP) (k2.nums hP) rfl)
  have HP := Lib.hid hP
  have HRD := Lib.hid hread
  clear hP hread k1 k2 k3
  have hwr1 : IntKind.i64.wrap (2 + (p : Int)) = (d : Int) := by rw [show (d : Int) = 2 + (p : Int) by omega]; exact IntWalk.i64_in _ (by omega)
  clear hd
  go_enter Tryd.func9, Tryd.ntmps9
  go_upto_region 1 with fail
  obtain ⟨V, hV⟩ : ∃ V, V = (w.alloc (.cells #[.int .i64 n, .slice (some ⟨b1, o1, none⟩) ws.length c1, .slice (some ⟨b2, o2, none⟩) ls.length c2, .slice (some ⟨b3, o3, none⟩) os.length c3] 31)).alloc (.cells #[.int .i64 0, .slice none 0 0, .slice none 0 0, .slice none 0 0] 31) := ⟨_, rfl⟩
  rw [← hV] at HF
  rw [← hV]
  obtain ⟨h, hh⟩ : ∃ h, h = w.heap.size := ⟨_, rfl⟩
  have HB := Lib.hid (show MBox w V h n _ _ _ ws ls by rw [hh]; exact HF.out)
  rw [← hh]
  clear hV hh HF
  have HPV := Lib.hid (show ∀ b, P b → b < V.heap.size from fun b hb => Nat.lt_of_lt_of_le (HP.out b hb) HB.out.below.size)
  have HM0 := Lib.hid (MS.start (HM.out.keep (fun _ h => h) (fun p hp => HB.out.below.cell (HP.out _ hp))))
  obtain ⟨y0, y1, y2, y3⟩ := HB.out.cells
  obtain ⟨r1, r2, r3, r4⟩ := HRD.out V HB.out.below
  have R1 := Lib.hid r1
  have r40 := r4 0 _ rfl
  rw [Nat.add_zero] at r40
  clear r1 r4
  go_wp2_with (first | (go_at_call 16; (with_reducible refine (ms_word HPV.out HM0.out d 1 hdw hwl).mono ?_); rintro e w1 ⟨v1, rfl, hm⟩; have HM1 := Lib.hid hm; clear hm) | (go_at_call 15; (with_reducible refine (ms_to HPV.out HM1.out p 2 (by simpa using hp2) (by simpa using hls)).mono ?_); rintro e w2 ⟨v2, rfl, hm⟩; have HM2 := Lib.hid hm; clear hm; obtain ⟨B1, m1, d1, B2, m2, d2, B3, m3, d3, rfl⟩ := HM2.out.form; have HG := Lib.hid (HB.out.on HM2.out.below); obtain ⟨x0, x1, x2, x3⟩ := HG.out.room; obtain ⟨-, -, -, u3, u4, u5, u6⟩ := HG.out.frees))
  obtain ⟨hT, hmc, hbel⟩ := ms_end HP.out HB.out HM2.out
  exact bodyPost_ret (v := .agg #[.int .i64 n, .slice B1 m1 d1, .slice B2 m2 d2, .slice B3 m3 d3]) (results_cell_row rfl _ _ (h + 1) 31 _ (0, 0) _ rfl hT Tryd.underlying31 rfl (by kernel_rfl)) rfl ⟨_, rfl, hmc, hbel⟩


set_option maxHeartbeats 4000000 in
set_option maxRecDepth 100000 in
theorem ref2 (n p k p1 : Nat) (v : Value) (ws ls : List Int) (os : List (List Int)) (w : World) {P : Nat → Prop} (hP : ∀ b, P b → b < w.heap.size) (h : Mc w P n v ws ls os)
    (hh : RefAt n p ws ls os) (hl : ls[p]? = some 2) (ho : os[p]? = some [(k : Int)]) (hp1 : p1 = p + 1) :
    Calls Tryd.prog 9 #[v, .int .i64 p] w fun e w' => ∃ v', e = .returned v' ∧ Mc w' (New P w w') n v' (ws.set 0 p1) (ls.set p 3) os ∧ Below w.heap.size w w' := by
  obtain ⟨hn, hp, h1, hwl, hls, hos⟩ := hh
  have hp2 : p < ls.length := (List.getElem?_eq_some_iff.1 hl).1
  have hp3 : p < os.length := (List.getElem?_eq_some_iff.1 ho).1
  have hp2I : (p : Int) < ls.length := by omega
  have hp3I : (p : Int) < os.length := by omega
  have HM := Lib.hid h
  obtain ⟨b1, o1, c1, b2, o2, c2, b3, o3, c3, bp, op, cp, rfl, hread⟩ := mc_open hP h h1 hl ho (by simp)
  obtain ⟨wv, av, ov, e, k1, k2, k3⟩ := h
  injection e with e
  simp at e
  obtain ⟨rfl, rfl, rfl⟩ := e
  have HF := Lib.hid (MBox.made (x3 := .slice (some ⟨b3, o3, none⟩) os.length c3) (n := n) w _ (k1.nums hP) (k2.nums hP) rfl)
  have HP := Lib.hid hP
  have HRD := Lib.hid hread
  clear hP hread k1 k2 k3
  have hwp : IntKind.i64.wrap ((p : Int) + 1) = (p1 : Int) := by rw [show (p1 : Int) = (p : Int) + 1 by omega]; exact IntWalk.i64_in _ (by omega)
  clear hp1
  go_enter Tryd.func9, Tryd.ntmps9
  go_upto_region 1 with fail
  obtain ⟨V, hV⟩ : ∃ V, V = (w.alloc (.cells #[.int .i64 n, .slice (some ⟨b1, o1, none⟩) ws.length c1, .slice (some ⟨b2, o2, none⟩) ls.length c2, .slice (some ⟨b3, o3, none⟩) os.length c3] 31)).alloc (.cells #[.int .i64 0, .slice none 0 0, .slice none 0 0, .slice none 0 0] 31) := ⟨_, rfl⟩
  rw [← hV] at HF
  rw [← hV]
  obtain ⟨h, hh⟩ : ∃ h, h = w.heap.size := ⟨_, rfl⟩
  have HB := Lib.hid (show MBox w V h n _ _ _ ws ls by rw [hh]; exact HF.out)
  rw [← hh]
  clear hV hh HF
  have HPV := Lib.hid (show ∀ b, P b → b < V.heap.size from fun b hb => Nat.lt_of_lt_of_le (HP.out b hb) HB.out.below.size)
  have HM0 := Lib.hid (MS.start (HM.out.keep (fun _ h => h) (fun p hp => HB.out.below.cell (HP.out _ hp))))
  obtain ⟨y0, y1, y2, y3⟩ := HB.out.cells
  obtain ⟨r1, r2, r3, r4⟩ := HRD.out V HB.out.below
  have R1 := Lib.hid r1
  have r40 := r4 0 _ rfl
  rw [Nat.add_zero] at r40
  clear r1 r4
  go_wp2_with (first | (go_at_call 16; (with_reducible refine (ms_w0 HPV.out HM0.out p1 h1 hwl).mono ?_); rintro e w1 ⟨v1, rfl, hm⟩; have HM1 := Lib.hid hm; clear hm) | (go_at_call 15; (with_reducible refine (ms_to HPV.out HM1.out p 3 (by simpa using hp2) (by simpa using hls)).mono ?_); rintro e w2 ⟨v2, rfl, hm⟩; have HM2 := Lib.hid hm; clear hm; obtain ⟨B1, m1, d1, B2, m2, d2, B3, m3, d3, rfl⟩ := HM2.out.form; have HG := Lib.hid (HB.out.on HM2.out.below); obtain ⟨x0, x1, x2, x3⟩ := HG.out.room; obtain ⟨-, -, -, u3, u4, u5, u6⟩ := HG.out.frees))
  obtain ⟨hT, hmc, hbel⟩ := ms_end HP.out HB.out HM2.out
  exact bodyPost_ret (v := .agg #[.int .i64 n, .slice B1 m1 d1, .slice B2 m2 d2, .slice B3 m3 d3]) (results_cell_row rfl _ _ (h + 1) 31 _ (0, 0) _ rfl hT Tryd.underlying31 rfl (by kernel_rfl)) rfl ⟨_, rfl, hmc, hbel⟩


set_option maxHeartbeats 4000000 in
set_option maxRecDepth 100000 in
theorem ref3g (n p k y : Nat) (v : Value) (ws ls : List Int) (os : List (List Int)) (w : World) {P : Nat → Prop} (hP : ∀ b, P b → b < w.heap.size) (h : Mc w P n v ws ls os)
    (hh : RefAt n p ws ls os) (hl : ls[p]? = some 3) (ho : os[p]? = some [(k : Int)]) (hy : ws[1]? = some (y : Int)) (h2 : 1 < ws.length) (hc : y ≠ 0) :
    Calls Tryd.prog 9 #[v, .int .i64 p] w fun e w' => ∃ v', e = .returned v' ∧ Mc w' (New P w w') n v' ws (ls.set p 4) os ∧ Below w.heap.size w w' := by
  obtain ⟨hn, hp, h1, hwl, hls, hos⟩ := hh
  have hp2 : p < ls.length := (List.getElem?_eq_some_iff.1 hl).1
  have hp3 : p < os.length := (List.getElem?_eq_some_iff.1 ho).1
  have hp2I : (p : Int) < ls.length := by omega
  have hp3I : (p : Int) < os.length := by omega
  have HM := Lib.hid h
  obtain ⟨b1, o1, c1, b2, o2, c2, b3, o3, c3, bp, op, cp, rfl, hread⟩ := mc_open hP h h1 hl ho (by simp)
  obtain ⟨wv, av, ov, e, k1, k2, k3⟩ := h
  injection e with e
  simp at e
  obtain ⟨rfl, rfl, rfl⟩ := e
  have HF := Lib.hid (MBox.made (x3 := .slice (some ⟨b3, o3, none⟩) os.length c3) (n := n) w _ (k1.nums hP) (k2.nums hP) rfl)
  have HP := Lib.hid hP
  have HRD := Lib.hid hread
  clear hP hread k1 k2 k3
  have hcI : ((y : Int) != 0) = true := by simp; omega
  have hcN : (y != 0) = true := by simp; omega
  clear hc
  go_enter Tryd.func9, Tryd.ntmps9
  go_upto_region 1 with fail
  obtain ⟨V, hV⟩ : ∃ V, V = (w.alloc (.cells #[.int .i64 n, .slice (some ⟨b1, o1, none⟩) ws.length c1, .slice (some ⟨b2, o2, none⟩) ls.length c2, .slice (some ⟨b3, o3, none⟩) os.length c3] 31)).alloc (.cells #[.int .i64 0, .slice none 0 0, .slice none 0 0, .slice none 0 0] 31) := ⟨_, rfl⟩
  rw [← hV] at HF
  rw [← hV]
  obtain ⟨h, hh⟩ : ∃ h, h = w.heap.size := ⟨_, rfl⟩
  have HB := Lib.hid (show MBox w V h n _ _ _ ws ls by rw [hh]; exact HF.out)
  rw [← hh]
  clear hV hh HF
  have HPV := Lib.hid (show ∀ b, P b → b < V.heap.size from fun b hb => Nat.lt_of_lt_of_le (HP.out b hb) HB.out.below.size)
  have HM0 := Lib.hid (MS.start (HM.out.keep (fun _ h => h) (fun p hp => HB.out.below.cell (HP.out _ hp))))
  obtain ⟨y0, y1, y2, y3⟩ := HB.out.cells
  obtain ⟨r1, r2, r3, r4⟩ := HRD.out V HB.out.below
  have R1 := Lib.hid r1
  have r40 := r4 0 _ rfl
  rw [Nat.add_zero] at r40
  clear r1 r4
  have r5 := R1.out 1 y hy
  have h2I : (1 : Int) < ws.length := by omega
  go_wp2_with fail
  go_region_with (first | (go_at_call 17; (with_reducible refine (ms_goes HPV.out (ms_drew HM0.out) p true 6 3 (by simpa using hp2) (by simpa using hls) hl (by omega) (by omega)).mono ?_); rintro e w1 ⟨v1, rfl, hm⟩; have HM1 := Lib.hid hm; clear hm; obtain ⟨B1, m1, d1, B2, m2, d2, B3, m3, d3, rfl⟩ := HM1.out.form; have HG := Lib.hid (HB.out.on HM1.out.below); obtain ⟨x0, x1, x2, x3⟩ := HG.out.room; obtain ⟨-, -, -, u3, u4, u5, u6⟩ := HG.out.frees) | (go_at_call 17; (with_reducible refine (ms_goes HPV.out (ms_drewN HM0.out _) p true 6 3 (by simpa using hp2) (by simpa using hls) hl (by omega) (by omega)).mono ?_); rintro e w1 ⟨v1, rfl, hm⟩; have HM1 := Lib.hid hm; clear hm; obtain ⟨B1, m1, d1, B2, m2, d2, B3, m3, d3, rfl⟩ := HM1.out.form; have HG := Lib.hid (HB.out.on HM1.out.below); obtain ⟨x0, x1, x2, x3⟩ := HG.out.room; obtain ⟨-, -, -, u3, u4, u5, u6⟩ := HG.out.frees))
  all_goals
    go_wp2
    obtain ⟨hT, hmc, hbel⟩ := ms_end HP.out HB.out HM1.out
    exact bodyPost_ret (v := .agg #[.int .i64 n, .slice B1 m1 d1, .slice B2 m2 d2, .slice B3 m3 d3]) (results_cell_row rfl _ _ (h + 1) 31 _ (0, 0) _ rfl hT Tryd.underlying31 rfl (by kernel_rfl)) rfl ⟨_, rfl, hmc, hbel⟩


set_option maxHeartbeats 4000000 in
set_option maxRecDepth 100000 in
theorem ref3s (n p k y : Nat) (v : Value) (ws ls : List Int) (os : List (List Int)) (w : World) {P : Nat → Prop} (hP : ∀ b, P b → b < w.heap.size) (h : Mc w P n v ws ls os)
    (hh : RefAt n p ws ls os) (hl : ls[p]? = some 3) (ho : os[p]? = some [(k : Int)]) (hy : ws[1]? = some (y : Int)) (h2 : 1 < ws.length) (hc : y = 0) :
    Calls Tryd.prog 9 #[v, .int .i64 p] w fun e w' => ∃ v', e = .returned v' ∧ Mc w' (New P w w') n v' ws (ls.set p 6) os ∧ Below w.heap.size w w' := by
  obtain ⟨hn, hp, h1, hwl, hls, hos⟩ := hh
  have hp2 : p < ls.length := (List.getElem?_eq_some_iff.1 hl).1
  have hp3 : p < os.length := (List.getElem?_eq_some_iff.1 ho).1
  have hp2I : (p : Int) < ls.length := by omega
  have hp3I : (p : Int) < os.length := by omega
  have HM := Lib.hid h
  obtain ⟨b1, o1, c1, b2, o2, c2, b3, o3, c3, bp, op, cp, rfl, hread⟩ := mc_open hP h h1 hl ho (by simp)
  obtain ⟨wv, av, ov, e, k1, k2, k3⟩ := h
  injection e with e
  simp at e
  obtain ⟨rfl, rfl, rfl⟩ := e
  have HF := Lib.hid (MBox.made (x3 := .slice (some ⟨b3, o3, none⟩) os.length c3) (n := n) w _ (k1.nums hP) (k2.nums hP) rfl)
  have HP := Lib.hid hP
  have HRD := Lib.hid hread
  clear hP hread k1 k2 k3
  have hcI : ((y : Int) != 0) = false := by simp; omega
  have hcN : (y != 0) = false := by simp; omega
  clear hc
  go_enter Tryd.func9, Tryd.ntmps9
  go_upto_region 1 with fail
  obtain ⟨V, hV⟩ : ∃ V, V = (w.alloc (.cells #[.int .i64 n, .slice (some ⟨b1, o1, none⟩) ws.length c1, .slice (some ⟨b2, o2, none⟩) ls.length c2, .slice (some ⟨b3, o3, none⟩) os.length c3] 31)).alloc (.cells #[.int .i64 0, .slice none 0 0, .slice none 0 0, .slice none 0 0] 31) := ⟨_, rfl⟩
  rw [← hV] at HF
  rw [← hV]
  obtain ⟨h, hh⟩ : ∃ h, h = w.heap.size := ⟨_, rfl⟩
  have HB := Lib.hid (show MBox w V h n _ _ _ ws ls by rw [hh]; exact HF.out)
  rw [← hh]
  clear hV hh HF
  have HPV := Lib.hid (show ∀ b, P b → b < V.heap.size from fun b hb => Nat.lt_of_lt_of_le (HP.out b hb) HB.out.below.size)
  have HM0 := Lib.hid (MS.start (HM.out.keep (fun _ h => h) (fun p hp => HB.out.below.cell (HP.out _ hp))))
  obtain ⟨y0, y1, y2, y3⟩ := HB.out.cells
  obtain ⟨r1, r2, r3, r4⟩ := HRD.out V HB.out.below
  have R1 := Lib.hid r1
  have r40 := r4 0 _ rfl
  rw [Nat.add_zero] at r40
  clear r1 r4
  have r5 := R1.out 1 y hy
  have h2I : (1 : Int) < ws.length := by omega
  go_wp2_with fail
  go_region_with (first | (go_at_call 17; (with_reducible refine (ms_goes HPV.out (ms_drew HM0.out) p false 6 3 (by simpa using hp2) (by simpa using hls) hl (by omega) (by omega)).mono ?_); rintro e w1 ⟨v1, rfl, hm⟩; have HM1 := Lib.hid hm; clear hm; obtain ⟨B1, m1, d1, B2, m2, d2, B3, m3, d3, rfl⟩ := HM1.out.form; have HG := Lib.hid (HB.out.on HM1.out.below); obtain ⟨x0, x1, x2, x3⟩ := HG.out.room; obtain ⟨-, -, -, u3, u4, u5, u6⟩ := HG.out.frees) | (go_at_call 17; (with_reducible refine (ms_goes HPV.out (ms_drewN HM0.out _) p false 6 3 (by simpa using hp2) (by simpa using hls) hl (by omega) (by omega)).mono ?_); rintro e w1 ⟨v1, rfl, hm⟩; have HM1 := Lib.hid hm; clear hm; obtain ⟨B1, m1, d1, B2, m2, d2, B3, m3, d3, rfl⟩ := HM1.out.form; have HG := Lib.hid (HB.out.on HM1.out.below); obtain ⟨x0, x1, x2, x3⟩ := HG.out.room; obtain ⟨-, -, -, u3, u4, u5, u6⟩ := HG.out.frees))
  all_goals
    go_wp2
    obtain ⟨hT, hmc, hbel⟩ := ms_end HP.out HB.out HM1.out
    exact bodyPost_ret (v := .agg #[.int .i64 n, .slice B1 m1 d1, .slice B2 m2 d2, .slice B3 m3 d3]) (results_cell_row rfl _ _ (h + 1) 31 _ (0, 0) _ rfl hT Tryd.underlying31 rfl (by kernel_rfl)) rfl ⟨_, rfl, hmc, hbel⟩


set_option maxHeartbeats 4000000 in
set_option maxRecDepth 100000 in
theorem ref4 (n p k d : Nat) (v : Value) (ws ls : List Int) (os : List (List Int)) (w : World) {P : Nat → Prop} (hP : ∀ b, P b → b < w.heap.size) (h : Mc w P n v ws ls os)
    (hh : RefAt n p ws ls os) (hl : ls[p]? = some 4) (ho : os[p]? = some [(k : Int)]) (hd : d = 2 + p) (hdw : d < ws.length) :
    Calls Tryd.prog 9 #[v, .int .i64 p] w fun e w' => ∃ v', e = .returned v' ∧ Mc w' (New P w w') n v' (ws.set d 0) (ls.set p 5) os ∧ Below w.heap.size w w' := by
  obtain ⟨hn, hp, h1, hwl, hls, hos⟩ := hh
  have hp2 : p < ls.length := (List.getElem?_eq_some_iff.1 hl).1
  have hp3 : p < os.length := (List.getElem?_eq_some_iff.1 ho).1
  have hp2I : (p : Int) < ls.length := by omega
  have hp3I : (p : Int) < os.length := by omega
  have HM := Lib.hid h
  obtain ⟨b1, o1, c1, b2, o2, c2, b3, o3, c3, bp, op, cp, rfl, hread⟩ := mc_open hP h h1 hl ho (by simp)
  obtain ⟨wv, av, ov, e, k1, k2, k3⟩ := h
  injection e with e
  simp at e
  obtain ⟨rfl, rfl, rfl⟩ := e
  have HF := Lib.hid (MBox.made (x3 := .slice (some ⟨b3, o3, none⟩) os.length c3) (n := n) w _ (k1.nums hP) (k2.nums hP) rfl)
  have HP := Lib.hid hP
  have HRD := Lib.hid hread
  clear hP hread k1 k2 k3
  have hwr1 : IntKind.i64.wrap (2 + (p : Int)) = (d : Int) := by rw [show (d : Int) = 2 + (p : Int) by omega]; exact IntWalk.i64_in _ (by omega)
  clear hd
  go_enter Tryd.func9, Tryd.ntmps9
  go_upto_region 1 with fail
  obtain ⟨V, hV⟩ : ∃ V, V = (w.alloc (.cells #[.int .i64 n, .slice (some ⟨b1, o1, none⟩) ws.length c1, .slice (some ⟨b2, o2, none⟩) ls.length c2, .slice (some ⟨b3, o3, none⟩) os.length c3] 31)).alloc (.cells #[.int .i64 0, .slice none 0 0, .slice none 0 0, .slice none 0 0] 31) := ⟨_, rfl⟩
  rw [← hV] at HF
  rw [← hV]
  obtain ⟨h, hh⟩ : ∃ h, h = w.heap.size := ⟨_, rfl⟩
  have HB := Lib.hid (show MBox w V h n _ _ _ ws ls by rw [hh]; exact HF.out)
  rw [← hh]
  clear hV hh HF
  have HPV := Lib.hid (show ∀ b, P b → b < V.heap.size from fun b hb => Nat.lt_of_lt_of_le (HP.out b hb) HB.out.below.size)
  have HM0 := Lib.hid (MS.start (HM.out.keep (fun _ h => h) (fun p hp => HB.out.below.cell (HP.out _ hp))))
  obtain ⟨y0, y1, y2, y3⟩ := HB.out.cells
  obtain ⟨r1, r2, r3, r4⟩ := HRD.out V HB.out.below
  have R1 := Lib.hid r1
  have r40 := r4 0 _ rfl
  rw [Nat.add_zero] at r40
  clear r1 r4
  go_wp2_with (first | (go_at_call 16; (with_reducible refine (ms_word HPV.out HM0.out d 0 hdw hwl).mono ?_); rintro e w1 ⟨v1, rfl, hm⟩; have HM1 := Lib.hid hm; clear hm) | (go_at_call 15; (with_reducible refine (ms_to HPV.out HM1.out p 5 (by simpa using hp2) (by simpa using hls)).mono ?_); rintro e w2 ⟨v2, rfl, hm⟩; have HM2 := Lib.hid hm; clear hm; obtain ⟨B1, m1, d1, B2, m2, d2, B3, m3, d3, rfl⟩ := HM2.out.form; have HG := Lib.hid (HB.out.on HM2.out.below); obtain ⟨x0, x1, x2, x3⟩ := HG.out.room; obtain ⟨-, -, -, u3, u4, u5, u6⟩ := HG.out.frees))
  obtain ⟨hT, hmc, hbel⟩ := ms_end HP.out HB.out HM2.out
  exact bodyPost_ret (v := .agg #[.int .i64 n, .slice B1 m1 d1, .slice B2 m2 d2, .slice B3 m3 d3]) (results_cell_row rfl _ _ (h + 1) 31 _ (0, 0) _ rfl hT Tryd.underlying31 rfl (by kernel_rfl)) rfl ⟨_, rfl, hmc, hbel⟩


set_option maxHeartbeats 4000000 in
set_option maxRecDepth 100000 in
theorem ref5g (n p k y : Nat) (v : Value) (ws ls : List Int) (os : List (List Int)) (w : World) {P : Nat → Prop} (hP : ∀ b, P b → b < w.heap.size) (h : Mc w P n v ws ls os)
    (hh : RefAt n p ws ls os) (hl : ls[p]? = some 5) (ho : os[p]? = some [(k : Int)]) (hy : ws[1]? = some (y : Int)) (h2 : 1 < ws.length) (hc : y = 0) :
    Calls Tryd.prog 9 #[v, .int .i64 p] w fun e w' => ∃ v', e = .returned v' ∧ Mc w' (New P w w') n v' ws (ls.set p 1) os ∧ Below w.heap.size w w' := by
  obtain ⟨hn, hp, h1, hwl, hls, hos⟩ := hh
  have hp2 : p < ls.length := (List.getElem?_eq_some_iff.1 hl).1
  have hp3 : p < os.length := (List.getElem?_eq_some_iff.1 ho).1
  have hp2I : (p : Int) < ls.length := by omega
  have hp3I : (p : Int) < os.length := by omega
  have HM := Lib.hid h
  obtain ⟨b1, o1, c1, b2, o2, c2, b3, o3, c3, bp, op, cp, rfl, hread⟩ := mc_open hP h h1 hl ho (by simp)
  obtain ⟨wv, av, ov, e, k1, k2, k3⟩ := h
  injection e with e
  simp at e
  obtain ⟨rfl, rfl, rfl⟩ := e
  have HF := Lib.hid (MBox.made (x3 := .slice (some ⟨b3, o3, none⟩) os.length c3) (n := n) w _ (k1.nums hP) (k2.nums hP) rfl)
  have HP := Lib.hid hP
  have HRD := Lib.hid hread
  clear hP hread k1 k2 k3
  have hcI : ((y : Int) == 0) = true := by simp; omega
  clear hc
  go_enter Tryd.func9, Tryd.ntmps9
  go_upto_region 1 with fail
  obtain ⟨V, hV⟩ : ∃ V, V = (w.alloc (.cells #[.int .i64 n, .slice (some ⟨b1, o1, none⟩) ws.length c1, .slice (some ⟨b2, o2, none⟩) ls.length c2, .slice (some ⟨b3, o3, none⟩) os.length c3] 31)).alloc (.cells #[.int .i64 0, .slice none 0 0, .slice none 0 0, .slice none 0 0] 31) := ⟨_, rfl⟩
  rw [← hV] at HF
  rw [← hV]
  obtain ⟨h, hh⟩ : ∃ h, h = w.heap.size := ⟨_, rfl⟩
  have HB := Lib.hid (show MBox w V h n _ _ _ ws ls by rw [hh]; exact HF.out)
  rw [← hh]
  clear hV hh HF
  have HPV := Lib.hid (show ∀ b, P b → b < V.heap.size from fun b hb => Nat.lt_of_lt_of_le (HP.out b hb) HB.out.below.size)
  have HM0 := Lib.hid (MS.start (HM.out.keep (fun _ h => h) (fun p hp => HB.out.below.cell (HP.out _ hp))))
  obtain ⟨y0, y1, y2, y3⟩ := HB.out.cells
  obtain ⟨r1, r2, r3, r4⟩ := HRD.out V HB.out.below
  have R1 := Lib.hid r1
  have r40 := r4 0 _ rfl
  rw [Nat.add_zero] at r40
  clear r1 r4
  have r5 := R1.out 1 y hy
  have h2I : (1 : Int) < ws.length := by omega
  go_wp2_with (go_at_call 15; (with_reducible refine (ms_to HPV.out HM0.out p 1 (by simpa using hp2) (by simpa using hls)).mono ?_); rintro e w1 ⟨v1, rfl, hm⟩; have HM1 := Lib.hid hm; clear hm; obtain ⟨B1, m1, d1, B2, m2, d2, B3, m3, d3, rfl⟩ := HM1.out.form; have HG := Lib.hid (HB.out.on HM1.out.below); obtain ⟨x0, x1, x2, x3⟩ := HG.out.room; obtain ⟨-, -, -, u3, u4, u5, u6⟩ := HG.out.frees)
  obtain ⟨hT, hmc, hbel⟩ := ms_end HP.out HB.out HM1.out
  exact bodyPost_ret (v := .agg #[.int .i64 n, .slice B1 m1 d1, .slice B2 m2 d2, .slice B3 m3 d3]) (results_cell_row rfl _ _ (h + 1) 31 _ (0, 0) _ rfl hT Tryd.underlying31 rfl (by kernel_rfl)) rfl ⟨_, rfl, hmc, hbel⟩


set_option maxHeartbeats 4000000 in
set_option maxRecDepth 100000 in
theorem ref5s (n p k y : Nat) (v : Value) (ws ls : List Int) (os : List (List Int)) (w : World) {P : Nat → Prop} (hP : ∀ b, P b → b < w.heap.size) (h : Mc w P n v ws ls os)
    (hh : RefAt n p ws ls os) (hl : ls[p]? = some 5) (ho : os[p]? = some [(k : Int)]) (hy : ws[1]? = some (y : Int)) (h2 : 1 < ws.length) (hc : y ≠ 0) :
    Calls Tryd.prog 9 #[v, .int .i64 p] w fun e w' => ∃ v', e = .returned v' ∧ Mc w' (New P w w') n v' ws ls os ∧ Below w.heap.size w w' := by
  obtain ⟨hn, hp, h1, hwl, hls, hos⟩ := hh
  have hp2 : p < ls.length := (List.getElem?_eq_some_iff.1 hl).1
  have hp3 : p < os.length := (List.getElem?_eq_some_iff.1 ho).1
  have hp2I : (p : Int) < ls.length := by omega
  have hp3I : (p : Int) < os.length := by omega
  have HM := Lib.hid h
  obtain ⟨b1, o1, c1, b2, o2, c2, b3, o3, c3, bp, op, cp, rfl, hread⟩ := mc_open hP h h1 hl ho (by simp)
  obtain ⟨wv, av, ov, e, k1, k2, k3⟩ := h
  injection e with e
  simp at e
  obtain ⟨rfl, rfl, rfl⟩ := e
  have HF := Lib.hid (MBox.made (x3 := .slice (some ⟨b3, o3, none⟩) os.length c3) (n := n) w _ (k1.nums hP) (k2.nums hP) rfl)
  have HP := Lib.hid hP
  have HRD := Lib.hid hread
  clear hP hread k1 k2 k3
  have hcI : ((y : Int) == 0) = false := by simp; omega
  clear hc
  go_enter Tryd.func9, Tryd.ntmps9
  go_upto_region 1 with fail
  obtain ⟨V, hV⟩ : ∃ V, V = (w.alloc (.cells #[.int .i64 n, .slice (some ⟨b1, o1, none⟩) ws.length c1, .slice (some ⟨b2, o2, none⟩) ls.length c2, .slice (some ⟨b3, o3, none⟩) os.length c3] 31)).alloc (.cells #[.int .i64 0, .slice none 0 0, .slice none 0 0, .slice none 0 0] 31) := ⟨_, rfl⟩
  rw [← hV] at HF
  rw [← hV]
  obtain ⟨h, hh⟩ : ∃ h, h = w.heap.size := ⟨_, rfl⟩
  have HB := Lib.hid (show MBox w V h n _ _ _ ws ls by rw [hh]; exact HF.out)
  rw [← hh]
  clear hV hh HF
  have HPV := Lib.hid (show ∀ b, P b → b < V.heap.size from fun b hb => Nat.lt_of_lt_of_le (HP.out b hb) HB.out.below.size)
  have HM0 := Lib.hid (MS.start (HM.out.keep (fun _ h => h) (fun p hp => HB.out.below.cell (HP.out _ hp))))
  obtain ⟨y0, y1, y2, y3⟩ := HB.out.cells
  obtain ⟨r1, r2, r3, r4⟩ := HRD.out V HB.out.below
  have R1 := Lib.hid r1
  have r40 := r4 0 _ rfl
  rw [Nat.add_zero] at r40
  clear r1 r4
  have r5 := R1.out 1 y hy
  have h2I : (1 : Int) < ws.length := by omega
  obtain ⟨x0, x1, x2, x3⟩ := HB.out.room
  obtain ⟨-, -, -, u3, u4, u5, u6⟩ := HB.out.frees
  go_wp2
  obtain ⟨hT, hmc, hbel⟩ := ms_end HP.out HB.out HM0.out
  exact bodyPost_ret (v := .agg #[.int .i64 n, .slice (some ⟨b1, o1, none⟩) ws.length c1, .slice (some ⟨b2, o2, none⟩) ls.length c2, .slice (some ⟨b3, o3, none⟩) os.length c3]) (results_cell_row rfl _ _ (h + 1) 31 _ (0, 0) _ rfl hT Tryd.underlying31 rfl (by kernel_rfl)) rfl ⟨_, rfl, hmc, hbel⟩


set_option maxHeartbeats 4000000 in
set_option maxRecDepth 100000 in
theorem ref6 (n p k p1 : Nat) (v : Value) (ws ls : List Int) (os : List (List Int)) (w : World) {P : Nat → Prop} (hP : ∀ b, P b → b < w.heap.size) (h : Mc w P n v ws ls os)
    (hh : RefAt n p ws ls os) (hl : ls[p]? = some 6) (ho : os[p]? = some [(k : Int)]) (hp1 : p1 = p + 1) (h2 : 1 < ws.length) :
    Calls Tryd.prog 9 #[v, .int .i64 p] w fun e w' => ∃ v', e = .returned v' ∧ Mc w' (New P w w') n v' (ws.set 1 p1) (ls.set p 7) os ∧ Below w.heap.size w w' := by
  obtain ⟨hn, hp, h1, hwl, hls, hos⟩ := hh
  have hp2 : p < ls.length := (List.getElem?_eq_some_iff.1 hl).1
  have hp3 : p < os.length := (List.getElem?_eq_some_iff.1 ho).1
  have hp2I : (p : Int) < ls.length := by omega
  have hp3I : (p : Int) < os.length := by omega
  have HM := Lib.hid h
  obtain ⟨b1, o1, c1, b2, o2, c2, b3, o3, c3, bp, op, cp, rfl, hread⟩ := mc_open hP h h1 hl ho (by simp)
  obtain ⟨wv, av, ov, e, k1, k2, k3⟩ := h
  injection e with e
  simp at e
  obtain ⟨rfl, rfl, rfl⟩ := e
  have HF := Lib.hid (MBox.made (x3 := .slice (some ⟨b3, o3, none⟩) os.length c3) (n := n) w _ (k1.nums hP) (k2.nums hP) rfl)
  have HP := Lib.hid hP
  have HRD := Lib.hid hread
  clear hP hread k1 k2 k3
  have hwp : IntKind.i64.wrap ((p : Int) + 1) = (p1 : Int) := by rw [show (p1 : Int) = (p : Int) + 1 by omega]; exact IntWalk.i64_in _ (by omega)
  clear hp1
  go_enter Tryd.func9, Tryd.ntmps9
  go_upto_region 1 with fail
  obtain ⟨V, hV⟩ : ∃ V, V = (w.alloc (.cells #[.int .i64 n, .slice (some ⟨b1, o1, none⟩) ws.length c1, .slice (some ⟨b2, o2, none⟩) ls.length c2, .slice (some ⟨b3, o3, none⟩) os.length c3] 31)).alloc (.cells #[.int .i64 0, .slice none 0 0, .slice none 0 0, .slice none 0 0] 31) := ⟨_, rfl⟩
  rw [← hV] at HF
  rw [← hV]
  obtain ⟨h, hh⟩ : ∃ h, h = w.heap.size := ⟨_, rfl⟩
  have HB := Lib.hid (show MBox w V h n _ _ _ ws ls by rw [hh]; exact HF.out)
  rw [← hh]
  clear hV hh HF
  have HPV := Lib.hid (show ∀ b, P b → b < V.heap.size from fun b hb => Nat.lt_of_lt_of_le (HP.out b hb) HB.out.below.size)
  have HM0 := Lib.hid (MS.start (HM.out.keep (fun _ h => h) (fun p hp => HB.out.below.cell (HP.out _ hp))))
  obtain ⟨y0, y1, y2, y3⟩ := HB.out.cells
  obtain ⟨r1, r2, r3, r4⟩ := HRD.out V HB.out.below
  have R1 := Lib.hid r1
  have r40 := r4 0 _ rfl
  rw [Nat.add_zero] at r40
  clear r1 r4
  go_wp2_with (first | (go_at_call 16; (with_reducible refine (ms_w1 HPV.out HM0.out p1 h2 hwl).mono ?_); rintro e w1 ⟨v1, rfl, hm⟩; have HM1 := Lib.hid hm; clear hm) | (go_at_call 15; (with_reducible refine (ms_to HPV.out HM1.out p 7 (by simpa using hp2) (by simpa using hls)).mono ?_); rintro e w2 ⟨v2, rfl, hm⟩; have HM2 := Lib.hid hm; clear hm; obtain ⟨B1, m1, d1, B2, m2, d2, B3, m3, d3, rfl⟩ := HM2.out.form; have HG := Lib.hid (HB.out.on HM2.out.below); obtain ⟨x0, x1, x2, x3⟩ := HG.out.room; obtain ⟨-, -, -, u3, u4, u5, u6⟩ := HG.out.frees))
  obtain ⟨hT, hmc, hbel⟩ := ms_end HP.out HB.out HM2.out
  exact bodyPost_ret (v := .agg #[.int .i64 n, .slice B1 m1 d1, .slice B2 m2 d2, .slice B3 m3 d3]) (results_cell_row rfl _ _ (h + 1) 31 _ (0, 0) _ rfl hT Tryd.underlying31 rfl (by kernel_rfl)) rfl ⟨_, rfl, hmc, hbel⟩

end Go.Proofs.YtjnfecaghkgdpaaDoor.Fast
