/-
  The reference's step of the lock for which one takes a number, line by line.
-/
import Derived.Test.YtgkicabfmkghmaaDoorBakRef
namespace Go.Proofs.YtgkicabfmkghmaaDoor.Bakery
open Go.RowKit

set_option maxHeartbeats 4000000 in
set_option maxRecDepth 100000 in
theorem ref3 (n p k m d m1 : Nat) (v : Value) (ws ls : List Int) (os : List (List Int)) (w : World) {P : Nat → Prop} (hP : ∀ b, P b → b < w.heap.size) (h : Mc w P n v ws ls os)
    (hh : RefAt n p ws ls os) (hl : ls[p]? = some 3) (ho : os[p]? = some [(k : Int), (m : Int)]) (_hmm : m ≤ 1000000) (hd : d = n + p) (hm1 : m1 = m + 1) (hdw : d < ws.length) :
    Calls Tryd.prog 9 #[v, .int .i64 p] w fun e w' => ∃ v', e = .returned v' ∧ Mc w' (New P w w') n v' (ws.set d m1) (ls.set p 4) os ∧ Below w.heap.size w w' := by
  obtain ⟨hn, hp, h1, hwl, hls, hos⟩ := hh
  have hp2 : p < ls.length := (List.getElem?_eq_some_iff.1 hl).1
  have hp3 : p < os.length := (List.getElem?_eq_some_iff.1 ho).1
  have hp2I : (p : Int) < ls.length := by omega
  have hp3I : (p : Int) < os.length := by omega
  have HM := Lib.hid h
  obtain ⟨b1, o1, c1, b2, o2, c2, b3, o3, c3, bp, op, cp, rfl, hread⟩ := mc_open hP h h1 hl ho (by simp)
  obtain ⟨wv, av, ov, e, k1, k2, k3⟩ := h
  injection e with e
  simp at e
  obtain ⟨rfl, rfl, rfl⟩ := e
  have HF := Lib.hid (MBox.made (x3 := .slice (some ⟨b3, o3, none⟩) os.length c3) (n := n) w _ (k1.nums hP) (k2.nums hP) rfl)
  have HP := Lib.hid hP
  have HRD := Lib.hid hread
  clear hP hread k1 k2 k3
  have hwr1 : IntKind.i64.wrap ((n : Int) + (p : Int)) = (d : Int) := by rw [show (d : Int) = (n : Int) + (p : Int) by omega]; exact IntWalk.i64_in _ (by omega)
  have hwr2 : IntKind.i64.wrap ((m : Int) + 1) = (m1 : Int) := by rw [hm1]; exact IntWalk.i64_in _ (by omega)
  clear hd hm1
  go_enter Tryd.func9, Tryd.ntmps9
  go_upto_region 1 with fail
  obtain ⟨V, hV⟩ : ∃ V, V = (w.alloc (.cells #[.int .i64 n, .slice (some ⟨b1, o1, none⟩) ws.length c1, .slice (some ⟨b2, o2, none⟩) ls.length c2, .slice (some ⟨b3, o3, none⟩) os.length c3] 31)).alloc (.cells #[.int .i64 0, .slice none 0 0, .slice none 0 0, .slice none 0 0] 31) := ⟨_, rfl⟩
  rw [← hV] at HF
  rw [← hV]
  obtain ⟨h, hh⟩ : ∃ h, h = w.heap.size := ⟨_, rfl⟩
  have HB := Lib.hid (show MBox w V h n _ _ _ ws ls by rw [hh]; exact HF.out)
  rw [← hh]
  clear hV hh HF
  have HPV := Lib.hid (show ∀ b, P b → b < V.heap.size from fun b hb => Nat.lt_of_lt_of_le (HP.out b hb) HB.out.below.size)
  have HM0 := Lib.hid (MS.start (HM.out.keep (fun _ h => h) (fun p hp => HB.out.below.cell (HP.out _ hp))))
  obtain ⟨y0, y1, y2, y3⟩ := HB.out.cells
  obtain ⟨r1, r2, r3, r4⟩ := HRD.out V HB.out.below
  have R1 := Lib.hid r1
  have r40 := r4 0 _ rfl
  rw [Nat.add_zero] at r40
  have r41 := r4 1 _ rfl
  clear r1 r4
  go_wp2_with fail
  go_region_with (first | (first | (go_at_call 16; (with_reducible refine (ms_word HPV.out (ms_drew HM0.out) d m1 hdw hwl).mono ?_); rintro e w1 ⟨v1, rfl, hm⟩; have HM1 := Lib.hid hm; clear hm) | (go_at_call 15; (with_reducible refine (ms_to HPV.out HM1.out p 4 (by simpa using hp2) (by simpa using hls)).mono ?_); rintro e w2 ⟨v2, rfl, hm⟩; have HM2 := Lib.hid hm; clear hm; obtain ⟨B1, m1, d1, B2, m2, d2, B3, m3, d3, rfl⟩ := HM2.out.form; have HG := Lib.hid (HB.out.on HM2.out.below); obtain ⟨x0, x1, x2, x3⟩ := HG.out.room; obtain ⟨-, -, -, u3, u4, u5, u6⟩ := HG.out.frees)) | (first | (go_at_call 16; (with_reducible refine (ms_word HPV.out (ms_drewN HM0.out _) d m1 hdw hwl).mono ?_); rintro e w1 ⟨v1, rfl, hm⟩; have HM1 := Lib.hid hm; clear hm) | (go_at_call 15; (with_reducible refine (ms_to HPV.out HM1.out p 4 (by simpa using hp2) (by simpa using hls)).mono ?_); rintro e w2 ⟨v2, rfl, hm⟩; have HM2 := Lib.hid hm; clear hm; obtain ⟨B1, m1, d1, B2, m2, d2, B3, m3, d3, rfl⟩ := HM2.out.form; have HG := Lib.hid (HB.out.on HM2.out.below); obtain ⟨x0, x1, x2, x3⟩ := HG.out.room; obtain ⟨-, -, -, u3, u4, u5, u6⟩ := HG.out.frees)))
  all_goals
    go_wp2
    obtain ⟨hT, hmc, hbel⟩ := ms_end HP.out HB.out HM2.out
    exact bodyPost_ret (v := .agg #[.int .i64 n, .slice B1 m1 d1, .slice B2 m2 d2, .slice B3 m3 d3]) (results_cell_row rfl _ _ (h + 1) 31 _ (0, 0) _ rfl hT Tryd.underlying31 rfl (by kernel_rfl)) rfl ⟨_, rfl, hmc, hbel⟩


set_option maxHeartbeats 4000000 in
set_option maxRecDepth 100000 in
theorem ref4 (n p k m : Nat) (v : Value) (ws ls : List Int) (os : List (List Int)) (w : World) {P : Nat → Prop} (hP : ∀ b, P b → b < w.heap.size) (h : Mc w P n v ws ls os)
    (hh : RefAt n p ws ls os) (hl : ls[p]? = some 4) (ho : os[p]? = some [(k : Int), (m : Int)]) (hpw : p < ws.length) :
    Calls Tryd.prog 9 #[v, .int .i64 p] w fun e w' => ∃ v', e = .returned v' ∧ Mc w' (New P w w') n v' (ws.set p 0) (ls.set p 5) (os.set p [0, (m : Int)]) ∧ Below w.heap.size w w' := by
  obtain ⟨hn, hp, h1, hwl, hls, hos⟩ := hh
  have hp2 : p < ls.length := (List.getElem?_eq_some_iff.1 hl).1
  have hp3 : p < os.length := (List.getElem?_eq_some_iff.1 ho).1
  have hp2I : (p : Int) < ls.length := by omega
  have hp3I : (p : Int) < os.length := by omega
  have HM := Lib.hid h
  obtain ⟨b1, o1, c1, b2, o2, c2, b3, o3, c3, bp, op, cp, rfl, hread⟩ := mc_open hP h h1 hl ho (by simp)
  obtain ⟨wv, av, ov, e, k1, k2, k3⟩ := h
  injection e with e
  simp at e
  obtain ⟨rfl, rfl, rfl⟩ := e
  have HF := Lib.hid (MBox.made (x3 := .slice (some ⟨b3, o3, none⟩) os.length c3) (n := n) w _ (k1.nums hP) (k2.nums hP) rfl)
  have HP := Lib.hid hP
  have HRD := Lib.hid hread
  clear hP hread k1 k2 k3
  go_enter Tryd.func9, Tryd.ntmps9
  go_upto_region 1 with fail
  obtain ⟨V, hV⟩ : ∃ V, V = (w.alloc (.cells #[.int .i64 n, .slice (some ⟨b1, o1, none⟩) ws.length c1, .slice (some ⟨b2, o2, none⟩) ls.length c2, .slice (some ⟨b3, o3, none⟩) os.length c3] 31)).alloc (.cells #[.int .i64 0, .slice none 0 0, .slice none 0 0, .slice none 0 0] 31) := ⟨_, rfl⟩
  rw [← hV] at HF
  rw [← hV]
  obtain ⟨h, hh⟩ : ∃ h, h = w.heap.size := ⟨_, rfl⟩
  have HB := Lib.hid (show MBox w V h n _ _ _ ws ls by rw [hh]; exact HF.out)
  rw [← hh]
  clear hV hh HF
  have HPV := Lib.hid (show ∀ b, P b → b < V.heap.size from fun b hb => Nat.lt_of_lt_of_le (HP.out b hb) HB.out.below.size)
  have HM0 := Lib.hid (MS.start (HM.out.keep (fun _ h => h) (fun p hp => HB.out.below.cell (HP.out _ hp))))
  obtain ⟨y0, y1, y2, y3⟩ := HB.out.cells
  obtain ⟨r1, r2, r3, r4⟩ := HRD.out V HB.out.below
  have R1 := Lib.hid r1
  have r40 := r4 0 _ rfl
  rw [Nat.add_zero] at r40
  have r41 := r4 1 _ rfl
  clear r1 r4
  go_wp2_with (first | (go_at_call 16; (with_reducible refine (ms_word HPV.out HM0.out p 0 hpw hwl).mono ?_); rintro e w1 ⟨v1, rfl, hm⟩; have HM1 := Lib.hid hm; clear hm) | (go_at_call 17; (with_reducible refine (ms_own20 HPV.out HM1.out p 0 _ _ ho hos).mono ?_); rintro e w2 ⟨v2, rfl, hm⟩; have HM2 := Lib.hid hm; clear hm) | (go_at_call 15; (with_reducible refine (ms_to HPV.out HM2.out p 5 (by simpa using hp2) (by simpa using hls)).mono ?_); rintro e w3 ⟨v3, rfl, hm⟩; have HM3 := Lib.hid hm; clear hm; obtain ⟨B1, m1, d1, B2, m2, d2, B3, m3, d3, rfl⟩ := HM3.out.form; have HG := Lib.hid (HB.out.on HM3.out.below); obtain ⟨x0, x1, x2, x3⟩ := HG.out.room; obtain ⟨-, -, -, u3, u4, u5, u6⟩ := HG.out.frees))
  obtain ⟨hT, hmc, hbel⟩ := ms_end HP.out HB.out HM3.out
  exact bodyPost_ret (v := .agg #[.int .i64 n, .slice B1 m1 d1, .slice B2 m2 d2, .slice B3 m3 d3]) (results_cell_row rfl _ _ (h + 1) 31 _ (0, 0) _ rfl hT Tryd.underlying31 rfl (by kernel_rfl)) rfl ⟨_, rfl, hmc, hbel⟩


set_option maxHeartbeats 4000000 in
set_option maxRecDepth 100000 in
theorem ref5g (n p k m c : Nat) (v : Value) (ws ls : List Int) (os : List (List Int)) (w : World) {P : Nat → Prop} (hP : ∀ b, P b → b < w.heap.size) (h : Mc w P n v ws ls os)
    (hh : RefAt n p ws ls os) (hl : ls[p]? = some 5) (ho : os[p]? = some [(k : Int), (m : Int)]) (hkw : k < ws.length) (hx : ws[k]? = some (c : Int)) (hc : c = 0) :
    Calls Tryd.prog 9 #[v, .int .i64 p] w fun e w' => ∃ v', e = .returned v' ∧ Mc w' (New P w w') n v' ws (ls.set p 6) os ∧ Below w.heap.size w w' := by
  obtain ⟨hn, hp, h1, hwl, hls, hos⟩ := hh
  have hp2 : p < ls.length := (List.getElem?_eq_some_iff.1 hl).1
  have hp3 : p < os.length := (List.getElem?_eq_some_iff.1 ho).1
  have hp2I : (p : Int) < ls.length := by omega
  have hp3I : (p : Int) < os.length := by omega
  have HM := Lib.hid h
  obtain ⟨b1, o1, c1, b2, o2, c2, b3, o3, c3, bp, op, cp, rfl, hread⟩ := mc_open hP h h1 hl ho (by simp)
  obtain ⟨wv, av, ov, e, k1, k2, k3⟩ := h
  injection e with e
  simp at e
  obtain ⟨rfl, rfl, rfl⟩ := e
  have HF := Lib.hid (MBox.made (x3 := .slice (some ⟨b3, o3, none⟩) os.length c3) (n := n) w _ (k1.nums hP) (k2.nums hP) rfl)
  have HP := Lib.hid hP
  have HRD := Lib.hid hread
  clear hP hread k1 k2 k3
  have hcI : ((c : Int) == 0) = true := by simp; omega
  have hcN : (c == 0) = true := by simp; omega
  have hkI : (k : Int) < ws.length := by omega
  clear hc
  go_enter Tryd.func9, Tryd.ntmps9
  go_upto_region 1 with fail
  obtain ⟨V, hV⟩ : ∃ V, V = (w.alloc (.cells #[.int .i64 n, .slice (some ⟨b1, o1, none⟩) ws.length c1, .slice (some ⟨b2, o2, none⟩) ls.length c2, .slice (some ⟨b3, o3, none⟩) os.length c3] 31)).alloc (.cells #[.int .i64 0, .slice none 0 0, .slice none 0 0, .slice none 0 0] 31) := ⟨_, rfl⟩
  rw [← hV] at HF
  rw [← hV]
  obtain ⟨h, hh⟩ : ∃ h, h = w.heap.size := ⟨_, rfl⟩
  have HB := Lib.hid (show MBox w V h n _ _ _ ws ls by rw [hh]; exact HF.out)
  rw [← hh]
  clear hV hh HF
  have HPV := Lib.hid (show ∀ b, P b → b < V.heap.size from fun b hb => Nat.lt_of_lt_of_le (HP.out b hb) HB.out.below.size)
  have HM0 := Lib.hid (MS.start (HM.out.keep (fun _ h => h) (fun p hp => HB.out.below.cell (HP.out _ hp))))
  obtain ⟨y0, y1, y2, y3⟩ := HB.out.cells
  obtain ⟨r1, r2, r3, r4⟩ := HRD.out V HB.out.below
  have R1 := Lib.hid r1
  have r40 := r4 0 _ rfl
  rw [Nat.add_zero] at r40
  have r41 := r4 1 _ rfl
  clear r1 r4
  have r5 := R1.out k c hx
  go_wp2_with fail
  go_region_with (first | (go_at_call 18; (with_reducible refine (ms_goes HPV.out (ms_drew HM0.out) p true 5 5 (by simpa using hp2) (by simpa using hls) hl (by omega) (by omega)).mono ?_); rintro e w1 ⟨v1, rfl, hm⟩; have HM1 := Lib.hid hm; clear hm; obtain ⟨B1, m1, d1, B2, m2, d2, B3, m3, d3, rfl⟩ := HM1.out.form; have HG := Lib.hid (HB.out.on HM1.out.below); obtain ⟨x0, x1, x2, x3⟩ := HG.out.room; obtain ⟨-, -, -, u3, u4, u5, u6⟩ := HG.out.frees) | (go_at_call 18; (with_reducible refine (ms_goes HPV.out (ms_drewN HM0.out _) p true 5 5 (by simpa using hp2) (by simpa using hls) hl (by omega) (by omega)).mono ?_); rintro e w1 ⟨v1, rfl, hm⟩; have HM1 := Lib.hid hm; clear hm; obtain ⟨B1, m1, d1, B2, m2, d2, B3, m3, d3, rfl⟩ := HM1.out.form; have HG := Lib.hid (HB.out.on HM1.out.below); obtain ⟨x0, x1, x2, x3⟩ := HG.out.room; obtain ⟨-, -, -, u3, u4, u5, u6⟩ := HG.out.frees))
  all_goals
    go_wp2
    obtain ⟨hT, hmc, hbel⟩ := ms_end HP.out HB.out HM1.out
    exact bodyPost_ret (v := .agg #[.int .i64 n, .slice B1 m1 d1, .slice B2 m2 d2, .slice B3 m3 d3]) (results_cell_row rfl _ _ (h + 1) 31 _ (0, 0) _ rfl hT Tryd.underlying31 rfl (by kernel_rfl)) rfl ⟨_, rfl, hmc, hbel⟩


set_option maxHeartbeats 4000000 in
set_option maxRecDepth 100000 in
theorem ref5s (n p k m c : Nat) (v : Value) (ws ls : List Int) (os : List (List Int)) (w : World) {P : Nat → Prop} (hP : ∀ b, P b → b < w.heap.size) (h : Mc w P n v ws ls os)
    (hh : RefAt n p ws ls os) (hl : ls[p]? = some 5) (ho : os[p]? = some [(k : Int), (m : Int)]) (hkw : k < ws.length) (hx : ws[k]? = some (c : Int)) (hc : c ≠ 0) :
    Calls Tryd.prog 9 #[v, .int .i64 p] w fun e w' => ∃ v', e = .returned v' ∧ Mc w' (New P w w') n v' ws (ls.set p 5) os ∧ Below w.heap.size w w' := by
  obtain ⟨hn, hp, h1, hwl, hls, hos⟩ := hh
  have hp2 : p < ls.length := (List.getElem?_eq_some_iff.1 hl).1
  have hp3 : p < os.length := (List.getElem?_eq_some_iff.1 ho).1
  have hp2I : (p : Int) < ls.length := by omega
  have hp3I : (p : Int) < os.length := by omega
  have HM := Lib.hid h
  obtain ⟨b1, o1, c1, b2, o2, c2, b3, o3, c3, bp, op, cp, rfl, hread⟩ := mc_open hP h h1 hl ho (by simp)
  obtain ⟨wv, av, ov, e, k1, k2, k3⟩ := h
  injection e with e
  simp at e
  obtain ⟨rfl, rfl, rfl⟩ := e
  have HF := Lib.hid (MBox.made (x3 := .slice (some ⟨b3, o3, none⟩) os.length c3) (n := n) w _ (k1.nums hP) (k2.nums hP) rfl)
  have HP := Lib.hid hP
  have HRD := Lib.hid hread
  clear hP hread k1 k2 k3
  have hcI : ((c : Int) == 0) = false := by simp; omega
  have hcN : (c == 0) = false := by simp; omega
  have hkI : (k : Int) < ws.length := by omega
  clear hc
  go_enter Tryd.func9, Tryd.ntmps9
  go_upto_region 1 with fail
  obtain ⟨V, hV⟩ : ∃ V, V = (w.alloc (.cells #[.int .i64 n, .slice (some ⟨b1, o1, none⟩) ws.length c1, .slice (some ⟨b2, o2, none⟩) ls.length c2, .slice (some ⟨b3, o3, none⟩) os.length c3] 31)).alloc (.cells #[.int .i64 0, .slice none 0 0, .slice none 0 0, .slice none 0 0] 31) := ⟨_, rfl⟩
  rw [← hV] at HF
  rw [← hV]
  obtain ⟨h, hh⟩ : ∃ h, h = w.heap.size := ⟨_, rfl⟩
  have HB := Lib.hid (show MBox w V h n _ _ _ ws ls by rw [hh]; exact HF.out)
  rw [← hh]
  clear hV hh HF
  have HPV := Lib.hid (show ∀ b, P b → b < V.heap.size from fun b hb => Nat.lt_of_lt_of_le (HP.out b hb) HB.out.below.size)
  have HM0 := Lib.hid (MS.start (HM.out.keep (fun _ h => h) (fun p hp => HB.out.below.cell (HP.out _ hp))))
  obtain ⟨y0, y1, y2, y3⟩ := HB.out.cells
  obtain ⟨r1, r2, r3, r4⟩ := HRD.out V HB.out.below
  have R1 := Lib.hid r1
  have r40 := r4 0 _ rfl
  rw [Nat.add_zero] at r40
  have r41 := r4 1 _ rfl
  clear r1 r4
  have r5 := R1.out k c hx
  go_wp2_with fail
  go_region_with (first | (go_at_call 18; (with_reducible refine (ms_goes HPV.out (ms_drew HM0.out) p false 5 5 (by simpa using hp2) (by simpa using hls) hl (by omega) (by omega)).mono ?_); rintro e w1 ⟨v1, rfl, hm⟩; have HM1 := Lib.hid hm; clear hm; obtain ⟨B1, m1, d1, B2, m2, d2, B3, m3, d3, rfl⟩ := HM1.out.form; have HG := Lib.hid (HB.out.on HM1.out.below); obtain ⟨x0, x1, x2, x3⟩ := HG.out.room; obtain ⟨-, -, -, u3, u4, u5, u6⟩ := HG.out.frees) | (go_at_call 18; (with_reducible refine (ms_goes HPV.out (ms_drewN HM0.out _) p false 5 5 (by simpa using hp2) (by simpa using hls) hl (by omega) (by omega)).mono ?_); rintro e w1 ⟨v1, rfl, hm⟩; have HM1 := Lib.hid hm; clear hm; obtain ⟨B1, m1, d1, B2, m2, d2, B3, m3, d3, rfl⟩ := HM1.out.form; have HG := Lib.hid (HB.out.on HM1.out.below); obtain ⟨x0, x1, x2, x3⟩ := HG.out.room; obtain ⟨-, -, -, u3, u4, u5, u6⟩ := HG.out.frees))
  all_goals
    go_wp2
    obtain ⟨hT, hmc, hbel⟩ := ms_end HP.out HB.out HM1.out
    exact bodyPost_ret (v := .agg #[.int .i64 n, .slice B1 m1 d1, .slice B2 m2 d2, .slice B3 m3 d3]) (results_cell_row rfl _ _ (h + 1) 31 _ (0, 0) _ rfl hT Tryd.underlying31 rfl (by kernel_rfl)) rfl ⟨_, rfl, hmc, hbel⟩


set_option maxHeartbeats 4000000 in
set_option maxRecDepth 100000 in
theorem ref6an (n p k m d dp k1 x y : Nat) (v : Value) (ws ls : List Int) (os : List (List Int)) (w : World) {P : Nat → Prop} (hP : ∀ b, P b → b < w.heap.size) (h : Mc w P n v ws ls os)
    (hh : RefAt n p ws ls os) (hl : ls[p]? = some 6) (ho : os[p]? = some [(k : Int), (m : Int)]) (_hkk : k ≤ 100) (hd : d = n + k) (hdp : dp = n + p) (hx : ws[d]? = some (x : Int)) (hy : ws[dp]? = some (y : Int)) (hdw : d < ws.length) (hdpw : dp < ws.length) (hk1 : k1 = k + 1) (h0 : x = 0) (hkn : k1 = n) :
    Calls Tryd.prog 9 #[v, .int .i64 p] w fun e w' => ∃ v', e = .returned v' ∧ Mc w' (New P w w') n v' ws (ls.set p 7) (os.set p [(k1 : Int), (m : Int)]) ∧ Below w.heap.size w w' := by
  obtain ⟨hn, hp, h1, hwl, hls, hos⟩ := hh
  have hp2 : p < ls.length := (List.getElem?_eq_some_iff.1 hl).1
  have hp3 : p < os.length := (List.getElem?_eq_some_iff.1 ho).1
  have hp2I : (p : Int) < ls.length := by omega
  have hp3I : (p : Int) < os.length := by omega
  have HM := Lib.hid h
  obtain ⟨b1, o1, c1, b2, o2, c2, b3, o3, c3, bp, op, cp, rfl, hread⟩ := mc_open hP h h1 hl ho (by simp)
  obtain ⟨wv, av, ov, e, k1, k2, k3⟩ := h
  injection e with e
  simp at e
  obtain ⟨rfl, rfl, rfl⟩ := e
  have HF := Lib.hid (MBox.made (x3 := .slice (some ⟨b3, o3, none⟩) os.length c3) (n := n) w _ (k1.nums hP) (k2.nums hP) rfl)
  have HP := Lib.hid hP
  have HRD := Lib.hid hread
  clear hP hread k1 k2 k3
  have hwr1 : IntKind.i64.wrap ((n : Int) + (k : Int)) = (d : Int) := by rw [show (d : Int) = (n : Int) + (k : Int) by omega]; exact IntWalk.i64_in _ (by omega)
  have hwr3 : IntKind.i64.wrap ((n : Int) + (p : Int)) = (dp : Int) := by rw [show (dp : Int) = (n : Int) + (p : Int) by omega]; exact IntWalk.i64_in _ (by omega)
  have e1 : ((x : Int) == 0) = true := by simp; omega
  clear h0
  have hwr2 : IntKind.i64.wrap ((k : Int) + 1) = (k1 : Int) := by rw [hk1]; exact IntWalk.i64_in _ (by omega)
  have hen : ((k1 : Int) == (n : Int)) = true := by simp; omega
  have henn : (k1 == n) = true := by simp; omega
  clear hkn hk1 hd hdp
  go_enter Tryd.func9, Tryd.ntmps9
  go_upto_region 1 with fail
  obtain ⟨V, hV⟩ : ∃ V, V = (w.alloc (.cells #[.int .i64 n, .slice (some ⟨b1, o1, none⟩) ws.length c1, .slice (some ⟨b2, o2, none⟩) ls.length c2, .slice (some ⟨b3, o3, none⟩) os.length c3] 31)).alloc (.cells #[.int .i64 0, .slice none 0 0, .slice none 0 0, .slice none 0 0] 31) := ⟨_, rfl⟩
  rw [← hV] at HF
  rw [← hV]
  obtain ⟨h, hh⟩ : ∃ h, h = w.heap.size := ⟨_, rfl⟩
  have HB := Lib.hid (show MBox w V h n _ _ _ ws ls by rw [hh]; exact HF.out)
  rw [← hh]
  clear hV hh HF
  have HPV := Lib.hid (show ∀ b, P b → b < V.heap.size from fun b hb => Nat.lt_of_lt_of_le (HP.out b hb) HB.out.below.size)
  have HM0 := Lib.hid (MS.start (HM.out.keep (fun _ h => h) (fun p hp => HB.out.below.cell (HP.out _ hp))))
  obtain ⟨y0, y1, y2, y3⟩ := HB.out.cells
  obtain ⟨r1, r2, r3, r4⟩ := HRD.out V HB.out.below
  have R1 := Lib.hid r1
  have r40 := r4 0 _ rfl
  rw [Nat.add_zero] at r40
  have r41 := r4 1 _ rfl
  clear r1 r4
  have r5 := R1.out d x hx
  have r6 := R1.out dp y hy
  have hdI : (d : Int) < ws.length := by omega
  have hdpI : (dp : Int) < ws.length := by omega
  go_wp2_with (first | (go_at_call 17; (with_reducible refine (ms_own20 HPV.out HM0.out p k1 _ _ ho hos).mono ?_); rintro e w1 ⟨v1, rfl, hm⟩; have HM1 := Lib.hid hm; clear hm) | (go_at_call 18; (with_reducible refine (ms_goes HPV.out HM1.out p true 5 6 (by simpa using hp2) (by simpa using hls) hl (by omega) (by omega)).mono ?_); rintro e w2 ⟨v2, rfl, hm⟩; have HM2 := Lib.hid hm; clear hm; obtain ⟨B1, m1, d1, B2, m2, d2, B3, m3, d3, rfl⟩ := HM2.out.form; have HG := Lib.hid (HB.out.on HM2.out.below); obtain ⟨x0, x1, x2, x3⟩ := HG.out.room; obtain ⟨-, -, -, u3, u4, u5, u6⟩ := HG.out.frees))
  obtain ⟨hT, hmc, hbel⟩ := ms_end HP.out HB.out HM2.out
  exact bodyPost_ret (v := .agg #[.int .i64 n, .slice B1 m1 d1, .slice B2 m2 d2, .slice B3 m3 d3]) (results_cell_row rfl _ _ (h + 1) 31 _ (0, 0) _ rfl hT Tryd.underlying31 rfl (by kernel_rfl)) rfl ⟨_, rfl, hmc, hbel⟩


set_option maxHeartbeats 4000000 in
set_option maxRecDepth 100000 in
theorem ref6as (n p k m d dp k1 x y : Nat) (v : Value) (ws ls : List Int) (os : List (List Int)) (w : World) {P : Nat → Prop} (hP : ∀ b, P b → b < w.heap.size) (h : Mc w P n v ws ls os)
    (hh : RefAt n p ws ls os) (hl : ls[p]? = some 6) (ho : os[p]? = some [(k : Int), (m : Int)]) (_hkk : k ≤ 100) (hd : d = n + k) (hdp : dp = n + p) (hx : ws[d]? = some (x : Int)) (hy : ws[dp]? = some (y : Int)) (hdw : d < ws.length) (hdpw : dp < ws.length) (hk1 : k1 = k + 1) (h0 : x = 0) (hkn : k1 ≠ n) :
    Calls Tryd.prog 9 #[v, .int .i64 p] w fun e w' => ∃ v', e = .returned v' ∧ Mc w' (New P w w') n v' ws (ls.set p 5) (os.set p [(k1 : Int), (m : Int)]) ∧ Below w.heap.size w w' := by
  obtain ⟨hn, hp, h1, hwl, hls, hos⟩ := hh
  have hp2 : p < ls.length := (List.getElem?_eq_some_iff.1 hl).1
  have hp3 : p < os.length := (List.getElem?_eq_some_iff.1 ho).1
  have hp2I : (p : Int) < ls.length := by omega
  have hp3I : (p : Int) < os.length := by omega
  have HM := Lib.hid h
  obtain ⟨b1, o1, c1, b2, o2, c2, b3, o3, c3, bp, op, cp, rfl, hread⟩ := mc_open hP h h1 hl ho (by simp)
  obtain ⟨wv, av, ov, e, k1, k2, k3⟩ := h
  injection e with e
  simp at e
  obtain ⟨rfl, rfl, rfl⟩ := e
  have HF := Lib.hid (MBox.made (x3 := .slice (some ⟨b3, o3, none⟩) os.length c3) (n := n) w _ (k1.nums hP) (k2.nums hP) rfl)
  have HP := Lib.hid hP
  have HRD := Lib.hid hread
  clear hP hread k1 k2 k3
  have hwr1 : IntKind.i64.wrap ((n : Int) + (k : Int)) = (d : Int) := by rw [show (d : Int) = (n : Int) + (k : Int) by omega]; exact IntWalk.i64_in _ (by omega)
  have hwr3 : IntKind.i64.wrap ((n : Int) + (p : Int)) = (dp : Int) := by rw [show (dp : Int) = (n : Int) + (p : Int) by omega]; exact IntWalk.i64_in _ (by omega)
  have e1 : ((x : Int) == 0) = true := by simp; omega
  clear h0
  have hwr2 : IntKind.i64.wrap ((k : Int) + 1) = (k1 : Int) := by rw [hk1]; exact IntWalk.i64_in _ (by omega)
  have hen : ((k1 : Int) == (n : Int)) = false := by simp; omega
  have henn : (k1 == n) = false := by simp; omega
  clear hkn hk1 hd hdp
  go_enter Tryd.func9, Tryd.ntmps9
  go_upto_region 1 with fail
  obtain ⟨V, hV⟩ : ∃ V, V = (w.alloc (.cells #[.int .i64 n, .slice (some ⟨b1, o1, none⟩) ws.length c1, .slice (some ⟨b2, o2, none⟩) ls.length c2, .slice (some ⟨b3, o3, none⟩) os.length c3] 31)).alloc (.cells #[.int .i64 0, .slice none 0 0, .slice none 0 0, .slice none 0 0] 31) := ⟨_, rfl⟩
  rw [← hV] at HF
  rw [← hV]
  obtain ⟨h, hh⟩ : ∃ h, h = w.heap.size := ⟨_, rfl⟩
  have HB := Lib.hid (show MBox w V h n _ _ _ ws ls by rw [hh]; exact HF.out)
  rw [← hh]
  clear hV hh HF
  have HPV := Lib.hid (show ∀ b, P b → b < V.heap.size from fun b hb => Nat.lt_of_lt_of_le (HP.out b hb) HB.out.below.size)
  have HM0 := Lib.hid (MS.start (HM.out.keep (fun _ h => h) (fun p hp => HB.out.below.cell (HP.out _ hp))))
  obtain ⟨y0, y1, y2, y3⟩ := HB.out.cells
  obtain ⟨r1, r2, r3, r4⟩ := HRD.out V HB.out.below
  have R1 := Lib.hid r1
  have r40 := r4 0 _ rfl
  rw [Nat.add_zero] at r40
  have r41 := r4 1 _ rfl
  clear r1 r4
  have r5 := R1.out d x hx
  have r6 := R1.out dp y hy
  have hdI : (d : Int) < ws.length := by omega
  have hdpI : (dp : Int) < ws.length := by omega
  go_wp2_with (first | (go_at_call 17; (with_reducible refine (ms_own20 HPV.out HM0.out p k1 _ _ ho hos).mono ?_); rintro e w1 ⟨v1, rfl, hm⟩; have HM1 := Lib.hid hm; clear hm) | (go_at_call 18; (with_reducible refine (ms_goes HPV.out HM1.out p false 5 6 (by simpa using hp2) (by simpa using hls) hl (by omega) (by omega)).mono ?_); rintro e w2 ⟨v2, rfl, hm⟩; have HM2 := Lib.hid hm; clear hm; obtain ⟨B1, m1, d1, B2, m2, d2, B3, m3, d3, rfl⟩ := HM2.out.form; have HG := Lib.hid (HB.out.on HM2.out.below); obtain ⟨x0, x1, x2, x3⟩ := HG.out.room; obtain ⟨-, -, -, u3, u4, u5, u6⟩ := HG.out.frees))
  obtain ⟨hT, hmc, hbel⟩ := ms_end HP.out HB.out HM2.out
  exact bodyPost_ret (v := .agg #[.int .i64 n, .slice B1 m1 d1, .slice B2 m2 d2, .slice B3 m3 d3]) (results_cell_row rfl _ _ (h + 1) 31 _ (0, 0) _ rfl hT Tryd.underlying31 rfl (by kernel_rfl)) rfl ⟨_, rfl, hmc, hbel⟩


set_option maxHeartbeats 4000000 in
set_option maxRecDepth 100000 in
theorem ref6bn (n p k m d dp k1 x y : Nat) (v : Value) (ws ls : List Int) (os : List (List Int)) (w : World) {P : Nat → Prop} (hP : ∀ b, P b → b < w.heap.size) (h : Mc w P n v ws ls os)
    (hh : RefAt n p ws ls os) (hl : ls[p]? = some 6) (ho : os[p]? = some [(k : Int), (m : Int)]) (_hkk : k ≤ 100) (hd : d = n + k) (hdp : dp = n + p) (hx : ws[d]? = some (x : Int)) (hy : ws[dp]? = some (y : Int)) (hdw : d < ws.length) (hdpw : dp < ws.length) (hk1 : k1 = k + 1) (h0 : x ≠ 0) (hb : y < x) (hkn : k1 = n) :
    Calls Tryd.prog 9 #[v, .int .i64 p] w fun e w' => ∃ v', e = .returned v' ∧ Mc w' (New P w w') n v' ws (ls.set p 7) (os.set p [(k1 : Int), (m : Int)]) ∧ Below w.heap.size w w' := by
  obtain ⟨hn, hp, h1, hwl, hls, hos⟩ := hh
  have hp2 : p < ls.length := (List.getElem?_eq_some_iff.1 hl).1
  have hp3 : p < os.length := (List.getElem?_eq_some_iff.1 ho).1
  have hp2I : (p : Int) < ls.length := by omega
  have hp3I : (p : Int) < os.length := by omega
  have HM := Lib.hid h
  obtain ⟨b1, o1, c1, b2, o2, c2, b3, o3, c3, bp, op, cp, rfl, hread⟩ := mc_open hP h h1 hl ho (by simp)
  obtain ⟨wv, av, ov, e, k1, k2, k3⟩ := h
  injection e with e
  simp at e
  obtain ⟨rfl, rfl, rfl⟩ := e
  have HF := Lib.hid (MBox.made (x3 := .slice (some ⟨b3, o3, none⟩) os.length c3) (n := n) w _ (k1.nums hP) (k2.nums hP) rfl)
  have HP := Lib.hid hP
  have HRD := Lib.hid hread
  clear hP hread k1 k2 k3
  have hwr1 : IntKind.i64.wrap ((n : Int) + (k : Int)) = (d : Int) := by rw [show (d : Int) = (n : Int) + (k : Int) by omega]; exact IntWalk.i64_in _ (by omega)
  have hwr3 : IntKind.i64.wrap ((n : Int) + (p : Int)) = (dp : Int) := by rw [show (dp : Int) = (n : Int) + (p : Int) by omega]; exact IntWalk.i64_in _ (by omega)
  have e1 : ((x : Int) == 0) = false := by simp; omega
  have e2 : (y : Int) < (x : Int) := by omega
  clear h0 hb
  have hwr2 : IntKind.i64.wrap ((k : Int) + 1) = (k1 : Int) := by rw [hk1]; exact IntWalk.i64_in _ (by omega)
  have hen : ((k1 : Int) == (n : Int)) = true := by simp; omega
  have henn : (k1 == n) = true := by simp; omega
  clear hkn hk1 hd hdp
  go_enter Tryd.func9, Tryd.ntmps9
  go_upto_region 1 with fail
  obtain ⟨V, hV⟩ : ∃ V, V = (w.alloc (.cells #[.int .i64 n, .slice (some ⟨b1, o1, none⟩) ws.length c1, .slice (some ⟨b2, o2, none⟩) ls.length c2, .slice (some ⟨b3, o3, none⟩) os.length c3] 31)).alloc (.cells #[.int .i64 0, .slice none 0 0, .slice none 0 0, .slice none 0 0] 31) := ⟨_, rfl⟩
  rw [← hV] at HF
  rw [← hV]
  obtain ⟨h, hh⟩ : ∃ h, h = w.heap.size := ⟨_, rfl⟩
  have HB := Lib.hid (show MBox w V h n _ _ _ ws ls by rw [hh]; exact HF.out)
  rw [← hh]
  clear hV hh HF
  have HPV := Lib.hid (show ∀ b, P b → b < V.heap.size from fun b hb => Nat.lt_of_lt_of_le (HP.out b hb) HB.out.below.size)
  have HM0 := Lib.hid (MS.start (HM.out.keep (fun _ h => h) (fun p hp => HB.out.below.cell (HP.out _ hp))))
  obtain ⟨y0, y1, y2, y3⟩ := HB.out.cells
  obtain ⟨r1, r2, r3, r4⟩ := HRD.out V HB.out.below
  have R1 := Lib.hid r1
  have r40 := r4 0 _ rfl
  rw [Nat.add_zero] at r40
  have r41 := r4 1 _ rfl
  clear r1 r4
  have r5 := R1.out d x hx
  have r6 := R1.out dp y hy
  have hdI : (d : Int) < ws.length := by omega
  have hdpI : (dp : Int) < ws.length := by omega
  go_wp2_with (first | (go_at_call 17; (with_reducible refine (ms_own20 HPV.out HM0.out p k1 _ _ ho hos).mono ?_); rintro e w1 ⟨v1, rfl, hm⟩; have HM1 := Lib.hid hm; clear hm) | (go_at_call 18; (with_reducible refine (ms_goes HPV.out HM1.out p true 5 6 (by simpa using hp2) (by simpa using hls) hl (by omega) (by omega)).mono ?_); rintro e w2 ⟨v2, rfl, hm⟩; have HM2 := Lib.hid hm; clear hm; obtain ⟨B1, m1, d1, B2, m2, d2, B3, m3, d3, rfl⟩ := HM2.out.form; have HG := Lib.hid (HB.out.on HM2.out.below); obtain ⟨x0, x1, x2, x3⟩ := HG.out.room; obtain ⟨-, -, -, u3, u4, u5, u6⟩ := HG.out.frees))
  obtain ⟨hT, hmc, hbel⟩ := ms_end HP.out HB.out HM2.out
  exact bodyPost_ret (v := .agg #[.int .i64 n, .slice B1 m1 d1, .slice B2 m2 d2, .slice B3 m3 d3]) (results_cell_row rfl _ _ (h + 1) 31 _ (0, 0) _ rfl hT Tryd.underlying31 rfl (by kernel_rfl)) rfl ⟨_, rfl, hmc, hbel⟩


set_option maxHeartbeats 4000000 in
set_option maxRecDepth 100000 in
theorem ref6bs (n p k m d dp k1 x y : Nat) (v : Value) (ws ls : List Int) (os : List (List Int)) (w : World) {P : Nat → Prop} (hP : ∀ b, P b → b < w.heap.size) (h : Mc w P n v ws ls os)
    (hh : RefAt n p ws ls os) (hl : ls[p]? = some 6) (ho : os[p]? = some [(k : Int), (m : Int)]) (_hkk : k ≤ 100) (hd : d = n + k) (hdp : dp = n + p) (hx : ws[d]? = some (x : Int)) (hy : ws[dp]? = some (y : Int)) (hdw : d < ws.length) (hdpw : dp < ws.length) (hk1 : k1 = k + 1) (h0 : x ≠ 0) (hb : y < x) (hkn : k1 ≠ n) :
    Calls Tryd.prog 9 #[v, .int .i64 p] w fun e w' => ∃ v', e = .returned v' ∧ Mc w' (New P w w') n v' ws (ls.set p 5) (os.set p [(k1 : Int), (m : Int)]) ∧ Below w.heap.size w w' := by
  obtain ⟨hn, hp, h1, hwl, hls, hos⟩ := hh
  have hp2 : p < ls.length := (List.getElem?_eq_some_iff.1 hl).1
  have hp3 : p < os.length := (List.getElem?_eq_some_iff.1 ho).1
  have hp2I : (p : Int) < ls.length := by omega
  have hp3I : (p : Int) < os.length := by omega
  have HM := Lib.hid h
  obtain ⟨b1, o1, c1, b2, o2, c2, b3, o3, c3, bp, op, cp, rfl, hread⟩ := mc_open hP h h1 hl ho (by simp)
  obtain ⟨wv, av, ov, e, k1, k2, k3⟩ := h
  injection e with e
  simp at e
  obtain ⟨rfl, rfl, rfl⟩ := e
  have HF := Lib.hid (MBox.made (x3 := .slice (some ⟨b3, o3, none⟩) os.length c3) (n := n) w _ (k1.nums hP) (k2.nums hP) rfl)
  have HP := Lib.hid hP
  have HRD := Lib.hid hread
  clear hP hread k1 k2 k3
  have hwr1 : IntKind.i64.wrap ((n : Int) + (k : Int)) = (d : Int) := by rw [show (d : Int) = (n : Int) + (k : Int) by omega]; exact IntWalk.i64_in _ (by omega)
  have hwr3 : IntKind.i64.wrap ((n : Int) + (p : Int)) = (dp : Int) := by rw [show (dp : Int) = (n : Int) + (p : Int) by omega]; exact IntWalk.i64_in _ (by omega)
  have e1 : ((x : Int) == 0) = false := by simp; omega
  have e2 : (y : Int) < (x : Int) := by omega
  clear h0 hb
  have hwr2 : IntKind.i64.wrap ((k : Int) + 1) = (k1 : Int) := by rw [hk1]; exact IntWalk.i64_in _ (by omega)
  have hen : ((k1 : Int) == (n : Int)) = false := by simp; omega
  have henn : (k1 == n) = false := by simp; omega
  clear hkn hk1 hd hdp
  go_enter Tryd.func9, Tryd.ntmps9
  go_upto_region 1 with fail
  obtain ⟨V, hV⟩ : ∃ V, V = (w.alloc (.cells #[.int .i64 n, .slice (some ⟨b1, o1, none⟩) ws.length c1, .slice (some ⟨b2, o2, none⟩) ls.length c2, .slice (some ⟨b3, o3, none⟩) os.length c3] 31)).alloc (.cells #[.int .i64 0, .slice none 0 0, .slice none 0 0, .slice none 0 0] 31) := ⟨_, rfl⟩
  rw [← hV] at HF
  rw [← hV]
  obtain ⟨h, hh⟩ : ∃ h, h = w.heap.size := ⟨_, rfl⟩
  have HB := Lib.hid (show MBox w V h n _ _ _ ws ls by rw [hh]; exact HF.out)
  rw [← hh]
  clear hV hh HF
  have HPV := Lib.hid (show ∀ b, P b → b < V.heap.size from fun b hb => Nat.lt_of_lt_of_le (HP.out b hb) HB.out.below.size)
  have HM0 := Lib.hid (MS.start (HM.out.keep (fun _ h => h) (fun p hp => HB.out.below.cell (HP.out _ hp))))
  obtain ⟨y0, y1, y2, y3⟩ := HB.out.cells
  obtain ⟨r1, r2, r3, r4⟩ := HRD.out V HB.out.below
  have R1 := Lib.hid r1
  have r40 := r4 0 _ rfl
  rw [Nat.add_zero] at r40
  have r41 := r4 1 _ rfl
  clear r1 r4
  have r5 := R1.out d x hx
  have r6 := R1.out dp y hy
  have hdI : (d : Int) < ws.length := by omega
  have hdpI : (dp : Int) < ws.length := by omega
  go_wp2_with (first | (go_at_call 17; (with_reducible refine (ms_own20 HPV.out HM0.out p k1 _ _ ho hos).mono ?_); rintro e w1 ⟨v1, rfl, hm⟩; have HM1 := Lib.hid hm; clear hm) | (go_at_call 18; (with_reducible refine (ms_goes HPV.out HM1.out p false 5 6 (by simpa using hp2) (by simpa using hls) hl (by omega) (by omega)).mono ?_); rintro e w2 ⟨v2, rfl, hm⟩; have HM2 := Lib.hid hm; clear hm; obtain ⟨B1, m1, d1, B2, m2, d2, B3, m3, d3, rfl⟩ := HM2.out.form; have HG := Lib.hid (HB.out.on HM2.out.below); obtain ⟨x0, x1, x2, x3⟩ := HG.out.room; obtain ⟨-, -, -, u3, u4, u5, u6⟩ := HG.out.frees))
  obtain ⟨hT, hmc, hbel⟩ := ms_end HP.out HB.out HM2.out
  exact bodyPost_ret (v := .agg #[.int .i64 n, .slice B1 m1 d1, .slice B2 m2 d2, .slice B3 m3 d3]) (results_cell_row rfl _ _ (h + 1) 31 _ (0, 0) _ rfl hT Tryd.underlying31 rfl (by kernel_rfl)) rfl ⟨_, rfl, hmc, hbel⟩


set_option maxHeartbeats 4000000 in
set_option maxRecDepth 100000 in
theorem ref6cn (n p k m d dp k1 x y : Nat) (v : Value) (ws ls : List Int) (os : List (List Int)) (w : World) {P : Nat → Prop} (hP : ∀ b, P b → b < w.heap.size) (h : Mc w P n v ws ls os)
    (hh : RefAt n p ws ls os) (hl : ls[p]? = some 6) (ho : os[p]? = some [(k : Int), (m : Int)]) (_hkk : k ≤ 100) (hd : d = n + k) (hdp : dp = n + p) (hx : ws[d]? = some (x : Int)) (hy : ws[dp]? = some (y : Int)) (hdw : d < ws.length) (hdpw : dp < ws.length) (hk1 : k1 = k + 1) (h0 : x ≠ 0) (hb : x = y) (hk : p ≤ k) (hkn : k1 = n) :
    Calls Tryd.prog 9 #[v, .int .i64 p] w fun e w' => ∃ v', e = .returned v' ∧ Mc w' (New P w w') n v' ws (ls.set p 7) (os.set p [(k1 : Int), (m : Int)]) ∧ Below w.heap.size w w' := by
  obtain ⟨hn, hp, h1, hwl, hls, hos⟩ := hh
  have hp2 : p < ls.length := (List.getElem?_eq_some_iff.1 hl).1
  have hp3 : p < os.length := (List.getElem?_eq_some_iff.1 ho).1
  have hp2I : (p : Int) < ls.length := by omega
  have hp3I : (p : Int) < os.length := by omega
  have HM := Lib.hid h
  obtain ⟨b1, o1, c1, b2, o2, c2, b3, o3, c3, bp, op, cp, rfl, hread⟩ := mc_open hP h h1 hl ho (by simp)
  obtain ⟨wv, av, ov, e, k1, k2, k3⟩ := h
  injection e with e
  simp at e
  obtain ⟨rfl, rfl, rfl⟩ := e
  have HF := Lib.hid (MBox.made (x3 := .slice (some ⟨b3, o3, none⟩) os.length c3) (n := n) w _ (k1.nums hP) (k2.nums hP) rfl)
  have HP := Lib.hid hP
  have HRD := Lib.hid hread
  clear hP hread k1 k2 k3
  have hwr1 : IntKind.i64.wrap ((n : Int) + (k : Int)) = (d : Int) := by rw [show (d : Int) = (n : Int) + (k : Int) by omega]; exact IntWalk.i64_in _ (by omega)
  have hwr3 : IntKind.i64.wrap ((n : Int) + (p : Int)) = (dp : Int) := by rw [show (dp : Int) = (n : Int) + (p : Int) by omega]; exact IntWalk.i64_in _ (by omega)
  have e1 : ((x : Int) == 0) = false := by simp; omega
  have e2 : ¬ (y : Int) < (x : Int) := by omega
  have e3 : ((x : Int) == (y : Int)) = true := by simp; omega
  have e4 : (p : Int) ≤ (k : Int) := by omega
  clear h0 hb hk
  have hwr2 : IntKind.i64.wrap ((k : Int) + 1) = (k1 : Int) := by rw [hk1]; exact IntWalk.i64_in _ (by omega)
  have hen : ((k1 : Int) == (n : Int)) = true := by simp; omega
  have henn : (k1 == n) = true := by simp; omega
  clear hkn hk1 hd hdp
  go_enter Tryd.func9, Tryd.ntmps9
  go_upto_region 1 with fail
  obtain ⟨V, hV⟩ : ∃ V, V = (w.alloc (.cells #[.int .i64 n, .slice (some ⟨b1, o1, none⟩) ws.length c1, .slice (some ⟨b2, o2, none⟩) ls.length c2, .slice (some ⟨b3, o3, none⟩) os.length c3] 31)).alloc (.cells #[.int .i64 0, .slice none 0 0, .slice none 0 0, .slice none 0 0] 31) := ⟨_, rfl⟩
  rw [← hV] at HF
  rw [← hV]
  obtain ⟨h, hh⟩ : ∃ h, h = w.heap.size := ⟨_, rfl⟩
  have HB := Lib.hid (show MBox w V h n _ _ _ ws ls by rw [hh]; exact HF.out)
  rw [← hh]
  clear hV hh HF
  have HPV := Lib.hid (show ∀ b, P b → b < V.heap.size from fun b hb => Nat.lt_of_lt_of_le (HP.out b hb) HB.out.below.size)
  have HM0 := Lib.hid (MS.start (HM.out.keep (fun _ h => h) (fun p hp => HB.out.below.cell (HP.out _ hp))))
  obtain ⟨y0, y1, y2, y3⟩ := HB.out.cells
  obtain ⟨r1, r2, r3, r4⟩ := HRD.out V HB.out.below
  have R1 := Lib.hid r1
  have r40 := r4 0 _ rfl
  rw [Nat.add_zero] at r40
  have r41 := r4 1 _ rfl
  clear r1 r4
  have r5 := R1.out d x hx
  have r6 := R1.out dp y hy
  have hdI : (d : Int) < ws.length := by omega
  have hdpI : (dp : Int) < ws.length := by omega
  go_wp2_with (first | (go_at_call 17; (with_reducible refine (ms_own20 HPV.out HM0.out p k1 _ _ ho hos).mono ?_); rintro e w1 ⟨v1, rfl, hm⟩; have HM1 := Lib.hid hm; clear hm) | (go_at_call 18; (with_reducible refine (ms_goes HPV.out HM1.out p true 5 6 (by simpa using hp2) (by simpa using hls) hl (by omega) (by omega)).mono ?_); rintro e w2 ⟨v2, rfl, hm⟩; have HM2 := Lib.hid hm; clear hm; obtain ⟨B1, m1, d1, B2, m2, d2, B3, m3, d3, rfl⟩ := HM2.out.form; have HG := Lib.hid (HB.out.on HM2.out.below); obtain ⟨x0, x1, x2, x3⟩ := HG.out.room; obtain ⟨-, -, -, u3, u4, u5, u6⟩ := HG.out.frees))
  obtain ⟨hT, hmc, hbel⟩ := ms_end HP.out HB.out HM2.out
  exact bodyPost_ret (v := .agg #[.int .i64 n, .slice B1 m1 d1, .slice B2 m2 d2, .slice B3 m3 d3]) (results_cell_row rfl _ _ (h + 1) 31 _ (0, 0) _ rfl hT Tryd.underlying31 rfl (by kernel_rfl)) rfl ⟨_, rfl, hmc, hbel⟩


set_option maxHeartbeats 4000000 in
set_option maxRecDepth 100000 in
theorem ref6cs (n p k m d dp k1 x y : Nat) (v : Value) (ws ls : List Int) (os : List (List Int)) (w : World) {P : Nat → Prop} (hP : ∀ b, P b → b < w.heap.size) (h : Mc w P n v ws ls os)
    (hh : RefAt n p ws ls os) (hl : ls[p]? = some 6) (ho : os[p]? = some [(k : Int), (m : Int)]) (_hkk : k ≤ 100) (hd : d = n + k) (hdp : dp = n + p) (hx : ws[d]? = some (x : Int)) (hy : ws[dp]? = some (y : Int)) (hdw : d < ws.length) (hdpw : dp < ws.length) (hk1 : k1 = k + 1) (h0 : x ≠ 0) (hb : x = y) (hk : p ≤ k) (hkn : k1 ≠ n) :
    Calls Tryd.prog 9 #[v, .int .i64 p] w fun e w' => ∃ v', e = .returned v' ∧ Mc w' (New P w w') n v' ws (ls.set p 5) (os.set p [(k1 : Int), (m : Int)]) ∧ Below w.heap.size w w' := by
  obtain ⟨hn, hp, h1, hwl, hls, hos⟩ := hh
  have hp2 : p < ls.length := (List.getElem?_eq_some_iff.1 hl).1
  have hp3 : p < os.length := (List.getElem?_eq_some_iff.1 ho).1
  have hp2I : (p : Int) < ls.length := by omega
  have hp3I : (p : Int) < os.length := by omega
  have HM := Lib.hid h
  obtain ⟨b1, o1, c1, b2, o2, c2, b3, o3, c3, bp, op, cp, rfl, hread⟩ := mc_open hP h h1 hl ho (by simp)
  obtain ⟨wv, av, ov, e, k1, k2, k3⟩ := h
  injection e with e
  simp at e
  obtain ⟨rfl, rfl, rfl⟩ := e
  have HF := Lib.hid (MBox.made (x3 := .slice (some ⟨b3, o3, none⟩) os.length c3) (n := n) w _ (k1.nums hP) (k2.nums hP) rfl)
  have HP := Lib.hid hP
  have HRD := Lib.hid hread
  clear hP hread k1 k2 k3
  have hwr1 : IntKind.i64.wrap ((n : Int) + (k : Int)) = (d : Int) := by rw [show (d : Int) = (n : Int) + (k : Int) by omega]; exact IntWalk.i64_in _ (by omega)
  have hwr3 : IntKind.i64.wrap ((n : Int) + (p : Int)) = (dp : Int) := by rw [show (dp : Int) = (n : Int) + (p : Int) by omega]; exact IntWalk.i64_in _ (by omega)
  have e1 : ((x : Int) == 0) = false := by simp; omega
  have e2 : ¬ (y : Int) < (x : Int) := by omega
  have e3 : ((x : Int) == (y : Int)) = true := by simp; omega
  have e4 : (p : Int) ≤ (k : Int) := by omega
  clear h0 hb hk
  have hwr2 : IntKind.i64.wrap ((k : Int) + 1) = (k1 : Int) := by rw [hk1]; exact IntWalk.i64_in _ (by omega)
  have hen : ((k1 : Int) == (n : Int)) = false := by simp; omega
  have henn : (k1 == n) = false := by simp; omega
  clear hkn hk1 hd hdp
  go_enter Tryd.func9, Tryd.ntmps9
  go_upto_region 1 with fail
  obtain ⟨V, hV⟩ : ∃ V, V = (w.alloc (.cells #[.int .i64 n, .slice (some ⟨b1, o1, none⟩) ws.length c1, .slice (some ⟨b2, o2, none⟩) ls.length c2, .slice (some ⟨b3, o3, none⟩) os.length c3] 31)).alloc (.cells #[.int .i64 0, .slice none 0 0, .slice none 0 0, .slice none 0 0] 31) := ⟨_, rfl⟩
  rw [← hV] at HF
  rw [← hV]
  obtain ⟨h, hh⟩ : ∃ h, h = w.heap.size := ⟨_, rfl⟩
  have HB := Lib.hid (show MBox w V h n _ _ _ ws ls by rw [hh]; exact HF.out)
  rw [← hh]
  clear hV hh HF
  have HPV := Lib.hid (show ∀ b, P b → b < V.heap.size from fun b hb => Nat.lt_of_lt_of_le (HP.out b hb) HB.out.below.size)
  have HM0 := Lib.hid (MS.start (HM.out.keep (fun _ h => h) (fun p hp => HB.out.below.cell (HP.out _ hp))))
  obtain ⟨y0, y1, y2, y3⟩ := HB.out.cells
  obtain ⟨r1, r2, r3, r4⟩ := HRD.out V HB.out.below
  have R1 := Lib.hid r1
  have r40 := r4 0 _ rfl
  rw [Nat.add_zero] at r40
  have r41 := r4 1 _ rfl
  clear r1 r4
  have r5 := R1.out d x hx
  have r6 := R1.out dp y hy
  have hdI : (d : Int) < ws.length := by omega
  have hdpI : (dp : Int) < ws.length := by omega
  go_wp2_with (first | (go_at_call 17; (with_reducible refine (ms_own20 HPV.out HM0.out p k1 _ _ ho hos).mono ?_); rintro e w1 ⟨v1, rfl, hm⟩; have HM1 := Lib.hid hm; clear hm) | (go_at_call 18; (with_reducible refine (ms_goes HPV.out HM1.out p false 5 6 (by simpa using hp2) (by simpa using hls) hl (by omega) (by omega)).mono ?_); rintro e w2 ⟨v2, rfl, hm⟩; have HM2 := Lib.hid hm; clear hm; obtain ⟨B1, m1, d1, B2, m2, d2, B3, m3, d3, rfl⟩ := HM2.out.form; have HG := Lib.hid (HB.out.on HM2.out.below); obtain ⟨x0, x1, x2, x3⟩ := HG.out.room; obtain ⟨-, -, -, u3, u4, u5, u6⟩ := HG.out.frees))
  obtain ⟨hT, hmc, hbel⟩ := ms_end HP.out HB.out HM2.out
  exact bodyPost_ret (v := .agg #[.int .i64 n, .slice B1 m1 d1, .slice B2 m2 d2, .slice B3 m3 d3]) (results_cell_row rfl _ _ (h + 1) 31 _ (0, 0) _ rfl hT Tryd.underlying31 rfl (by kernel_rfl)) rfl ⟨_, rfl, hmc, hbel⟩


set_option maxHeartbeats 4000000 in
set_option maxRecDepth 100000 in
theorem ref6d (n p k m d dp x y : Nat) (v : Value) (ws ls : List Int) (os : List (List Int)) (w : World) {P : Nat → Prop} (hP : ∀ b, P b → b < w.heap.size) (h : Mc w P n v ws ls os)
    (hh : RefAt n p ws ls os) (hl : ls[p]? = some 6) (ho : os[p]? = some [(k : Int), (m : Int)]) (_hkk : k ≤ 100) (hd : d = n + k) (hdp : dp = n + p) (hx : ws[d]? = some (x : Int)) (hy : ws[dp]? = some (y : Int)) (hdw : d < ws.length) (hdpw : dp < ws.length) (h0 : x ≠ 0) (hb : x < y) :
    Calls Tryd.prog 9 #[v, .int .i64 p] w fun e w' => ∃ v', e = .returned v' ∧ Mc w' (New P w w') n v' ws ls os ∧ Below w.heap.size w w' := by
  obtain ⟨hn, hp, h1, hwl, hls, hos⟩ := hh
  have hp2 : p < ls.length := (List.getElem?_eq_some_iff.1 hl).1
  have hp3 : p < os.length := (List.getElem?_eq_some_iff.1 ho).1
  have hp2I : (p : Int) < ls.length := by omega
  have hp3I : (p : Int) < os.length := by omega
  have HM := Lib.hid h
  obtain ⟨b1, o1, c1, b2, o2, c2, b3, o3, c3, bp, op, cp, rfl, hread⟩ := mc_open hP h h1 hl ho (by simp)
  obtain ⟨wv, av, ov, e, k1, k2, k3⟩ := h
  injection e with e
  simp at e
  obtain ⟨rfl, rfl, rfl⟩ := e
  have HF := Lib.hid (MBox.made (x3 := .slice (some ⟨b3, o3, none⟩) os.length c3) (n := n) w _ (k1.nums hP) (k2.nums hP) rfl)
  have HP := Lib.hid hP
  have HRD := Lib.hid hread
  clear hP hread k1 k2 k3
  have hwr1 : IntKind.i64.wrap ((n : Int) + (k : Int)) = (d : Int) := by rw [show (d : Int) = (n : Int) + (k : Int) by omega]; exact IntWalk.i64_in _ (by omega)
  have hwr3 : IntKind.i64.wrap ((n : Int) + (p : Int)) = (dp : Int) := by rw [show (dp : Int) = (n : Int) + (p : Int) by omega]; exact IntWalk.i64_in _ (by omega)
  have e1 : ((x : Int) == 0) = false := by simp; omega
  have e2 : ¬ (y : Int) < (x : Int) := by omega
  have e3 : ((x : Int) == (y : Int)) = false := by simp; omega
  clear h0 hb hd hdp
  go_enter Tryd.func9, Tryd.ntmps9
  go_upto_region 1 with fail
  obtain ⟨V, hV⟩ : ∃ V, V = (w.alloc (.cells #[.int .i64 n, .slice (some ⟨b1, o1, none⟩) ws.length c1, .slice (some ⟨b2, o2, none⟩) ls.length c2, .slice (some ⟨b3, o3, none⟩) os.length c3] 31)).alloc (.cells #[.int .i64 0, .slice none 0 0, .slice none 0 0, .slice none 0 0] 31) := ⟨_, rfl⟩
  rw [← hV] at HF
  rw [← hV]
  obtain ⟨h, hh⟩ : ∃ h, h = w.heap.size := ⟨_, rfl⟩
  have HB := Lib.hid (show MBox w V h n _ _ _ ws ls by rw [hh]; exact HF.out)
  rw [← hh]
  clear hV hh HF
  have HPV := Lib.hid (show ∀ b, P b → b < V.heap.size from fun b hb => Nat.lt_of_lt_of_le (HP.out b hb) HB.out.below.size)
  have HM0 := Lib.hid (MS.start (HM.out.keep (fun _ h => h) (fun p hp => HB.out.below.cell (HP.out _ hp))))
  obtain ⟨y0, y1, y2, y3⟩ := HB.out.cells
  obtain ⟨r1, r2, r3, r4⟩ := HRD.out V HB.out.below
  have R1 := Lib.hid r1
  have r40 := r4 0 _ rfl
  rw [Nat.add_zero] at r40
  have r41 := r4 1 _ rfl
  clear r1 r4
  have r5 := R1.out d x hx
  have r6 := R1.out dp y hy
  have hdI : (d : Int) < ws.length := by omega
  have hdpI : (dp : Int) < ws.length := by omega
  obtain ⟨x0, x1, x2, x3⟩ := HB.out.room
  obtain ⟨-, -, -, u3, u4, u5, u6⟩ := HB.out.frees
  go_wp2
  obtain ⟨hT, hmc, hbel⟩ := ms_end HP.out HB.out HM0.out
  exact bodyPost_ret (v := .agg #[.int .i64 n, .slice (some ⟨b1, o1, none⟩) ws.length c1, .slice (some ⟨b2, o2, none⟩) ls.length c2, .slice (some ⟨b3, o3, none⟩) os.length c3]) (results_cell_row rfl _ _ (h + 1) 31 _ (0, 0) _ rfl hT Tryd.underlying31 rfl (by kernel_rfl)) rfl ⟨_, rfl, hmc, hbel⟩


set_option maxHeartbeats 4000000 in
set_option maxRecDepth 100000 in
theorem ref6e (n p k m d dp x y : Nat) (v : Value) (ws ls : List Int) (os : List (List Int)) (w : World) {P : Nat → Prop} (hP : ∀ b, P b → b < w.heap.size) (h : Mc w P n v ws ls os)
    (hh : RefAt n p ws ls os) (hl : ls[p]? = some 6) (ho : os[p]? = some [(k : Int), (m : Int)]) (_hkk : k ≤ 100) (hd : d = n + k) (hdp : dp = n + p) (hx : ws[d]? = some (x : Int)) (hy : ws[dp]? = some (y : Int)) (hdw : d < ws.length) (hdpw : dp < ws.length) (h0 : x ≠ 0) (hb : x = y) (hk : k < p) :
    Calls Tryd.prog 9 #[v, .int .i64 p] w fun e w' => ∃ v', e = .returned v' ∧ Mc w' (New P w w') n v' ws ls os ∧ Below w.heap.size w w' := by
  obtain ⟨hn, hp, h1, hwl, hls, hos⟩ := hh
  have hp2 : p < ls.length := (List.getElem?_eq_some_iff.1 hl).1
  have hp3 : p < os.length := (List.getElem?_eq_some_iff.1 ho).1
  have hp2I : (p : Int) < ls.length := by omega
  have hp3I : (p : Int) < os.length := by omega
  have HM := Lib.hid h
  obtain ⟨b1, o1, c1, b2, o2, c2, b3, o3, c3, bp, op, cp, rfl, hread⟩ := mc_open hP h h1 hl ho (by simp)
  obtain ⟨wv, av, ov, e, k1, k2, k3⟩ := h
  injection e with e
  simp at e
  obtain ⟨rfl, rfl, rfl⟩ := e
  have HF := Lib.hid (MBox.made (x3 := .slice (some ⟨b3, o3, none⟩) os.length c3) (n := n) w _ (k1.nums hP) (k2.nums hP) rfl)
  have HP := Lib.hid hP
  have HRD := Lib.hid hread
  clear hP hread k1 k2 k3
  have hwr1 : IntKind.i64.wrap ((n : Int) + (k : Int)) = (d : Int) := by rw [show (d : Int) = (n : Int) + (k : Int) by omega]; exact IntWalk.i64_in _ (by omega)
  have hwr3 : IntKind.i64.wrap ((n : Int) + (p : Int)) = (dp : Int) := by rw [show (dp : Int) = (n : Int) + (p : Int) by omega]; exact IntWalk.i64_in _ (by omega)
  have e1 : ((x : Int) == 0) = false := by simp; omega
  have e2 : ¬ (y : Int) < (x : Int) := by omega
  have e3 : ((x : Int) == (y : Int)) = true := by simp; omega
  have e4 : ¬ (p : Int) ≤ (k : Int) := by omega
  clear h0 hb hk hd hdp
  go_enter Tryd.func9, Tryd.ntmps9
  go_upto_region 1 with fail
  obtain ⟨V, hV⟩ : ∃ V, V = (w.alloc (.cells #[.int .i64 n, .slice (some ⟨b1, o1, none⟩) ws.length c1, .slice (some ⟨b2, o2, none⟩) ls.length c2, .slice (some ⟨b3, o3, none⟩) os.length c3] 31)).alloc (.cells #[.int .i64 0, .slice none 0 0, .slice none 0 0, .slice none 0 0] 31) := ⟨_, rfl⟩
  rw [← hV] at HF
  rw [← hV]
  obtain ⟨h, hh⟩ : ∃ h, h = w.heap.size := ⟨_, rfl⟩
  have HB := Lib.hid (show MBox w V h n _ _ _ ws ls by rw [hh]; exact HF.out)
  rw [← hh]
  clear hV hh HF
  have HPV := Lib.hid (show ∀ b, P b → b < V.heap.size from fun b hb => Nat.lt_of_lt_of_le (HP.out b hb) HB.out.below.size)
  have HM0 := Lib.hid (MS.start (HM.out.keep (fun _ h => h) (fun p hp => HB.out.below.cell (HP.out _ hp))))
  obtain ⟨y0, y1, y2, y3⟩ := HB.out.cells
  obtain ⟨r1, r2, r3, r4⟩ := HRD.out V HB.out.below
  have R1 := Lib.hid r1
  have r40 := r4 0 _ rfl
  rw [Nat.add_zero] at r40
  have r41 := r4 1 _ rfl
  clear r1 r4
  have r5 := R1.out d x hx
  have r6 := R1.out dp y hy
  have hdI : (d : Int) < ws.length := by omega
  have hdpI : (dp : Int) < ws.length := by omega
  obtain ⟨x0, x1, x2, x3⟩ := HB.out.room
  obtain ⟨-, -, -, u3, u4, u5, u6⟩ := HB.out.frees
  go_wp2
  obtain ⟨hT, hmc, hbel⟩ := ms_end HP.out HB.out HM0.out
  exact bodyPost_ret (v := .agg #[.int .i64 n, .slice (some ⟨b1, o1, none⟩) ws.length c1, .slice (some ⟨b2, o2, none⟩) ls.length c2, .slice (some ⟨b3, o3, none⟩) os.length c3]) (results_cell_row rfl _ _ (h + 1) 31 _ (0, 0) _ rfl hT Tryd.underlying31 rfl (by kernel_rfl)) rfl ⟨_, rfl, hmc, hbel⟩


set_option maxHeartbeats 4000000 in
set_option maxRecDepth 100000 in
theorem ref7 (n p k m : Nat) (v : Value) (ws ls : List Int) (os : List (List Int)) (w : World) {P : Nat → Prop} (hP : ∀ b, P b → b < w.heap.size) (h : Mc w P n v ws ls os)
    (hh : RefAt n p ws ls os) (hl : ls[p]? = some 7) (ho : os[p]? = some [(k : Int), (m : Int)]) :
    Calls Tryd.prog 9 #[v, .int .i64 p] w fun e w' => ∃ v', e = .returned v' ∧ Mc w' (New P w w') n v' ws (ls.set p 8) os ∧ Below w.heap.size w w' := by
  obtain ⟨hn, hp, h1, hwl, hls, hos⟩ := hh
  have hp2 : p < ls.length := (List.getElem?_eq_some_iff.1 hl).1
  have hp3 : p < os.length := (List.getElem?_eq_some_iff.1 ho).1
  have hp2I : (p : Int) < ls.length := by omega
  have hp3I : (p : Int) < os.length := by omega
  have HM := Lib.hid h
  obtain ⟨b1, o1, c1, b2, o2, c2, b3, o3, c3, bp, op, cp, rfl, hread⟩ := mc_open hP h h1 hl ho (by simp)
  obtain ⟨wv, av, ov, e, k1, k2, k3⟩ := h
  injection e with e
  simp at e
  obtain ⟨rfl, rfl, rfl⟩ := e
  have HF := Lib.hid (MBox.made (x3 := .slice (some ⟨b3, o3, none⟩) os.length c3) (n := n) w _ (k1.nums hP) (k2.nums hP) rfl)
  have HP := Lib.hid hP
  have HRD := Lib.hid hread
  clear hP hread k1 k2 k3
  go_enter Tryd.func9, Tryd.ntmps9
  go_upto_region 1 with fail
  obtain ⟨V, hV⟩ : ∃ V, V = (w.alloc (.cells #[.int .i64 n, .slice (some ⟨b1, o1, none⟩) ws.length c1, .slice (some ⟨b2, o2, none⟩) ls.length c2, .slice (some ⟨b3, o3, none⟩) os.length c3] 31)).alloc (.cells #[.int .i64 0, .slice none 0 0, .slice none 0 0, .slice none 0 0] 31) := ⟨_, rfl⟩
  rw [← hV] at HF
  rw [← hV]
  obtain ⟨h, hh⟩ : ∃ h, h = w.heap.size := ⟨_, rfl⟩
  have HB := Lib.hid (show MBox w V h n _ _ _ ws ls by rw [hh]; exact HF.out)
  rw [← hh]
  clear hV hh HF
  have HPV := Lib.hid (show ∀ b, P b → b < V.heap.size from fun b hb => Nat.lt_of_lt_of_le (HP.out b hb) HB.out.below.size)
  have HM0 := Lib.hid (MS.start (HM.out.keep (fun _ h => h) (fun p hp => HB.out.below.cell (HP.out _ hp))))
  obtain ⟨y0, y1, y2, y3⟩ := HB.out.cells
  obtain ⟨r1, r2, r3, r4⟩ := HRD.out V HB.out.below
  have R1 := Lib.hid r1
  have r40 := r4 0 _ rfl
  rw [Nat.add_zero] at r40
  have r41 := r4 1 _ rfl
  clear r1 r4
  go_wp2_with (go_at_call 15; (with_reducible refine (ms_to HPV.out HM0.out p 8 (by simpa using hp2) (by simpa using hls)).mono ?_); rintro e w1 ⟨v1, rfl, hm⟩; have HM1 := Lib.hid hm; clear hm; obtain ⟨B1, m1, d1, B2, m2, d2, B3, m3, d3, rfl⟩ := HM1.out.form; have HG := Lib.hid (HB.out.on HM1.out.below); obtain ⟨x0, x1, x2, x3⟩ := HG.out.room; obtain ⟨-, -, -, u3, u4, u5, u6⟩ := HG.out.frees)
  obtain ⟨hT, hmc, hbel⟩ := ms_end HP.out HB.out HM1.out
  exact bodyPost_ret (v := .agg #[.int .i64 n, .slice B1 m1 d1, .slice B2 m2 d2, .slice B3 m3 d3]) (results_cell_row rfl _ _ (h + 1) 31 _ (0, 0) _ rfl hT Tryd.underlying31 rfl (by kernel_rfl)) rfl ⟨_, rfl, hmc, hbel⟩


set_option maxHeartbeats 4000000 in
set_option maxRecDepth 100000 in
theorem ref8 (n p k m d : Nat) (v : Value) (ws ls : List Int) (os : List (List Int)) (w : World) {P : Nat → Prop} (hP : ∀ b, P b → b < w.heap.size) (h : Mc w P n v ws ls os)
    (hh : RefAt n p ws ls os) (hl : ls[p]? = some 8) (ho : os[p]? = some [(k : Int), (m : Int)]) (hd : d = n + p) (hdw : d < ws.length) :
    Calls Tryd.prog 9 #[v, .int .i64 p] w fun e w' => ∃ v', e = .returned v' ∧ Mc w' (New P w w') n v' (ws.set d 0) (ls.set p 1) (os.set p [0, 0]) ∧ Below w.heap.size w w' := by
  obtain ⟨hn, hp, h1, hwl, hls, hos⟩ := hh
  have hp2 : p < ls.length := (List.getElem?_eq_some_iff.1 hl).1
  have hp3 : p < os.length := (List.getElem?_eq_some_iff.1 ho).1
  have hp2I : (p : Int) < ls.length := by omega
  have hp3I : (p : Int) < os.length := by omega
  have HM := Lib.hid h
  obtain ⟨b1, o1, c1, b2, o2, c2, b3, o3, c3, bp, op, cp, rfl, hread⟩ := mc_open hP h h1 hl ho (by simp)
  obtain ⟨wv, av, ov, e, k1, k2, k3⟩ := h
  injection e with e
  simp at e
  obtain ⟨rfl, rfl, rfl⟩ := e
  have HF := Lib.hid (MBox.made (x3 := .slice (some ⟨b3, o3, none⟩) os.length c3) (n := n) w _ (k1.nums hP) (k2.nums hP) rfl)
  have HP := Lib.hid hP
  have HRD := Lib.hid hread
  clear hP hread k1 k2 k3
  have hwr1 : IntKind.i64.wrap ((n : Int) + (p : Int)) = (d : Int) := by rw [show (d : Int) = (n : Int) + (p : Int) by omega]; exact IntWalk.i64_in _ (by omega)
  clear hd
  go_enter Tryd.func9, Tryd.ntmps9
  go_upto_region 1 with fail
  obtain ⟨V, hV⟩ : ∃ V, V = (w.alloc (.cells #[.int .i64 n, .slice (some ⟨b1, o1, none⟩) ws.length c1, .slice (some ⟨b2, o2, none⟩) ls.length c2, .slice (some ⟨b3, o3, none⟩) os.length c3] 31)).alloc (.cells #[.int .i64 0, .slice none 0 0, .slice none 0 0, .slice none 0 0] 31) := ⟨_, rfl⟩
  rw [← hV] at HF
  rw [← hV]
  obtain ⟨h, hh⟩ : ∃ h, h = w.heap.size := ⟨_, rfl⟩
  have HB := Lib.hid (show MBox w V h n _ _ _ ws ls by rw [hh]; exact HF.out)
  rw [← hh]
  clear hV hh HF
  have HPV := Lib.hid (show ∀ b, P b → b < V.heap.size from fun b hb => Nat.lt_of_lt_of_le (HP.out b hb) HB.out.below.size)
  have HM0 := Lib.hid (MS.start (HM.out.keep (fun _ h => h) (fun p hp => HB.out.below.cell (HP.out _ hp))))
  obtain ⟨y0, y1, y2, y3⟩ := HB.out.cells
  obtain ⟨r1, r2, r3, r4⟩ := HRD.out V HB.out.below
  have R1 := Lib.hid r1
  have r40 := r4 0 _ rfl
  rw [Nat.add_zero] at r40
  have r41 := r4 1 _ rfl
  clear r1 r4
  go_wp2_with (first | (go_at_call 16; (with_reducible refine (ms_word HPV.out HM0.out d 0 hdw hwl).mono ?_); rintro e w1 ⟨v1, rfl, hm⟩; have HM1 := Lib.hid hm; clear hm) | (go_at_call 17; (with_reducible refine (ms_own20 HPV.out HM1.out p 0 _ _ ho hos).mono ?_); rintro e w2 ⟨v2, rfl, hm⟩; have HM2 := Lib.hid hm; clear hm) | (go_at_call 17; (with_reducible refine (ms_own21 HPV.out HM2.out p 0 _ _ (set_get ho) (by simpa using hos)).mono ?_); rintro e w3 ⟨v3, rfl, hm⟩; have HM3 := Lib.hid hm; clear hm) | (go_at_call 15; (with_reducible refine (ms_to HPV.out HM3.out p 1 (by simpa using hp2) (by simpa using hls)).mono ?_); rintro e w4 ⟨v4, rfl, hm⟩; have HM4 := Lib.hid hm; clear hm; obtain ⟨B1, m1, d1, B2, m2, d2, B3, m3, d3, rfl⟩ := HM4.out.form; have HG := Lib.hid (HB.out.on HM4.out.below); obtain ⟨x0, x1, x2, x3⟩ := HG.out.room; obtain ⟨-, -, -, u3, u4, u5, u6⟩ := HG.out.frees))
  obtain ⟨hT, hmc, hbel⟩ := ms_end HP.out HB.out HM4.out
  rw [List.set_set] at hmc
  exact bodyPost_ret (v := .agg #[.int .i64 n, .slice B1 m1 d1, .slice B2 m2 d2, .slice B3 m3 d3]) (results_cell_row rfl _ _ (h + 1) 31 _ (0, 0) _ rfl hT Tryd.underlying31 rfl (by kernel_rfl)) rfl ⟨_, rfl, hmc, hbel⟩

end Go.Proofs.YtgkicabfmkghmaaDoor.Bakery
