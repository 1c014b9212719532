/-
  The reference's step of the lock that who is alone has soon, line by line, on.
-/
import Derived.Test.YtjnfecaghkgdpaaDoorFastRef
namespace Go.Proofs.YtjnfecaghkgdpaaDoor.Fast
open Go.RowKit

theorem held4 {V W : World} (hb : Below V.heap.size V W) {a b c d : Addr} {u1 u2 u3 u4 : Value} (h : V.cell? a = some u1 ∧ V.cell? b = some u2 ∧ V.cell? c = some u3 ∧ V.cell? d = some u4) :
    W.cell? a = some u1 ∧ W.cell? b = some u2 ∧ W.cell? c = some u3 ∧ W.cell? d = some u4 :=
  ⟨(hb.cell (lt_of_cell h.1)).trans h.1, (hb.cell (lt_of_cell h.2.1)).trans h.2.1, (hb.cell (lt_of_cell h.2.2.1)).trans h.2.2.1, (hb.cell (lt_of_cell h.2.2.2)).trans h.2.2.2⟩

set_option maxHeartbeats 4000000 in
set_option maxRecDepth 100000 in
theorem ref7g (n p k x p1 : Nat) (v : Value) (ws ls : List Int) (os : List (List Int)) (w : World) {P : Nat → Prop} (hP : ∀ b, P b → b < w.heap.size) (h : Mc w P n v ws ls os)
    (hh : RefAt n p ws ls os) (hl : ls[p]? = some 7) (ho : os[p]? = some [(k : Int)]) (hx : ws[0]? = some (x : Int)) (hp1 : p1 = p + 1) (hc : x ≠ p1) :
    Calls Tryd.prog 9 #[v, .int .i64 p] w fun e w' => ∃ v', e = .returned v' ∧ Mc w' (New P w w') n v' ws (ls.set p 8) os ∧ Below w.heap.size w w' := by
  obtain ⟨hn, hp, h1, hwl, hls, hos⟩ := hh
  have hp2 : p < ls.length := (List.getElem?_eq_some_iff.1 hl).1
  have hp3 : p < os.length := (List.getElem?_eq_some_iff.1 ho).1
  have hp2I : (p : Int) < ls.length := by omega
  have hp3I : (p : Int) < os.length := by omega
  have HM := Lib.hid h
  obtain ⟨b1, o1, c1, b2, o2, c2, b3, o3, c3, bp, op, cp, rfl, hread⟩ := mc_open hP h h1 hl ho (by simp)
  obtain ⟨wv, av, ov, e, k1, k2, k3⟩ := h
  injection e with e
  simp at e
  obtain ⟨rfl, rfl, rfl⟩ := e
  have HF := Lib.hid (MBox.made (x3 := .slice (some ⟨b3, o3, none⟩) os.length c3) (n := n) w _ (k1.nums hP) (k2.nums hP) rfl)
  have HP := Lib.hid hP
  have HRD := Lib.hid hread
  clear hP hread k1 k2 k3
  have hwp : IntKind.i64.wrap ((p : Int) + 1) = (p1 : Int) := by rw [show (p1 : Int) = (p : Int) + 1 by omega]; exact IntWalk.i64_in _ (by omega)
  have hcI : ((x : Int) != (p1 : Int)) = true := by simp; omega
  have hcN : (x != p1) = true := by simp; omega
  clear hc hp1
  go_enter Tryd.func9, Tryd.ntmps9
  go_upto_region 1 with fail
  obtain ⟨V, hV⟩ : ∃ V, V = (w.alloc (.cells #[.int .i64 n, .slice (some ⟨b1, o1, none⟩) ws.length c1, .slice (some ⟨b2, o2, none⟩) ls.length c2, .slice (some ⟨b3, o3, none⟩) os.length c3] 31)).alloc (.cells #[.int .i64 0, .slice none 0 0, .slice none 0 0, .slice none 0 0] 31) := ⟨_, rfl⟩
  rw [← hV] at HF
  rw [← hV]
  obtain ⟨h, hh⟩ : ∃ h, h = w.heap.size := ⟨_, rfl⟩
  have HB := Lib.hid (show MBox w V h n _ _ _ ws ls by rw [hh]; exact HF.out)
  rw [← hh]
  clear hV hh HF
  have HPV := Lib.hid (show ∀ b, P b → b < V.heap.size from fun b hb => Nat.lt_of_lt_of_le (HP.out b hb) HB.out.below.size)
  have HM0 := Lib.hid (MS.start (HM.out.keep (fun _ h => h) (fun p hp => HB.out.below.cell (HP.out _ hp))))
  obtain ⟨y0, y1, y2, y3⟩ := HB.out.cells
  obtain ⟨r1, r2, r3, r4⟩ := HRD.out V HB.out.below
  have R1 := Lib.hid r1
  have r40 := r4 0 _ rfl
  rw [Nat.add_zero] at r40
  clear r1 r4
  have r5 := R1.out 0 x hx
  rw [Nat.add_zero] at r5
  have h2I : (0 : Int) < ws.length := by omega
  go_wp2_with fail
  go_region_with (first | (go_at_call 17; (with_reducible refine (ms_goes HPV.out (ms_drew HM0.out) p true 12 7 (by simpa using hp2) (by simpa using hls) hl (by omega) (by omega)).mono ?_); rintro e w1 ⟨v1, rfl, hm⟩; have HM1 := Lib.hid hm; clear hm; obtain ⟨B1, m1, d1, B2, m2, d2, B3, m3, d3, rfl⟩ := HM1.out.form; have HG := Lib.hid (HB.out.on HM1.out.below); obtain ⟨x0, x1, x2, x3⟩ := HG.out.room; obtain ⟨-, -, -, u3, u4, u5, u6⟩ := HG.out.frees) | (go_at_call 17; (with_reducible refine (ms_goes HPV.out (ms_drewN HM0.out _) p true 12 7 (by simpa using hp2) (by simpa using hls) hl (by omega) (by omega)).mono ?_); rintro e w1 ⟨v1, rfl, hm⟩; have HM1 := Lib.hid hm; clear hm; obtain ⟨B1, m1, d1, B2, m2, d2, B3, m3, d3, rfl⟩ := HM1.out.form; have HG := Lib.hid (HB.out.on HM1.out.below); obtain ⟨x0, x1, x2, x3⟩ := HG.out.room; obtain ⟨-, -, -, u3, u4, u5, u6⟩ := HG.out.frees))
  all_goals
    go_wp2
    obtain ⟨hT, hmc, hbel⟩ := ms_end HP.out HB.out HM1.out
    exact bodyPost_ret (v := .agg #[.int .i64 n, .slice B1 m1 d1, .slice B2 m2 d2, .slice B3 m3 d3]) (results_cell_row rfl _ _ (h + 1) 31 _ (0, 0) _ rfl hT Tryd.underlying31 rfl (by kernel_rfl)) rfl ⟨_, rfl, hmc, hbel⟩


set_option maxHeartbeats 4000000 in
set_option maxRecDepth 100000 in
theorem ref7s (n p k x p1 : Nat) (v : Value) (ws ls : List Int) (os : List (List Int)) (w : World) {P : Nat → Prop} (hP : ∀ b, P b → b < w.heap.size) (h : Mc w P n v ws ls os)
    (hh : RefAt n p ws ls os) (hl : ls[p]? = some 7) (ho : os[p]? = some [(k : Int)]) (hx : ws[0]? = some (x : Int)) (hp1 : p1 = p + 1) (hc : x = p1) :
    Calls Tryd.prog 9 #[v, .int .i64 p] w fun e w' => ∃ v', e = .returned v' ∧ Mc w' (New P w w') n v' ws (ls.set p 12) os ∧ Below w.heap.size w w' := by
  obtain ⟨hn, hp, h1, hwl, hls, hos⟩ := hh
  have hp2 : p < ls.length := (List.getElem?_eq_some_iff.1 hl).1
  have hp3 : p < os.length := (List.getElem?_eq_some_iff.1 ho).1
  have hp2I : (p : Int) < ls.length := by omega
  have hp3I : (p : Int) < os.length := by omega
  have HM := Lib.hid h
  obtain ⟨b1, o1, c1, b2, o2, c2, b3, o3, c3, bp, op, cp, rfl, hread⟩ := mc_open hP h h1 hl ho (by simp)
  obtain ⟨wv, av, ov, e, k1, k2, k3⟩ := h
  injection e with e
  simp at e
  obtain ⟨rfl, rfl, rfl⟩ := e
  have HF := Lib.hid (MBox.made (x3 := .slice (some ⟨b3, o3, none⟩) os.length c3) (n := n) w _ (k1.nums hP) (k2.nums hP) rfl)
  have HP := Lib.hid hP
  have HRD := Lib.hid hread
  clear hP hread k1 k2 k3
  have hwp : IntKind.i64.wrap ((p : Int) + 1) = (p1 : Int) := by rw [show (p1 : Int) = (p : Int) + 1 by omega]; exact IntWalk.i64_in _ (by omega)
  have hcI : ((x : Int) != (p1 : Int)) = false := by simp; omega
  have hcN : (x != p1) = false := by simp; omega
  clear hc hp1
  go_enter Tryd.func9, Tryd.ntmps9
  go_upto_region 1 with fail
  obtain ⟨V, hV⟩ : ∃ V, V = (w.alloc (.cells #[.int .i64 n, .slice (some ⟨b1, o1, none⟩) ws.length c1, .slice (some ⟨b2, o2, none⟩) ls.length c2, .slice (some ⟨b3, o3, none⟩) os.length c3] 31)).alloc (.cells #[.int .i64 0, .slice none 0 0, .slice none 0 0, .slice none 0 0] 31) := ⟨_, rfl⟩
  rw [← hV] at HF
  rw [← hV]
  obtain ⟨h, hh⟩ : ∃ h, h = w.heap.size := ⟨_, rfl⟩
  have HB := Lib.hid (show MBox w V h n _ _ _ ws ls by rw [hh]; exact HF.out)
  rw [← hh]
  clear hV hh HF
  have HPV := Lib.hid (show ∀ b, P b → b < V.heap.size from fun b hb => Nat.lt_of_lt_of_le (HP.out b hb) HB.out.below.size)
  have HM0 := Lib.hid (MS.start (HM.out.keep (fun _ h => h) (fun p hp => HB.out.below.cell (HP.out _ hp))))
  obtain ⟨y0, y1, y2, y3⟩ := HB.out.cells
  obtain ⟨r1, r2, r3, r4⟩ := HRD.out V HB.out.below
  have R1 := Lib.hid r1
  have r40 := r4 0 _ rfl
  rw [Nat.add_zero] at r40
  clear r1 r4
  have r5 := R1.out 0 x hx
  rw [Nat.add_zero] at r5
  have h2I : (0 : Int) < ws.length := by omega
  go_wp2_with fail
  go_region_with (first | (go_at_call 17; (with_reducible refine (ms_goes HPV.out (ms_drew HM0.out) p false 12 7 (by simpa using hp2) (by simpa using hls) hl (by omega) (by omega)).mono ?_); rintro e w1 ⟨v1, rfl, hm⟩; have HM1 := Lib.hid hm; clear hm; obtain ⟨B1, m1, d1, B2, m2, d2, B3, m3, d3, rfl⟩ := HM1.out.form; have HG := Lib.hid (HB.out.on HM1.out.below); obtain ⟨x0, x1, x2, x3⟩ := HG.out.room; obtain ⟨-, -, -, u3, u4, u5, u6⟩ := HG.out.frees) | (go_at_call 17; (with_reducible refine (ms_goes HPV.out (ms_drewN HM0.out _) p false 12 7 (by simpa using hp2) (by simpa using hls) hl (by omega) (by omega)).mono ?_); rintro e w1 ⟨v1, rfl, hm⟩; have HM1 := Lib.hid hm; clear hm; obtain ⟨B1, m1, d1, B2, m2, d2, B3, m3, d3, rfl⟩ := HM1.out.form; have HG := Lib.hid (HB.out.on HM1.out.below); obtain ⟨x0, x1, x2, x3⟩ := HG.out.room; obtain ⟨-, -, -, u3, u4, u5, u6⟩ := HG.out.frees))
  all_goals
    go_wp2
    obtain ⟨hT, hmc, hbel⟩ := ms_end HP.out HB.out HM1.out
    exact bodyPost_ret (v := .agg #[.int .i64 n, .slice B1 m1 d1, .slice B2 m2 d2, .slice B3 m3 d3]) (results_cell_row rfl _ _ (h + 1) 31 _ (0, 0) _ rfl hT Tryd.underlying31 rfl (by kernel_rfl)) rfl ⟨_, rfl, hmc, hbel⟩


set_option maxHeartbeats 4000000 in
set_option maxRecDepth 100000 in
theorem ref8 (n p k d : Nat) (v : Value) (ws ls : List Int) (os : List (List Int)) (w : World) {P : Nat → Prop} (hP : ∀ b, P b → b < w.heap.size) (h : Mc w P n v ws ls os)
    (hh : RefAt n p ws ls os) (hl : ls[p]? = some 8) (ho : os[p]? = some [(k : Int)]) (hd : d = 2 + p) (hdw : d < ws.length) :
    Calls Tryd.prog 9 #[v, .int .i64 p] w fun e w' => ∃ v', e = .returned v' ∧ Mc w' (New P w w') n v' (ws.set d 0) (ls.set p 9) (os.set p [0]) ∧ Below w.heap.size w w' := by
  obtain ⟨hn, hp, h1, hwl, hls, hos⟩ := hh
  have hp2 : p < ls.length := (List.getElem?_eq_some_iff.1 hl).1
  have hp3 : p < os.length := (List.getElem?_eq_some_iff.1 ho).1
  have hp2I : (p : Int) < ls.length := by omega
  have hp3I : (p : Int) < os.length := by omega
  have HM := Lib.hid h
  obtain ⟨b1, o1, c1, b2, o2, c2, b3, o3, c3, bp, op, cp, rfl, hread⟩ := mc_open hP h h1 hl ho (by simp)
  obtain ⟨wv, av, ov, e, k1, k2, k3⟩ := h
  injection e with e
  simp at e
  obtain ⟨rfl, rfl, rfl⟩ := e
  have HF := Lib.hid (MBox.made (x3 := .slice (some ⟨b3, o3, none⟩) os.length c3) (n := n) w _ (k1.nums hP) (k2.nums hP) rfl)
  have HP := Lib.hid hP
  have HRD := Lib.hid hread
  clear hP hread k1 k2 k3
  have hwr1 : IntKind.i64.wrap (2 + (p : Int)) = (d : Int) := by rw [show (d : Int) = 2 + (p : Int) by omega]; exact IntWalk.i64_in _ (by omega)
  clear hd
  go_enter Tryd.func9, Tryd.ntmps9
  go_upto_region 1 with fail
  obtain ⟨V, hV⟩ : ∃ V, V = (w.alloc (.cells #[.int .i64 n, .slice (some ⟨b1, o1, none⟩) ws.length c1, .slice (some ⟨b2, o2, none⟩) ls.length c2, .slice (some ⟨b3, o3, none⟩) os.length c3] 31)).alloc (.cells #[.int .i64 0, .slice none 0 0, .slice none 0 0, .slice none 0 0] 31) := ⟨_, rfl⟩
  rw [← hV] at HF
  rw [← hV]
  obtain ⟨h, hh⟩ : ∃ h, h = w.heap.size := ⟨_, rfl⟩
  have HB := Lib.hid (show MBox w V h n _ _ _ ws ls by rw [hh]; exact HF.out)
  rw [← hh]
  clear hV hh HF
  have HPV := Lib.hid (show ∀ b, P b → b < V.heap.size from fun b hb => Nat.lt_of_lt_of_le (HP.out b hb) HB.out.below.size)
  have HM0 := Lib.hid (MS.start (HM.out.keep (fun _ h => h) (fun p hp => HB.out.below.cell (HP.out _ hp))))
  obtain ⟨y0, y1, y2, y3⟩ := HB.out.cells
  obtain ⟨r1, r2, r3, r4⟩ := HRD.out V HB.out.below
  have R1 := Lib.hid r1
  have r40 := r4 0 _ rfl
  rw [Nat.add_zero] at r40
  clear r1 r4
  go_wp2_with (first | (go_at_call 16; (with_reducible refine (ms_word HPV.out HM0.out d 0 hdw hwl).mono ?_); rintro e w1 ⟨v1, rfl, hm⟩; have HM1 := Lib.hid hm; clear hm) | (go_at_call 18; (with_reducible refine (ms_own10 HPV.out HM1.out p 0 _ ho hos).mono ?_); rintro e w2 ⟨v2, rfl, hm⟩; have HM2 := Lib.hid hm; clear hm) | (go_at_call 15; (with_reducible refine (ms_to HPV.out HM2.out p 9 (by simpa using hp2) (by simpa using hls)).mono ?_); rintro e w3 ⟨v3, rfl, hm⟩; have HM3 := Lib.hid hm; clear hm; obtain ⟨B1, m1, d1, B2, m2, d2, B3, m3, d3, rfl⟩ := HM3.out.form; have HG := Lib.hid (HB.out.on HM3.out.below); obtain ⟨x0, x1, x2, x3⟩ := HG.out.room; obtain ⟨-, -, -, u3, u4, u5, u6⟩ := HG.out.frees))
  obtain ⟨hT, hmc, hbel⟩ := ms_end HP.out HB.out HM3.out
  exact bodyPost_ret (v := .agg #[.int .i64 n, .slice B1 m1 d1, .slice B2 m2 d2, .slice B3 m3 d3]) (results_cell_row rfl _ _ (h + 1) 31 _ (0, 0) _ rfl hT Tryd.underlying31 rfl (by kernel_rfl)) rfl ⟨_, rfl, hmc, hbel⟩


set_option maxHeartbeats 4000000 in
set_option maxRecDepth 100000 in
theorem ref9n (n p k d c k1 : Nat) (v : Value) (ws ls : List Int) (os : List (List Int)) (w : World) {P : Nat → Prop} (hP : ∀ b, P b → b < w.heap.size) (h : Mc w P n v ws ls os)
    (hh : RefAt n p ws ls os) (hl : ls[p]? = some 9) (ho : os[p]? = some [(k : Int)]) (hd : d = 2 + k) (hdw : d < ws.length) (hx : ws[d]? = some (c : Int)) (hc : c = 0) (hk1 : k1 = k + 1) (hkn : k1 = n) :
    Calls Tryd.prog 9 #[v, .int .i64 p] w fun e w' => ∃ v', e = .returned v' ∧ Mc w' (New P w w') n v' ws (ls.set p 10) (os.set p [(k1 : Int)]) ∧ Below w.heap.size w w' := by
  obtain ⟨hn, hp, h1, hwl, hls, hos⟩ := hh
  have hp2 : p < ls.length := (List.getElem?_eq_some_iff.1 hl).1
  have hp3 : p < os.length := (List.getElem?_eq_some_iff.1 ho).1
  have hp2I : (p : Int) < ls.length := by omega
  have hp3I : (p : Int) < os.length := by omega
  have HM := Lib.hid h
  obtain ⟨b1, o1, c1, b2, o2, c2, b3, o3, c3, bp, op, cp, rfl, hread⟩ := mc_open hP h h1 hl ho (by simp)
  obtain ⟨wv, av, ov, e, k1, k2, k3⟩ := h
  injection e with e
  simp at e
  obtain ⟨rfl, rfl, rfl⟩ := e
  have HF := Lib.hid (MBox.made (x3 := .slice (some ⟨b3, o3, none⟩) os.length c3) (n := n) w _ (k1.nums hP) (k2.nums hP) rfl)
  have HP := Lib.hid hP
  have HRD := Lib.hid hread
  clear hP hread k1 k2 k3
  have hwr1 : IntKind.i64.wrap (2 + (k : Int)) = (d : Int) := by rw [show (d : Int) = 2 + (k : Int) by omega]; exact IntWalk.i64_in _ (by omega)
  have hwr2 : IntKind.i64.wrap ((k : Int) + 1) = (k1 : Int) := by rw [show (k1 : Int) = (k : Int) + 1 by omega]; exact IntWalk.i64_in _ (by omega)
  have hcI : ((c : Int) != 0) = false := by simp; omega
  have hen : ((k1 : Int) == (n : Int)) = true := by simp; omega
  have henn : (k1 == n) = true := by simp; omega
  clear hkn hk1 hd hc
  go_enter Tryd.func9, Tryd.ntmps9
  go_upto_region 1 with fail
  obtain ⟨V, hV⟩ : ∃ V, V = (w.alloc (.cells #[.int .i64 n, .slice (some ⟨b1, o1, none⟩) ws.length c1, .slice (some ⟨b2, o2, none⟩) ls.length c2, .slice (some ⟨b3, o3, none⟩) os.length c3] 31)).alloc (.cells #[.int .i64 0, .slice none 0 0, .slice none 0 0, .slice none 0 0] 31) := ⟨_, rfl⟩
  rw [← hV] at HF
  rw [← hV]
  obtain ⟨h, hh⟩ : ∃ h, h = w.heap.size := ⟨_, rfl⟩
  have HB := Lib.hid (show MBox w V h n _ _ _ ws ls by rw [hh]; exact HF.out)
  rw [← hh]
  clear hV hh HF
  have HPV := Lib.hid (show ∀ b, P b → b < V.heap.size from fun b hb => Nat.lt_of_lt_of_le (HP.out b hb) HB.out.below.size)
  have HM0 := Lib.hid (MS.start (HM.out.keep (fun _ h => h) (fun p hp => HB.out.below.cell (HP.out _ hp))))
  obtain ⟨y0, y1, y2, y3⟩ := HB.out.cells
  obtain ⟨r1, r2, r3, r4⟩ := HRD.out V HB.out.below
  have R1 := Lib.hid r1
  have r40 := r4 0 _ rfl
  rw [Nat.add_zero] at r40
  clear r1 r4
  have r5 := R1.out d c hx
  have hdI : (d : Int) < ws.length := by omega
  go_wp2_with fail
  have HS := Lib.hid (show (fun W : World => W.cell? ⟨h, 0, none⟩ = some (.int .i64 n) ∧ W.cell? ⟨h, 1, none⟩ = some (.slice (some ⟨b1, o1, none⟩) ws.length c1) ∧ W.cell? ⟨h, 2, none⟩ = some (.slice (some ⟨b2, o2, none⟩) ls.length c2) ∧ W.cell? ⟨h, 3, none⟩ = some (.slice (some ⟨b3, o3, none⟩) os.length c3)) V from ⟨y0, y1, y2, y3⟩)
  clear y0 y1 y2 y3 r2 r3 r40 r5
  go_region_held3 (fun W : World => W.cell? ⟨h, 0, none⟩ = some (.int .i64 n) ∧ W.cell? ⟨h, 1, none⟩ = some (.slice (some ⟨b1, o1, none⟩) ws.length c1) ∧ W.cell? ⟨h, 2, none⟩ = some (.slice (some ⟨b2, o2, none⟩) ls.length c2) ∧ W.cell? ⟨h, 3, none⟩ = some (.slice (some ⟨b3, o3, none⟩) os.length c3)) (first | exact HS.out | exact HS1.out | exact HS2.out | exact ⟨(four_off _ (h + 1) _ _ _ _ _ (Nat.ne_of_lt (Nat.lt_succ_self h))).trans HS2.out.1, (four_off _ (h + 1) _ _ _ _ _ (Nat.ne_of_lt (Nat.lt_succ_self h))).trans HS2.out.2.1, (four_off _ (h + 1) _ _ _ _ _ (Nat.ne_of_lt (Nat.lt_succ_self h))).trans HS2.out.2.2.1, (four_off _ (h + 1) _ _ _ _ _ (Nat.ne_of_lt (Nat.lt_succ_self h))).trans HS2.out.2.2.2⟩) ((first | (go_at_call 18; (with_reducible refine (ms_own10 HPV.out (ms_drew HM0.out) p k1 _ ho hos).mono ?_); rintro e w1 ⟨v1, rfl, hm⟩; have HM1 := Lib.hid hm; have HS1 := Lib.hid (held4 hm.below HS.out); clear hm) | (go_at_call 17; (with_reducible refine (ms_goes HPV.out HM1.out p true 9 9 (by simpa using hp2) (by simpa using hls) hl (by omega) (by omega)).mono ?_); rintro e w2 ⟨v2, rfl, hm⟩; have HM2 := Lib.hid hm; have HS2 := Lib.hid (held4 hm.below HS.out); clear hm; obtain ⟨B1, m1, d1, B2, m2, d2, B3, m3, d3, rfl⟩ := HM2.out.form; have HG := Lib.hid (HB.out.on HM2.out.below); obtain ⟨x0, x1, x2, x3⟩ := HG.out.room; obtain ⟨-, -, -, u3, u4, u5, u6⟩ := HG.out.frees)))
  all_goals
    go_wp2
    obtain ⟨hT, hmc, hbel⟩ := ms_end HP.out HB.out HM2.out
    exact bodyPost_ret (v := .agg #[.int .i64 n, .slice B1 m1 d1, .slice B2 m2 d2, .slice B3 m3 d3]) (results_cell_row rfl _ _ (h + 1) 31 _ (0, 0) _ rfl hT Tryd.underlying31 rfl (by kernel_rfl)) rfl ⟨_, rfl, hmc, hbel⟩


set_option maxHeartbeats 4000000 in
set_option maxRecDepth 100000 in
theorem ref9m (n p k d c k1 : Nat) (v : Value) (ws ls : List Int) (os : List (List Int)) (w : World) {P : Nat → Prop} (hP : ∀ b, P b → b < w.heap.size) (h : Mc w P n v ws ls os)
    (hh : RefAt n p ws ls os) (hl : ls[p]? = some 9) (ho : os[p]? = some [(k : Int)]) (hd : d = 2 + k) (hdw : d < ws.length) (hx : ws[d]? = some (c : Int)) (hc : c = 0) (hk1 : k1 = k + 1) (hkn : k1 ≠ n) :
    Calls Tryd.prog 9 #[v, .int .i64 p] w fun e w' => ∃ v', e = .returned v' ∧ Mc w' (New P w w') n v' ws (ls.set p 9) (os.set p [(k1 : Int)]) ∧ Below w.heap.size w w' := by
  obtain ⟨hn, hp, h1, hwl, hls, hos⟩ := hh
  have hp2 : p < ls.length := (List.getElem?_eq_some_iff.1 hl).1
  have hp3 : p < os.length := (List.getElem?_eq_some_iff.1 ho).1
  have hp2I : (p : Int) < ls.length := by omega
  have hp3I : (p : Int) < os.length := by omega
  have HM := Lib.hid h
  obtain ⟨b1, o1, c1, b2, o2, c2, b3, o3, c3, bp, op, cp, rfl, hread⟩ := mc_open hP h h1 hl ho (by simp)
  obtain ⟨wv, av, ov, e, k1, k2, k3⟩ := h
  injection e with e
  simp at e
  obtain ⟨rfl, rfl, rfl⟩ := e
  have HF := Lib.hid (MBox.made (x3 := .slice (some ⟨b3, o3, none⟩) os.length c3) (n := n) w _ (k1.nums hP) (k2.nums hP) rfl)
  have HP := Lib.hid hP
  have HRD := Lib.hid hread
  clear hP hread k1 k2 k3
  have hwr1 : IntKind.i64.wrap (2 + (k : Int)) = (d : Int) := by rw [show (d : Int) = 2 + (k : Int) by omega]; exact IntWalk.i64_in _ (by omega)
  have hwr2 : IntKind.i64.wrap ((k : Int) + 1) = (k1 : Int) := by rw [show (k1 : Int) = (k : Int) + 1 by omega]; exact IntWalk.i64_in _ (by omega)
  have hcI : ((c : Int) != 0) = false := by simp; omega
  have hen : ((k1 : Int) == (n : Int)) = false := by simp; omega
  have henn : (k1 == n) = false := by simp; omega
  clear hkn hk1 hd hc
  go_enter Tryd.func9, Tryd.ntmps9
  go_upto_region 1 with fail
  obtain ⟨V, hV⟩ : ∃ V, V = (w.alloc (.cells #[.int .i64 n, .slice (some ⟨b1, o1, none⟩) ws.length c1, .slice (some ⟨b2, o2, none⟩) ls.length c2, .slice (some ⟨b3, o3, none⟩) os.length c3] 31)).alloc (.cells #[.int .i64 0, .slice none 0 0, .slice none 0 0, .slice none 0 0] 31) := ⟨_, rfl⟩
  rw [← hV] at HF
  rw [← hV]
  obtain ⟨h, hh⟩ : ∃ h, h = w.heap.size := ⟨_, rfl⟩
  have HB := Lib.hid (show MBox w V h n _ _ _ ws ls by rw [hh]; exact HF.out)
  rw [← hh]
  clear hV hh HF
  have HPV := Lib.hid (show ∀ b, P b → b < V.heap.size from fun b hb => Nat.lt_of_lt_of_le (HP.out b hb) HB.out.below.size)
  have HM0 := Lib.hid (MS.start (HM.out.keep (fun _ h => h) (fun p hp => HB.out.below.cell (HP.out _ hp))))
  obtain ⟨y0, y1, y2, y3⟩ := HB.out.cells
  obtain ⟨r1, r2, r3, r4⟩ := HRD.out V HB.out.below
  have R1 := Lib.hid r1
  have r40 := r4 0 _ rfl
  rw [Nat.add_zero] at r40
  clear r1 r4
  have r5 := R1.out d c hx
  have hdI : (d : Int) < ws.length := by omega
  go_wp2_with fail
  have HS := Lib.hid (show (fun W : World => W.cell? ⟨h, 0, none⟩ = some (.int .i64 n) ∧ W.cell? ⟨h, 1, none⟩ = some (.slice (some ⟨b1, o1, none⟩) ws.length c1) ∧ W.cell? ⟨h, 2, none⟩ = some (.slice (some ⟨b2, o2, none⟩) ls.length c2) ∧ W.cell? ⟨h, 3, none⟩ = some (.slice (some ⟨b3, o3, none⟩) os.length c3)) V from ⟨y0, y1, y2, y3⟩)
  clear y0 y1 y2 y3 r2 r3 r40 r5
  go_region_held3 (fun W : World => W.cell? ⟨h, 0, none⟩ = some (.int .i64 n) ∧ W.cell? ⟨h, 1, none⟩ = some (.slice (some ⟨b1, o1, none⟩) ws.length c1) ∧ W.cell? ⟨h, 2, none⟩ = some (.slice (some ⟨b2, o2, none⟩) ls.length c2) ∧ W.cell? ⟨h, 3, none⟩ = some (.slice (some ⟨b3, o3, none⟩) os.length c3)) (first | exact HS.out | exact HS1.out | exact HS2.out | exact ⟨(four_off _ (h + 1) _ _ _ _ _ (Nat.ne_of_lt (Nat.lt_succ_self h))).trans HS2.out.1, (four_off _ (h + 1) _ _ _ _ _ (Nat.ne_of_lt (Nat.lt_succ_self h))).trans HS2.out.2.1, (four_off _ (h + 1) _ _ _ _ _ (Nat.ne_of_lt (Nat.lt_succ_self h))).trans HS2.out.2.2.1, (four_off _ (h + 1) _ _ _ _ _ (Nat.ne_of_lt (Nat.lt_succ_self h))).trans HS2.out.2.2.2⟩) ((first | (go_at_call 18; (with_reducible refine (ms_own10 HPV.out (ms_drew HM0.out) p k1 _ ho hos).mono ?_); rintro e w1 ⟨v1, rfl, hm⟩; have HM1 := Lib.hid hm; have HS1 := Lib.hid (held4 hm.below HS.out); clear hm) | (go_at_call 17; (with_reducible refine (ms_goes HPV.out HM1.out p false 9 9 (by simpa using hp2) (by simpa using hls) hl (by omega) (by omega)).mono ?_); rintro e w2 ⟨v2, rfl, hm⟩; have HM2 := Lib.hid hm; have HS2 := Lib.hid (held4 hm.below HS.out); clear hm; obtain ⟨B1, m1, d1, B2, m2, d2, B3, m3, d3, rfl⟩ := HM2.out.form; have HG := Lib.hid (HB.out.on HM2.out.below); obtain ⟨x0, x1, x2, x3⟩ := HG.out.room; obtain ⟨-, -, -, u3, u4, u5, u6⟩ := HG.out.frees)))
  all_goals
    go_wp2
    obtain ⟨hT, hmc, hbel⟩ := ms_end HP.out HB.out HM2.out
    exact bodyPost_ret (v := .agg #[.int .i64 n, .slice B1 m1 d1, .slice B2 m2 d2, .slice B3 m3 d3]) (results_cell_row rfl _ _ (h + 1) 31 _ (0, 0) _ rfl hT Tryd.underlying31 rfl (by kernel_rfl)) rfl ⟨_, rfl, hmc, hbel⟩


set_option maxHeartbeats 4000000 in
set_option maxRecDepth 100000 in
theorem ref9s (n p k d c : Nat) (v : Value) (ws ls : List Int) (os : List (List Int)) (w : World) {P : Nat → Prop} (hP : ∀ b, P b → b < w.heap.size) (h : Mc w P n v ws ls os)
    (hh : RefAt n p ws ls os) (hl : ls[p]? = some 9) (ho : os[p]? = some [(k : Int)]) (hd : d = 2 + k) (hdw : d < ws.length) (hx : ws[d]? = some (c : Int)) (hc : c ≠ 0) :
    Calls Tryd.prog 9 #[v, .int .i64 p] w fun e w' => ∃ v', e = .returned v' ∧ Mc w' (New P w w') n v' ws ls os ∧ Below w.heap.size w w' := by
  obtain ⟨hn, hp, h1, hwl, hls, hos⟩ := hh
  have hp2 : p < ls.length := (List.getElem?_eq_some_iff.1 hl).1
  have hp3 : p < os.length := (List.getElem?_eq_some_iff.1 ho).1
  have hp2I : (p : Int) < ls.length := by omega
  have hp3I : (p : Int) < os.length := by omega
  have HM := Lib.hid h
  obtain ⟨b1, o1, c1, b2, o2, c2, b3, o3, c3, bp, op, cp, rfl, hread⟩ := mc_open hP h h1 hl ho (by simp)
  obtain ⟨wv, av, ov, e, k1, k2, k3⟩ := h
  injection e with e
  simp at e
  obtain ⟨rfl, rfl, rfl⟩ := e
  have HF := Lib.hid (MBox.made (x3 := .slice (some ⟨b3, o3, none⟩) os.length c3) (n := n) w _ (k1.nums hP) (k2.nums hP) rfl)
  have HP := Lib.hid hP
  have HRD := Lib.hid hread
  clear hP hread k1 k2 k3
  have hwr1 : IntKind.i64.wrap (2 + (k : Int)) = (d : Int) := by rw [show (d : Int) = 2 + (k : Int) by omega]; exact IntWalk.i64_in _ (by omega)
  have hcI : ((c : Int) != 0) = true := by simp; omega
  clear hd hc
  go_enter Tryd.func9, Tryd.ntmps9
  go_upto_region 1 with fail
  obtain ⟨V, hV⟩ : ∃ V, V = (w.alloc (.cells #[.int .i64 n, .slice (some ⟨b1, o1, none⟩) ws.length c1, .slice (some ⟨b2, o2, none⟩) ls.length c2, .slice (some ⟨b3, o3, none⟩) os.length c3] 31)).alloc (.cells #[.int .i64 0, .slice none 0 0, .slice none 0 0, .slice none 0 0] 31) := ⟨_, rfl⟩
  rw [← hV] at HF
  rw [← hV]
  obtain ⟨h, hh⟩ : ∃ h, h = w.heap.size := ⟨_, rfl⟩
  have HB := Lib.hid (show MBox w V h n _ _ _ ws ls by rw [hh]; exact HF.out)
  rw [← hh]
  clear hV hh HF
  have HPV := Lib.hid (show ∀ b, P b → b < V.heap.size from fun b hb => Nat.lt_of_lt_of_le (HP.out b hb) HB.out.below.size)
  have HM0 := Lib.hid (MS.start (HM.out.keep (fun _ h => h) (fun p hp => HB.out.below.cell (HP.out _ hp))))
  obtain ⟨y0, y1, y2, y3⟩ := HB.out.cells
  obtain ⟨r1, r2, r3, r4⟩ := HRD.out V HB.out.below
  have R1 := Lib.hid r1
  have r40 := r4 0 _ rfl
  rw [Nat.add_zero] at r40
  clear r1 r4
  have r5 := R1.out d c hx
  have hdI : (d : Int) < ws.length := by omega
  obtain ⟨x0, x1, x2, x3⟩ := HB.out.room
  obtain ⟨-, -, -, u3, u4, u5, u6⟩ := HB.out.frees
  go_wp2
  obtain ⟨hT, hmc, hbel⟩ := ms_end HP.out HB.out HM0.out
  exact bodyPost_ret (v := .agg #[.int .i64 n, .slice (some ⟨b1, o1, none⟩) ws.length c1, .slice (some ⟨b2, o2, none⟩) ls.length c2, .slice (some ⟨b3, o3, none⟩) os.length c3]) (results_cell_row rfl _ _ (h + 1) 31 _ (0, 0) _ rfl hT Tryd.underlying31 rfl (by kernel_rfl)) rfl ⟨_, rfl, hmc, hbel⟩


set_option maxHeartbeats 4000000 in
set_option maxRecDepth 100000 in
theorem ref10g (n p k y p1 : Nat) (v : Value) (ws ls : List Int) (os : List (List Int)) (w : World) {P : Nat → Prop} (hP : ∀ b, P b → b < w.heap.size) (h : Mc w P n v ws ls os)
    (hh : RefAt n p ws ls os) (hl : ls[p]? = some 10) (ho : os[p]? = some [(k : Int)]) (hy : ws[1]? = some (y : Int)) (h2 : 1 < ws.length) (hp1 : p1 = p + 1) (hc : y ≠ p1) :
    Calls Tryd.prog 9 #[v, .int .i64 p] w fun e w' => ∃ v', e = .returned v' ∧ Mc w' (New P w w') n v' ws (ls.set p 11) os ∧ Below w.heap.size w w' := by
  obtain ⟨hn, hp, h1, hwl, hls, hos⟩ := hh
  have hp2 : p < ls.length := (List.getElem?_eq_some_iff.1 hl).1
  have hp3 : p < os.length := (List.getElem?_eq_some_iff.1 ho).1
  have hp2I : (p : Int) < ls.length := by omega
  have hp3I : (p : Int) < os.length := by omega
  have HM := Lib.hid h
  obtain ⟨b1, o1, c1, b2, o2, c2, b3, o3, c3, bp, op, cp, rfl, hread⟩ := mc_open hP h h1 hl ho (by simp)
  obtain ⟨wv, av, ov, e, k1, k2, k3⟩ := h
  injection e with e
  simp at e
  obtain ⟨rfl, rfl, rfl⟩ := e
  have HF := Lib.hid (MBox.made (x3 := .slice (some ⟨b3, o3, none⟩) os.length c3) (n := n) w _ (k1.nums hP) (k2.nums hP) rfl)
  have HP := Lib.hid hP
  have HRD := Lib.hid hread
  clear hP hread k1 k2 k3
  have hwp : IntKind.i64.wrap ((p : Int) + 1) = (p1 : Int) := by rw [show (p1 : Int) = (p : Int) + 1 by omega]; exact IntWalk.i64_in _ (by omega)
  have hcI : ((y : Int) != (p1 : Int)) = true := by simp; omega
  have hcN : (y != p1) = true := by simp; omega
  clear hc hp1
  go_enter Tryd.func9, Tryd.ntmps9
  go_upto_region 1 with fail
  obtain ⟨V, hV⟩ : ∃ V, V = (w.alloc (.cells #[.int .i64 n, .slice (some ⟨b1, o1, none⟩) ws.length c1, .slice (some ⟨b2, o2, none⟩) ls.length c2, .slice (some ⟨b3, o3, none⟩) os.length c3] 31)).alloc (.cells #[.int .i64 0, .slice none 0 0, .slice none 0 0, .slice none 0 0] 31) := ⟨_, rfl⟩
  rw [← hV] at HF
  rw [← hV]
  obtain ⟨h, hh⟩ : ∃ h, h = w.heap.size := ⟨_, rfl⟩
  have HB := Lib.hid (show MBox w V h n _ _ _ ws ls by rw [hh]; exact HF.out)
  rw [← hh]
  clear hV hh HF
  have HPV := Lib.hid (show ∀ b, P b → b < V.heap.size from fun b hb => Nat.lt_of_lt_of_le (HP.out b hb) HB.out.below.size)
  have HM0 := Lib.hid (MS.start (HM.out.keep (fun _ h => h) (fun p hp => HB.out.below.cell (HP.out _ hp))))
  obtain ⟨y0, y1, y2, y3⟩ := HB.out.cells
  obtain ⟨r1, r2, r3, r4⟩ := HRD.out V HB.out.below
  have R1 := Lib.hid r1
  have r40 := r4 0 _ rfl
  rw [Nat.add_zero] at r40
  clear r1 r4
  have r5 := R1.out 1 y hy
  have h2I : (1 : Int) < ws.length := by omega
  go_wp2_with fail
  go_region_with (first | (go_at_call 17; (with_reducible refine (ms_goes HPV.out (ms_drew HM0.out) p true 12 10 (by simpa using hp2) (by simpa using hls) hl (by omega) (by omega)).mono ?_); rintro e w1 ⟨v1, rfl, hm⟩; have HM1 := Lib.hid hm; clear hm; obtain ⟨B1, m1, d1, B2, m2, d2, B3, m3, d3, rfl⟩ := HM1.out.form; have HG := Lib.hid (HB.out.on HM1.out.below); obtain ⟨x0, x1, x2, x3⟩ := HG.out.room; obtain ⟨-, -, -, u3, u4, u5, u6⟩ := HG.out.frees) | (go_at_call 17; (with_reducible refine (ms_goes HPV.out (ms_drewN HM0.out _) p true 12 10 (by simpa using hp2) (by simpa using hls) hl (by omega) (by omega)).mono ?_); rintro e w1 ⟨v1, rfl, hm⟩; have HM1 := Lib.hid hm; clear hm; obtain ⟨B1, m1, d1, B2, m2, d2, B3, m3, d3, rfl⟩ := HM1.out.form; have HG := Lib.hid (HB.out.on HM1.out.below); obtain ⟨x0, x1, x2, x3⟩ := HG.out.room; obtain ⟨-, -, -, u3, u4, u5, u6⟩ := HG.out.frees))
  all_goals
    go_wp2
    obtain ⟨hT, hmc, hbel⟩ := ms_end HP.out HB.out HM1.out
    exact bodyPost_ret (v := .agg #[.int .i64 n, .slice B1 m1 d1, .slice B2 m2 d2, .slice B3 m3 d3]) (results_cell_row rfl _ _ (h + 1) 31 _ (0, 0) _ rfl hT Tryd.underlying31 rfl (by kernel_rfl)) rfl ⟨_, rfl, hmc, hbel⟩


set_option maxHeartbeats 4000000 in
set_option maxRecDepth 100000 in
theorem ref10s (n p k y p1 : Nat) (v : Value) (ws ls : List Int) (os : List (List Int)) (w : World) {P : Nat → Prop} (hP : ∀ b, P b → b < w.heap.size) (h : Mc w P n v ws ls os)
    (hh : RefAt n p ws ls os) (hl : ls[p]? = some 10) (ho : os[p]? = some [(k : Int)]) (hy : ws[1]? = some (y : Int)) (h2 : 1 < ws.length) (hp1 : p1 = p + 1) (hc : y = p1) :
    Calls Tryd.prog 9 #[v, .int .i64 p] w fun e w' => ∃ v', e = .returned v' ∧ Mc w' (New P w w') n v' ws (ls.set p 12) os ∧ Below w.heap.size w w' := by
  obtain ⟨hn, hp, h1, hwl, hls, hos⟩ := hh
  have hp2 : p < ls.length := (List.getElem?_eq_some_iff.1 hl).1
  have hp3 : p < os.length := (List.getElem?_eq_some_iff.1 ho).1
  have hp2I : (p : Int) < ls.length := by omega
  have hp3I : (p : Int) < os.length := by omega
  have HM := Lib.hid h
  obtain ⟨b1, o1, c1, b2, o2, c2, b3, o3, c3, bp, op, cp, rfl, hread⟩ := mc_open hP h h1 hl ho (by simp)
  obtain ⟨wv, av, ov, e, k1, k2, k3⟩ := h
  injection e with e
  simp at e
  obtain ⟨rfl, rfl, rfl⟩ := e
  have HF := Lib.hid (MBox.made (x3 := .slice (some ⟨b3, o3, none⟩) os.length c3) (n := n) w _ (k1.nums hP) (k2.nums hP) rfl)
  have HP := Lib.hid hP
  have HRD := Lib.hid hread
  clear hP hread k1 k2 k3
  have hwp : IntKind.i64.wrap ((p : Int) + 1) = (p1 : Int) := by rw [show (p1 : Int) = (p : Int) + 1 by omega]; exact IntWalk.i64_in _ (by omega)
  have hcI : ((y : Int) != (p1 : Int)) = false := by simp; omega
  have hcN : (y != p1) = false := by simp; omega
  clear hc hp1
  go_enter Tryd.func9, Tryd.ntmps9
  go_upto_region 1 with fail
  obtain ⟨V, hV⟩ : ∃ V, V = (w.alloc (.cells #[.int .i64 n, .slice (some ⟨b1, o1, none⟩) ws.length c1, .slice (some ⟨b2, o2, none⟩) ls.length c2, .slice (some ⟨b3, o3, none⟩) os.length c3] 31)).alloc (.cells #[.int .i64 0, .slice none 0 0, .slice none 0 0, .slice none 0 0] 31) := ⟨_, rfl⟩
  rw [← hV] at HF
  rw [← hV]
  obtain ⟨h, hh⟩ : ∃ h, h = w.heap.size := ⟨_, rfl⟩
  have HB := Lib.hid (show MBox w V h n _ _ _ ws ls by rw [hh]; exact HF.out)
  rw [← hh]
  clear hV hh HF
  have HPV := Lib.hid (show ∀ b, P b → b < V.heap.size from fun b hb => Nat.lt_of_lt_of_le (HP.out b hb) HB.out.below.size)
  have HM0 := Lib.hid (MS.start (HM.out.keep (fun _ h => h) (fun p hp => HB.out.below.cell (HP.out _ hp))))
  obtain ⟨y0, y1, y2, y3⟩ := HB.out.cells
  obtain ⟨r1, r2, r3, r4⟩ := HRD.out V HB.out.below
  have R1 := Lib.hid r1
  have r40 := r4 0 _ rfl
  rw [Nat.add_zero] at r40
  clear r1 r4
  have r5 := R1.out 1 y hy
  have h2I : (1 : Int) < ws.length := by omega
  go_wp2_with fail
  go_region_with (first | (go_at_call 17; (with_reducible refine (ms_goes HPV.out (ms_drew HM0.out) p false 12 10 (by simpa using hp2) (by simpa using hls) hl (by omega) (by omega)).mono ?_); rintro e w1 ⟨v1, rfl, hm⟩; have HM1 := Lib.hid hm; clear hm; obtain ⟨B1, m1, d1, B2, m2, d2, B3, m3, d3, rfl⟩ := HM1.out.form; have HG := Lib.hid (HB.out.on HM1.out.below); obtain ⟨x0, x1, x2, x3⟩ := HG.out.room; obtain ⟨-, -, -, u3, u4, u5, u6⟩ := HG.out.frees) | (go_at_call 17; (with_reducible refine (ms_goes HPV.out (ms_drewN HM0.out _) p false 12 10 (by simpa using hp2) (by simpa using hls) hl (by omega) (by omega)).mono ?_); rintro e w1 ⟨v1, rfl, hm⟩; have HM1 := Lib.hid hm; clear hm; obtain ⟨B1, m1, d1, B2, m2, d2, B3, m3, d3, rfl⟩ := HM1.out.form; have HG := Lib.hid (HB.out.on HM1.out.below); obtain ⟨x0, x1, x2, x3⟩ := HG.out.room; obtain ⟨-, -, -, u3, u4, u5, u6⟩ := HG.out.frees))
  all_goals
    go_wp2
    obtain ⟨hT, hmc, hbel⟩ := ms_end HP.out HB.out HM1.out
    exact bodyPost_ret (v := .agg #[.int .i64 n, .slice B1 m1 d1, .slice B2 m2 d2, .slice B3 m3 d3]) (results_cell_row rfl _ _ (h + 1) 31 _ (0, 0) _ rfl hT Tryd.underlying31 rfl (by kernel_rfl)) rfl ⟨_, rfl, hmc, hbel⟩


set_option maxHeartbeats 4000000 in
set_option maxRecDepth 100000 in
theorem ref11g (n p k y : Nat) (v : Value) (ws ls : List Int) (os : List (List Int)) (w : World) {P : Nat → Prop} (hP : ∀ b, P b → b < w.heap.size) (h : Mc w P n v ws ls os)
    (hh : RefAt n p ws ls os) (hl : ls[p]? = some 11) (ho : os[p]? = some [(k : Int)]) (hy : ws[1]? = some (y : Int)) (h2 : 1 < ws.length) (hc : y = 0) :
    Calls Tryd.prog 9 #[v, .int .i64 p] w fun e w' => ∃ v', e = .returned v' ∧ Mc w' (New P w w') n v' ws (ls.set p 1) os ∧ Below w.heap.size w w' := by
  obtain ⟨hn, hp, h1, hwl, hls, hos⟩ := hh
  have hp2 : p < ls.length := (List.getElem?_eq_some_iff.1 hl).1
  have hp3 : p < os.length := (List.getElem?_eq_some_iff.1 ho).1
  have hp2I : (p : Int) < ls.length := by omega
  have hp3I : (p : Int) < os.length := by omega
  have HM := Lib.hid h
  obtain ⟨b1, o1, c1, b2, o2, c2, b3, o3, c3, bp, op, cp, rfl, hread⟩ := mc_open hP h h1 hl ho (by simp)
  obtain ⟨wv, av, ov, e, k1, k2, k3⟩ := h
  injection e with e
  simp at e
  obtain ⟨rfl, rfl, rfl⟩ := e
  have HF := Lib.hid (MBox.made (x3 := .slice (some ⟨b3, o3, none⟩) os.length c3) (n := n) w _ (k1.nums hP) (k2.nums hP) rfl)
  have HP := Lib.hid hP
  have HRD := Lib.hid hread
  clear hP hread k1 k2 k3
  have hcI : ((y : Int) == 0) = true := by simp; omega
  clear hc
  go_enter Tryd.func9, Tryd.ntmps9
  go_upto_region 1 with fail
  obtain ⟨V, hV⟩ : ∃ V, V = (w.alloc (.cells #[.int .i64 n, .slice (some ⟨b1, o1, none⟩) ws.length c1, .slice (some ⟨b2, o2, none⟩) ls.length c2, .slice (some ⟨b3, o3, none⟩) os.length c3] 31)).alloc (.cells #[.int .i64 0, .slice none 0 0, .slice none 0 0, .slice none 0 0] 31) := ⟨_, rfl⟩
  rw [← hV] at HF
  rw [← hV]
  obtain ⟨h, hh⟩ : ∃ h, h = w.heap.size := ⟨_, rfl⟩
  have HB := Lib.hid (show MBox w V h n _ _ _ ws ls by rw [hh]; exact HF.out)
  rw [← hh]
  clear hV hh HF
  have HPV := Lib.hid (show ∀ b, P b → b < V.heap.size from fun b hb => Nat.lt_of_lt_of_le (HP.out b hb) HB.out.below.size)
  have HM0 := Lib.hid (MS.start (HM.out.keep (fun _ h => h) (fun p hp => HB.out.below.cell (HP.out _ hp))))
  obtain ⟨y0, y1, y2, y3⟩ := HB.out.cells
  obtain ⟨r1, r2, r3, r4⟩ := HRD.out V HB.out.below
  have R1 := Lib.hid r1
  have r40 := r4 0 _ rfl
  rw [Nat.add_zero] at r40
  clear r1 r4
  have r5 := R1.out 1 y hy
  have h2I : (1 : Int) < ws.length := by omega
  go_wp2_with (go_at_call 15; (with_reducible refine (ms_to HPV.out HM0.out p 1 (by simpa using hp2) (by simpa using hls)).mono ?_); rintro e w1 ⟨v1, rfl, hm⟩; have HM1 := Lib.hid hm; clear hm; obtain ⟨B1, m1, d1, B2, m2, d2, B3, m3, d3, rfl⟩ := HM1.out.form; have HG := Lib.hid (HB.out.on HM1.out.below); obtain ⟨x0, x1, x2, x3⟩ := HG.out.room; obtain ⟨-, -, -, u3, u4, u5, u6⟩ := HG.out.frees)
  obtain ⟨hT, hmc, hbel⟩ := ms_end HP.out HB.out HM1.out
  exact bodyPost_ret (v := .agg #[.int .i64 n, .slice B1 m1 d1, .slice B2 m2 d2, .slice B3 m3 d3]) (results_cell_row rfl _ _ (h + 1) 31 _ (0, 0) _ rfl hT Tryd.underlying31 rfl (by kernel_rfl)) rfl ⟨_, rfl, hmc, hbel⟩


set_option maxHeartbeats 4000000 in
set_option maxRecDepth 100000 in
theorem ref11s (n p k y : Nat) (v : Value) (ws ls : List Int) (os : List (List Int)) (w : World) {P : Nat → Prop} (hP : ∀ b, P b → b < w.heap.size) (h : Mc w P n v ws ls os)
    (hh : RefAt n p ws ls os) (hl : ls[p]? = some 11) (ho : os[p]? = some [(k : Int)]) (hy : ws[1]? = some (y : Int)) (h2 : 1 < ws.length) (hc : y ≠ 0) :
    Calls Tryd.prog 9 #[v, .int .i64 p] w fun e w' => ∃ v', e = .returned v' ∧ Mc w' (New P w w') n v' ws ls os ∧ Below w.heap.size w w' := by
  obtain ⟨hn, hp, h1, hwl, hls, hos⟩ := hh
  have hp2 : p < ls.length := (List.getElem?_eq_some_iff.1 hl).1
  have hp3 : p < os.length := (List.getElem?_eq_some_iff.1 ho).1
  have hp2I : (p : Int) < ls.length := by omega
  have hp3I : (p : Int) < os.length := by omega
  have HM := Lib.hid h
  obtain ⟨b1, o1, c1, b2, o2, c2, b3, o3, c3, bp, op, cp, rfl, hread⟩ := mc_open hP h h1 hl ho (by simp)
  obtain ⟨wv, av, ov, e, k1, k2, k3⟩ := h
  injection e with e
  simp at e
  obtain ⟨rfl, rfl, rfl⟩ := e
  have HF := Lib.hid (MBox.made (x3 := .slice (some ⟨b3, o3, none⟩) os.length c3) (n := n) w _ (k1.nums hP) (k2.nums hP) rfl)
  have HP := Lib.hid hP
  have HRD := Lib.hid hread
  clear hP hread k1 k2 k3
  have hcI : ((y : Int) == 0) = false := by simp; omega
  clear hc
  go_enter Tryd.func9, Tryd.ntmps9
  go_upto_region 1 with fail
  obtain ⟨V, hV⟩ : ∃ V, V = (w.alloc (.cells #[.int .i64 n, .slice (some ⟨b1, o1, none⟩) ws.length c1, .slice (some ⟨b2, o2, none⟩) ls.length c2, .slice (some ⟨b3, o3, none⟩) os.length c3] 31)).alloc (.cells #[.int .i64 0, .slice none 0 0, .slice none 0 0, .slice none 0 0] 31) := ⟨_, rfl⟩
  rw [← hV] at HF
  rw [← hV]
  obtain ⟨h, hh⟩ : ∃ h, h = w.heap.size := ⟨_, rfl⟩
  have HB := Lib.hid (show MBox w V h n _ _ _ ws ls by rw [hh]; exact HF.out)
  rw [← hh]
  clear hV hh HF
  have HPV := Lib.hid (show ∀ b, P b → b < V.heap.size from fun b hb => Nat.lt_of_lt_of_le (HP.out b hb) HB.out.below.size)
  have HM0 := Lib.hid (MS.start (HM.out.keep (fun _ h => h) (fun p hp => HB.out.below.cell (HP.out _ hp))))
  obtain ⟨y0, y1, y2, y3⟩ := HB.out.cells
  obtain ⟨r1, r2, r3, r4⟩ := HRD.out V HB.out.below
  have R1 := Lib.hid r1
  have r40 := r4 0 _ rfl
  rw [Nat.add_zero] at r40
  clear r1 r4
  have r5 := R1.out 1 y hy
  have h2I : (1 : Int) < ws.length := by omega
  obtain ⟨x0, x1, x2, x3⟩ := HB.out.room
  obtain ⟨-, -, -, u3, u4, u5, u6⟩ := HB.out.frees
  go_wp2
  obtain ⟨hT, hmc, hbel⟩ := ms_end HP.out HB.out HM0.out
  exact bodyPost_ret (v := .agg #[.int .i64 n, .slice (some ⟨b1, o1, none⟩) ws.length c1, .slice (some ⟨b2, o2, none⟩) ls.length c2, .slice (some ⟨b3, o3, none⟩) os.length c3]) (results_cell_row rfl _ _ (h + 1) 31 _ (0, 0) _ rfl hT Tryd.underlying31 rfl (by kernel_rfl)) rfl ⟨_, rfl, hmc, hbel⟩


set_option maxHeartbeats 4000000 in
set_option maxRecDepth 100000 in
theorem ref12 (n p k : Nat) (v : Value) (ws ls : List Int) (os : List (List Int)) (w : World) {P : Nat → Prop} (hP : ∀ b, P b → b < w.heap.size) (h : Mc w P n v ws ls os)
    (hh : RefAt n p ws ls os) (hl : ls[p]? = some 12) (ho : os[p]? = some [(k : Int)]) :
    Calls Tryd.prog 9 #[v, .int .i64 p] w fun e w' => ∃ v', e = .returned v' ∧ Mc w' (New P w w') n v' ws (ls.set p 13) os ∧ Below w.heap.size w w' := by
  obtain ⟨hn, hp, h1, hwl, hls, hos⟩ := hh
  have hp2 : p < ls.length := (List.getElem?_eq_some_iff.1 hl).1
  have hp3 : p < os.length := (List.getElem?_eq_some_iff.1 ho).1
  have hp2I : (p : Int) < ls.length := by omega
  have hp3I : (p : Int) < os.length := by omega
  have HM := Lib.hid h
  obtain ⟨b1, o1, c1, b2, o2, c2, b3, o3, c3, bp, op, cp, rfl, hread⟩ := mc_open hP h h1 hl ho (by simp)
  obtain ⟨wv, av, ov, e, k1, k2, k3⟩ := h
  injection e with e
  simp at e
  obtain ⟨rfl, rfl, rfl⟩ := e
  have HF := Lib.hid (MBox.made (x3 := .slice (some ⟨b3, o3, none⟩) os.length c3) (n := n) w _ (k1.nums hP) (k2.nums hP) rfl)
  have HP := Lib.hid hP
  have HRD := Lib.hid hread
  clear hP hread k1 k2 k3
  go_enter Tryd.func9, Tryd.ntmps9
  go_upto_region 1 with fail
  obtain ⟨V, hV⟩ : ∃ V, V = (w.alloc (.cells #[.int .i64 n, .slice (some ⟨b1, o1, none⟩) ws.length c1, .slice (some ⟨b2, o2, none⟩) ls.length c2, .slice (some ⟨b3, o3, none⟩) os.length c3] 31)).alloc (.cells #[.int .i64 0, .slice none 0 0, .slice none 0 0, .slice none 0 0] 31) := ⟨_, rfl⟩
  rw [← hV] at HF
  rw [← hV]
  obtain ⟨h, hh⟩ : ∃ h, h = w.heap.size := ⟨_, rfl⟩
  have HB := Lib.hid (show MBox w V h n _ _ _ ws ls by rw [hh]; exact HF.out)
  rw [← hh]
  clear hV hh HF
  have HPV := Lib.hid (show ∀ b, P b → b < V.heap.size from fun b hb => Nat.lt_of_lt_of_le (HP.out b hb) HB.out.below.size)
  have HM0 := Lib.hid (MS.start (HM.out.keep (fun _ h => h) (fun p hp => HB.out.below.cell (HP.out _ hp))))
  obtain ⟨y0, y1, y2, y3⟩ := HB.out.cells
  obtain ⟨r1, r2, r3, r4⟩ := HRD.out V HB.out.below
  have R1 := Lib.hid r1
  have r40 := r4 0 _ rfl
  rw [Nat.add_zero] at r40
  clear r1 r4
  go_wp2_with (go_at_call 15; (with_reducible refine (ms_to HPV.out HM0.out p 13 (by simpa using hp2) (by simpa using hls)).mono ?_); rintro e w1 ⟨v1, rfl, hm⟩; have HM1 := Lib.hid hm; clear hm; obtain ⟨B1, m1, d1, B2, m2, d2, B3, m3, d3, rfl⟩ := HM1.out.form; have HG := Lib.hid (HB.out.on HM1.out.below); obtain ⟨x0, x1, x2, x3⟩ := HG.out.room; obtain ⟨-, -, -, u3, u4, u5, u6⟩ := HG.out.frees)
  obtain ⟨hT, hmc, hbel⟩ := ms_end HP.out HB.out HM1.out
  exact bodyPost_ret (v := .agg #[.int .i64 n, .slice B1 m1 d1, .slice B2 m2 d2, .slice B3 m3 d3]) (results_cell_row rfl _ _ (h + 1) 31 _ (0, 0) _ rfl hT Tryd.underlying31 rfl (by kernel_rfl)) rfl ⟨_, rfl, hmc, hbel⟩


set_option maxHeartbeats 4000000 in
set_option maxRecDepth 100000 in
theorem ref13 (n p k : Nat) (v : Value) (ws ls : List Int) (os : List (List Int)) (w : World) {P : Nat → Prop} (hP : ∀ b, P b → b < w.heap.size) (h : Mc w P n v ws ls os)
    (hh : RefAt n p ws ls os) (hl : ls[p]? = some 13) (ho : os[p]? = some [(k : Int)]) (h2 : 1 < ws.length) :
    Calls Tryd.prog 9 #[v, .int .i64 p] w fun e w' => ∃ v', e = .returned v' ∧ Mc w' (New P w w') n v' (ws.set 1 0) (ls.set p 14) os ∧ Below w.heap.size w w' := by
  obtain ⟨hn, hp, h1, hwl, hls, hos⟩ := hh
  have hp2 : p < ls.length := (List.getElem?_eq_some_iff.1 hl).1
  have hp3 : p < os.length := (List.getElem?_eq_some_iff.1 ho).1
  have hp2I : (p : Int) < ls.length := by omega
  have hp3I : (p : Int) < os.length := by omega
  have HM := Lib.hid h
  obtain ⟨b1, o1, c1, b2, o2, c2, b3, o3, c3, bp, op, cp, rfl, hread⟩ := mc_open hP h h1 hl ho (by simp)
  obtain ⟨wv, av, ov, e, k1, k2, k3⟩ := h
  injection e with e
  simp at e
  obtain ⟨rfl, rfl, rfl⟩ := e
  have HF := Lib.hid (MBox.made (x3 := .slice (some ⟨b3, o3, none⟩) os.length c3) (n := n) w _ (k1.nums hP) (k2.nums hP) rfl)
  have HP := Lib.hid hP
  have HRD := Lib.hid hread
  clear hP hread k1 k2 k3
  go_enter Tryd.func9, Tryd.ntmps9
  go_upto_region 1 with fail
  obtain ⟨V, hV⟩ : ∃ V, V = (w.alloc (.cells #[.int .i64 n, .slice (some ⟨b1, o1, none⟩) ws.length c1, .slice (some ⟨b2, o2, none⟩) ls.length c2, .slice (some ⟨b3, o3, none⟩) os.length c3] 31)).alloc (.cells #[.int .i64 0, .slice none 0 0, .slice none 0 0, .slice none 0 0] 31) := ⟨_, rfl⟩
  rw [← hV] at HF
  rw [← hV]
  obtain ⟨h, hh⟩ : ∃ h, h = w.heap.size := ⟨_, rfl⟩
  have HB := Lib.hid (show MBox w V h n _ _ _ ws ls by rw [hh]; exact HF.out)
  rw [← hh]
  clear hV hh HF
  have HPV := Lib.hid (show ∀ b, P b → b < V.heap.size from fun b hb => Nat.lt_of_lt_of_le (HP.out b hb) HB.out.below.size)
  have HM0 := Lib.hid (MS.start (HM.out.keep (fun _ h => h) (fun p hp => HB.out.below.cell (HP.out _ hp))))
  obtain ⟨y0, y1, y2, y3⟩ := HB.out.cells
  obtain ⟨r1, r2, r3, r4⟩ := HRD.out V HB.out.below
  have R1 := Lib.hid r1
  have r40 := r4 0 _ rfl
  rw [Nat.add_zero] at r40
  clear r1 r4
  go_wp2_with (first | (go_at_call 16; (with_reducible refine (ms_w1 HPV.out HM0.out 0 h2 hwl).mono ?_); rintro e w1 ⟨v1, rfl, hm⟩; have HM1 := Lib.hid hm; clear hm) | (go_at_call 15; (with_reducible refine (ms_to HPV.out HM1.out p 14 (by simpa using hp2) (by simpa using hls)).mono ?_); rintro e w2 ⟨v2, rfl, hm⟩; have HM2 := Lib.hid hm; clear hm; obtain ⟨B1, m1, d1, B2, m2, d2, B3, m3, d3, rfl⟩ := HM2.out.form; have HG := Lib.hid (HB.out.on HM2.out.below); obtain ⟨x0, x1, x2, x3⟩ := HG.out.room; obtain ⟨-, -, -, u3, u4, u5, u6⟩ := HG.out.frees))
  obtain ⟨hT, hmc, hbel⟩ := ms_end HP.out HB.out HM2.out
  exact bodyPost_ret (v := .agg #[.int .i64 n, .slice B1 m1 d1, .slice B2 m2 d2, .slice B3 m3 d3]) (results_cell_row rfl _ _ (h + 1) 31 _ (0, 0) _ rfl hT Tryd.underlying31 rfl (by kernel_rfl)) rfl ⟨_, rfl, hmc, hbel⟩


set_option maxHeartbeats 4000000 in
set_option maxRecDepth 100000 in
theorem ref14 (n p k d : Nat) (v : Value) (ws ls : List Int) (os : List (List Int)) (w : World) {P : Nat → Prop} (hP : ∀ b, P b → b < w.heap.size) (h : Mc w P n v ws ls os)
    (hh : RefAt n p ws ls os) (hl : ls[p]? = some 14) (ho : os[p]? = some [(k : Int)]) (hd : d = 2 + p) (hdw : d < ws.length) :
    Calls Tryd.prog 9 #[v, .int .i64 p] w fun e w' => ∃ v', e = .returned v' ∧ Mc w' (New P w w') n v' (ws.set d 0) (ls.set p 1) os ∧ Below w.heap.size w w' := by
  obtain ⟨hn, hp, h1, hwl, hls, hos⟩ := hh
  have hp2 : p < ls.length := (List.getElem?_eq_some_iff.1 hl).1
  have hp3 : p < os.length := (List.getElem?_eq_some_iff.1 ho).1
  have hp2I : (p : Int) < ls.length := by omega
  have hp3I : (p : Int) < os.length := by omega
  have HM := Lib.hid h
  obtain ⟨b1, o1, c1, b2, o2, c2, b3, o3, c3, bp, op, cp, rfl, hread⟩ := mc_open hP h h1 hl ho (by simp)
  obtain ⟨wv, av, ov, e, k1, k2, k3⟩ := h
  injection e with e
  simp at e
  obtain ⟨rfl, rfl, rfl⟩ := e
  have HF := Lib.hid (MBox.made (x3 := .slice (some ⟨b3, o3, none⟩) os.length c3) (n := n) w _ (k1.nums hP) (k2.nums hP) rfl)
  have HP := Lib.hid hP
  have HRD := Lib.hid hread
  clear hP hread k1 k2 k3
  have hwr1 : IntKind.i64.wrap (2 + (p : Int)) = (d : Int) := by rw [show (d : Int) = 2 + (p : Int) by omega]; exact IntWalk.i64_in _ (by omega)
  clear hd
  go_enter Tryd.func9, Tryd.ntmps9
  go_upto_region 1 with fail
  obtain ⟨V, hV⟩ : ∃ V, V = (w.alloc (.cells #[.int .i64 n, .slice (some ⟨b1, o1, none⟩) ws.length c1, .slice (some ⟨b2, o2, none⟩) ls.length c2, .slice (some ⟨b3, o3, none⟩) os.length c3] 31)).alloc (.cells #[.int .i64 0, .slice none 0 0, .slice none 0 0, .slice none 0 0] 31) := ⟨_, rfl⟩
  rw [← hV] at HF
  rw [← hV]
  obtain ⟨h, hh⟩ : ∃ h, h = w.heap.size := ⟨_, rfl⟩
  have HB := Lib.hid (show MBox w V h n _ _ _ ws ls by rw [hh]; exact HF.out)
  rw [← hh]
  clear hV hh HF
  have HPV := Lib.hid (show ∀ b, P b → b < V.heap.size from fun b hb => Nat.lt_of_lt_of_le (HP.out b hb) HB.out.below.size)
  have HM0 := Lib.hid (MS.start (HM.out.keep (fun _ h => h) (fun p hp => HB.out.below.cell (HP.out _ hp))))
  obtain ⟨y0, y1, y2, y3⟩ := HB.out.cells
  obtain ⟨r1, r2, r3, r4⟩ := HRD.out V HB.out.below
  have R1 := Lib.hid r1
  have r40 := r4 0 _ rfl
  rw [Nat.add_zero] at r40
  clear r1 r4
  go_wp2_with (first | (go_at_call 16; (with_reducible refine (ms_word HPV.out HM0.out d 0 hdw hwl).mono ?_); rintro e w1 ⟨v1, rfl, hm⟩; have HM1 := Lib.hid hm; clear hm) | (go_at_call 15; (with_reducible refine (ms_to HPV.out HM1.out p 1 (by simpa using hp2) (by simpa using hls)).mono ?_); rintro e w2 ⟨v2, rfl, hm⟩; have HM2 := Lib.hid hm; clear hm; obtain ⟨B1, m1, d1, B2, m2, d2, B3, m3, d3, rfl⟩ := HM2.out.form; have HG := Lib.hid (HB.out.on HM2.out.below); obtain ⟨x0, x1, x2, x3⟩ := HG.out.room; obtain ⟨-, -, -, u3, u4, u5, u6⟩ := HG.out.frees))
  obtain ⟨hT, hmc, hbel⟩ := ms_end HP.out HB.out HM2.out
  exact bodyPost_ret (v := .agg #[.int .i64 n, .slice B1 m1 d1, .slice B2 m2 d2, .slice B3 m3 d3]) (results_cell_row rfl _ _ (h + 1) 31 _ (0, 0) _ rfl hT Tryd.underlying31 rfl (by kernel_rfl)) rfl ⟨_, rfl, hmc, hbel⟩

end Go.Proofs.YtjnfecaghkgdpaaDoor.Fast
