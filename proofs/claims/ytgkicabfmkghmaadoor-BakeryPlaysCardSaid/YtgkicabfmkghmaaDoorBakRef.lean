/-
  The reference's step of the lock for which one takes a number, line by line.
-/
import Derived.Test.YtgkicabfmkghmaaDoorMachMs
import Derived.Test.YtgkicabfmkghmaaDoorMachGoes
import Derived.Test.YtgkicabfmkghmaaDoorBakLk
namespace Go.Proofs.YtgkicabfmkghmaaDoor.Bakery
open Go.RowKit

theorem ms_drewN {P : Nat → Prop} {V W : World} {n : Int} {v : Value} {ws ls : List Int} {os : List (List Int)} (h : MS P V W n v ws ls os) (i : Nat) : MS P V (W.drewN i) n v ws ls os :=
  ⟨h.mc.keep (fun _ h => h) fun _ _ => rfl, below_drewN h.below i⟩
theorem ms_drew {P : Nat → Prop} {V W : World} {n : Int} {v : Value} {ws ls : List Int} {os : List (List Int)} (h : MS P V W n v ws ls os) : MS P V W.drew n v ws ls os :=
  ⟨h.mc.keep (fun _ h => h) fun _ _ => rfl, h.below.drew⟩
theorem ms_goes {P : Nat → Prop} {V W : World} {n : Int} {v : Value} {ws ls : List Int} {os : List (List Int)} (hP : ∀ b, P b → b < V.heap.size) (h : MS P V W n v ws ls os) (i : Nat) (may : Bool) (z a : Int) (hi : i < ls.length) (hl : ls.length ≤ 1000) (ha : ls[i]? = some a) (h0 : 0 ≤ a) (h1 : a ≤ 1000) :
    Calls Tryd.prog 18 #[v, .int .i64 i, .bool may, .int .i64 z] W fun e W' => ∃ v', e = .returned v' ∧ MS P V W' n v' ws (ls.set i (if may then a + 1 else z)) os :=
  (goes_any n v ws ls os i may z W (h.lt hP) h.mc hi hl a ha h0 h1).mono fun _ _ ⟨v', he, hm, hb⟩ => ⟨v', he, h.step hm hb⟩

set_option maxHeartbeats 4000000 in
set_option maxRecDepth 100000 in
theorem ref1 (n p k m : Nat) (v : Value) (ws ls : List Int) (os : List (List Int)) (w : World) {P : Nat → Prop} (hP : ∀ b, P b → b < w.heap.size) (h : Mc w P n v ws ls os)
    (hh : RefAt n p ws ls os) (hl : ls[p]? = some 1) (ho : os[p]? = some [(k : Int), (m : Int)]) (hpw : p < ws.length) :
    Calls Tryd.prog 9 #[v, .int .i64 p] w fun e w' => ∃ v', e = .returned v' ∧ Mc w' (New P w w') n v' (ws.set p 1) (ls.set p 2) (os.set p [0, 0]) ∧ Below w.heap.size w w' := by
  obtain ⟨hn, hp, h1, hwl, hls, hos⟩ := hh
  have hp2 : p < ls.length := (List.getElem?_eq_some_iff.1 hl).1
  have hp3 : p < os.length := (List.getElem?_eq_some_iff.1 ho).1
  have hp2I : (p : Int) < ls.length := by omega
  have hp3I : (p : Int) < os.length := by omega
  have HM := Lib.hid h
  obtain ⟨b1, o1, c1, b2, o2, c2, b3, o3, c3, bp, op, cp, rfl, hread⟩ := mc_open hP h h1 hl ho (by simp)
  obtain ⟨wv, av, ov, e, k1, k2, k3⟩ := h
  injection e with e
  simp at e
  obtain ⟨rfl, rfl, rfl⟩ := e
  have HF := Lib.hid (MBox.made (x3 := .slice (some ⟨b3, o3, none⟩) os.length c3) (n := n) w _ (k1.nums hP) (k2.nums hP) rfl)
  have HP := Lib.hid hP
  have HRD := Lib.hid hread
  clear hP hread k1 k2 k3
  go_enter Tryd.func9, Tryd.ntmps9
  go_upto_region 1 with fail
  obtain ⟨V, hV⟩ : ∃ V, V = (w.alloc (.cells #[.int .i64 n, .slice (some ⟨b1, o1, none⟩) ws.length c1, .slice (some ⟨b2, o2, none⟩) ls.length c2, .slice (some ⟨b3, o3, none⟩) os.length c3] 31)).alloc (.cells #[.int .i64 0, .slice none 0 0, .slice none 0 0, .slice none 0 0] 31) := ⟨_, rfl⟩
  rw [← hV] at HF
  rw [← hV]
  obtain ⟨h, hh⟩ : ∃ h, h = w.heap.size := ⟨_, rfl⟩
  have HB := Lib.hid (show MBox w V h n _ _ _ ws ls by rw [hh]; exact HF.out)
  rw [← hh]
  clear hV hh HF
  have HPV := Lib.hid (show ∀ b, P b → b < V.heap.size from fun b hb => Nat.lt_of_lt_of_le (HP.out b hb) HB.out.below.size)
  have HM0 := Lib.hid (MS.start (HM.out.keep (fun _ h => h) (fun p hp => HB.out.below.cell (HP.out _ hp))))
  obtain ⟨y0, y1, y2, y3⟩ := HB.out.cells
  obtain ⟨r1, r2, r3, r4⟩ := HRD.out V HB.out.below
  have R1 := Lib.hid r1
  have r40 := r4 0 _ rfl
  rw [Nat.add_zero] at r40
  have r41 := r4 1 _ rfl
  clear r1 r4
  go_wp2_with (first | (go_at_call 17; (with_reducible refine (ms_own20 HPV.out HM0.out p 0 _ _ ho hos).mono ?_); rintro e w1 ⟨v1, rfl, hm⟩; have HM1 := Lib.hid hm; clear hm) | (go_at_call 17; (with_reducible refine (ms_own21 HPV.out HM1.out p 0 _ _ (set_get ho) (by simpa using hos)).mono ?_); rintro e w2 ⟨v2, rfl, hm⟩; have HM2 := Lib.hid hm; clear hm) | (go_at_call 16; (with_reducible refine (ms_word HPV.out HM2.out p 1 hpw hwl).mono ?_); rintro e w3 ⟨v3, rfl, hm⟩; have HM3 := Lib.hid hm; clear hm) | (go_at_call 15; (with_reducible refine (ms_to HPV.out HM3.out p 2 (by simpa using hp2) (by simpa using hls)).mono ?_); rintro e w4 ⟨v4, rfl, hm⟩; have HM4 := Lib.hid hm; clear hm; obtain ⟨B1, m1, d1, B2, m2, d2, B3, m3, d3, rfl⟩ := HM4.out.form; have HG := Lib.hid (HB.out.on HM4.out.below); obtain ⟨x0, x1, x2, x3⟩ := HG.out.room; obtain ⟨-, -, -, u3, u4, u5, u6⟩ := HG.out.frees))
  obtain ⟨hT, hmc, hbel⟩ := ms_end HP.out HB.out HM4.out
  rw [List.set_set] at hmc
  exact bodyPost_ret (v := .agg #[.int .i64 n, .slice B1 m1 d1, .slice B2 m2 d2, .slice B3 m3 d3]) (results_cell_row rfl _ _ (h + 1) 31 _ (0, 0) _ rfl hT Tryd.underlying31 rfl (by kernel_rfl)) rfl ⟨_, rfl, hmc, hbel⟩


set_option maxHeartbeats 4000000 in
set_option maxRecDepth 100000 in
theorem ref2sn (n p k m d k1 x : Nat) (v : Value) (ws ls : List Int) (os : List (List Int)) (w : World) {P : Nat → Prop} (hP : ∀ b, P b → b < w.heap.size) (h : Mc w P n v ws ls os)
    (hh : RefAt n p ws ls os) (hl : ls[p]? = some 2) (ho : os[p]? = some [(k : Int), (m : Int)]) (_hkk : k ≤ 100) (hd : d = n + k) (hk1 : k1 = k + 1) (hx : ws[d]? = some (x : Int)) (hdw : d < ws.length) (hkn : k1 = n) (hb : ¬ m < x) :
    Calls Tryd.prog 9 #[v, .int .i64 p] w fun e w' => ∃ v', e = .returned v' ∧ Mc w' (New P w w') n v' ws (ls.set p 3) (os.set p [(k1 : Int), (m : Int)]) ∧ Below w.heap.size w w' := by
  obtain ⟨hn, hp, h1, hwl, hls, hos⟩ := hh
  have hp2 : p < ls.length := (List.getElem?_eq_some_iff.1 hl).1
  have hp3 : p < os.length := (List.getElem?_eq_some_iff.1 ho).1
  have hp2I : (p : Int) < ls.length := by omega
  have hp3I : (p : Int) < os.length := by omega
  have HM := Lib.hid h
  obtain ⟨b1, o1, c1, b2, o2, c2, b3, o3, c3, bp, op, cp, rfl, hread⟩ := mc_open hP h h1 hl ho (by simp)
  obtain ⟨wv, av, ov, e, k1, k2, k3⟩ := h
  injection e with e
  simp at e
  obtain ⟨rfl, rfl, rfl⟩ := e
  have HF := Lib.hid (MBox.made (x3 := .slice (some ⟨b3, o3, none⟩) os.length c3) (n := n) w _ (k1.nums hP) (k2.nums hP) rfl)
  have HP := Lib.hid hP
  have HRD := Lib.hid hread
  clear hP hread k1 k2 k3
  have hwr1 : IntKind.i64.wrap ((n : Int) + (k : Int)) = (d : Int) := by rw [show (d : Int) = (n : Int) + (k : Int) by omega]; exact IntWalk.i64_in _ (by omega)
  have hwr2 : IntKind.i64.wrap ((k : Int) + 1) = (k1 : Int) := by rw [hk1]; exact IntWalk.i64_in _ (by omega)
  clear hd hk1
  have hen : ((k1 : Int) == (n : Int)) = true := by simp; omega
  have henn : (k1 == n) = true := by simp; omega
  clear hkn
  have hbI : ¬ (m : Int) < (x : Int) := by omega
  have hbN : decide (m < x) = false := decide_eq_false hb
  go_enter Tryd.func9, Tryd.ntmps9
  go_upto_region 1 with fail
  obtain ⟨V, hV⟩ : ∃ V, V = (w.alloc (.cells #[.int .i64 n, .slice (some ⟨b1, o1, none⟩) ws.length c1, .slice (some ⟨b2, o2, none⟩) ls.length c2, .slice (some ⟨b3, o3, none⟩) os.length c3] 31)).alloc (.cells #[.int .i64 0, .slice none 0 0, .slice none 0 0, .slice none 0 0] 31) := ⟨_, rfl⟩
  rw [← hV] at HF
  rw [← hV]
  obtain ⟨h, hh⟩ : ∃ h, h = w.heap.size := ⟨_, rfl⟩
  have HB := Lib.hid (show MBox w V h n _ _ _ ws ls by rw [hh]; exact HF.out)
  rw [← hh]
  clear hV hh HF
  have HPV := Lib.hid (show ∀ b, P b → b < V.heap.size from fun b hb => Nat.lt_of_lt_of_le (HP.out b hb) HB.out.below.size)
  have HM0 := Lib.hid (MS.start (HM.out.keep (fun _ h => h) (fun p hp => HB.out.below.cell (HP.out _ hp))))
  obtain ⟨y0, y1, y2, y3⟩ := HB.out.cells
  obtain ⟨r1, r2, r3, r4⟩ := HRD.out V HB.out.below
  have R1 := Lib.hid r1
  have r40 := r4 0 _ rfl
  rw [Nat.add_zero] at r40
  have r41 := r4 1 _ rfl
  clear r1 r4
  have r5 := R1.out d x hx
  have hdI : (d : Int) < ws.length := by omega
  go_wp2_with fail
  go_quiet (fail)
  clear hb
  go_wp2_with (first | (go_at_call 17; (with_reducible refine (ms_own20 HPV.out (ms_drewN HM0.out _) p k1 _ _ ho hos).mono ?_); rintro e w1 ⟨v1, rfl, hm⟩; have HM1 := Lib.hid hm; clear hm) | (go_at_call 18; (with_reducible refine (ms_goes HPV.out HM1.out p true 2 2 (by simpa using hp2) (by simpa using hls) hl (by omega) (by omega)).mono ?_); rintro e w2 ⟨v2, rfl, hm⟩; have HM2 := Lib.hid hm; clear hm; obtain ⟨B1, m1, d1, B2, m2, d2, B3, m3, d3, rfl⟩ := HM2.out.form; have HG := Lib.hid (HB.out.on HM2.out.below); obtain ⟨x0, x1, x2, x3⟩ := HG.out.room; obtain ⟨-, -, -, u3, u4, u5, u6⟩ := HG.out.frees))
  obtain ⟨hT, hmc, hbel⟩ := ms_end HP.out HB.out HM2.out
  exact bodyPost_ret (v := .agg #[.int .i64 n, .slice B1 m1 d1, .slice B2 m2 d2, .slice B3 m3 d3]) (results_cell_row rfl _ _ (h + 1) 31 _ (0, 0) _ rfl hT Tryd.underlying31 rfl (by kernel_rfl)) rfl ⟨_, rfl, hmc, hbel⟩


set_option maxHeartbeats 4000000 in
set_option maxRecDepth 100000 in
theorem ref2gn (n p k m d k1 x : Nat) (v : Value) (ws ls : List Int) (os : List (List Int)) (w : World) {P : Nat → Prop} (hP : ∀ b, P b → b < w.heap.size) (h : Mc w P n v ws ls os)
    (hh : RefAt n p ws ls os) (hl : ls[p]? = some 2) (ho : os[p]? = some [(k : Int), (m : Int)]) (_hkk : k ≤ 100) (hd : d = n + k) (hk1 : k1 = k + 1) (hx : ws[d]? = some (x : Int)) (hdw : d < ws.length) (hkn : k1 = n) (hb : m < x) :
    Calls Tryd.prog 9 #[v, .int .i64 p] w fun e w' => ∃ v', e = .returned v' ∧ Mc w' (New P w w') n v' ws (ls.set p 3) (os.set p [(k1 : Int), (x : Int)]) ∧ Below w.heap.size w w' := by
  obtain ⟨hn, hp, h1, hwl, hls, hos⟩ := hh
  have hp2 : p < ls.length := (List.getElem?_eq_some_iff.1 hl).1
  have hp3 : p < os.length := (List.getElem?_eq_some_iff.1 ho).1
  have hp2I : (p : Int) < ls.length := by omega
  have hp3I : (p : Int) < os.length := by omega
  have HM := Lib.hid h
  obtain ⟨b1, o1, c1, b2, o2, c2, b3, o3, c3, bp, op, cp, rfl, hread⟩ := mc_open hP h h1 hl ho (by simp)
  obtain ⟨wv, av, ov, e, k1, k2, k3⟩ := h
  injection e with e
  simp at e
  obtain ⟨rfl, rfl, rfl⟩ := e
  have HF := Lib.hid (MBox.made (x3 := .slice (some ⟨b3, o3, none⟩) os.length c3) (n := n) w _ (k1.nums hP) (k2.nums hP) rfl)
  have HP := Lib.hid hP
  have HRD := Lib.hid hread
  clear hP hread k1 k2 k3
  have hwr1 : IntKind.i64.wrap ((n : Int) + (k : Int)) = (d : Int) := by rw [show (d : Int) = (n : Int) + (k : Int) by omega]; exact IntWalk.i64_in _ (by omega)
  have hwr2 : IntKind.i64.wrap ((k : Int) + 1) = (k1 : Int) := by rw [hk1]; exact IntWalk.i64_in _ (by omega)
  clear hd hk1
  have hen : ((k1 : Int) == (n : Int)) = true := by simp; omega
  have henn : (k1 == n) = true := by simp; omega
  clear hkn
  have hbI : (m : Int) < (x : Int) := by omega
  have hbN : decide (m < x) = true := decide_eq_true hb
  go_enter Tryd.func9, Tryd.ntmps9
  go_upto_region 1 with fail
  obtain ⟨V, hV⟩ : ∃ V, V = (w.alloc (.cells #[.int .i64 n, .slice (some ⟨b1, o1, none⟩) ws.length c1, .slice (some ⟨b2, o2, none⟩) ls.length c2, .slice (some ⟨b3, o3, none⟩) os.length c3] 31)).alloc (.cells #[.int .i64 0, .slice none 0 0, .slice none 0 0, .slice none 0 0] 31) := ⟨_, rfl⟩
  rw [← hV] at HF
  rw [← hV]
  obtain ⟨h, hh⟩ : ∃ h, h = w.heap.size := ⟨_, rfl⟩
  have HB := Lib.hid (show MBox w V h n _ _ _ ws ls by rw [hh]; exact HF.out)
  rw [← hh]
  clear hV hh HF
  have HPV := Lib.hid (show ∀ b, P b → b < V.heap.size from fun b hb => Nat.lt_of_lt_of_le (HP.out b hb) HB.out.below.size)
  have HM0 := Lib.hid (MS.start (HM.out.keep (fun _ h => h) (fun p hp => HB.out.below.cell (HP.out _ hp))))
  obtain ⟨y0, y1, y2, y3⟩ := HB.out.cells
  obtain ⟨r1, r2, r3, r4⟩ := HRD.out V HB.out.below
  have R1 := Lib.hid r1
  have r40 := r4 0 _ rfl
  rw [Nat.add_zero] at r40
  have r41 := r4 1 _ rfl
  clear r1 r4
  have r5 := R1.out d x hx
  have hdI : (d : Int) < ws.length := by omega
  go_wp2_with fail
  go_quiet (fail)
  clear hb
  go_wp2_with fail
  go_region_with (go_at_call 17; (with_reducible refine (ms_own21 HPV.out (ms_drewN HM0.out _) p x _ _ ho hos).mono ?_); rintro e w1 ⟨v1, rfl, hm⟩; have HM1 := Lib.hid hm; clear hm; obtain ⟨B1, m1, d1, B2, m2, d2, B3, m3, d3, rfl⟩ := HM1.out.form; have HG := Lib.hid (HB.out.on HM1.out.below); obtain ⟨x0, x1, x2, x3⟩ := HG.out.cells; obtain ⟨u0, u1, u2, -⟩ := HG.out.frees; have u3 := HG.out.one.free 0)
  all_goals
    have hPn : ∀ b, New P V w1 b → b < w1.heap.size ∧ b ≠ h := fun b hb => ⟨HM1.out.lt HPV.out b hb, fun e => by
      have h0 := HB.out.one.lt
      have h1 := HB.out.low
      rcases hb with hb | hb
      · have := HP.out b hb; omega
      · omega⟩
    obtain ⟨hS, hM3, hs3, hoff⟩ := HG.out.store HM1.out.mc hPn
    obtain ⟨U, hU⟩ : ∃ U, U = ((((w1.setCell ⟨h, 0, none⟩ (.int .i64 n)).setCell ⟨h, 1, none⟩ (.slice B1 m1 d1)).setCell ⟨h, 2, none⟩ (.slice B2 m2 d2)).setCell ⟨h, 3, none⟩ (.slice B3 m3 d3)) := ⟨_, rfl⟩
    rw [← hU] at hS hM3 hs3
    rw [← hU]
    have HS := Lib.hid hS
    have HM3 := Lib.hid (MS.start hM3)
    have HP3 := Lib.hid (show ∀ b, New P V w1 b → b < U.heap.size from fun b hb => hs3 ▸ (hPn b hb).1)
    have HPN := Lib.hid (show ∀ b, New P V w1 b → b ≠ h + 1 ∧ (P b ∨ (w.heap.size ≤ b ∧ b < U.heap.size)) from fun b hb => by
      have h0 := HB.out.two.lt
      have h1 := HB.out.low
      have h2 := HB.out.below.size
      rcases hb with hb | hb
      · have := HP.out b hb
        exact ⟨by omega, Or.inl hb⟩
      · exact ⟨by omega, Or.inr ⟨by omega, by omega⟩⟩)
    clear hS hM3 hs3 hU hPn hoff y0 r2 r3 r40 r41 r5 x0 x1 x2 x3 u0 u1 u2 u3
    obtain ⟨y0, y1, y2, y3⟩ := HS.out.cells
    go_wp2_with (first | (go_at_call 17; (with_reducible refine (ms_own20 HP3.out HM3.out p k1 _ _ (set_get ho) (by simpa using hos)).mono ?_); rintro e w4 ⟨v4, rfl, hm⟩; have HM4 := Lib.hid hm; clear hm) | (go_at_call 18; (with_reducible refine (ms_goes HP3.out HM4.out p true 2 2 (by simpa using hp2) (by simpa using hls) hl (by omega) (by omega)).mono ?_); rintro e w5 ⟨v5, rfl, hm⟩; have HM5 := Lib.hid hm; clear hm; obtain ⟨E1, n1, e1, E2, n2, e2, E3, n3, e3, rfl⟩ := HM5.out.form; have HG5 := Lib.hid (HS.out.on HM5.out.below); obtain ⟨x0, x1, x2, x3⟩ := HG5.out.room; obtain ⟨-, -, -, u3, u4, u5, u6⟩ := HG5.out.frees))
    obtain ⟨hT, hmc, hbel⟩ := ms_end2 HS.out HPN.out HM5.out
    rw [List.set_set] at hmc
    exact bodyPost_ret (v := .agg #[.int .i64 n, .slice E1 n1 e1, .slice E2 n2 e2, .slice E3 n3 e3]) (results_cell_row rfl _ _ (h + 1) 31 _ (0, 0) _ rfl hT Tryd.underlying31 rfl (by kernel_rfl)) rfl ⟨_, rfl, hmc, hbel⟩


set_option maxHeartbeats 4000000 in
set_option maxRecDepth 100000 in
theorem ref2ss (n p k m d k1 x : Nat) (v : Value) (ws ls : List Int) (os : List (List Int)) (w : World) {P : Nat → Prop} (hP : ∀ b, P b → b < w.heap.size) (h : Mc w P n v ws ls os)
    (hh : RefAt n p ws ls os) (hl : ls[p]? = some 2) (ho : os[p]? = some [(k : Int), (m : Int)]) (_hkk : k ≤ 100) (hd : d = n + k) (hk1 : k1 = k + 1) (hx : ws[d]? = some (x : Int)) (hdw : d < ws.length) (hkn : k1 ≠ n) (hb : ¬ m < x) :
    Calls Tryd.prog 9 #[v, .int .i64 p] w fun e w' => ∃ v', e = .returned v' ∧ Mc w' (New P w w') n v' ws (ls.set p 2) (os.set p [(k1 : Int), (m : Int)]) ∧ Below w.heap.size w w' := by
  obtain ⟨hn, hp, h1, hwl, hls, hos⟩ := hh
  have hp2 : p < ls.length := (List.getElem?_eq_some_iff.1 hl).1
  have hp3 : p < os.length := (List.getElem?_eq_some_iff.1 ho).1
  have hp2I : (p : Int) < ls.length := by omega
  have hp3I : (p : Int) < os.length := by omega
  have HM := Lib.hid h
  obtain ⟨b1, o1, c1, b2, o2, c2, b3, o3, c3, bp, op, cp, rfl, hread⟩ := mc_open hP h h1 hl ho (by simp)
  obtain ⟨wv, av, ov, e, k1, k2, k3⟩ := h
  injection e with e
  simp at e
  obtain ⟨rfl, rfl, rfl⟩ := e
  have HF := Lib.hid (MBox.made (x3 := .slice (some ⟨b3, o3, none⟩) os.length c3) (n := n) w _ (k1.nums hP) (k2.nums hP) rfl)
  have HP := Lib.hid hP
  have HRD := Lib.hid hread
  clear hP hread k1 k2 k3
  have hwr1 : IntKind.i64.wrap ((n : Int) + (k : Int)) = (d : Int) := by rw [show (d : Int) = (n : Int) + (k : Int) by omega]; exact IntWalk.i64_in _ (by omega)
  have hwr2 : IntKind.i64.wrap ((k : Int) + 1) = (k1 : Int) := by rw [hk1]; exact IntWalk.i64_in _ (by omega)
  clear hd hk1
  have hen : ((k1 : Int) == (n : Int)) = false := by simp; omega
  have henn : (k1 == n) = false := by simp; omega
  clear hkn
  have hbI : ¬ (m : Int) < (x : Int) := by omega
  have hbN : decide (m < x) = false := decide_eq_false hb
  go_enter Tryd.func9, Tryd.ntmps9
  go_upto_region 1 with fail
  obtain ⟨V, hV⟩ : ∃ V, V = (w.alloc (.cells #[.int .i64 n, .slice (some ⟨b1, o1, none⟩) ws.length c1, .slice (some ⟨b2, o2, none⟩) ls.length c2, .slice (some ⟨b3, o3, none⟩) os.length c3] 31)).alloc (.cells #[.int .i64 0, .slice none 0 0, .slice none 0 0, .slice none 0 0] 31) := ⟨_, rfl⟩
  rw [← hV] at HF
  rw [← hV]
  obtain ⟨h, hh⟩ : ∃ h, h = w.heap.size := ⟨_, rfl⟩
  have HB := Lib.hid (show MBox w V h n _ _ _ ws ls by rw [hh]; exact HF.out)
  rw [← hh]
  clear hV hh HF
  have HPV := Lib.hid (show ∀ b, P b → b < V.heap.size from fun b hb => Nat.lt_of_lt_of_le (HP.out b hb) HB.out.below.size)
  have HM0 := Lib.hid (MS.start (HM.out.keep (fun _ h => h) (fun p hp => HB.out.below.cell (HP.out _ hp))))
  obtain ⟨y0, y1, y2, y3⟩ := HB.out.cells
  obtain ⟨r1, r2, r3, r4⟩ := HRD.out V HB.out.below
  have R1 := Lib.hid r1
  have r40 := r4 0 _ rfl
  rw [Nat.add_zero] at r40
  have r41 := r4 1 _ rfl
  clear r1 r4
  have r5 := R1.out d x hx
  have hdI : (d : Int) < ws.length := by omega
  go_wp2_with fail
  go_quiet (fail)
  clear hb
  go_wp2_with (first | (go_at_call 17; (with_reducible refine (ms_own20 HPV.out (ms_drewN HM0.out _) p k1 _ _ ho hos).mono ?_); rintro e w1 ⟨v1, rfl, hm⟩; have HM1 := Lib.hid hm; clear hm) | (go_at_call 18; (with_reducible refine (ms_goes HPV.out HM1.out p false 2 2 (by simpa using hp2) (by simpa using hls) hl (by omega) (by omega)).mono ?_); rintro e w2 ⟨v2, rfl, hm⟩; have HM2 := Lib.hid hm; clear hm; obtain ⟨B1, m1, d1, B2, m2, d2, B3, m3, d3, rfl⟩ := HM2.out.form; have HG := Lib.hid (HB.out.on HM2.out.below); obtain ⟨x0, x1, x2, x3⟩ := HG.out.room; obtain ⟨-, -, -, u3, u4, u5, u6⟩ := HG.out.frees))
  obtain ⟨hT, hmc, hbel⟩ := ms_end HP.out HB.out HM2.out
  exact bodyPost_ret (v := .agg #[.int .i64 n, .slice B1 m1 d1, .slice B2 m2 d2, .slice B3 m3 d3]) (results_cell_row rfl _ _ (h + 1) 31 _ (0, 0) _ rfl hT Tryd.underlying31 rfl (by kernel_rfl)) rfl ⟨_, rfl, hmc, hbel⟩


set_option maxHeartbeats 4000000 in
set_option maxRecDepth 100000 in
theorem ref2gs (n p k m d k1 x : Nat) (v : Value) (ws ls : List Int) (os : List (List Int)) (w : World) {P : Nat → Prop} (hP : ∀ b, P b → b < w.heap.size) (h : Mc w P n v ws ls os)
    (hh : RefAt n p ws ls os) (hl : ls[p]? = some 2) (ho : os[p]? = some [(k : Int), (m : Int)]) (_hkk : k ≤ 100) (hd : d = n + k) (hk1 : k1 = k + 1) (hx : ws[d]? = some (x : Int)) (hdw : d < ws.length) (hkn : k1 ≠ n) (hb : m < x) :
    Calls Tryd.prog 9 #[v, .int .i64 p] w fun e w' => ∃ v', e = .returned v' ∧ Mc w' (New P w w') n v' ws (ls.set p 2) (os.set p [(k1 : Int), (x : Int)]) ∧ Below w.heap.size w w' := by
  obtain ⟨hn, hp, h1, hwl, hls, hos⟩ := hh
  have hp2 : p < ls.length := (List.getElem?_eq_some_iff.1 hl).1
  have hp3 : p < os.length := (List.getElem?_eq_some_iff.1 ho).1
  have hp2I : (p : Int) < ls.length := by omega
  have hp3I : (p : Int) < os.length := by omega
  have HM := Lib.hid h
  obtain ⟨b1, o1, c1, b2, o2, c2, b3, o3, c3, bp, op, cp, rfl, hread⟩ := mc_open hP h h1 hl ho (by simp)
  obtain ⟨wv, av, ov, e, k1, k2, k3⟩ := h
  injection e with e
  simp at e
  obtain ⟨rfl, rfl, rfl⟩ := e
  have HF := Lib.hid (MBox.made (x3 := .slice (some ⟨b3, o3, none⟩) os.length c3) (n := n) w _ (k1.nums hP) (k2.nums hP) rfl)
  have HP := Lib.hid hP
  have HRD := Lib.hid hread
  clear hP hread k1 k2 k3
  have hwr1 : IntKind.i64.wrap ((n : Int) + (k : Int)) = (d : Int) := by rw [show (d : Int) = (n : Int) + (k : Int) by omega]; exact IntWalk.i64_in _ (by omega)
  have hwr2 : IntKind.i64.wrap ((k : Int) + 1) = (k1 : Int) := by rw [hk1]; exact IntWalk.i64_in _ (by omega)
  clear hd hk1
  have hen : ((k1 : Int) == (n : Int)) = false := by simp; omega
  have henn : (k1 == n) = false := by simp; omega
  clear hkn
  have hbI : (m : Int) < (x : Int) := by omega
  have hbN : decide (m < x) = true := decide_eq_true hb
  go_enter Tryd.func9, Tryd.ntmps9
  go_upto_region 1 with fail
  obtain ⟨V, hV⟩ : ∃ V, V = (w.alloc (.cells #[.int .i64 n, .slice (some ⟨b1, o1, none⟩) ws.length c1, .slice (some ⟨b2, o2, none⟩) ls.length c2, .slice (some ⟨b3, o3, none⟩) os.length c3] 31)).alloc (.cells #[.int .i64 0, .slice none 0 0, .slice none 0 0, .slice none 0 0] 31) := ⟨_, rfl⟩
  rw [← hV] at HF
  rw [← hV]
  obtain ⟨h, hh⟩ : ∃ h, h = w.heap.size := ⟨_, rfl⟩
  have HB := Lib.hid (show MBox w V h n _ _ _ ws ls by rw [hh]; exact HF.out)
  rw [← hh]
  clear hV hh HF
  have HPV := Lib.hid (show ∀ b, P b → b < V.heap.size from fun b hb => Nat.lt_of_lt_of_le (HP.out b hb) HB.out.below.size)
  have HM0 := Lib.hid (MS.start (HM.out.keep (fun _ h => h) (fun p hp => HB.out.below.cell (HP.out _ hp))))
  obtain ⟨y0, y1, y2, y3⟩ := HB.out.cells
  obtain ⟨r1, r2, r3, r4⟩ := HRD.out V HB.out.below
  have R1 := Lib.hid r1
  have r40 := r4 0 _ rfl
  rw [Nat.add_zero] at r40
  have r41 := r4 1 _ rfl
  clear r1 r4
  have r5 := R1.out d x hx
  have hdI : (d : Int) < ws.length := by omega
  go_wp2_with fail
  go_quiet (fail)
  clear hb
  go_wp2_with fail
  go_region_with (go_at_call 17; (with_reducible refine (ms_own21 HPV.out (ms_drewN HM0.out _) p x _ _ ho hos).mono ?_); rintro e w1 ⟨v1, rfl, hm⟩; have HM1 := Lib.hid hm; clear hm; obtain ⟨B1, m1, d1, B2, m2, d2, B3, m3, d3, rfl⟩ := HM1.out.form; have HG := Lib.hid (HB.out.on HM1.out.below); obtain ⟨x0, x1, x2, x3⟩ := HG.out.cells; obtain ⟨u0, u1, u2, -⟩ := HG.out.frees; have u3 := HG.out.one.free 0)
  all_goals
    have hPn : ∀ b, New P V w1 b → b < w1.heap.size ∧ b ≠ h := fun b hb => ⟨HM1.out.lt HPV.out b hb, fun e => by
      have h0 := HB.out.one.lt
      have h1 := HB.out.low
      rcases hb with hb | hb
      · have := HP.out b hb; omega
      · omega⟩
    obtain ⟨hS, hM3, hs3, hoff⟩ := HG.out.store HM1.out.mc hPn
    obtain ⟨U, hU⟩ : ∃ U, U = ((((w1.setCell ⟨h, 0, none⟩ (.int .i64 n)).setCell ⟨h, 1, none⟩ (.slice B1 m1 d1)).setCell ⟨h, 2, none⟩ (.slice B2 m2 d2)).setCell ⟨h, 3, none⟩ (.slice B3 m3 d3)) := ⟨_, rfl⟩
    rw [← hU] at hS hM3 hs3
    rw [← hU]
    have HS := Lib.hid hS
    have HM3 := Lib.hid (MS.start hM3)
    have HP3 := Lib.hid (show ∀ b, New P V w1 b → b < U.heap.size from fun b hb => hs3 ▸ (hPn b hb).1)
    have HPN := Lib.hid (show ∀ b, New P V w1 b → b ≠ h + 1 ∧ (P b ∨ (w.heap.size ≤ b ∧ b < U.heap.size)) from fun b hb => by
      have h0 := HB.out.two.lt
      have h1 := HB.out.low
      have h2 := HB.out.below.size
      rcases hb with hb | hb
      · have := HP.out b hb
        exact ⟨by omega, Or.inl hb⟩
      · exact ⟨by omega, Or.inr ⟨by omega, by omega⟩⟩)
    clear hS hM3 hs3 hU hPn hoff y0 r2 r3 r40 r41 r5 x0 x1 x2 x3 u0 u1 u2 u3
    obtain ⟨y0, y1, y2, y3⟩ := HS.out.cells
    go_wp2_with (first | (go_at_call 17; (with_reducible refine (ms_own20 HP3.out HM3.out p k1 _ _ (set_get ho) (by simpa using hos)).mono ?_); rintro e w4 ⟨v4, rfl, hm⟩; have HM4 := Lib.hid hm; clear hm) | (go_at_call 18; (with_reducible refine (ms_goes HP3.out HM4.out p false 2 2 (by simpa using hp2) (by simpa using hls) hl (by omega) (by omega)).mono ?_); rintro e w5 ⟨v5, rfl, hm⟩; have HM5 := Lib.hid hm; clear hm; obtain ⟨E1, n1, e1, E2, n2, e2, E3, n3, e3, rfl⟩ := HM5.out.form; have HG5 := Lib.hid (HS.out.on HM5.out.below); obtain ⟨x0, x1, x2, x3⟩ := HG5.out.room; obtain ⟨-, -, -, u3, u4, u5, u6⟩ := HG5.out.frees))
    obtain ⟨hT, hmc, hbel⟩ := ms_end2 HS.out HPN.out HM5.out
    rw [List.set_set] at hmc
    exact bodyPost_ret (v := .agg #[.int .i64 n, .slice E1 n1 e1, .slice E2 n2 e2, .slice E3 n3 e3]) (results_cell_row rfl _ _ (h + 1) 31 _ (0, 0) _ rfl hT Tryd.underlying31 rfl (by kernel_rfl)) rfl ⟨_, rfl, hmc, hbel⟩

end Go.Proofs.YtgkicabfmkghmaaDoor.Bakery
