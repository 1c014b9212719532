/-
  The reference's step of the lock whose hands look at the one ahead, line by line.
-/
import Derived.Test.YtobfaohcadmopaaDoorMachMs
import Derived.Test.YtobfaohcadmopaaDoorMachGoes
import Derived.Test.YtobfaohcadmopaaDoorClhLk
namespace Go.Proofs.YtobfaohcadmopaaDoor.Clh
open Go.RowKit

theorem ms_drewN {P : Nat → Prop} {V W : World} {n : Int} {v : Value} {ws ls : List Int} {os : List (List Int)} (h : MS P V W n v ws ls os) (i : Nat) : MS P V (W.drewN i) n v ws ls os :=
  ⟨h.mc.keep (fun _ h => h) fun _ _ => rfl, below_drewN h.below i⟩
theorem ms_drew {P : Nat → Prop} {V W : World} {n : Int} {v : Value} {ws ls : List Int} {os : List (List Int)} (h : MS P V W n v ws ls os) : MS P V W.drew n v ws ls os :=
  ⟨h.mc.keep (fun _ h => h) fun _ _ => rfl, h.below.drew⟩
theorem ms_goes {P : Nat → Prop} {V W : World} {n : Int} {v : Value} {ws ls : List Int} {os : List (List Int)} (hP : ∀ b, P b → b < V.heap.size) (h : MS P V W n v ws ls os) (i : Nat) (may : Bool) (z a : Int) (hi : i < ls.length) (hl : ls.length ≤ 1000) (ha : ls[i]? = some a) (h0 : 0 ≤ a) (h1 : a ≤ 1000) :
    Calls Tryd.prog 20 #[v, .int .i64 i, .bool may, .int .i64 z] W fun e W' => ∃ v', e = .returned v' ∧ MS P V W' n v' ws (ls.set i (if may then a + 1 else z)) os :=
  (goes_any n v ws ls os i may z W (h.lt hP) h.mc hi hl a ha h0 h1).mono fun _ _ ⟨v', he, hm, hb⟩ => ⟨v', he, h.step hm hb⟩
theorem ms_w0 {P : Nat → Prop} {V W : World} {n : Int} {v : Value} {ws ls : List Int} {os : List (List Int)} (hP : ∀ b, P b → b < V.heap.size) (h : MS P V W n v ws ls os) (z : Int) (hi : 0 < ws.length) (hl : ws.length ≤ 1000) :
    Calls Tryd.prog 19 #[v, .int .i64 0, .int .i64 z] W fun e W' => ∃ v', e = .returned v' ∧ MS P V W' n v' (ws.set 0 z) ls os := ms_word hP h 0 z hi hl

theorem held5 {V W : World} (hb : Below V.heap.size V W) {a b c d e : Addr} {u1 u2 u3 u4 u5 : Value} (h : V.cell? a = some u1 ∧ V.cell? b = some u2 ∧ V.cell? c = some u3 ∧ V.cell? d = some u4 ∧ V.cell? e = some u5) :
    W.cell? a = some u1 ∧ W.cell? b = some u2 ∧ W.cell? c = some u3 ∧ W.cell? d = some u4 ∧ W.cell? e = some u5 :=
  ⟨(hb.cell (lt_of_cell h.1)).trans h.1, (hb.cell (lt_of_cell h.2.1)).trans h.2.1, (hb.cell (lt_of_cell h.2.2.1)).trans h.2.2.1, (hb.cell (lt_of_cell h.2.2.2.1)).trans h.2.2.2.1, (hb.cell (lt_of_cell h.2.2.2.2)).trans h.2.2.2.2⟩
theorem held7 {V W : World} (hb : Below V.heap.size V W) {a b c d e f g : Addr} {u1 u2 u3 u4 u5 u6 u7 : Value} (h : V.cell? a = some u1 ∧ V.cell? b = some u2 ∧ V.cell? c = some u3 ∧ V.cell? d = some u4 ∧ V.cell? e = some u5 ∧ V.cell? f = some u6 ∧ V.cell? g = some u7) :
    W.cell? a = some u1 ∧ W.cell? b = some u2 ∧ W.cell? c = some u3 ∧ W.cell? d = some u4 ∧ W.cell? e = some u5 ∧ W.cell? f = some u6 ∧ W.cell? g = some u7 :=
  ⟨(hb.cell (lt_of_cell h.1)).trans h.1, (hb.cell (lt_of_cell h.2.1)).trans h.2.1, (hb.cell (lt_of_cell h.2.2.1)).trans h.2.2.1, (hb.cell (lt_of_cell h.2.2.2.1)).trans h.2.2.2.1, (hb.cell (lt_of_cell h.2.2.2.2.1)).trans h.2.2.2.2.1, (hb.cell (lt_of_cell h.2.2.2.2.2.1)).trans h.2.2.2.2.2.1, (hb.cell (lt_of_cell h.2.2.2.2.2.2)).trans h.2.2.2.2.2.2⟩

theorem held6 {V W : World} (hb : Below V.heap.size V W) {a b c d e f : Addr} {u1 u2 u3 u4 u5 u6 : Value} (h : V.cell? a = some u1 ∧ V.cell? b = some u2 ∧ V.cell? c = some u3 ∧ V.cell? d = some u4 ∧ V.cell? e = some u5 ∧ V.cell? f = some u6) :
    W.cell? a = some u1 ∧ W.cell? b = some u2 ∧ W.cell? c = some u3 ∧ W.cell? d = some u4 ∧ W.cell? e = some u5 ∧ W.cell? f = some u6 :=
  ⟨(hb.cell (lt_of_cell h.1)).trans h.1, (hb.cell (lt_of_cell h.2.1)).trans h.2.1, (hb.cell (lt_of_cell h.2.2.1)).trans h.2.2.1, (hb.cell (lt_of_cell h.2.2.2.1)).trans h.2.2.2.1, (hb.cell (lt_of_cell h.2.2.2.2.1)).trans h.2.2.2.2.1, (hb.cell (lt_of_cell h.2.2.2.2.2)).trans h.2.2.2.2.2⟩

set_option maxHeartbeats 4000000 in
set_option maxRecDepth 100000 in
theorem ref1 (n p k t d : Nat) (v : Value) (ws ls : List Int) (os : List (List Int)) (w : World) {P : Nat → Prop} (hP : ∀ b, P b → b < w.heap.size) (h : Mc w P n v ws ls os)
    (hh : RefAt n p ws ls os) (hl : ls[p]? = some 1) (ho : os[p]? = some [(k : Int), (t : Int)]) (hd : d = 1 + k) (hdw : d < ws.length) :
    Calls Tryd.prog 8 #[v, .int .i64 p] w fun e w' => ∃ v', e = .returned v' ∧ Mc w' (New P w w') n v' (ws.set d 1) (ls.set p 2) os ∧ Below w.heap.size w w' := by
  obtain ⟨hn, hp, h1, hwl, hls, hos⟩ := hh
  have hp2 : p < ls.length := (List.getElem?_eq_some_iff.1 hl).1
  have hp3 : p < os.length := (List.getElem?_eq_some_iff.1 ho).1
  have hp2I : (p : Int) < ls.length := by omega
  have hp3I : (p : Int) < os.length := by omega
  have HM := Lib.hid h
  obtain ⟨b1, o1, c1, b2, o2, c2, b3, o3, c3, bp, op, cp, rfl, hread⟩ := mc_open hP h h1 hl ho (by simp)
  obtain ⟨wv, av, ov, e, k1, k2, k3⟩ := h
  injection e with e
  simp at e
  obtain ⟨rfl, rfl, rfl⟩ := e
  have HF := Lib.hid (MBox.made (x3 := .slice (some ⟨b3, o3, none⟩) os.length c3) (n := n) w _ (k1.nums hP) (k2.nums hP) rfl)
  have HP := Lib.hid hP
  have HRD := Lib.hid hread
  clear hP hread k1 k2 k3
  have hwr1 : IntKind.i64.wrap (1 + (k : Int)) = (d : Int) := by rw [show (d : Int) = 1 + (k : Int) by omega]; exact IntWalk.i64_in _ (by omega)
  clear hd
  go_enter Tryd.func8, Tryd.ntmps8
  go_upto_region 1 with fail
  obtain ⟨V, hV⟩ : ∃ V, V = (w.alloc (.cells #[.int .i64 n, .slice (some ⟨b1, o1, none⟩) ws.length c1, .slice (some ⟨b2, o2, none⟩) ls.length c2, .slice (some ⟨b3, o3, none⟩) os.length c3] 31)).alloc (.cells #[.int .i64 0, .slice none 0 0, .slice none 0 0, .slice none 0 0] 31) := ⟨_, rfl⟩
  rw [← hV] at HF
  rw [← hV]
  obtain ⟨h, hh⟩ : ∃ h, h = w.heap.size := ⟨_, rfl⟩
  have HB := Lib.hid (show MBox w V h n _ _ _ ws ls by rw [hh]; exact HF.out)
  rw [← hh]
  clear hV hh HF
  have HPV := Lib.hid (show ∀ b, P b → b < V.heap.size from fun b hb => Nat.lt_of_lt_of_le (HP.out b hb) HB.out.below.size)
  have HM0 := Lib.hid (MS.start (HM.out.keep (fun _ h => h) (fun p hp => HB.out.below.cell (HP.out _ hp))))
  obtain ⟨y0, y1, y2, y3⟩ := HB.out.cells
  obtain ⟨r1, r2, r3, r4⟩ := HRD.out V HB.out.below
  have R1 := Lib.hid r1
  have r40 := r4 0 _ rfl
  rw [Nat.add_zero] at r40
  have r41 := r4 1 _ rfl
  clear r1 r4
  go_wp2_with (first | (go_at_call 19; (with_reducible refine (ms_word HPV.out HM0.out d 1 hdw hwl).mono ?_); rintro e w1 ⟨v1, rfl, hm⟩; have HM1 := Lib.hid hm; clear hm) | (go_at_call 18; (with_reducible refine (ms_to HPV.out HM1.out p 2 (by simpa using hp2) (by simpa using hls)).mono ?_); rintro e w2 ⟨v2, rfl, hm⟩; have HM2 := Lib.hid hm; clear hm; obtain ⟨B1, m1, d1, B2, m2, d2, B3, m3, d3, rfl⟩ := HM2.out.form; have HG := Lib.hid (HB.out.on HM2.out.below); obtain ⟨x0, x1, x2, x3⟩ := HG.out.room; obtain ⟨-, -, -, u3, u4, u5, u6⟩ := HG.out.frees))
  obtain ⟨hT, hmc, hbel⟩ := ms_end HP.out HB.out HM2.out
  exact bodyPost_ret (v := .agg #[.int .i64 n, .slice B1 m1 d1, .slice B2 m2 d2, .slice B3 m3 d3]) (results_cell_row rfl _ _ (h + 1) 31 _ (0, 0) _ rfl hT Tryd.underlying31 rfl (by kernel_rfl)) rfl ⟨_, rfl, hmc, hbel⟩


set_option maxHeartbeats 4000000 in
set_option maxRecDepth 100000 in
theorem ref2 (n p k t x : Nat) (v : Value) (ws ls : List Int) (os : List (List Int)) (w : World) {P : Nat → Prop} (hP : ∀ b, P b → b < w.heap.size) (h : Mc w P n v ws ls os)
    (hh : RefAt n p ws ls os) (hl : ls[p]? = some 2) (ho : os[p]? = some [(k : Int), (t : Int)]) (hx : ws[0]? = some (x : Int)) :
    Calls Tryd.prog 8 #[v, .int .i64 p] w fun e w' => ∃ v', e = .returned v' ∧ Mc w' (New P w w') n v' (ws.set 0 k) (ls.set p 3) (os.set p [(k : Int), (x : Int)]) ∧ Below w.heap.size w w' := by
  obtain ⟨hn, hp, h1, hwl, hls, hos⟩ := hh
  have hp2 : p < ls.length := (List.getElem?_eq_some_iff.1 hl).1
  have hp3 : p < os.length := (List.getElem?_eq_some_iff.1 ho).1
  have hp2I : (p : Int) < ls.length := by omega
  have hp3I : (p : Int) < os.length := by omega
  have HM := Lib.hid h
  obtain ⟨b1, o1, c1, b2, o2, c2, b3, o3, c3, bp, op, cp, rfl, hread⟩ := mc_open hP h h1 hl ho (by simp)
  obtain ⟨wv, av, ov, e, k1, k2, k3⟩ := h
  injection e with e
  simp at e
  obtain ⟨rfl, rfl, rfl⟩ := e
  have HF := Lib.hid (MBox.made (x3 := .slice (some ⟨b3, o3, none⟩) os.length c3) (n := n) w _ (k1.nums hP) (k2.nums hP) rfl)
  have HP := Lib.hid hP
  have HRD := Lib.hid hread
  clear hP hread k1 k2 k3
  have h1I : (0 : Int) < ws.length := by omega
  go_enter Tryd.func8, Tryd.ntmps8
  go_upto_region 1 with fail
  obtain ⟨V, hV⟩ : ∃ V, V = (w.alloc (.cells #[.int .i64 n, .slice (some ⟨b1, o1, none⟩) ws.length c1, .slice (some ⟨b2, o2, none⟩) ls.length c2, .slice (some ⟨b3, o3, none⟩) os.length c3] 31)).alloc (.cells #[.int .i64 0, .slice none 0 0, .slice none 0 0, .slice none 0 0] 31) := ⟨_, rfl⟩
  rw [← hV] at HF
  rw [← hV]
  obtain ⟨h, hh⟩ : ∃ h, h = w.heap.size := ⟨_, rfl⟩
  have HB := Lib.hid (show MBox w V h n _ _ _ ws ls by rw [hh]; exact HF.out)
  rw [← hh]
  clear hV hh HF
  have HPV := Lib.hid (show ∀ b, P b → b < V.heap.size from fun b hb => Nat.lt_of_lt_of_le (HP.out b hb) HB.out.below.size)
  have HM0 := Lib.hid (MS.start (HM.out.keep (fun _ h => h) (fun p hp => HB.out.below.cell (HP.out _ hp))))
  obtain ⟨y0, y1, y2, y3⟩ := HB.out.cells
  obtain ⟨r1, r2, r3, r4⟩ := HRD.out V HB.out.below
  have R1 := Lib.hid r1
  have r40 := r4 0 _ rfl
  rw [Nat.add_zero] at r40
  have r41 := r4 1 _ rfl
  clear r1 r4
  have r5 := R1.out 0 x hx
  rw [Nat.add_zero] at r5
  have hb1 : b1 < w.heap.size := lt_of_cell ((HRD.out w (Below.refl _ _)).1 0 x hx)
  have HBH := Lib.hid (show b1 ≠ h + 1 from fun e => by have := HB.out.low; omega)
  go_wp2_with fail
  have HS := Lib.hid (show (fun W : World => W.cell? ⟨h, 0, none⟩ = some (.int .i64 n) ∧ W.cell? ⟨h, 1, none⟩ = some (.slice (some ⟨b1, o1, none⟩) ws.length c1) ∧ W.cell? ⟨h, 2, none⟩ = some (.slice (some ⟨b2, o2, none⟩) ls.length c2) ∧ W.cell? ⟨h, 3, none⟩ = some (.slice (some ⟨b3, o3, none⟩) os.length c3) ∧ W.cell? ⟨b1, o1, none⟩ = some (.int .i64 x)) V from ⟨y0, y1, y2, y3, r5⟩)
  clear y0 y1 y2 y3 r5
  go_region_held3 (fun W : World => W.cell? ⟨h, 0, none⟩ = some (.int .i64 n) ∧ W.cell? ⟨h, 1, none⟩ = some (.slice (some ⟨b1, o1, none⟩) ws.length c1) ∧ W.cell? ⟨h, 2, none⟩ = some (.slice (some ⟨b2, o2, none⟩) ls.length c2) ∧ W.cell? ⟨h, 3, none⟩ = some (.slice (some ⟨b3, o3, none⟩) os.length c3) ∧ W.cell? ⟨b1, o1, none⟩ = some (.int .i64 x)) (first | exact HS.out | exact HS1.out | exact HS2.out | exact HS3.out | exact ⟨(four_off _ (h + 1) _ _ _ _ _ (Nat.ne_of_lt (Nat.lt_succ_self h))).trans HS3.out.1, (four_off _ (h + 1) _ _ _ _ _ (Nat.ne_of_lt (Nat.lt_succ_self h))).trans HS3.out.2.1, (four_off _ (h + 1) _ _ _ _ _ (Nat.ne_of_lt (Nat.lt_succ_self h))).trans HS3.out.2.2.1, (four_off _ (h + 1) _ _ _ _ _ (Nat.ne_of_lt (Nat.lt_succ_self h))).trans HS3.out.2.2.2.1, (four_off _ (h + 1) _ _ _ _ _ HBH.out).trans HS3.out.2.2.2.2⟩) ((first | (go_at_call 17; (with_reducible refine (ms_own21 HPV.out (ms_drew HM0.out) p x _ _ ho hos).mono ?_); rintro e w1 ⟨v1, rfl, hm⟩; have HM1 := Lib.hid hm; have HS1 := Lib.hid (held5 hm.below HS.out); clear hm) | (go_at_call 19; (with_reducible refine (ms_w0 HPV.out HM1.out k h1 hwl).mono ?_); rintro e w2 ⟨v2, rfl, hm⟩; have HM2 := Lib.hid hm; have HS2 := Lib.hid (held5 hm.below HS.out); clear hm) | (go_at_call 18; (with_reducible refine (ms_to HPV.out HM2.out p 3 (by simpa using hp2) (by simpa using hls)).mono ?_); rintro e w3 ⟨v3, rfl, hm⟩; have HM3 := Lib.hid hm; have HS3 := Lib.hid (held5 hm.below HS.out); clear hm; obtain ⟨B1, m1, d1, B2, m2, d2, B3, m3, d3, rfl⟩ := HM3.out.form; have HG := Lib.hid (HB.out.on HM3.out.below); obtain ⟨x0, x1, x2, x3⟩ := HG.out.room; obtain ⟨-, -, -, u3, u4, u5, u6⟩ := HG.out.frees)))
  all_goals
    go_wp2
    obtain ⟨hT, hmc, hbel⟩ := ms_end HP.out HB.out HM3.out
    exact bodyPost_ret (v := .agg #[.int .i64 n, .slice B1 m1 d1, .slice B2 m2 d2, .slice B3 m3 d3]) (results_cell_row rfl _ _ (h + 1) 31 _ (0, 0) _ rfl hT Tryd.underlying31 rfl (by kernel_rfl)) rfl ⟨_, rfl, hmc, hbel⟩


set_option maxHeartbeats 4000000 in
set_option maxRecDepth 100000 in
theorem ref3g (n p k t d c : Nat) (v : Value) (ws ls : List Int) (os : List (List Int)) (w : World) {P : Nat → Prop} (hP : ∀ b, P b → b < w.heap.size) (h : Mc w P n v ws ls os)
    (hh : RefAt n p ws ls os) (hl : ls[p]? = some 3) (ho : os[p]? = some [(k : Int), (t : Int)]) (hd : d = 1 + t) (hdw : d < ws.length) (hx : ws[d]? = some (c : Int)) (hc : c = 0) :
    Calls Tryd.prog 8 #[v, .int .i64 p] w fun e w' => ∃ v', e = .returned v' ∧ Mc w' (New P w w') n v' ws (ls.set p 4) os ∧ Below w.heap.size w w' := by
  obtain ⟨hn, hp, h1, hwl, hls, hos⟩ := hh
  have hp2 : p < ls.length := (List.getElem?_eq_some_iff.1 hl).1
  have hp3 : p < os.length := (List.getElem?_eq_some_iff.1 ho).1
  have hp2I : (p : Int) < ls.length := by omega
  have hp3I : (p : Int) < os.length := by omega
  have HM := Lib.hid h
  obtain ⟨b1, o1, c1, b2, o2, c2, b3, o3, c3, bp, op, cp, rfl, hread⟩ := mc_open hP h h1 hl ho (by simp)
  obtain ⟨wv, av, ov, e, k1, k2, k3⟩ := h
  injection e with e
  simp at e
  obtain ⟨rfl, rfl, rfl⟩ := e
  have HF := Lib.hid (MBox.made (x3 := .slice (some ⟨b3, o3, none⟩) os.length c3) (n := n) w _ (k1.nums hP) (k2.nums hP) rfl)
  have HP := Lib.hid hP
  have HRD := Lib.hid hread
  clear hP hread k1 k2 k3
  have hwr1 : IntKind.i64.wrap (1 + (t : Int)) = (d : Int) := by rw [show (d : Int) = 1 + (t : Int) by omega]; exact IntWalk.i64_in _ (by omega)
  have hcI : ((c : Int) == 0) = true := by simp; omega
  have hcN : (c == 0) = true := by simp; omega
  have hdI : (d : Int) < ws.length := by omega
  clear hc hd
  go_enter Tryd.func8, Tryd.ntmps8
  go_upto_region 1 with fail
  obtain ⟨V, hV⟩ : ∃ V, V = (w.alloc (.cells #[.int .i64 n, .slice (some ⟨b1, o1, none⟩) ws.length c1, .slice (some ⟨b2, o2, none⟩) ls.length c2, .slice (some ⟨b3, o3, none⟩) os.length c3] 31)).alloc (.cells #[.int .i64 0, .slice none 0 0, .slice none 0 0, .slice none 0 0] 31) := ⟨_, rfl⟩
  rw [← hV] at HF
  rw [← hV]
  obtain ⟨h, hh⟩ : ∃ h, h = w.heap.size := ⟨_, rfl⟩
  have HB := Lib.hid (show MBox w V h n _ _ _ ws ls by rw [hh]; exact HF.out)
  rw [← hh]
  clear hV hh HF
  have HPV := Lib.hid (show ∀ b, P b → b < V.heap.size from fun b hb => Nat.lt_of_lt_of_le (HP.out b hb) HB.out.below.size)
  have HM0 := Lib.hid (MS.start (HM.out.keep (fun _ h => h) (fun p hp => HB.out.below.cell (HP.out _ hp))))
  obtain ⟨y0, y1, y2, y3⟩ := HB.out.cells
  obtain ⟨r1, r2, r3, r4⟩ := HRD.out V HB.out.below
  have R1 := Lib.hid r1
  have r40 := r4 0 _ rfl
  rw [Nat.add_zero] at r40
  have r41 := r4 1 _ rfl
  clear r1 r4
  have r5 := R1.out d c hx
  have hb1 : b1 < w.heap.size := lt_of_cell ((HRD.out w (Below.refl _ _)).1 d c hx)
  have hb3 : b3 < w.heap.size := lt_of_cell ((HRD.out w (Below.refl _ _)).2.2.1)
  have hbp : bp < w.heap.size := lt_of_cell ((HRD.out w (Below.refl _ _)).2.2.2 0 _ rfl)
  have HBH := Lib.hid (show b1 ≠ h + 1 ∧ b3 ≠ h + 1 ∧ bp ≠ h + 1 by have := HB.out.low; omega)
  go_wp2_with fail
  have HS := Lib.hid (show (fun W : World => W.cell? ⟨h, 0, none⟩ = some (.int .i64 n) ∧ W.cell? ⟨h, 1, none⟩ = some (.slice (some ⟨b1, o1, none⟩) ws.length c1) ∧ W.cell? ⟨h, 2, none⟩ = some (.slice (some ⟨b2, o2, none⟩) ls.length c2) ∧ W.cell? ⟨h, 3, none⟩ = some (.slice (some ⟨b3, o3, none⟩) os.length c3) ∧ W.cell? ⟨b1, o1 + d, none⟩ = some (.int .i64 c) ∧ W.cell? ⟨b3, o3 + p, none⟩ = some (.slice (some ⟨bp, op, none⟩) 2 cp) ∧ W.cell? ⟨bp, op + 1, none⟩ = some (.int .i64 t)) V from ⟨y0, y1, y2, y3, r5, r3, r41⟩)
  clear y0 y1 y2 y3 r5 r3 r41
  go_region_held3 (fun W : World => W.cell? ⟨h, 0, none⟩ = some (.int .i64 n) ∧ W.cell? ⟨h, 1, none⟩ = some (.slice (some ⟨b1, o1, none⟩) ws.length c1) ∧ W.cell? ⟨h, 2, none⟩ = some (.slice (some ⟨b2, o2, none⟩) ls.length c2) ∧ W.cell? ⟨h, 3, none⟩ = some (.slice (some ⟨b3, o3, none⟩) os.length c3) ∧ W.cell? ⟨b1, o1 + d, none⟩ = some (.int .i64 c) ∧ W.cell? ⟨b3, o3 + p, none⟩ = some (.slice (some ⟨bp, op, none⟩) 2 cp) ∧ W.cell? ⟨bp, op + 1, none⟩ = some (.int .i64 t)) (first | exact HS.out | exact HS1.out | exact ⟨(four_off _ (h + 1) _ _ _ _ _ (Nat.ne_of_lt (Nat.lt_succ_self h))).trans HS1.out.1, (four_off _ (h + 1) _ _ _ _ _ (Nat.ne_of_lt (Nat.lt_succ_self h))).trans HS1.out.2.1, (four_off _ (h + 1) _ _ _ _ _ (Nat.ne_of_lt (Nat.lt_succ_self h))).trans HS1.out.2.2.1, (four_off _ (h + 1) _ _ _ _ _ (Nat.ne_of_lt (Nat.lt_succ_self h))).trans HS1.out.2.2.2.1, (four_off _ (h + 1) _ _ _ _ _ HBH.out.1).trans HS1.out.2.2.2.2.1, (four_off _ (h + 1) _ _ _ _ _ HBH.out.2.1).trans HS1.out.2.2.2.2.2.1, (four_off _ (h + 1) _ _ _ _ _ HBH.out.2.2).trans HS1.out.2.2.2.2.2.2⟩) ((go_at_call 20; (with_reducible refine (ms_goes HPV.out (ms_drew HM0.out) p true 3 3 (by simpa using hp2) (by simpa using hls) hl (by omega) (by omega)).mono ?_); rintro e w1 ⟨v1, rfl, hm⟩; have HM1 := Lib.hid hm; have HS1 := Lib.hid (held7 hm.below HS.out); clear hm; obtain ⟨B1, m1, d1, B2, m2, d2, B3, m3, d3, rfl⟩ := HM1.out.form; have HG := Lib.hid (HB.out.on HM1.out.below); obtain ⟨x0, x1, x2, x3⟩ := HG.out.room; obtain ⟨-, -, -, u3, u4, u5, u6⟩ := HG.out.frees))
  all_goals
    go_wp2
    obtain ⟨hT, hmc, hbel⟩ := ms_end HP.out HB.out HM1.out
    exact bodyPost_ret (v := .agg #[.int .i64 n, .slice B1 m1 d1, .slice B2 m2 d2, .slice B3 m3 d3]) (results_cell_row rfl _ _ (h + 1) 31 _ (0, 0) _ rfl hT Tryd.underlying31 rfl (by kernel_rfl)) rfl ⟨_, rfl, hmc, hbel⟩


set_option maxHeartbeats 4000000 in
set_option maxRecDepth 100000 in
theorem ref3s (n p k t d c : Nat) (v : Value) (ws ls : List Int) (os : List (List Int)) (w : World) {P : Nat → Prop} (hP : ∀ b, P b → b < w.heap.size) (h : Mc w P n v ws ls os)
    (hh : RefAt n p ws ls os) (hl : ls[p]? = some 3) (ho : os[p]? = some [(k : Int), (t : Int)]) (hd : d = 1 + t) (hdw : d < ws.length) (hx : ws[d]? = some (c : Int)) (hc : c ≠ 0) :
    Calls Tryd.prog 8 #[v, .int .i64 p] w fun e w' => ∃ v', e = .returned v' ∧ Mc w' (New P w w') n v' ws (ls.set p 3) os ∧ Below w.heap.size w w' := by
  obtain ⟨hn, hp, h1, hwl, hls, hos⟩ := hh
  have hp2 : p < ls.length := (List.getElem?_eq_some_iff.1 hl).1
  have hp3 : p < os.length := (List.getElem?_eq_some_iff.1 ho).1
  have hp2I : (p : Int) < ls.length := by omega
  have hp3I : (p : Int) < os.length := by omega
  have HM := Lib.hid h
  obtain ⟨b1, o1, c1, b2, o2, c2, b3, o3, c3, bp, op, cp, rfl, hread⟩ := mc_open hP h h1 hl ho (by simp)
  obtain ⟨wv, av, ov, e, k1, k2, k3⟩ := h
  injection e with e
  simp at e
  obtain ⟨rfl, rfl, rfl⟩ := e
  have HF := Lib.hid (MBox.made (x3 := .slice (some ⟨b3, o3, none⟩) os.length c3) (n := n) w _ (k1.nums hP) (k2.nums hP) rfl)
  have HP := Lib.hid hP
  have HRD := Lib.hid hread
  clear hP hread k1 k2 k3
  have hwr1 : IntKind.i64.wrap (1 + (t : Int)) = (d : Int) := by rw [show (d : Int) = 1 + (t : Int) by omega]; exact IntWalk.i64_in _ (by omega)
  have hcI : ((c : Int) == 0) = false := by simp; omega
  have hcN : (c == 0) = false := by simp; omega
  have hdI : (d : Int) < ws.length := by omega
  clear hc hd
  go_enter Tryd.func8, Tryd.ntmps8
  go_upto_region 1 with fail
  obtain ⟨V, hV⟩ : ∃ V, V = (w.alloc (.cells #[.int .i64 n, .slice (some ⟨b1, o1, none⟩) ws.length c1, .slice (some ⟨b2, o2, none⟩) ls.length c2, .slice (some ⟨b3, o3, none⟩) os.length c3] 31)).alloc (.cells #[.int .i64 0, .slice none 0 0, .slice none 0 0, .slice none 0 0] 31) := ⟨_, rfl⟩
  rw [← hV] at HF
  rw [← hV]
  obtain ⟨h, hh⟩ : ∃ h, h = w.heap.size := ⟨_, rfl⟩
  have HB := Lib.hid (show MBox w V h n _ _ _ ws ls by rw [hh]; exact HF.out)
  rw [← hh]
  clear hV hh HF
  have HPV := Lib.hid (show ∀ b, P b → b < V.heap.size from fun b hb => Nat.lt_of_lt_of_le (HP.out b hb) HB.out.below.size)
  have HM0 := Lib.hid (MS.start (HM.out.keep (fun _ h => h) (fun p hp => HB.out.below.cell (HP.out _ hp))))
  obtain ⟨y0, y1, y2, y3⟩ := HB.out.cells
  obtain ⟨r1, r2, r3, r4⟩ := HRD.out V HB.out.below
  have R1 := Lib.hid r1
  have r40 := r4 0 _ rfl
  rw [Nat.add_zero] at r40
  have r41 := r4 1 _ rfl
  clear r1 r4
  have r5 := R1.out d c hx
  have hb1 : b1 < w.heap.size := lt_of_cell ((HRD.out w (Below.refl _ _)).1 d c hx)
  have hb3 : b3 < w.heap.size := lt_of_cell ((HRD.out w (Below.refl _ _)).2.2.1)
  have hbp : bp < w.heap.size := lt_of_cell ((HRD.out w (Below.refl _ _)).2.2.2 0 _ rfl)
  have HBH := Lib.hid (show b1 ≠ h + 1 ∧ b3 ≠ h + 1 ∧ bp ≠ h + 1 by have := HB.out.low; omega)
  go_wp2_with fail
  have HS := Lib.hid (show (fun W : World => W.cell? ⟨h, 0, none⟩ = some (.int .i64 n) ∧ W.cell? ⟨h, 1, none⟩ = some (.slice (some ⟨b1, o1, none⟩) ws.length c1) ∧ W.cell? ⟨h, 2, none⟩ = some (.slice (some ⟨b2, o2, none⟩) ls.length c2) ∧ W.cell? ⟨h, 3, none⟩ = some (.slice (some ⟨b3, o3, none⟩) os.length c3) ∧ W.cell? ⟨b1, o1 + d, none⟩ = some (.int .i64 c) ∧ W.cell? ⟨b3, o3 + p, none⟩ = some (.slice (some ⟨bp, op, none⟩) 2 cp) ∧ W.cell? ⟨bp, op + 1, none⟩ = some (.int .i64 t)) V from ⟨y0, y1, y2, y3, r5, r3, r41⟩)
  clear y0 y1 y2 y3 r5 r3 r41
  go_region_held3 (fun W : World => W.cell? ⟨h, 0, none⟩ = some (.int .i64 n) ∧ W.cell? ⟨h, 1, none⟩ = some (.slice (some ⟨b1, o1, none⟩) ws.length c1) ∧ W.cell? ⟨h, 2, none⟩ = some (.slice (some ⟨b2, o2, none⟩) ls.length c2) ∧ W.cell? ⟨h, 3, none⟩ = some (.slice (some ⟨b3, o3, none⟩) os.length c3) ∧ W.cell? ⟨b1, o1 + d, none⟩ = some (.int .i64 c) ∧ W.cell? ⟨b3, o3 + p, none⟩ = some (.slice (some ⟨bp, op, none⟩) 2 cp) ∧ W.cell? ⟨bp, op + 1, none⟩ = some (.int .i64 t)) (first | exact HS.out | exact HS1.out | exact ⟨(four_off _ (h + 1) _ _ _ _ _ (Nat.ne_of_lt (Nat.lt_succ_self h))).trans HS1.out.1, (four_off _ (h + 1) _ _ _ _ _ (Nat.ne_of_lt (Nat.lt_succ_self h))).trans HS1.out.2.1, (four_off _ (h + 1) _ _ _ _ _ (Nat.ne_of_lt (Nat.lt_succ_self h))).trans HS1.out.2.2.1, (four_off _ (h + 1) _ _ _ _ _ (Nat.ne_of_lt (Nat.lt_succ_self h))).trans HS1.out.2.2.2.1, (four_off _ (h + 1) _ _ _ _ _ HBH.out.1).trans HS1.out.2.2.2.2.1, (four_off _ (h + 1) _ _ _ _ _ HBH.out.2.1).trans HS1.out.2.2.2.2.2.1, (four_off _ (h + 1) _ _ _ _ _ HBH.out.2.2).trans HS1.out.2.2.2.2.2.2⟩) ((go_at_call 20; (with_reducible refine (ms_goes HPV.out (ms_drew HM0.out) p false 3 3 (by simpa using hp2) (by simpa using hls) hl (by omega) (by omega)).mono ?_); rintro e w1 ⟨v1, rfl, hm⟩; have HM1 := Lib.hid hm; have HS1 := Lib.hid (held7 hm.below HS.out); clear hm; obtain ⟨B1, m1, d1, B2, m2, d2, B3, m3, d3, rfl⟩ := HM1.out.form; have HG := Lib.hid (HB.out.on HM1.out.below); obtain ⟨x0, x1, x2, x3⟩ := HG.out.room; obtain ⟨-, -, -, u3, u4, u5, u6⟩ := HG.out.frees))
  all_goals
    go_wp2
    obtain ⟨hT, hmc, hbel⟩ := ms_end HP.out HB.out HM1.out
    exact bodyPost_ret (v := .agg #[.int .i64 n, .slice B1 m1 d1, .slice B2 m2 d2, .slice B3 m3 d3]) (results_cell_row rfl _ _ (h + 1) 31 _ (0, 0) _ rfl hT Tryd.underlying31 rfl (by kernel_rfl)) rfl ⟨_, rfl, hmc, hbel⟩


set_option maxHeartbeats 4000000 in
set_option maxRecDepth 100000 in
theorem ref4 (n p k t : Nat) (v : Value) (ws ls : List Int) (os : List (List Int)) (w : World) {P : Nat → Prop} (hP : ∀ b, P b → b < w.heap.size) (h : Mc w P n v ws ls os)
    (hh : RefAt n p ws ls os) (hl : ls[p]? = some 4) (ho : os[p]? = some [(k : Int), (t : Int)]) :
    Calls Tryd.prog 8 #[v, .int .i64 p] w fun e w' => ∃ v', e = .returned v' ∧ Mc w' (New P w w') n v' ws (ls.set p 5) os ∧ Below w.heap.size w w' := by
  obtain ⟨hn, hp, h1, hwl, hls, hos⟩ := hh
  have hp2 : p < ls.length := (List.getElem?_eq_some_iff.1 hl).1
  have hp3 : p < os.length := (List.getElem?_eq_some_iff.1 ho).1
  have hp2I : (p : Int) < ls.length := by omega
  have hp3I : (p : Int) < os.length := by omega
  have HM := Lib.hid h
  obtain ⟨b1, o1, c1, b2, o2, c2, b3, o3, c3, bp, op, cp, rfl, hread⟩ := mc_open hP h h1 hl ho (by simp)
  obtain ⟨wv, av, ov, e, k1, k2, k3⟩ := h
  injection e with e
  simp at e
  obtain ⟨rfl, rfl, rfl⟩ := e
  have HF := Lib.hid (MBox.made (x3 := .slice (some ⟨b3, o3, none⟩) os.length c3) (n := n) w _ (k1.nums hP) (k2.nums hP) rfl)
  have HP := Lib.hid hP
  have HRD := Lib.hid hread
  clear hP hread k1 k2 k3
  go_enter Tryd.func8, Tryd.ntmps8
  go_upto_region 1 with fail
  obtain ⟨V, hV⟩ : ∃ V, V = (w.alloc (.cells #[.int .i64 n, .slice (some ⟨b1, o1, none⟩) ws.length c1, .slice (some ⟨b2, o2, none⟩) ls.length c2, .slice (some ⟨b3, o3, none⟩) os.length c3] 31)).alloc (.cells #[.int .i64 0, .slice none 0 0, .slice none 0 0, .slice none 0 0] 31) := ⟨_, rfl⟩
  rw [← hV] at HF
  rw [← hV]
  obtain ⟨h, hh⟩ : ∃ h, h = w.heap.size := ⟨_, rfl⟩
  have HB := Lib.hid (show MBox w V h n _ _ _ ws ls by rw [hh]; exact HF.out)
  rw [← hh]
  clear hV hh HF
  have HPV := Lib.hid (show ∀ b, P b → b < V.heap.size from fun b hb => Nat.lt_of_lt_of_le (HP.out b hb) HB.out.below.size)
  have HM0 := Lib.hid (MS.start (HM.out.keep (fun _ h => h) (fun p hp => HB.out.below.cell (HP.out _ hp))))
  obtain ⟨y0, y1, y2, y3⟩ := HB.out.cells
  obtain ⟨r1, r2, r3, r4⟩ := HRD.out V HB.out.below
  have R1 := Lib.hid r1
  have r40 := r4 0 _ rfl
  rw [Nat.add_zero] at r40
  have r41 := r4 1 _ rfl
  clear r1 r4
  go_wp2_with (go_at_call 18; (with_reducible refine (ms_to HPV.out HM0.out p 5 (by simpa using hp2) (by simpa using hls)).mono ?_); rintro e w1 ⟨v1, rfl, hm⟩; have HM1 := Lib.hid hm; clear hm; obtain ⟨B1, m1, d1, B2, m2, d2, B3, m3, d3, rfl⟩ := HM1.out.form; have HG := Lib.hid (HB.out.on HM1.out.below); obtain ⟨x0, x1, x2, x3⟩ := HG.out.room; obtain ⟨-, -, -, u3, u4, u5, u6⟩ := HG.out.frees)
  obtain ⟨hT, hmc, hbel⟩ := ms_end HP.out HB.out HM1.out
  exact bodyPost_ret (v := .agg #[.int .i64 n, .slice B1 m1 d1, .slice B2 m2 d2, .slice B3 m3 d3]) (results_cell_row rfl _ _ (h + 1) 31 _ (0, 0) _ rfl hT Tryd.underlying31 rfl (by kernel_rfl)) rfl ⟨_, rfl, hmc, hbel⟩

end Go.Proofs.YtobfaohcadmopaaDoor.Clh
