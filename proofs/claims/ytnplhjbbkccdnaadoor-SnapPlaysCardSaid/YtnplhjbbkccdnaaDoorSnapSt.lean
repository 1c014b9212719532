/-
  Texts merged: SnapStep, SnapStep3.
-/
import Derived.Test.YtnplhjbbkccdnaaDoorSnapBeg
/-
  Package snap: what Step answers.
-/
namespace Go.Proofs.YtnplhjbbkccdnaaDoor.Snap
open Go.RowKit
theorem six_lk {w : World} {g n : Nat} {v : SS} (hk : Lk w g n v) {p : Nat} (hp : p < 4) (hkn : (v.h p).k < 4) (x : SW) (z : Nat) (i : Nat) :
    Lk (((six w g (25 + p * 60 + 4 + (v.h p).k * 6) x).setCell ⟨g, 25 + p * 60 + 3, none⟩ (.int .i64 z)).drewN i) g n (putH v p (bK (bF (v.h p) (v.h p).k x) z)) := by
  have h1 := hk.setF hp hkn x
  rw [← Nat.add_assoc] at h1
  have h2 := h1.setK hp z
  rw [putH_h, putH_two] at h2
  exact h2.drewN i
theorem six_lk2 {w : World} {g n : Nat} {v : SS} (hk : Lk w g n v) {p : Nat} (hp : p < 4) (hkn : (v.h p).k < 4) (x : SW) (z : Nat) (i : Nat) :
    Lk (((six w g (25 + p * 60 + 28 + (v.h p).k * 6) x).setCell ⟨g, 25 + p * 60 + 3, none⟩ (.int .i64 z)).drewN i) g n (putH v p (bK (bL (v.h p) (v.h p).k x) z)) := by
  have h1 := hk.setL hp hkn x
  rw [← Nat.add_assoc] at h1
  have h2 := h1.setK hp z
  rw [putH_h, putH_two] at h2
  exact h2.drewN i
theorem six_touch (w : World) (g o j : Nat) (x : SW) (u : Value) (i : Nat) : Touch (fun k => k = g) w (((six w g o x).setCell ⟨g, j, none⟩ u).drewN i) :=
  by unfold six; exact ((touch_cells (cW x) o w).setCell (p := ⟨g, j, none⟩) (Or.inl rfl) u).drewN i
/-- A hand has read one more first word; one more last word. -/
def rdF (n : Nat) (v : SS) (p : Nat) : SB := bK (bF (v.h p) (v.h p).k (v.wd (v.h p).k)) (nx n (v.h p).k)
def rdL (n : Nat) (v : SS) (p : Nat) : SB := bK (bL (v.h p) (v.h p).k (v.wd (v.h p).k)) (nx n (v.h p).k)
theorem readF_any {g n : Nat} {v : SS} (w : World) (hk : Lk w g n v) (hn : n ≤ 4) {p : Nat} (hp : p < 4) (hkn : (v.h p).k < n) :
    Calls Tryd.prog 33 #[.pointer (some ⟨g, 0, none⟩), .pointer (some ⟨g, 25 + p * 60, none⟩), .pointer (some ⟨g, 25 + p * 60 + 4, none⟩)] w fun e w' =>
      e = .returned (.bool (decide ((v.h p).k + 1 = n))) ∧ Lk w' g n (putH v p (rdF n v p)) ∧ Touch (fun k => k = g) w w' := by
  refine (read_any (o := 4) w hk hn hp hkn (by omega) (by omega)).mono ?_
  rintro e w' ⟨rfl, i, rfl⟩
  exact ⟨rfl, six_lk hk hp (by omega) _ _ i, six_touch _ _ _ _ _ _ _⟩
theorem readL_any {g n : Nat} {v : SS} (w : World) (hk : Lk w g n v) (hn : n ≤ 4) {p : Nat} (hp : p < 4) (hkn : (v.h p).k < n) :
    Calls Tryd.prog 33 #[.pointer (some ⟨g, 0, none⟩), .pointer (some ⟨g, 25 + p * 60, none⟩), .pointer (some ⟨g, 25 + p * 60 + 28, none⟩)] w fun e w' =>
      e = .returned (.bool (decide ((v.h p).k + 1 = n))) ∧ Lk w' g n (putH v p (rdL n v p)) ∧ Touch (fun k => k = g) w w' := by
  refine (read_any (o := 28) w hk hn hp hkn (by omega) (by omega)).mono ?_
  rintro e w' ⟨rfl, i, rfl⟩
  exact ⟨rfl, six_lk2 hk hp (by omega) _ _ i, six_touch _ _ _ _ _ _ _⟩
theorem compare_at {g n : Nat} {v : SS} {p : Nat} {b : SB} (w : World) (hk : Lk w g n (putH v p b)) (hp : p < 4) (hm : ∀ q, q < 4 → b.mv q ≤ 1) (hn1 : 1 ≤ n) (hn4 : n ≤ 4) :
    Calls Tryd.prog 34 #[.pointer (some ⟨g, 0, none⟩), .pointer (some ⟨g, 25 + p * 60, none⟩)] w fun e w' =>
      CmpR n b w w' e ∧ Lk w' g n (putH v p (cmp b)) ∧ Touch (fun k => k = g) w w' := by
  have h := compare_any w hk hp (by rw [putH_h]; exact hm) hn1 hn4
  rw [putH_h, putH_two] at h
  exact h
/-- A board behind a step of a hand that does something; is it done; what is it told? -/
def pst (n : Nat) (v : SS) (p : Nat) : SS :=
  if (v.h p).a = 1 then putH v p (if (v.h p).k + 1 = n then bA (rdF n v p) 2 else rdF n v p)
  else if (v.h p).a = 2 then putH v p (if (v.h p).k + 1 = n then cmp (rdL n v p) else rdL n v p)
  else putH (putW v p ⟨(v.h p).x, (v.wd p).t + 1, (v.h p).sw⟩) p sb0
def plk (n : Nat) (v : SS) (p : Nat) : Bool := decide ((v.h p).a = 2) && decide ((v.h p).k + 1 = n) && (sees (rdL n v p) && !(rdL n v p).w)
def pdn (n : Nat) (v : SS) (p : Nat) : Bool := decide ((v.h p).a = 3) || plk n v p
structure Pre (n : Nat) (v : SS) (p : Nat) : Prop where
  ln : (v.h p).a ≤ 3
  kn : (v.h p).a = 1 ∨ (v.h p).a = 2 → (v.h p).k < n
  mv : (v.h p).a = 2 → ∀ q, q < 4 → (v.h p).mv q ≤ 1
  tn : (v.wd p).t ≤ 1000000
/-- What a step is told. -/
def StpR (n : Nat) (v : SS) (p : Int) (w0 w' : World) (e : Ending) : Prop :=
  if ¬ (0 ≤ p ∧ p < n) then e = .returned (.tuple #[.bool false, .slice none 0 0, errV 64 1])
  else if (v.h p.toNat).a = 0 then e = .returned (.tuple #[.bool false, .slice none 0 0, errV 64 7])
  else ∃ u, e = .returned (.tuple #[.bool (pdn n v p.toNat), u, .nilIface]) ∧ (plk n v p.toNat = true → Nums w' w'.heap.size u (lkS n (seen (rdL n v p.toNat))) ∧ Fresh w0.heap.size u) ∧ (plk n v p.toNat = false → u = .slice none 0 0)
def stS (n : Nat) (v : SS) (p : Int) : SS := if ¬ (0 ≤ p ∧ p < n) ∨ (v.h p.toNat).a = 0 then v else pst n v p.toNat
set_option maxHeartbeats 4000000 in
set_option maxRecDepth 100000 in
theorem step_none {g n : Nat} {v : SS} (w : World) (hk : Lk w g n v) (hn : n ≤ 4) (p : Int) (h : ¬ (0 ≤ p ∧ p < n) ∨ (v.h p.toNat).a = 0) :
    Calls Tryd.prog 12 #[.pointer (some ⟨g, 0, none⟩), .int .i64 p] w fun e w' =>
      StpR n v p w w' e ∧ Lk w' g n v ∧ Touch (fun k => k = g) w w' := by
  have HI := Lib.hid (isHand_any p w hk.num)
  by_cases hp : 0 ≤ p ∧ p < n
  · rw [decide_eq_true hp] at HI
    obtain ⟨q, rfl⟩ := Int.eq_ofNat_of_zero_le hp.1
    have ha : (v.h q).a = 0 := h.resolve_left fun h2 => h2 hp
    have hq4 : q < 4 := by omega
    have hp4 : (q : Int) < 4 := by omega
    have c1 := hk.xA hq4
    rw [ha] at c1
    have he : StpR n v q = fun _ _ e => e = .returned (.tuple #[.bool false, .slice none 0 0, errV 64 7]) := by
      funext w0 w' e
      unfold StpR
      rw [if_neg (fun h => h hp), Int.toNat_natCast, if_pos ha]
    rw [he]
    have HK := Lib.hid hk
    clear h hp he ha hk
    go_enter Tryd.func12, Tryd.ntmps12
    go_wp2_with (go_at_call 32; refine HI.out.mono ?_; rintro e w' ⟨rfl, rfl⟩)
    go_ret3
    exact ⟨rfl, HK.out, Touch.refl _ _⟩
  · rw [decide_eq_false hp] at HI
    have he : StpR n v p = fun _ _ e => e = .returned (.tuple #[.bool false, .slice none 0 0, errV 64 1]) := by
      funext w0 w' e
      unfold StpR
      rw [if_pos hp]
    rw [he]
    have HK := Lib.hid hk
    clear h hp he hk
    go_enter Tryd.func12, Tryd.ntmps12
    go_wp2_with (go_at_call 32; refine HI.out.mono ?_; rintro e w' ⟨rfl, rfl⟩)
    go_ret3
    exact ⟨rfl, HK.out, Touch.refl _ _⟩
theorem StpR.go {n q : Nat} {v : SS} {w0 w' : World} {e : Ending} (hq : q < n) (ha : (v.h q).a ≠ 0) {u : Value} (h1 : e = .returned (.tuple #[.bool (pdn n v q), u, .nilIface]))
    (h2 : plk n v q = true → Nums w' w'.heap.size u (lkS n (seen (rdL n v q))) ∧ Fresh w0.heap.size u) (h3 : plk n v q = false → u = .slice none 0 0) : StpR n v q w0 w' e := by
  unfold StpR
  rw [if_neg (by omega), Int.toNat_natCast, if_neg ha]
  exact ⟨u, h1, h2, h3⟩
set_option maxHeartbeats 4000000 in
set_option maxRecDepth 100000 in
theorem step_one {g n : Nat} {v : SS} (w : World) (hk : Lk w g n v) (hn : n ≤ 4) {q : Nat} (hq : q < n) (hP : Pre n v q) (ha : (v.h q).a = 1) :
    Calls Tryd.prog 12 #[.pointer (some ⟨g, 0, none⟩), .int .i64 q] w fun e w' =>
      StpR n v q w w' e ∧ Lk w' g n (pst n v q) ∧ Touch (fun k => k = g) w w' := by
  have HI := Lib.hid (isHand_any q w hk.num)
  rw [decide_eq_true (show (0 : Int) ≤ q ∧ (q : Int) < n by omega)] at HI
  have hq4 : q < 4 := by omega
  have hp4 : (q : Int) < 4 := by omega
  have c1 := hk.xA hq4
  rw [ha] at c1
  have hl : plk n v q = false := by unfold plk; rw [decide_eq_false (by omega)]; rfl
  have hd : pdn n v q = false := by unfold pdn; rw [hl, decide_eq_false (by omega)]; rfl
  have HE : ∀ w', StpR n v q w w' (.returned (.tuple #[.bool false, .slice none 0 0, .nilIface])) := fun w' => StpR.go hq (by omega) (by rw [hd]) (fun h => (by rw [hl] at h; cases h)) fun _ => rfl
  have HE := Lib.hid HE
  have HR := Lib.hid (readF_any w hk hn hq4 (hP.kn (.inl ha)))
  have hps : pst n v q = putH v q (if (v.h q).k + 1 = n then bA (rdF n v q) 2 else rdF n v q) := by unfold pst; rw [if_pos ha]
  rw [hps]
  by_cases hkn : (v.h q).k + 1 = n
  · rw [if_pos hkn]
    rw [decide_eq_true hkn] at HR
    clear hkn hps hd hl ha hP hk hn hq
    go_enter Tryd.func12, Tryd.ntmps12
    go_wp2_with (first | (go_at_call 32; refine HI.out.mono ?_; rintro e w' ⟨rfl, rfl⟩) | (go_at_call 33; (with_reducible refine HR.out.mono ?_); rintro e w1 ⟨rfl, hl, ht⟩; have d1 := hl.xA hq4; have f1 := hl.free (25 + q * 60); have HL := Lib.hid hl; have HT := Lib.hid ht; clear hl ht))
    go_ret3
    have h2 := HL.out.setA hq4 2
    rw [putH_h, putH_two] at h2
    exact ⟨HE.out _, h2, HT.out.setCell (Or.inl rfl) _⟩
  · rw [if_neg hkn]
    rw [decide_eq_false hkn] at HR
    clear hkn hps hd hl ha hP hk hn hq
    go_enter Tryd.func12, Tryd.ntmps12
    go_wp2_with (first | (go_at_call 32; refine HI.out.mono ?_; rintro e w' ⟨rfl, rfl⟩) | (go_at_call 33; (with_reducible refine HR.out.mono ?_); rintro e w1 ⟨rfl, hl, ht⟩; have HL := Lib.hid hl; have HT := Lib.hid ht; clear hl ht))
    go_ret3
    exact ⟨HE.out _, HL.out, HT.out⟩
set_option maxHeartbeats 4000000 in
set_option maxRecDepth 100000 in
theorem step_two {g n : Nat} {v : SS} (w : World) (hk : Lk w g n v) (hn : n ≤ 4) {q : Nat} (hq : q < n) (hP : Pre n v q) (ha : (v.h q).a = 2) :
    Calls Tryd.prog 12 #[.pointer (some ⟨g, 0, none⟩), .int .i64 q] w fun e w' =>
      StpR n v q w w' e ∧ Lk w' g n (pst n v q) ∧ Touch (fun k => k = g) w w' := by
  have HI := Lib.hid (isHand_any q w hk.num)
  rw [decide_eq_true (show (0 : Int) ≤ q ∧ (q : Int) < n by omega)] at HI
  have hq4 : q < 4 := by omega
  have hp4 : (q : Int) < 4 := by omega
  have c1 := hk.xA hq4
  rw [ha] at c1
  have HR := Lib.hid (readL_any w hk hn hq4 (hP.kn (.inr ha)))
  have hps : pst n v q = putH v q (if (v.h q).k + 1 = n then cmp (rdL n v q) else rdL n v q) := by unfold pst; rw [if_neg (by omega), if_pos ha]
  rw [hps]
  by_cases hkn : (v.h q).k + 1 = n
  · rw [if_pos hkn]
    rw [decide_eq_true hkn] at HR
    have hl : plk n v q = (sees (rdL n v q) && !(rdL n v q).w) := by unfold plk; rw [decide_eq_true ha, decide_eq_true hkn]; rfl
    have hd : pdn n v q = (sees (rdL n v q) && !(rdL n v q).w) := by unfold pdn; rw [hl, decide_eq_false (by omega)]; rfl
    have HE : ∀ w' u, ((sees (rdL n v q) && !(rdL n v q).w) = true → Nums w' w'.heap.size u (lkS n (seen (rdL n v q))) ∧ Fresh w.heap.size u) → ((sees (rdL n v q) && !(rdL n v q).w) = false → u = .slice none 0 0) →
        StpR n v q w w' (.returned (.tuple #[.bool (sees (rdL n v q) && !(rdL n v q).w), u, .nilIface])) := fun w' u h1 h2 => StpR.go hq (by omega) (by rw [hd]) (by rw [hl]; exact h1) (by rw [hl]; exact h2)
    have HE := Lib.hid HE
    have HM := Lib.hid (show ∀ r, r < 4 → (rdL n v q).mv r ≤ 1 from hP.mv ha)
    have hn1 : 1 ≤ n := by omega
    obtain ⟨B, hB⟩ : ∃ B, B = (sees (rdL n v q) && !(rdL n v q).w) := ⟨_, rfl⟩
    have HBB := Lib.hid hB
    clear hkn hps hd hl ha hP hk hq hB
    go_enter Tryd.func12, Tryd.ntmps12
    go_wp2_with (first | (go_at_call 32; refine HI.out.mono ?_; rintro e w' ⟨rfl, rfl⟩) | (go_at_call 33; (with_reducible refine HR.out.mono ?_); rintro e w1 ⟨rfl, hl, ht⟩; have HL := Lib.hid hl; have HT := Lib.hid ht; clear hl ht) | (go_at_call 34; (with_reducible refine (compare_at _ HL.out hq4 HM.out hn1 hn).mono ?_); rintro e w2 ⟨⟨u, rfl, hu1, hu2⟩, hl2, ht2⟩; rw [← HBB.out]; have HU1 := Lib.hid hu1; have HU2 := Lib.hid hu2; have HL2 := Lib.hid hl2; have HT2 := Lib.hid ht2; clear hu1 hu2 hl2 ht2))
    go_ret3
    rw [HBB.out]
    exact ⟨HE.out _ _ (fun h => ⟨(HU1.out h).1, fun k hk => Nat.le_trans HT.out.size ((HU1.out h).2 k hk)⟩) HU2.out, HL2.out, HT.out.trans HT2.out fun _ h => Or.inl h⟩
  · rw [if_neg hkn]
    rw [decide_eq_false hkn] at HR
    have hl : plk n v q = false := by unfold plk; rw [decide_eq_false hkn, Bool.and_false]; rfl
    have hd : pdn n v q = false := by unfold pdn; rw [hl, decide_eq_false (by omega)]; rfl
    have HE : ∀ w', StpR n v q w w' (.returned (.tuple #[.bool false, .slice none 0 0, .nilIface])) := fun w' => StpR.go hq (by omega) (by rw [hd]) (fun h => (by rw [hl] at h; cases h)) fun _ => rfl
    have HE := Lib.hid HE
    clear hkn hps hd hl ha hP hk hn hq
    go_enter Tryd.func12, Tryd.ntmps12
    go_wp2_with (first | (go_at_call 32; refine HI.out.mono ?_; rintro e w' ⟨rfl, rfl⟩) | (go_at_call 33; (with_reducible refine HR.out.mono ?_); rintro e w1 ⟨rfl, hl, ht⟩; have HL := Lib.hid hl; have HT := Lib.hid ht; clear hl ht))
    go_ret3
    exact ⟨HE.out _, HL.out, HT.out⟩
end Go.Proofs.YtnplhjbbkccdnaaDoor.Snap

/-
  Package snap: Step at line 3; all of it.
-/
namespace Go.Proofs.YtnplhjbbkccdnaaDoor.Snap
open Go.RowKit
set_option maxHeartbeats 8000000 in
set_option maxRecDepth 100000 in
theorem step_three {g n : Nat} {v : SS} (w : World) (hk : Lk w g n v) (hn : n ≤ 4) {q : Nat} (hq : q < n) (hP : Pre n v q) (ha : (v.h q).a = 3) :
    Calls Tryd.prog 12 #[.pointer (some ⟨g, 0, none⟩), .int .i64 q] w fun e w' =>
      StpR n v q w w' e ∧ Lk w' g n (pst n v q) ∧ Touch (fun k => k = g) w w' := by
  have HI := Lib.hid (isHand_any q w hk.num)
  rw [decide_eq_true (show (0 : Int) ≤ q ∧ (q : Int) < n by omega)] at HI
  have hq4 : q < 4 := by omega
  have hp4 : (q : Int) < 4 := by omega
  have c1 := hk.xA hq4
  rw [ha] at c1
  have c2 := hk.xX hq4
  have c3 : w.cell? ⟨g, 1 + q * 6 + 1, none⟩ = some (.int .i64 (v.wd q).t) := hk.wat hq4 (j := 1) (by omega)
  have s0 : w.cell? ⟨g, 25 + q * 60 + 56, none⟩ = some (.int .i64 ((v.h q).sw 0)) := hk.xS hq4 (q := 0) (by omega)
  have s1 : w.cell? ⟨g, 25 + q * 60 + 56 + 1, none⟩ = some (.int .i64 ((v.h q).sw 1)) := hk.xS hq4 (q := 1) (by omega)
  have s2 : w.cell? ⟨g, 25 + q * 60 + 56 + 2, none⟩ = some (.int .i64 ((v.h q).sw 2)) := hk.xS hq4 (q := 2) (by omega)
  have s3 : w.cell? ⟨g, 25 + q * 60 + 56 + 3, none⟩ = some (.int .i64 ((v.h q).sw 3)) := hk.xS hq4 (q := 3) (by omega)
  have d0 : w.cell? ⟨g, 1 + q * 6, none⟩ = some (wc (v.wd q) 0) := hk.wat hq4 (j := 0) (by omega)
  have d2 : w.cell? ⟨g, 1 + q * 6 + 2, none⟩ = some (wc (v.wd q) 2) := hk.wat hq4 (j := 2) (by omega)
  have d3 : w.cell? ⟨g, 1 + q * 6 + 3, none⟩ = some (wc (v.wd q) 3) := hk.wat hq4 (j := 3) (by omega)
  have d4 : w.cell? ⟨g, 1 + q * 6 + 4, none⟩ = some (wc (v.wd q) 4) := hk.wat hq4 (j := 4) (by omega)
  have d5 : w.cell? ⟨g, 1 + q * 6 + 5, none⟩ = some (wc (v.wd q) 5) := hk.wat hq4 (j := 5) (by omega)
  have f0 := hk.free (1 + q * 6)
  have f1 := hk.free (1 + q * 6 + 1)
  have f2 := hk.free (1 + q * 6 + 2)
  have f3 := hk.free (1 + q * 6 + 3)
  have f4 := hk.free (1 + q * 6 + 4)
  have f5 := hk.free (1 + q * 6 + 5)
  have hl : plk n v q = false := by unfold plk; rw [decide_eq_false (by omega)]; rfl
  have hd : pdn n v q = true := by unfold pdn; rw [decide_eq_true ha]; rfl
  have HE : ∀ w', StpR n v q w w' (.returned (.tuple #[.bool true, .slice none 0 0, .nilIface])) := fun w' => StpR.go hq (by omega) (by rw [hd]) (fun h => (by rw [hl] at h; cases h)) fun _ => rfl
  have HE := Lib.hid HE
  have hps : pst n v q = putH (putW v q ⟨(v.h q).x, (v.wd q).t + 1, (v.h q).sw⟩) q sb0 := by unfold pst; rw [if_neg (by omega), if_neg (by omega)]
  rw [hps]
  have hT := hP.tn
  have hL1 := hk.word hq4 ⟨(v.h q).x, (v.wd q).t + 1, (v.h q).sw⟩
  generalize (v.h q).x = X at *
  generalize (v.wd q).t = T at *
  have hw : IntKind.i64.wrap ((T : Int) + 1) = ((T + 1 : Nat) : Int) := (IntWalk.i64_in _ (by omega)).trans (by omega)
  obtain ⟨V, hV⟩ : ∃ V, V = w.setCells g (1 + q * 6) (cW ⟨X, T + 1, (v.h q).sw⟩) := ⟨_, rfl⟩
  rw [← hV] at hL1
  have hV2 : (((((w.setCell ⟨g, 1 + q * 6, none⟩ (.int .i64 X)).setCell ⟨g, 1 + q * 6 + 1, none⟩ (.int .i64 ((T : Int) + 1))).setCell ⟨g, 1 + q * 6 + 2, none⟩ (.int .i64 ((v.h q).sw 0))).setCell ⟨g, 1 + q * 6 + 3, none⟩ (.int .i64 ((v.h q).sw 1))).setCell ⟨g, 1 + q * 6 + 4, none⟩ (.int .i64 ((v.h q).sw 2))).setCell ⟨g, 1 + q * 6 + 5, none⟩ (.int .i64 ((v.h q).sw 3)) = V := by rw [hV]; rfl
  have HV2 := Lib.hid hV2
  have HT1 := Lib.hid (show Touch (fun k => k = g) w V by rw [hV]; exact touch_cells _ _ _)
  have HL1 := Lib.hid hL1
  have HTH := Lib.hid (show V.drew.there g (25 + q * 60) 60 from hL1.drew.there (by omega))
  clear hL1 hV hV2 hT hps hd hl ha hP hk hn hq
  go_enter Tryd.func12, Tryd.ntmps12
  go_wp2_with (go_at_call 32; refine HI.out.mono ?_; rintro e w' ⟨rfl, rfl⟩)
  go_region_with fail
  all_goals
    rw [HV2.out]
    go_wp2_with (refine wpList_store_mid rfl 72 _ _ rfl g (25 + q * 60) #[.int .i64 0, .bool false, .int .i64 0, .int .i64 0, .int .i64 0, .int .i64 0, .int .i64 0, .int .i64 0, .int .i64 0, .int .i64 0, .int .i64 0, .int .i64 0, .int .i64 0, .int .i64 0, .int .i64 0, .int .i64 0, .int .i64 0, .int .i64 0, .int .i64 0, .int .i64 0, .int .i64 0, .int .i64 0, .int .i64 0, .int .i64 0, .int .i64 0, .int .i64 0, .int .i64 0, .int .i64 0, .int .i64 0, .int .i64 0, .int .i64 0, .int .i64 0, .int .i64 0, .int .i64 0, .int .i64 0, .int .i64 0, .int .i64 0, .int .i64 0, .int .i64 0, .int .i64 0, .int .i64 0, .int .i64 0, .int .i64 0, .int .i64 0, .int .i64 0, .int .i64 0, .int .i64 0, .int .i64 0, .int .i64 0, .int .i64 0, .int .i64 0, .int .i64 0, .int .i64 0, .int .i64 0, .int .i64 0, .int .i64 0, .int .i64 0, .int .i64 0, .int .i64 0, .int .i64 0] rfl rfl HTH.out Th.info h60z_one ?_)
    go_ret3
    have h2 := HL1.out.drew.setH hq4 sb0
    rw [h60z]
    exact ⟨HE.out _, h2, HT1.out.drew.trans (touch_cells _ _ _) fun _ h => Or.inl h⟩
theorem step_any {g n : Nat} {v : SS} (w : World) (hk : Lk w g n v) (hn : n ≤ 4) (hP : ∀ q, q < n → Pre n v q) (p : Int) :
    Calls Tryd.prog 12 #[.pointer (some ⟨g, 0, none⟩), .int .i64 p] w fun e w' =>
      StpR n v p w w' e ∧ Lk w' g n (stS n v p) ∧ Touch (fun k => k = g) w w' := by
  by_cases h : ¬ (0 ≤ p ∧ p < n) ∨ (v.h p.toNat).a = 0
  · have := step_none w hk hn p h
    unfold stS
    rw [if_pos h]
    exact this
  · unfold stS
    rw [if_neg h]
    obtain ⟨q, rfl⟩ := Int.eq_ofNat_of_zero_le (show 0 ≤ p by omega)
    rw [Int.toNat_natCast] at h ⊢
    have hq : q < n := by omega
    have hP' := hP q hq
    have hln := hP'.ln
    by_cases h1 : (v.h q).a = 1
    · exact step_one w hk hn hq hP' h1
    · by_cases h2 : (v.h q).a = 2
      · exact step_two w hk hn hq hP' h2
      · exact step_three w hk hn hq hP' (by omega)
end Go.Proofs.YtnplhjbbkccdnaaDoor.Snap
