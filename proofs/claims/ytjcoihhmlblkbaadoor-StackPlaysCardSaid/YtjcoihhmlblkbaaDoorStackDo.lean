/-
  Package stack: change, do.
-/
import Derived.Test.YtjcoihhmlblkbaaDoorStack
namespace Go.Proofs.YtjcoihhmlblkbaaDoor.Stk
open Go.RowKit

/-- Top is as hand p saw it. -/
def kseen (v : KS) (p : Nat) : Bool := decide (v.tn = v.sn p ∧ v.tt = v.st p)
def kchg (tg : Bool) (v : KS) (z : Int) : KS := { v with tn := z, tt := if tg then v.tt + 1 else v.tt }
/-- Hand p is at line a, with node m, and has seen nothing. -/
def kclr (v : KS) (p a m : Nat) : KS := { v with a := rput v.a p a, m := rput v.m p m, sn := rput v.sn p 0, st := rput v.st p 0, sx := rput v.sx p 0 }
set_option maxHeartbeats 4000000 in
theorem change_any {g n : Nat} {tg : Bool} {v : KS} (w : World) (hk : Lk w g n tg v) (ht : 0 ≤ v.tt ∧ v.tt ≤ 1000) (a b z : Int) :
    Calls Tryd.prog 46 #[.pointer (some ⟨g, 0, none⟩), .agg #[.int .i64 a, .int .i64 b], .int .i64 z] w fun e w' =>
      e = .returned (.bool (decide (v.tn = a ∧ v.tt = b))) ∧ Lk w' g n tg (if v.tn = a ∧ v.tt = b then kchg tg v z else v) ∧ Touch (fun k => k = g) w w' := by
  obtain ⟨W, hW⟩ : ∃ W, W = w.alloc (.cells #[.int .i64 a, .int .i64 b] 93) := ⟨_, rfl⟩
  have hbx : Block W w.heap.size 93 #[.int .i64 a, .int .i64 b] := by rw [hW]; exact Block.made _ _ _
  have hkW : Lk W g n tg v := by rw [hW]; exact hk.alloc _
  have HT := Lib.hid (show Touch (fun k => k = g) w W from by rw [hW]; exact (Touch.refl _ w).alloc _)
  have q0 := hbx.cell 0
  have q1 := hbx.cell 1
  simp at q0 q1
  have h14 := hkW.xtn
  have h15 := hkW.xtt
  have h1 := hkW.xtags
  have f14 := hkW.free 14
  have f15 := hkW.free 15
  have hw : IntKind.i64.wrap (v.tt + 1) = v.tt + 1 := IntWalk.i64_in _ (by omega)
  have HK := Lib.hid hkW
  clear hk hkW hbx ht
  by_cases c1 : v.tn = a
  · by_cases c2 : v.tt = b
    · rw [decide_eq_true (show v.tn = a ∧ v.tt = b from ⟨c1, c2⟩), if_pos ⟨c1, c2⟩]
      have b1 : (v.tn == a) = true := by simp [c1]
      have b2 : (v.tt == b) = true := by simp [c2]
      clear c1 c2
      cases tg with
      | true =>
        have HF := Lib.hid ((HK.out.setTn z).setTt (v.tt + 1))
        go_enter Tryd.func46, Tryd.ntmps46
        go_upto_region 1 with fail
        rw [← hW]
        clear hW
        go_quiet (fail)
        go_wp2
        go_ret
        exact ⟨rfl, HF.out.drewN _, ((HT.out.drewN _).setCell (Or.inl rfl) _).setCell (Or.inl rfl) _⟩
      | false =>
        have HF := Lib.hid (HK.out.setTn z)
        go_enter Tryd.func46, Tryd.ntmps46
        go_upto_region 1 with fail
        rw [← hW]
        clear hW
        go_quiet (fail)
        go_wp2
        go_ret
        exact ⟨rfl, HF.out.drewN _, (HT.out.drewN _).setCell (Or.inl rfl) _⟩
    · rw [decide_eq_false (show ¬ (v.tn = a ∧ v.tt = b) from fun h => c2 h.2), if_neg (fun h => c2 h.2)]
      have b1 : (v.tn == a) = true := by simp [c1]
      have b2 : (v.tt == b) = false := by simp [c2]
      clear c1 c2
      go_enter Tryd.func46, Tryd.ntmps46
      go_upto_region 1 with fail
      rw [← hW]
      clear hW
      go_quiet (fail)
      go_wp2
      go_ret
      exact ⟨rfl, HK.out.drewN _, HT.out.drewN _⟩
  · rw [decide_eq_false (show ¬ (v.tn = a ∧ v.tt = b) from fun h => c1 h.1), if_neg (fun h => c1 h.1)]
    have b1 : (v.tn == a) = false := by simp [c1]
    clear c1
    go_enter Tryd.func46, Tryd.ntmps46
    go_upto_region 1 with fail
    rw [← hW]
    clear hW
    go_quiet (fail)
    go_wp2
    go_ret
    exact ⟨rfl, HK.out.drewN _, HT.out.drewN _⟩
/-- What do makes of a stack at each line of hand p. -/
def ksee (v : KS) (p : Nat) : KS := { v with sn := rput v.sn p v.tn, st := rput v.st p v.tt }
def kat (v : KS) (p a : Nat) : KS := { v with a := rput v.a p a }
def kdo1 (v : KS) (p : Nat) : KS := kat { ksee v p with nx := rput v.nx (v.m p) v.tn } p 2
def kdo4 (v : KS) (p : Nat) : KS := kat { v with sx := rput v.sx p (v.nx (v.sn p).toNat) } p 5
set_option maxHeartbeats 4000000 in
theorem do1_any {g n : Nat} {tg : Bool} {v : KS} (w : World) (hk : Lk w g n tg v) {p : Nat} (hp : p < 4) (ha : v.a p = 1) (hm : v.m p < 4) :
    Calls Tryd.prog 42 #[.pointer (some ⟨g, 0, none⟩), .pointer (some ⟨g, 16 + p * 5, none⟩)] w fun e w' => e = .returned (.tuple #[.bool false, .int .i64 (0)]) ∧ Lk w' g n tg (kdo1 v p) ∧ Touch (fun k => k = g) w w' := by
  have q1 := hk.xa hp
  rw [ha] at q1
  have q2 := hk.xm hp
  have q3 := hk.xtn
  have q4 := hk.xtt
  have q5 := hk.xsn hp
  have q6 := hk.xst hp
  have q7 := hk.xnx hm
  have hmI : (v.m p : Int) < 4 := by omega
  have f1 := hk.free (16 + p * 5)
  have f2 := hk.free (16 + p * 5 + 2)
  have f3 := hk.free (16 + p * 5 + 3)
  have f4 := hk.free (2 + v.m p * 3 + 2)
  have h1 := ((((hk.setSn hp v.tn).setSt hp v.tt).setNx hm v.tn).setA hp 2)
  have H1 := Lib.hid (show Lk _ g n tg (kdo1 v p) from h1)
  clear hk ha h1
  go_enter Tryd.func42, Tryd.ntmps42
  go_wp2_with fail
  go_region_with fail
  all_goals
    go_wp2
    go_ret2
    exact ⟨rfl, H1.out.drew, (((((Touch.refl (fun k => k = g) w).setCell (Or.inl rfl) _).setCell (Or.inl rfl) _).setCell (Or.inl rfl) _).setCell (Or.inl rfl) _).drew⟩
set_option maxHeartbeats 4000000 in
theorem do2y_any {g n : Nat} {tg : Bool} {v : KS} (w : World) (hk : Lk w g n tg v) {p : Nat} (hp : p < 4) (ha : v.a p = 2) (ht : 0 ≤ v.tt ∧ v.tt ≤ 1000) (hs : kseen v p = true) :
    Calls Tryd.prog 42 #[.pointer (some ⟨g, 0, none⟩), .pointer (some ⟨g, 16 + p * 5, none⟩)] w fun e w' => e = .returned (.tuple #[.bool true, .int .i64 (-1)]) ∧ Lk w' g n tg (kchg tg v (v.m p)) ∧ Touch (fun k => k = g) w w' := by
  have q1 := hk.xa hp
  rw [ha] at q1
  have q2 := hk.xm hp
  have q5 := hk.xsn hp
  have q6 := hk.xst hp
  have HC := Lib.hid (fun W (hW : Lk W g n tg v) => change_any W hW ht (v.sn p) (v.st p) (v.m p))
  have hd : decide (v.tn = v.sn p ∧ v.tt = v.st p) = true := hs
  rw [hd] at HC
  have hi : (if v.tn = v.sn p ∧ v.tt = v.st p then kchg tg v (v.m p) else v) = kchg tg v (v.m p) := if_pos (of_decide_eq_true hd)
  rw [hi] at HC
  have HK := Lib.hid hk
  have HS := Lib.hid (show (fun W : World => W.cell? ⟨g, 16 + p * 5 + 1, none⟩ = some (.int .i64 ((v.m p : Nat) : Int)) ∧ W.cell? ⟨g, 16 + p * 5 + 2, none⟩ = some (.int .i64 (v.sn p)) ∧ W.cell? ⟨g, 16 + p * 5 + 3, none⟩ = some (.int .i64 (v.st p))) w.drew from ⟨q2, q5, q6⟩)
  clear hk ha hs hd hi ht
  go_enter Tryd.func42, Tryd.ntmps42
  go_wp2_with fail
  go_region_held3 (fun W : World => W.cell? ⟨g, 16 + p * 5 + 1, none⟩ = some (.int .i64 ((v.m p : Nat) : Int)) ∧ W.cell? ⟨g, 16 + p * 5 + 2, none⟩ = some (.int .i64 (v.sn p)) ∧ W.cell? ⟨g, 16 + p * 5 + 3, none⟩ = some (.int .i64 (v.st p))) (first | exact HS.out | exact HS2.out) ((go_at_call 46; (with_reducible refine (HC.out _ HK.out.drew).mono ?_); rintro e w2 ⟨rfl, hk2, ht2⟩; have HK2 := Lib.hid hk2; have HS2 := Lib.hid (show (fun W : World => W.cell? ⟨g, 16 + p * 5 + 1, none⟩ = some (.int .i64 ((v.m p : Nat) : Int)) ∧ W.cell? ⟨g, 16 + p * 5 + 2, none⟩ = some (.int .i64 (v.sn p)) ∧ W.cell? ⟨g, 16 + p * 5 + 3, none⟩ = some (.int .i64 (v.st p))) w2 from ⟨hk2.xm hp, hk2.xsn hp, hk2.xst hp⟩); have HT2 := Lib.hid ht2; clear hk2 ht2))
  all_goals
    go_wp2
    go_ret2
    exact ⟨rfl, HK2.out, (Touch.refl (fun k => k = g) w).drew.trans HT2.out fun _ h => Or.inl h⟩
set_option maxHeartbeats 4000000 in
theorem do2n_any {g n : Nat} {tg : Bool} {v : KS} (w : World) (hk : Lk w g n tg v) {p : Nat} (hp : p < 4) (ha : v.a p = 2) (ht : 0 ≤ v.tt ∧ v.tt ≤ 1000) (hs : kseen v p = false) :
    Calls Tryd.prog 42 #[.pointer (some ⟨g, 0, none⟩), .pointer (some ⟨g, 16 + p * 5, none⟩)] w fun e w' => e = .returned (.tuple #[.bool false, .int .i64 (0)]) ∧ Lk w' g n tg (kclr v p 1 (v.m p)) ∧ Touch (fun k => k = g) w w' := by
  have q1 := hk.xa hp
  rw [ha] at q1
  have q2 := hk.xm hp
  have q5 := hk.xsn hp
  have q6 := hk.xst hp
  have HC := Lib.hid (fun W (hW : Lk W g n tg v) => change_any W hW ht (v.sn p) (v.st p) (v.m p))
  have hd : decide (v.tn = v.sn p ∧ v.tt = v.st p) = false := hs
  rw [hd] at HC
  have hi : (if v.tn = v.sn p ∧ v.tt = v.st p then kchg tg v (v.m p) else v) = v := if_neg (of_decide_eq_false hd)
  rw [hi] at HC
  have HK := Lib.hid hk
  have HS := Lib.hid (show (fun W : World => W.cell? ⟨g, 16 + p * 5 + 1, none⟩ = some (.int .i64 ((v.m p : Nat) : Int)) ∧ W.cell? ⟨g, 16 + p * 5 + 2, none⟩ = some (.int .i64 (v.sn p)) ∧ W.cell? ⟨g, 16 + p * 5 + 3, none⟩ = some (.int .i64 (v.st p))) w.drew from ⟨q2, q5, q6⟩)
  clear hk ha hs hd hi ht
  go_enter Tryd.func42, Tryd.ntmps42
  go_wp2_with fail
  go_region_held3 (fun W : World => W.cell? ⟨g, 16 + p * 5 + 1, none⟩ = some (.int .i64 ((v.m p : Nat) : Int)) ∧ W.cell? ⟨g, 16 + p * 5 + 2, none⟩ = some (.int .i64 (v.sn p)) ∧ W.cell? ⟨g, 16 + p * 5 + 3, none⟩ = some (.int .i64 (v.st p))) (first | exact HS.out | exact HS2.out) ((go_at_call 46; (with_reducible refine (HC.out _ HK.out.drew).mono ?_); rintro e w2 ⟨rfl, hk2, ht2⟩; have HK2 := Lib.hid hk2; have HS2 := Lib.hid (show (fun W : World => W.cell? ⟨g, 16 + p * 5 + 1, none⟩ = some (.int .i64 ((v.m p : Nat) : Int)) ∧ W.cell? ⟨g, 16 + p * 5 + 2, none⟩ = some (.int .i64 (v.sn p)) ∧ W.cell? ⟨g, 16 + p * 5 + 3, none⟩ = some (.int .i64 (v.st p))) w2 from ⟨hk2.xm hp, hk2.xsn hp, hk2.xst hp⟩); have HT2 := Lib.hid ht2; clear hk2 ht2))
  all_goals
    have q2 := HK2.out.xm hp
    have f1 := HK2.out.free (16 + p * 5)
    have f2 := HK2.out.free (16 + p * 5 + 1)
    have f3 := HK2.out.free (16 + p * 5 + 2)
    have f4 := HK2.out.free (16 + p * 5 + 3)
    have f5 := HK2.out.free (16 + p * 5 + 4)
    have g1 := HK2.out.xa hp
    have g3 := HK2.out.xsn hp
    have g4 := HK2.out.xst hp
    have g5 := HK2.out.xsx hp
    have H3 := Lib.hid (show Lk _ g n tg (kclr v p 1 (v.m p)) from (((((HK2.out.setA hp 1).setM hp (v.m p)).setSn hp 0).setSt hp 0).setSx hp 0))
    go_wp2
    go_ret2
    exact ⟨rfl, H3.out, ((((((Touch.refl (fun k => k = g) w).drew.trans HT2.out fun _ h => Or.inl h).setCell (Or.inl rfl) _).setCell (Or.inl rfl) _).setCell (Or.inl rfl) _).setCell (Or.inl rfl) _).setCell (Or.inl rfl) _⟩
set_option maxHeartbeats 4000000 in
theorem do3y_any {g n : Nat} {tg : Bool} {v : KS} (w : World) (hk : Lk w g n tg v) {p : Nat} (hp : p < 4) (ha : v.a p = 3) (ht : v.tn = -1) :
    Calls Tryd.prog 42 #[.pointer (some ⟨g, 0, none⟩), .pointer (some ⟨g, 16 + p * 5, none⟩)] w fun e w' => e = .returned (.tuple #[.bool true, .int .i64 (-1)]) ∧ Lk w' g n tg (ksee v p) ∧ Touch (fun k => k = g) w w' := by
  have q1 := hk.xa hp
  rw [ha] at q1
  have q3 := hk.xtn
  have q4 := hk.xtt
  have q5 := hk.xsn hp
  have q6 := hk.xst hp
  have f1 := hk.free (16 + p * 5)
  have f2 := hk.free (16 + p * 5 + 2)
  have f3 := hk.free (16 + p * 5 + 3)
  have hI : (v.tn == -1) = true := by simp [ht]
  have H1 := Lib.hid (show Lk _ g n tg (ksee v p) from ((hk.setSn hp v.tn).setSt hp v.tt))
  clear hk ha ht
  go_enter Tryd.func42, Tryd.ntmps42
  go_wp2
  go_ret2
  exact ⟨rfl, H1.out, ((Touch.refl (fun k => k = g) w).setCell (Or.inl rfl) _).setCell (Or.inl rfl) _⟩
set_option maxHeartbeats 4000000 in
theorem do3n_any {g n : Nat} {tg : Bool} {v : KS} (w : World) (hk : Lk w g n tg v) {p : Nat} (hp : p < 4) (ha : v.a p = 3) (ht : v.tn ≠ -1) :
    Calls Tryd.prog 42 #[.pointer (some ⟨g, 0, none⟩), .pointer (some ⟨g, 16 + p * 5, none⟩)] w fun e w' => e = .returned (.tuple #[.bool false, .int .i64 (0)]) ∧ Lk w' g n tg (kat (ksee v p) p 4) ∧ Touch (fun k => k = g) w w' := by
  have q1 := hk.xa hp
  rw [ha] at q1
  have q3 := hk.xtn
  have q4 := hk.xtt
  have q5 := hk.xsn hp
  have q6 := hk.xst hp
  have f1 := hk.free (16 + p * 5)
  have f2 := hk.free (16 + p * 5 + 2)
  have f3 := hk.free (16 + p * 5 + 3)
  have hI : (v.tn == -1) = false := by simp [ht]
  have H1 := Lib.hid (show Lk _ g n tg (kat (ksee v p) p 4) from (((hk.setSn hp v.tn).setSt hp v.tt).setA hp 4))
  clear hk ha ht
  go_enter Tryd.func42, Tryd.ntmps42
  go_wp2
  go_ret2
  exact ⟨rfl, H1.out, (((Touch.refl (fun k => k = g) w).setCell (Or.inl rfl) _).setCell (Or.inl rfl) _).setCell (Or.inl rfl) _⟩
set_option maxHeartbeats 4000000 in
theorem do4_any {g n : Nat} {tg : Bool} {v : KS} (w : World) (hk : Lk w g n tg v) {p : Nat} (hp : p < 4) (ha : v.a p = 4) {k : Nat} (hs : v.sn p = k) (hk4 : k < 4) :
    Calls Tryd.prog 42 #[.pointer (some ⟨g, 0, none⟩), .pointer (some ⟨g, 16 + p * 5, none⟩)] w fun e w' => e = .returned (.tuple #[.bool false, .int .i64 (0)]) ∧ Lk w' g n tg (kdo4 v p) ∧ Touch (fun k => k = g) w w' := by
  have q1 := hk.xa hp
  rw [ha] at q1
  have q5 := hk.xsn hp
  have q6 := hk.xsx hp
  have q7 := hk.xnx hk4
  rw [hs] at q5
  have hmI : (k : Int) < 4 := by omega
  have f1 := hk.free (16 + p * 5)
  have f2 := hk.free (16 + p * 5 + 4)
  have e4 : kdo4 v p = kat { v with sx := rput v.sx p (v.nx k) } p 5 := by unfold kdo4; rw [hs]; rfl
  rw [e4]
  have H1 := Lib.hid (show Lk _ g n tg (kat { v with sx := rput v.sx p (v.nx k) } p 5) from ((hk.setSx hp (v.nx k)).setA hp 5))
  clear hk ha hs e4
  go_enter Tryd.func42, Tryd.ntmps42
  go_wp2_with fail
  go_region_with fail
  all_goals
    go_wp2
    go_ret2
    exact ⟨rfl, H1.out.drew, (((Touch.refl (fun k => k = g) w).setCell (Or.inl rfl) _).setCell (Or.inl rfl) _).drew⟩
set_option maxHeartbeats 4000000 in
theorem do5y_any {g n : Nat} {tg : Bool} {v : KS} (w : World) (hk : Lk w g n tg v) {p : Nat} (hp : p < 4) (ha : v.a p = 5) (ht : 0 ≤ v.tt ∧ v.tt ≤ 1000) (hs : kseen v p = true) {k : Nat} (hsk : v.sn p = k) (hk4 : k < 4) :
    Calls Tryd.prog 42 #[.pointer (some ⟨g, 0, none⟩), .pointer (some ⟨g, 16 + p * 5, none⟩)] w fun e w' => e = .returned (.tuple #[.bool true, .int .i64 (v.x k)]) ∧ Lk w' g n tg ({ kchg tg v (v.sx p) with u := rput v.u k false }) ∧ Touch (fun k => k = g) w w' := by
  have q1 := hk.xa hp
  rw [ha] at q1
  have q2 := hk.xsx hp
  have q5 := hk.xsn hp
  rw [hsk] at q5
  have q6 := hk.xst hp
  have HC := Lib.hid (fun W (hW : Lk W g n tg v) => change_any W hW ht (k : Int) (v.st p) (v.sx p))
  have hd : decide (v.tn = (k : Int) ∧ v.tt = v.st p) = true := (by have h := hs; unfold kseen at h; rwa [hsk] at h)
  rw [hd] at HC
  have hi : (if v.tn = (k : Int) ∧ v.tt = v.st p then kchg tg v (v.sx p) else v) = kchg tg v (v.sx p) := if_pos (of_decide_eq_true hd)
  rw [hi] at HC
  have HSK := Lib.hid hsk
  have HK := Lib.hid hk
  have HS := Lib.hid (show (fun W : World => W.cell? ⟨g, 16 + p * 5 + 4, none⟩ = some (.int .i64 (v.sx p)) ∧ W.cell? ⟨g, 16 + p * 5 + 2, none⟩ = some (.int .i64 (k : Int)) ∧ W.cell? ⟨g, 16 + p * 5 + 3, none⟩ = some (.int .i64 (v.st p))) w.drew from ⟨q2, q5, q6⟩)
  clear hk ha hs hd hi ht hsk
  go_enter Tryd.func42, Tryd.ntmps42
  go_wp2_with fail
  go_region_held3 (fun W : World => W.cell? ⟨g, 16 + p * 5 + 4, none⟩ = some (.int .i64 (v.sx p)) ∧ W.cell? ⟨g, 16 + p * 5 + 2, none⟩ = some (.int .i64 (k : Int)) ∧ W.cell? ⟨g, 16 + p * 5 + 3, none⟩ = some (.int .i64 (v.st p))) (first | exact HS.out | exact HS2.out) ((go_at_call 46; (with_reducible refine (HC.out _ HK.out.drew).mono ?_); rintro e w2 ⟨rfl, hk2, ht2⟩; have HK2 := Lib.hid hk2; have HS2 := Lib.hid (show (fun W : World => W.cell? ⟨g, 16 + p * 5 + 4, none⟩ = some (.int .i64 (v.sx p)) ∧ W.cell? ⟨g, 16 + p * 5 + 2, none⟩ = some (.int .i64 (k : Int)) ∧ W.cell? ⟨g, 16 + p * 5 + 3, none⟩ = some (.int .i64 (v.st p))) w2 from ⟨hk2.xsx hp, (by have h := hk2.xsn hp; rwa [show (kchg tg v (v.sx p)).sn p = (k : Int) from HSK.out] at h), hk2.xst hp⟩); have HT2 := Lib.hid ht2; clear hk2 ht2))
  all_goals
    have hmI : (k : Int) < 4 := by omega
    have q5 := HK2.out.xsn hp
    rw [show (kchg tg v (v.sx p)).sn p = (k : Int) from HSK.out] at q5
    have q7 := HK2.out.xu hk4
    have q8 := HK2.out.xx hk4
    rw [show (kchg tg v (v.sx p)).x k = v.x k from rfl] at q8
    have f1 := HK2.out.free (2 + k * 3)
    have H3 := Lib.hid (show Lk _ g n tg { kchg tg v (v.sx p) with u := rput v.u k false } from (HK2.out.setU hk4 false))
    go_wp2_with fail
    go_region_with fail
    all_goals
      go_wp2_with fail
      go_quiet (fail)
      go_wp2
      go_ret2
      exact ⟨rfl, H3.out.drew.drewN _, ((((Touch.refl (fun k => k = g) w).drew.trans HT2.out fun _ h => Or.inl h).setCell (Or.inl rfl) _).drew).drewN _⟩
set_option maxHeartbeats 4000000 in
theorem do5n_any {g n : Nat} {tg : Bool} {v : KS} (w : World) (hk : Lk w g n tg v) {p : Nat} (hp : p < 4) (ha : v.a p = 5) (ht : 0 ≤ v.tt ∧ v.tt ≤ 1000) (hs : kseen v p = false) :
    Calls Tryd.prog 42 #[.pointer (some ⟨g, 0, none⟩), .pointer (some ⟨g, 16 + p * 5, none⟩)] w fun e w' => e = .returned (.tuple #[.bool false, .int .i64 (0)]) ∧ Lk w' g n tg (kclr v p 3 0) ∧ Touch (fun k => k = g) w w' := by
  have q1 := hk.xa hp
  rw [ha] at q1
  have q2 := hk.xsx hp
  have q5 := hk.xsn hp
  have q6 := hk.xst hp
  have HC := Lib.hid (fun W (hW : Lk W g n tg v) => change_any W hW ht (v.sn p) (v.st p) (v.sx p))
  have hd : decide (v.tn = v.sn p ∧ v.tt = v.st p) = false := hs
  rw [hd] at HC
  have hi : (if v.tn = v.sn p ∧ v.tt = v.st p then kchg tg v (v.sx p) else v) = v := if_neg (of_decide_eq_false hd)
  rw [hi] at HC
  have HK := Lib.hid hk
  have HS := Lib.hid (show (fun W : World => W.cell? ⟨g, 16 + p * 5 + 4, none⟩ = some (.int .i64 (v.sx p)) ∧ W.cell? ⟨g, 16 + p * 5 + 2, none⟩ = some (.int .i64 (v.sn p)) ∧ W.cell? ⟨g, 16 + p * 5 + 3, none⟩ = some (.int .i64 (v.st p))) w.drew from ⟨q2, q5, q6⟩)
  clear hk ha hs hd hi ht 
  go_enter Tryd.func42, Tryd.ntmps42
  go_wp2_with fail
  go_region_held3 (fun W : World => W.cell? ⟨g, 16 + p * 5 + 4, none⟩ = some (.int .i64 (v.sx p)) ∧ W.cell? ⟨g, 16 + p * 5 + 2, none⟩ = some (.int .i64 (v.sn p)) ∧ W.cell? ⟨g, 16 + p * 5 + 3, none⟩ = some (.int .i64 (v.st p))) (first | exact HS.out | exact HS2.out) ((go_at_call 46; (with_reducible refine (HC.out _ HK.out.drew).mono ?_); rintro e w2 ⟨rfl, hk2, ht2⟩; have HK2 := Lib.hid hk2; have HS2 := Lib.hid (show (fun W : World => W.cell? ⟨g, 16 + p * 5 + 4, none⟩ = some (.int .i64 (v.sx p)) ∧ W.cell? ⟨g, 16 + p * 5 + 2, none⟩ = some (.int .i64 (v.sn p)) ∧ W.cell? ⟨g, 16 + p * 5 + 3, none⟩ = some (.int .i64 (v.st p))) w2 from ⟨hk2.xsx hp, hk2.xsn hp, hk2.xst hp⟩); have HT2 := Lib.hid ht2; clear hk2 ht2))
  all_goals
    have f1 := HK2.out.free (16 + p * 5)
    have f2 := HK2.out.free (16 + p * 5 + 1)
    have f3 := HK2.out.free (16 + p * 5 + 2)
    have f4 := HK2.out.free (16 + p * 5 + 3)
    have f5 := HK2.out.free (16 + p * 5 + 4)
    have g1 := HK2.out.xa hp
    have g2 := HK2.out.xm hp
    have g3 := HK2.out.xsn hp
    have g4 := HK2.out.xst hp
    have g5 := HK2.out.xsx hp
    have H3 := Lib.hid (show Lk _ g n tg (kclr v p 3 0) from (((((HK2.out.setA hp 3).setM hp 0).setSn hp 0).setSt hp 0).setSx hp 0))
    go_wp2
    go_ret2
    exact ⟨rfl, H3.out, ((((((Touch.refl (fun k => k = g) w).drew.trans HT2.out fun _ h => Or.inl h).setCell (Or.inl rfl) _).setCell (Or.inl rfl) _).setCell (Or.inl rfl) _).setCell (Or.inl rfl) _).setCell (Or.inl rfl) _⟩
end Go.Proofs.YtjcoihhmlblkbaaDoor.Stk
