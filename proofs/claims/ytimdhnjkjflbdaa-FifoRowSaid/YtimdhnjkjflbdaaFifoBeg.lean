/-
  Package fifo: what New, Put and Get answer.
-/
import Derived.Test.YtimdhnjkjflbdaaFifoStep
import Derived.Deep.WholeRow
namespace Go.Proofs.Ytimdhnjkjflbdaa.Fif
open Go.RowKit

/-- The error of a put (of x from 0 on) or a get (x below 0); the queue behind it. -/
def begE (n : Nat) (v : QF) (p x : Int) : Int := if ¬ (0 ≤ p ∧ p < n) then 1 else if v.a p.toNat ≠ 0 then 7 else if x < 0 then 0 else if v.ct = 40 then 4 else 0
def begS (n : Nat) (v : QF) (p x : Int) : QF := if begE n v p x = 0 then (if x < 0 then kclr v p.toNat 6 0 else kclr (ktake v x) p.toNat 1 v.ct) else v
theorem may_cases (n : Nat) (v : QF) (p : Int) : mayE n v p = 0 ∨ mayE n v p = 1 ∨ mayE n v p = 7 := by
  unfold mayE; split
  · omega
  · split <;> omega
theorem beg_may {n : Nat} {v : QF} {p x : Int} (h : mayE n v p ≠ 0) : begE n v p x = mayE n v p := by
  unfold mayE begE at *
  split
  · rfl
  · rename_i h1
    rw [if_neg h1] at h
    split
    · rfl
    · rename_i h2; rw [if_neg h2] at h; exact absurd rfl h
theorem may_zero {n : Nat} {v : QF} {p : Int} (h : mayE n v p = 0) : ∃ q : Nat, p = q ∧ q < n ∧ v.a q = 0 := by
  unfold mayE at h
  split at h
  · omega
  · rename_i h1
    split at h
    · omega
    · rename_i h2
      exact ⟨p.toNat, by omega, by omega, by omega⟩
theorem beg_zero {n : Nat} {v : QF} {q : Nat} (hq : q < n) (ha : v.a q = 0) (x : Int) : begE n v q x = if x < 0 then 0 else if v.ct = 40 then 4 else 0 := by
  unfold begE; rw [if_neg (by omega), if_neg (by simpa using ha)]
set_option maxHeartbeats 4000000 in
theorem get_any {g n : Nat} {v : QF} (w : World) (hk : Lk w g n v) (hn : n ≤ 4) (p x : Int) (hx : x < 0) :
    Calls Try.prog 19 #[.pointer (some ⟨g, 0, none⟩), .int .i64 p] w fun e w' =>
      e = .returned (errV 55 (begE n v p x)) ∧ Lk w' g n (begS n v p x) ∧ Touch (fun k => k = g) w w' := by
  have HM := Lib.hid (may_any w hk hn p)
  by_cases hm : mayE n v p = 0
  · obtain ⟨q, rfl, hq, ha⟩ := may_zero hm
    rw [hm] at HM
    have hq4 : q < 4 := by omega
    have hp4 : (q : Int) < 4 := by omega
    have he : begE n v q x = 0 := by rw [beg_zero hq ha, if_pos hx]
    have hs : begS n v q x = kclr v q 6 0 := by unfold begS; rw [if_pos he, if_pos hx]; rfl
    rw [he, hs]
    have g1 := hk.xa hq4
    have g2 := hk.xe hq4
    have g3 := hk.xh hq4
    have g4 := hk.xt hq4
    have g5 := hk.xx hq4
    have f1 := hk.free (84 + q * 5)
    have f2 := hk.free (84 + q * 5 + 1)
    have f3 := hk.free (84 + q * 5 + 2)
    have f4 := hk.free (84 + q * 5 + 3)
    have f5 := hk.free (84 + q * 5 + 4)
    have H3 := Lib.hid (show Lk _ g n (kclr v q 6 0) from (hk.setHand hq4 6 0))
    rw [show errV 55 0 = .nilIface from rfl] at HM
    clear hm ha he hs hk hx
    go_enter Try.func19, Try.ntmps19
    go_wp2_with (go_at_call 38; refine HM.out.mono ?_; rintro e w' ⟨rfl, rfl⟩)
    go_ret
    exact ⟨rfl, H3.out, ((((((Touch.refl (fun k => k = g) w).setCell (Or.inl rfl) _).setCell (Or.inl rfl) _).setCell (Or.inl rfl) _).setCell (Or.inl rfl) _).setCell (Or.inl rfl) _)⟩
  · have he := beg_may (x := x) hm
    have hs : begS n v p x = v := by unfold begS; rw [he, if_neg hm]
    rw [he, hs]
    rcases may_cases n v p with h | h | h
    · exact absurd h hm
    all_goals
      rw [h] at HM ⊢
      have HK := Lib.hid hk
      clear hm he hs h hk hx
      first | rw [show errV 55 1 = .iface 55 (.int .i64 1) from rfl] at HM ⊢ | rw [show errV 55 7 = .iface 55 (.int .i64 7) from rfl] at HM ⊢
      go_enter Try.func19, Try.ntmps19
      go_wp2_with (go_at_call 38; refine HM.out.mono ?_; rintro e w' ⟨rfl, rfl⟩)
      go_ret
      exact ⟨rfl, HK.out, Touch.refl _ _⟩
set_option maxHeartbeats 4000000 in
/-- A value that is too great. -/
theorem put_far {g n : Nat} {v : QF} (w : World) (hk : Lk w g n v) (p x : Int) (hx : 1000 < x) :
    Calls Try.prog 20 #[.pointer (some ⟨g, 0, none⟩), .int .i64 p, .int .i64 x] w fun e w' =>
      e = .returned (errV 55 1) ∧ Lk w' g n v ∧ Touch (fun k => k = g) w w' := by
  have hx0 : ¬ x < 0 := by omega
  have HK := Lib.hid hk
  clear hk
  go_enter Try.func20, Try.ntmps20
  go_wp2
  go_ret
  exact ⟨rfl, HK.out, Touch.refl _ w⟩
set_option maxHeartbeats 4000000 in
theorem put_any {g n : Nat} {v : QF} (w : World) (hk : Lk w g n v) (hn : n ≤ 4) (hct : v.ct ≤ 40) (p x : Int) (hx : 0 ≤ x) (hx2 : x ≤ 1000) :
    Calls Try.prog 20 #[.pointer (some ⟨g, 0, none⟩), .int .i64 p, .int .i64 x] w fun e w' =>
      e = .returned (errV 55 (begE n v p x)) ∧ Lk w' g n (begS n v p x) ∧ Touch (fun k => k = g) w w' := by
  have hx0 : ¬ x < 0 := by omega
  have hx1 : ¬ 1000 < x := by omega
  have HM := Lib.hid (may_any w hk hn p)
  by_cases hm : mayE n v p = 0
  · obtain ⟨q, rfl, hq, ha⟩ := may_zero hm
    rw [hm] at HM
    rw [show errV 55 0 = .nilIface from rfl] at HM
    have q1 := hk.xct
    by_cases hf : v.ct = 40
    · have he : begE n v q x = 4 := by rw [beg_zero hq ha, if_neg hx0, if_pos hf]
      have hs : begS n v q x = v := by unfold begS; rw [he, if_neg (by omega)]
      rw [he, hs]
      rw [hf] at q1
      have HK := Lib.hid hk
      clear hm ha he hs hk hx hf
      go_enter Try.func20, Try.ntmps20
      go_wp2_with (go_at_call 38; refine HM.out.mono ?_; rintro e w' ⟨rfl, rfl⟩)
      go_ret
      exact ⟨rfl, HK.out, Touch.refl _ w⟩
    · have he : begE n v q x = 0 := by rw [beg_zero hq ha, if_neg hx0, if_neg hf]
      have hs : begS n v q x = kclr (ktake v x) q 1 v.ct := by unfold begS; rw [if_pos he, if_neg hx0]; rfl
      rw [he, hs]
      have hfb : ((v.ct : Int) == 40) = false := by simp; omega
      have hq4 : q < 4 := by omega
      have hp4 : (q : Int) < 4 := by omega
      have HTK := Lib.hid (fun W (hW : Lk W g n v) => take_any W hW (by omega) x)
      have HK := Lib.hid hk
      clear hm ha he hs hk hx hf hct
      obtain ⟨v2, hv2⟩ : ∃ u, u = ktake v x := ⟨_, rfl⟩
      rw [← hv2] at HTK ⊢
      clear hv2
      go_enter Try.func20, Try.ntmps20
      go_wp2_with (go_at_call 38; refine HM.out.mono ?_; rintro e w' ⟨rfl, rfl⟩)
      go_region_with (go_at_call 37; (with_reducible refine (HTK.out _ HK.out.drew).mono ?_); rintro e w2 ⟨rfl, hk2, ht2⟩; have HK2 := Lib.hid hk2; have HT2 := Lib.hid ht2; have g1 := hk2.xa hq4; have g2 := hk2.xe hq4; have g3 := hk2.xh hq4; have g4 := hk2.xt hq4; have g5 := hk2.xx hq4; have f1 := hk2.free (84 + q * 5); have f2 := hk2.free (84 + q * 5 + 1); have f3 := hk2.free (84 + q * 5 + 2); have f4 := hk2.free (84 + q * 5 + 3); have f5 := hk2.free (84 + q * 5 + 4); clear hk2 ht2)
      all_goals
        have H3 := Lib.hid (show Lk _ g n (kclr v2 q 1 v.ct) from (HK2.out.setHand hq4 1 v.ct))
        go_wp2
        go_ret
        exact ⟨rfl, H3.out, (((((((Touch.refl (fun k => k = g) w).drew.trans HT2.out fun _ h => Or.inl h).setCell (Or.inl rfl) _).setCell (Or.inl rfl) _).setCell (Or.inl rfl) _).setCell (Or.inl rfl) _).setCell (Or.inl rfl) _)⟩
  · have he := beg_may (x := x) hm
    have hs : begS n v p x = v := by unfold begS; rw [he, if_neg hm]
    rw [he, hs]
    rcases may_cases n v p with h | h | h
    · exact absurd h hm
    all_goals
      rw [h] at HM ⊢
      have HK := Lib.hid hk
      clear hm he hs h hk hx
      first | rw [show errV 55 1 = .iface 55 (.int .i64 1) from rfl] at HM ⊢ | rw [show errV 55 7 = .iface 55 (.int .i64 7) from rfl] at HM ⊢
      go_enter Try.func20, Try.ntmps20
      go_wp2_with (go_at_call 38; refine HM.out.mono ?_; rintro e w' ⟨rfl, rfl⟩)
      go_ret
      exact ⟨rfl, HK.out, Touch.refl _ _⟩

/-- The cells of a queue without any node; a new one has one. -/
def qz : QF := ⟨fun _ => 0, fun _ => 0, fun _ => 0, fun _ => 0, fun _ => 0, fun _ => 0, fun _ => 0, 0, 0, 0⟩
def qnew : QF := ktake qz 0
theorem zero_row : (Try.prog.info? 80).map (fun i => (i.zero, i.size)) = some (some (.agg (row (List.replicate 104 0))), 104) := by kernel_rfl
theorem new_cel (n : Nat) : Cel ((row (List.replicate 104 0)).setIfInBounds 0 (.int .i64 n)) n qz := by
  have h : ∀ k, k < 104 → (List.replicate 104 (0 : Int))[k]? = some 0 := by decide
  have hs : (row (List.replicate 104 0)).size = 104 := by rw [row_size]; rfl
  have hz : ∀ k, 1 ≤ k → k < 104 → ((row (List.replicate 104 0)).setIfInBounds 0 (.int .i64 n))[k]? = some (.int .i64 0) := fun k h1 h2 => by
    rw [set_off (by omega)]
    exact row_get (h k h2)
  exact ⟨by simpa using hs, set_at (by omega), hz _ (by omega) (by omega), hz _ (by omega) (by omega), hz _ (by omega) (by omega), fun i hi => hz _ (by omega) (by omega), fun i hi => hz _ (by omega) (by omega), fun i hi => hz _ (by omega) (by omega), fun i hi => hz _ (by omega) (by omega), fun i hi => hz _ (by omega) (by omega), fun i hi => hz _ (by omega) (by omega), fun i hi => hz _ (by omega) (by omega)⟩
set_option maxHeartbeats 4000000 in
theorem new_bad (n : Int) (h : ¬ (1 ≤ n ∧ n ≤ 4)) (w : World) : Calls Try.prog 18 #[.int .i64 n] w fun e w' => e = .returned (.tuple #[.pointer none, errV 55 1]) ∧ Below w.heap.size w w' := by
  by_cases h1 : n < 1
  · go_enter Try.func18, Try.ntmps18
    go_wp2
    go_ret2
    exact ⟨rfl, Below.refl _ _⟩
  · have h2 : 4 < n := by omega
    go_enter Try.func18, Try.ntmps18
    go_wp2
    go_ret2
    exact ⟨rfl, Below.refl _ _⟩
set_option maxHeartbeats 4000000 in
theorem new_any (n : Nat) (h1 : 1 ≤ n) (h4 : n ≤ 4) (w : World) : Calls Try.prog 18 #[.int .i64 n] w fun e w' => e = .returned (.tuple #[.pointer (some ⟨w.heap.size, 0, none⟩), .nilIface]) ∧ Lk w' w.heap.size n qnew ∧ Below w.heap.size w w' := by
  have h1I : ¬ (n : Int) < 1 := by omega
  have h4I : ¬ 4 < (n : Int) := by omega
  obtain ⟨zs, hzs⟩ : ∃ zs, zs = row (List.replicate 104 0) := ⟨_, rfl⟩
  have hz := (zero_of_info zero_row).1
  rw [← hzs] at hz
  have hs : zs.size = 104 := by rw [hzs, row_size]; rfl
  have hne : ¬ zs = #[] := fun e => by rw [e] at hs; cases hs
  have hc := new_cel n
  rw [← hzs] at hc
  obtain ⟨W, hW⟩ : ∃ W, W = w.alloc (.cells (zs.setIfInBounds 0 (.int .i64 n)) 80) := ⟨_, rfl⟩
  have hkW : Lk W w.heap.size n qz := ⟨_, by rw [hW]; exact Block.made w _ _, hc⟩
  have HB := Lib.hid (show Below w.heap.size w W from by rw [hW]; exact (Below.refl w.heap.size w).alloc (Nat.le_refl _) _)
  have HTK := Lib.hid (take_any W hkW (by decide) 0)
  obtain ⟨b, hb⟩ : ∃ b, b = w.heap.size := ⟨_, rfl⟩
  rw [← hb] at HTK ⊢
  have HBB := Lib.hid (show w.heap.size ≤ b from by omega)
  have HBE := Lib.hid hb
  have HW := Lib.hid hW
  clear hc hzs hkW hW hb
  go_enter Try.func18, Try.ntmps18
  go_upto_region 4 with fail
  rw [← HW.out, ← HBE.out]
  go_wp2_with (go_at_call 37; refine HTK.out.mono ?_; rintro e w2 ⟨rfl, hk2, ht2⟩; have HK2 := Lib.hid hk2; have HT2 := Lib.hid ht2; clear hk2 ht2)
  go_ret2
  rw [HBE.out]
  exact ⟨rfl, HBE.out ▸ HK2.out, HB.out.trans (HT2.out.below HB.out.size fun i hi => hi ▸ HBB.out)⟩
end Go.Proofs.Ytimdhnjkjflbdaa.Fif
