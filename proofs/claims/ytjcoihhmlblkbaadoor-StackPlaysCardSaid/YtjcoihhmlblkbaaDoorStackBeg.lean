/-
  Package stack: what New, Push and Pop answer.
-/
import Derived.Test.YtjcoihhmlblkbaaDoorStackStep
import Derived.Deep.WholeRow
namespace Go.Proofs.YtjcoihhmlblkbaaDoor.Stk
open Go.RowKit

/-- Hand p begins to push value x, in node k. -/
def kpush (v : KS) (p : Nat) (x : Int) (k : Nat) : KS := { kclr v p 1 k with u := rput v.u k true, x := rput v.x k x }
/-- The error of a push (of x from 0 on) or a pop (x below 0); the stack behind it. -/
def begE (n : Nat) (v : KS) (p x : Int) : Int := if ¬ (0 ≤ p ∧ p < n) then 1 else if v.a p.toNat ≠ 0 then 7 else if x < 0 then 0 else if kfree v.u = 4 then 4 else 0
def begS (n : Nat) (v : KS) (p x : Int) : KS := if begE n v p x = 0 then (if x < 0 then kclr v p.toNat 3 0 else kpush v p.toNat x (kfree v.u)) else v
theorem may_cases (n : Nat) (v : KS) (p : Int) : mayE n v p = 0 ∨ mayE n v p = 1 ∨ mayE n v p = 7 := by
  unfold mayE; split
  · omega
  · split <;> omega
theorem beg_may {n : Nat} {v : KS} {p x : Int} (h : mayE n v p ≠ 0) : begE n v p x = mayE n v p := by
  unfold mayE begE at *
  split
  · rfl
  · rename_i h1
    rw [if_neg h1] at h
    split
    · rfl
    · rename_i h2; rw [if_neg h2] at h; exact absurd rfl h
theorem may_zero {n : Nat} {v : KS} {p : Int} (h : mayE n v p = 0) : ∃ q : Nat, p = q ∧ q < n ∧ v.a q = 0 := by
  unfold mayE at h
  split at h
  · omega
  · rename_i h1
    split at h
    · omega
    · rename_i h2
      exact ⟨p.toNat, by omega, by omega, by omega⟩
theorem beg_zero {n : Nat} {v : KS} {q : Nat} (hq : q < n) (ha : v.a q = 0) (x : Int) : begE n v q x = if x < 0 then 0 else if kfree v.u = 4 then 4 else 0 := by
  unfold begE; rw [if_neg (by omega), if_neg (by simpa using ha)]
set_option maxHeartbeats 4000000 in
theorem pop_any {g n : Nat} {tg : Bool} {v : KS} (w : World) (hk : Lk w g n tg v) (hn : n ≤ 4) (p x : Int) (hx : x < 0) :
    Calls Tryd.prog 20 #[.pointer (some ⟨g, 0, none⟩), .int .i64 p] w fun e w' =>
      e = .returned (errV 65 (begE n v p x)) ∧ Lk w' g n tg (begS n v p x) ∧ Touch (fun k => k = g) w w' := by
  have HM := Lib.hid (may_any w hk hn p)
  by_cases hm : mayE n v p = 0
  · obtain ⟨q, rfl, hq, ha⟩ := may_zero hm
    rw [hm] at HM
    have hq4 : q < 4 := by omega
    have hp4 : (q : Int) < 4 := by omega
    have he : begE n v q x = 0 := by rw [beg_zero hq ha, if_pos hx]
    have hs : begS n v q x = kclr v q 3 0 := by unfold begS; rw [if_pos he, if_pos hx]; rfl
    rw [he, hs]
    have g1 := hk.xa hq4
    have g2 := hk.xm hq4
    have g3 := hk.xsn hq4
    have g4 := hk.xst hq4
    have g5 := hk.xsx hq4
    have f1 := hk.free (16 + q * 5)
    have f2 := hk.free (16 + q * 5 + 1)
    have f3 := hk.free (16 + q * 5 + 2)
    have f4 := hk.free (16 + q * 5 + 3)
    have f5 := hk.free (16 + q * 5 + 4)
    have H3 := Lib.hid (show Lk _ g n tg (kclr v q 3 0) from (((((hk.setA hq4 3).setM hq4 0).setSn hq4 0).setSt hq4 0).setSx hq4 0))
    rw [show errV 65 0 = .nilIface from rfl] at HM
    clear hm ha he hs hk hx
    go_enter Tryd.func20, Tryd.ntmps20
    go_wp2_with (go_at_call 37; refine HM.out.mono ?_; rintro e w' ⟨rfl, rfl⟩)
    go_ret
    exact ⟨rfl, H3.out, (((((Touch.refl (fun k => k = g) w).setCell (Or.inl rfl) _).setCell (Or.inl rfl) _).setCell (Or.inl rfl) _).setCell (Or.inl rfl) _).setCell (Or.inl rfl) _⟩
  · have he := beg_may (x := x) hm
    have hs : begS n v p x = v := by unfold begS; rw [he, if_neg hm]
    rw [he, hs]
    rcases may_cases n v p with h | h | h
    · exact absurd h hm
    all_goals
      rw [h] at HM ⊢
      have HK := Lib.hid hk
      clear hm he hs h hk hx
      first | rw [show errV 65 1 = .iface 65 (.int .i64 1) from rfl] at HM ⊢ | rw [show errV 65 7 = .iface 65 (.int .i64 7) from rfl] at HM ⊢
      go_enter Tryd.func20, Tryd.ntmps20
      go_wp2_with (go_at_call 37; refine HM.out.mono ?_; rintro e w' ⟨rfl, rfl⟩)
      go_ret
      exact ⟨rfl, HK.out, Touch.refl _ _⟩
set_option maxHeartbeats 4000000 in
/-- A value that is too great. -/
theorem push_far {g n : Nat} {tg : Bool} {v : KS} (w : World) (hk : Lk w g n tg v) (p x : Int) (hx : 1000 < x) :
    Calls Tryd.prog 18 #[.pointer (some ⟨g, 0, none⟩), .int .i64 p, .int .i64 x] w fun e w' =>
      e = .returned (errV 65 1) ∧ Lk w' g n tg v ∧ Touch (fun k => k = g) w w' := by
  have hx0 : ¬ x < 0 := by omega
  have HK := Lib.hid (hk.alloc (.cells #[.pointer (some ⟨g, 0, none⟩)] 50))
  clear hk
  go_enter Tryd.func18, Tryd.ntmps18
  go_wp2
  go_ret
  exact ⟨rfl, HK.out, (Touch.refl _ w).alloc _⟩
set_option maxHeartbeats 4000000 in
theorem push_any {g n : Nat} {tg : Bool} {v : KS} (w : World) (hk : Lk w g n tg v) (hn : n ≤ 4) (p x : Int) (hx : 0 ≤ x) (hx2 : x ≤ 1000) :
    Calls Tryd.prog 18 #[.pointer (some ⟨g, 0, none⟩), .int .i64 p, .int .i64 x] w fun e w' =>
      e = .returned (errV 65 (begE n v p x)) ∧ Lk w' g n tg (begS n v p x) ∧ Touch (fun k => k = g) w w' := by
  have hmf : ∀ (fn : Fn) (first cap : Array Value) (w : World), (Instr.makeFunc fn first cap).run Tryd.prog w = .ok (.func fn first cap) w := fun _ _ _ _ => rfl
  have hx0 : ¬ x < 0 := by omega
  have hx1 : ¬ 1000 < x := by omega
  obtain ⟨W, hW⟩ : ∃ W, W = w.alloc (.cells #[.pointer (some ⟨g, 0, none⟩)] 50) := ⟨_, rfl⟩
  have hbx : Block W w.heap.size 50 #[.pointer (some ⟨g, 0, none⟩)] := by rw [hW]; exact Block.made _ _ _
  have hkW : Lk W g n tg v := by rw [hW]; exact hk.alloc _
  have HT := Lib.hid (show Touch (fun k => k = g) w W from by rw [hW]; exact (Touch.refl _ w).alloc _)
  have q0 := hbx.cell 0
  simp at q0
  have HM := Lib.hid (may_any W hkW hn p)
  have HL := Lib.hid (least_any W hkW q0)
  have hgb : w.heap.size ≠ g := by have := hk.lt; omega
  obtain ⟨b, hb⟩ : ∃ b, b = w.heap.size := ⟨_, rfl⟩
  rw [← hb] at q0 HL hgb
  by_cases hm : mayE n v p = 0
  · obtain ⟨q, rfl, hq, ha⟩ := may_zero hm
    rw [hm] at HM
    rw [show errV 65 0 = .nilIface from rfl] at HM
    by_cases hf : kfree v.u = 4
    · have he : begE n v q x = 4 := by rw [beg_zero hq ha, if_neg hx0, if_pos hf]
      have hs : begS n v q x = v := by unfold begS; rw [he, if_neg (by omega)]
      rw [he, hs]
      have e1 : kleast v.u = -1 := by unfold kleast; rw [if_pos hf]
      rw [e1] at HL
      have HK := Lib.hid hkW
      clear hm ha he hs hk hkW hx hf e1 hbx
      go_enter Tryd.func18, Tryd.ntmps18
      go_upto_region 1 with fail
      rw [← hW, ← hb]
      clear hW hb
      go_wp2_with (first | (go_at_call 37; refine HM.out.mono ?_; rintro e w' ⟨rfl, rfl⟩) | (go_at_call 38; refine HL.out.mono ?_; rintro e w' ⟨rfl, rfl⟩))
      go_ret
      exact ⟨rfl, HK.out, HT.out⟩
    · have hf4 : kfree v.u < 4 := by have := kfree_le v.u; omega
      have he : begE n v q x = 0 := by rw [beg_zero hq ha, if_neg hx0, if_neg hf]
      have hs : begS n v q x = kpush v q x (kfree v.u) := by unfold begS; rw [if_pos he, if_neg hx0]; rfl
      rw [he, hs]
      have e1 : kleast v.u = (kfree v.u : Int) := by unfold kleast; rw [if_neg hf]
      rw [e1] at HL
      obtain ⟨k, hk4⟩ : ∃ k, k = kfree v.u := ⟨_, rfl⟩
      rw [← hk4] at HL hf4 ⊢
      have hkI : (k : Int) < 4 := by omega
      have hkm : ((k : Int) == -1) = false := by simp
      have hq4 : q < 4 := by omega
      have hp4 : (q : Int) < 4 := by omega
      have g1 := hkW.xa hq4
      have g2 := hkW.xm hq4
      have g3 := hkW.xsn hq4
      have g4 := hkW.xst hq4
      have g5 := hkW.xsx hq4
      have g6 := hkW.xu hf4
      have g7 := hkW.xx hf4
      have f1 := hkW.free (16 + q * 5)
      have f2 := hkW.free (16 + q * 5 + 1)
      have f3 := hkW.free (16 + q * 5 + 2)
      have f4 := hkW.free (16 + q * 5 + 3)
      have f5 := hkW.free (16 + q * 5 + 4)
      have f6 := hkW.free (2 + k * 3)
      have f7 := hkW.free (2 + k * 3 + 1)
      have H3 := Lib.hid (show Lk _ g n tg (kpush v q x k) from (((((((hkW.setU hf4 true).setX hf4 x).setA hq4 1).setM hq4 k).setSn hq4 0).setSt hq4 0).setSx hq4 0))
      clear hm ha he hs hk hkW hx hf e1 hbx hk4
      go_enter Tryd.func18, Tryd.ntmps18
      go_upto_region 1 with fail
      rw [← hW, ← hb]
      clear hW hb
      go_wp2_with (first | (go_at_call 37; refine HM.out.mono ?_; rintro e w' ⟨rfl, rfl⟩) | (go_at_call 38; refine HL.out.mono ?_; rintro e w' ⟨rfl, rfl⟩))
      go_ret
      exact ⟨rfl, H3.out, ((((((HT.out.setCell (Or.inl rfl) _).setCell (Or.inl rfl) _).setCell (Or.inl rfl) _).setCell (Or.inl rfl) _).setCell (Or.inl rfl) _).setCell (Or.inl rfl) _).setCell (Or.inl rfl) _⟩
  · have he := beg_may (x := x) hm
    have hs : begS n v p x = v := by unfold begS; rw [he, if_neg hm]
    rw [he, hs]
    rcases may_cases n v p with h | h | h
    · exact absurd h hm
    all_goals
      rw [h] at HM ⊢
      have HK := Lib.hid hkW
      clear hm he hs h hk hkW hx hbx
      first | rw [show errV 65 1 = .iface 65 (.int .i64 1) from rfl] at HM ⊢ | rw [show errV 65 7 = .iface 65 (.int .i64 7) from rfl] at HM ⊢
      go_enter Tryd.func18, Tryd.ntmps18
      go_upto_region 1 with fail
      rw [← hW, ← hb]
      clear hW hb
      go_wp2_with (go_at_call 37; refine HM.out.mono ?_; rintro e w' ⟨rfl, rfl⟩)
      go_ret
      exact ⟨rfl, HK.out, HT.out⟩

def knew : KS := ⟨fun _ => 0, fun _ => 0, fun _ => 0, fun _ => 0, fun _ => 0, fun _ => false, fun _ => 0, fun _ => 0, -1, 0⟩
theorem knew_ok (n : Nat) : KLoc n 0 knew := by
  refine ⟨⟨Int.le_refl _, Int.le_refl _⟩, ?_, fun _ _ => ?_, fun _ _ => Nat.zero_le _, fun _ _ h => ?_, fun _ _ h => ?_, fun _ _ h => ?_⟩
  · exact ⟨Int.le_refl _, by decide⟩
  · show (-1 : Int) ≤ 0 ∧ (0 : Int) < 4; omega
  · rcases h with h | h <;> cases h
  · rcases h with h | h <;> cases h
  · cases h
/-- The cells of a new stack. -/
def ncell (n : Nat) (tg : Bool) : Array Value := #[.int .i64 n, .bool tg, .bool false, .int .i64 0, .int .i64 0, .bool false, .int .i64 0, .int .i64 0, .bool false, .int .i64 0, .int .i64 0, .bool false, .int .i64 0, .int .i64 0, .int .i64 (-1), .int .i64 0, .int .i64 0, .int .i64 0, .int .i64 0, .int .i64 0, .int .i64 0, .int .i64 0, .int .i64 0, .int .i64 0, .int .i64 0, .int .i64 0, .int .i64 0, .int .i64 0, .int .i64 0, .int .i64 0, .int .i64 0, .int .i64 0, .int .i64 0, .int .i64 0, .int .i64 0, .int .i64 0]
theorem new_cel (n : Nat) (tg : Bool) : Cel (ncell n tg) n tg knew := by
  have h4 : ∀ {Q : Nat → Prop}, Q 0 → Q 1 → Q 2 → Q 3 → ∀ i, i < 4 → Q i := fun a b c d i hi => by
    match i, hi with
    | 0, _ => exact a
    | 1, _ => exact b
    | 2, _ => exact c
    | 3, _ => exact d
  exact ⟨rfl, rfl, rfl, rfl, rfl, h4 rfl rfl rfl rfl, h4 rfl rfl rfl rfl, h4 rfl rfl rfl rfl, h4 rfl rfl rfl rfl, h4 rfl rfl rfl rfl, h4 rfl rfl rfl rfl, h4 rfl rfl rfl rfl, h4 rfl rfl rfl rfl⟩
set_option maxHeartbeats 4000000 in
theorem new_bad (n : Int) (tg : Bool) (h : ¬ (1 ≤ n ∧ n ≤ 4)) (w : World) : Calls Tryd.prog 16 #[.int .i64 n, .bool tg] w fun e w' => e = .returned (.tuple #[.pointer none, errV 65 1]) ∧ Below w.heap.size w w' := by
  by_cases h1 : n < 1
  · go_enter Tryd.func16, Tryd.ntmps16
    go_wp2
    go_ret2
    exact ⟨rfl, Below.refl _ _⟩
  · have h2 : 4 < n := by omega
    go_enter Tryd.func16, Tryd.ntmps16
    go_wp2
    go_ret2
    exact ⟨rfl, Below.refl _ _⟩
set_option maxHeartbeats 4000000 in
theorem new_any (n : Nat) (tg : Bool) (h1 : 1 ≤ n) (h4 : n ≤ 4) (w : World) : Calls Tryd.prog 16 #[.int .i64 n, .bool tg] w fun e w' => e = .returned (.tuple #[.pointer (some ⟨w.heap.size, 0, none⟩), .nilIface]) ∧ Lk w' w.heap.size n tg knew ∧ Below w.heap.size w w' := by
  have h1I : ¬ (n : Int) < 1 := by omega
  have h4I : ¬ 4 < (n : Int) := by omega
  have HK := Lib.hid (Block.made w 101 (ncell n tg))
  have HB := Lib.hid ((Below.refl w.heap.size w).alloc (Nat.le_refl _) (.cells (ncell n tg) 101))
  go_enter Tryd.func16, Tryd.ntmps16
  go_wp2
  go_ret2
  exact ⟨rfl, ⟨_, HK.out, new_cel n tg⟩, HB.out⟩
end Go.Proofs.YtjcoihhmlblkbaaDoor.Stk
