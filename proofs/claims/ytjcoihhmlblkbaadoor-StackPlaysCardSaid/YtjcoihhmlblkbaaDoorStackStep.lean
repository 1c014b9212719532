/-
  Package stack: what Push, Pop, Step, At and Top answer.
-/
import Derived.Test.YtjcoihhmlblkbaaDoorStackDo
import Derived.StillTailTactics
namespace Go.Proofs.YtjcoihhmlblkbaaDoor.Stk
open Go.RowKit

/-- What holds of the numbers of a stack, T steps after it was made. -/
structure KLoc (n T : Nat) (v : KS) : Prop where
  tt : 0 ≤ v.tt ∧ v.tt ≤ T
  tn : -1 ≤ v.tn ∧ v.tn < 4
  nx : ∀ i, i < 4 → -1 ≤ v.nx i ∧ v.nx i < 4
  ln : ∀ p, p < n → v.a p ≤ 5
  m : ∀ p, p < n → v.a p = 1 ∨ v.a p = 2 → v.m p < 4
  sn : ∀ p, p < n → v.a p = 4 ∨ v.a p = 5 → 0 ≤ v.sn p ∧ v.sn p < 4
  sx : ∀ p, p < n → v.a p = 5 → -1 ≤ v.sx p ∧ v.sx p < 4
/-- Whether a line is the last one; what it tells; what it makes of the stack. -/
def kfin (v : KS) (p : Nat) : Bool := if v.a p = 2 ∨ v.a p = 5 then kseen v p else if v.a p = 3 then decide (v.tn = -1) else false
def ktold (v : KS) (p : Nat) : Int := if kfin v p = true then (if v.a p = 5 then v.x (v.sn p).toNat else -1) else 0
def kdo (tg : Bool) (v : KS) (p : Nat) : KS :=
  if v.a p = 1 then kdo1 v p
  else if v.a p = 2 then (if kseen v p = true then kchg tg v (v.m p) else kclr v p 1 (v.m p))
  else if v.a p = 3 then (if v.tn = -1 then ksee v p else kat (ksee v p) p 4)
  else if v.a p = 4 then kdo4 v p
  else (if kseen v p = true then { kchg tg v (v.sx p) with u := rput v.u (v.sn p).toNat false } else kclr v p 3 0)
def kstep (tg : Bool) (v : KS) (p : Nat) : KS := if kfin v p = true then kclr (kdo tg v p) p 0 0 else kdo tg v p
section
variable {g n T : Nat} {tg : Bool} {v : KS}
theorem do_any (w : World) (hk : Lk w g n tg v) (hl : KLoc n T v) (hT : T ≤ 1000) {p : Nat} (hpn : p < n) (hp : p < 4) (ha : v.a p ≠ 0) :
    Calls Tryd.prog 42 #[.pointer (some ⟨g, 0, none⟩), .pointer (some ⟨g, 16 + p * 5, none⟩)] w fun e w' => e = .returned (.tuple #[.bool (kfin v p), .int .i64 (ktold v p)]) ∧ Lk w' g n tg (kdo tg v p) ∧ Touch (fun k => k = g) w w' := by
  have h5 := hl.ln p hpn
  have ht : 0 ≤ v.tt ∧ v.tt ≤ 1000 := ⟨hl.tt.1, by have := hl.tt.2; omega⟩
  have hc : v.a p = 1 ∨ v.a p = 2 ∨ v.a p = 3 ∨ v.a p = 4 ∨ v.a p = 5 := by omega
  rcases hc with h | h | h | h | h
  · have e1 : kfin v p = false := by unfold kfin; rw [if_neg (by omega), if_neg (by omega)]
    have e2 : ktold v p = 0 := by unfold ktold; rw [e1]; rfl
    have e3 : kdo tg v p = kdo1 v p := by unfold kdo; rw [if_pos h]
    rw [e1, e2, e3]
    exact do1_any w hk hp h (hl.m p hpn (Or.inl h))
  · have e1 : kfin v p = kseen v p := by unfold kfin; rw [if_pos (by omega)]
    cases hs : kseen v p with
    | true =>
      rw [hs] at e1
      have e2 : ktold v p = -1 := by unfold ktold; rw [e1, if_pos rfl, if_neg (by omega)]
      have e3 : kdo tg v p = kchg tg v (v.m p) := by unfold kdo; rw [if_neg (by omega), if_pos h, if_pos hs]
      rw [e1, e2, e3]
      exact do2y_any w hk hp h ht hs
    | false =>
      rw [hs] at e1
      have e2 : ktold v p = 0 := by unfold ktold; rw [e1]; rfl
      have e3 : kdo tg v p = kclr v p 1 (v.m p) := by unfold kdo; rw [if_neg (by omega), if_pos h, hs]; rfl
      rw [e1, e2, e3]
      exact do2n_any w hk hp h ht hs
  · by_cases hn : v.tn = -1
    · have e1 : kfin v p = true := by unfold kfin; rw [if_neg (by omega), if_pos h]; exact decide_eq_true hn
      have e2 : ktold v p = -1 := by unfold ktold; rw [e1, if_pos rfl, if_neg (by omega)]
      have e3 : kdo tg v p = ksee v p := by unfold kdo; rw [if_neg (by omega), if_neg (by omega), if_pos h, if_pos hn]
      rw [e1, e2, e3]
      exact do3y_any w hk hp h hn
    · have e1 : kfin v p = false := by unfold kfin; rw [if_neg (by omega), if_pos h]; exact decide_eq_false hn
      have e2 : ktold v p = 0 := by unfold ktold; rw [e1]; rfl
      have e3 : kdo tg v p = kat (ksee v p) p 4 := by unfold kdo; rw [if_neg (by omega), if_neg (by omega), if_pos h, if_neg hn]
      rw [e1, e2, e3]
      exact do3n_any w hk hp h hn
  · obtain ⟨s0, s4⟩ := hl.sn p hpn (Or.inl h)
    obtain ⟨k, hk2⟩ := Int.eq_ofNat_of_zero_le s0
    have e1 : kfin v p = false := by unfold kfin; rw [if_neg (by omega), if_neg (by omega)]
    have e2 : ktold v p = 0 := by unfold ktold; rw [e1]; rfl
    have e3 : kdo tg v p = kdo4 v p := by unfold kdo; rw [if_neg (by omega), if_neg (by omega), if_neg (by omega), if_pos h]
    rw [e1, e2, e3]
    exact do4_any w hk hp h hk2 (by omega)
  · obtain ⟨s0, s4⟩ := hl.sn p hpn (Or.inr h)
    obtain ⟨k, hk2⟩ := Int.eq_ofNat_of_zero_le s0
    have e1 : kfin v p = kseen v p := by unfold kfin; rw [if_pos (by omega)]
    have ek : (v.sn p).toNat = k := by omega
    cases hs : kseen v p with
    | true =>
      rw [hs] at e1
      have e2 : ktold v p = v.x k := by unfold ktold; rw [e1, if_pos rfl, if_pos h, ek]
      have e3 : kdo tg v p = { kchg tg v (v.sx p) with u := rput v.u k false } := by unfold kdo; rw [if_neg (by omega), if_neg (by omega), if_neg (by omega), if_neg (by omega), if_pos hs, ek]
      rw [e1, e2, e3]
      exact do5y_any w hk hp h ht hs hk2 (by omega)
    | false =>
      rw [hs] at e1
      have e2 : ktold v p = 0 := by unfold ktold; rw [e1]; rfl
      have e3 : kdo tg v p = kclr v p 3 0 := by unfold kdo; rw [if_neg (by omega), if_neg (by omega), if_neg (by omega), if_neg (by omega), hs]; rfl
      rw [e1, e2, e3]
      exact do5n_any w hk hp h ht hs
end
/-- The error of Step; whether it is done; what it tells; the stack behind it. -/
def stpE (n : Nat) (v : KS) (p : Int) : Int := if ¬ (0 ≤ p ∧ p < n) then 1 else if v.a p.toNat = 0 then 7 else 0
def stpD (n : Nat) (v : KS) (p : Int) : Bool := if stpE n v p = 0 then kfin v p.toNat else false
def stpG (n : Nat) (v : KS) (p : Int) : Int := if stpE n v p = 0 then ktold v p.toNat else 0
def stpS (n : Nat) (tg : Bool) (v : KS) (p : Int) : KS := if stpE n v p = 0 then kstep tg v p.toNat else v
set_option maxHeartbeats 4000000 in
theorem step_any {g n T : Nat} {tg : Bool} {v : KS} (w : World) (hk : Lk w g n tg v) (hn : n ≤ 4) (hl : KLoc n T v) (hT : T ≤ 1000) (p : Int) :
    Calls Tryd.prog 22 #[.pointer (some ⟨g, 0, none⟩), .int .i64 p] w fun e w' =>
      e = .returned (.tuple #[.bool (stpD n v p), .int .i64 (stpG n v p), errV 65 (stpE n v p)]) ∧ Lk w' g n tg (stpS n tg v p) ∧ Touch (fun k => k = g) w w' := by
  have HI := Lib.hid (isHand_any p w hk.xnum)
  by_cases hp : 0 ≤ p ∧ p < n
  · obtain ⟨q, rfl⟩ := Int.eq_ofNat_of_zero_le hp.1
    rw [decide_eq_true hp] at HI
    have hq : q < n := by omega
    have hq4 : q < 4 := by omega
    have hp4 : (q : Int) < 4 := by omega
    have hca := hk.xa hq4
    by_cases ha : v.a q = 0
    · have he : stpE n v q = 7 := by unfold stpE; rw [if_neg (by omega), if_pos (by simpa using ha)]
      have hd : stpD n v q = false := by unfold stpD; rw [he]; rfl
      have hg : stpG n v q = 0 := by unfold stpG; rw [he]; rfl
      have hs : stpS n tg v q = v := by unfold stpS; rw [he]; rfl
      rw [hg, hd, hs, he]
      rw [ha] at hca
      have HK := Lib.hid hk
      clear hp hl ha he hd hg hk hs
      go_enter Tryd.func22, Tryd.ntmps22
      go_wp2_with (go_at_call 41; refine HI.out.mono ?_; rintro e w' ⟨rfl, rfl⟩)
      go_ret3
      exact ⟨rfl, HK.out, Touch.refl _ _⟩
    · have he : stpE n v q = 0 := by unfold stpE; rw [if_neg (by omega), if_neg (show ¬ v.a (q : Int).toNat = 0 by simpa using ha)]
      have hd : stpD n v q = kfin v q := by unfold stpD; rw [he]; rfl
      have hg : stpG n v q = ktold v q := by unfold stpG; rw [he]; rfl
      have hs : stpS n tg v q = kstep tg v q := by unfold stpS; rw [he]; rfl
      rw [hg, hd, hs, he]
      have hI : ((v.a q : Int) == 0) = false := by simp; omega
      have HD := Lib.hid (do_any w hk hl hT hq hq4 ha)
      obtain ⟨Z, hZ⟩ : ∃ Z, Z = ktold v q := ⟨_, rfl⟩
      rw [← hZ] at HD
      rw [← hZ]
      cases hf : kfin v q with
      | false =>
        rw [hf] at HD
        have e3 : kstep tg v q = kdo tg v q := by unfold kstep; rw [hf]; rfl
        rw [e3]
        clear hp hl ha he hd hg hk hs hf e3 hZ
        go_enter Tryd.func22, Tryd.ntmps22
        go_wp2_with (first | (go_at_call 41; refine HI.out.mono ?_; rintro e w' ⟨rfl, rfl⟩) | (go_at_call 42; refine HD.out.mono ?_; rintro e w2 ⟨rfl, hk2, ht2⟩; have HK2 := Lib.hid hk2; have HT2 := Lib.hid ht2; clear hk2 ht2))
        go_ret3
        exact ⟨rfl, HK2.out, HT2.out⟩
      | true =>
        rw [hf] at HD
        have e3 : kstep tg v q = kclr (kdo tg v q) q 0 0 := by unfold kstep; rw [hf]; rfl
        rw [e3]
        clear hp hl ha he hd hg hk hs hf e3 hZ
        go_enter Tryd.func22, Tryd.ntmps22
        go_wp2_with (first | (go_at_call 41; refine HI.out.mono ?_; rintro e w' ⟨rfl, rfl⟩) | (go_at_call 42; refine HD.out.mono ?_; rintro e w2 ⟨rfl, hk2, ht2⟩; have HK2 := Lib.hid hk2; have HT2 := Lib.hid ht2; have g1 := hk2.xa hq4; have g2 := hk2.xm hq4; have g3 := hk2.xsn hq4; have g4 := hk2.xst hq4; have g5 := hk2.xsx hq4; have f1 := hk2.free (16 + q * 5); have f2 := hk2.free (16 + q * 5 + 1); have f3 := hk2.free (16 + q * 5 + 2); have f4 := hk2.free (16 + q * 5 + 3); have f5 := hk2.free (16 + q * 5 + 4); clear hk2 ht2))
        have H3 := Lib.hid (show Lk _ g n tg (kclr (kdo tg v q) q 0 0) from (((((HK2.out.setA hq4 0).setM hq4 0).setSn hq4 0).setSt hq4 0).setSx hq4 0))
        go_ret3
        exact ⟨rfl, H3.out, ((((HT2.out.setCell (Or.inl rfl) _).setCell (Or.inl rfl) _).setCell (Or.inl rfl) _).setCell (Or.inl rfl) _).setCell (Or.inl rfl) _⟩
  · rw [decide_eq_false hp] at HI
    have he : stpE n v p = 1 := by unfold stpE; rw [if_pos hp]
    have hd : stpD n v p = false := by unfold stpD; rw [he]; rfl
    have hg : stpG n v p = 0 := by unfold stpG; rw [he]; rfl
    have hs : stpS n tg v p = v := by unfold stpS; rw [he]; rfl
    rw [hg, hd, hs, he]
    have HK := Lib.hid hk
    clear hp hl he hd hg hk hs
    go_enter Tryd.func22, Tryd.ntmps22
    go_wp2_with (go_at_call 41; refine HI.out.mono ?_; rintro e w' ⟨rfl, rfl⟩)
    go_ret3
    exact ⟨rfl, HK.out, Touch.refl _ _⟩

/-- At which line a hand is; 0, if it is none. -/
def lkAt (n : Nat) (v : KS) (p : Int) : Nat := if 0 ≤ p ∧ p < n then v.a p.toNat else 0
theorem lkAt_in {n : Nat} {v : KS} {p : Nat} (h : p < n) : lkAt n v p = v.a p := by
  rw [lkAt, if_pos (by omega)]; rfl
set_option maxHeartbeats 4000000 in
theorem at_any {g n : Nat} {tg : Bool} {v : KS} (w : World) (hk : Lk w g n tg v) (hn : n ≤ 4) (p : Int) :
    Calls Tryd.prog 24 #[.pointer (some ⟨g, 0, none⟩), .int .i64 p] w fun e w' => e = .returned (.int .i64 (lkAt n v p)) ∧ w = w' := by
  have HI := Lib.hid (isHand_any p w hk.xnum)
  by_cases hp : 0 ≤ p ∧ p < n
  · obtain ⟨q, rfl⟩ := Int.eq_ofNat_of_zero_le hp.1
    have hq : q < n := by omega
    have hp4 : (q : Int) < 4 := by omega
    rw [decide_eq_true hp] at HI
    have hca := hk.xa (show q < 4 by omega)
    rw [lkAt_in hq]
    clear hk hp
    go_enter Tryd.func24, Tryd.ntmps24
    go_wp2_with (go_at_call 41; refine HI.out.mono ?_; rintro e w' ⟨rfl, rfl⟩)
    go_ret
    exact ⟨rfl, rfl⟩
  · rw [decide_eq_false hp] at HI
    rw [lkAt, if_neg hp]
    clear hk hp
    go_enter Tryd.func24, Tryd.ntmps24
    go_wp2_with (go_at_call 41; refine HI.out.mono ?_; rintro e w' ⟨rfl, rfl⟩)
    go_ret
    exact ⟨rfl, rfl⟩
set_option maxHeartbeats 4000000 in
theorem top_any {g n : Nat} {tg : Bool} {v : KS} (w : World) (hk : Lk w g n tg v) :
    Calls Tryd.prog 23 #[.pointer (some ⟨g, 0, none⟩)] w fun e w' => e = .returned (.tuple #[.int .i64 v.tn, .int .i64 v.tt]) ∧ ∃ i, w' = w.drewN i := by
  have h1 := hk.xtn
  have h2 := hk.xtt
  clear hk
  go_enter Tryd.func23, Tryd.ntmps23
  go_wp2_with fail
  go_quiet (fail)
  go_wp2
  go_ret2
  exact ⟨rfl, _, rfl⟩
end Go.Proofs.YtjcoihhmlblkbaaDoor.Stk
