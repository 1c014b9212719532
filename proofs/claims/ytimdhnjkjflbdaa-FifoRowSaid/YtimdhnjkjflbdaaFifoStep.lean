/-
  Package fifo: what Step, At and Ends answer.
-/
import Derived.Test.YtimdhnjkjflbdaaFifoDo
import Derived.StillTailTactics
namespace Go.Proofs.Ytimdhnjkjflbdaa.Fif
open Go.RowKit

/-- What holds of the numbers of a queue. -/
structure QLoc (n : Nat) (v : QF) : Prop where
  ln : ∀ p, p < n → v.a p ≤ 10
  t : ∀ p, p < n → v.a p = 2 ∨ v.a p = 3 → v.t p < 40
  h : ∀ p, p < n → v.a p = 8 → v.h p < 40
  x : ∀ p, p < n → v.a p = 4 ∨ v.a p = 9 ∨ v.a p = 10 → 0 ≤ v.x p ∧ v.x p < 40
/-- Whether a line is the last one; what it tells; what it makes of the queue. -/
def kfin (v : QF) (p : Nat) : Bool := if v.a p = 5 then true else if v.a p = 8 then decide (v.h p = v.t p ∧ v.nx (v.h p) = -1) else if v.a p = 10 then decide (v.hd = v.h p) else false
def ktold (v : QF) (p : Nat) : Int := if kfin v p = true then (if v.a p = 10 then v.vl (v.x p).toNat else -1) else 0
def kdo (v : QF) (p : Nat) : QF :=
  if v.a p = 1 then kat { v with t := rput v.t p v.tl } p 2
  else if v.a p = 2 then kat { v with x := rput v.x p (v.nx (v.t p)) } p (if v.nx (v.t p) = -1 then 3 else 4)
  else if v.a p = 3 then (if v.nx (v.t p) = -1 then kat { v with nx := rput v.nx (v.t p) (v.e p) } p 5 else kclr v p 1 (v.e p))
  else if v.a p = 4 then kclr (kchT v (v.t p) (v.x p).toNat) p 1 (v.e p)
  else if v.a p = 5 then kchT v (v.t p) (v.e p)
  else if v.a p = 6 then kat { v with h := rput v.h p v.hd } p 7
  else if v.a p = 7 then kat { v with t := rput v.t p v.tl } p 8
  else if v.a p = 8 then (if v.h p ≠ v.t p then kat { v with x := rput v.x p (v.nx (v.h p)) } p 10 else if v.nx (v.h p) = -1 then { v with x := rput v.x p (v.nx (v.h p)) } else kat { v with x := rput v.x p (v.nx (v.h p)) } p 9)
  else if v.a p = 9 then kclr (kchT v (v.t p) (v.x p).toNat) p 6 0
  else (if v.hd = v.h p then { v with hd := (v.x p).toNat } else kclr v p 6 0)
def kstep (v : QF) (p : Nat) : QF := if kfin v p = true then kclr (kdo v p) p 0 0 else kdo v p
section
variable {g n : Nat} {v : QF}
set_option maxHeartbeats 4000000 in
theorem do_put {v' : QF} {D : Bool} (w : World) (hk : Lk w g n v) {p : Nat} (hp : p < 4) (ha : v.a p ≤ 5)
    (HP : Calls Try.prog 50 #[.pointer (some ⟨g, 0, none⟩), .pointer (some ⟨g, 84 + p * 5, none⟩)] w fun e w' => e = .returned (.bool D) ∧ Lk w' g n v' ∧ Touch (fun k => k = g) w w') :
    Calls Try.prog 40 #[.pointer (some ⟨g, 0, none⟩), .pointer (some ⟨g, 84 + p * 5, none⟩)] w fun e w' => e = .returned (.tuple #[.bool D, .int .i64 (if D = true then -1 else 0)]) ∧ Lk w' g n v' ∧ Touch (fun k => k = g) w w' := by
  have g1 := hk.xa hp
  have h6 : ¬ (6 : Int) ≤ (v.a p : Int) := by omega
  have HPH := Lib.hid HP
  clear hk HP ha
  cases D
  · rw [if_neg (by decide)]
    go_enter Try.func40, Try.ntmps40
    go_wp2_with (go_at_call 50; refine HPH.out.mono ?_; rintro e w2 ⟨rfl, hk2, ht2⟩; have HK2 := Lib.hid hk2; have HT2 := Lib.hid ht2; clear hk2 ht2)
    go_ret2
    exact ⟨rfl, HK2.out, HT2.out⟩
  · rw [if_pos rfl]
    go_enter Try.func40, Try.ntmps40
    go_wp2_with (go_at_call 50; refine HPH.out.mono ?_; rintro e w2 ⟨rfl, hk2, ht2⟩; have HK2 := Lib.hid hk2; have HT2 := Lib.hid ht2; clear hk2 ht2)
    go_ret2
    exact ⟨rfl, HK2.out, HT2.out⟩
set_option maxHeartbeats 4000000 in
theorem do_get {v' : QF} {D : Bool} {G : Int} (w : World) (hk : Lk w g n v) {p : Nat} (hp : p < 4) (ha : 6 ≤ v.a p)
    (HP : Calls Try.prog 49 #[.pointer (some ⟨g, 0, none⟩), .pointer (some ⟨g, 84 + p * 5, none⟩)] w fun e w' => e = .returned (.tuple #[.bool D, .int .i64 G]) ∧ Lk w' g n v' ∧ Touch (fun k => k = g) w w') :
    Calls Try.prog 40 #[.pointer (some ⟨g, 0, none⟩), .pointer (some ⟨g, 84 + p * 5, none⟩)] w fun e w' => e = .returned (.tuple #[.bool D, .int .i64 G]) ∧ Lk w' g n v' ∧ Touch (fun k => k = g) w w' := by
  have g1 := hk.xa hp
  have h6 : (6 : Int) ≤ (v.a p : Int) := by omega
  have HPH := Lib.hid HP
  clear hk HP ha
  go_enter Try.func40, Try.ntmps40
  go_wp2_with (go_at_call 49; refine HPH.out.mono ?_; rintro e w2 ⟨rfl, hk2, ht2⟩; have HK2 := Lib.hid hk2; have HT2 := Lib.hid ht2; clear hk2 ht2)
  go_ret2
  exact ⟨rfl, HK2.out, HT2.out⟩
theorem do_any (w : World) (hk : Lk w g n v) (hl : QLoc n v) {p : Nat} (hpn : p < n) (hp : p < 4) (ha : v.a p ≠ 0) :
    Calls Try.prog 40 #[.pointer (some ⟨g, 0, none⟩), .pointer (some ⟨g, 84 + p * 5, none⟩)] w fun e w' => e = .returned (.tuple #[.bool (kfin v p), .int .i64 (ktold v p)]) ∧ Lk w' g n (kdo v p) ∧ Touch (fun k => k = g) w w' := by
  have hln := hl.ln p hpn
  have hc : v.a p = 1 ∨ v.a p = 2 ∨ v.a p = 3 ∨ v.a p = 4 ∨ v.a p = 5 ∨ v.a p = 6 ∨ v.a p = 7 ∨ v.a p = 8 ∨ v.a p = 9 ∨ v.a p = 10 := by omega
  have nf : ∀ {a : Nat}, v.a p = a → a ≠ 5 → a ≠ 8 → a ≠ 10 → kfin v p = false ∧ ktold v p = 0 := fun {a} h h5 h8 h10 => by
    have e : kfin v p = false := by unfold kfin; rw [if_neg (by omega), if_neg (by omega), if_neg (by omega)]
    exact ⟨e, by unfold ktold; rw [e]; rfl⟩
  rcases hc with h | h | h | h | h | h | h | h | h | h
  · obtain ⟨e1, e2⟩ := nf h (by decide) (by decide) (by decide)
    have e3 : kdo v p = kat { v with t := rput v.t p v.tl } p 2 := by unfold kdo; rw [if_pos h]
    rw [e1, e2, e3]
    exact do_put w hk hp (by omega) (put1_any w hk hp h)
  · obtain ⟨e1, e2⟩ := nf h (by decide) (by decide) (by decide)
    have hk4 := hl.t p hpn (by omega)
    rw [e1, e2]
    by_cases hx : v.nx (v.t p) = -1
    · have e3 : kdo v p = kat { v with x := rput v.x p (v.nx (v.t p)) } p 3 := by unfold kdo; rw [if_neg (by omega), if_pos h, if_pos hx]
      rw [e3]
      exact do_put w hk hp (by omega) (put2y_any w hk hp h rfl hk4 hx)
    · have e3 : kdo v p = kat { v with x := rput v.x p (v.nx (v.t p)) } p 4 := by unfold kdo; rw [if_neg (by omega), if_pos h, if_neg hx]
      rw [e3]
      exact do_put w hk hp (by omega) (put2n_any w hk hp h rfl hk4 hx)
  · obtain ⟨e1, e2⟩ := nf h (by decide) (by decide) (by decide)
    have hk4 := hl.t p hpn (by omega)
    rw [e1, e2]
    by_cases hx : v.nx (v.t p) = -1
    · have e3 : kdo v p = kat { v with nx := rput v.nx (v.t p) (v.e p) } p 5 := by unfold kdo; rw [if_neg (by omega), if_neg (by omega), if_pos h, if_pos hx]
      rw [e3]
      exact do_put w hk hp (by omega) (put3y_any w hk hp h rfl hk4 hx)
    · have e3 : kdo v p = kclr v p 1 (v.e p) := by unfold kdo; rw [if_neg (by omega), if_neg (by omega), if_pos h, if_neg hx]
      rw [e3]
      exact do_put w hk hp (by omega) (put3n_any w hk hp h rfl hk4 hx)
  · obtain ⟨e1, e2⟩ := nf h (by decide) (by decide) (by decide)
    have e3 : kdo v p = kclr (kchT v (v.t p) (v.x p).toNat) p 1 (v.e p) := by unfold kdo; rw [if_neg (by omega), if_neg (by omega), if_neg (by omega), if_pos h]
    rw [e1, e2, e3]
    exact do_put w hk hp (by omega) (put4_any w hk hp h (by have := hl.x p hpn (by omega); omega))
  · have e1 : kfin v p = true := by unfold kfin; rw [if_pos h]
    have e2 : ktold v p = -1 := by unfold ktold; rw [e1, if_pos rfl, if_neg (by omega)]
    have e3 : kdo v p = kchT v (v.t p) (v.e p) := by unfold kdo; rw [if_neg (by omega), if_neg (by omega), if_neg (by omega), if_neg (by omega), if_pos h]
    rw [e1, e2, e3]
    exact do_put w hk hp (by omega) (put5_any w hk hp h)
  · obtain ⟨e1, e2⟩ := nf h (by decide) (by decide) (by decide)
    have e3 : kdo v p = kat { v with h := rput v.h p v.hd } p 7 := by unfold kdo; rw [if_neg (by omega), if_neg (by omega), if_neg (by omega), if_neg (by omega), if_neg (by omega), if_pos h]
    rw [e1, e2, e3]
    exact do_get w hk hp (by omega) (get6_any w hk hp h)
  · obtain ⟨e1, e2⟩ := nf h (by decide) (by decide) (by decide)
    have e3 : kdo v p = kat { v with t := rput v.t p v.tl } p 8 := by unfold kdo; rw [if_neg (by omega), if_neg (by omega), if_neg (by omega), if_neg (by omega), if_neg (by omega), if_neg (by omega), if_pos h]
    rw [e1, e2, e3]
    exact do_get w hk hp (by omega) (get7_any w hk hp h)
  · have hk4 := hl.h p hpn h
    have e8 : ∀ z, kdo v p = z ↔ (if v.h p ≠ v.t p then kat { v with x := rput v.x p (v.nx (v.h p)) } p 10 else if v.nx (v.h p) = -1 then { v with x := rput v.x p (v.nx (v.h p)) } else kat { v with x := rput v.x p (v.nx (v.h p)) } p 9) = z := fun z => by
      unfold kdo; rw [if_neg (by omega), if_neg (by omega), if_neg (by omega), if_neg (by omega), if_neg (by omega), if_neg (by omega), if_neg (by omega), if_pos h]
    have f8 : kfin v p = decide (v.h p = v.t p ∧ v.nx (v.h p) = -1) := by unfold kfin; rw [if_neg (by omega), if_pos h]
    by_cases hne : v.h p = v.t p
    · by_cases hx : v.nx (v.h p) = -1
      · have e1 : kfin v p = true := by rw [f8]; exact decide_eq_true ⟨hne, hx⟩
        have e2 : ktold v p = -1 := by unfold ktold; rw [e1, if_pos rfl, if_neg (by omega)]
        have e3 := (e8 { v with x := rput v.x p (v.nx (v.h p)) }).2 (by rw [if_neg (fun q => q hne), if_pos hx])
        rw [e1, e2, e3]
        exact do_get w hk hp (by omega) (get8y_any w hk hp h rfl hk4 hne hx)
      · have e1 : kfin v p = false := by rw [f8]; exact decide_eq_false fun q => hx q.2
        have e2 : ktold v p = 0 := by unfold ktold; rw [e1]; rfl
        have e3 := (e8 (kat { v with x := rput v.x p (v.nx (v.h p)) } p 9)).2 (by rw [if_neg (fun q => q hne), if_neg hx])
        rw [e1, e2, e3]
        exact do_get w hk hp (by omega) (get8n_any w hk hp h rfl hk4 hne hx)
    · have e1 : kfin v p = false := by rw [f8]; exact decide_eq_false fun q => hne q.1
      have e2 : ktold v p = 0 := by unfold ktold; rw [e1]; rfl
      have e3 := (e8 (kat { v with x := rput v.x p (v.nx (v.h p)) } p 10)).2 (by rw [if_pos hne])
      rw [e1, e2, e3]
      exact do_get w hk hp (by omega) (get8f_any w hk hp h rfl hk4 hne)
  · obtain ⟨e1, e2⟩ := nf h (by decide) (by decide) (by decide)
    have e3 : kdo v p = kclr (kchT v (v.t p) (v.x p).toNat) p 6 0 := by unfold kdo; rw [if_neg (by omega), if_neg (by omega), if_neg (by omega), if_neg (by omega), if_neg (by omega), if_neg (by omega), if_neg (by omega), if_neg (by omega), if_pos h]
    rw [e1, e2, e3]
    exact do_get w hk hp (by omega) (get9_any w hk hp h (by have := hl.x p hpn (by omega); omega))
  · have hx := hl.x p hpn (by omega)
    have f10 : kfin v p = decide (v.hd = v.h p) := by unfold kfin; rw [if_neg (by omega), if_neg (by omega), if_pos h]
    have e10 : kdo v p = (if v.hd = v.h p then { v with hd := (v.x p).toNat } else kclr v p 6 0) := by unfold kdo; rw [if_neg (by omega), if_neg (by omega), if_neg (by omega), if_neg (by omega), if_neg (by omega), if_neg (by omega), if_neg (by omega), if_neg (by omega), if_neg (by omega)]
    by_cases hh : v.hd = v.h p
    · have e1 : kfin v p = true := by rw [f10]; exact decide_eq_true hh
      have e2 : ktold v p = v.vl (v.x p).toNat := by unfold ktold; rw [e1, if_pos rfl, if_pos h]
      rw [if_pos hh] at e10
      rw [e1, e2, e10]
      exact do_get w hk hp (by omega) (get10y_any w hk hp h (by omega) (by omega) hh)
    · have e1 : kfin v p = false := by rw [f10]; exact decide_eq_false hh
      have e2 : ktold v p = 0 := by unfold ktold; rw [e1]; rfl
      rw [if_neg hh] at e10
      rw [e1, e2, e10]
      exact do_get w hk hp (by omega) (get10n_any w hk hp h (k := (v.x p).toNat) (by omega) (by omega) hh)
end
/-- The error of Step; whether it is done; what it tells; the stack behind it. -/
def stpE (n : Nat) (v : QF) (p : Int) : Int := if ¬ (0 ≤ p ∧ p < n) then 1 else if v.a p.toNat = 0 then 7 else 0
def stpD (n : Nat) (v : QF) (p : Int) : Bool := if stpE n v p = 0 then kfin v p.toNat else false
def stpG (n : Nat) (v : QF) (p : Int) : Int := if stpE n v p = 0 then ktold v p.toNat else 0
def stpS (n : Nat) (v : QF) (p : Int) : QF := if stpE n v p = 0 then kstep v p.toNat else v
set_option maxHeartbeats 4000000 in
theorem step_any {g n : Nat} {v : QF} (w : World) (hk : Lk w g n v) (hn : n ≤ 4) (hl : QLoc n v) (p : Int) :
    Calls Try.prog 21 #[.pointer (some ⟨g, 0, none⟩), .int .i64 p] w fun e w' =>
      e = .returned (.tuple #[.bool (stpD n v p), .int .i64 (stpG n v p), errV 55 (stpE n v p)]) ∧ Lk w' g n (stpS n v p) ∧ Touch (fun k => k = g) w w' := by
  have HI := Lib.hid (isHand_any p w hk.xnum)
  by_cases hp : 0 ≤ p ∧ p < n
  · obtain ⟨q, rfl⟩ := Int.eq_ofNat_of_zero_le hp.1
    rw [decide_eq_true hp] at HI
    have hq : q < n := by omega
    have hq4 : q < 4 := by omega
    have hp4 : (q : Int) < 4 := by omega
    have hca := hk.xa hq4
    by_cases ha : v.a q = 0
    · have he : stpE n v q = 7 := by unfold stpE; rw [if_neg (by omega), if_pos (by simpa using ha)]
      have hd : stpD n v q = false := by unfold stpD; rw [he]; rfl
      have hg : stpG n v q = 0 := by unfold stpG; rw [he]; rfl
      have hs : stpS n v q = v := by unfold stpS; rw [he]; rfl
      rw [hg, hd, hs, he]
      rw [ha] at hca
      have HK := Lib.hid hk
      clear hp hl ha he hd hg hk hs
      go_enter Try.func21, Try.ntmps21
      go_wp2_with (go_at_call 39; refine HI.out.mono ?_; rintro e w' ⟨rfl, rfl⟩)
      go_ret3
      exact ⟨rfl, HK.out, Touch.refl _ _⟩
    · have he : stpE n v q = 0 := by unfold stpE; rw [if_neg (by omega), if_neg (show ¬ v.a (q : Int).toNat = 0 by simpa using ha)]
      have hd : stpD n v q = kfin v q := by unfold stpD; rw [he]; rfl
      have hg : stpG n v q = ktold v q := by unfold stpG; rw [he]; rfl
      have hs : stpS n v q = kstep v q := by unfold stpS; rw [he]; rfl
      rw [hg, hd, hs, he]
      have hI : ((v.a q : Int) == 0) = false := by simp; omega
      have HD := Lib.hid (do_any w hk hl hq hq4 ha)
      obtain ⟨Z, hZ⟩ : ∃ Z, Z = ktold v q := ⟨_, rfl⟩
      rw [← hZ] at HD
      rw [← hZ]
      cases hf : kfin v q with
      | false =>
        rw [hf] at HD
        have e3 : kstep v q = kdo v q := by unfold kstep; rw [hf]; rfl
        rw [e3]
        clear hp hl ha he hd hg hk hs hf e3 hZ
        go_enter Try.func21, Try.ntmps21
        go_wp2_with (first | (go_at_call 39; refine HI.out.mono ?_; rintro e w' ⟨rfl, rfl⟩) | (go_at_call 40; refine HD.out.mono ?_; rintro e w2 ⟨rfl, hk2, ht2⟩; have HK2 := Lib.hid hk2; have HT2 := Lib.hid ht2; clear hk2 ht2))
        go_ret3
        exact ⟨rfl, HK2.out, HT2.out⟩
      | true =>
        rw [hf] at HD
        have e3 : kstep v q = kclr (kdo v q) q 0 0 := by unfold kstep; rw [hf]; rfl
        rw [e3]
        clear hp hl ha he hd hg hk hs hf e3 hZ
        go_enter Try.func21, Try.ntmps21
        go_wp2_with (first | (go_at_call 39; refine HI.out.mono ?_; rintro e w' ⟨rfl, rfl⟩) | (go_at_call 40; refine HD.out.mono ?_; rintro e w2 ⟨rfl, hk2, ht2⟩; have HK2 := Lib.hid hk2; have HT2 := Lib.hid ht2; have g1 := hk2.xa hq4; have g2 := hk2.xe hq4; have g3 := hk2.xh hq4; have g4 := hk2.xt hq4; have g5 := hk2.xx hq4; have f1 := hk2.free (84 + q * 5); have f2 := hk2.free (84 + q * 5 + 1); have f3 := hk2.free (84 + q * 5 + 2); have f4 := hk2.free (84 + q * 5 + 3); have f5 := hk2.free (84 + q * 5 + 4); clear hk2 ht2))
        have H3 := Lib.hid (show Lk _ g n (kclr (kdo v q) q 0 0) from (((((HK2.out.setA hq4 0).setE hq4 0).setH hq4 0).setT hq4 0).setX hq4 0))
        go_ret3
        exact ⟨rfl, H3.out, ((((HT2.out.setCell (Or.inl rfl) _).setCell (Or.inl rfl) _).setCell (Or.inl rfl) _).setCell (Or.inl rfl) _).setCell (Or.inl rfl) _⟩
  · rw [decide_eq_false hp] at HI
    have he : stpE n v p = 1 := by unfold stpE; rw [if_pos hp]
    have hd : stpD n v p = false := by unfold stpD; rw [he]; rfl
    have hg : stpG n v p = 0 := by unfold stpG; rw [he]; rfl
    have hs : stpS n v p = v := by unfold stpS; rw [he]; rfl
    rw [hg, hd, hs, he]
    have HK := Lib.hid hk
    clear hp hl he hd hg hk hs
    go_enter Try.func21, Try.ntmps21
    go_wp2_with (go_at_call 39; refine HI.out.mono ?_; rintro e w' ⟨rfl, rfl⟩)
    go_ret3
    exact ⟨rfl, HK.out, Touch.refl _ _⟩

/-- At which line a hand is; 0, if it is none. -/
def lkAt (n : Nat) (v : QF) (p : Int) : Nat := if 0 ≤ p ∧ p < n then v.a p.toNat else 0
theorem lkAt_in {n : Nat} {v : QF} {p : Nat} (h : p < n) : lkAt n v p = v.a p := by
  rw [lkAt, if_pos (by omega)]; rfl
end Go.Proofs.Ytimdhnjkjflbdaa.Fif
