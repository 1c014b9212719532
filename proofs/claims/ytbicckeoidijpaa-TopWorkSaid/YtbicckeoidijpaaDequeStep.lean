/-
  Package deque: what Step, At and Ends answer.
-/
import Derived.Test.YtbicckeoidijpaaDequeDo
import Derived.Test.YtbicckeoidijpaaDqLine
namespace Go.Proofs.Ytbicckeoidijpaa.Dq
open Go.RowKit

/-- What holds of a hand's numbers. -/
structure QLoc (v : DV) (p : Nat) : Prop where
  T : v.T ≤ 1000000
  B : -1000000 ≤ v.B ∧ v.B ≤ 1001000
  ln : v.a p ≤ 12
  two : v.a p = 2 → 0 ≤ v.B
  five : v.a p = 5 → v.b p ≤ 2000000
  seven : v.a p = 7 → 0 ≤ v.b p ∧ v.b p ≤ 2000000
  t : v.a p = 8 ∨ v.a p = 11 → v.t p ≤ 1000000
theorem dclr_to (v : DV) (p l : Nat) : dclr (dvto v p l) p 0 0 = dclr v p 0 0 := by
  have h : rput (dput v.a p l) p 0 = rput v.a p 0 := rput_twice v.a p l 0
  unfold dclr dvto; dsimp only; rw [h]
/-- What do makes of a deque, as far as it counts: a hand that is done is cleared behind it. -/
def KDo (v : DV) (p : Nat) (v' : DV) : Prop := dclr v' p 0 0 = dclr (dvstp v p) p 0 0 ∧ (dvfin v p = false → v' = dvstp v p)
/-- A step of the program. -/
def pstp (v : DV) (p : Nat) : DV := if dvfin v p = true then dclr (dvstp v p) p 0 0 else dvstp v p
section
variable {g n : Nat} {v : DV}
set_option maxHeartbeats 4000000 in
theorem do_push {v' : DV} {R : Bool} {G : Int} (w : World) (hk : Lk w g n v) {p : Nat} (hp : p < 4) (ha : v.a p < 4)
    (HP : Calls Try.prog 22 #[.pointer (some ⟨g, 0, none⟩), .pointer (some ⟨g, 11 + p * 4, none⟩)] w fun e w' => e = .returned (.tuple #[.bool R, .int .i64 G]) ∧ Lk w' g n v' ∧ Touch (fun k => k = g) w w') :
    Calls Try.prog 19 #[.pointer (some ⟨g, 0, none⟩), .pointer (some ⟨g, 11 + p * 4, none⟩)] w fun e w' => e = .returned (.tuple #[.bool R, .int .i64 G]) ∧ Lk w' g n v' ∧ Touch (fun k => k = g) w w' := by
  have g1 := hk.xa hp
  have h9 : ¬ (9 : Int) ≤ (v.a p : Int) := by omega
  have h4 : ¬ (4 : Int) ≤ (v.a p : Int) := by omega
  have HPH := Lib.hid HP
  clear hk HP ha
  go_enter Try.func19, Try.ntmps19
  go_wp2_with (go_at_call 22; refine HPH.out.mono ?_; rintro e w2 ⟨rfl, hk2, ht2⟩; have HK2 := Lib.hid hk2; have HT2 := Lib.hid ht2; clear hk2 ht2)
  go_ret2
  exact ⟨rfl, HK2.out, HT2.out⟩
set_option maxHeartbeats 4000000 in
theorem do_pop {v' : DV} {R : Bool} {G : Int} (w : World) (hk : Lk w g n v) {p : Nat} (hp : p < 4) (ha : 4 ≤ v.a p ∧ v.a p < 9)
    (HP : Calls Try.prog 21 #[.pointer (some ⟨g, 0, none⟩), .pointer (some ⟨g, 11 + p * 4, none⟩)] w fun e w' => e = .returned (.tuple #[.bool R, .int .i64 G]) ∧ Lk w' g n v' ∧ Touch (fun k => k = g) w w') :
    Calls Try.prog 19 #[.pointer (some ⟨g, 0, none⟩), .pointer (some ⟨g, 11 + p * 4, none⟩)] w fun e w' => e = .returned (.tuple #[.bool R, .int .i64 G]) ∧ Lk w' g n v' ∧ Touch (fun k => k = g) w w' := by
  have g1 := hk.xa hp
  have h9 : ¬ (9 : Int) ≤ (v.a p : Int) := by omega
  have h4 : (4 : Int) ≤ (v.a p : Int) := by omega
  have HPH := Lib.hid HP
  clear hk HP ha
  go_enter Try.func19, Try.ntmps19
  go_wp2_with (go_at_call 21; refine HPH.out.mono ?_; rintro e w2 ⟨rfl, hk2, ht2⟩; have HK2 := Lib.hid hk2; have HT2 := Lib.hid ht2; clear hk2 ht2)
  go_ret2
  exact ⟨rfl, HK2.out, HT2.out⟩
set_option maxHeartbeats 4000000 in
theorem do_steal {v' : DV} {R : Bool} {G : Int} (w : World) (hk : Lk w g n v) {p : Nat} (hp : p < 4) (ha : 9 ≤ v.a p)
    (HP : Calls Try.prog 20 #[.pointer (some ⟨g, 0, none⟩), .pointer (some ⟨g, 11 + p * 4, none⟩)] w fun e w' => e = .returned (.tuple #[.bool R, .int .i64 G]) ∧ Lk w' g n v' ∧ Touch (fun k => k = g) w w') :
    Calls Try.prog 19 #[.pointer (some ⟨g, 0, none⟩), .pointer (some ⟨g, 11 + p * 4, none⟩)] w fun e w' => e = .returned (.tuple #[.bool R, .int .i64 G]) ∧ Lk w' g n v' ∧ Touch (fun k => k = g) w w' := by
  have g1 := hk.xa hp
  have h9 : (9 : Int) ≤ (v.a p : Int) := by omega
  have HPH := Lib.hid HP
  clear hk HP ha
  go_enter Try.func19, Try.ntmps19
  go_wp2_with (go_at_call 20; refine HPH.out.mono ?_; rintro e w2 ⟨rfl, hk2, ht2⟩; have HK2 := Lib.hid hk2; have HT2 := Lib.hid ht2; clear hk2 ht2)
  go_ret2
  exact ⟨rfl, HK2.out, HT2.out⟩
theorem do_any (w : World) (hk : Lk w g n v) {p : Nat} (hl : QLoc v p) (hp : p < 4) (ha : v.a p ≠ 0) :
    Calls Try.prog 19 #[.pointer (some ⟨g, 0, none⟩), .pointer (some ⟨g, 11 + p * 4, none⟩)] w fun e w' => e = .returned (.tuple #[.bool (dvfin v p), .int .i64 (dvtold v p)]) ∧ ∃ v', Lk w' g n v' ∧ KDo v p v' ∧ Touch (fun k => k = g) w w' := by
  have hln := hl.ln
  have hc : v.a p = 1 ∨ v.a p = 2 ∨ v.a p = 3 ∨ v.a p = 4 ∨ v.a p = 5 ∨ v.a p = 6 ∨ v.a p = 7 ∨ v.a p = 8 ∨ v.a p = 9 ∨ v.a p = 10 ∨ v.a p = 11 ∨ v.a p = 12 := by omega
  rcases hc with h | h | h | h | h | h | h | h | h | h | h | h
  · by_cases hf : (v.T : Int) + 8 ≤ v.B
    · obtain ⟨e1, e2, e3⟩ := v1y h hf
      rw [e2, e3]
      refine (do_push w hk hp (by omega) (p1y_any w hk hp h hl.T hl.B hf)).mono fun e w' ⟨h1, h2, h3⟩ => ⟨h1, _, h2, ⟨?_, fun h => ?_⟩, h3⟩
      · rw [e1]; exact (dclr_to _ p 0).symm
      · rw [e2] at h; cases h
    · obtain ⟨e1, e2, e3⟩ := v1n h hf
      rw [e2, e3]
      refine (do_push w hk hp (by omega) (p1n_any w hk hp h hl.T hl.B hf)).mono fun e w' ⟨h1, h2, h3⟩ => ⟨h1, _, h2, ⟨?_, fun h => ?_⟩, h3⟩
      · rw [e1]
      · rw [e1]
  · have hb : v.B = (v.B.toNat : Int) := by have := hl.two h; omega
    obtain ⟨e1, e2, e3⟩ := v2 h
    rw [e2, e3]
    refine (do_push w hk hp (by omega) (p2_any w hk hp h hb (by have := hl.B; omega))).mono fun e w' ⟨h1, h2, h3⟩ => ⟨h1, _, h2, ⟨?_, fun h => ?_⟩, h3⟩
    · rw [e1]
    · rw [e1]
  · obtain ⟨e1, e2, e3⟩ := v3 h
    rw [e2, e3]
    refine (do_push w hk hp (by omega) (p3_any w hk hp h hl.B)).mono fun e w' ⟨h1, h2, h3⟩ => ⟨h1, _, h2, ⟨?_, fun h => ?_⟩, h3⟩
    · rw [e1]; exact (dclr_to _ p 0).symm
    · rw [e2] at h; cases h
  · obtain ⟨e1, e2, e3⟩ := v4 h
    rw [e2, e3]
    refine (do_pop w hk hp (by omega) (p4_any w hk hp h hl.B)).mono fun e w' ⟨h1, h2, h3⟩ => ⟨h1, _, h2, ⟨?_, fun h => ?_⟩, h3⟩
    · rw [e1]
    · rw [e1]
  · by_cases hf : (v.T : Int) < v.b p
    · have hb : v.b p = ((v.b p).toNat : Int) := by omega
      obtain ⟨e1, e2, e3⟩ := v5y h hf
      rw [e2, e3]
      refine (do_pop w hk hp (by omega) (p5y_any w hk hp h hb (by have := hl.five h; omega) (by omega))).mono fun e w' ⟨h1, h2, h3⟩ => ⟨h1, _, h2, ⟨?_, fun h => ?_⟩, h3⟩
      · rw [e1]; exact (dclr_to _ p 0).symm
      · rw [e2] at h; cases h
    · by_cases he : v.b p = v.T
      · obtain ⟨e1, e2, e3⟩ := v5e h hf he
        rw [e2, e3]
        refine (do_pop w hk hp (by omega) (p5e_any w hk hp h he)).mono fun e w' ⟨h1, h2, h3⟩ => ⟨h1, _, h2, ⟨?_, fun h => ?_⟩, h3⟩
        · rw [e1]
        · rw [e1]
      · obtain ⟨e1, e2, e3⟩ := v5n h hf he
        rw [e2, e3]
        refine (do_pop w hk hp (by omega) (p5n_any w hk hp h (by omega))).mono fun e w' ⟨h1, h2, h3⟩ => ⟨h1, _, h2, ⟨?_, fun h => ?_⟩, h3⟩
        · rw [e1]
        · rw [e1]
  · obtain ⟨e1, e2, e3⟩ := v6 h
    rw [e2, e3]
    refine (do_pop w hk hp (by omega) (p6_any w hk hp h)).mono fun e w' ⟨h1, h2, h3⟩ => ⟨h1, _, h2, ⟨?_, fun h => ?_⟩, h3⟩
    · rw [e1]; exact (dclr_to _ p 0).symm
    · rw [e2] at h; cases h
  · have h7 := hl.seven h
    by_cases hf : v.T = v.t p
    · have hb : v.b p = ((v.b p).toNat : Int) := by omega
      obtain ⟨e1, e2, e3⟩ := v7y h hf
      rw [e2, e3]
      refine (do_pop w hk hp (by omega) (p7y_any w hk hp h hl.T hf hb (by omega))).mono fun e w' ⟨h1, h2, h3⟩ => ⟨h1, _, h2, ⟨?_, fun h => ?_⟩, h3⟩
      · rw [e1]
      · rw [e1]
    · obtain ⟨e1, e2, e3⟩ := v7n h hf
      rw [e2, e3]
      refine (do_pop w hk hp (by omega) (p7n_any w hk hp h hl.T hf)).mono fun e w' ⟨h1, h2, h3⟩ => ⟨h1, _, h2, ⟨?_, fun h => ?_⟩, h3⟩
      · rw [e1]
      · rw [e1]
  · obtain ⟨e1, e2, e3⟩ := v8 h
    rw [e2, e3]
    refine (do_pop w hk hp (by omega) (p8_any w hk hp h (hl.t (.inl h)))).mono fun e w' ⟨h1, h2, h3⟩ => ⟨h1, _, h2, ⟨?_, fun h => ?_⟩, h3⟩
    · rw [e1]; exact (dclr_to _ p 0).symm
    · rw [e2] at h; cases h
  · obtain ⟨e1, e2, e3⟩ := v9 h
    rw [e2, e3]
    refine (do_steal w hk hp (by omega) (s9_any w hk hp h)).mono fun e w' ⟨h1, h2, h3⟩ => ⟨h1, _, h2, ⟨?_, fun h => ?_⟩, h3⟩
    · rw [e1]
    · rw [e1]
  · by_cases hf : v.B ≤ (v.t p : Int)
    · obtain ⟨e1, e2, e3⟩ := v10y h hf
      rw [e2, e3]
      refine (do_steal w hk hp (by omega) (s10y_any w hk hp h hf)).mono fun e w' ⟨h1, h2, h3⟩ => ⟨h1, _, h2, ⟨?_, fun h => ?_⟩, h3⟩
      · rw [e1]; exact (dclr_to _ p 0).symm
      · rw [e2] at h; cases h
    · obtain ⟨e1, e2, e3⟩ := v10n h hf
      rw [e2, e3]
      refine (do_steal w hk hp (by omega) (s10n_any w hk hp h hf)).mono fun e w' ⟨h1, h2, h3⟩ => ⟨h1, _, h2, ⟨?_, fun h => ?_⟩, h3⟩
      · rw [e1]
      · rw [e1]
  · obtain ⟨e1, e2, e3⟩ := v11 h
    rw [e2, e3]
    refine (do_steal w hk hp (by omega) (s11_any w hk hp h (hl.t (.inr h)))).mono fun e w' ⟨h1, h2, h3⟩ => ⟨h1, _, h2, ⟨?_, fun h => ?_⟩, h3⟩
    · rw [e1]
    · rw [e1]
  · by_cases hf : v.T = v.t p
    · obtain ⟨e1, e2, e3⟩ := v12y h hf
      rw [e2, e3]
      refine (do_steal w hk hp (by omega) (s12y_any w hk hp h hl.T hf)).mono fun e w' ⟨h1, h2, h3⟩ => ⟨h1, _, h2, ⟨?_, fun h => ?_⟩, h3⟩
      · rw [e1]; exact (dclr_to _ p 0).symm
      · rw [e2] at h; cases h
    · obtain ⟨e1, e2, e3⟩ := v12n h hf
      rw [e2, e3]
      refine (do_steal w hk hp (by omega) (s12n_any w hk hp h hl.T hf)).mono fun e w' ⟨h1, h2, h3⟩ => ⟨h1, _, h2, ⟨?_, fun h => ?_⟩, h3⟩
      · rw [e1]; exact (dclr_to _ p 0).symm
      · rw [e2] at h; cases h
end
/-- The error of Step; whether it is done; what it tells; the deque behind it. -/
def stpE (n : Nat) (v : DV) (p : Int) : Int := if ¬ (0 ≤ p ∧ p < n) then 1 else if v.a p.toNat = 0 then 7 else 0
def stpD (n : Nat) (v : DV) (p : Int) : Bool := if stpE n v p = 0 then dvfin v p.toNat else false
def stpG (n : Nat) (v : DV) (p : Int) : Int := if stpE n v p = 0 then dvtold v p.toNat else 0
def stpS (n : Nat) (v : DV) (p : Int) : DV := if stpE n v p = 0 then pstp v p.toNat else v
set_option maxHeartbeats 4000000 in
theorem step_any {g n : Nat} {v : DV} (w : World) (hk : Lk w g n v) (hn : n ≤ 4) (p : Int) (hl : 0 ≤ p → p < n → QLoc v p.toNat) :
    Calls Try.prog 13 #[.pointer (some ⟨g, 0, none⟩), .int .i64 p] w fun e w' =>
      e = .returned (.tuple #[.bool (stpD n v p), .int .i64 (stpG n v p), errV 43 (stpE n v p)]) ∧ Lk w' g n (stpS n v p) ∧ Touch (fun k => k = g) w w' := by
  have HI := Lib.hid (isHand_any p w hk.xnum)
  by_cases hp : 0 ≤ p ∧ p < n
  · obtain ⟨q, rfl⟩ := Int.eq_ofNat_of_zero_le hp.1
    rw [decide_eq_true hp] at HI
    have hq : q < n := by omega
    have hq4 : q < 4 := by omega
    have hp4 : (q : Int) < 4 := by omega
    have hca := hk.xa hq4
    have hL : QLoc v q := hl hp.1 hp.2
    by_cases ha : v.a q = 0
    · have he : stpE n v q = 7 := by unfold stpE; rw [if_neg (by omega), if_pos (by simpa using ha)]
      have hd : stpD n v q = false := by unfold stpD; rw [he]; rfl
      have hg : stpG n v q = 0 := by unfold stpG; rw [he]; rfl
      have hs : stpS n v q = v := by unfold stpS; rw [he]; rfl
      rw [hg, hd, hs, he]
      rw [ha] at hca
      have HK := Lib.hid hk
      clear hp hl hL ha he hd hg hk hs
      go_enter Try.func13, Try.ntmps13
      go_wp2_with (go_at_call 18; refine HI.out.mono ?_; rintro e w' ⟨rfl, rfl⟩)
      go_ret3
      exact ⟨rfl, HK.out, Touch.refl _ _⟩
    · have he : stpE n v q = 0 := by unfold stpE; rw [if_neg (by omega), if_neg (show ¬ v.a (q : Int).toNat = 0 by simpa using ha)]
      have hd : stpD n v q = dvfin v q := by unfold stpD; rw [he]; rfl
      have hg : stpG n v q = dvtold v q := by unfold stpG; rw [he]; rfl
      have hs : stpS n v q = pstp v q := by unfold stpS; rw [he]; rfl
      rw [hg, hd, hs, he]
      have hI : ((v.a q : Int) == 0) = false := by simp; omega
      have HD := Lib.hid (do_any w hk hL hq4 ha)
      obtain ⟨Z, hZ⟩ : ∃ Z, Z = dvtold v q := ⟨_, rfl⟩
      rw [← hZ] at HD
      rw [← hZ]
      cases hf : dvfin v q with
      | false =>
        rw [hf] at HD
        have e3 : pstp v q = dvstp v q := by unfold pstp; rw [hf]; rfl
        rw [e3]
        have HF := Lib.hid hf
        clear hp hl hL ha he hd hg hk hs hf e3 hZ
        go_enter Try.func13, Try.ntmps13
        go_wp2_with (first | (go_at_call 18; refine HI.out.mono ?_; rintro e w' ⟨rfl, rfl⟩) | (go_at_call 19; refine HD.out.mono ?_; rintro e w2 ⟨rfl, v2, hk2, hd2, ht2⟩; have HK2 := Lib.hid hk2; have HD2 := Lib.hid hd2; have HT2 := Lib.hid ht2; clear hk2 ht2 hd2))
        go_ret3
        exact ⟨rfl, HD2.out.2 HF.out ▸ HK2.out, HT2.out⟩
      | true =>
        rw [hf] at HD
        have e3 : pstp v q = dclr (dvstp v q) q 0 0 := by unfold pstp; rw [hf]; rfl
        rw [e3]
        clear hp hl hL ha he hd hg hk hs hf e3 hZ
        go_enter Try.func13, Try.ntmps13
        go_wp2_with (first | (go_at_call 18; refine HI.out.mono ?_; rintro e w' ⟨rfl, rfl⟩) | (go_at_call 19; refine HD.out.mono ?_; rintro e w2 ⟨rfl, v2, hk2, hd2, ht2⟩; have HK2 := Lib.hid hk2; have HD2 := Lib.hid hd2; have HT2 := Lib.hid ht2; have g1 := hk2.xa hq4; have g2 := hk2.xt hq4; have g3 := hk2.xb hq4; have g4 := hk2.xv hq4; have f1 := hk2.free (11 + q * 4); have f2 := hk2.free (11 + q * 4 + 1); have f3 := hk2.free (11 + q * 4 + 2); have f4 := hk2.free (11 + q * 4 + 3); clear hk2 ht2 hd2))
        have H3 := Lib.hid (show Lk _ g n (dclr (dvstp v q) q 0 0) from HD2.out.1 ▸ (HK2.out.setHand hq4 0 0))
        go_ret3
        exact ⟨rfl, H3.out, (((HT2.out.setCell (Or.inl rfl) _).setCell (Or.inl rfl) _).setCell (Or.inl rfl) _).setCell (Or.inl rfl) _⟩
  · rw [decide_eq_false hp] at HI
    have he : stpE n v p = 1 := by unfold stpE; rw [if_pos hp]
    have hd : stpD n v p = false := by unfold stpD; rw [he]; rfl
    have hg : stpG n v p = 0 := by unfold stpG; rw [he]; rfl
    have hs : stpS n v p = v := by unfold stpS; rw [he]; rfl
    rw [hg, hd, hs, he]
    have HK := Lib.hid hk
    clear hp hl he hd hg hk hs
    go_enter Try.func13, Try.ntmps13
    go_wp2_with (go_at_call 18; refine HI.out.mono ?_; rintro e w' ⟨rfl, rfl⟩)
    go_ret3
    exact ⟨rfl, HK.out, Touch.refl _ _⟩
/-- At which line a hand is; 0, if it is none. -/
def lkAt (n : Nat) (v : DV) (p : Int) : Nat := if 0 ≤ p ∧ p < n then v.a p.toNat else 0
theorem lkAt_in {n : Nat} {v : DV} {p : Nat} (h : p < n) : lkAt n v p = v.a p := by
  rw [lkAt, if_pos (by omega)]; rfl
set_option maxHeartbeats 4000000 in
theorem at_any {g n : Nat} {v : DV} (w : World) (hk : Lk w g n v) (hn : n ≤ 4) (p : Int) :
    Calls Try.prog 15 #[.pointer (some ⟨g, 0, none⟩), .int .i64 p] w fun e w' => e = .returned (.int .i64 (lkAt n v p)) ∧ w = w' := by
  have HI := Lib.hid (isHand_any p w hk.xnum)
  by_cases hp : 0 ≤ p ∧ p < n
  · obtain ⟨q, rfl⟩ := Int.eq_ofNat_of_zero_le hp.1
    have hq : q < n := by omega
    have hp4 : (q : Int) < 4 := by omega
    rw [decide_eq_true hp] at HI
    have hca := hk.xa (show q < 4 by omega)
    rw [lkAt_in hq]
    clear hk hp
    go_enter Try.func15, Try.ntmps15
    go_wp2_with (go_at_call 18; refine HI.out.mono ?_; rintro e w' ⟨rfl, rfl⟩)
    go_ret
    exact ⟨rfl, rfl⟩
  · rw [decide_eq_false hp] at HI
    rw [lkAt, if_neg hp]
    clear hk hp
    go_enter Try.func15, Try.ntmps15
    go_wp2_with (go_at_call 18; refine HI.out.mono ?_; rintro e w' ⟨rfl, rfl⟩)
    go_ret
    exact ⟨rfl, rfl⟩
set_option maxHeartbeats 4000000 in
theorem ends_any {g n : Nat} {v : DV} (w : World) (hk : Lk w g n v) :
    Calls Try.prog 10 #[.pointer (some ⟨g, 0, none⟩)] w fun e w' => e = .returned (.tuple #[.int .i64 (v.T : Nat), .int .i64 v.B]) ∧ ∃ i, w' = w.drewN i := by
  have h1 := hk.xT
  have h2 := hk.xB
  clear hk
  go_enter Try.func10, Try.ntmps10
  go_wp2_with fail
  go_quiet (fail)
  go_wp2
  go_ret2
  exact ⟨rfl, _, rfl⟩
end Go.Proofs.Ytbicckeoidijpaa.Dq
