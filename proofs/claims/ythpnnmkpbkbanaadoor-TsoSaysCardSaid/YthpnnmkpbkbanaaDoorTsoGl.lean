/-
  Texts merged: TsoGlue, TsoInv.
-/
import Derived.Test.YthpnnmkpbkbanaaDoorTsoSt
/-
  A state where what is stored waits as forty-nine numbers, and what its methods' numbers are: plain mathematics.
-/
namespace Go.Proofs.YthpnnmkpbkbanaaDoor

def preQ (s : TS) (p : Nat) : List Int := if p = 0 then [] else if p = 1 then qrow (s.o 0).q else qrow (s.o 0).q ++ qrow (s.o 1).q
def postQ (s : TS) (p : Nat) : List Int := if p = 0 then qrow (s.o 1).q ++ qrow (s.o 2).q else if p = 1 then qrow (s.o 2).q else []
def e49 (s : TS) : List Int := e16 s ++ (qrow (s.o 0).q ++ (qrow (s.o 1).q ++ qrow (s.o 2).q))
theorem e49_length {s : TS} (hq : ∀ p, p < 3 → (s.o p).q.length ≤ 5) : (e49 s).length = 49 := by
  simp only [e49, List.length_append, e16_length, qrow_length (hq 0 (by omega)), qrow_length (hq 1 (by omega)), qrow_length (hq 2 (by omega))]
theorem e49_put {s s' : TS} {p : Nat} (hp : p < 3) (ho : ∀ j, j ≠ p → (s'.o j).q = (s.o j).q) : e49 s' = e16 s' ++ (preQ s p ++ (qrow (s'.o p).q ++ postQ s p)) := by
  have h3 : p = 0 ∨ p = 1 ∨ p = 2 := by omega
  rcases h3 with rfl | rfl | rfl
  · simp only [e49, preQ, postQ, if_true, List.nil_append, ho 1 (by omega), ho 2 (by omega)]
  · simp only [e49, preQ, postQ, ho 0 (by omega), ho 2 (by omega)]
    simp
  · simp only [e49, preQ, postQ, ho 0 (by omega), ho 1 (by omega)]
    simp
theorem e49_row {s : TS} {p : Nat} (hp : p < 3) (hq : ∀ p, p < 3 → (s.o p).q.length ≤ 5) : TRow (e16 s) (preQ s p) (s.o p).q (postQ s p) p (e49 s) := by
  refine ⟨rfl, ?_, e49_length hq, e49_put hp (fun _ _ => rfl), hp⟩
  have h3 : p = 0 ∨ p = 1 ∨ p = 2 := by omega
  have h0 := qrow_length (hq 0 (by omega))
  have h1 := qrow_length (hq 1 (by omega))
  rcases h3 with rfl | rfl | rfl
  · simp [preQ, e16_length]
  · simp [preQ, e16_length, h0]
  · simp [preQ, e16_length, h0, h1]

/-! ### What a hand sees of the words -/
theorem ovr_over : ∀ (q : List (Nat × Int)) (w : Nat → Int), (∀ e ∈ q, e.1 < 4) → ovr [w 0, w 1, w 2, w 3] q = [over q w 0, over q w 1, over q w 2, over q w 3]
  | [], _, _ => rfl
  | e :: r, w, h => by
    have hd := h e (by simp)
    have h1 : [w 0, w 1, w 2, w 3].set e.1 e.2 = [upd w e.1 e.2 0, upd w e.1 e.2 1, upd w e.1 e.2 2, upd w e.1 e.2 3] := by
      have : e.1 = 0 ∨ e.1 = 1 ∨ e.1 = 2 ∨ e.1 = 3 := by omega
      rcases this with e1 | e1 | e1 | e1 <;> rw [e1] <;> rfl
    show ovr ([w 0, w 1, w 2, w 3].set e.1 e.2) r = _
    rw [h1]
    exact ovr_over r (upd w e.1 e.2) fun x hx => h x (by simp [hx])
theorem e16_words (s : TS) (w : Nat → Int) : (e16 s).take 12 ++ [w 0, w 1, w 2, w 3] = e16 ⟨s.o, w⟩ := rfl
theorem e16_drop (s : TS) : (e16 s).drop 12 = [s.w 0, s.w 1, s.w 2, s.w 3] := rfl
theorem e16_take (s t : TS) (h : ∀ p, p < 3 → (s.o p).a = (t.o p).a ∧ (s.o p).b = (t.o p).b ∧ (s.o p).n = (t.o p).n) : (e16 s).take 12 = (e16 t).take 12 := by
  have h1 := e16_congr (s := ⟨s.o, t.w⟩) (t := t) h rfl
  have h2 : (e16 (⟨s.o, t.w⟩ : TS)).take 12 = (e16 s).take 12 := rfl
  rw [← h2, h1]
/-- A line of another kind than Store and Swap: what waits is not asked, but for what the words are. -/
theorem ln_same {ls : List Ln} {o : Own} {w : Nat → Int} {l : Ln} (hl : ls[o.n]? = some l) (h2 : l.k ≠ 2) (h3 : l.k ≠ 3) (h4 : l.k = 4 → o.q = []) :
    ∃ X Y, tsoLn ls o.noq (over o.q w) = (X, over o.q w) ∧ tsoLn ls o w = (Y, w) ∧ X.q = [] ∧ Y.q = o.q ∧ X.a = Y.a ∧ X.b = Y.b ∧ X.n = Y.n := by
  unfold tsoLn
  rw [show o.noq.n = o.n from rfl, hl]
  dsimp only
  by_cases k1 : l.k = 1
  · rw [if_pos k1, if_pos k1]
    refine ⟨_, _, rfl, rfl, setReg_q _ _ _, setReg_q _ _ _, ?_⟩
    unfold Own.setReg
    rw [show o.noq.q = [] from rfl]
    split <;> exact ⟨rfl, rfl, rfl⟩
  · rw [if_neg k1, if_neg h3, if_neg k1, if_neg h3]
    refine ⟨_, _, rfl, rfl, ?_⟩
    unfold locLn
    by_cases k0 : l.k = 0
    · rw [if_pos k0, if_pos k0]
      refine ⟨setReg_q _ _ _, setReg_q _ _ _, ?_⟩
      unfold Own.setReg
      split <;> exact ⟨rfl, rfl, rfl⟩
    · rw [if_neg k0, if_neg h2, if_neg k0, if_neg h2]
      by_cases k4 : l.k = 4
      · rw [if_pos k4, if_pos k4, if_pos (show o.noq.q = [] from rfl), if_pos (h4 k4)]
        exact ⟨rfl, rfl, rfl, rfl, rfl⟩
      · rw [if_neg k4, if_neg k4, show o.noq.reg l.r = o.reg l.r from rfl]
        split <;> exact ⟨rfl, rfl, rfl, rfl, rfl⟩
/-- What step tells is the state behind the hand's line. -/
theorem step_glue {words : Int} {hs : List (List Ln)} (hW : Well words hs) {s : TS} {p : Nat} {l : Ln} (hp : p < hs.length) (hln : (hs.getD p [])[(s.o p).n]? = some l) (hq4 : ∀ e ∈ (s.o p).q, e.1 < 4)
    (hgo : (s.o p).q = [] ∨ (l.k ≠ 3 ∧ l.k ≠ 4)) : tso49 hs (e16 s) (preQ s p) (postQ s p) (s.o p).q p l.k l.d = e49 (tstp hs s p) := by
  have h3 := hW.few
  have hw4 := hW.hi
  have hp3 : p < 3 := by omega
  have hok := (well_line hW hln).2.2
  obtain ⟨U, hU⟩ : ∃ U : TS, U = ⟨upd s.o p (s.o p).noq, over (s.o p).q s.w⟩ := ⟨_, rfl⟩
  have hUo : U.o p = (s.o p).noq := by rw [hU]; simp only [upd_same]
  have hUw : U.w = over (s.o p).q s.w := by rw [hU]
  have hUj : ∀ j, j ≠ p → U.o j = s.o j := fun j hj => by rw [hU]; simp only [upd_other hj]
  have hUe : (e16 s).take 12 ++ ovr ((e16 s).drop 12) (s.o p).q = e16 U := by
    rw [e16_drop, ovr_over _ _ hq4, e16_words]
    refine e16_congr (fun j _ => ?_) hUw.symm
    by_cases e : j = p
    · subst e; rw [hUo]; exact ⟨rfl, rfl, rfl⟩
    · rw [hUj j e]; exact ⟨rfl, rfl, rfl⟩
  have hst := stp_e16 hW U hp (by rw [hUo]; rfl)
  have hother : ∀ j, j ≠ p → ((tstp hs s p).o j).q = (s.o j).q := fun j hj => by simp only [tstp, upd_other hj]
  unfold tso49
  rw [hUe, hst, e49_put hp3 hother]
  have hlnU : (hs.getD p [])[(U.o p).n]? = some l := by rw [hUo]; exact hln
  by_cases k3 : l.k = 3
  · have hq : (s.o p).q = [] := by
      rcases hgo with h | h
      · exact h
      · exact absurd k3 h.1
    rw [if_pos k3]
    have hs1 : tstp hs s p = ⟨upd s.o p (((s.o p).at_ ((s.o p).n + 1)).setReg l.r (s.w l.d.toNat)), upd s.w l.d.toNat ((s.o p).reg l.r)⟩ := by
      unfold tstp tsoLn; rw [hln]; dsimp only; rw [if_neg (by omega), if_pos k3, if_pos hq]
    have hU1 : tstp hs U p = ⟨upd U.o p (((s.o p).noq.at_ ((s.o p).n + 1)).setReg l.r (s.w l.d.toNat)), upd s.w l.d.toNat ((s.o p).reg l.r)⟩ := by
      have hUw' : U.w = s.w := by rw [hUw, hq]; rfl
      unfold tstp tsoLn; rw [hUo, show (s.o p).noq.n = (s.o p).n from rfl, hln]; dsimp only; rw [if_neg (by omega), if_pos k3, if_pos (show (s.o p).noq.q = [] from rfl), hUw']; rfl
    have hU2 : tcom (tstp hs U p) p = tstp hs U p := by rw [hU1]; unfold tcom; simp only [upd_same, setReg_q, Own.at_, Own.noq]
    rw [hU2, hU1, hs1]
    simp only [upd_same, setReg_q, Own.at_]
    congr 1
    refine e16_congr (fun j _ => ?_) rfl
    by_cases e : j = p
    · subst e
      simp only [upd_same]
      unfold Own.setReg
      split <;> exact ⟨rfl, rfl, rfl⟩
    · simp only [upd_other e, hUj j e, and_self]
  · rw [if_neg k3]
    by_cases k2 : l.k = 2
    · rw [if_pos k2]
      have hd := okLn_word hok (Or.inr (Or.inl k2))
      have hd4 : l.d.toNat < 4 := by omega
      have hs1 : tstp hs s p = ⟨upd s.o p ⟨(s.o p).a, (s.o p).b, (s.o p).n + 1, (s.o p).q ++ [(l.d.toNat, (s.o p).reg l.r)]⟩, s.w⟩ := by
        unfold tstp tsoLn locLn; rw [hln]; dsimp only; rw [if_neg (by omega), if_neg (by omega), if_neg (by omega), if_pos k2]
      have hU1 : tstp hs U p = ⟨upd U.o p ⟨(s.o p).a, (s.o p).b, (s.o p).n + 1, [(l.d.toNat, (s.o p).reg l.r)]⟩, U.w⟩ := by
        unfold tstp tsoLn locLn; rw [hUo, show (s.o p).noq.n = (s.o p).n from rfl, hln]; dsimp only; rw [if_neg (by omega), if_neg (by omega), if_neg (by omega), if_pos k2]; rfl
      have hU2 : tcom (tstp hs U p) p = ⟨upd U.o p ⟨(s.o p).a, (s.o p).b, (s.o p).n + 1, []⟩, upd U.w l.d.toNat ((s.o p).reg l.r)⟩ := by
        rw [hU1]; unfold tcom; simp only [upd_same, upd_upd, Own.pop, List.tail_cons]
      rw [hU2, hs1]
      simp only [upd_same]
      have hv : ((e16 (⟨upd U.o p ⟨(s.o p).a, (s.o p).b, (s.o p).n + 1, []⟩, upd U.w l.d.toNat ((s.o p).reg l.r)⟩ : TS)).drop 12).getD l.d.toNat 0 = (s.o p).reg l.r := by
        rw [e16_drop]
        have : l.d.toNat = 0 ∨ l.d.toNat = 1 ∨ l.d.toNat = 2 ∨ l.d.toNat = 3 := by omega
        rcases this with e | e | e | e <;> rw [e] <;> simp [upd]
      rw [hv, e16_drop, e16_words]
      congr 1
      refine e16_congr (fun j _ => ?_) rfl
      by_cases e : j = p
      · subst e; simp only [upd_same, and_self]
      · simp only [upd_other e, hUj j e, and_self]
    · rw [if_neg k2]
      obtain ⟨X, Y, a1, a2, a3, a4, a5, a6, a7⟩ := ln_same (w := s.w) hln k2 k3 (fun h => by
        rcases hgo with h' | h'
        · exact h'
        · exact absurd h h'.2)
      have hs1 : tstp hs s p = ⟨upd s.o p Y, s.w⟩ := by unfold tstp; rw [a2]
      have hU1 : tstp hs U p = ⟨upd U.o p X, U.w⟩ := by unfold tstp; rw [hUo, hUw, a1]
      have hU2 : tcom (tstp hs U p) p = ⟨upd U.o p X, U.w⟩ := by rw [hU1]; unfold tcom; simp only [upd_same, a3]
      rw [hU2, hs1, e16_drop, e16_words]
      simp only [upd_same, a4]
      congr 1
      refine e16_congr (fun j _ => ?_) rfl
      by_cases e : j = p
      · subst e; simp only [upd_same]; exact ⟨a5, a6, a7⟩
      · simp only [upd_other e, hUj j e, and_self]
/-- What come tells is the state behind it. -/
theorem come_glue {s : TS} {p d : Nat} {v : Int} {q : List (Nat × Int)} (hp : p < 3) (hq : (s.o p).q = (d, v) :: q) (hd : d < 4) :
    ((e16 s).take 12 ++ ((e16 s).drop 12).set d v) ++ (preQ s p ++ (qrow q ++ postQ s p)) = e49 (tcom s p) := by
  have h1 : tcom s p = ⟨upd s.o p (s.o p).pop, upd s.w d v⟩ := by unfold tcom; simp only [hq]
  rw [e49_put hp (s := s) (fun j hj => by rw [tcom_other hj]), h1]
  simp only [upd_same, Own.pop, hq, List.tail_cons]
  congr 1
  rw [e16_drop]
  have h2 : [s.w 0, s.w 1, s.w 2, s.w 3].set d v = [upd s.w d v 0, upd s.w d v 1, upd s.w d v 2, upd s.w d v 3] := by
    have : d = 0 ∨ d = 1 ∨ d = 2 ∨ d = 3 := by omega
    rcases this with rfl | rfl | rfl | rfl <;> rfl
  rw [h2, e16_words]
  refine e16_congr (fun j _ => ?_) rfl
  by_cases e : j = p
  · subst e; simp only [upd_same, and_self]
  · simp only [upd_other e, and_self]
end Go.Proofs.YthpnnmkpbkbanaaDoor

/-
  What holds of all states where what is stored waits: plain mathematics.
-/
namespace Go.Proofs.YthpnnmkpbkbanaaDoor

def In1000 (x : Int) : Prop := 0 ≤ x ∧ x ≤ 1000
structure TOk (words : Int) (hs : List (List Ln)) (s : TS) : Prop where
  qn : ∀ p, (s.o p).q.length ≤ (s.o p).n
  nl : ∀ p, (s.o p).n ≤ (hs.getD p []).length
  ra : ∀ p, In1000 (s.o p).a
  rb : ∀ p, In1000 (s.o p).b
  rq : ∀ p, ∀ e ∈ (s.o p).q, e.1 < words.toNat ∧ In1000 e.2
  rw_ : ∀ d, In1000 (s.w d)
  wz : ∀ d, words.toNat ≤ d → s.w d = 0
  idle : ∀ p, hs.length ≤ p → s.o p = own0
theorem ts0_ok (words : Int) (hs : List (List Ln)) : TOk words hs ts0 :=
  have z : In1000 0 := ⟨by decide, by decide⟩
  ⟨fun _ => Nat.le_refl _, fun _ => Nat.zero_le _, fun _ => z, fun _ => z, (fun _ e h => absurd h List.not_mem_nil), fun _ => z, fun _ _ => rfl, fun _ _ => rfl⟩
theorem setReg_rng {o : Own} {r v : Int} (ha : In1000 o.a) (hb : In1000 o.b) (hv : In1000 v) : In1000 (o.setReg r v).a ∧ In1000 (o.setReg r v).b := by
  unfold Own.setReg
  split
  · exact ⟨hv, hb⟩
  · exact ⟨ha, hv⟩
theorem reg_rng {o : Own} {r : Int} (ha : In1000 o.a) (hb : In1000 o.b) : In1000 (o.reg r) := by unfold Own.reg; split <;> assumption
theorem over_rng : ∀ {q : List (Nat × Int)} {w : Nat → Int}, (∀ e ∈ q, In1000 e.2) → (∀ d, In1000 (w d)) → ∀ d, In1000 (over q w d)
  | [], _, _, hw => hw
  | e :: r, w, hq, hw => over_rng (q := r) (w := upd w e.1 e.2) (fun x hx => hq x (by simp [hx])) fun d => by
    unfold upd
    split
    · exact hq e (by simp)
    · exact hw d
/-- A hand's line keeps what holds of it. -/
theorem ln_ok {words : Int} {hs : List (List Ln)} (hW : Well words hs) {s : TS} (h : TOk words hs s) {p : Nat} (hp : p < hs.length) : TOk words hs (tstp hs s p) := by
  obtain ⟨o', w', how⟩ : ∃ o' w', tsoLn (hs.getD p []) (s.o p) s.w = (o', w') := ⟨_, _, rfl⟩
  have e1 : tstp hs s p = ⟨upd s.o p o', w'⟩ := by unfold tstp; rw [how]
  suffices hk : o'.q.length ≤ o'.n ∧ o'.n ≤ (hs.getD p []).length ∧ In1000 o'.a ∧ In1000 o'.b ∧ (∀ e ∈ o'.q, e.1 < words.toNat ∧ In1000 e.2) ∧ (∀ d, In1000 (w' d)) ∧ ∀ d, words.toNat ≤ d → w' d = 0 by
    obtain ⟨k1, k2, k3, k4, k5, k6, k7⟩ := hk
    rw [e1]
    have split_ : ∀ (P : Nat → Own → Prop), P p o' → (∀ j, P j (s.o j)) → ∀ j, P j (upd s.o p o' j) := fun P h1 h2 j => by
      by_cases e : j = p
      · subst e; rw [upd_same]; exact h1
      · rw [upd_other e]; exact h2 j
    exact ⟨split_ (fun _ o => o.q.length ≤ o.n) k1 h.qn, split_ (fun j o => o.n ≤ (hs.getD j []).length) k2 h.nl, split_ (fun _ o => In1000 o.a) k3 h.ra, split_ (fun _ o => In1000 o.b) k4 h.rb,
      split_ (fun _ o => ∀ e ∈ o.q, e.1 < words.toNat ∧ In1000 e.2) k5 h.rq, k6, k7, fun j hj => by show upd s.o p o' j = own0; rw [upd_other (by omega)]; exact h.idle j hj⟩
  have hqn := h.qn p
  have hnl := h.nl p
  have ha := h.ra p
  have hb := h.rb p
  have hq := h.rq p
  have same : s.o p = o' → s.w = w' → o'.q.length ≤ o'.n ∧ o'.n ≤ (hs.getD p []).length ∧ In1000 o'.a ∧ In1000 o'.b ∧ (∀ e ∈ o'.q, e.1 < words.toNat ∧ In1000 e.2) ∧ (∀ d, In1000 (w' d)) ∧ ∀ d, words.toNat ≤ d → w' d = 0 := by
    rintro rfl rfl
    exact ⟨hqn, hnl, ha, hb, hq, h.rw_, h.wz⟩
  unfold tsoLn at how
  cases hln : (hs.getD p [])[(s.o p).n]? with
  | none =>
    rw [hln] at how
    injection how with h1 h2
    exact same h1 h2
  | some l =>
    rw [hln] at how
    have hlt := lt_of_line hln
    have hok := (well_line hW hln).2.2
    dsimp only at how
    split at how
    · rename_i k1
      injection how with h1 h2
      subst h1 h2
      have hr := setReg_rng (o := (s.o p).at_ ((s.o p).n + 1)) (r := l.r) ha hb (over_rng (fun e he => (hq e he).2) h.rw_ l.d.toNat)
      exact ⟨by rw [setReg_q, setReg_n]; exact Nat.le_succ_of_le hqn, by rw [setReg_n]; exact hlt, hr.1, hr.2, by rw [setReg_q]; exact hq, h.rw_, h.wz⟩
    · rename_i k1
      split at how
      · rename_i k3
        have hd := okLn_word hok (Or.inr (Or.inr k3))
        split at how
        · injection how with h1 h2
          subst h1 h2
          have hr := setReg_rng (o := (s.o p).at_ ((s.o p).n + 1)) (r := l.r) ha hb (h.rw_ l.d.toNat)
          refine ⟨by rw [setReg_q, setReg_n]; exact Nat.le_succ_of_le hqn, by rw [setReg_n]; exact hlt, hr.1, hr.2, by rw [setReg_q]; exact hq, fun d => ?_, fun d hd' => ?_⟩
          · unfold upd
            split
            · exact reg_rng ha hb
            · exact h.rw_ d
          · rw [upd_other (by omega)]; exact h.wz d hd'
        · injection how with h1 h2
          exact same h1 h2
      · injection how with h1 h2
        subst h1 h2
        unfold locLn
        split
        · rename_i k0
          have hv : In1000 l.v := by
            unfold okLn at hok
            rw [if_pos k0] at hok
            exact inR_true.1 (Bool.and_eq_true _ _ ▸ hok).2
          have hr := setReg_rng (o := (s.o p).at_ ((s.o p).n + 1)) (r := l.r) ha hb hv
          exact ⟨by rw [setReg_q, setReg_n]; exact Nat.le_succ_of_le hqn, by rw [setReg_n]; exact hlt, hr.1, hr.2, by rw [setReg_q]; exact hq, h.rw_, h.wz⟩
        · split
          · rename_i k2
            have hd := okLn_word hok (Or.inr (Or.inl k2))
            refine ⟨by simp; exact hqn, hlt, ha, hb, fun e he => ?_, h.rw_, h.wz⟩
            rcases List.mem_append.1 he with h' | h'
            · exact hq e h'
            · rw [List.mem_singleton.1 h']
              exact ⟨by show l.d.toNat < _; omega, reg_rng ha hb⟩
          · split
            · split
              · exact ⟨Nat.le_succ_of_le hqn, hlt, ha, hb, hq, h.rw_, h.wz⟩
              · exact ⟨hqn, hnl, ha, hb, hq, h.rw_, h.wz⟩
            · split
              · refine ⟨?_, Nat.min_le_right _ _, ha, hb, hq, h.rw_, h.wz⟩
                show (s.o p).q.length ≤ min ((s.o p).n + 1 + l.v.toNat) (hs.getD p []).length
                omega
              · exact ⟨Nat.le_succ_of_le hqn, hlt, ha, hb, hq, h.rw_, h.wz⟩
theorem come_ok {words : Int} {hs : List (List Ln)} {s : TS} (h : TOk words hs s) {p : Nat} (hp : p < hs.length) : TOk words hs (tcom s p) := by
  cases hq : (s.o p).q with
  | nil => rw [show tcom s p = s by unfold tcom; rw [hq]]; exact h
  | cons e r =>
    have e1 : tcom s p = ⟨upd s.o p (s.o p).pop, upd s.w e.1 e.2⟩ := by unfold tcom; simp only [hq]
    have hqn := h.qn p
    have hrq := h.rq p
    rw [hq] at hqn hrq
    simp only [List.length_cons] at hqn
    have he := hrq e (by simp)
    rw [e1]
    have split_ : ∀ (P : Nat → Own → Prop), P p (s.o p).pop → (∀ j, P j (s.o j)) → ∀ j, P j (upd s.o p (s.o p).pop j) := fun P h1 h2 j => by
      by_cases e : j = p
      · subst e; rw [upd_same]; exact h1
      · rw [upd_other e]; exact h2 j
    refine ⟨split_ (fun _ o => o.q.length ≤ o.n) (by simp only [Own.pop, hq, List.tail_cons]; omega) h.qn, split_ (fun j o => o.n ≤ (hs.getD j []).length) (h.nl p) h.nl, split_ (fun _ o => In1000 o.a) (h.ra p) h.ra, split_ (fun _ o => In1000 o.b) (h.rb p) h.rb,
      split_ (fun _ o => ∀ e ∈ o.q, e.1 < words.toNat ∧ In1000 e.2) (fun x hx => hrq x (by simp only [Own.pop, hq, List.tail_cons] at hx; simp [hx])) h.rq, fun d => ?_, fun d hd => ?_, fun j hj => ?_⟩
    · show In1000 (upd s.w e.1 e.2 d)
      unfold upd
      split
      · exact he.2
      · exact h.rw_ d
    · show upd s.w e.1 e.2 d = 0
      rw [upd_other (by omega)]; exact h.wz d hd
    · show upd s.o p _ j = own0
      rw [upd_other (by omega)]; exact h.idle j hj
theorem TReach.ok {words : Int} {hs : List (List Ln)} (hW : Well words hs) {s : TS} (h : TReach hs s) : TOk words hs s := by
  induction h with
  | start => exact ts0_ok words hs
  | step _ hp ih => exact ln_ok hW ih hp
  | come _ hp ih => exact come_ok ih hp
theorem well_short {words : Int} {hs : List (List Ln)} (hW : Well words hs) (p : Nat) : (hs.getD p []).length ≤ 5 :=
  getD_len (fun ls hm => by
    obtain ⟨i, hi, rfl⟩ := List.mem_iff_getElem.1 hm
    exact hW.short i _ (List.getElem?_eq_getElem hi)) p
theorem TOk.q5 {words : Int} {hs : List (List Ln)} (hW : Well words hs) {s : TS} (h : TOk words hs s) (p : Nat) : (s.o p).q.length ≤ 5 := by
  have h1 := h.qn p
  have h2 := h.nl p
  have h3 := well_short hW p
  omega

/-! ### No two states are the same forty-nine numbers -/
theorem pairs_inj : ∀ {q q' : List (Nat × Int)}, pairs q = pairs q' → q = q'
  | [], [], _ => rfl
  | [], e :: r, h => by simp [pairs] at h
  | e :: r, [], h => by simp [pairs] at h
  | e :: r, e' :: r', h => by
    have h1 : (e.1 : Int) :: e.2 :: pairs r = (e'.1 : Int) :: e'.2 :: pairs r' := h
    injection h1 with a h1
    injection h1 with b h1
    rw [pairs_inj h1]
    have : e = e' := Prod.ext (by omega) b
    rw [this]
theorem qrow_inj {q q' : List (Nat × Int)} (h : qrow q = qrow q') : q = q' := by
  unfold qrow at h
  injection h with h1 h2
  have hl : q.length = q'.length := by omega
  exact pairs_inj (List.append_inj_left h2 (by rw [pairs_length, pairs_length, hl]))
theorem e49_inj {words : Int} {hs : List (List Ln)} (hW : Well words hs) {s t : TS} (hs' : TOk words hs s) (ht : TOk words hs t) (h : e49 s = e49 t) : s = t := by
  have h4 := hW.hi
  have h3 := hW.few
  unfold e49 at h
  have h1 : e16 s = e16 t := List.append_inj_left h (by rw [e16_length, e16_length])
  have h2 := List.append_inj_right h (by rw [e16_length, e16_length])
  have q0 := List.append_inj_left h2 (by rw [qrow_length (hs'.q5 hW 0), qrow_length (ht.q5 hW 0)])
  have h2' := List.append_inj_right h2 (by rw [qrow_length (hs'.q5 hW 0), qrow_length (ht.q5 hW 0)])
  have q1 := List.append_inj_left h2' (by rw [qrow_length (hs'.q5 hW 1), qrow_length (ht.q5 hW 1)])
  have q2 := List.append_inj_right h2' (by rw [qrow_length (hs'.q5 hW 1), qrow_length (ht.q5 hW 1)])
  have q0 := qrow_inj q0
  have q1 := qrow_inj q1
  have q2 := qrow_inj q2
  unfold e16 at h1
  simp only [List.cons.injEq, and_true, true_and] at h1
  obtain ⟨a0, b0, n0, a1, b1, n1, a2, b2, n2, w0, w1, w2, w3⟩ := h1
  have own_ext : ∀ (x y : Own), x.a = y.a → x.b = y.b → x.n = y.n → x.q = y.q → x = y := fun x y e1 e2 e3 e4 => by
    obtain ⟨xa, xb, xn, xq⟩ := x
    obtain ⟨ya, yb, yn, yq⟩ := y
    simp only at e1 e2 e3 e4
    rw [e1, e2, e3, e4]
  obtain ⟨so, sw⟩ := s
  obtain ⟨t_o, tw⟩ := t
  simp only [TS.mk.injEq]
  refine ⟨?_, ?_⟩
  · funext p
    have hp : p = 0 ∨ p = 1 ∨ p = 2 ∨ 3 ≤ p := by omega
    rcases hp with rfl | rfl | rfl | hp
    · exact own_ext _ _ a0 b0 (Int.ofNat.inj n0) q0
    · exact own_ext _ _ a1 b1 (Int.ofNat.inj n1) q1
    · exact own_ext _ _ a2 b2 (Int.ofNat.inj n2) q2
    · exact (hs'.idle p (by omega)).trans (ht.idle p (by omega)).symm
  · funext d
    have hd : d = 0 ∨ d = 1 ∨ d = 2 ∨ d = 3 ∨ 4 ≤ d := by omega
    rcases hd with rfl | rfl | rfl | rfl | hd
    · exact w0
    · exact w1
    · exact w2
    · exact w3
    · exact (hs'.wz d (by omega)).trans (ht.wz d (by omega)).symm

/-! ### The numbers are small -/
theorem wf_small {x : Int} (h : 0 ≤ x ∧ x ≤ 1000) : (Lit.int .i64 x).wf = true := WalkArith.wf_i64 ⟨by omega, by omega⟩
theorem wf_append {a b : List Int} (ha : Wf a) (hb : Wf b) : Wf (a ++ b) := fun x hx => (List.mem_append.1 hx).elim (ha x) (hb x)
theorem qrow_wf {q : List (Nat × Int)} (hl : q.length ≤ 5) (h : ∀ e ∈ q, e.1 < 4 ∧ In1000 e.2) : Wf (qrow q) := by
  intro x hx
  unfold qrow at hx
  rcases List.mem_cons.1 hx with rfl | hx
  · exact wf_small ⟨by omega, by omega⟩
  · rcases List.mem_append.1 hx with hx | hx
    · obtain ⟨e, he, hx⟩ := List.mem_flatMap.1 hx
      have := h e he
      rcases List.mem_cons.1 hx with rfl | hx
      · exact wf_small ⟨by omega, by omega⟩
      · rw [List.mem_singleton.1 hx]; exact wf_small this.2
    · rw [List.eq_of_mem_replicate hx]; exact wf_small ⟨by omega, by omega⟩
theorem e16_wf {words : Int} {hs : List (List Ln)} (hW : Well words hs) {s : TS} (h : TOk words hs s) : Wf (e16 s) := by
  have hn : ∀ p, 0 ≤ ((s.o p).n : Int) ∧ ((s.o p).n : Int) ≤ 1000 := fun p => by
    have h2 := h.nl p
    have h3 := well_short hW p
    omega
  intro x hx
  unfold e16 at hx
  simp only [List.mem_cons, List.not_mem_nil, or_false] at hx
  rcases hx with rfl | rfl | rfl | rfl | rfl | rfl | rfl | rfl | rfl | rfl | rfl | rfl | rfl | rfl | rfl | rfl
  all_goals first | exact wf_small (h.ra _) | exact wf_small (h.rb _) | exact wf_small (hn _) | exact wf_small (h.rw_ _) | exact wf_small ⟨by omega, by omega⟩
theorem rest_wf {words : Int} {hs : List (List Ln)} (hW : Well words hs) {s : TS} (h : TOk words hs s) : Wf (qrow (s.o 0).q ++ (qrow (s.o 1).q ++ qrow (s.o 2).q)) := by
  have h4 := hW.hi
  have hq : ∀ p, Wf (qrow (s.o p).q) := fun p => qrow_wf (h.q5 hW p) fun e he => ⟨by have := (h.rq p e he).1; omega, (h.rq p e he).2⟩
  exact wf_append (hq 0) (wf_append (hq 1) (hq 2))
theorem e49_wf {words : Int} {hs : List (List Ln)} (hW : Well words hs) {s : TS} (h : TOk words hs s) : Wf (e49 s) := wf_append (e16_wf hW h) (rest_wf hW h)
end Go.Proofs.YthpnnmkpbkbanaaDoor
