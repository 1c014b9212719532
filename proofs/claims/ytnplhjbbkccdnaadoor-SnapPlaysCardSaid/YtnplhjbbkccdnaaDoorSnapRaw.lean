/-
  Package snap: what the cells have of a board as chapter 14 tells it: what a hand does not use is cleared.
-/
import Derived.Test.YtnplhjbbkccdnaaDoorSnapSt
namespace Go.Proofs.YtnplhjbbkccdnaaDoor.Snap
def cut (n : Nat) (s : Nat → Nat) : Nat → Nat := fun r => if r < n then s r else 0
def cw (n : Nat) (x : SW) : SW := ⟨x.v, x.t, cut n x.s⟩
def raw (n : Nat) (b : SB) : SB :=
  ⟨b.a, if b.a = 1 ∨ b.a = 2 then b.k else 0, if b.a = 0 then 0 else b.x, if b.a = 1 ∨ b.a = 2 then b.w else false,
   fun q => if (b.a = 1 ∧ q < b.k) ∨ (b.a = 2 ∧ q < n) then cw n (b.f q) else sw0,
   fun q => if b.a = 2 ∧ q < b.k then cw n (b.l q) else sw0,
   fun q => if b.a = 2 ∧ q < n then b.mv q else 0,
   fun r => if b.a = 3 ∧ r < n then b.sw r else 0⟩
def rawS (n : Nat) (v : SS) : SS := ⟨fun p => if p < n then raw n (v.h p) else sb0, fun q => if q < n then cw n (v.wd q) else sw0⟩
theorem sb_ext {s t : SB} (h1 : s.a = t.a) (h2 : s.k = t.k) (h3 : s.x = t.x) (h4 : s.w = t.w) (h5 : ∀ q, s.f q = t.f q) (h6 : ∀ q, s.l q = t.l q) (h7 : ∀ q, s.mv q = t.mv q) (h8 : ∀ q, s.sw q = t.sw q) : s = t := by
  cases s; cases t
  have h5 := funext h5
  have h6 := funext h6
  have h7 := funext h7
  have h8 := funext h8
  simp_all
theorem ss_ext {s t : SS} (h1 : ∀ p, s.h p = t.h p) (h2 : ∀ q, s.wd q = t.wd q) : s = t := by
  cases s; cases t
  have h1 := funext h1
  have h2 := funext h2
  simp_all
theorem rawS_h {n : Nat} {v : SS} {p : Nat} (hp : p < n) : (rawS n v).h p = raw n (v.h p) := if_pos hp
theorem rawS_wd {n : Nat} {v : SS} {p : Nat} (hp : p < n) : (rawS n v).wd p = cw n (v.wd p) := if_pos hp
theorem cut_in {n : Nat} {s : Nat → Nat} {r : Nat} (h : r < n) : cut n s r = s r := if_pos h
theorem lkS_cut (n : Nat) (s : Nat → Nat) : lkS n (cut n s) = lkS n s := by
  unfold lkS
  refine List.map_congr_left fun r hr => ?_
  rw [cut_in (List.mem_range.1 hr)]
theorem raw_zero {n : Nat} {b : SB} (h : b.a = 0) : raw n b = sb0 := by
  refine sb_ext h ?_ ?_ ?_ (fun q => ?_) (fun q => ?_) (fun q => ?_) (fun q => ?_)
  all_goals (unfold raw; dsimp only; simp [h]; try rfl)
theorem cw_zero (n : Nat) : cw n sw0 = sw0 := by
  unfold cw cut sw0
  simp
theorem rawS_new (n : Nat) : rawS n ssnew = ssnew := by
  refine ss_ext (fun p => ?_) fun q => ?_
  · show (if p < n then raw n (ssnew.h p) else sb0) = sb0
    split
    · exact raw_zero rfl
    · rfl
  · show (if q < n then cw n sw0 else sw0) = sw0
    rw [cw_zero]; split <;> rfl
/-- One hand of a board turns, and maybe its word. -/
theorem raw_put {n : Nat} {v : SS} {p : Nat} (hp : p < n) {b : SB} {f : Nat → SW} {x : SS} (h : x.h = nput (rawS n v).h p (raw n b)) (hw : ∀ q, x.wd q = (rawS n ⟨nput v.h p b, f⟩).wd q) : x = rawS n ⟨nput v.h p b, f⟩ := by
  refine ss_ext (fun q => ?_) hw
  rw [h]
  show _ = if q < n then raw n (nput v.h p b q) else sb0
  by_cases e : q = p
  · rw [e, nput_same, if_pos hp, nput_same]
  · rw [nput_other e, nput_other e]; rfl
theorem bg_raw {n : Nat} {v : SS} {p : Nat} (hp : p < n) (w : Bool) (x : Nat) (b : SB) (hb : b = ⟨1, 0, x, w, fun _ => sw0, fun _ => sw0, fun _ => 0, fun _ => 0⟩) : putH (rawS n v) p b = rawS n (sbeg v p w x) := by
  refine raw_put (b := sbeg1 (v.h p) w x) (f := v.wd) hp ?_ fun q => rfl
  rw [hb]
  have e : raw n (sbeg1 (v.h p) w x) = ⟨1, 0, x, w, fun _ => sw0, fun _ => sw0, fun _ => 0, fun _ => 0⟩ := by
    refine sb_ext rfl ?_ ?_ ?_ (fun q => ?_) (fun q => ?_) (fun q => ?_) (fun q => ?_)
    all_goals (unfold raw sbeg1; simp)
  rw [e]; rfl
theorem sfind_wide {P Q : Nat → Bool} {n : Nat} (h : ∀ q, q < n → P q = Q q) (hn : ∀ q, n ≤ q → P q = false) : ∀ {m : Nat}, n ≤ m → sfind P m = sfind Q n := by
  have h0 : ∀ k, k ≤ n → sfind P k = sfind Q k := by
    intro k
    induction k with
    | zero => intro _; rfl
    | succ k ih => intro hk; unfold sfind; rw [ih (by omega), h k (by omega)]
  intro m
  induction m with
  | zero => intro hm; obtain rfl : n = 0 := by omega
            rfl
  | succ m ih =>
    intro hm
    by_cases e : n = m + 1
    · rw [← e]; exact h0 n (Nat.le_refl _)
    · have h1 := ih (by omega)
      have e1 : sfind P (m + 1) = (match sfind P m with | some q => some q | none => if P m then some m else none) := rfl
      rw [e1, h1, hn m (by omega)]
      cases sfind Q n <;> rfl
section
variable {n : Nat} {v : SS} {p : Nat}
theorem rdF_f (hp : p < n) (h1 : (v.h p).a = 1) (hk : (v.h p).k < n) (q : Nat) : (rdF n (rawS n v) p).f q = if q ≤ (v.h p).k then cw n (nput (v.h p).f (v.h p).k (v.wd (v.h p).k) q) else sw0 := by
  have e : ((rawS n v).h p).k = (v.h p).k := by rw [rawS_h hp]; unfold raw; simp [h1]
  unfold rdF bK bF
  dsimp only
  rw [e, rawS_wd hk, rawS_h hp]
  by_cases e2 : q = (v.h p).k
  · rw [e2, nput_same, if_pos (Nat.le_refl _), nput_same]
  · rw [nput_other e2]
    unfold raw
    dsimp only
    rw [nput_other e2]
    by_cases e3 : q < (v.h p).k
    · rw [if_pos (Or.inl ⟨h1, e3⟩), if_pos (by omega)]
    · rw [if_neg (by omega), if_neg (by omega)]
theorem rdL_l (hp : p < n) (h2 : (v.h p).a = 2) (hk : (v.h p).k < n) (q : Nat) : (rdL n (rawS n v) p).l q = if q ≤ (v.h p).k then cw n (slast v p q) else sw0 := by
  have e : ((rawS n v).h p).k = (v.h p).k := by rw [rawS_h hp]; unfold raw; simp [h2]
  unfold rdL bK bL slast
  dsimp only
  rw [e, rawS_wd hk, rawS_h hp]
  by_cases e2 : q = (v.h p).k
  · rw [e2, nput_same, if_pos (Nat.le_refl _), nput_same]
  · rw [nput_other e2]
    unfold raw
    dsimp only
    rw [nput_other e2]
    by_cases e3 : q < (v.h p).k
    · rw [if_pos ⟨h2, e3⟩, if_pos (by omega)]
    · rw [if_neg (by omega), if_neg (by omega)]
theorem rdL_f (hp : p < n) (h2 : (v.h p).a = 2) (q : Nat) : (rdL n (rawS n v) p).f q = if q < n then cw n ((v.h p).f q) else sw0 := by
  unfold rdL bK bL
  dsimp only
  rw [rawS_h hp]
  unfold raw
  dsimp only
  by_cases e : q < n
  · rw [if_pos (Or.inr ⟨h2, e⟩), if_pos e]
  · rw [if_neg (by omega), if_neg e]
theorem rdL_mv (hp : p < n) (h2 : (v.h p).a = 2) (q : Nat) : (rdL n (rawS n v) p).mv q = if q < n then (v.h p).mv q else 0 := by
  unfold rdL bK bL
  dsimp only
  rw [rawS_h hp]
  unfold raw
  dsimp only
  by_cases e : q < n
  · rw [if_pos ⟨h2, e⟩, if_pos e]
  · rw [if_neg (by omega), if_neg e]
/-- What is seen of all that has been read. -/
theorem see_raw (hp : p < n) (h4 : n ≤ 4) (h2 : (v.h p).a = 2) (hk : (v.h p).k + 1 = n) :
    (∀ q, smvd (rdL n (rawS n v) p) (rdL n (rawS n v) p).l q = if q < n then smvd (v.h p) (slast v p) q else 0) ∧
    ssee 4 (rdL n (rawS n v) p) (rdL n (rawS n v) p).l = (ssee n (v.h p) (slast v p)).map (cut n) := by
  have hf := rdL_f (v := v) hp h2
  have hl := rdL_l (v := v) hp h2 (by omega)
  have hm := rdL_mv (v := v) hp h2
  generalize rdL n (rawS n v) p = B at *
  have hs : ∀ q, smvd B B.l q = if q < n then smvd (v.h p) (slast v p) q else 0 := fun q => by
    unfold smvd
    rw [hf q, hl q, hm q]
    by_cases e : q < n
    · rw [if_pos e, if_pos (show q ≤ (v.h p).k by omega), if_pos e, if_pos e]; rfl
    · rw [if_neg e, if_neg (show ¬ q ≤ (v.h p).k by omega), if_neg e, if_neg e]; rfl
  have ht : ∀ q, q < n → ((B.f q).t = (B.l q).t ↔ ((v.h p).f q).t = (slast v p q).t) := fun q hq => by
    rw [hf q, hl q, if_pos hq, if_pos (show q ≤ (v.h p).k by omega)]; exact Iff.rfl
  have ht2 : ∀ q, n ≤ q → (B.f q).t = (B.l q).t := fun q hq => by
    rw [hf q, hl q, if_neg (by omega), if_neg (by omega)]
  refine ⟨hs, ?_⟩
  have e1 : sfind (fun q => decide (smvd B B.l q = 2)) 4 = sfind (fun q => decide (smvd (v.h p) (slast v p) q = 2)) n := sfind_wide (fun q hq => by rw [hs q, if_pos hq]) (fun q hq => by rw [hs q, if_neg (by omega)]; rfl) h4
  have e2 : sfind (fun q => decide ((B.f q).t ≠ (B.l q).t)) 4 = sfind (fun q => decide (((v.h p).f q).t ≠ (slast v p q).t)) n := sfind_wide (fun q hq => decide_eq_decide.2 (not_congr (ht q hq))) (fun q hq => decide_eq_false fun h => h (ht2 q hq)) h4
  unfold ssee
  rw [e1, e2]
  cases c1 : sfind (fun q => decide (smvd (v.h p) (slast v p) q = 2)) n with
  | some q =>
    have hq := (sfind_some c1).1
    show some (B.l q).s = some (cut n (slast v p q).s)
    rw [hl q, if_pos (show q ≤ (v.h p).k by omega)]; rfl
  | none =>
    cases c2 : sfind (fun q => decide (((v.h p).f q).t ≠ (slast v p q).t)) n with
    | some q => rfl
    | none =>
      show some (fun q => (B.l q).v) = some (cut n fun q => (slast v p q).v)
      congr 1
      funext q
      rw [hl q]
      unfold cut
      by_cases e : q < n
      · rw [if_pos (show q ≤ (v.h p).k by omega), if_pos e]; rfl
      · rw [if_neg (show ¬ q ≤ (v.h p).k by omega), if_neg e]; rfl
theorem cmp_raw (hp : p < n) (h4 : n ≤ 4) (h2 : (v.h p).a = 2) (hk : (v.h p).k + 1 = n) : cmp (rdL n (rawS n v) p) = raw n (sone n v p) := by
  obtain ⟨hs, hse⟩ := see_raw hp h4 h2 hk
  have hl := rdL_l (v := v) hp h2 (by omega)
  have hm := rdL_mv (v := v) hp h2
  have hw : (rdL n (rawS n v) p).w = (v.h p).w := by unfold rdL bK bL; dsimp only; rw [rawS_h hp]; unfold raw; simp [h2]
  have hx : (rdL n (rawS n v) p).x = (v.h p).x := by unfold rdL bK bL; dsimp only; rw [rawS_h hp]; unfold raw; simp [h2]
  have ha : (rdL n (rawS n v) p).a = 2 := by unfold rdL bK bL; dsimp only; rw [rawS_h hp]; exact h2
  have hkk : (rdL n (rawS n v) p).k = 0 := by
    unfold rdL bK bL
    dsimp only
    rw [rawS_h hp]
    unfold raw nx
    dsimp only
    rw [if_pos (Or.inr h2), if_pos hk]
  have hsw : ∀ q, (rdL n (rawS n v) p).sw q = 0 := fun q => by unfold rdL bK bL; dsimp only; rw [rawS_h hp]; unfold raw; simp [h2]
  have eo : sone n v p = (match ssee n (v.h p) (slast v p) with
       | some s => if (v.h p).w then ⟨3, 0, (v.h p).x, (v.h p).w, (v.h p).f, slast v p, (v.h p).mv, s⟩ else ⟨0, 0, (v.h p).x, (v.h p).w, (v.h p).f, slast v p, (v.h p).mv, (v.h p).sw⟩
       | none => ⟨2, 0, (v.h p).x, (v.h p).w, slast v p, slast v p, smvd (v.h p) (slast v p), (v.h p).sw⟩) := by
    unfold sone
    rw [if_neg (by omega), if_pos h2, if_pos hk]
    cases ssee n (v.h p) (slast v p) <;> rfl
  rw [eo]
  generalize rdL n (rawS n v) p = B at *
  unfold cmp
  have hseen : sees B = (ssee n (v.h p) (slast v p)).isSome := by unfold sees; rw [hse]; cases ssee n (v.h p) (slast v p) <;> rfl
  cases e : ssee n (v.h p) (slast v p) with
  | some s =>
    rw [e] at hseen hse
    have hsn : seen B = cut n s := by unfold seen; rw [hse]; rfl
    rw [show sees B = true from hseen, if_pos rfl, hw]
    cases ew : (v.h p).w with
    | true =>
      rw [if_pos rfl, hsn, hx]
      show _ = raw n ⟨3, 0, (v.h p).x, true, (v.h p).f, slast v p, (v.h p).mv, s⟩
      refine sb_ext rfl rfl rfl rfl (fun q => ?_) (fun q => ?_) (fun q => ?_) (fun q => ?_)
      all_goals (unfold raw cut; simp)
    | false =>
      rw [if_neg (by decide)]
      exact (raw_zero rfl).symm
  | none =>
    rw [e] at hseen
    rw [show sees B = false from hseen, if_neg (by decide)]
    show _ = raw n ⟨2, 0, (v.h p).x, (v.h p).w, slast v p, slast v p, smvd (v.h p) (slast v p), (v.h p).sw⟩
    refine sb_ext ha hkk ?_ ?_ (fun q => ?_) (fun q => ?_) (fun q => ?_) (fun q => ?_)
    · rw [hx]; unfold raw; simp
    · rw [hw]; unfold raw; simp
    · show B.l q = _
      rw [hl q]
      unfold raw
      dsimp only
      by_cases e : q < n
      · rw [if_pos (show q ≤ (v.h p).k by omega), if_pos (Or.inr ⟨rfl, e⟩)]
      · rw [if_neg (show ¬ q ≤ (v.h p).k by omega), if_neg (by simp; omega)]
    · unfold raw; simp
    · show (if q < 4 then smvd B B.l q else B.mv q) = _
      rw [hs q, hm q]
      unfold raw
      dsimp only
      by_cases e : q < n
      · rw [if_pos e, if_pos (show q < 4 by omega), if_pos ⟨rfl, e⟩]
      · rw [if_neg e, if_neg e, if_neg (show ¬ ((2 : Nat) = 2 ∧ q < n) by omega)]; split <;> rfl
    · rw [hsw q]; unfold raw; simp
theorem pst_raw (hp : p < n) (h4 : n ≤ 4) (k : SMk n (v.h p)) (h0 : (v.h p).a ≠ 0) : pst n (rawS n v) p = rawS n (sstep n v p) := by
  have hln := k.ln
  have ha : ((rawS n v).h p).a = (v.h p).a := by rw [rawS_h hp]; rfl
  unfold pst
  rw [ha]
  by_cases h1 : (v.h p).a = 1
  · have hk := k.kn (.inl h1)
    have hz := k.z h1
    have ek : ((rawS n v).h p).k = (v.h p).k := by rw [rawS_h hp]; unfold raw; simp [h1]
    have hF := rdF_f (v := v) hp h1 hk
    have hrest : (rdF n (rawS n v) p).a = 1 ∧ (rdF n (rawS n v) p).k = nx n (v.h p).k ∧ (rdF n (rawS n v) p).x = (v.h p).x ∧ (rdF n (rawS n v) p).w = (v.h p).w ∧ (∀ q, (rdF n (rawS n v) p).l q = sw0) ∧ (∀ q, (rdF n (rawS n v) p).mv q = 0) ∧ ∀ q, (rdF n (rawS n v) p).sw q = 0 := by
      unfold rdF bK bF
      dsimp only
      rw [ek, rawS_h hp]
      unfold raw
      simp [h1]
    obtain ⟨r1, r2, r3, r4, r5, r6, r7⟩ := hrest
    rw [if_pos h1, ek]
    have ew : swd v p = v.wd := if_neg (by omega)
    unfold sstep
    rw [ew]
    unfold sone
    rw [if_pos h1]
    by_cases hkn : (v.h p).k + 1 = n
    · rw [if_pos hkn, if_pos hkn]
      refine raw_put hp ?_ fun q => rfl
      show nput _ p _ = nput _ p _
      congr 1
      refine sb_ext rfl ?_ ?_ ?_ (fun q => ?_) (fun q => ?_) (fun q => ?_) (fun q => ?_)
      · show (rdF n (rawS n v) p).k = _
        rw [r2]; unfold nx raw; simp [hkn]
      · exact r3.trans (by unfold raw; simp)
      · exact r4.trans (by unfold raw; simp)
      · refine (hF q).trans ?_
        unfold raw
        dsimp only
        by_cases e : q < n
        · rw [if_pos (by omega), if_pos (Or.inr ⟨rfl, e⟩)]
        · rw [if_neg (by omega), if_neg (by omega)]
      · exact (r5 q).trans (by unfold raw; simp)
      · refine (r6 q).trans ?_
        unfold raw
        dsimp only
        rw [hz q]; simp
      · exact (r7 q).trans (by unfold raw; simp)
    · rw [if_neg hkn, if_neg hkn]
      refine raw_put hp ?_ fun q => rfl
      show nput _ p _ = nput _ p _
      congr 1
      refine sb_ext r1 ?_ ?_ ?_ (fun q => ?_) (fun q => ?_) (fun q => ?_) (fun q => ?_)
      · rw [r2]; unfold nx raw; simp [hkn]
      · exact r3.trans (by unfold raw; simp)
      · exact r4.trans (by unfold raw; simp)
      · refine (hF q).trans ?_
        unfold raw
        dsimp only
        by_cases e : q ≤ (v.h p).k
        · rw [if_pos e, if_pos (Or.inl ⟨rfl, by omega⟩)]
        · rw [if_neg e, if_neg (by omega)]
      · exact (r5 q).trans (by unfold raw; simp)
      · exact (r6 q).trans (by unfold raw; simp)
      · exact (r7 q).trans (by unfold raw; simp)
  · by_cases h2 : (v.h p).a = 2
    · have hk := k.kn (.inr h2)
      have ek : ((rawS n v).h p).k = (v.h p).k := by rw [rawS_h hp]; unfold raw; simp [h2]
      rw [if_neg h1, if_pos h2, ek]
      have ew : swd v p = v.wd := if_neg (by omega)
      unfold sstep
      rw [ew]
      refine raw_put hp ?_ fun q => rfl
      by_cases hkn : (v.h p).k + 1 = n
      · rw [if_pos hkn, cmp_raw hp h4 h2 hkn]; rfl
      · rw [if_neg hkn]
        show nput _ p _ = nput _ p _
        congr 1
        have hl := rdL_l (v := v) hp h2 hk
        have hf := rdL_f (v := v) hp h2
        have hm := rdL_mv (v := v) hp h2
        have hrest : (rdL n (rawS n v) p).a = 2 ∧ (rdL n (rawS n v) p).k = nx n (v.h p).k ∧ (rdL n (rawS n v) p).x = (v.h p).x ∧ (rdL n (rawS n v) p).w = (v.h p).w ∧ ∀ q, (rdL n (rawS n v) p).sw q = 0 := by
          unfold rdL bK bL
          dsimp only
          rw [ek, rawS_h hp]
          unfold raw
          simp [h2]
        obtain ⟨r1, r2, r3, r4, r7⟩ := hrest
        unfold sone
        rw [if_neg h1, if_pos h2, if_neg hkn]
        refine sb_ext r1 ?_ ?_ ?_ (fun q => ?_) (fun q => ?_) (fun q => ?_) (fun q => ?_)
        · rw [r2]; unfold nx raw; simp [hkn]
        · exact r3.trans (by unfold raw; simp)
        · exact r4.trans (by unfold raw; simp)
        · refine (hf q).trans ?_
          unfold raw
          dsimp only
          by_cases e : q < n
          · rw [if_pos e, if_pos (Or.inr ⟨rfl, e⟩)]
          · rw [if_neg e, if_neg (by omega)]
        · refine (hl q).trans ?_
          unfold raw
          dsimp only
          by_cases e : q ≤ (v.h p).k
          · rw [if_pos e, if_pos ⟨rfl, by omega⟩]
          · rw [if_neg e, if_neg (by omega)]
        · refine (hm q).trans ?_
          unfold raw
          dsimp only
          by_cases e : q < n
          · rw [if_pos e, if_pos ⟨rfl, e⟩]
          · rw [if_neg e, if_neg (by omega)]
        · exact (r7 q).trans (by unfold raw; simp)
    · have h3 : (v.h p).a = 3 := by omega
      rw [if_neg h1, if_neg h2]
      refine raw_put (b := sone n v p) (f := swd v p) hp ?_ fun q => ?_
      · have e : (sone n v p).a = 0 := by unfold sone; rw [if_neg h1, if_neg h2]
        rw [raw_zero e]; rfl
      · show nput (rawS n v).wd p _ q = if q < n then cw n (swd v p q) else sw0
        unfold swd
        rw [if_pos h3]
        by_cases e : q = p
        · rw [e, nput_same, nput_same, if_pos hp, rawS_h hp, rawS_wd hp]
          unfold raw cw cut
          simp [h3]
        · rw [nput_other e, nput_other e]; rfl
end
end Go.Proofs.YtnplhjbbkccdnaaDoor.Snap
