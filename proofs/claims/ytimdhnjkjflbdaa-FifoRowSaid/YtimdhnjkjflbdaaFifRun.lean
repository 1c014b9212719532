import Derived.Test.YtimdhnjkjflbdaaFifGoes
import Derived.Test.YtimdhnjkjflbdaaLinHist
import Derived.Test.YtimdhnjkjflbdaaFifoLkN
/-
  Chapter 16 beside chapter 19, as plain mathematics: the history that is written down has a row.
-/
namespace Go.Proofs.Ytimdhnjkjflbdaa.Fif

/-- What is in, the first first. -/
def fin_ (g : FG) (vl : Nat → Int) : List Int := (List.range (g.m - g.i)).map fun y => vl (g.o (g.i + 1 + y))
structure SQ (n : Nat) (g : FG) (vl : Nat → Int) (H : List LO) (mine : Nat → Nat) (T : Nat) (r : LRn) : Prop where
  ok : FOk n g
  lag : FLag g
  lr : LROk 2 r
  hs : LHs n r H mine (fun q => decide ((g.v.h q).a ≠ 0)) T
  st : r.st = fin_ g vl
  put : ∀ q, q < n → 1 ≤ (g.v.h q).a ∧ (g.v.h q).a ≤ 5 → r.h.kd (mine q) = 0 ∧ r.h.ar (mine q) = vl (g.v.h q).e
  get : ∀ q, q < n → 6 ≤ (g.v.h q).a → r.h.kd (mine q) = 1
  notL : ∀ q, q < n → (g.v.h q).a ≠ 0 → (g.v.h q).a ≠ 5 → mine q ∉ r.L
  inL : ∀ q, q < n → (g.v.h q).a = 5 → mine q ∈ r.L ∧ r.h.gt (mine q) = -1
section
variable {n p i T : Nat} {g : FG} {vl : Nat → Int} {H : List LO} {mine : Nat → Nat} {r : LRn}
theorem fone_e {v : FS} : (fone v p).e = (v.h p).e := by unfold fone fto; (repeat' split) <;> rfl
/-- Lines 1 to 5 are those of a put; line 5 comes behind the link. -/
theorem fone_class (h0 : (g.v.h p).a ≠ 0) (h10 : (g.v.h p).a ≤ 10) :
    (sfin g.v p = true → (fone g.v p).a = 0) ∧ (sfin g.v p = false → (fone g.v p).a ≠ 0 ∧ ((fone g.v p).a ≤ 5 ↔ (g.v.h p).a ≤ 5) ∧ ((fone g.v p).a = 5 ↔ fL g p)) := by
  unfold sfin fone fto fL
  have hc : (g.v.h p).a = 1 ∨ (g.v.h p).a = 2 ∨ (g.v.h p).a = 3 ∨ (g.v.h p).a = 4 ∨ (g.v.h p).a = 5 ∨ (g.v.h p).a = 6 ∨ (g.v.h p).a = 7 ∨ (g.v.h p).a = 8 ∨ (g.v.h p).a = 9 ∨ (g.v.h p).a = 10 := by omega
  rcases hc with e | e | e | e | e | e | e | e | e | e
  · simp [e]
  · simp only [e]
    by_cases c : g.v.nx (g.v.h p).t = 0 <;> simp [c]
  · simp only [e]
    by_cases c : g.v.nx (g.v.h p).t = 0 <;> simp [c]
  · simp [e]
  · simp [e]
  · simp [e]
  · simp [e]
  · simp only [e]
    by_cases c : (g.v.h p).h = (g.v.h p).t
    · by_cases c2 : g.v.nx (g.v.h p).h = 0
      · rw [← c]; simp [c2]
      · rw [← c]; simp [c2]
    · simp [c]
  · simp [e]
  · simp only [e]
    by_cases c : g.v.hd = (g.v.h p).h <;> simp [c]
/-- What a step makes of what is in. -/
theorem fin_link (k : FOk n g) (hL : fL g p) : fin_ (fgstp g p) vl = fin_ g vl ++ [vl (g.v.h p).e] := by
  have hij := k.ij
  have hjm := k.jm
  have e1 : (fgstp g p).m = g.m + 1 := if_pos hL
  have e2 : (fgstp g p).i = g.i := if_neg fun c => by have := hL.1; have := c.1; omega
  have e3 : (fgstp g p).o = fput g.o (g.m + 1) (g.v.h p).e := if_pos hL
  unfold fin_
  rw [e1, e2, e3, show g.m + 1 - g.i = (g.m - g.i) + 1 by omega, List.range_succ, List.map_append, List.map_cons, List.map_nil, show g.i + 1 + (g.m - g.i) = g.m + 1 by omega, fput_same]
  congr 1
  exact List.map_congr_left fun y hy => by rw [fput_other (by have := List.mem_range.1 hy; omega)]
theorem fin_take (k : FOk n g) (hp : p < n) (hH : fH g p) : fin_ g vl = vl (g.o (g.i + 1)) :: fin_ (fgstp g p) vl := by
  obtain ⟨h1, _⟩ := k.got hp hH.1 hH.2
  have hn : ¬ ((g.v.h p).a = 3 ∧ g.v.nx (g.v.h p).t = 0) := fun c => by have := hH.1; have := c.1; omega
  have e1 : (fgstp g p).m = g.m := if_neg hn
  have e2 : (fgstp g p).i = g.i + 1 := if_pos hH
  have e3 : (fgstp g p).o = g.o := if_neg hn
  unfold fin_
  rw [e1, e2, e3, show g.m - g.i = (g.m - (g.i + 1)) + 1 by omega, List.range_succ_eq_map, List.map_cons, List.map_map]
  congr 1
  exact List.map_congr_left fun y _ => by
    show vl (g.o (g.i + 1 + (y + 1))) = vl (g.o (g.i + 1 + 1 + y))
    rw [show g.i + 1 + (y + 1) = g.i + 1 + 1 + y by omega]
theorem fin_same (hL : ¬ fL g p) (hH : ¬ fH g p) : fin_ (fgstp g p) vl = fin_ g vl := by
  have e1 : (fgstp g p).m = g.m := if_neg hL
  have e2 : (fgstp g p).i = g.i := if_neg hH
  have e3 : (fgstp g p).o = g.o := if_neg hL
  unfold fin_
  rw [e1, e2, e3]
theorem SQ.later (h : SQ n g vl H mine T r) {U : Nat} (hU : T ≤ U) : SQ n g vl H mine U r := ⟨h.ok, h.lag, h.lr, h.hs.later hU, h.st, h.put, h.get, h.notL, h.inL⟩
theorem SQ.mine_ne (h : SQ n g vl H mine T r) {q : Nat} (hp : p < n) (hq : q < n) (hqp : q ≠ p) (hp0 : (g.v.h p).a ≠ 0) (hq0 : (g.v.h q).a ≠ 0) : mine q ≠ mine p := fun e => by
  have h1 := (h.hs.own q hq (by simpa using hq0)).2.1
  have h2 := (h.hs.own p hp (by simpa using hp0)).2.1
  rw [e, h2] at h1
  omega
/-- A step at which the hand is not done. -/
theorem SQ.not (h : SQ n g vl H mine T r) (hp : p < n) (h0 : (g.v.h p).a ≠ 0) (hf : sfin g.v p = false) : ∃ r', SQ n (fgstp g p) vl H mine (T + 1) r' := by
  have h10 := (h.ok.hk p hp).ln
  obtain ⟨c1, c2, c3⟩ := (fone_class h0 h10).2 hf
  obtain ⟨o1, o2, o3⟩ := h.hs.own p hp (by simpa using h0)
  have hb : (fun q => decide ((g.v.h q).a ≠ 0)) = fun q => decide (((fgstp g p).v.h q).a ≠ 0) := by
    funext q
    by_cases e : q = p
    · subst e; rw [fh_same]; exact decide_eq_decide.2 ⟨fun _ => c1, fun _ => h0⟩
    · rw [fh_other e]
  have hH : ¬ fH g p := fun c => by
    unfold sfin at hf
    rw [if_neg (by rw [c.1]; decide), if_neg (by rw [c.1]; decide), if_pos c.1, decide_eq_false_iff_not] at hf
    exact hf c.2
  have hmine : ∀ q, q < n → q ≠ p → ((fgstp g p).v.h q).a ≠ 0 → mine q ≠ mine p := fun q hq e hl => by
    rw [fh_other e] at hl
    exact h.mine_ne hp hq e h0 hl
  by_cases hL : fL g p
  · have hL3 := hL.1
    have hno := h.notL p hp h0 (by omega)
    obtain ⟨k1, k2⟩ := h.put p hp (by omega)
    have hg : lgets 2 (r.h.kd (mine p)) (r.h.ar (mine p)) r.st = (fin_ (fgstp g p) vl, -1) := by
      rw [k1, k2, h.st, fin_link h.ok hL]
      unfold lgets
      rw [if_neg (by decide), if_pos rfl]
    refine ⟨lrlin 2 r (mine p), h.ok.step hp h0, h.ok.lag h.lag hp, h.lr.lin o1 hno, ?_, ?_, fun q hq hl => ?_, fun q hq hl => ?_, fun q hq hl h5 => ?_, fun q hq hl => ?_⟩
    · rw [← hb]; exact (h.hs.lin o3).later (Nat.le_succ T)
    · show (lgets 2 (r.h.kd (mine p)) (r.h.ar (mine p)) r.st).1 = _
      rw [hg]
    · show r.h.kd (mine q) = 0 ∧ r.h.ar (mine q) = _
      by_cases e : q = p
      · subst e; rw [fh_same, fone_e]; exact ⟨k1, k2⟩
      · rw [fh_other e] at hl ⊢; exact h.put q hq hl
    · show r.h.kd (mine q) = 1
      by_cases e : q = p
      · subst e; rw [fh_same] at hl; omega
      · rw [fh_other e] at hl; exact h.get q hq hl
    · by_cases e : q = p
      · subst e; rw [fh_same] at h5; exact absurd (c3.2 hL) h5
      · have hne := hmine q hq e hl
        rw [fh_other e] at hl h5
        intro hm
        rcases List.mem_append.1 hm with h2 | h2
        · exact h.notL q hq hl h5 h2
        · exact hne (by simpa using h2)
    · show mine q ∈ r.L ++ [mine p] ∧ eup r.h.gt (mine p) _ (mine q) = -1
      by_cases e : q = p
      · subst e; rw [eup_same, hg]; exact ⟨by simp, rfl⟩
      · have hne := hmine q hq e (by omega)
        rw [fh_other e] at hl
        rw [eup_other hne]
        have := h.inL q hq hl
        exact ⟨List.mem_append_left _ this.1, this.2⟩
  · have h5' : (fone g.v p).a ≠ 5 := fun c => hL (c3.1 c)
    have h5 : (g.v.h p).a ≠ 5 := fun c => by
      unfold sfin at hf; rw [if_pos c] at hf; cases hf
    refine ⟨r, h.ok.step hp h0, h.ok.lag h.lag hp, h.lr, ?_, ?_, fun q hq hl => ?_, fun q hq hl => ?_, fun q hq hl hl5 => ?_, fun q hq hl => ?_⟩
    · rw [← hb]; exact h.hs.later (Nat.le_succ T)
    · rw [fin_same hL hH]; exact h.st
    · by_cases e : q = p
      · subst e; rw [fh_same] at hl ⊢; rw [fone_e]; exact h.put q hq (by omega)
      · rw [fh_other e] at hl ⊢; exact h.put q hq hl
    · by_cases e : q = p
      · subst e; rw [fh_same] at hl; exact h.get q hq (by omega)
      · rw [fh_other e] at hl; exact h.get q hq hl
    · by_cases e : q = p
      · subst e; exact h.notL q hq h0 h5
      · rw [fh_other e] at hl hl5; exact h.notL q hq hl hl5
    · by_cases e : q = p
      · subst e; rw [fh_same] at hl; exact absurd hl h5'
      · rw [fh_other e] at hl; exact h.inL q hq hl
/-- A step at which the hand is done. -/
theorem SQ.fin (h : SQ n g vl H mine T r) (hp : p < n) (h0 : (g.v.h p).a ≠ 0) (hf : sfin g.v p = true) :
    mine p < H.length ∧ ∃ r', SQ n (fgstp g p) vl (H.set (mine p) { lat H (mine p) with gt := stold g.v vl p, «to» := 2 * T + 1 }) mine (T + 1) r' := by
  have h10 := (h.ok.hk p hp).ln
  have c0 := (fone_class h0 h10).1 hf
  obtain ⟨o1, o2, o3⟩ := h.hs.own p hp (by simpa using h0)
  have hb : eup (fun q => decide ((g.v.h q).a ≠ 0)) p false = fun q => decide (((fgstp g p).v.h q).a ≠ 0) := by
    funext q
    by_cases e : q = p
    · subst e; rw [eup_same, fh_same, c0]; rfl
    · rw [eup_other e, fh_other e]
  have hz : ∀ {q}, ((fgstp g p).v.h q).a ≠ 0 → q ≠ p ∧ (g.v.h q).a ≠ 0 ∧ (fgstp g p).v.h q = g.v.h q := fun {q} hl => by
    by_cases e : q = p
    · subst e; rw [fh_same] at hl; exact absurd c0 hl
    · rw [fh_other e] at hl ⊢; exact ⟨e, hl, rfl⟩
  have htold : stold g.v vl p = if (g.v.h p).a = 10 then vl ((g.v.h p).x - 1) else -1 := by unfold stold; rw [if_pos hf]
  have hfr : ∀ a, a < r.m → r.h.fr a < 2 * (T : Int) + 1 := fun a ha => by have h1 := (h.hs.fr a ha).2.2; omega
  refine ⟨by rw [h.hs.len]; exact o1, ?_⟩
  by_cases c5 : (g.v.h p).a = 5
  · obtain ⟨i1, i2⟩ := h.inL p hp c5
    have hdone := h.hs.done hp (by simpa using h0)
    rw [hb, i2] at hdone
    have hL : ¬ fL g p := fun c => by have := c.1; omega
    have hH : ¬ fH g p := fun c => by have := c.1; omega
    rw [htold, if_neg (by omega)]
    refine ⟨lrdone r (mine p) (2 * T + 1), h.ok.step hp h0, h.ok.lag h.lag hp, h.lr.done i1 o3 hfr, hdone, ?_, fun q hq hl => ?_, fun q hq hl => ?_, fun q hq hl h5 => ?_, fun q hq hl => ?_⟩
    · rw [fin_same hL hH]; exact h.st
    · have h1 := hz (q := q) (by omega)
      rw [h1.2.2] at hl ⊢; exact h.put q hq hl
    · have h1 := hz (q := q) (by omega)
      rw [h1.2.2] at hl; exact h.get q hq hl
    · have h1 := hz hl
      rw [h1.2.2] at hl h5; exact h.notL q hq hl h5
    · have h1 := hz (q := q) (by omega)
      rw [h1.2.2] at hl; exact h.inL q hq hl
  · have hL : ¬ fL g p := fun c => by
      unfold sfin at hf
      have := c.1
      rw [if_neg c5, if_neg (by omega), if_neg (by omega)] at hf
      cases hf
    have h8 : (g.v.h p).a = 8 ∨ (g.v.h p).a = 10 := by
      unfold sfin at hf
      rw [if_neg c5] at hf
      by_cases e8 : (g.v.h p).a = 8
      · exact Or.inl e8
      · rw [if_neg e8] at hf
        by_cases e10 : (g.v.h p).a = 10
        · exact Or.inr e10
        · rw [if_neg e10] at hf; cases hf
    have k1 := h.get p hp (by omega)
    have hno := h.notL p hp h0 c5
    have hg : lgets 2 (r.h.kd (mine p)) (r.h.ar (mine p)) r.st = (fin_ (fgstp g p) vl, stold g.v vl p) := by
      rw [htold, k1, h.st]
      rcases h8 with e8 | e10
      · have hH : ¬ fH g p := fun c => by have := c.1; omega
        have he : (g.v.h p).h = (g.v.h p).t ∧ g.v.nx (g.v.h p).h = 0 := by
          unfold sfin at hf
          rw [if_neg c5, if_pos e8, decide_eq_true_iff] at hf
          exact hf
        have hem := h.ok.empty hp e8 he.2
        have hnil : fin_ g vl = [] := by unfold fin_; rw [hem, Nat.sub_self]; rfl
        rw [fin_same hL hH, hnil, if_neg (by omega)]
        unfold lgets
        simp
      · have hH : fH g p := ⟨e10, by
          unfold sfin at hf
          rw [if_neg c5, if_neg (by omega), if_pos e10, decide_eq_true_iff] at hf
          exact hf⟩
        obtain ⟨_, hx⟩ := h.ok.got hp e10 hH.2
        rw [fin_take h.ok hp hH, if_pos e10, hx]
        unfold lgets
        simp
    have hlin := h.hs.lin (ob := 2) (i := mine p) o3
    have hdone := hlin.done hp (by simpa using h0)
    have hgt : (lrlin 2 r (mine p)).h.gt (mine p) = stold g.v vl p := by
      show eup r.h.gt (mine p) _ (mine p) = _
      rw [eup_same, hg]
    rw [hgt, hb] at hdone
    refine ⟨lrdone (lrlin 2 r (mine p)) (mine p) (2 * T + 1), h.ok.step hp h0, h.ok.lag h.lag hp, (h.lr.lin o1 hno).done (List.mem_append_right _ (by simp)) o3 hfr, hdone, ?_, fun q hq hl => ?_, fun q hq hl => ?_, fun q hq hl h5 => ?_, fun q hq hl => ?_⟩
    · show (lgets 2 (r.h.kd (mine p)) (r.h.ar (mine p)) r.st).1 = _
      rw [hg]
    · have h1 := hz (q := q) (by omega)
      rw [h1.2.2] at hl ⊢; exact h.put q hq hl
    · have h1 := hz (q := q) (by omega)
      rw [h1.2.2] at hl; exact h.get q hq hl
    · have h1 := hz hl
      have hne := h.mine_ne hp hq h1.1 h0 h1.2.1
      rw [h1.2.2] at hl h5
      intro hm
      rcases List.mem_append.1 hm with h2 | h2
      · exact h.notL q hq hl h5 h2
      · exact hne (by simpa using h2)
    · have h1 := hz (q := q) (by omega)
      have hne := h.mine_ne hp hq h1.1 h0 h1.2.1
      rw [h1.2.2] at hl
      have := h.inL q hq hl
      refine ⟨List.mem_append_left _ this.1, ?_⟩
      show eup r.h.gt (mine p) _ (mine q) = -1
      rw [eup_other hne]; exact this.2
/-- A hand begins to put. -/
theorem SQ.putB (h : SQ n g vl H mine T r) (hp : p < n) (h0 : (g.v.h p).a = 0) (h8 : H.length < 8) {x : Int} (hx : 0 ≤ x ∧ x ≤ 1000) :
    SQ n (fgput g p) (rput vl g.v.k x) (H ++ [⟨p, 0, x, 0, 2 * T, 0⟩]) (eup mine p H.length) (T + 1) (lrbegin r 0 x (2 * T)) := by
  have hbe := h.hs.begin (q := p) (k := 0) (a := x) hp (by simp [h0]) (by rw [← h.hs.len]; exact h8) (by omega) hx
  have hsame : (fgput g p).v.h p = ⟨1, g.v.k, (g.v.h p).t, (g.v.h p).h, (g.v.h p).x⟩ := fput_same _ _ _
  have hoth : ∀ {q}, q ≠ p → (fgput g p).v.h q = g.v.h q := fun e => fput_other e
  have hb : eup (fun q => decide ((g.v.h q).a ≠ 0)) p true = fun q => decide (((fgput g p).v.h q).a ≠ 0) := by
    funext q
    by_cases e : q = p
    · subst e; rw [eup_same, hsame]; rfl
    · rw [eup_other e, hoth e]
  rw [hb, ← h.hs.len] at hbe
  have hm : ∀ q, q < n → (g.v.h q).a ≠ 0 → mine q < r.m := fun q hq hl => (h.hs.own q hq (by simpa using hl)).1
  refine ⟨h.ok.beginPut, h.lag, h.lr.begin _ _ _, hbe, ?_, fun q hq hl => ?_, fun q hq hl => ?_, fun q hq hl h5 => ?_, fun q hq hl => ?_⟩
  · show r.st = (List.range (g.m - g.i)).map fun y => rput vl g.v.k x (g.o (g.i + 1 + y))
    rw [h.st]
    unfold fin_
    exact List.map_congr_left fun y hy => by
      have h1 := h.ok.ok (g.i + 1 + y) (by have := List.mem_range.1 hy; omega)
      rw [rput_other (by omega)]
  · show eup r.h.kd r.m 0 (eup mine p H.length q) = 0 ∧ eup r.h.ar r.m x (eup mine p H.length q) = rput vl g.v.k x _
    by_cases e : q = p
    · subst e; rw [eup_same, hsame, h.hs.len, eup_same, eup_same, rput_same]; exact ⟨rfl, rfl⟩
    · rw [hoth e] at hl ⊢
      have hmq := hm q hq (by omega)
      have he := (h.ok.ek q hq hl).1
      rw [eup_other (f := mine) e, eup_other (f := r.h.kd) (by omega), eup_other (f := r.h.ar) (by omega), rput_other (by omega)]
      exact h.put q hq hl
  · show eup r.h.kd r.m 0 (eup mine p H.length q) = 1
    by_cases e : q = p
    · subst e; rw [hsame] at hl; have : 6 ≤ 1 := hl; omega
    · rw [hoth e] at hl
      have hmq := hm q hq (by omega)
      rw [eup_other (f := mine) e, eup_other (f := r.h.kd) (by omega)]
      exact h.get q hq hl
  · show eup mine p H.length q ∉ r.L
    by_cases e : q = p
    · subst e; rw [eup_same, h.hs.len]; exact fun c => absurd (h.lr.low _ c) (by omega)
    · rw [hoth e] at hl h5; rw [eup_other e]; exact h.notL q hq hl h5
  · show eup mine p H.length q ∈ r.L ∧ r.h.gt (eup mine p H.length q) = -1
    by_cases e : q = p
    · subst e; rw [hsame] at hl; have : 1 = 5 := hl; omega
    · rw [hoth e] at hl; rw [eup_other e]; exact h.inL q hq hl
/-- A hand begins to get. -/
theorem SQ.getB (h : SQ n g vl H mine T r) (hp : p < n) (h0 : (g.v.h p).a = 0) (h8 : H.length < 8) :
    SQ n (fgget g p) vl (H ++ [⟨p, 1, 0, 0, 2 * T, 0⟩]) (eup mine p H.length) (T + 1) (lrbegin r 1 0 (2 * T)) := by
  have hbe := h.hs.begin (q := p) (k := 1) (a := 0) hp (by simp [h0]) (by rw [← h.hs.len]; exact h8) (by omega) (by omega)
  have hsame : (fgget g p).v.h p = ⟨6, (g.v.h p).e, (g.v.h p).t, (g.v.h p).h, (g.v.h p).x⟩ := fput_same _ _ _
  have hoth : ∀ {q}, q ≠ p → (fgget g p).v.h q = g.v.h q := fun e => fput_other e
  have hb : eup (fun q => decide ((g.v.h q).a ≠ 0)) p true = fun q => decide (((fgget g p).v.h q).a ≠ 0) := by
    funext q
    by_cases e : q = p
    · subst e; rw [eup_same, hsame]; rfl
    · rw [eup_other e, hoth e]
  rw [hb, ← h.hs.len] at hbe
  have hm : ∀ q, q < n → (g.v.h q).a ≠ 0 → mine q < r.m := fun q hq hl => (h.hs.own q hq (by simpa using hl)).1
  refine ⟨h.ok.beginGet, h.lag, h.lr.begin _ _ _, hbe, h.st, fun q hq hl => ?_, fun q hq hl => ?_, fun q hq hl h5 => ?_, fun q hq hl => ?_⟩
  · show eup r.h.kd r.m 1 (eup mine p H.length q) = 0 ∧ eup r.h.ar r.m 0 (eup mine p H.length q) = _
    by_cases e : q = p
    · subst e; rw [hsame] at hl; have : 6 ≤ 5 := hl.2; omega
    · rw [hoth e] at hl ⊢
      have hmq := hm q hq (by omega)
      rw [eup_other (f := mine) e, eup_other (f := r.h.kd) (by omega), eup_other (f := r.h.ar) (by omega)]
      exact h.put q hq hl
  · show eup r.h.kd r.m 1 (eup mine p H.length q) = 1
    by_cases e : q = p
    · subst e; rw [eup_same, h.hs.len, eup_same]
    · rw [hoth e] at hl
      have hmq := hm q hq (by omega)
      rw [eup_other (f := mine) e, eup_other (f := r.h.kd) (by omega)]
      exact h.get q hq hl
  · show eup mine p H.length q ∉ r.L
    by_cases e : q = p
    · subst e; rw [eup_same, h.hs.len]; exact fun c => absurd (h.lr.low _ c) (by omega)
    · rw [hoth e] at hl h5; rw [eup_other e]; exact h.notL q hq hl h5
  · show eup mine p H.length q ∈ r.L ∧ r.h.gt (eup mine p H.length q) = -1
    by_cases e : q = p
    · subst e; rw [hsame] at hl; have : 6 = 5 := hl; omega
    · rw [hoth e] at hl; rw [eup_other e]; exact h.inL q hq hl
theorem SQ.new (n : Nat) (vl : Nat → Int) (mine : Nat → Nat) : SQ n fgnew vl [] mine 0 (lrnew 2) := by
  have z : ∀ q, (fgnew.v.h q).a = 0 := fun _ => rfl
  refine ⟨fgnew_ok n, by show 0 ≤ 0 + 1; omega, lrnew_ok 2, lhs_new 2 n mine, rfl, fun q _ hl => ?_, fun q _ hl => ?_, fun q _ hl => ?_, fun q _ hl => ?_⟩
  · rw [z] at hl; omega
  · rw [z] at hl; omega
  · exact absurd (z q) hl
  · rw [z] at hl; omega
/-! ## The turns of the law -/
def frr (n : Nat) (g : FG) : Nat → FG
  | 0 => g
  | t + 1 => fturn (frr n g t) (t % n)
/-- From here on all step in turn, hand 0 first. -/
def fi0 (n : Nat) : Nat := if n = 3 then 201 else 200
def SQI (n : Nat) (g : FG) (vl : Nat → Int) (H : List LO) (mine : Nat → Nat) (i : Nat) : Prop :=
  ∃ r, SQ n g vl H mine i r ∧ (fi0 n ≤ i → ∃ g0, FOk n g0 ∧ FLag g0 ∧ g = frr n g0 (i - fi0 n))
theorem fi0_ge : 200 ≤ fi0 n := by unfold fi0; split <;> omega
theorem SQI.ok (h : SQI n g vl H mine i) : FOk n g := by obtain ⟨r, h1, _⟩ := h; exact h1.ok
theorem SQI.new (n : Nat) (vl : Nat → Int) (mine : Nat → Nat) : SQI n fgnew vl [] mine 0 := ⟨_, SQ.new n vl mine, fun h => absurd h (by have := fi0_ge (n := n); omega)⟩
theorem SQI.early {r : LRn} (h : SQ n g vl H mine (i + 1) r) (hi : i < fi0 n) : SQI n g vl H mine (i + 1) := by
  refine ⟨r, h, fun h1 => ⟨g, h.ok, h.lag, ?_⟩⟩
  rw [show i + 1 - fi0 n = 0 by omega]; rfl
theorem SQI.skip (h : SQI n g vl H mine i) (hi : i < 200) : SQI n g vl H mine (i + 1) := by
  obtain ⟨r, h1, _⟩ := h
  exact SQI.early (h1.later (Nat.le_succ i)) (by have := fi0_ge (n := n); omega)
/-- The op that the law writes down. -/
def qop (p x : Int) (i : Nat) : LO := if x < 0 then ⟨p, 1, 0, 0, 2 * i, 0⟩ else ⟨p, 0, x, 0, 2 * i, 0⟩
theorem SQI.beg (h : SQI n g vl H mine i) (hi : i < 200) (h8 : H.length < 8) {p x : Int} (hx : x ≤ 1000) (he : sBegE n g p x = 0) :
    SQI n (sBegS n g p x) (sBegV n g vl p x) (H ++ [qop p x i]) (eup mine p.toNat H.length) (i + 1) := by
  obtain ⟨r, h1, _⟩ := h
  have hk0 := fi0_ge (n := n)
  unfold sBegS sBegV qop
  rw [if_pos he, if_pos he]
  unfold sBegE at he
  split at he
  · omega
  rename_i hp
  split at he
  · omega
  rename_i ha
  have hp2 : 0 ≤ p ∧ p < n := Classical.byContradiction hp
  have ha2 : (g.v.h p.toNat).a = 0 := Classical.byContradiction ha
  have hpn : p = ((p.toNat : Nat) : Int) := by omega
  by_cases hx0 : x < 0
  · rw [if_pos hx0, if_pos hx0, if_pos hx0]
    have h2 := h1.getB (p := p.toNat) (by omega) ha2 h8
    rw [← hpn] at h2
    exact SQI.early h2 (by omega)
  · rw [if_neg hx0, if_neg hx0, if_neg hx0]
    have h2 := h1.putB (p := p.toNat) (by omega) ha2 h8 (x := x) (by omega)
    rw [← hpn] at h2
    exact SQI.early h2 (by omega)
theorem fi0_mod (h1 : 1 ≤ n) (h4 : n ≤ 4) (hi : fi0 n ≤ i) : i % n = (i - fi0 n) % n := by
  have : n = 1 ∨ n = 2 ∨ n = 3 ∨ n = 4 := by omega
  rcases this with rfl | rfl | rfl | rfl
  · omega
  · have hi' : 200 ≤ i := hi
    show i % 2 = (i - 200) % 2; omega
  · have hi' : 201 ≤ i := hi
    show i % 3 = (i - 201) % 3; omega
  · have hi' : 200 ≤ i := hi
    show i % 4 = (i - 200) % 4; omega
/-- A step of hand p. -/
theorem SQI.step (h : SQI n g vl H mine i) (h1 : 1 ≤ n) (h4 : n ≤ 4) {p : Nat} (hp : p < n) (hi : i < 200 ∨ p = i % n) :
    (sStpD n g p = true → mine p < H.length ∧ SQI n (sStpS n g p) vl (H.set (mine p) { lat H (mine p) with gt := sStpG n g vl p, «to» := 2 * (i : Int) + 1 }) mine (i + 1)) ∧ (sStpD n g p = false → SQI n (sStpS n g p) vl H mine (i + 1)) := by
  obtain ⟨r, h2, h3⟩ := h
  have hk0 := fi0_ge (n := n)
  have okt : FOk n (fturn g p) ∧ FLag (fturn g p) := by
    unfold fturn
    split
    · exact ⟨h2.ok, h2.lag⟩
    · rename_i e; exact ⟨h2.ok.step hp e, h2.ok.lag h2.lag hp⟩
  have tr : fi0 n ≤ i + 1 → ∃ g0, FOk n g0 ∧ FLag g0 ∧ fturn g p = frr n g0 (i + 1 - fi0 n) := fun hge => by
    by_cases e : fi0 n ≤ i
    · obtain ⟨g0, h5, h6, h7⟩ := h3 e
      refine ⟨g0, h5, h6, ?_⟩
      rw [show i + 1 - fi0 n = (i - fi0 n) + 1 by omega]
      show _ = fturn (frr n g0 (i - fi0 n)) ((i - fi0 n) % n)
      rw [← h7, ← fi0_mod h1 h4 e]
      rcases hi with h8 | h8
      · omega
      · rw [← h8]
    · exact ⟨fturn g p, okt.1, okt.2, by rw [show i + 1 - fi0 n = 0 by omega]; rfl⟩
  have hpp : ((p : Nat) : Int).toNat = p := rfl
  have hE : sStpE n g p = if (g.v.h p).a = 0 then 7 else 0 := by
    unfold sStpE; rw [if_neg (fun c => c ⟨by omega, by omega⟩), hpp]
  unfold sStpD sStpG sStpS
  rw [hpp, hE]
  by_cases e0 : (g.v.h p).a = 0
  · rw [if_pos e0, if_neg (by decide), if_neg (by decide), if_neg (by decide)]
    refine ⟨fun c => (by cases c), fun _ => ?_⟩
    refine ⟨r, h2.later (Nat.le_succ i), ?_⟩
    rw [show fturn g p = g from if_pos e0] at tr
    exact tr
  · rw [if_neg e0, if_pos rfl, if_pos rfl, if_pos rfl]
    rw [show fturn g p = fgstp g p from if_neg e0] at tr
    refine ⟨fun hd => ?_, fun hd => ?_⟩
    · obtain ⟨h5, r', h6⟩ := h2.fin hp e0 hd
      exact ⟨h5, _, h6, tr⟩
    · obtain ⟨r', h6⟩ := h2.not hp e0 hd
      exact ⟨_, h6, tr⟩
/-- What is written down has a row. -/
theorem SQI.all (h : SQI n g vl H mine 320) (h1 : 1 ≤ n) (h4 : n ≤ 4) : LFine 2 H ∧ lans 2 H ≠ none := by
  obtain ⟨r, h2, h3⟩ := h
  obtain ⟨g0, h5, h6, h7⟩ := h3 (by unfold fi0; split <;> omega)
  have hT : (6 * n + 6) * n ≤ 320 - fi0 n := by
    have : n = 1 ∨ n = 2 ∨ n = 3 ∨ n = 4 := by omega
    rcases this with rfl | rfl | rfl | rfl <;> decide
  refine h2.hs.all (ob := 2) h2.lr (by omega) h4 (by omega) fun q hq => ?_
  have hd := FOk.ends h1 (S := frr n g0) h5 h6 (fun t => rfl) hq hT
  rw [← h7] at hd
  simp [hd]
end
end Go.Proofs.Ytimdhnjkjflbdaa.Fif
