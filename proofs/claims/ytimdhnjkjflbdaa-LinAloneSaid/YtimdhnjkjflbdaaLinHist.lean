import Derived.Test.YtimdhnjkjflbdaaLinAlone
/-
  Chapter 19 as plain mathematics, on: the history that a law writes down while hands run, beside the run (LRn): when all is over it is a fine one, and has a row.
-/
namespace Go.Proofs.Ytimdhnjkjflbdaa

/-- The ops as written down: mine q: which hand q began last; busy q: it runs still; T: the turn. -/
structure LHs (n : Nat) (s : LRn) (H : List LO) (mine : Nat → Nat) (busy : Nat → Bool) (T : Nat) : Prop where
  len : H.length = s.m
  eig : s.m ≤ 8
  kd : ∀ i, i < s.m → (lat H i).kd = (s.h.kd i : Int) ∧ s.h.kd i ≤ 1
  ar : ∀ i, i < s.m → (lat H i).ar = s.h.ar i ∧ 0 ≤ s.h.ar i ∧ s.h.ar i ≤ 1000
  fr : ∀ i, i < s.m → (lat H i).fr = s.h.fr i ∧ 0 ≤ s.h.fr i ∧ s.h.fr i < 2 * T
  hd : ∀ i, i < s.m → 0 ≤ (lat H i).hd ∧ (lat H i).hd < n
  dn : ∀ i, i < s.m → s.dn i = true → (lat H i).gt = s.h.gt i ∧ (lat H i).to = s.h.to i ∧ s.h.fr i < s.h.to i ∧ s.h.to i < 2 * T
  own : ∀ q, q < n → busy q = true → mine q < s.m ∧ (lat H (mine q)).hd = (q : Int) ∧ s.dn (mine q) = false
  opn : ∀ i, i < s.m → s.dn i = false → ∃ q, q < n ∧ busy q = true ∧ mine q = i
  seq : ∀ i j, i < s.m → j < i → (lat H j).hd = (lat H i).hd → s.dn j = true ∧ s.h.to j ≤ s.h.fr i
section
variable {ob n T T' : Nat} {s : LRn} {H : List LO} {mine : Nat → Nat} {busy : Nat → Bool} {q k i : Nat} {a : Int}
theorem lhs_new (ob n : Nat) (mine : Nat → Nat) : LHs n (lrnew ob) [] mine (fun _ => false) 0 :=
  have z : ∀ {P : Prop} {i : Nat}, i < (lrnew ob).m → P := fun hi => absurd hi (Nat.not_lt_zero _)
  ⟨rfl, Nat.zero_le _, fun _ hi => z hi, fun _ hi => z hi, fun _ hi => z hi, fun _ hi => z hi, fun _ hi => z hi, fun _ _ h => (by cases h), fun _ hi => z hi, fun _ _ hi => z hi⟩
theorem LHs.later (h : LHs n s H mine busy T) (ht : T ≤ T') : LHs n s H mine busy T' :=
  ⟨h.len, h.eig, h.kd, h.ar, fun i hi => ⟨(h.fr i hi).1, (h.fr i hi).2.1, by have := (h.fr i hi).2.2; omega⟩, h.hd, fun i hi hd => by
    obtain ⟨h1, h2, h3, h4⟩ := h.dn i hi hd
    exact ⟨h1, h2, h3, by omega⟩, h.own, h.opn, h.seq⟩
/-- A hand that is idle begins. -/
theorem LHs.begin (h : LHs n s H mine busy T) (hq : q < n) (hb : busy q = false) (h8 : s.m < 8) (hk : k ≤ 1) (ha : 0 ≤ a ∧ a ≤ 1000) :
    LHs n (lrbegin s k a (2 * T)) (H ++ [⟨q, k, a, 0, 2 * T, 0⟩]) (eup mine q s.m) (eup busy q true) (T + 1) := by
  have hne : ∀ {j}, j < s.m → j ≠ s.m := fun hj => by omega
  have hold : ∀ {j}, j < s.m → lat (H ++ [(⟨q, k, a, 0, 2 * T, 0⟩ : LO)]) j = lat H j := fun hj => lat_app (by rw [h.len]; exact hj)
  have hnew : lat (H ++ [(⟨q, k, a, 0, 2 * T, 0⟩ : LO)]) s.m = ⟨q, k, a, 0, 2 * T, 0⟩ := by rw [← h.len]; exact lat_end
  have hcase : ∀ {j}, j < s.m + 1 → j < s.m ∨ j = s.m := fun hj => by omega
  refine ⟨by rw [List.length_append, h.len]; rfl, by show s.m + 1 ≤ 8; omega, fun i hi => ?_, fun i hi => ?_, fun i hi => ?_, fun i hi => ?_, fun i hi hd => ?_, fun p hp hbp => ?_, fun i hi hd => ?_, fun i j hi hj hhd => ?_⟩
  · rcases hcase hi with e | e
    · rw [hold e]; show _ = ((eup s.h.kd s.m k i : Nat) : Int) ∧ eup s.h.kd s.m k i ≤ 1
      rw [eup_other (hne e)]; exact h.kd i e
    · subst e; rw [hnew]; show _ = ((eup s.h.kd s.m k s.m : Nat) : Int) ∧ eup s.h.kd s.m k s.m ≤ 1
      rw [eup_same]; exact ⟨rfl, hk⟩
  · rcases hcase hi with e | e
    · rw [hold e]; show _ = eup s.h.ar s.m a i ∧ _ ≤ eup s.h.ar s.m a i ∧ eup s.h.ar s.m a i ≤ _
      rw [eup_other (hne e)]; exact h.ar i e
    · subst e; rw [hnew]; show _ = eup s.h.ar s.m a s.m ∧ _ ≤ eup s.h.ar s.m a s.m ∧ eup s.h.ar s.m a s.m ≤ _
      rw [eup_same]; exact ⟨rfl, ha⟩
  · rcases hcase hi with e | e
    · rw [hold e]; show _ = eup s.h.fr s.m (2 * T) i ∧ _ ≤ eup s.h.fr s.m (2 * T) i ∧ eup s.h.fr s.m (2 * T) i < _
      rw [eup_other (hne e)]
      obtain ⟨h1, h2, h3⟩ := h.fr i e
      exact ⟨h1, h2, by omega⟩
    · subst e; rw [hnew]; show _ = eup s.h.fr s.m (2 * T) s.m ∧ _ ≤ eup s.h.fr s.m (2 * T) s.m ∧ eup s.h.fr s.m (2 * T) s.m < _
      rw [eup_same]; exact ⟨rfl, by omega, by omega⟩
  · rcases hcase hi with e | e
    · rw [hold e]; exact h.hd i e
    · subst e; rw [hnew]; exact ⟨by show (0 : Int) ≤ (q : Int); omega, by show (q : Int) < n; omega⟩
  · have hd' : eup s.dn s.m false i = true := hd
    rcases hcase hi with e | e
    · rw [eup_other (hne e)] at hd'
      obtain ⟨h1, h2, h3, h4⟩ := h.dn i e hd'
      rw [hold e]
      show _ ∧ _ ∧ eup s.h.fr s.m (2 * T) i < _ ∧ _
      rw [eup_other (hne e)]
      exact ⟨h1, h2, h3, by show s.h.to i < _; omega⟩
    · subst e; rw [eup_same] at hd'; cases hd'
  · have hbp' : eup busy q true p = true := hbp
    show eup mine q s.m p < s.m + 1 ∧ (lat _ (eup mine q s.m p)).hd = _ ∧ eup s.dn s.m false (eup mine q s.m p) = false
    by_cases e : p = q
    · subst e; rw [eup_same, hnew, eup_same]; exact ⟨by omega, rfl, rfl⟩
    · rw [eup_other e] at hbp' ⊢
      obtain ⟨h1, h2, h3⟩ := h.own p hp hbp'
      rw [hold h1, eup_other (hne h1)]
      exact ⟨by omega, h2, h3⟩
  · have hd' : eup s.dn s.m false i = false := hd
    rcases hcase hi with e | e
    · rw [eup_other (hne e)] at hd'
      obtain ⟨p, h1, h2, h3⟩ := h.opn i e hd'
      have hpq : p ≠ q := fun c => by rw [c, hb] at h2; cases h2
      exact ⟨p, h1, by rw [eup_other hpq]; exact h2, by rw [eup_other hpq]; exact h3⟩
    · exact ⟨q, hq, eup_same _ _ _, by rw [eup_same]; exact e.symm⟩
  · have hj' : j < s.m := by have : i < s.m + 1 := hi; omega
    show eup s.dn s.m false j = true ∧ s.h.to j ≤ eup s.h.fr s.m (2 * T) i
    rw [eup_other (hne hj')]
    rcases hcase hi with e | e
    · rw [hold e, hold hj'] at hhd
      rw [eup_other (hne e)]
      exact h.seq i j e hj hhd
    · subst e
      rw [hnew, hold hj'] at hhd
      have hhd' : (lat H j).hd = (q : Int) := hhd
      have hdj : s.dn j = true := by
        cases e2 : s.dn j with
        | true => rfl
        | false =>
          obtain ⟨p, h1, h2, h3⟩ := h.opn j hj' e2
          have h4 := (h.own p h1 h2).2.1
          rw [h3, hhd'] at h4
          have : p = q := by omega
          rw [this, hb] at h2; cases h2
      rw [eup_same]
      exact ⟨hdj, by have := (h.dn j hj' hdj).2.2.2; omega⟩
/-- An op that is not over happens. -/
theorem LHs.lin (h : LHs n s H mine busy T) (hd : s.dn i = false) : LHs n (lrlin ob s i) H mine busy T :=
  ⟨h.len, h.eig, h.kd, h.ar, h.fr, h.hd, fun j hj hdj => by
    obtain ⟨h1, h2, h3, h4⟩ := h.dn j hj hdj
    have hne : j ≠ i := fun c => by
      have hdj' : s.dn j = true := hdj
      rw [c, hd] at hdj'; cases hdj'
    refine ⟨?_, h2, h3, h4⟩
    show _ = eup s.h.gt i _ j
    rw [eup_other hne]; exact h1, h.own, h.opn, h.seq⟩
/-- A hand's op is over. -/
theorem LHs.done (h : LHs n s H mine busy T) (hq : q < n) (hb : busy q = true) :
    LHs n (lrdone s (mine q) (2 * T + 1)) (H.set (mine q) { lat H (mine q) with gt := s.h.gt (mine q), to := 2 * T + 1 }) mine (eup busy q false) (T + 1) := by
  obtain ⟨o1, o2, o3⟩ := h.own q hq hb
  have hl : ∀ j, lat (H.set (mine q) { lat H (mine q) with gt := s.h.gt (mine q), to := 2 * T + 1 }) j = if j = mine q ∧ mine q < H.length then { lat H (mine q) with gt := s.h.gt (mine q), to := 2 * T + 1 } else lat H j := fun j => lat_set
  have hm : mine q < H.length := by rw [h.len]; exact o1
  have hs : lat (H.set (mine q) { lat H (mine q) with gt := s.h.gt (mine q), to := 2 * T + 1 }) (mine q) = { lat H (mine q) with gt := s.h.gt (mine q), to := 2 * T + 1 } := by rw [hl, if_pos ⟨rfl, hm⟩]
  have ho : ∀ {j}, j ≠ mine q → lat (H.set (mine q) { lat H (mine q) with gt := s.h.gt (mine q), to := 2 * T + 1 }) j = lat H j := fun hj => by rw [hl, if_neg fun c => hj c.1]
  have hk : ∀ j, (lat (H.set (mine q) { lat H (mine q) with gt := s.h.gt (mine q), to := 2 * T + 1 }) j).hd = (lat H j).hd ∧ (lat (H.set (mine q) { lat H (mine q) with gt := s.h.gt (mine q), to := 2 * T + 1 }) j).kd = (lat H j).kd ∧ (lat (H.set (mine q) { lat H (mine q) with gt := s.h.gt (mine q), to := 2 * T + 1 }) j).ar = (lat H j).ar ∧ (lat (H.set (mine q) { lat H (mine q) with gt := s.h.gt (mine q), to := 2 * T + 1 }) j).fr = (lat H j).fr := fun j => by
    by_cases e : j = mine q
    · rw [e, hs]; exact ⟨rfl, rfl, rfl, rfl⟩
    · rw [ho e]; exact ⟨rfl, rfl, rfl, rfl⟩
  have hmine : ∀ p, p < n → busy p = true → mine p = mine q → p = q := fun p hp hbp e => by
    have h1 := (h.own p hp hbp).2.1
    rw [e, o2] at h1
    omega
  refine ⟨by rw [List.length_set]; exact h.len, h.eig, fun i hi => ?_, fun i hi => ?_, fun i hi => ?_, fun i hi => ?_, fun i hi hd => ?_, fun p hp hbp => ?_, fun i hi hd => ?_, fun i j hi hj hhd => ?_⟩
  · rw [(hk i).2.1]; exact h.kd i hi
  · rw [(hk i).2.2.1]; exact h.ar i hi
  · rw [(hk i).2.2.2]
    obtain ⟨h1, h2, h3⟩ := h.fr i hi
    exact ⟨h1, h2, by show s.h.fr i < _; omega⟩
  · rw [(hk i).1]; exact h.hd i hi
  · show _ = s.h.gt i ∧ _ = eup s.h.to (mine q) (2 * T + 1) i ∧ s.h.fr i < eup s.h.to (mine q) (2 * T + 1) i ∧ eup s.h.to (mine q) (2 * T + 1) i < _
    have hd' : eup s.dn (mine q) true i = true := hd
    by_cases e : i = mine q
    · subst e
      rw [hs, eup_same]
      have := (h.fr _ o1).2.2
      exact ⟨rfl, rfl, by omega, by omega⟩
    · rw [eup_other e] at hd'
      obtain ⟨h1, h2, h3, h4⟩ := h.dn i hi hd'
      rw [ho e, eup_other e]
      exact ⟨h1, h2, h3, by omega⟩
  · have hbp' : eup busy q false p = true := hbp
    by_cases e : p = q
    · subst e; rw [eup_same] at hbp'; cases hbp'
    · rw [eup_other e] at hbp'
      obtain ⟨h1, h2, h3⟩ := h.own p hp hbp'
      rw [(hk _).1]
      refine ⟨h1, h2, ?_⟩
      show eup s.dn (mine q) true (mine p) = false
      rw [eup_other fun c => e (hmine p hp hbp' c)]
      exact h3
  · have hd' : eup s.dn (mine q) true i = false := hd
    have e : i ≠ mine q := fun c => by rw [c, eup_same] at hd'; cases hd'
    rw [eup_other e] at hd'
    obtain ⟨p, h1, h2, h3⟩ := h.opn i hi hd'
    have hpq : p ≠ q := fun c => e (by rw [← h3, c])
    exact ⟨p, h1, by rw [eup_other hpq]; exact h2, h3⟩
  · rw [(hk i).1, (hk j).1] at hhd
    obtain ⟨h1, h2⟩ := h.seq i j hi hj hhd
    have e : j ≠ mine q := fun c => by rw [c, o3] at h1; cases h1
    show eup s.dn (mine q) true j = true ∧ eup s.h.to (mine q) (2 * T + 1) j ≤ s.h.fr i
    rw [eup_other e, eup_other e]
    exact ⟨h1, h2⟩
/-- What is in behind a row is bounded. -/
theorem lend_le {h : LOps} : ∀ {r : List Nat} {has : List Int} {B : Int}, (∀ x, x ∈ has → 0 ≤ x ∧ x ≤ B) → 0 ≤ B → (∀ i, i ∈ r → 0 ≤ h.ar i ∧ h.ar i ≤ 1000) → ∀ x, x ∈ lend ob h has r → 0 ≤ x ∧ x ≤ B + 1000 * r.length
  | [], _, _, hh, _, _, x, hx => by have := hh x hx; simp only [List.length_nil]; omega
  | i :: r, has, B, hh, hB, ha, x, hx => by
    have h1 := (lgets_le (ob := ob) (k := h.kd i) hh hB (ha i (by simp))).1
    have h2 := lend_le (r := r) (B := B + 1000) h1 (by omega) (fun j hj => ha j (List.mem_cons_of_mem _ hj)) x hx
    rw [List.length_cons]; omega
theorem LGood.gt_le {h : LOps} {m : Nat} {L : List Nat} (g : LGood ob m h L) (hm : m ≤ 8) (ha : ∀ i, i < m → 0 ≤ h.ar i ∧ h.ar i ≤ 1000) : ∀ i, i < m → -1 ≤ h.gt i ∧ h.gt i ≤ 8000 := fun i hi => by
  obtain ⟨k, hk, e⟩ := List.getElem_of_mem ((g.all i).2 hi)
  have h1 := lgo_at.1 g.go k hk
  have hl := len_all g.nod g.all
  have hi0 : ∀ x, x ∈ linit ob → 0 ≤ x ∧ x ≤ (0 : Int) := fun x hx => by
    unfold linit at hx
    split at hx
    · have : x = 0 := by simpa using hx
      omega
    · cases hx
  have h2 := lend_le (ob := ob) (h := h) (r := L.take k) hi0 (Int.le_refl _) fun j hj => ha j ((g.all j).1 (List.mem_of_mem_take hj))
  rw [e] at h1
  have hB : (0 : Int) ≤ 0 + 1000 * ((L.take k).length : Int) := by omega
  have h3 := (lgets_le (ob := ob) (k := h.kd i) h2 hB (ha i hi)).2
  rw [h1] at h3
  have : (L.take k).length ≤ 8 := by rw [List.length_take]; omega
  omega
/-- Nobody runs any more: what is written down is fine, and has a row. -/
theorem LHs.all (h : LHs n s H mine busy T) (r : LROk ob s) (ho : ob ≤ 2) (hn : n ≤ 4) (hT : T ≤ 500) (hb : ∀ q, q < n → busy q = false) : LFine (ob : Int) H ∧ lans (ob : Int) H ≠ none := by
  have hd : ∀ i, i < s.m → s.dn i = true := fun i hi => by
    cases e : s.dn i with
    | true => rfl
    | false =>
      obtain ⟨q, h1, h2, _⟩ := h.opn i hi e
      rw [hb q h1] at h2; cases h2
  have g := r.all hd
  have hg := g.gt_le h.eig fun i hi => (h.ar i hi).2
  have f : LFine (ob : Int) H := by
    refine ⟨by omega, by omega, by rw [h.len]; exact h.eig, fun i hi => ?_, fun i hi => ?_, fun i j hi hj c => ?_⟩
    · rw [h.len] at hi
      have h1 := h.hd i hi
      have h2 := h.kd i hi
      have h3 := h.ar i hi
      have h4 := h.fr i hi
      have h5 := h.dn i hi (hd i hi)
      have h6 := hg i hi
      unfold LO.inb
      omega
    · rw [h.len] at hi
      have h4 := h.fr i hi
      have h5 := h.dn i hi (hd i hi)
      omega
    · rw [h.len] at hi
      obtain ⟨h1, h2⟩ := h.seq i j hi hj c.1
      have h3 := (h.dn j (by omega) h1).2.1
      have h4 := (h.fr i hi).1
      have h5 := c.2.2
      omega
  have g' : LGood ob H.length (hops H) (L := s.L.map id) := by
    rw [h.len]
    have g2 := g
    rw [← List.append_nil s.L] at g2
    refine g2.part (f := id) (k := id) (fun x => ?_) (fun _ _ => rfl) (fun i hi => ?_)
    · rw [g.all x]
      exact ⟨fun hx => ⟨x, hx, rfl⟩, fun ⟨i, hi, e⟩ => e ▸ hi⟩
    · have h2 := h.kd i hi
      have h3 := h.ar i hi
      have h4 := h.fr i hi
      have h5 := h.dn i hi (hd i hi)
      refine ⟨?_, h3.1, h5.1, h4.1, h5.2.1⟩
      show (lat H i).kd.toNat = s.h.kd i
      omega
  obtain ⟨L', h1, _⟩ := lrow_some f g'
  exact ⟨f, by rw [h1]; exact fun c => by cases c⟩
end
end Go.Proofs.Ytimdhnjkjflbdaa
