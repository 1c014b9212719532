import Derived.Test.YtobfaohcadmopaaTckMath
/-
  Chapter 8 as plain mathematics: if all do a line in turn, each comes in.
-/
namespace Go.Proofs.Ytobfaohcadmopaa

theorem tstep_other {s : TS} {p q : Nat} (h : q ≠ p) : (tstep s p).a q = s.a q ∧ (tstep s p).t q = s.t q := by
  unfold tstep
  repeat' split
  all_goals simp [tup, h]
/-- All do a line in turn. -/
structure TRun (n : Nat) (S : Nat → TS) : Prop where
  pos : 1 ≤ n
  first : ∃ Q, TOk n (S 0) Q
  st : ∀ t, S (t + 1) = tstep (S t) (t % n)
section
variable {n : Nat} {S : Nat → TS}
theorem TRun.ok (h : TRun n S) (t : Nat) : ∃ Q, TOk n (S t) Q := by
  induction t with
  | zero => exact h.first
  | succ t ih =>
    obtain ⟨Q, hQ⟩ := ih
    rw [h.st]; exact ⟨_, hQ.step (Nat.mod_lt _ h.pos)⟩
theorem TRun.ar (h : TRun n S) (t : Nat) {p : Nat} (hp : p < n) : 1 ≤ (S t).a p ∧ (S t).a p ≤ 4 := by
  obtain ⟨Q, hQ⟩ := h.ok t
  by_cases e : (S t).a p = 1
  · omega
  · obtain ⟨i, _, _, _, _, g⟩ := hQ.place hp e; omega
theorem TRun.other (h : TRun n S) {t q : Nat} (e : t % n ≠ q) : (S (t + 1)).a q = (S t).a q ∧ (S (t + 1)).t q = (S t).t q := by
  rw [h.st]; exact tstep_other fun e2 => e e2.symm
/-- When hand q steps next. -/
theorem TRun.when (h : TRun n S) (t : Nat) {q : Nat} (hq : q < n) : ∃ m, m < n ∧ (t + m) % n = q ∧ ∀ i, i < m → (t + i) % n ≠ q := by
  have hm : t % n < n := Nat.mod_lt _ h.pos
  have hd := Nat.div_add_mod t n
  have hmod : ∀ i x, t % n + i = x → x < n → (t + i) % n = x := fun i x e hx => by
    rw [show t + i = x + n * (t / n) by omega, Nat.add_mul_mod_self_left, Nat.mod_eq_of_lt hx]
  have hmod2 : ∀ i x, t % n + i = x + n → x < n → (t + i) % n = x := fun i x e hx => by
    rw [show t + i = (x + n) + n * (t / n) by omega, Nat.add_mul_mod_self_left, Nat.add_mod_right, Nat.mod_eq_of_lt hx]
  rcases Nat.lt_or_ge q (t % n) with h1 | h1
  · refine ⟨q + n - t % n, by omega, hmod2 _ q (by omega) hq, fun i hi => ?_⟩
    rcases Nat.lt_or_ge (t % n + i) n with h2 | h2
    · rw [hmod i _ rfl h2]; omega
    · rw [hmod2 i (t % n + i - n) (by omega) (by omega)]; omega
  · refine ⟨q - t % n, by omega, hmod _ q (by omega) hq, fun i hi => ?_⟩
    rw [hmod i _ rfl (by omega)]; omega
/-- Now moves when the first goes out alone. -/
theorem TRun.now (h : TRun n S) {t x : Nat} (hx : x < n) (ha : (S t).a x ≠ 1) (ht : (S t).t x = (S t).nw) (e : t % n ≠ x) : (S (t + 1)).nw = (S t).nw := by
  obtain ⟨Q, hQ⟩ := h.ok t
  have hy : t % n < n := Nat.mod_lt _ h.pos
  have har := h.ar t hy
  rw [h.st]
  unfold tstep
  by_cases a4 : (S t).a (t % n) = 4
  · have h1 := hQ.head hy (by omega)
    obtain ⟨i, g1, _, g3, _⟩ := hQ.place hx ha
    have : i = 0 := by omega
    subst this
    rw [g1] at h1
    exact absurd (Option.some.inj h1).symm e
  · repeat' split
    all_goals first | rfl | omega
/-- The first's next step. -/
theorem TRun.first_step (h : TRun n S) (t : Nat) {x : Nat} (hx : x < n) (ha : (S t).a x ≠ 1) (ht : (S t).t x = (S t).nw) : ∃ u, t ≤ u ∧ u < t + n ∧ S (u + 1) = tstep (S u) x ∧ ∀ w, t ≤ w → w ≤ u → (S w).a x = (S t).a x ∧ (S w).t x = (S t).t x ∧ (S w).nw = (S t).nw := by
  obtain ⟨m, h1, h2, h3⟩ := h.when t hx
  refine ⟨t + m, by omega, by omega, by rw [h.st, h2], fun w hw1 hw2 => ?_⟩
  obtain ⟨i, rfl⟩ : ∃ i, w = t + i := ⟨w - t, by omega⟩
  have hi : i ≤ m := by omega
  clear hw1 hw2
  induction i with
  | zero => exact ⟨rfl, rfl, rfl⟩
  | succ i ih =>
    obtain ⟨g1, g2, g3⟩ := ih (by omega)
    have g4 := h.other (h3 i (by omega))
    have g5 := h.now hx (by rw [g1]; exact ha) (by rw [g2, g3]; exact ht) (h3 i (by omega))
    exact ⟨g4.1.trans g1, g4.2.trans g2, g5.trans g3⟩
theorem tstep2 {s : TS} {p : Nat} (h : s.a p = 2) (ht : s.t p = s.nw) : (tstep s p).a p = 3 ∧ (tstep s p).t p = s.t p ∧ (tstep s p).nw = s.nw := by
  unfold tstep; rw [if_neg (by omega), if_pos h, if_pos ht.symm]; exact ⟨tup_same _ _ _, rfl, rfl⟩
theorem tstep3 {s : TS} {p : Nat} (h : s.a p = 3) : (tstep s p).a p = 4 ∧ (tstep s p).t p = s.t p ∧ (tstep s p).nw = s.nw := by
  unfold tstep; rw [if_neg (by omega), if_neg (by omega), if_pos h]; exact ⟨tup_same _ _ _, rfl, rfl⟩
theorem tstep4 {s : TS} {p : Nat} (h : s.a p = 4) : (tstep s p).a p = 1 ∧ (tstep s p).nw = s.t p + 1 := by
  unfold tstep; rw [if_neg (by omega), if_neg (by omega), if_neg (by omega)]; exact ⟨tup_same _ _ _, rfl⟩
theorem tstep1 {s : TS} {p : Nat} (h : s.a p = 1) : (tstep s p).a p = 2 := by
  unfold tstep; rw [if_pos h]; exact tup_same _ _ _
/-- The first goes out within so many rounds. -/
theorem TRun.turn (h : TRun n S) (m : Nat) (t : Nat) {x : Nat} (hx : x < n) (ha : (S t).a x ≠ 1) (ht : (S t).t x = (S t).nw) (hm : 5 - (S t).a x ≤ m) : ∃ u, t < u ∧ u ≤ t + m * n ∧ (S u).nw = (S t).nw + 1 ∧ ∀ w, t ≤ w → w < u → (S w).nw = (S t).nw := by
  induction m generalizing t with
  | zero => have := h.ar t hx; omega
  | succ m ih =>
    have e : (m + 1) * n = m * n + n := Nat.succ_mul _ _
    have har := h.ar t hx
    obtain ⟨u, h1, h2, h3, h4⟩ := h.first_step t hx ha ht
    obtain ⟨g1, g2, g3⟩ := h4 u h1 (Nat.le_refl _)
    by_cases a4 : (S t).a x = 4
    · have h5 := tstep4 (s := S u) (p := x) (by omega)
      rw [← h3] at h5
      exact ⟨u + 1, by omega, by omega, by omega, fun w hw1 hw2 => (h4 w hw1 (by omega)).2.2⟩
    · have h5 : (S (u + 1)).a x = (S t).a x + 1 ∧ (S (u + 1)).t x = (S t).t x ∧ (S (u + 1)).nw = (S t).nw := by
        rw [h3]
        by_cases a2 : (S t).a x = 2
        · have := tstep2 (s := S u) (p := x) (by omega) (by omega); omega
        · have := tstep3 (s := S u) (p := x) (by omega); omega
      obtain ⟨w, f1, f2, f3, f4⟩ := ih (u + 1) (by omega) (by omega) (by omega)
      refine ⟨w, by omega, by omega, by omega, fun y hy1 hy2 => ?_⟩
      by_cases e2 : y ≤ u
      · exact (h4 y hy1 e2).2.2
      · exact (f4 y (by omega) hy2).trans h5.2.2
/-- Who has a ticket comes in. -/
theorem TRun.place (h : TRun n S) {p : Nat} (hp : p < n) (i : Nat) (t : Nat) (ha : (S t).a p = 2) (ht : (S t).t p = (S t).nw + i) : ∃ u, t ≤ u ∧ u ≤ t + (3 * i + 1) * n ∧ (S u).a p = 3 := by
  induction i generalizing t with
  | zero =>
    obtain ⟨u, h1, h2, h3, h4⟩ := h.first_step t hp (by omega) (by omega)
    obtain ⟨g1, g2, g3⟩ := h4 u h1 (Nat.le_refl _)
    exact ⟨u + 1, by omega, by omega, by rw [h3]; exact (tstep2 (by omega) (by omega)).1⟩
  | succ i ih =>
    have e : (3 * (i + 1) + 1) * n = (3 * i + 1) * n + 3 * n := by
      rw [show 3 * (i + 1) + 1 = 3 * i + 1 + 3 by omega, Nat.add_mul]
    obtain ⟨Q, hQ⟩ := h.ok t
    obtain ⟨j, _, g2, _⟩ := hQ.place hp (by omega)
    obtain ⟨x, hx⟩ : ∃ x, Q[0]? = some x := ⟨Q[0], List.getElem?_eq_getElem (by omega)⟩
    have hxi := hQ.idx 0 x hx
    have hxn := hQ.low x (List.mem_of_getElem? hx)
    obtain ⟨u, h1, h2, h3, h4⟩ := h.turn 3 t hxn (by omega) (by omega) (by omega)
    have stay : ∀ y, t + y ≤ u → (S (t + y)).a p = 2 ∧ (S (t + y)).t p = (S t).t p := fun y => by
      induction y with
      | zero => exact fun _ => ⟨ha, rfl⟩
      | succ y ih2 =>
        intro hy
        obtain ⟨f1, f2⟩ := ih2 (by omega)
        rw [show t + (y + 1) = t + y + 1 from rfl]
        by_cases e2 : (t + y) % n = p
        · rw [h.st, e2]
          have f3 := h4 (t + y) (by omega) (by omega)
          unfold tstep
          rw [if_neg (by omega), if_pos f1, if_neg (by omega)]
          exact ⟨f1, f2⟩
        · have f3 := h.other e2
          exact ⟨f3.1.trans f1, f3.2.trans f2⟩
    obtain ⟨f1, f2⟩ := stay (u - t) (by omega)
    rw [show t + (u - t) = u by omega] at f1 f2
    obtain ⟨w, d1, d2, d3⟩ := ih u f1 (by omega)
    exact ⟨w, by omega, by omega, d3⟩
theorem TRun.next (h : TRun n S) (t : Nat) {q : Nat} (hq : q < n) : ∃ u, t ≤ u ∧ u < t + n ∧ S (u + 1) = tstep (S u) q ∧ (S u).a q = (S t).a q := by
  obtain ⟨m, h1, h2, h3⟩ := h.when t hq
  refine ⟨t + m, by omega, by omega, by rw [h.st, h2], ?_⟩
  have key : ∀ i, i ≤ m → (S (t + i)).a q = (S t).a q := fun i => by
    induction i with
    | zero => exact fun _ => rfl
    | succ i ih => exact fun hi => (h.other (h3 i (by omega))).1.trans (ih (by omega))
  exact key m (Nat.le_refl _)
theorem TRun.from1 (h : TRun n S) {p : Nat} (hp : p < n) (t : Nat) (ha : (S t).a p ≤ 2) : ∃ u, t ≤ u ∧ u ≤ t + n + (3 * n + 1) * n ∧ (S u).a p = 3 := by
  have h2 : ∀ t, (S t).a p = 2 → ∃ u, t ≤ u ∧ u ≤ t + (3 * n + 1) * n ∧ (S u).a p = 3 := fun t ha => by
    obtain ⟨Q, hQ⟩ := h.ok t
    obtain ⟨i, g1, g2, g3, _⟩ := hQ.place hp (by omega)
    obtain ⟨u, f1, f2, f3⟩ := h.place hp i t ha g3
    have hin : i ≤ n := by
      have h1 := hQ.cnt
      have h2 : ∀ (P : Nat → Bool) m, tcnt P m ≤ m := fun P m => by
        induction m with
        | zero => exact Nat.le_refl _
        | succ m ih => unfold tcnt; split <;> omega
      have h3 := h2 (fun q => decide ((S t).a q ≠ 1)) n
      omega
    have : (3 * i + 1) * n ≤ (3 * n + 1) * n := Nat.mul_le_mul_right _ (by omega)
    exact ⟨u, f1, by omega, f3⟩
  have har := h.ar t hp
  by_cases a2 : (S t).a p = 2
  · obtain ⟨u, f1, f2, f3⟩ := h2 t a2
    exact ⟨u, f1, by omega, f3⟩
  · obtain ⟨u, g1, g2, g3, g4⟩ := h.next t hp
    obtain ⟨w, f1, f2, f3⟩ := h2 (u + 1) (by rw [g3]; exact tstep1 (by omega))
    exact ⟨w, by omega, by omega, f3⟩
theorem TRun.became (h : TRun n S) {p t : Nat} (i : Nat) (h1 : (S t).a p ≠ 3) (h2 : (S (t + i)).a p = 3) : ∃ w, t ≤ w ∧ w < t + i ∧ w % n = p ∧ (S (w + 1)).a p = 3 := by
  induction i with
  | zero => exact absurd h2 h1
  | succ i ih =>
    by_cases e : (S (t + i)).a p = 3
    · obtain ⟨w, g1, g2, g3⟩ := ih e
      exact ⟨w, g1, by omega, g3⟩
    · refine ⟨t + i, by omega, by omega, ?_, h2⟩
      by_cases e2 : (t + i) % n = p
      · exact e2
      rw [show t + (i + 1) = t + i + 1 from rfl, (h.other e2).1] at h2
      exact absurd h2 e
/-- Just done its line, it is at line 3, in one of the rounds. -/
theorem TRun.comes (h : TRun n S) (h4 : n ≤ 4) {p : Nat} (hp : p < n) : ∃ r, r < 40 ∧ (S (r * n + p + 1)).a p = 3 := by
  have hn := h.pos
  have h0 : ∃ t, t ≤ 2 * n ∧ (S t).a p ≤ 2 := by
    have har := h.ar 0 hp
    have h40 : ∀ t, (S t).a p = 4 → ∃ u, u ≤ t + n ∧ (S u).a p ≤ 2 := fun t ha => by
      obtain ⟨u, g1, g2, g3, g5⟩ := h.next t hp
      have := tstep4 (s := S u) (p := p) (by omega)
      exact ⟨u + 1, by omega, by rw [g3]; omega⟩
    by_cases e : (S 0).a p ≤ 2
    · exact ⟨0, by omega, e⟩
    · by_cases e4 : (S 0).a p = 4
      · obtain ⟨u, g1, g2⟩ := h40 0 e4
        exact ⟨u, by omega, g2⟩
      · obtain ⟨u, g1, g2, g3, g5⟩ := h.next 0 hp
        have := tstep3 (s := S u) (p := p) (by omega)
        obtain ⟨w, f1, f2⟩ := h40 (u + 1) (by rw [g3]; omega)
        exact ⟨w, by omega, f2⟩
  obtain ⟨t, ht, ha⟩ := h0
  obtain ⟨u, g1, g2, g3⟩ := h.from1 hp t ha
  have hlt : u < n * 40 := by
    have h5 : n = 1 ∨ n = 2 ∨ n = 3 ∨ n = 4 := by omega
    rcases h5 with rfl | rfl | rfl | rfl <;> omega
  have hne : (S t).a p ≠ 3 := by omega
  obtain ⟨w, f1, f2, f3, f4⟩ := h.became (u - t) hne (by rw [show t + (u - t) = u by omega]; exact g3)
  have hdm := Nat.div_add_mod w n
  refine ⟨w / n, Nat.div_lt_of_lt_mul (by omega), ?_⟩
  rw [show w / n * n + p + 1 = w + 1 by rw [Nat.mul_comm]; omega]
  exact f4
end
end Go.Proofs.Ytobfaohcadmopaa
