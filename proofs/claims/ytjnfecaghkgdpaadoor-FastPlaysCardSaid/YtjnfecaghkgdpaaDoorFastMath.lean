/-
  Chapter 11 as plain mathematics: a lock that is soon had by who is alone. It imports nothing of the translation.
-/
namespace Go.Proofs.YtjnfecaghkgdpaaDoor

def vup {α : Type} (f : Nat → α) (i : Nat) (x : α) : Nat → α := fun j => if j = i then x else f j
theorem vup_same {α : Type} (f : Nat → α) (i : Nat) (x : α) : vup f i x i = x := by simp [vup]
theorem vup_other {α : Type} {f : Nat → α} {i j : Nat} {x : α} (h : j ≠ i) : vup f i x j = f j := by simp [vup, h]
/-- Of a hand: its line, its k, its B. -/
structure VH where
  a : Nat
  k : Nat
  b : Nat
/-- All hands; X, Y. -/
structure VS where
  s : Nat → VH
  X : Nat
  Y : Nat
def vnew : VS := ⟨fun _ => ⟨1, 0, 0⟩, 0, 0⟩
/-- What hand p is when it has done its line; what X and Y are. -/
def vone (n : Nat) (v : VS) (p : Nat) : VH :=
  if (v.s p).a = 1 then ⟨2, (v.s p).k, 1⟩
  else if (v.s p).a = 2 then ⟨3, (v.s p).k, (v.s p).b⟩
  else if (v.s p).a = 3 then ⟨if v.Y = 0 then 6 else 4, (v.s p).k, (v.s p).b⟩
  else if (v.s p).a = 4 then ⟨5, (v.s p).k, 0⟩
  else if (v.s p).a = 5 then ⟨if v.Y = 0 then 1 else 5, (v.s p).k, (v.s p).b⟩
  else if (v.s p).a = 6 then ⟨7, (v.s p).k, (v.s p).b⟩
  else if (v.s p).a = 7 then ⟨if v.X = p + 1 then 12 else 8, (v.s p).k, (v.s p).b⟩
  else if (v.s p).a = 8 then ⟨9, 0, 0⟩
  else if (v.s p).a = 9 then (if (v.s (v.s p).k).b = 0 then ⟨if (v.s p).k + 1 = n then 10 else 9, (v.s p).k + 1, (v.s p).b⟩ else v.s p)
  else if (v.s p).a = 10 then ⟨if v.Y = p + 1 then 12 else 11, (v.s p).k, (v.s p).b⟩
  else if (v.s p).a = 11 then ⟨if v.Y = 0 then 1 else 11, (v.s p).k, (v.s p).b⟩
  else if (v.s p).a = 12 then ⟨13, (v.s p).k, (v.s p).b⟩
  else if (v.s p).a = 13 then ⟨14, (v.s p).k, (v.s p).b⟩
  else ⟨1, (v.s p).k, 0⟩
def vX (v : VS) (p : Nat) : Nat := if (v.s p).a = 2 then p + 1 else v.X
def vY (v : VS) (p : Nat) : Nat := if (v.s p).a = 6 then p + 1 else if (v.s p).a = 13 then 0 else v.Y
def vstep (n : Nat) (v : VS) (p : Nat) : VS := ⟨vup v.s p (vone n v p), vX v p, vY v p⟩

/-- One hand alone. -/
def VLoc (n : Nat) (h : VH) : Prop :=
  (1 ≤ h.a ∧ h.a ≤ 14) ∧ (2 ≤ h.a ∧ h.a ≤ 4 ∨ 6 ≤ h.a ∧ h.a ≤ 8 → h.b = 1) ∧ (h.a = 1 ∨ h.a = 5 ∨ 9 ≤ h.a ∧ h.a ≤ 11 → h.b = 0) ∧ (h.a = 9 → h.k < n) ∧ h.b ≤ 1
/-- Hand p is in, or about to: what another one, q, may be. -/
def VRel (p q : Nat) (X Y : Nat) (hp hq : VH) : Prop :=
  (12 ≤ hp.a ∧ hp.a ≤ 13 → ¬ (12 ≤ hq.a ∧ hq.a ≤ 13) ∧ (6 ≤ hq.a ∧ hq.a ≤ 7 → X ≠ q + 1) ∧ (hp.b = 1 → (hq.a = 9 → Y = q + 1 → hq.k ≤ p) ∧ (hq.a = 10 → Y ≠ q + 1)) ∧ (hp.b = 0 → Y = p + 1 ∧ ¬ (6 ≤ hq.a ∧ hq.a ≤ 7))) ∧
  (hp.a = 9 → Y = p + 1 → q < hp.k → ¬ (6 ≤ hq.a ∧ hq.a ≤ 7)) ∧ (hp.a = 10 → Y = p + 1 → ¬ (6 ≤ hq.a ∧ hq.a ≤ 7))
/-- Where Y's hand stands. -/
def vgood (a : Nat) : Prop := 7 ≤ a ∧ a ≤ 10 ∨ 12 ≤ a ∧ a ≤ 13
structure VOk (n : Nat) (v : VS) : Prop where
  loc : ∀ p, p < n → VLoc n (v.s p)
  rel : ∀ p q, p < n → q < n → p ≠ q → VRel p q v.X v.Y (v.s p) (v.s q)
  inY : ∀ p, p < n → 12 ≤ (v.s p).a ∧ (v.s p).a ≤ 13 → v.Y ≠ 0 ∧ ((v.s p).b = 0 → v.Y = p + 1)
  sev : ∀ p, p < n → (v.s p).a = 7 → v.X = p + 1 → v.Y ≠ 0
  yy : v.Y ≠ 0 → v.Y ≤ n ∧ vgood (v.s (v.Y - 1)).a
  xn : v.X ≤ n
  zero : v.Y = 0 → ∃ q, q < n ∧ ((v.s q).a = 14 ∨ 1 ≤ (v.s q).a ∧ (v.s q).a ≤ 3 ∨ (v.s q).a = 6)
theorem vnew_ok (n : Nat) (hn : 1 ≤ n) : VOk n vnew := by
  refine ⟨fun p _ => ?_, fun p q _ _ _ => ?_, fun p _ h => ?_, fun p _ h => ?_, fun h => absurd rfl h, Nat.zero_le _, fun _ => ⟨0, hn, Or.inr (Or.inl ?_)⟩⟩
  · unfold VLoc vnew; dsimp only; omega
  · unfold VRel vnew; dsimp only; omega
  · simp [vnew] at h
  · simp [vnew] at h
  · simp [vnew]
section
variable {n : Nat} {v : VS}
/-- What a line does to the hand: all ways. -/
theorem vone_cases (k : VOk n v) {p : Nat} (hp : p < n) :
    ((v.s p).a = 1 ∧ (vone n v p).a = 2 ∧ (vone n v p).b = 1) ∨ ((v.s p).a = 2 ∧ (vone n v p).a = 3 ∧ (vone n v p).b = (v.s p).b) ∨ ((v.s p).a = 3 ∧ v.Y = 0 ∧ (vone n v p).a = 6 ∧ (vone n v p).b = (v.s p).b) ∨ ((v.s p).a = 3 ∧ v.Y ≠ 0 ∧ (vone n v p).a = 4 ∧ (vone n v p).b = (v.s p).b) ∨
    ((v.s p).a = 4 ∧ (vone n v p).a = 5 ∧ (vone n v p).b = 0) ∨ ((v.s p).a = 5 ∧ v.Y = 0 ∧ (vone n v p).a = 1 ∧ (vone n v p).b = (v.s p).b) ∨ ((v.s p).a = 5 ∧ v.Y ≠ 0 ∧ (vone n v p).a = 5 ∧ (vone n v p).b = (v.s p).b) ∨ ((v.s p).a = 6 ∧ (vone n v p).a = 7 ∧ (vone n v p).b = (v.s p).b) ∨
    ((v.s p).a = 7 ∧ v.X = p + 1 ∧ (vone n v p).a = 12 ∧ (vone n v p).b = (v.s p).b) ∨ ((v.s p).a = 7 ∧ v.X ≠ p + 1 ∧ (vone n v p).a = 8 ∧ (vone n v p).b = (v.s p).b) ∨ ((v.s p).a = 8 ∧ (vone n v p).a = 9 ∧ (vone n v p).k = 0 ∧ (vone n v p).b = 0) ∨
    ((v.s p).a = 9 ∧ (v.s (v.s p).k).b = 0 ∧ (v.s p).k + 1 = n ∧ (vone n v p).a = 10 ∧ (vone n v p).b = (v.s p).b) ∨ ((v.s p).a = 9 ∧ (v.s (v.s p).k).b = 0 ∧ (v.s p).k + 1 ≠ n ∧ (vone n v p).a = 9 ∧ (vone n v p).k = (v.s p).k + 1 ∧ (vone n v p).b = (v.s p).b) ∨
    ((v.s p).a = 9 ∧ (v.s (v.s p).k).b ≠ 0 ∧ vone n v p = v.s p ∧ (vone n v p).a = 9 ∧ (vone n v p).b = (v.s p).b) ∨ ((v.s p).a = 10 ∧ v.Y = p + 1 ∧ (vone n v p).a = 12 ∧ (vone n v p).b = (v.s p).b) ∨ ((v.s p).a = 10 ∧ v.Y ≠ p + 1 ∧ (vone n v p).a = 11 ∧ (vone n v p).b = (v.s p).b) ∨
    ((v.s p).a = 11 ∧ v.Y = 0 ∧ (vone n v p).a = 1 ∧ (vone n v p).b = (v.s p).b) ∨ ((v.s p).a = 11 ∧ v.Y ≠ 0 ∧ (vone n v p).a = 11 ∧ (vone n v p).b = (v.s p).b) ∨ ((v.s p).a = 12 ∧ (vone n v p).a = 13 ∧ (vone n v p).b = (v.s p).b) ∨ ((v.s p).a = 13 ∧ (vone n v p).a = 14 ∧ (vone n v p).b = (v.s p).b) ∨ ((v.s p).a = 14 ∧ (vone n v p).a = 1 ∧ (vone n v p).b = 0) := by
  have hl := (k.loc p hp).1
  unfold vone
  have h14 : (v.s p).a = 1 ∨ (v.s p).a = 2 ∨ (v.s p).a = 3 ∨ (v.s p).a = 4 ∨ (v.s p).a = 5 ∨ (v.s p).a = 6 ∨ (v.s p).a = 7 ∨ (v.s p).a = 8 ∨ (v.s p).a = 9 ∨ (v.s p).a = 10 ∨ (v.s p).a = 11 ∨ (v.s p).a = 12 ∨ (v.s p).a = 13 ∨ (v.s p).a = 14 := by omega
  rcases h14 with h | h | h | h | h | h | h | h | h | h | h | h | h | h
  all_goals simp only [h]
  · simp
  · simp
  · by_cases e : v.Y = 0 <;> simp [e]
  · simp
  · by_cases e : v.Y = 0 <;> simp [e]
  · simp
  · by_cases e : v.X = p + 1 <;> simp [e]
  · simp
  · by_cases e : (v.s (v.s p).k).b = 0
    · by_cases e2 : (v.s p).k + 1 = n <;> simp [e, e2]
    · simp [e, h]
  · by_cases e : v.Y = p + 1 <;> simp [e]
  · by_cases e : v.Y = 0 <;> simp [e]
  · simp
  · simp
  · simp
theorem vX_cases (v : VS) (x : Nat) : (v.s x).a = 2 ∧ vX v x = x + 1 ∨ (v.s x).a ≠ 2 ∧ vX v x = v.X := by
  unfold vX
  by_cases e : (v.s x).a = 2
  · exact Or.inl ⟨e, if_pos e⟩
  · exact Or.inr ⟨e, if_neg e⟩
theorem vY_cases (v : VS) (x : Nat) : (v.s x).a = 6 ∧ vY v x = x + 1 ∨ (v.s x).a = 13 ∧ vY v x = 0 ∨ (v.s x).a ≠ 6 ∧ (v.s x).a ≠ 13 ∧ vY v x = v.Y := by
  unfold vY
  by_cases e : (v.s x).a = 6
  · exact Or.inl ⟨e, if_pos e⟩
  · by_cases e2 : (v.s x).a = 13
    · exact Or.inr (Or.inl ⟨e2, by rw [if_neg e, if_pos e2]⟩)
    · exact Or.inr (Or.inr ⟨e, e2, by rw [if_neg e, if_neg e2]⟩)
/-- The pair, when a third one has done its line. -/
theorem VOk.rel_third (k : VOk n v) {p q x : Nat} (hp : p < n) (hq : q < n) (hx : x < n) (hpq : p ≠ q) (hxp : x ≠ p) (hxq : x ≠ q) : VRel p q (vX v x) (vY v x) (v.s p) (v.s q) := by
  have h1 := k.rel p q hp hq hpq
  have h2 := k.rel p x hp hx (fun e => hxp e.symm)
  have hX : vX v x = v.X ∨ vX v x = x + 1 := by rcases vX_cases v x with h | h <;> omega
  refine ⟨fun hc => ⟨(h1.1 hc).1, fun hq6 => ?_, fun hb => ⟨fun h9 hy => ?_, fun h10 hy => ?_⟩, fun hb => ⟨?_, ((h1.1 hc).2.2.2 hb).2⟩⟩, fun h9 hy hk => ?_, fun h10 hy => ?_⟩
  · have h3 := (h1.1 hc).2.1 hq6
    rcases hX with h | h <;> omega
  · have h3 := ((h1.1 hc).2.2.1 hb).1 h9
    rcases vY_cases v x with ⟨g1, g2⟩ | ⟨g1, g2⟩ | ⟨g1, g2, g3⟩
    · omega
    · omega
    · exact h3 (by omega)
  · have h3 := ((h1.1 hc).2.2.1 hb).2 h10
    rcases vY_cases v x with ⟨g1, g2⟩ | ⟨g1, g2⟩ | ⟨g1, g2, g3⟩
    · omega
    · omega
    · exact h3 (by omega)
  · have h3 := (h1.1 hc).2.2.2 hb
    have h4 := ((h2.1 hc).2.2.2 hb).2
    have h5 := (h2.1 hc).1
    rcases vY_cases v x with ⟨g1, g2⟩ | ⟨g1, g2⟩ | ⟨g1, g2, g3⟩
    · exact absurd ⟨by omega, by omega⟩ h4
    · exact absurd ⟨by omega, by omega⟩ h5
    · omega
  · rcases vY_cases v x with ⟨g1, g2⟩ | ⟨g1, g2⟩ | ⟨g1, g2, g3⟩
    · omega
    · omega
    · exact h1.2.1 h9 (by omega) hk
  · rcases vY_cases v x with ⟨g1, g2⟩ | ⟨g1, g2⟩ | ⟨g1, g2, g3⟩
    · omega
    · omega
    · exact h1.2.2 h10 (by omega)
theorem VRel.triv {p q X Y : Nat} {hp hq : VH} (h : hp.a ≠ 9 ∧ hp.a ≠ 10 ∧ hp.a ≠ 12 ∧ hp.a ≠ 13) : VRel p q X Y hp hq :=
  ⟨fun hc => by omega, fun hc => by omega, fun hc => by omega⟩
theorem vX_same {v : VS} {x : Nat} (h : (v.s x).a ≠ 2) : vX v x = v.X := if_neg h
theorem vY_same {v : VS} {x : Nat} (h : (v.s x).a ≠ 6) (h2 : (v.s x).a ≠ 13) : vY v x = v.Y := by unfold vY; rw [if_neg h, if_neg h2]
/-- The pair, when its first one has done its line. -/
theorem VOk.rel_first (k : VOk n v) {p q : Nat} (hp : p < n) (hq : q < n) (hpq : p ≠ q) : VRel p q (vX v p) (vY v p) (vone n v p) (v.s q) := by
  have h1 := k.rel p q hp hq hpq
  have h2 := k.rel q p hq hp (fun e => hpq e.symm)
  have hlp := k.loc p hp
  have hlq := k.loc q hq
  have hk : q = (v.s p).k → (v.s q).b = (v.s (v.s p).k).b := fun e => by rw [← e]
  have noD : (v.s q).b = 0 → ¬ (6 ≤ (v.s q).a ∧ (v.s q).a ≤ 7) := fun e h => by have := hlq.2.1 (by omega); omega
  rcases vone_cases k hp with h | h | h | h | h | h | h | h | h | h | h | h | h | h | h | h | h | h | h | h | h
  · clear h1 h2 hlp hlq hk noD; exact VRel.triv (by omega)
  · clear h1 h2 hlp hlq hk noD; exact VRel.triv (by omega)
  · clear h1 h2 hlp hlq hk noD; exact VRel.triv (by omega)
  · clear h1 h2 hlp hlq hk noD; exact VRel.triv (by omega)
  · clear h1 h2 hlp hlq hk noD; exact VRel.triv (by omega)
  · clear h1 h2 hlp hlq hk noD; exact VRel.triv (by omega)
  · clear h1 h2 hlp hlq hk noD; exact VRel.triv (by omega)
  · clear h1 h2 hlp hlq hk noD; exact VRel.triv (by omega)
  · obtain ⟨b1, b2, b3, b4⟩ := h
    rw [vX_same (by omega), vY_same (by omega) (by omega)]
    have hb : (v.s p).b = 1 := hlp.2.1 (Or.inr (by omega))
    refine ⟨fun _ => ⟨fun hc => (h2.1 hc).2.1 (by omega) b2, fun _ => by omega, fun _ => ⟨fun h9 hy => ?_, fun h10 hy => h2.2.2 h10 hy (by omega)⟩, fun hb0 => by omega⟩, fun h9 => by omega, fun h10 => by omega⟩
    rcases Nat.lt_or_ge p (v.s q).k with h | h
    · exact absurd ⟨by omega, by omega⟩ (h2.2.1 h9 hy h)
    · exact h
  · clear h1 h2 hlp hlq hk noD; exact VRel.triv (by omega)
  · obtain ⟨b1, b2, b3, b4⟩ := h
    exact ⟨fun hc => by omega, fun _ _ hk => by omega, fun h10 => by omega⟩
  · obtain ⟨b1, b2, b3, b4, b5⟩ := h
    rw [vX_same (by omega), vY_same (by omega) (by omega)]
    refine ⟨fun hc => by omega, fun h9 => by omega, fun _ hy => ?_⟩
    rcases Nat.lt_or_ge q (v.s p).k with h | h
    · exact h1.2.1 b1 hy h
    · exact noD ((hk (by omega)).trans b2)
  · obtain ⟨b1, b2, b3, b4, b5, b6⟩ := h
    rw [vX_same (by omega), vY_same (by omega) (by omega)]
    refine ⟨fun hc => by omega, fun _ hy hlt => ?_, fun h10 => by omega⟩
    rcases Nat.lt_or_ge q (v.s p).k with h | h
    · exact h1.2.1 b1 hy h
    · exact noD ((hk (by omega)).trans b2)
  · obtain ⟨b1, b2, b3, _⟩ := h
    rw [vX_same (by omega), vY_same (by omega) (by omega), b3]
    exact h1
  · obtain ⟨b1, b2, b3, b4⟩ := h
    rw [vX_same (by omega), vY_same (by omega) (by omega)]
    have hb : (v.s p).b = 0 := hlp.2.2.1 (Or.inr (Or.inr (by omega)))
    refine ⟨fun _ => ⟨fun hc => ?_, fun h6 => absurd h6 (h1.2.2 b1 b2), fun hb1 => by omega, fun _ => ⟨b2, h1.2.2 b1 b2⟩⟩, fun h9 => by omega, fun h10 => by omega⟩
    have hq1 := hlq.2.2.2.2
    rcases Nat.eq_zero_or_pos (v.s q).b with e | e
    · have := ((h2.1 hc).2.2.2 e).1; omega
    · exact ((h2.1 hc).2.2.1 (by omega)).2 b1 b2
  · clear h1 h2 hlp hlq hk noD; exact VRel.triv (by omega)
  · clear h1 h2 hlp hlq hk noD; exact VRel.triv (by omega)
  · clear h1 h2 hlp hlq hk noD; exact VRel.triv (by omega)
  · obtain ⟨b1, b2, b3⟩ := h
    rw [vX_same (by omega), vY_same (by omega) (by omega)]
    have h3 := h1.1 (by omega)
    refine ⟨fun _ => ⟨h3.1, h3.2.1, fun hb => h3.2.2.1 (by omega), fun hb => h3.2.2.2 (by omega)⟩, fun h9 => by omega, fun h10 => by omega⟩
  · clear h1 h2 hlp hlq hk noD; exact VRel.triv (by omega)
  · clear h1 h2 hlp hlq hk noD; exact VRel.triv (by omega)
theorem VRel.easy {p q X X' Y : Nat} {hp hq hq' : VH} (h : VRel p q X Y hp hq) (h' : hq'.a ≠ 6 ∧ hq'.a ≠ 7 ∧ hq'.a ≠ 9 ∧ hq'.a ≠ 10 ∧ hq'.a ≠ 12 ∧ hq'.a ≠ 13) : VRel p q X' Y hp hq' :=
  ⟨fun hc => ⟨by omega, fun _ => by omega, fun _ => ⟨fun _ => by omega, fun _ => by omega⟩, fun hb => ⟨((h.1 hc).2.2.2 hb).1, by omega⟩⟩, fun _ _ _ => by omega, fun _ _ => by omega⟩
/-- The pair, when its second one has done its line. -/
theorem VOk.rel_second (k : VOk n v) {p q : Nat} (hp : p < n) (hq : q < n) (hpq : p ≠ q) : VRel p q (vX v q) (vY v q) (v.s p) (vone n v q) := by
  have h1 := k.rel p q hp hq hpq
  have hlp := (k.loc p hp).2.2.2.2
  have hi := k.inY p hp
  have hk : p = (v.s q).k → (v.s p).b = (v.s (v.s q).k).b := fun e => by rw [← e]
  rcases vone_cases k hq with h | h | h | h | h | h | h | h | h | h | h | h | h | h | h | h | h | h | h | h | h
  · rw [vY_same (by omega) (by omega)]; exact h1.easy (by clear h1 hi hk; omega)
  · rw [vY_same (by omega) (by omega)]; exact h1.easy (by clear h1 hi hk; omega)
  · obtain ⟨b1, b2, b3, b4⟩ := h
    rw [vX_same (by omega), vY_same (by omega) (by omega)]
    exact ⟨fun hc => absurd b2 (hi hc).1, fun _ hy => by omega, fun _ hy => by omega⟩
  · rw [vY_same (by omega) (by omega)]; exact h1.easy (by clear h1 hi hk; omega)
  · rw [vY_same (by omega) (by omega)]; exact h1.easy (by clear h1 hi hk; omega)
  · rw [vY_same (by omega) (by omega)]; exact h1.easy (by clear h1 hi hk; omega)
  · rw [vY_same (by omega) (by omega)]; exact h1.easy (by clear h1 hi hk; omega)
  · obtain ⟨b1, b2, b3⟩ := h
    have hY : vY v q = q + 1 := if_pos b1
    rw [vX_same (by omega), hY]
    refine ⟨fun hc => ⟨by omega, fun _ => (h1.1 hc).2.1 (by omega), fun _ => ⟨fun _ => by omega, fun _ => by omega⟩, fun hb => absurd ⟨by omega, by omega⟩ ((h1.1 hc).2.2.2 hb).2⟩, fun _ hy => by omega, fun _ hy => by omega⟩
  · obtain ⟨b1, b2, b3, b4⟩ := h
    rw [vX_same (by omega), vY_same (by omega) (by omega)]
    exact ⟨fun hc => absurd b2 ((h1.1 hc).2.1 (by omega)), fun _ _ _ => by omega, fun _ _ => by omega⟩
  · rw [vY_same (by omega) (by omega)]; exact h1.easy (by clear h1 hi hk; omega)
  · obtain ⟨b1, b2, b3, b4⟩ := h
    rw [vX_same (by omega), vY_same (by omega) (by omega)]
    exact ⟨fun hc => ⟨by omega, fun _ => by omega, fun _ => ⟨fun _ _ => by omega, fun _ => by omega⟩, fun hb => ⟨((h1.1 hc).2.2.2 hb).1, by omega⟩⟩, fun _ _ _ => by omega, fun _ _ => by omega⟩
  · obtain ⟨b1, b2, b3, b4, b5⟩ := h
    rw [vX_same (by omega), vY_same (by omega) (by omega)]
    refine ⟨fun hc => ⟨by omega, fun _ => by omega, fun hb => ⟨fun _ => by omega, fun _ hy => ?_⟩, fun hb => ⟨((h1.1 hc).2.2.2 hb).1, by omega⟩⟩, fun _ _ _ => by omega, fun _ _ => by omega⟩
    have h3 := ((h1.1 hc).2.2.1 hb).1 b1 hy
    have h4 : p ≠ (v.s q).k := fun e => by have := hk e; omega
    omega
  · obtain ⟨b1, b2, b3, b4, b5, b6⟩ := h
    rw [vX_same (by omega), vY_same (by omega) (by omega)]
    refine ⟨fun hc => ⟨by omega, fun _ => by omega, fun hb => ⟨fun _ hy => ?_, fun _ => by omega⟩, fun hb => ⟨((h1.1 hc).2.2.2 hb).1, by omega⟩⟩, fun _ _ _ => by omega, fun _ _ => by omega⟩
    have h3 := ((h1.1 hc).2.2.1 hb).1 b1 hy
    have h4 : p ≠ (v.s q).k := fun e => by have := hk e; omega
    omega
  · obtain ⟨b1, b2, b3, _⟩ := h
    rw [vX_same (by omega), vY_same (by omega) (by omega), b3]
    exact h1
  · obtain ⟨b1, b2, b3, b4⟩ := h
    rw [vX_same (by omega), vY_same (by omega) (by omega)]
    refine ⟨fun hc => ?_, fun _ _ _ => by omega, fun _ _ => by omega⟩
    exfalso
    rcases Nat.eq_zero_or_pos (v.s p).b with e | e
    · have := ((h1.1 hc).2.2.2 e).1; omega
    · exact ((h1.1 hc).2.2.1 (by omega)).2 b1 b2
  · rw [vY_same (by omega) (by omega)]; exact h1.easy (by clear h1 hi hk; omega)
  · rw [vY_same (by omega) (by omega)]; exact h1.easy (by clear h1 hi hk; omega)
  · rw [vY_same (by omega) (by omega)]; exact h1.easy (by clear h1 hi hk; omega)
  · obtain ⟨b1, b2, b3⟩ := h
    rw [vX_same (by omega), vY_same (by omega) (by omega)]
    exact ⟨fun hc => absurd ⟨by omega, by omega⟩ (h1.1 hc).1, fun _ _ _ => by omega, fun _ _ => by omega⟩
  · obtain ⟨b1, b2, b3⟩ := h
    have hY : vY v q = 0 := by unfold vY; rw [if_neg (by omega), if_pos b1]
    rw [hY]
    exact ⟨fun hc => absurd ⟨by omega, by omega⟩ (h1.1 hc).1, fun _ hy => by omega, fun _ hy => by omega⟩
  · rw [vY_same (by omega) (by omega)]; exact h1.easy (by clear h1 hi hk; omega)
theorem vone_loc (k : VOk n v) {p : Nat} (hp : p < n) : VLoc n (vone n v p) := by
  have hl := k.loc p hp
  rcases vone_cases k hp with h | h | h | h | h | h | h | h | h | h | h | h | h | h | h | h | h | h | h | h | h
  case inr.inr.inr.inr.inr.inr.inr.inr.inr.inr.inr.inr.inr.inl => rw [h.2.2.1]; exact hl
  all_goals (unfold VLoc at hl ⊢; omega)
theorem VOk.step (k : VOk n v) {x : Nat} (hx : x < n) : VOk n (vstep n v x) := by
  have hself : ∀ r, r ≠ x → (vstep n v x).s r = v.s r := fun r hr => vup_other hr
  have hsx : (vstep n v x).s x = vone n v x := vup_same _ _ _
  have hlx := k.loc x hx
  have hcx := vone_cases k hx
  have hXx := vX_cases v x
  have hYx := vY_cases v x
  refine ⟨fun p hp => ?_, fun p q hp hq hpq => ?_, fun p hp hc => ?_, fun p hp h7 hX => ?_, fun hY => ?_, ?_, fun hY => ?_⟩
  · by_cases e : p = x
    · rw [e, hsx]; exact vone_loc k hx
    · rw [hself p e]; exact k.loc p hp
  · show VRel p q (vX v x) (vY v x) _ _
    by_cases e : p = x
    · subst e
      rw [hsx, hself q (fun e => hpq e.symm)]
      exact k.rel_first hp hq hpq
    · rw [hself p e]
      by_cases e2 : q = x
      · subst e2; rw [hsx]; exact k.rel_second hp hq hpq
      · rw [hself q e2]; exact k.rel_third hp hq hx hpq (fun h => e h.symm) (fun h => e2 h.symm)
  · show vY v x ≠ 0 ∧ (_ → vY v x = p + 1)
    by_cases e : p = x
    · subst e
      rw [hsx] at hc ⊢
      have h12 := k.inY p hp
      have h7 := k.sev p hp
      have hl2 := hlx.2.1
      clear hlx hXx
      omega
    · rw [hself p e] at hc ⊢
      have h1 := k.inY p hp hc
      have h2 := (k.rel p x hp hx e).1 hc
      rcases hYx with ⟨g1, g2⟩ | ⟨g1, g2⟩ | ⟨g1, g2, g3⟩
      · exact ⟨by omega, fun hb => absurd ⟨by omega, by omega⟩ (h2.2.2.2 hb).2⟩
      · exact absurd ⟨by omega, by omega⟩ h2.1
      · rw [g3]; exact h1
  · show vY v x ≠ 0
    by_cases e : p = x
    · subst e
      rw [hsx] at h7
      clear hlx
      omega
    · rw [hself p e] at h7
      have hX' : v.X = p + 1 := by
        have : vX v x = p + 1 := hX
        clear hlx hcx hYx
        omega
      have h1 := k.sev p hp h7 hX'
      rcases hYx with ⟨g1, g2⟩ | ⟨g1, g2⟩ | ⟨g1, g2, g3⟩
      · omega
      · have := ((k.rel x p hx hp (fun h => e h.symm)).1 (by omega)).2.1 (by omega)
        omega
      · omega
  · have hY' : vY v x ≠ 0 := hY
    show vY v x ≤ n ∧ vgood ((vstep n v x).s (vY v x - 1)).a
    unfold vgood
    rcases hYx with ⟨g1, g2⟩ | ⟨g1, g2⟩ | ⟨g1, g2, g3⟩
    · rw [g2, Nat.add_sub_cancel, hsx]
      clear hlx hXx
      omega
    · exact absurd g2 hY'
    · rw [g3] at hY' ⊢
      have h1 := k.yy hY'
      unfold vgood at h1
      by_cases e : v.Y - 1 = x
      · rw [e, hsx]
        rw [e] at h1
        have hyx : v.Y = x + 1 := by omega
        rcases hcx with h | h | h | h | h | h | h | h | h | h | h | h | h | h | h | h | h | h | h | h | h
        case inr.inr.inr.inr.inr.inr.inr.inr.inr.inr.inr.inr.inr.inl => rw [h.2.2.1]; exact h1
        all_goals (clear hlx hXx; omega)
      · rw [hself _ e]; exact h1
  · show vX v x ≤ n
    have := k.xn
    clear hlx hcx hYx
    omega
  · have hY' : vY v x = 0 := hY
    by_cases g1 : (v.s x).a = 13
    · exact ⟨x, hx, Or.inl (by rw [hsx]; clear hlx hXx hYx; omega)⟩
    · have hY0 : v.Y = 0 := by clear hlx hcx hXx; omega
      obtain ⟨q, hq, h1⟩ := k.zero hY0
      by_cases e : q = x
      · subst e
        refine ⟨q, hq, ?_⟩
        rw [hsx]
        clear hlx hXx
        omega
      · exact ⟨q, hq, by rw [hself q e]; exact h1⟩
/-- One hand is in. -/
theorem VOk.alone (k : VOk n v) {p q : Nat} (hp : p < n) (hq : q < n) (ap : (v.s p).a = 12) (aq : (v.s q).a = 12) : p = q := by
  by_cases e : p = q
  · exact e
  · exact absurd ⟨by omega, by omega⟩ ((k.rel p q hp hq e).1 (by omega)).1
/-- Who is alone is in by five of its own steps. -/
theorem VOk.soon (k : VOk n v) (h : ∀ q, q < n → (v.s q).a = 1) {p : Nat} (_hp : p < n) : ((vstep n (vstep n (vstep n (vstep n (vstep n v p) p) p) p) p).s p).a = 12 := by
  have hY : v.Y = 0 := by
    rcases Nat.eq_zero_or_pos v.Y with e | e
    · exact e
    · have h1 := k.yy (by omega)
      unfold vgood at h1
      have := h (v.Y - 1) (by omega)
      omega
  have h1 := h p _hp
  simp [vstep, vone, vX, vY, vup_same, h1, hY]
end
end Go.Proofs.YtjnfecaghkgdpaaDoor
