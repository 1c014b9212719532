/-
  Chapter 13 as plain mathematics: one row of all. It imports nothing of the translation.
-/
namespace Go.Proofs.YtegplglokaoemaaDoor

def uput {α : Type} (f : Nat → α) (i : Nat) (x : α) : Nat → α := fun j => if j = i then x else f j
theorem uput_same {α : Type} (f : Nat → α) (i : Nat) (x : α) : uput f i x i = x := by simp [uput]
theorem uput_other {α : Type} {f : Nat → α} {i j : Nat} {x : α} (h : j ≠ i) : uput f i x j = f j := by simp [uput, h]
/-- What the deeds of the first cells add. -/
def usum (add cell : Nat → Nat) : Nat → Nat
  | 0 => 0
  | j + 1 => usum add cell j + add (cell j)
theorem usum_congr {add add' cell cell' : Nat → Nat} : ∀ j, (∀ i, i < j → add' (cell' i) = add (cell i)) → usum add' cell' j = usum add cell j := by
  intro j
  induction j with
  | zero => intro _; rfl
  | succ j ih =>
    intro h
    unfold usum
    rw [ih fun i hi => h i (by omega), h j (by omega)]
/-- So many different ones below a bound are no more than it. -/
theorem upigeon : ∀ (m k : Nat) (f : Nat → Nat), (∀ i, i < m → f i < k) → (∀ i j, i < m → j < m → f i = f j → i = j) → m ≤ k := by
  intro m
  induction m with
  | zero => intro k f _ _; exact Nat.zero_le _
  | succ m ih =>
    intro k f h1 h2
    have h3 := h1 m (by omega)
    have h4 := ih (k - 1) (fun i => if f i = k - 1 then f m else f i) (fun i hi => by
      have a1 := h1 i (by omega)
      have a2 : f i ≠ f m := fun e => by have := h2 i m (by omega) (by omega) e; omega
      split
      · rename_i e; rw [e] at a2; omega
      · omega) (fun i j hi hj e => by
      have a2 : f i ≠ f m := fun e => by have := h2 i m (by omega) (by omega) e; omega
      have a3 : f j ≠ f m := fun e => by have := h2 j m (by omega) (by omega) e; omega
      split at e
      · split at e
        · exact h2 i j (by omega) (by omega) (by omega)
        · exact absurd e.symm a3
      · split at e
        · exact absurd e a2
        · exact h2 i j (by omega) (by omega) e)
    omega

/-- Of a hand: its line, cell, sum, deed. -/
structure UH where
  a : Nat
  c : Nat
  s : Nat
  e : Nat
/-- All hands; the cells that are decided, how many; what deeds add, how many. -/
structure US where
  h : Nat → UH
  cell : Nat → Nat
  m : Nat
  add : Nat → Nat
  k : Nat
def unew : US := ⟨fun _ => ⟨0, 0, 0, 0⟩, fun _ => 0, 0, fun _ => 0, 0⟩
def ubeg (v : US) (p x : Nat) : US := ⟨uput v.h p ⟨1, 0, 0, v.k⟩, v.cell, v.m, uput v.add v.k x, v.k + 1⟩
def ulast (v : US) (p : Nat) : Prop := (v.h p).a ≠ 1 ∧ v.cell (v.h p).c = (v.h p).e
instance (v : US) (p : Nat) : Decidable (ulast v p) := by unfold ulast; exact inferInstance
def unew1 (v : US) (p : Nat) : Prop := (v.h p).a = 1 ∧ (v.h p).c = v.m
instance (v : US) (p : Nat) : Decidable (unew1 v p) := by unfold unew1; exact inferInstance
def uone (v : US) (p : Nat) : UH :=
  if (v.h p).a = 1 then ⟨2, (v.h p).c, (v.h p).s, (v.h p).e⟩
  else if v.cell (v.h p).c = (v.h p).e then ⟨0, 0, 0, 0⟩
  else ⟨1, (v.h p).c + 1, (v.h p).s + v.add (v.cell (v.h p).c), (v.h p).e⟩
def ustep (v : US) (p : Nat) : US :=
  ⟨uput v.h p (uone v p), if unew1 v p then uput v.cell v.m (v.h p).e else v.cell, if unew1 v p then v.m + 1 else v.m, v.add, v.k⟩

/-- A state; how many cells were decided when a deed began; when it began, when it ended (1000: it did not); what it got, one more (0: nothing). -/
structure UG where
  v : US
  bm : Nat → Nat
  bt : Nat → Nat
  et : Nat → Nat
  got : Nat → Nat
def ugnew : UG := ⟨unew, fun _ => 0, fun _ => 0, fun _ => 1000, fun _ => 0⟩
def ugbeg (g : UG) (T p x : Nat) : UG := ⟨ubeg g.v p x, uput g.bm g.v.k g.v.m, uput g.bt g.v.k T, g.et, g.got⟩
def ugstep (g : UG) (T p : Nat) : UG :=
  ⟨ustep g.v p, g.bm, g.bt, if ulast g.v p then uput g.et (g.v.h p).e T else g.et, if ulast g.v p then uput g.got (g.v.h p).e ((g.v.h p).s + 1) else g.got⟩

structure UOk (n T : Nat) (g : UG) : Prop where
  ln : ∀ p, p < n → (g.v.h p).a ≤ 2
  cm : ∀ p, p < n → (g.v.h p).a ≠ 0 → (g.v.h p).c ≤ g.v.m ∧ ((g.v.h p).a = 2 → (g.v.h p).c < g.v.m)
  sm : ∀ p, p < n → (g.v.h p).a ≠ 0 → (g.v.h p).s = usum g.v.add g.v.cell (g.v.h p).c
  ek : ∀ p, p < n → (g.v.h p).a ≠ 0 → (g.v.h p).e < g.v.k ∧ g.bm (g.v.h p).e ≤ g.v.m ∧ g.got (g.v.h p).e = 0
  ee : ∀ p q, p < n → q < n → (g.v.h p).a ≠ 0 → (g.v.h q).a ≠ 0 → (g.v.h p).e = (g.v.h q).e → p = q
  ep : ∀ p i, p < n → (g.v.h p).a ≠ 0 → i < (g.v.h p).c → g.v.cell i ≠ (g.v.h p).e
  ck : ∀ i, i < g.v.m → g.v.cell i < g.v.k ∧ g.bm (g.v.cell i) ≤ i
  cj : ∀ i j, i < g.v.m → j < g.v.m → g.v.cell i = g.v.cell j → i = j
  gt : ∀ d, g.got d ≠ 0 → d < g.v.k ∧ ∃ j, j < g.v.m ∧ g.v.cell j = d ∧ g.got d = usum g.v.add g.v.cell j + 1
  en : ∀ d, g.got d = 0 → g.et d = 1000
  tm : ∀ d, d < g.v.k → g.bt d < T
  rw : ∀ d f, f < g.v.k → g.et d < g.bt f → ∃ j, j < g.bm f ∧ j < g.v.m ∧ g.v.cell j = d
theorem ugnew_ok (n : Nat) : UOk n 0 ugnew := by
  refine ⟨fun p _ => Nat.zero_le _, fun p _ h => absurd rfl h, fun p _ h => absurd rfl h, fun p _ h => absurd rfl h, fun p q _ _ h => absurd rfl h, fun p i _ h => absurd rfl h, fun i h => ?_, fun i j h => ?_, fun d h => absurd rfl h, fun d _ => rfl, fun d h => ?_, fun d f h => ?_⟩
  · exact absurd h (Nat.not_lt_zero _)
  · exact absurd h (Nat.not_lt_zero _)
  · exact absurd h (Nat.not_lt_zero _)
  · exact absurd h (Nat.not_lt_zero _)
section
variable {n T : Nat} {g : UG} (k : UOk n T g)
include k
theorem UOk.later {U : Nat} (h : T ≤ U) : UOk n U g := ⟨k.ln, k.cm, k.sm, k.ek, k.ee, k.ep, k.ck, k.cj, k.gt, k.en, fun d hd => by have := k.tm d hd; omega, k.rw⟩
/-- No more cells are decided than deeds are begun. -/
theorem UOk.few : g.v.m ≤ g.v.k := upigeon g.v.m g.v.k g.v.cell (fun i h => (k.ck i h).1) k.cj
/-- Another one begins. -/
theorem UOk.beg {p x : Nat} (hp : p < n) (h0 : (g.v.h p).a = 0) (hT : T ≤ 1000) : UOk n (T + 1) (ugbeg g T p x) := by
  have hs : ∀ j, j ≤ g.v.m → usum (uput g.v.add g.v.k x) g.v.cell j = usum g.v.add g.v.cell j := fun j hj =>
    usum_congr j fun i hi => uput_other (by have := (k.ck i (by omega)).1; omega)
  have hme : (ugbeg g T p x).v.h p = ⟨1, 0, 0, g.v.k⟩ := uput_same _ _ _
  have hot : ∀ q, q ≠ p → (ugbeg g T p x).v.h q = g.v.h q := fun q h => uput_other h
  have hbm : ∀ d, d < g.v.k → (ugbeg g T p x).bm d = g.bm d := fun d h => uput_other (by omega)
  have hbt : ∀ d, d < g.v.k → (ugbeg g T p x).bt d = g.bt d := fun d h => uput_other (by omega)
  have hbmk : (ugbeg g T p x).bm g.v.k = g.v.m := uput_same _ _ _
  have hbtk : (ugbeg g T p x).bt g.v.k = T := uput_same _ _ _
  have hk : (ugbeg g T p x).v.k = g.v.k + 1 := rfl
  have hm : (ugbeg g T p x).v.m = g.v.m := rfl
  have hgk : g.got g.v.k = 0 := by
    rcases Nat.eq_zero_or_pos (g.got g.v.k) with h | h
    · exact h
    · have := (k.gt g.v.k (by omega)).1; omega
  refine ⟨fun q hq => ?_, fun q hq h => ?_, fun q hq h => ?_, fun q hq h => ?_, fun q r hq hr h1 h2 e => ?_, fun q i hq h hi => ?_, fun i hi => ?_, k.cj, fun d h => ?_, k.en, fun d h => ?_, fun d f hf h => ?_⟩
  · by_cases e : q = p
    · subst e; rw [hme]; exact Nat.le_succ _
    · rw [hot q e]; exact k.ln q hq
  · by_cases e : q = p
    · subst e; rw [hme]; exact ⟨Nat.zero_le _, fun h => by have : (1 : Nat) = 2 := h; omega⟩
    · rw [hot q e] at h ⊢; exact k.cm q hq h
  · by_cases e : q = p
    · subst e; rw [hme]; rfl
    · rw [hot q e] at h ⊢
      show _ = usum (uput g.v.add g.v.k x) g.v.cell _
      rw [hs _ (k.cm q hq h).1]; exact k.sm q hq h
  · by_cases e : q = p
    · subst e; rw [hme]
      exact ⟨Nat.lt_succ_self _, by rw [show (UH.e ⟨1, 0, 0, g.v.k⟩) = g.v.k from rfl, hbmk]; exact Nat.le_refl _, hgk⟩
    · rw [hot q e] at h ⊢
      have h1 := k.ek q hq h
      rw [hk, hbm _ h1.1]; exact ⟨by omega, h1.2⟩
  · by_cases e1 : q = p
    · by_cases e2 : r = p
      · omega
      · rw [e1, hme, hot r e2] at e
        rw [hot r e2] at h2
        have := (k.ek r hr h2).1
        have e : g.v.k = (g.v.h r).e := e
        omega
    · by_cases e2 : r = p
      · rw [e2, hme, hot q e1] at e
        rw [hot q e1] at h1
        have := (k.ek q hq h1).1
        have e : (g.v.h q).e = g.v.k := e
        omega
      · rw [hot q e1] at h1 e
        rw [hot r e2] at h2 e
        exact k.ee q r hq hr h1 h2 e
  · by_cases e : q = p
    · subst e; rw [hme] at hi; exact absurd hi (Nat.not_lt_zero _)
    · rw [hot q e] at h hi ⊢; exact k.ep q i hq h hi
  · have h1 := k.ck i hi
    exact ⟨Nat.lt_succ_of_lt h1.1, by rw [show (ugbeg g T p x).v.cell = g.v.cell from rfl, hbm _ h1.1]; exact h1.2⟩
  · obtain ⟨h1, j, h2, h3, h4⟩ := k.gt d h
    exact ⟨Nat.lt_succ_of_lt h1, j, h2, h3, by show _ = usum (uput g.v.add g.v.k x) g.v.cell _ + 1; rw [hs _ (by omega)]; exact h4⟩
  · rw [hk] at h
    by_cases e : d = g.v.k
    · rw [e, hbtk]; omega
    · rw [hbt d (by omega)]; have := k.tm d (by omega); omega
  · rw [hk] at hf
    by_cases e : f = g.v.k
    · rw [e, hbtk] at h
      rw [e, hbmk, hm]
      have hd : g.got d ≠ 0 := fun e => by
        have := k.en d e
        have h : g.et d < T := h
        omega
      obtain ⟨h1, j, h2, h3, _⟩ := k.gt d hd
      exact ⟨j, h2, h2, h3⟩
    · rw [hbt f (by omega)] at h
      rw [hbm f (by omega)]
      exact k.rw d f (by omega) h
/-- A hand that does something steps. -/
theorem UOk.step {p : Nat} (hp : p < n) (h0 : (g.v.h p).a ≠ 0) : UOk n (T + 1) (ugstep g T p) := by
  have hl := k.ln p hp
  have hc := k.cm p hp h0
  have he := k.ek p hp h0
  have hme : (ugstep g T p).v.h p = uone g.v p := uput_same _ _ _
  have hot : ∀ q, q ≠ p → (ugstep g T p).v.h q = g.v.h q := fun q h => uput_other h
  have hk : (ugstep g T p).v.k = g.v.k := rfl
  have hgot1 : ulast g.v p → (ugstep g T p).got = uput g.got (g.v.h p).e ((g.v.h p).s + 1) := fun h => if_pos h
  have hgot0 : ¬ ulast g.v p → (ugstep g T p).got = g.got := fun h => if_neg h
  have het1 : ulast g.v p → (ugstep g T p).et = uput g.et (g.v.h p).e T := fun h => if_pos h
  have het0 : ¬ ulast g.v p → (ugstep g T p).et = g.et := fun h => if_neg h
  have hcell1 : unew1 g.v p → (ugstep g T p).v.cell = uput g.v.cell g.v.m (g.v.h p).e := fun h => if_pos h
  have hcell0 : ¬ unew1 g.v p → (ugstep g T p).v.cell = g.v.cell := fun h => if_neg h
  have hmm : g.v.m ≤ (ugstep g T p).v.m := by show _ ≤ if unew1 g.v p then _ else _; split <;> omega
  have hcl : ∀ i, i < g.v.m → (ugstep g T p).v.cell i = g.v.cell i := fun i hi => by
    by_cases hu : unew1 g.v p
    · rw [hcell1 hu]; exact uput_other (by omega)
    · rw [hcell0 hu]
  have hs : ∀ j, j ≤ g.v.m → usum (ugstep g T p).v.add (ugstep g T p).v.cell j = usum g.v.add g.v.cell j := fun j hj =>
    usum_congr j fun i hi => by rw [hcl i (by omega)]; rfl
  have hnw : ∀ i, i < (ugstep g T p).v.m → i < g.v.m ∨ i = g.v.m ∧ (g.v.h p).a = 1 ∧ (g.v.h p).c = g.v.m ∧ (ugstep g T p).v.cell i = (g.v.h p).e := fun i hi => by
    by_cases hu : unew1 g.v p
    · have e1 : (ugstep g T p).v.m = g.v.m + 1 := by show (if unew1 g.v p then _ else _) = _; rw [if_pos hu]
      have e2 : (ugstep g T p).v.cell = uput g.v.cell g.v.m (g.v.h p).e := by show (if unew1 g.v p then _ else _) = _; rw [if_pos hu]
      rw [e1] at hi
      by_cases e : i = g.v.m
      · right; exact ⟨e, hu.1, hu.2, by rw [e2, e]; exact uput_same _ _ _⟩
      · left; omega
    · have e1 : (ugstep g T p).v.m = g.v.m := by show (if unew1 g.v p then _ else _) = _; rw [if_neg hu]
      rw [e1] at hi; exact .inl hi
  -- what the hand is thereafter
  have hway : (g.v.h p).a = 1 ∧ uone g.v p = ⟨2, (g.v.h p).c, (g.v.h p).s, (g.v.h p).e⟩ ∧ (g.v.h p).c < (ugstep g T p).v.m ∧ ¬ ulast g.v p ∨
      (g.v.h p).a = 2 ∧ g.v.cell (g.v.h p).c = (g.v.h p).e ∧ uone g.v p = ⟨0, 0, 0, 0⟩ ∧ ulast g.v p ∨
      (g.v.h p).a = 2 ∧ g.v.cell (g.v.h p).c ≠ (g.v.h p).e ∧ uone g.v p = ⟨1, (g.v.h p).c + 1, (g.v.h p).s + g.v.add (g.v.cell (g.v.h p).c), (g.v.h p).e⟩ ∧ ¬ ulast g.v p := by
    by_cases h1 : (g.v.h p).a = 1
    · refine .inl ⟨h1, by unfold uone; rw [if_pos h1], ?_, fun h => h.1 h1⟩
      show _ < if unew1 g.v p then _ else _
      by_cases hu : unew1 g.v p
      · rw [if_pos hu, hu.2]; exact Nat.lt_succ_self _
      · rw [if_neg hu]
        have : (g.v.h p).c ≠ g.v.m := fun e => hu ⟨h1, e⟩
        omega
    · have h2 : (g.v.h p).a = 2 := by omega
      by_cases h3 : g.v.cell (g.v.h p).c = (g.v.h p).e
      · exact .inr (.inl ⟨h2, h3, by unfold uone; rw [if_neg h1, if_pos h3], h1, h3⟩)
      · exact .inr (.inr ⟨h2, h3, by unfold uone; rw [if_neg h1, if_neg h3], fun h => h3 h.2⟩)
  have hee : (uone g.v p).a ≠ 0 → (uone g.v p).e = (g.v.h p).e := fun h => by
    rcases hway with ⟨_, e, _⟩ | ⟨_, _, e, _⟩ | ⟨_, _, e, _⟩ <;> rw [e] at h ⊢
    exact absurd rfl h
  have hne : ∀ q, q < n → q ≠ p → (g.v.h q).a ≠ 0 → (g.v.h q).e ≠ (g.v.h p).e := fun q hq h1 h2 e => h1 (k.ee q p hq hp h2 h0 e)
  have hgo : ∀ d, d ≠ (g.v.h p).e → (ugstep g T p).got d = g.got d := fun d hd => by
    by_cases hu : ulast g.v p
    · rw [hgot1 hu]; exact uput_other hd
    · rw [hgot0 hu]
  have heo : ∀ d, d ≠ (g.v.h p).e → (ugstep g T p).et d = g.et d := fun d hd => by
    by_cases hu : ulast g.v p
    · rw [het1 hu]; exact uput_other hd
    · rw [het0 hu]
  refine ⟨fun q hq => ?_, fun q hq h => ?_, fun q hq h => ?_, fun q hq h => ?_, fun q r hq hr h1 h2 e => ?_, fun q i hq h hi => ?_, fun i hi => ?_, fun i j hi hj e => ?_, fun d h => ?_, fun d h => ?_, fun d h => ?_, fun d f hf h => ?_⟩
  · by_cases e : q = p
    · subst e; rw [hme]
      rcases hway with ⟨_, e, _⟩ | ⟨_, _, e, _⟩ | ⟨_, _, e, _⟩ <;> rw [e]
      · exact Nat.le_refl _
      · exact Nat.zero_le _
      · exact Nat.le_succ _
    · rw [hot q e]; exact k.ln q hq
  · by_cases e : q = p
    · subst e; rw [hme] at h ⊢
      rcases hway with ⟨_, e, h1, _⟩ | ⟨_, _, e, _⟩ | ⟨h2, _, e, _⟩ <;> rw [e] at h ⊢
      · exact ⟨Nat.le_of_lt h1, fun _ => h1⟩
      · exact absurd rfl h
      · have := hc.2 h2
        exact ⟨by show (g.v.h q).c + 1 ≤ _; omega, fun h => by have : (1 : Nat) = 2 := h; omega⟩
    · rw [hot q e] at h ⊢
      have := k.cm q hq h
      exact ⟨by omega, fun h => by have := this.2 h; omega⟩
  · by_cases e : q = p
    · subst e; rw [hme] at h ⊢
      rcases hway with ⟨_, e, h1, _⟩ | ⟨_, _, e, _⟩ | ⟨h2, _, e, _⟩ <;> rw [e] at h ⊢
      · show (g.v.h q).s = usum _ _ (g.v.h q).c
        rw [hs _ hc.1]; exact k.sm q hq h0
      · exact absurd rfl h
      · have := hc.2 h2
        show (g.v.h q).s + _ = usum _ _ ((g.v.h q).c + 1)
        rw [hs _ (by omega), k.sm q hq h0]; rfl
    · rw [hot q e] at h ⊢
      rw [hs _ (k.cm q hq h).1]; exact k.sm q hq h
  · by_cases e : q = p
    · subst e; rw [hme] at h ⊢
      rw [hee h]
      refine ⟨he.1, by show g.bm _ ≤ _; omega, ?_⟩
      rcases hway with ⟨_, e, h1, h3⟩ | ⟨_, _, e, _⟩ | ⟨h2, _, e, h3⟩
      · rw [hgot0 h3]; exact he.2.2
      · rw [e] at h; exact absurd rfl h
      · rw [hgot0 h3]; exact he.2.2
    · rw [hot q e] at h ⊢
      have h1 := k.ek q hq h
      refine ⟨h1.1, by show g.bm _ ≤ _; omega, ?_⟩
      rw [hgo _ (hne q hq e h)]; exact h1.2.2
  · by_cases e1 : q = p
    · by_cases e2 : r = p
      · omega
      · rw [e1, hme] at h1
        rw [e1, hme, hot r e2, hee h1] at e
        rw [hot r e2] at h2
        exact absurd e.symm (hne r hr e2 h2)
    · by_cases e2 : r = p
      · rw [e2, hme] at h2
        rw [e2, hme, hot q e1, hee h2] at e
        rw [hot q e1] at h1
        exact absurd e (hne q hq e1 h1)
      · rw [hot q e1] at h1 e
        rw [hot r e2] at h2 e
        exact k.ee q r hq hr h1 h2 e
  · by_cases e : q = p
    · subst e; rw [hme] at h hi ⊢
      rw [hee h]
      rcases hway with ⟨_, e, h1, _⟩ | ⟨_, _, e, _⟩ | ⟨h2, h3, e, _⟩ <;> rw [e] at h hi
      · have hi : i < (g.v.h q).c := hi
        rw [hcl i (by omega)]; exact k.ep q i hq h0 hi
      · exact absurd rfl h
      · have hi : i < (g.v.h q).c + 1 := hi
        have := hc.2 h2
        rw [hcl i (by omega)]
        by_cases e : i = (g.v.h q).c
        · rw [e]; exact h3
        · exact k.ep q i hq h0 (by omega)
    · rw [hot q e] at h hi ⊢
      have := (k.cm q hq h).1
      rw [hcl i (by omega)]; exact k.ep q i hq h hi
  · rcases hnw i hi with h | ⟨h1, h2, h3, h4⟩
    · rw [hcl i h]; exact k.ck i h
    · rw [h4, h1]; exact ⟨he.1, he.2.1⟩
  · rcases hnw i hi with h | ⟨h1, h2, h3, h4⟩
    · rcases hnw j hj with h' | ⟨h1', h2', h3', h4'⟩
      · rw [hcl i h, hcl j h'] at e; exact k.cj i j h h' e
      · rw [hcl i h, h4'] at e
        exact absurd e (k.ep p i hp h0 (by omega))
    · rcases hnw j hj with h' | ⟨h1', h2', h3', h4'⟩
      · rw [hcl j h', h4] at e
        exact absurd e.symm (k.ep p j hp h0 (by omega))
      · omega
  · by_cases hd : d = (g.v.h p).e
    · rcases hway with ⟨_, e, h1, h3⟩ | ⟨h1, h2, e, h3⟩ | ⟨h2, _, e, h3⟩
      · rw [hgot0 h3, hd] at h
        exact absurd he.2.2 h
      · have := hc.2 h1
        refine ⟨by rw [hd]; exact he.1, (g.v.h p).c, by omega, by rw [hcl _ this, hd]; exact h2, ?_⟩
        rw [hs _ hc.1, ← k.sm p hp h0, hd]
        rw [hgot1 h3]; exact uput_same _ _ _
      · rw [hgot0 h3, hd] at h
        exact absurd he.2.2 h
    · rw [hgo d hd] at h ⊢
      obtain ⟨h1, j, h2, h3, h4⟩ := k.gt d h
      exact ⟨h1, j, by omega, by rw [hcl j h2]; exact h3, by rw [hs _ (by omega)]; exact h4⟩
  · by_cases hd : d = (g.v.h p).e
    · by_cases hu : ulast g.v p
      · rw [hgot1 hu, hd, uput_same] at h
        omega
      · rw [hgot0 hu] at h
        rw [het0 hu]; exact k.en d h
    · rw [hgo d hd] at h
      rw [heo d hd]; exact k.en d h
  · have := k.tm d h
    show g.bt d < _; omega
  · have hf2 := k.tm f hf
    have h : (ugstep g T p).et d < g.bt f := h
    have hd : g.et d < g.bt f := by
      by_cases hd : d = (g.v.h p).e
      · by_cases hu : ulast g.v p
        · rw [het1 hu, hd, uput_same] at h
          omega
        · rw [het0 hu] at h; exact h
      · rw [heo d hd] at h; exact h
    obtain ⟨j, h1, h2, h3⟩ := k.rw d f hf hd
    exact ⟨j, h1, by omega, by rw [hcl j h2]; exact h3⟩
/-- How many steps it needs at most. -/
def uleft (v : US) (p : Nat) : Nat := if (v.h p).a = 1 then 2 * (v.k - (v.h p).c) else 2 * (v.k - (v.h p).c) - 1
omit k in
theorem uleft_pos {n T : Nat} {g : UG} (k : UOk n T g) {p : Nat} (hp : p < n) (h0 : (g.v.h p).a ≠ 0) : (g.v.h p).c < g.v.k := by
  have h1 := (k.step hp h0).few
  have h2 := k.few
  have h3 := k.cm p hp h0
  have h4 := k.ln p hp
  by_cases e : (g.v.h p).a = 1
  · by_cases e2 : (g.v.h p).c = g.v.m
    · have e1 : (ugstep g T p).v.m = g.v.m + 1 := by show (if unew1 g.v p then _ else _) = _; rw [if_pos ⟨e, e2⟩]
      have e3 : (ugstep g T p).v.k = g.v.k := rfl
      omega
    · omega
  · have := h3.2 (by omega); omega
/-- It is done, or one step is done of what it needs. -/
theorem UOk.soon {p : Nat} (hp : p < n) (h0 : (g.v.h p).a ≠ 0) :
    ulast g.v p ∧ ((ustep g.v p).h p).a = 0 ∨ ¬ ulast g.v p ∧ ((ustep g.v p).h p).a ≠ 0 ∧ uleft (ustep g.v p) p + 1 ≤ uleft g.v p := by
  have hme : (ustep g.v p).h p = uone g.v p := uput_same _ _ _
  have hl := k.ln p hp
  have hpos := uleft_pos k hp h0
  rw [hme]
  by_cases h1 : (g.v.h p).a = 1
  · right
    have e : uone g.v p = ⟨2, (g.v.h p).c, (g.v.h p).s, (g.v.h p).e⟩ := by unfold uone; rw [if_pos h1]
    refine ⟨fun h => h.1 h1, by rw [e]; exact (by intro h; cases h), ?_⟩
    unfold uleft
    rw [hme, e, if_pos h1, if_neg (show ¬ (2 : Nat) = 1 by omega)]
    show 2 * (g.v.k - (g.v.h p).c) - 1 + 1 ≤ _
    omega
  · by_cases h3 : g.v.cell (g.v.h p).c = (g.v.h p).e
    · left
      have e : uone g.v p = ⟨0, 0, 0, 0⟩ := by unfold uone; rw [if_neg h1, if_pos h3]
      exact ⟨⟨h1, h3⟩, by rw [e]⟩
    · right
      have e : uone g.v p = ⟨1, (g.v.h p).c + 1, (g.v.h p).s + g.v.add (g.v.cell (g.v.h p).c), (g.v.h p).e⟩ := by unfold uone; rw [if_neg h1, if_neg h3]
      refine ⟨fun h => h3 h.2, by rw [e]; exact (by intro h; cases h), ?_⟩
      unfold uleft
      rw [hme, e, if_neg h1, if_pos rfl]
      show 2 * (g.v.k - ((g.v.h p).c + 1)) + 1 ≤ _
      omega
omit k in
theorem uleft_le {p : Nat} : uleft g.v p ≤ 2 * g.v.k := by unfold uleft; split <;> omega
end
end Go.Proofs.YtegplglokaoemaaDoor
