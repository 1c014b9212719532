import Derived.Test.YtimdhnjkjflbdaaRounds
/-
  Chapter 28 as plain mathematics: one of a ring; on the ways stand the nodes whose names are sent. It imports nothing of the translation.
-/
namespace Go.Proofs.Ytimdhnjkjflbdaa

def eup {α : Type} (f : Nat → α) (i : Nat) (x : α) : Nat → α := fun j => if j = i then x else f j
theorem eup_same {α : Type} (f : Nat → α) (i : Nat) (x : α) : eup f i x i = x := by simp [eup]
theorem eup_other {α : Type} {f : Nat → α} {i j : Nat} {x : α} (h : j ≠ i) : eup f i x j = f j := by simp [eup, h]
def esum (f : Nat → Nat) : Nat → Nat
  | 0 => 0
  | n + 1 => esum f n + f n
theorem esum_same {f g : Nat → Nat} : ∀ {n : Nat}, (∀ i, i < n → f i = g i) → esum f n = esum g n
  | 0, _ => rfl
  | n + 1, h => by unfold esum; rw [esum_same fun i hi => h i (by omega), h n (by omega)]
theorem esum_le {f g : Nat → Nat} : ∀ {n : Nat}, (∀ i, i < n → f i ≤ g i) → esum f n ≤ esum g n
  | 0, _ => Nat.le_refl _
  | n + 1, h => by
    have h1 := esum_le (n := n) fun i hi => h i (by omega)
    have h2 := h n (by omega)
    unfold esum; omega
theorem esum_add (f g : Nat → Nat) : ∀ n, esum (fun i => f i + g i) n = esum f n + esum g n
  | 0 => rfl
  | n + 1 => by unfold esum; rw [esum_add f g n]; omega
theorem esum_const (c : Nat) : ∀ n, esum (fun _ => c) n = n * c
  | 0 => by simp [esum]
  | n + 1 => by unfold esum; rw [esum_const c n, Nat.succ_mul]
theorem esum_swap (f : Nat → Nat → Nat) (n : Nat) : ∀ m, esum (fun j => esum (fun k => f j k) n) m = esum (fun k => esum (fun j => f j k) m) n
  | 0 => by
    have : esum (fun k => esum (fun j => f j k) 0) n = n * 0 := esum_const 0 n
    rw [this]; rfl
  | m + 1 => by
    show esum (fun j => esum (fun k => f j k) n) m + esum (fun k => f m k) n = esum (fun k => esum (fun j => f j k) m + f m k) n
    rw [esum_swap f n m, esum_add]
theorem esum_up (f : Nat → Nat) {i : Nat} (x : Nat) : ∀ {n : Nat}, i < n → esum (eup f i x) n + f i = esum f n + x
  | 0, h => by omega
  | n + 1, h => by
    unfold esum
    by_cases e : i = n
    · subst e
      rw [eup_same, esum_same (f := eup f i x) (g := f) fun j hj => eup_other (by omega)]
      omega
    · rw [eup_other (fun e2 => e e2.symm)]
      have := esum_up f x (n := n) (i := i) (by omega)
      omega
/-- How many of them are so. -/
def ecnt (P : Nat → Bool) (n : Nat) : Nat := esum (fun k => if P k then 1 else 0) n
theorem ecnt_inj {n : Nat} : ∀ (m : Nat) (P : Nat → Bool) (q : Nat → Nat), (∀ i, i < m → q i < n ∧ P (q i) = true) → (∀ i j, i < m → j < m → q i = q j → i = j) → m ≤ ecnt P n
  | 0, _, _, _, _ => Nat.zero_le _
  | m + 1, P, q, h1, h2 => by
    have h3 := h1 m (by omega)
    have h4 := ecnt_inj m (fun k => P k && !(k == q m)) q (fun i hi => ⟨(h1 i (by omega)).1, by
      have h5 : q i ≠ q m := fun e => by have := h2 i m (by omega) (by omega) e; omega
      simp [(h1 i (by omega)).2, h5]⟩) (fun i j hi hj e => h2 i j (by omega) (by omega) e)
    have h5 := esum_up (fun k => if P k = true then 1 else 0) 0 h3.1
    have h6 : esum (eup (fun k => if P k = true then 1 else 0) (q m) 0) n = ecnt (fun k => P k && !(k == q m)) n := esum_same fun i _ => by
      by_cases e : i = q m
      · subst e; rw [eup_same]; simp
      · rw [eup_other e]; simp [e]
    have h7 : (if P (q m) = true then 1 else 0) = 1 := by rw [if_pos h3.2]
    have h8 : ecnt (fun k => P k && !(k == q m)) n + (if P (q m) = true then 1 else 0) = ecnt P n + 0 := by rw [← h6]; exact h5
    omega

structure ES where
  w : Nat → List Nat
  st : Nat → Bool
  hp : Nat → Nat
  ld : Nat
  c : Nat
def enew : ES := ⟨fun _ => [], fun _ => false, fun _ => 0, 0, 0⟩
/-- Node i sends the name of node j on. -/
def esend (n : Nat) (s : ES) (i j : Nat) : ES := { s with w := eup s.w ((i + 1) % n) (s.w ((i + 1) % n) ++ [j]), st := eup s.st i true, hp := eup s.hp j (s.hp j + 1), c := s.c + 1 }
def ebegin (n : Nat) (s : ES) (i : Nat) : ES := if s.st i = true then s else esend n s i i
def epop (s : ES) (i : Nat) : ES := { s with w := eup s.w i (s.w i).tail }
def estep (n : Nat) (nm : Nat → Nat) (s : ES) (i : Nat) : ES :=
  match s.w i with
  | [] => s
  | j :: _ => if nm j = nm i then { epop s i with ld := i + 1 } else if nm i < nm j then esend n (epop s i) i j else if s.st i = true then epop s i else esend n (epop s i) i i

structure EPre (n : Nat) (nm : Nat → Nat) (s : ES) : Prop where
  own : ∀ i j, i < n → j ∈ s.w i → j < n ∧ 1 ≤ s.hp j ∧ (j + s.hp j) % n = i
  nod : ∀ i, i < n → (s.w i).Nodup
  les : ∀ j t, j < n → 1 ≤ t → t < s.hp j → nm ((j + t) % n) < nm j
  hpn : ∀ j, j < n → s.hp j ≤ n
  beg : ∀ j, j < n → s.hp j ≠ 0 → s.st j = true
  sta : ∀ i, i < n → s.st i = true → ∃ j, j < n ∧ s.hp j ≠ 0 ∧ nm i ≤ nm j
  lead : s.ld ≠ 0 → s.ld - 1 < n ∧ ∀ j, j < n → j ≠ s.ld - 1 → nm j < nm (s.ld - 1)
  cnt : s.c = esum s.hp n
  len : esum (fun i => (s.w i).length) n ≤ s.c
structure EOk (n : Nat) (nm : Nat → Nat) (s : ES) : Prop where
  pre : EPre n nm s
  max : ∀ j, j < n → s.hp j ≠ 0 → s.ld ≠ 0 ∨ ∃ i k, i < n ∧ k ∈ s.w i ∧ nm j ≤ nm k
section
variable {n : Nat} {nm : Nat → Nat} {s : ES}
theorem enew_ok (n : Nat) (nm : Nat → Nat) : EOk n nm enew := by
  have h0 : esum (fun _ => 0) n = 0 := by rw [esum_const]; omega
  refine ⟨⟨fun i j _ h => (by cases h), fun _ _ => List.nodup_nil, fun j t _ _ h => absurd h (Nat.not_lt_zero _), fun _ _ => Nat.zero_le _, fun _ _ h => absurd rfl h, fun i _ h => (by cases h), fun h => absurd rfl h, h0.symm, ?_⟩, fun _ _ h => absurd rfl h⟩
  show esum (fun _ => 0) n ≤ 0
  omega
theorem emod {n j t : Nat} (hj : j < n) (ht : t ≤ n) : (j + t) % n = if j + t < n then j + t else j + t - n := by
  split
  · exact Nat.mod_eq_of_lt (by assumption)
  · rw [Nat.mod_eq_sub_mod (by omega), Nat.mod_eq_of_lt (by omega)]
theorem epop_pre (h : EPre n nm s) {i : Nat} (hi : i < n) : EPre n nm (epop s i) := by
  have hsub : ∀ a k, k ∈ (epop s i).w a → k ∈ s.w a := fun a k hk => by
    by_cases e : a = i
    · subst e
      have hk' : k ∈ eup s.w a (s.w a).tail a := hk
      rw [eup_same] at hk'
      exact List.mem_of_mem_tail hk'
    · have hk' : k ∈ eup s.w i (s.w i).tail a := hk
      rwa [eup_other e] at hk'
  refine ⟨fun a k ha hk => h.own a k ha (hsub a k hk), fun a ha => ?_, h.les, h.hpn, h.beg, h.sta, h.lead, h.cnt, ?_⟩
  · show (eup s.w i (s.w i).tail a).Nodup
    by_cases e : a = i
    · subst e; rw [eup_same]
      exact List.Sublist.nodup (List.tail_sublist _) (h.nod a ha)
    · rw [eup_other e]; exact h.nod a ha
  · refine Nat.le_trans (esum_le fun a _ => ?_) h.len
    show (eup s.w i (s.w i).tail a).length ≤ _
    by_cases e : a = i
    · subst e; rw [eup_same, List.length_tail]; omega
    · rw [eup_other e]; exact Nat.le_refl _
theorem epop_len {i : Nat} (hi : i < n) (hw : s.w i ≠ []) : esum (fun a => ((epop s i).w a).length) n + 1 = esum (fun a => (s.w a).length) n := by
  have h1 := esum_up (fun a => (s.w a).length) (s.w i).tail.length hi
  have h2 : esum (eup (fun a => (s.w a).length) i (s.w i).tail.length) n = esum (fun a => ((epop s i).w a).length) n := esum_same fun a _ => by
    show _ = (eup s.w i (s.w i).tail a).length
    by_cases e : a = i
    · subst e; rw [eup_same, eup_same]
    · rw [eup_other e, eup_other e]
  rw [h2] at h1
  have h3 : (s.w i).tail.length + 1 = (s.w i).length := by
    cases e : s.w i with
    | nil => exact absurd e hw
    | cons x r => rfl
  omega
theorem esend_len (s : ES) {i : Nat} (hn : 0 < n) (j : Nat) : esum (fun a => ((esend n s i j).w a).length) n = esum (fun a => (s.w a).length) n + 1 := by
  have hi : (i + 1) % n < n := Nat.mod_lt _ hn
  have h1 := esum_up (fun a => (s.w a).length) ((s.w ((i + 1) % n)).length + 1) hi
  have h2 : esum (eup (fun a => (s.w a).length) ((i + 1) % n) ((s.w ((i + 1) % n)).length + 1)) n = esum (fun a => ((esend n s i j).w a).length) n := esum_same fun a _ => by
    show _ = (eup s.w ((i + 1) % n) (s.w ((i + 1) % n) ++ [j]) a).length
    by_cases e : a = (i + 1) % n
    · subst e; rw [eup_same, eup_same, List.length_append]; rfl
    · rw [eup_other e, eup_other e]
  rw [h2] at h1
  omega
theorem esend_mem {i j a k : Nat} : k ∈ (esend n s i j).w a ↔ k ∈ s.w a ∨ a = (i + 1) % n ∧ k = j := by
  show k ∈ eup s.w ((i + 1) % n) (s.w ((i + 1) % n) ++ [j]) a ↔ _
  by_cases e : a = (i + 1) % n
  · subst e; rw [eup_same, List.mem_append, List.mem_singleton]; simp
  · rw [eup_other e]; simp [e]
theorem esend_pre (h : EPre n nm s) {i j : Nat} (hi : i < n) (hj : j < n) (hno : ∀ a, a < n → j ∉ s.w a) (hat : (j + s.hp j) % n = i) (hlt : s.hp j < n) (hnm : s.hp j ≠ 0 → nm i < nm j) (h0 : s.hp j = 0 → j = i) : EPre n nm (esend n s i j) := by
  have hhp : ∀ k, (esend n s i j).hp k = if k = j then s.hp j + 1 else s.hp k := fun k => rfl
  refine ⟨fun a k ha hk => ?_, fun a ha => ?_, fun k t hk h1 ht => ?_, fun k hk => ?_, fun k hk h1 => ?_, fun a ha h1 => ?_, h.lead, ?_, ?_⟩
  · rw [hhp]
    rcases esend_mem.1 hk with h1 | ⟨e1, e2⟩
    · have e : k ≠ j := fun e => hno a ha (e ▸ h1)
      rw [if_neg e]; exact h.own a k ha h1
    · subst e1 e2
      rw [if_pos rfl]
      refine ⟨hj, by omega, ?_⟩
      rw [← hat, Nat.mod_add_mod]; rfl
  · show (eup s.w ((i + 1) % n) (s.w ((i + 1) % n) ++ [j]) a).Nodup
    by_cases e : a = (i + 1) % n
    · subst e
      rw [eup_same, List.nodup_append]
      exact ⟨h.nod _ ha, by simp, fun x hx y hy e2 => by
        have : y = j := by simpa using hy
        subst this; subst e2
        exact hno _ ha hx⟩
    · rw [eup_other e]; exact h.nod a ha
  · rw [hhp] at ht
    by_cases e : k = j
    · subst e
      rw [if_pos rfl] at ht
      by_cases e2 : t = s.hp k
      · subst e2; rw [hat]; exact hnm (by omega)
      · exact h.les k t hk h1 (by omega)
    · rw [if_neg e] at ht; exact h.les k t hk h1 ht
  · rw [hhp]; split
    · omega
    · exact h.hpn k hk
  · show eup s.st i true k = true
    by_cases e : k = i
    · subst e; rw [eup_same]
    · rw [eup_other e]
      rw [hhp] at h1
      by_cases e2 : k = j
      · exact h.beg k hk fun e3 => e (by rw [e2]; exact h0 (by rw [← e2]; exact e3))
      · rw [if_neg e2] at h1; exact h.beg k hk h1
  · have h1' : eup s.st i true a = true := h1
    by_cases e : a = i
    · subst e
      refine ⟨j, hj, by rw [hhp, if_pos rfl]; omega, ?_⟩
      by_cases e2 : s.hp j = 0
      · rw [h0 e2]; exact Nat.le_refl _
      · exact Nat.le_of_lt (hnm e2)
    · rw [eup_other e] at h1'
      obtain ⟨k, hk, h2, h3⟩ := h.sta a ha h1'
      exact ⟨k, hk, by rw [hhp]; split <;> omega, h3⟩
  · show s.c + 1 = esum (eup s.hp j (s.hp j + 1)) n
    have := esum_up s.hp (s.hp j + 1) hj
    have := h.cnt
    omega
  · rw [esend_len s (by omega) j]
    have := h.len
    show _ ≤ s.c + 1
    omega
theorem EOk.begin (h : EOk n nm s) {i : Nat} (hi : i < n) : EOk n nm (ebegin n s i) := by
  unfold ebegin
  by_cases e : s.st i = true
  · rw [if_pos e]; exact h
  rw [if_neg e]
  have h0 : s.hp i = 0 := Classical.byContradiction fun h1 => e (h.pre.beg i hi h1)
  have hno : ∀ a, a < n → i ∉ s.w a := fun a ha hm => by have := (h.pre.own a i ha hm).2.1; omega
  refine ⟨esend_pre h.pre hi hi hno (by rw [h0, Nat.add_zero, Nat.mod_eq_of_lt hi]) (by omega) (fun h1 => absurd h0 h1) (fun _ => rfl), fun j hj h1 => ?_⟩
  have h1' : eup s.hp i (s.hp i + 1) j ≠ 0 := h1
  by_cases ej : j = i
  · subst ej
    exact Or.inr ⟨(j + 1) % n, j, Nat.mod_lt _ (by omega), esend_mem.2 (Or.inr ⟨rfl, rfl⟩), Nat.le_refl _⟩
  · rw [eup_other ej] at h1'
    rcases h.max j hj h1' with h2 | ⟨a, k, ha, hk, h3⟩
    · exact Or.inl h2
    · exact Or.inr ⟨a, k, ha, esend_mem.2 (Or.inl hk), h3⟩
theorem EOk.step (h : EOk n nm s) (hd : ∀ i j, i < n → j < n → nm i = nm j → i = j) {i : Nat} (hi : i < n) : EOk n nm (estep n nm s i) := by
  unfold estep
  split
  · exact h
  rename_i j r hw
  have hj := h.pre.own i j hi (by rw [hw]; simp)
  have hp := epop_pre h.pre hi
  have hnd := h.pre.nod i hi
  rw [hw, List.nodup_cons] at hnd
  have hpop : (epop s i).w i = r := by show eup s.w i (s.w i).tail i = r; rw [eup_same, hw]; rfl
  have hfar : ∀ a, a ≠ i → (epop s i).w a = s.w a := fun a ha => by show eup s.w i (s.w i).tail a = s.w a; rw [eup_other ha]
  have hno : ∀ a, a < n → j ∉ (epop s i).w a := fun a ha hm => by
    by_cases e : a = i
    · subst e; rw [hpop] at hm; exact hnd.1 hm
    · rw [hfar a e] at hm
      have := (h.pre.own a j ha hm).2.2
      exact e (this.symm.trans hj.2.2)
  have hkeep : ∀ a k, k ∈ s.w a → k ≠ j → k ∈ (epop s i).w a := fun a k hk hne => by
    by_cases e : a = i
    · subst e; rw [hpop]; rw [hw] at hk
      rcases List.mem_cons.1 hk with h1 | h1
      · exact absurd h1 hne
      · exact h1
    · rw [hfar a e]; exact hk
  by_cases e1 : nm j = nm i
  · rw [if_pos e1]
    have eji := hd j i hj.1 hi e1
    subst eji
    refine ⟨⟨hp.own, hp.nod, hp.les, hp.hpn, hp.beg, hp.sta, fun _ => ⟨hj.1, fun k hk hne => ?_⟩, hp.cnt, hp.len⟩, fun _ _ _ => Or.inl (Nat.succ_ne_zero _)⟩
    have hne' : k ≠ j := hne
    have hhn := h.pre.hpn j hj.1
    have hfull : s.hp j = n := by
      have h3 := hj.2.2
      rw [emod hj.1 hhn] at h3
      split at h3 <;> omega
    have : ∃ t, 1 ≤ t ∧ t < n ∧ (j + t) % n = k := by
      by_cases e : j < k
      · exact ⟨k - j, by omega, by omega, by rw [emod hj.1 (by omega), if_pos (by omega)]; omega⟩
      · exact ⟨k + n - j, by omega, by omega, by rw [emod hj.1 (by omega), if_neg (by omega)]; omega⟩
    obtain ⟨t, h1, h2, rfl⟩ := this
    exact h.pre.les j t hj.1 h1 (by omega)
  rw [if_neg e1]
  by_cases e2 : nm i < nm j
  · rw [if_pos e2]
    have hlt : s.hp j < n := by
      have hhn := h.pre.hpn j hj.1
      rcases Nat.lt_or_ge (s.hp j) n with h1 | h1
      · exact h1
      · exfalso
        have e3 : s.hp j = n := by omega
        have h3 := hj.2.2
        rw [e3, emod hj.1 (Nat.le_refl _), if_neg (by omega)] at h3
        have : j = i := by omega
        rw [this] at e2; omega
    refine ⟨esend_pre hp hi hj.1 hno hj.2.2 hlt (fun _ => e2) (fun h1 => by have : s.hp j = 0 := h1; omega), fun k hk h1 => ?_⟩
    have h1' : eup s.hp j (s.hp j + 1) k ≠ 0 := h1
    have h2 : s.hp k ≠ 0 := by
      by_cases e : k = j
      · rw [e]; omega
      · rwa [eup_other e] at h1'
    rcases h.max k hk h2 with h3 | ⟨a, m, ha, hm, h3⟩
    · exact Or.inl h3
    · by_cases em : m = j
      · subst em
        exact Or.inr ⟨(i + 1) % n, m, Nat.mod_lt _ (by omega), esend_mem.2 (Or.inr ⟨rfl, rfl⟩), h3⟩
      · exact Or.inr ⟨a, m, ha, esend_mem.2 (Or.inl (hkeep a m hm em)), h3⟩
  rw [if_neg e2]
  by_cases e3 : s.st i = true
  · rw [if_pos e3]
    refine ⟨hp, fun k hk h1 => ?_⟩
    have h1' : s.hp k ≠ 0 := h1
    rcases h.max k hk h1' with h3 | ⟨a, m, ha, hm, h3⟩
    · exact Or.inl h3
    · by_cases em : m = j
      · subst em
        obtain ⟨k2, hk2, h4, h5⟩ := h.pre.sta i hi e3
        rcases h.max k2 hk2 h4 with h6 | ⟨a2, m2, ha2, hm2, h6⟩
        · exact Or.inl h6
        · refine Or.inr ⟨a2, m2, ha2, hkeep a2 m2 hm2 (fun e => ?_), by omega⟩
          subst e; omega
      · exact Or.inr ⟨a, m, ha, hkeep a m hm em, h3⟩
  · rw [if_neg e3]
    have h0 : s.hp i = 0 := Classical.byContradiction fun h1 => e3 (h.pre.beg i hi h1)
    have hno2 : ∀ a, a < n → i ∉ (epop s i).w a := fun a ha hm => by
      have h1 := (hp.own a i ha hm).2.1
      have h2 : 1 ≤ s.hp i := h1
      omega
    refine ⟨esend_pre hp hi hi hno2 (by show (i + s.hp i) % n = i; rw [h0, Nat.add_zero, Nat.mod_eq_of_lt hi]) (by show s.hp i < n; omega) (fun h1 => absurd h0 h1) (fun _ => rfl), fun k hk h1 => ?_⟩
    have h1' : eup s.hp i (s.hp i + 1) k ≠ 0 := h1
    by_cases ek : k = i
    · subst ek
      exact Or.inr ⟨(k + 1) % n, k, Nat.mod_lt _ (by omega), esend_mem.2 (Or.inr ⟨rfl, rfl⟩), Nat.le_refl _⟩
    · rw [eup_other ek] at h1'
      rcases h.max k hk h1' with h3 | ⟨a, m, ha, hm, h3⟩
      · exact Or.inl h3
      · by_cases em : m = j
        · subst em
          exact Or.inr ⟨(i + 1) % n, i, Nat.mod_lt _ (by omega), esend_mem.2 (Or.inr ⟨rfl, rfl⟩), by omega⟩
        · exact Or.inr ⟨a, m, ha, esend_mem.2 (Or.inl (hkeep a m hm em)), h3⟩
/-- How many are sent at most. -/
theorem EPre.few (h : EPre n nm s) (hd : ∀ i j, i < n → j < n → nm i = nm j → i = j) : 2 * s.c ≤ n * (n + 1) := by
  have hone : ∀ j, j < n → s.hp j ≤ 1 + ecnt (fun k => decide (nm k < nm j)) n := fun j hj => by
    have h1 := h.hpn j hj
    have h2 := ecnt_inj (n := n) (s.hp j - 1) (fun k => decide (nm k < nm j)) (fun t => (j + (t + 1)) % n) (fun t ht => ⟨Nat.mod_lt _ (by omega), decide_eq_true (h.les j (t + 1) hj (by omega) (by omega))⟩) (fun a b ha hb e => by
      rw [emod hj (by omega), emod hj (by omega)] at e
      split at e <;> split at e <;> omega)
    omega
  have h1 : s.c ≤ esum (fun j => 1 + ecnt (fun k => decide (nm k < nm j)) n) n := by rw [h.cnt]; exact esum_le hone
  rw [esum_add, esum_const] at h1
  have hsw : esum (fun j => ecnt (fun k => decide (nm k < nm j)) n) n = esum (fun k => esum (fun j => if decide (nm k < nm j) = true then 1 else 0) n) n := esum_swap (fun j k => if decide (nm k < nm j) = true then 1 else 0) n n
  have h2 : esum (fun j => ecnt (fun k => decide (nm k < nm j)) n) n + esum (fun k => esum (fun j => if decide (nm k < nm j) = true then 1 else 0) n) n ≤ n * (n - 1) := by
    rw [← esum_add, ← esum_const]
    refine esum_le fun j hj => ?_
    show ecnt _ n + _ ≤ _
    unfold ecnt
    rw [← esum_add]
    have h3 : esum (fun k => (if decide (nm k < nm j) = true then 1 else 0) + (if decide (nm j < nm k) = true then 1 else 0)) n ≤ esum (eup (fun _ => 1) j 0) n := esum_le fun k hk => by
      by_cases e : k = j
      · subst e; rw [eup_same]; simp
      · rw [eup_other e]
        have : nm k ≠ nm j := fun e2 => e (hd k j hk hj e2)
        by_cases e4 : nm k < nm j
        · rw [if_pos (decide_eq_true e4), if_neg (by rw [decide_eq_true_eq]; omega)]; exact Nat.le_refl _
        · rw [if_neg (by rw [decide_eq_true_eq]; omega)]; split <;> omega
    have h4 := esum_up (fun _ => 1) 0 hj
    rw [esum_const] at h4
    refine Nat.le_trans h3 ?_
    omega
  rw [← hsw] at h2
  have h3 : n * (n + 1) = n * n + n := Nat.mul_succ n n
  have h4 : n * (n - 1) + n = n * n := by
    cases n with
    | zero => rfl
    | succ m => rw [Nat.add_sub_cancel, ← Nat.mul_succ]
  omega
/-- All ways are empty. -/
def EDone (n : Nat) (s : ES) : Prop := ∀ i, i < n → s.w i = []
def eV (n : Nat) (s : ES) : Nat := esum (fun i => (s.w i).length) n + (n * (n + 1) - 2 * s.c)
theorem estep_none {i : Nat} (h : s.w i = []) : estep n nm s i = s := by unfold estep; rw [h]
theorem EOk.falls (h : EOk n nm s) (hd : ∀ i j, i < n → j < n → nm i = nm j → i = j) {i : Nat} (hi : i < n) (hw : s.w i ≠ []) : eV n (estep n nm s i) < eV n s := by
  have hok := (h.step hd hi).pre.few hd
  have hl := epop_len (s := s) hi hw
  have hn : 0 < n := by omega
  obtain ⟨j, r, hwj⟩ : ∃ j r, s.w i = j :: r := by
    cases e : s.w i with
    | nil => exact absurd e hw
    | cons j r => exact ⟨j, r, rfl⟩
  have hst : estep n nm s i = if nm j = nm i then { epop s i with ld := i + 1 } else if nm i < nm j then esend n (epop s i) i j else if s.st i = true then epop s i else esend n (epop s i) i i := by unfold estep; rw [hwj]
  rw [hst] at hok ⊢
  unfold eV
  by_cases e1 : nm j = nm i
  · rw [if_pos e1] at hok ⊢
    show esum (fun a => ((epop s i).w a).length) n + (n * (n + 1) - 2 * s.c) < _
    omega
  rw [if_neg e1] at hok ⊢
  by_cases e2 : nm i < nm j
  · rw [if_pos e2] at hok ⊢
    rw [esend_len _ hn]
    have hok' : 2 * (s.c + 1) ≤ n * (n + 1) := hok
    show esum (fun a => ((epop s i).w a).length) n + 1 + (n * (n + 1) - 2 * (s.c + 1)) < _
    omega
  rw [if_neg e2] at hok ⊢
  by_cases e3 : s.st i = true
  · rw [if_pos e3] at hok ⊢
    show esum (fun a => ((epop s i).w a).length) n + (n * (n + 1) - 2 * s.c) < _
    omega
  · rw [if_neg e3] at hok ⊢
    rw [esend_len _ hn]
    have hok' : 2 * (s.c + 1) ≤ n * (n + 1) := hok
    show esum (fun a => ((epop s i).w a).length) n + 1 + (n * (n + 1) - 2 * (s.c + 1)) < _
    omega
/-- If all hear in turn, nothing is on any way. -/
theorem EOk.ends {S : Nat → ES} (hn : 1 ≤ n) (h0 : EOk n nm (S 0)) (hd : ∀ i j, i < n → j < n → nm i = nm j → i = j) (hS : ∀ t, S (t + 1) = estep n nm (S t) (t % n)) {T : Nat} (hT : (n * (n + 1) + 1) * n ≤ T) : EDone n (S T) := by
  have hinv : ∀ t, EOk n nm (S t) := rounds_inv (Inv := EOk n nm) hn hS h0 (fun s q h hq => h.step hd hq)
  have hB : eV n (S 0) ≤ n * (n + 1) := by
    have h1 := h0.pre.len
    have h2 := h0.pre.few hd
    unfold eV; omega
  obtain ⟨u, _, hu, hdn⟩ := rounds_doneR (n := n) (step := estep n nm) (S := S) (Inv := EOk n nm) (Done := EDone n) (V := eV n) (Mv := fun s x => s.w x ≠ []) hn hS hinv
    (fun s _ h2 => Classical.byContradiction fun h3 => h2 fun i hi => Classical.byContradiction fun h4 => h3 ⟨i, hi, h4⟩)
    (fun s x h _ hx hm => ⟨Or.inr (h.falls hd hx hm), fun y hy _ => by
      by_cases e : s.w y = []
      · rw [estep_none e]; exact Or.inr (Or.inr ⟨rfl, hm⟩)
      · exact Or.inr (Or.inl (h.falls hd hy e))⟩)
    (n * (n + 1)) 0 hB
  have stay : ∀ i, EDone n (S (u + i)) := fun i => by
    induction i with
    | zero => exact hdn
    | succ i ih =>
      rw [show u + (i + 1) = u + i + 1 from rfl, hS, estep_none (ih _ (Nat.mod_lt _ hn))]
      exact ih
  have := stay (T - u)
  rwa [show u + (T - u) = T by omega] at this
/-- Once anybody began, and all ways are empty: the greatest is chosen. -/
theorem EOk.chosen (h : EOk n nm s) (hd : EDone n s) {i : Nat} (hi : i < n) (hs : s.st i = true) : s.ld ≠ 0 ∧ s.ld - 1 < n ∧ ∀ j, j < n → j ≠ s.ld - 1 → nm j < nm (s.ld - 1) := by
  obtain ⟨j, hj, h1, _⟩ := h.pre.sta i hi hs
  rcases h.max j hj h1 with h2 | ⟨a, k, ha, hk, _⟩
  · exact ⟨h2, h.pre.lead h2⟩
  · rw [hd a ha] at hk; cases hk
theorem ebegin_st {i : Nat} : (ebegin n s i).st i = true := by
  unfold ebegin; split
  · assumption
  · exact eup_same _ _ _
theorem estep_st {i j : Nat} (h : s.st j = true) : (estep n nm s i).st j = true := by
  have hs : ∀ (s' : ES) (k : Nat), s'.st j = true → (esend n s' i k).st j = true := fun s' k h' => by
    show eup s'.st i true j = true
    by_cases e : j = i
    · rw [e, eup_same]
    · rw [eup_other e]; exact h'
  unfold estep
  split
  · exact h
  · repeat' split
    · exact h
    · exact hs _ _ h
    · exact h
    · exact hs _ _ h
end
end Go.Proofs.Ytimdhnjkjflbdaa
