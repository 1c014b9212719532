/-
  Texts merged: ScMath, ScRng, ScLaws.
-/
import Derived.Test.YthpnnmkpbkbanaaDoorAgainMath
/-
  All that a program may do, and whether it races: plain mathematics.
-/
namespace Go.Proofs.YthpnnmkpbkbanaaDoor

/-! ### Lists without a thing twice -/
def ins1 {α : Type} [DecidableEq α] (l : List α) (x : α) : List α := if x ∈ l then l else l ++ [x]
def addAll {α : Type} [DecidableEq α] (l xs : List α) : List α := xs.foldl ins1 l
theorem mem_ins1 {α : Type} [DecidableEq α] {l : List α} {x y : α} : y ∈ ins1 l x ↔ y ∈ l ∨ y = x := by
  unfold ins1
  split
  · rename_i h
    exact ⟨Or.inl, fun h' => h'.elim id fun e => e ▸ h⟩
  · simp
theorem ins1_length {α : Type} [DecidableEq α] (l : List α) (x : α) : (ins1 l x).length ≤ l.length + 1 := by
  unfold ins1
  split <;> simp
theorem nodup_snoc {α : Type} {l : List α} {x : α} (h : l.Nodup) (hx : x ∉ l) : (l ++ [x]).Nodup := by
  rw [List.nodup_append]
  refine ⟨h, by simp, ?_⟩
  intro a ha b hb
  simp at hb
  subst hb
  intro e
  exact hx (e ▸ ha)
theorem mem_addAll {α : Type} [DecidableEq α] (xs : List α) : ∀ {l : List α} {y : α}, y ∈ addAll l xs ↔ y ∈ l ∨ y ∈ xs := by
  induction xs with
  | nil => intro l y; simp [addAll]
  | cons x r ih =>
    intro l y
    show y ∈ addAll (ins1 l x) r ↔ _
    rw [ih, mem_ins1, List.mem_cons, or_assoc]
theorem addAll_length {α : Type} [DecidableEq α] (xs : List α) : ∀ (l : List α), (addAll l xs).length ≤ l.length + xs.length := by
  induction xs with
  | nil => intro l; simp [addAll]
  | cons x r ih =>
    intro l
    have h1 := ih (ins1 l x)
    have h2 := ins1_length l x
    show (addAll (ins1 l x) r).length ≤ _
    simp only [List.length_cons]
    omega
/-- A list without a thing twice is no longer than one that has all of its things. -/
theorem nodup_le {α : Type} [DecidableEq α] : ∀ {l m : List α}, l.Nodup → (∀ x, x ∈ l → x ∈ m) → l.length ≤ m.length
  | [], m, _, _ => Nat.zero_le _
  | x :: r, m, h, hs => by
    have hx := hs x (by simp)
    have hn := List.nodup_cons.1 h
    have := nodup_le (m := m.erase x) hn.2 fun y hy => by
      have hne : y ≠ x := fun e => hn.1 (e ▸ hy)
      exact (List.mem_erase_of_ne hne).2 (hs y (by simp [hy]))
    have h1 : (m.erase x).length = m.length - 1 := List.length_erase_of_mem hx
    have h2 : 0 < m.length := List.length_pos_of_mem hx
    simp only [List.length_cons]
    omega

/-! ### All states -/
def nexts (hs : List (List Ln)) (z : List Int) : List (List Int) := (List.range hs.length).map (stp hs z)
def lev (hs : List (List Ln)) : Nat → List (List Int)
  | 0 => [zero16]
  | k + 1 => addAll (lev hs k) ((lev hs k).flatMap (nexts hs))
/-- All states that a program may come to. -/
def allS (hs : List (List Ln)) : List (List Int) := lev hs 15
theorem lev_length (hs : List (List Ln)) (h3 : hs.length ≤ 3) : ∀ k, (lev hs k).length ≤ 4 ^ k
  | 0 => by simp [lev]
  | k + 1 => by
    have ih := lev_length hs h3 k
    have h1 := addAll_length ((lev hs k).flatMap (nexts hs)) (lev hs k)
    have h2 : ((lev hs k).flatMap (nexts hs)).length ≤ 3 * (lev hs k).length := by
      generalize lev hs k = l
      induction l with
      | nil => simp
      | cons x r ih =>
        rw [List.flatMap_cons, List.length_append]
        have : (nexts hs x).length = hs.length := by simp [nexts]
        simp only [List.length_cons]
        omega
    rw [lev, Nat.pow_succ]
    omega
theorem lev_more (hs : List (List Ln)) {k m : Nat} (h : k ≤ m) {z : List Int} (hz : z ∈ lev hs k) : z ∈ lev hs m := by
  induction h with
  | refl => exact hz
  | step _ ih => rw [lev, mem_addAll]; exact Or.inl ih
theorem lev_step (hs : List (List Ln)) {k : Nat} {z : List Int} (hz : z ∈ lev hs k) {p : Nat} (hp : p < hs.length) : stp hs z p ∈ lev hs (k + 1) := by
  rw [lev, mem_addAll]
  exact Or.inr (List.mem_flatMap.2 ⟨z, hz, List.mem_map.2 ⟨p, List.mem_range.2 hp, rfl⟩⟩)

/-- It may come to a state. -/
def Reach (hs : List (List Ln)) (z : List Int) : Prop := ∃ s : List Int, (∀ h ∈ s, 0 ≤ h ∧ h < hs.length) ∧ z = scripted hs zero16 s
theorem Reach.start (hs : List (List Ln)) : Reach hs zero16 := ⟨[], by simp, rfl⟩
theorem Reach.step {hs : List (List Ln)} {z : List Int} (h : Reach hs z) {p : Nat} (hp : p < hs.length) : Reach hs (stp hs z p) := by
  obtain ⟨s, hs', rfl⟩ := h
  refine ⟨s ++ [(p : Int)], ?_, ?_⟩
  · intro x hx
    rw [List.mem_append] at hx
    rcases hx with hx | hx
    · exact hs' x hx
    · simp at hx; omega
  · rw [scripted_snoc, Int.toNat_natCast]
theorem Reach.rec' {hs : List (List Ln)} {P : List Int → Prop} (h0 : P zero16) (hstep : ∀ z p, Reach hs z → P z → p < hs.length → P (stp hs z p)) : ∀ z, Reach hs z → P z := by
  rintro z ⟨s, hs', rfl⟩
  suffices ∀ n, n ≤ s.length → P (scripted hs zero16 (s.take n)) by
    have := this s.length (Nat.le_refl _)
    rwa [List.take_length] at this
  intro n
  induction n with
  | zero => intro _; exact h0
  | succ n ih =>
    intro hn
    rw [List.take_succ_eq_append_getElem (by omega), scripted_snoc]
    have hm := hs' s[n] (List.getElem_mem _)
    exact hstep _ _ ⟨s.take n, fun x hx => hs' x (List.mem_of_mem_take hx), rfl⟩ (ih (by omega)) (by omega)

/-- Where nothing is turned. -/
theorem stp_frame {words : Int} {hs : List (List Ln)} {zs : List Int} {p : Nat} (hW : Well words hs) (hf : Fit hs zs) (hp : p < hs.length) (i : Nat) (h0 : i ≠ p * 4) (h1 : i ≠ p * 4 + 1) (h2 : i ≠ p * 4 + 2) (h3 : ¬ (12 ≤ i ∧ (i : Int) < 12 + words)) : (stp hs zs p)[i]? = zs[i]? := by
  obtain ⟨hz, hpc⟩ := hf
  obtain ⟨n, hn⟩ := hpc p hp
  have hl : hs[p]? = some hs[p] := List.getElem?_eq_getElem hp
  generalize hs[p] = ls at hl
  have hall := hW.okay p ls hl
  rcases Nat.lt_or_ge n ls.length with hlt | hge
  · have hl1 : ls[n]? = some ls[n] := List.getElem?_eq_getElem hlt
    have hk := List.all_eq_true.1 hall _ (List.mem_of_getElem? hl1)
    generalize ls[n] = l at hl1 hk
    rw [stp_go hs zs p ls n l hl hn hl1]
    have base : (zs.set (p * 4 + 2) ((n : Int) + 1))[i]? = zs[i]? := List.getElem?_set_ne (by omega)
    have putR : ∀ (ys : List Int) (z : Int), inR l.r 0 1 = true → ys[i]? = zs[i]? → (ys.set (p * 4 + l.r.toNat) z)[i]? = zs[i]? := fun ys z hr h => by
      have := inR_true.1 hr
      rw [List.getElem?_set_ne (by omega)]; exact h
    have putD : ∀ (ys : List Int) (z : Int), inR l.d 0 (words - 1) = true → ys[i]? = zs[i]? → (ys.set (12 + l.d.toNat) z)[i]? = zs[i]? := fun ys z hr h => by
      have := inR_true.1 hr
      rw [List.getElem?_set_ne (by omega)]; exact h
    simp only [okLn] at hk
    dsimp only
    split
    · rename_i k0
      rw [if_pos k0, Bool.and_eq_true] at hk
      exact putR _ _ hk.1 base
    rename_i k0
    rw [if_neg k0] at hk
    split
    · rename_i k1
      rw [if_pos (Or.inl k1), Bool.and_eq_true] at hk
      exact putR _ _ hk.1 base
    split
    · rename_i k1 k2
      rw [if_pos (Or.inr (Or.inl k2)), Bool.and_eq_true] at hk
      exact putD _ _ hk.2 base
    split
    · rename_i k3
      rw [if_pos (Or.inr (Or.inr k3)), Bool.and_eq_true] at hk
      exact putD _ _ hk.2 (putR _ _ hk.1 base)
    split
    · split
      · rw [List.getElem?_set_ne (by omega)]; exact base
      · exact base
    · exact base
  · rw [stp_stay hs zs p ls n hl hn hge]
/-- A line done brings a hand on, but no further than its end. -/
theorem stp_pc {words : Int} {hs : List (List Ln)} {zs : List Int} {p : Nat} (hW : Well words hs) (hf : Fit hs zs) (hp : p < hs.length) (n : Nat) (hn : zs[p * 4 + 2]? = some (n : Int)) (hle : n < (hs.getD p []).length) :
    ∃ m : Nat, (stp hs zs p)[p * 4 + 2]? = some (m : Int) ∧ n < m ∧ m ≤ (hs.getD p []).length := by
  obtain ⟨hz, hpc⟩ := hf
  have h3w := hW.few
  have hl : hs[p]? = some hs[p] := List.getElem?_eq_getElem hp
  have he : hs.getD p [] = hs[p] := by simp [List.getD_eq_getElem?_getD, hl]
  rw [he] at hle ⊢
  generalize hs[p] = ls at hl hle
  have hall := hW.okay p ls hl
  have hl1 : ls[n]? = some ls[n] := List.getElem?_eq_getElem hle
  have hk := List.all_eq_true.1 hall _ (List.mem_of_getElem? hl1)
  generalize ls[n] = l at hl1 hk
  rw [stp_go hs zs p ls n l hl hn hl1]
  have own : (zs.set (p * 4 + 2) ((n : Int) + 1))[p * 4 + 2]? = some ((n : Int) + 1) := by rw [List.getElem?_set_self (by omega)]
  have fin : ∀ ys : List Int, ys[p * 4 + 2]? = some ((n : Int) + 1) → ∃ m : Nat, ys[p * 4 + 2]? = some (m : Int) ∧ n < m ∧ m ≤ ls.length := fun ys h => ⟨n + 1, by rw [h]; rfl, by omega, by omega⟩
  have putR : ∀ (ys : List Int) (z : Int), inR l.r 0 1 = true → ys[p * 4 + 2]? = some ((n : Int) + 1) → (ys.set (p * 4 + l.r.toNat) z)[p * 4 + 2]? = some ((n : Int) + 1) := fun ys z hr h => by
    have := inR_true.1 hr
    rw [List.getElem?_set_ne (by omega)]; exact h
  have putD : ∀ (ys : List Int) (z : Int), ys[p * 4 + 2]? = some ((n : Int) + 1) → (ys.set (12 + l.d.toNat) z)[p * 4 + 2]? = some ((n : Int) + 1) := fun ys z h => by
    rw [List.getElem?_set_ne (by omega)]; exact h
  simp only [okLn] at hk
  dsimp only
  split
  · rename_i k0
    rw [if_pos k0, Bool.and_eq_true] at hk
    exact fin _ (putR _ _ hk.1 own)
  rename_i k0
  rw [if_neg k0] at hk
  split
  · rename_i k1
    rw [if_pos (Or.inl k1), Bool.and_eq_true] at hk
    exact fin _ (putR _ _ hk.1 own)
  split
  · exact fin _ (putD _ _ own)
  split
  · rename_i k3
    rw [if_pos (Or.inr (Or.inr k3)), Bool.and_eq_true] at hk
    exact fin _ (putD _ _ (putR _ _ hk.1 own))
  rename_i k1 k2 k3
  split
  · rename_i k5
    rw [if_neg (by omega), if_neg (by omega), if_pos k5, Bool.and_eq_true] at hk
    have hv := inR_true.1 hk.2
    split
    · obtain ⟨m, hm⟩ := Int.eq_ofNat_of_zero_le (show 0 ≤ min ((n : Int) + 1 + l.v) ls.length by omega)
      exact ⟨m, by rw [List.getElem?_set_self (by simp; omega), hm], by omega, by omega⟩
    · exact fin _ own
  · exact fin _ own

/-- What a state is that it may come to. -/
structure Good (words : Int) (hs : List (List Ln)) (z : List Int) : Prop where
  fit : Fit hs z
  pc : ∀ p, p < hs.length → ∃ n : Nat, z[p * 4 + 2]? = some (n : Int) ∧ n ≤ (hs.getD p []).length
  idle : ∀ i, i < 16 → (∀ p, p < hs.length → i ≠ p * 4 ∧ i ≠ p * 4 + 1 ∧ i ≠ p * 4 + 2) → ¬ (12 ≤ i ∧ (i : Int) < 12 + words) → z[i]? = some 0
theorem zero16_get (i : Nat) (h : i < 16) : zero16[i]? = some 0 := by rw [zero16, List.getElem?_replicate, if_pos h]
theorem Good.start {words : Int} {hs : List (List Ln)} (h : hs.length ≤ 3) : Good words hs zero16 :=
  ⟨zero16_fit hs h, fun p hp => ⟨0, by rw [zero16_get _ (by omega)]; rfl, Nat.zero_le _⟩, fun i hi _ _ => zero16_get i hi⟩
theorem Good.step {words : Int} {hs : List (List Ln)} {z : List Int} (hW : Well words hs) (h : Good words hs z) {p : Nat} (hp : p < hs.length) : Good words hs (stp hs z p) := by
  have h3 := hW.few
  refine ⟨(stp_fit hW h.fit hp).1, fun q hq => ?_, fun i hi h1 h2 => ?_⟩
  · obtain ⟨n, hn, hle⟩ := h.pc q hq
    by_cases e : q = p
    · subst e
      rcases Nat.lt_or_ge n (hs.getD q []).length with hlt | hge
      · obtain ⟨m, hm, _, hm2⟩ := stp_pc hW h.fit hq n hn hlt
        exact ⟨m, hm, hm2⟩
      · have hl : hs[q]? = some hs[q] := List.getElem?_eq_getElem hq
        rw [List.getD_eq_getElem?_getD, hl] at hge
        rw [stp_stay hs z q _ n hl hn hge]
        exact ⟨n, hn, hle⟩
    · exact ⟨n, by rw [stp_frame hW h.fit hp _ (by omega) (by omega) (by omega) (by omega)]; exact hn, hle⟩
  · have := h1 p hp
    rw [stp_frame hW h.fit hp i this.1 this.2.1 this.2.2 h2]
    exact h.idle i hi h1 h2
theorem Reach.good {words : Int} {hs : List (List Ln)} {z : List Int} (hW : Well words hs) (h : Reach hs z) : Good words hs z :=
  Reach.rec' (Good.start hW.few) (fun _ _ _ hg hp => hg.step hW hp) z h

/-- How far all hands are. -/
def pcsum (z : List Int) : Int := z.getD 2 0 + z.getD 6 0 + z.getD 10 0
theorem Good.idle_pc {words : Int} {hs : List (List Ln)} {z : List Int} (h : Good words hs z) (p : Nat) (hp : p < 3) (hp2 : hs.length ≤ p) : z[p * 4 + 2]? = some 0 :=
  h.idle _ (by omega) (fun q hq => by omega) (by omega)
theorem Good.pc3 {words : Int} {hs : List (List Ln)} {z : List Int} (hW : Well words hs) (h : Good words hs z) (p : Nat) (hp : p < 3) : ∃ n : Nat, z[p * 4 + 2]? = some (n : Int) ∧ n ≤ 5 := by
  rcases Nat.lt_or_ge p hs.length with hlt | hge
  · obtain ⟨n, hn, hle⟩ := h.pc p hlt
    have hl : hs[p]? = some hs[p] := List.getElem?_eq_getElem hlt
    have := hW.short p _ hl
    rw [List.getD_eq_getElem?_getD, hl, Option.getD_some] at hle
    exact ⟨n, hn, by omega⟩
  · exact ⟨0, h.idle_pc p hp hge, by omega⟩
theorem Good.pcsum_le {words : Int} {hs : List (List Ln)} {z : List Int} (hW : Well words hs) (h : Good words hs z) : pcsum z ≤ 15 := by
  obtain ⟨a, ha, ha5⟩ := h.pc3 hW 0 (by omega)
  obtain ⟨b, hb, hb5⟩ := h.pc3 hW 1 (by omega)
  obtain ⟨c, hc, hc5⟩ := h.pc3 hW 2 (by omega)
  simp only [Nat.zero_mul, Nat.zero_add, Nat.one_mul, Nat.reduceAdd, Nat.reduceMul] at ha hb hc
  simp only [pcsum, List.getD_eq_getElem?_getD, ha, hb, hc, Option.getD_some]
  omega
theorem stp_pcsum {words : Int} {hs : List (List Ln)} {z : List Int} (hW : Well words hs) (h : Good words hs z) {p : Nat} (hp : p < hs.length) : stp hs z p = z ∨ pcsum z + 1 ≤ pcsum (stp hs z p) := by
  have h3 := hW.few
  obtain ⟨n, hn, hle⟩ := h.pc p hp
  rcases Nat.lt_or_ge n (hs.getD p []).length with hlt | hge
  · right
    obtain ⟨m, hm, hm1, _⟩ := stp_pc hW h.fit hp n hn hlt
    have fr : ∀ q, q < 3 → q ≠ p → (stp hs z p)[q * 4 + 2]? = z[q * 4 + 2]? := fun q hq hne => stp_frame hW h.fit hp _ (by omega) (by omega) (by omega) (by omega)
    have f0 := fr 0 (by omega)
    have f1 := fr 1 (by omega)
    have f2 := fr 2 (by omega)
    simp only [pcsum, List.getD_eq_getElem?_getD]
    have hp3 : p = 0 ∨ p = 1 ∨ p = 2 := by omega
    rcases hp3 with rfl | rfl | rfl
    · simp only [Nat.zero_mul, Nat.zero_add, Nat.one_mul, Nat.reduceAdd, Nat.reduceMul] at hn hm f1 f2
      rw [f1 (by omega), f2 (by omega), hn, hm]; simp; omega
    · simp only [Nat.zero_mul, Nat.zero_add, Nat.one_mul, Nat.reduceAdd, Nat.reduceMul] at hn hm f0 f2
      rw [f0 (by omega), f2 (by omega), hn, hm]; simp; omega
    · simp only [Nat.zero_mul, Nat.zero_add, Nat.one_mul, Nat.reduceAdd, Nat.reduceMul] at hn hm f0 f1
      rw [f0 (by omega), f1 (by omega), hn, hm]; simp; omega
  · left
    have hl : hs[p]? = some hs[p] := List.getElem?_eq_getElem hp
    rw [List.getD_eq_getElem?_getD, hl] at hge
    exact stp_stay hs z p _ n hl hn hge

theorem Reach.mem {words : Int} {hs : List (List Ln)} {z : List Int} (hW : Well words hs) (h : Reach hs z) : z ∈ allS hs := by
  have h1 : ∃ k : Nat, z ∈ lev hs k ∧ (k : Int) ≤ pcsum z := by
    refine Reach.rec' (hs := hs) (P := fun z => ∃ k : Nat, z ∈ lev hs k ∧ (k : Int) ≤ pcsum z) ⟨0, by simp [lev], by simp [pcsum, zero16]⟩ ?_ z h
    rintro z p hr ⟨k, hk, hle⟩ hp
    rcases stp_pcsum hW (hr.good hW) hp with e | e
    · rw [e]; exact ⟨k, hk, hle⟩
    · exact ⟨k + 1, lev_step hs hk hp, by omega⟩
  obtain ⟨k, hk, hle⟩ := h1
  have := (h.good hW).pcsum_le hW
  exact lev_more hs (by omega) hk
theorem lev_reach (hs : List (List Ln)) : ∀ k z, z ∈ lev hs k → Reach hs z
  | 0, z, h => by simp [lev] at h; subst h; exact Reach.start hs
  | k + 1, z, h => by
    rw [lev, mem_addAll] at h
    rcases h with h | h
    · exact lev_reach hs k z h
    · obtain ⟨y, hy, hz⟩ := List.mem_flatMap.1 h
      obtain ⟨p, hp, rfl⟩ := List.mem_map.1 hz
      exact (lev_reach hs k y hy).step (List.mem_range.1 hp)
theorem mem_allS {words : Int} {hs : List (List Ln)} {z : List Int} (hW : Well words hs) : z ∈ allS hs ↔ Reach hs z := ⟨lev_reach hs 15 z, fun h => h.mem hW⟩
theorem allS_length {hs : List (List Ln)} (h3 : hs.length ≤ 3) : (allS hs).length ≤ 1073741824 := lev_length hs h3 15

/-! ### What is told -/
/-- All hands are done. -/
def endB (hs : List (List Ln)) (z : List Int) : Bool := (List.range hs.length).all fun p => decide (((hs.getD p []).length : Int) ≤ z.getD (p * 4 + 2) 0)
theorem endB_iff {hs : List (List Ln)} {z : List Int} : endB hs z = true ↔ ∀ p, p < hs.length → ((hs.getD p []).length : Int) ≤ z.getD (p * 4 + 2) 0 := by
  simp [endB, List.all_eq_true]
theorem regsOf_get {zs : List Int} : ∀ (k p : Nat), p < k → (regsOf zs k)[p * 2]? = some (zs.getD (p * 4) 0) ∧ (regsOf zs k)[p * 2 + 1]? = some (zs.getD (p * 4 + 1) 0)
  | 0, p, h => by omega
  | k + 1, p, h => by
    rw [regsOf_succ]
    have hl := regsOf_length zs k
    rcases Nat.lt_or_ge p k with h1 | h1
    · rw [List.getElem?_append_left (by omega), List.getElem?_append_left (by omega)]
      exact regsOf_get k p h1
    · have e : p = k := by omega
      subst e
      rw [List.getElem?_append_right (by omega), List.getElem?_append_right (by omega), hl]
      simp [show p * 2 + 1 - p * 2 = 1 by omega]
theorem wordsOf_get {zs : List Int} (k i : Nat) (h : i < k) : (wordsOf zs k)[i]? = some (zs.getD (12 + i) 0) := by simp [wordsOf, List.getElem?_map, List.getElem?_range h]
theorem toldOf_length {hs : List (List Ln)} {words : Int} {z : List Int} : (toldOf hs words z).length = hs.length * 2 + words.toNat := by rw [toldOf, List.length_append, regsOf_length, wordsOf_length]
/-- Where all is done, no two states tell the same. -/
theorem told_inj {words : Int} {hs : List (List Ln)} {z y : List Int} (hW : Well words hs) (hz : Good words hs z) (hy : Good words hs y) (ez : endB hs z = true) (ey : endB hs y = true) (h : toldOf hs words z = toldOf hs words y) : z = y := by
  have h3 := hW.few
  have hw1 := hW.lo
  have hw4 := hW.hi
  have hr : regsOf z hs.length = regsOf y hs.length := List.append_inj_left h (by rw [regsOf_length, regsOf_length])
  have hw : wordsOf z words.toNat = wordsOf y words.toNat := List.append_inj_right h (by rw [regsOf_length, regsOf_length])
  have at_ : ∀ (x : List Int) (i : Nat), x.length = 16 → i < 16 → x[i]? = some (x.getD i 0) := fun x i hx hi => by simp [List.getD_eq_getElem?_getD, List.getElem?_eq_getElem (show i < x.length by omega)]
  apply List.ext_getElem?
  intro i
  rcases Nat.lt_or_ge i 16 with hi | hi
  · by_cases hwd : 12 ≤ i ∧ (i : Int) < 12 + words
    · obtain ⟨j, rfl⟩ : ∃ j, i = 12 + j := ⟨i - 12, by omega⟩
      have h1 := wordsOf_get (zs := z) words.toNat j (by omega)
      have h2 := wordsOf_get (zs := y) words.toNat j (by omega)
      rw [hw, h2] at h1
      rw [at_ z _ hz.fit.1 hi, at_ y _ hy.fit.1 hi]
      exact h1.symm
    · by_cases hin : ∃ p, p < hs.length ∧ (i = p * 4 ∨ i = p * 4 + 1 ∨ i = p * 4 + 2)
      · obtain ⟨p, hp, hip⟩ := hin
        have h1 := regsOf_get (zs := z) hs.length p hp
        have h2 := regsOf_get (zs := y) hs.length p hp
        rw [hr] at h1
        rcases hip with rfl | rfl | rfl
        · rw [at_ z _ hz.fit.1 hi, at_ y _ hy.fit.1 hi, ← h2.1, ← h1.1]
        · rw [at_ z _ hz.fit.1 hi, at_ y _ hy.fit.1 hi, ← h2.2, ← h1.2]
        · obtain ⟨n, hn, hn2⟩ := hz.pc p hp
          obtain ⟨m, hm, hm2⟩ := hy.pc p hp
          have e1 := endB_iff.1 ez p hp
          have e2 := endB_iff.1 ey p hp
          rw [show z.getD (p * 4 + 2) 0 = (n : Int) by rw [List.getD_eq_getElem?_getD, hn]; rfl] at e1
          rw [show y.getD (p * 4 + 2) 0 = (m : Int) by rw [List.getD_eq_getElem?_getD, hm]; rfl] at e2
          rw [hn, hm]
          congr 1
          omega
      · have hid : ∀ p, p < hs.length → i ≠ p * 4 ∧ i ≠ p * 4 + 1 ∧ i ≠ p * 4 + 2 := fun p hp =>
          ⟨fun e => hin ⟨p, hp, Or.inl e⟩, fun e => hin ⟨p, hp, Or.inr (Or.inl e)⟩, fun e => hin ⟨p, hp, Or.inr (Or.inr e)⟩⟩
        rw [hz.idle i hi hid hwd, hy.idle i hi hid hwd]
  · rw [List.getElem?_eq_none (by rw [hz.fit.1]; omega), List.getElem?_eq_none (by rw [hy.fit.1]; omega)]

/-! ### The order of what is told -/
/-- Has the one the lesser number at the first place where they differ? -/
def lessL : List Int → List Int → Bool
  | x :: a, y :: b => if x = y then lessL a b else decide (x < y)
  | _, _ => false
theorem lessL_irrefl : ∀ a, lessL a a = false
  | [] => rfl
  | x :: a => by simp [lessL, lessL_irrefl a]
theorem lessL_trans : ∀ {a b c : List Int}, lessL a b = true → lessL b c = true → lessL a c = true
  | [], _, _, h, _ => by simp [lessL] at h
  | _ :: _, [], _, h, _ => by simp [lessL] at h
  | _ :: _, _ :: _, [], _, h => by simp [lessL] at h
  | x :: a, y :: b, z :: c, h1, h2 => by
    simp only [lessL] at h1 h2 ⊢
    split at h1
    · rename_i e; subst e
      split at h2
      · rename_i e; subst e
        rw [if_pos rfl]
        exact lessL_trans h1 h2
      · rename_i e; rw [if_neg e]; exact h2
    · rename_i e
      have h1' := of_decide_eq_true h1
      split at h2
      · rename_i e2; subst e2
        rw [if_neg e]; exact h1
      · have h2' := of_decide_eq_true h2
        rw [if_neg (by omega)]
        exact decide_eq_true (by omega)
theorem lessL_asymm {a b : List Int} (h : lessL a b = true) : lessL b a = false := by
  rw [← Bool.not_eq_true]
  intro h2
  have := lessL_trans h h2
  rw [lessL_irrefl] at this
  cases this
theorem lessL_total : ∀ {a b : List Int}, a.length = b.length → a = b ∨ lessL a b = true ∨ lessL b a = true
  | [], [], _ => Or.inl rfl
  | [], _ :: _, h => by simp at h
  | _ :: _, [], h => by simp at h
  | x :: a, y :: b, h => by
    simp only [lessL]
    by_cases e : x = y
    · subst e
      simp only [if_true]
      rcases lessL_total (a := a) (b := b) (by simpa using h) with h1 | h1 | h1
      · exact Or.inl (by rw [h1])
      · exact Or.inr (Or.inl h1)
      · exact Or.inr (Or.inr h1)
    · rw [if_neg e, if_neg (fun h => e h.symm)]
      right
      rcases Int.lt_or_gt_of_ne e with h1 | h1
      · exact Or.inl (decide_eq_true h1)
      · exact Or.inr (decide_eq_true h1)
/-- A list that rises. -/
def Rises (l : List (List Int)) : Prop := l.Pairwise fun a b => lessL a b = true
/-- A list that rises is known by what is in it. -/
theorem rises_ext : ∀ {l m : List (List Int)}, Rises l → Rises m → (∀ x, x ∈ l ↔ x ∈ m) → l = m
  | [], [], _, _, _ => rfl
  | [], y :: m, _, _, h => by have := (h y).2 (by simp); cases this
  | x :: l, [], _, _, h => by have := (h x).1 (by simp); cases this
  | x :: l, y :: m, hl, hm, h => by
    have h1 := List.pairwise_cons.1 hl
    have h2 := List.pairwise_cons.1 hm
    have e : x = y := by
      have a1 := (h x).1 (by simp)
      have a2 := (h y).2 (by simp)
      rcases List.mem_cons.1 a1 with e | a1
      · exact e
      rcases List.mem_cons.1 a2 with e | a2
      · exact e.symm
      have b1 := h1.1 y a2
      have b2 := h2.1 x a1
      rw [lessL_asymm b1] at b2
      cases b2
    subst e
    congr 1
    refine rises_ext h1.2 h2.2 fun z => ⟨fun hz => ?_, fun hz => ?_⟩
    · rcases List.mem_cons.1 ((h z).1 (List.mem_cons_of_mem _ hz)) with e | h'
      · subst e
        have := h1.1 z hz
        rw [lessL_irrefl] at this; cases this
      · exact h'
    · rcases List.mem_cons.1 ((h z).2 (List.mem_cons_of_mem _ hz)) with e | h'
      · subst e
        have := h2.1 z hz
        rw [lessL_irrefl] at this; cases this
      · exact h'
theorem Rises.nodup {l : List (List Int)} (h : Rises l) : l.Nodup := by
  refine List.Pairwise.imp (fun {a b} hab => ?_) h
  intro e
  subst e
  rw [lessL_irrefl] at hab
  cases hab

/-- Put into a list that rises. -/
def putL (l : List (List Int)) (x : List Int) : List (List Int) := l.filter (fun y => lessL y x) ++ x :: l.filter (fun y => lessL x y)
theorem putL_rises {l : List (List Int)} {x : List Int} (h : Rises l) : Rises (putL l x) := by
  unfold Rises putL
  rw [List.pairwise_append]
  refine ⟨h.filter _, ?_, ?_⟩
  · rw [List.pairwise_cons]
    refine ⟨fun y hy => (List.mem_filter.1 hy).2, h.filter _⟩
  · intro a ha b hb
    have h1 := (List.mem_filter.1 ha).2
    rcases List.mem_cons.1 hb with e | hb
    · rw [e]; exact h1
    · exact lessL_trans h1 (List.mem_filter.1 hb).2
theorem mem_putL {l : List (List Int)} {x y : List Int} (n : Nat) (hx : x.length = n) (hl : ∀ z ∈ l, z.length = n) : y ∈ putL l x ↔ y ∈ l ∨ y = x := by
  unfold putL
  rw [List.mem_append, List.mem_cons, List.mem_filter, List.mem_filter]
  constructor
  · rintro (h | h | h)
    · exact Or.inl h.1
    · exact Or.inr h
    · exact Or.inl h.1
  · rintro (h | h)
    · rcases lessL_total (a := y) (b := x) (by rw [hx, hl y h]) with e | e | e
      · exact Or.inr (Or.inl e)
      · exact Or.inl ⟨h, e⟩
      · exact Or.inr (Or.inr ⟨h, e⟩)
    · exact Or.inr (Or.inl h)
def putAll (l xs : List (List Int)) : List (List Int) := xs.foldl putL l
theorem putAll_facts (n : Nat) : ∀ (xs l : List (List Int)), Rises l → (∀ z ∈ l, z.length = n) → (∀ z ∈ xs, z.length = n) → Rises (putAll l xs) ∧ (∀ z ∈ putAll l xs, z.length = n) ∧ ∀ y, y ∈ putAll l xs ↔ y ∈ l ∨ y ∈ xs
  | [], l, h, hl, _ => ⟨h, hl, fun y => by simp [putAll]⟩
  | x :: r, l, h, hl, hx => by
    have h1 : ∀ z ∈ putL l x, z.length = n := fun z hz => by
      rcases (mem_putL n (hx x (by simp)) hl).1 hz with h' | h'
      · exact hl z h'
      · rw [h']; exact hx x (by simp)
    obtain ⟨a, b, c⟩ := putAll_facts n r (putL l x) (putL_rises h) h1 fun z hz => hx z (by simp [hz])
    refine ⟨a, b, fun y => ?_⟩
    show y ∈ putAll (putL l x) r ↔ _
    rw [c y, mem_putL n (hx x (by simp)) hl, List.mem_cons, or_assoc]

/-- All that may be told, rising. -/
def scR (words : Int) (hs : List (List Ln)) : List (List Int) := putAll [] (((allS hs).filter (endB hs)).map (toldOf hs words))
theorem scR_facts (words : Int) (hs : List (List Ln)) : Rises (scR words hs) ∧ (∀ t ∈ scR words hs, t.length = hs.length * 2 + words.toNat) ∧ ∀ t, t ∈ scR words hs ↔ ∃ z, z ∈ allS hs ∧ endB hs z = true ∧ toldOf hs words z = t := by
  obtain ⟨a, b, c⟩ := putAll_facts (hs.length * 2 + words.toNat) (((allS hs).filter (endB hs)).map (toldOf hs words)) [] List.Pairwise.nil (by simp) (by
    intro z hz
    obtain ⟨y, _, rfl⟩ := List.mem_map.1 hz
    exact toldOf_length)
  refine ⟨a, b, fun t => ?_⟩
  rw [scR, c t, List.mem_map]
  constructor
  · rintro (h | ⟨z, hz, rfl⟩)
    · cases h
    · exact ⟨z, (List.mem_filter.1 hz).1, (List.mem_filter.1 hz).2, rfl⟩
  · rintro ⟨z, hz, he, rfl⟩
    exact Or.inr ⟨z, List.mem_filter.2 ⟨hz, he⟩, rfl⟩
theorem mem_scR {words : Int} {hs : List (List Ln)} (hW : Well words hs) (t : List Int) : t ∈ scR words hs ↔ ∃ z, Reach hs z ∧ endB hs z = true ∧ toldOf hs words z = t := by
  rw [(scR_facts words hs).2.2 t]
  constructor
  · rintro ⟨z, h1, h2⟩; exact ⟨z, (mem_allS hW).1 h1, h2⟩
  · rintro ⟨z, h1, h2⟩; exact ⟨z, (mem_allS hW).2 h1, h2⟩

/-! ### Races -/
def nextLn (hs : List (List Ln)) (z : List Int) (p : Nat) : Option Ln := if z.getD (p * 4 + 2) 0 < 0 then none else (hs.getD p [])[(z.getD (p * 4 + 2) 0).toNat]?
def touchB (l : Ln) : Bool := decide (l.k = 1) || (decide (l.k = 2) || decide (l.k = 3))
def clashB (a b : Ln) : Bool := touchB a && touchB b && decide (a.d = b.d) && (decide (a.k ≠ b.k) || decide (a.k = 2))
def race2 (hs : List (List Ln)) (z : List Int) (a b : Nat) : Bool :=
  match nextLn hs z a, nextLn hs z b with
  | some x, some y => clashB x y
  | _, _ => false
def raceB (hs : List (List Ln)) (z : List Int) : Bool := (List.range hs.length).any fun a => (List.range a).any fun b => race2 hs z a b
/-- May two hands touch one word next? -/
def scRace (hs : List (List Ln)) : Bool := (allS hs).any (raceB hs)
theorem raceB_iff {hs : List (List Ln)} {z : List Int} : raceB hs z = true ↔ ∃ a b, a < hs.length ∧ b < a ∧ race2 hs z a b = true := by
  simp only [raceB, List.any_eq_true, List.mem_range]
  constructor
  · rintro ⟨a, ha, b, hb, h⟩; exact ⟨a, b, ha, hb, h⟩
  · rintro ⟨a, b, ha, hb, h⟩; exact ⟨a, ha, b, hb, h⟩
theorem scRace_iff {words : Int} {hs : List (List Ln)} (hW : Well words hs) : scRace hs = true ↔ ∃ z, Reach hs z ∧ raceB hs z = true := by
  simp only [scRace, List.any_eq_true]
  constructor
  · rintro ⟨z, h1, h2⟩; exact ⟨z, (mem_allS hW).1 h1, h2⟩
  · rintro ⟨z, h1, h2⟩; exact ⟨z, (mem_allS hW).2 h1, h2⟩
end Go.Proofs.YthpnnmkpbkbanaaDoor

/-
  The numbers of a state are small: plain mathematics.
-/
namespace Go.Proofs.YthpnnmkpbkbanaaDoor

def Rng (z : List Int) : Prop := ∀ x ∈ z, 0 ≤ x ∧ x ≤ 1000
theorem Rng.set {z : List Int} (h : Rng z) (i : Nat) {v : Int} (hv : 0 ≤ v ∧ v ≤ 1000) : Rng (z.set i v) := by
  intro x hx
  rcases List.mem_or_eq_of_mem_set hx with h1 | h1
  · exact h x h1
  · rw [h1]; exact hv
theorem Rng.getD {z : List Int} (h : Rng z) (i : Nat) : 0 ≤ z.getD i 0 ∧ z.getD i 0 ≤ 1000 := by
  rw [List.getD_eq_getElem?_getD]
  cases e : z[i]? with
  | none => simp
  | some x => exact h x (List.mem_of_getElem? e)
theorem stp_rng {words : Int} {hs : List (List Ln)} {zs : List Int} {p : Nat} (hW : Well words hs) (hf : Good words hs zs) (hr : Rng zs) (hp : p < hs.length) : Rng (stp hs zs p) := by
  obtain ⟨n, hn, hle⟩ := hf.pc p hp
  have hl : hs[p]? = some hs[p] := List.getElem?_eq_getElem hp
  have he : hs.getD p [] = hs[p] := by simp [List.getD_eq_getElem?_getD, hl]
  rw [he] at hle
  generalize hs[p] = ls at hl hle
  have h5 := hW.short p ls hl
  have hall := hW.okay p ls hl
  rcases Nat.lt_or_ge n ls.length with hlt | hge
  · have hl1 : ls[n]? = some ls[n] := List.getElem?_eq_getElem hlt
    have hk := List.all_eq_true.1 hall _ (List.mem_of_getElem? hl1)
    generalize ls[n] = l at hl1 hk
    rw [stp_go hs zs p ls n l hl hn hl1]
    have base : Rng (zs.set (p * 4 + 2) ((n : Int) + 1)) := hr.set _ (by omega)
    simp only [okLn] at hk
    dsimp only
    split
    · rename_i k0
      rw [if_pos k0, Bool.and_eq_true] at hk
      have hv := inR_true.1 hk.2
      exact base.set _ hv
    rename_i k0
    rw [if_neg k0] at hk
    split
    · exact base.set _ (base.getD _)
    split
    · exact base.set _ (base.getD _)
    split
    · exact (base.set _ (base.getD _)).set _ (base.getD _)
    rename_i k1 k2 k3
    split
    · rename_i k5
      rw [if_neg (by omega), if_neg (by omega), if_pos k5, Bool.and_eq_true] at hk
      have hv := inR_true.1 hk.2
      split
      · exact base.set _ (by omega)
      · exact base
    · exact base
  · rw [stp_stay hs zs p ls n hl hn hge]; exact hr
theorem zero16_rng : Rng zero16 := by
  intro x hx
  have := List.eq_of_mem_replicate hx
  omega
theorem Reach.rng {words : Int} {hs : List (List Ln)} {z : List Int} (hW : Well words hs) (h : Reach hs z) : Rng z :=
  Reach.rec' (hs := hs) (P := Rng) zero16_rng (fun _ _ hr h hp => stp_rng hW (hr.good hW) h hp) z h
theorem Rng.wf {z : List Int} (h : Rng z) (x : Int) (hx : x ∈ z) : -9223372036854775808 ≤ x ∧ x ≤ 9223372036854775807 := by
  have := h x hx
  omega
end Go.Proofs.YthpnnmkpbkbanaaDoor

/-
  What holds of all that a program may do: plain mathematics.
-/
namespace Go.Proofs.YthpnnmkpbkbanaaDoor

/-! ### All that a script does may be -/
theorem runErr_zero {words : Int} {hs : List (List Ln)} {script : List Int} (h : runErr words hs script = 0) : check words hs = 0 ∧ script.length ≤ 40 ∧ ∀ x ∈ script, 0 ≤ x ∧ x < hs.length := by
  unfold runErr at h
  split at h
  · rename_i h1; exact absurd h h1
  · rename_i h1
    split at h
    · simp at h
    · split at h
      · rename_i h2 h3
        refine ⟨by simpa using h1, by omega, fun x hx => ?_⟩
        have := inR_true.1 (List.all_eq_true.1 h3 x hx)
        omega
      · simp at h
theorem done_ended {hs : List (List Ln)} {z : List Int} (h : ∀ p, p < hs.length → Done hs z p) : endB hs z = true := by
  rw [endB_iff]
  intro p hp
  obtain ⟨n, hn, hle⟩ := h p hp
  rw [show z.getD (p * 4 + 2) 0 = (n : Int) by rw [List.getD_eq_getElem?_getD, hn]; rfl]
  omega
theorem ended_done {words : Int} {hs : List (List Ln)} {z : List Int} (hg : Good words hs z) (h : endB hs z = true) : ∀ p, p < hs.length → Done hs z p := by
  intro p hp
  have h1 := endB_iff.1 h p hp
  obtain ⟨n, hn, _⟩ := hg.pc p hp
  rw [show z.getD (p * 4 + 2) 0 = (n : Int) by rw [List.getD_eq_getElem?_getD, hn]; rfl] at h1
  exact ⟨n, hn, by omega⟩
theorem fin_reach {words : Int} {hs : List (List Ln)} {script : List Int} (hW : Well words hs) (hs' : ∀ x ∈ script, 0 ≤ x ∧ x < hs.length) : Reach hs (finN hs hs.length (scripted hs zero16 script)) ∧ endB hs (finN hs hs.length (scripted hs zero16 script)) = true := by
  have hf := scripted_fit hW script _ (zero16_fit hs hW.few) hs'
  refine ⟨⟨script ++ againS hs hs.length, ?_, ?_⟩, done_ended (finN_Done hW hf _ (Nat.le_refl _))⟩
  · intro x hx
    rw [List.mem_append] at hx
    rcases hx with hx | hx
    · exact hs' x hx
    · exact againS_mem _ x hx
  · rw [scripted_append, scripted_again hW hf _ (Nat.le_refl _)]
theorem run_in_scR {words : Int} {hs : List (List Ln)} {script : List Int} (h : runErr words hs script = 0) : runTold words hs script ∈ scR words hs := by
  obtain ⟨hc, _, hs'⟩ := runErr_zero h
  have hW := check_well hc
  obtain ⟨h1, h2⟩ := fin_reach hW hs'
  rw [mem_scR hW]
  exact ⟨_, h1, h2, by rw [runTold, if_pos h]⟩

/-! ### Who is alone does one thing -/
theorem alone_reach {hs : List (List Ln)} {z : List Int} (h1 : hs.length = 1) (h : Reach hs z) : ∃ n, z = iter (fun y => stp hs y 0) n zero16 := by
  refine Reach.rec' (hs := hs) (P := fun z => ∃ n, z = iter (fun y => stp hs y 0) n zero16) ⟨0, rfl⟩ ?_ z h
  rintro z p _ ⟨n, rfl⟩ hp
  obtain rfl : p = 0 := by omega
  exact ⟨n + 1, (iter_succ (fun y => stp hs y 0) n zero16).symm⟩
theorem alone_scR {words : Int} {hs : List (List Ln)} (hc : check words hs = 0) (h1 : hs.length = 1) : scR words hs = [runTold words hs []] := by
  have hW := check_well hc
  have hf := zero16_fit hs hW.few
  have he : runErr words hs [] = 0 := by simp [runErr, hc]
  have hm := run_in_scR he
  refine rises_ext (scR_facts words hs).1 (List.pairwise_singleton _ _) fun x => ⟨fun hx => ?_, fun hx => ?_⟩
  · obtain ⟨z, hr, hend, rfl⟩ := (mem_scR hW x).1 hx
    obtain ⟨n, rfl⟩ := alone_reach h1 hr
    have e := allOf_of_done (by omega) (ended_done (hr.good hW) hend 0 (by omega))
    rw [allOf_iter hW hf (by omega)] at e
    rw [List.mem_singleton, runTold, if_pos he, ← e, h1]
    rfl
  · rw [List.mem_singleton] at hx
    rw [hx]; exact hm
theorem alone_race {hs : List (List Ln)} (h1 : hs.length = 1) : scRace hs = false := by
  rw [← Bool.not_eq_true]
  intro h
  simp only [scRace, List.any_eq_true] at h
  obtain ⟨z, _, hz⟩ := h
  obtain ⟨a, b, ha, hb, _⟩ := raceB_iff.1 hz
  omega

/-! ### A map between results -/
theorem inj_length {l m : List (List Int)} (f : List Int → List Int) (hl : l.Nodup) (hi : ∀ x ∈ l, ∀ y ∈ l, f x = f y → x = y) (hm : ∀ x ∈ l, f x ∈ m) : l.length ≤ m.length := by
  have h1 : (l.map f).Nodup := by
    unfold List.Nodup
    rw [List.pairwise_map]
    refine List.Pairwise.imp_of_mem ?_ hl
    intro a b ha hb hab e
    exact hab (hi a ha b hb e)
  have := nodup_le h1 (m := m) fun x hx => by
    obtain ⟨y, hy, rfl⟩ := List.mem_map.1 hx
    exact hm y hy
  rwa [List.length_map] at this

/-! ### Two hands the other way round -/
def sgm (i : Nat) : Nat := if i < 4 then i + 4 else if i < 8 then i - 4 else i
def sw (z : List Int) : List Int := (z.drop 4).take 4 ++ (z.take 4 ++ z.drop 8)
theorem sw_get (z : List Int) (hz : z.length = 16) (i : Nat) : (sw z)[sgm i]? = z[i]? := by
  unfold sw sgm
  have l1 : ((z.drop 4).take 4).length = 4 := by simp [hz]
  have l2 : (z.take 4).length = 4 := by simp [hz]
  split
  · rw [List.getElem?_append_right (by omega), l1, List.getElem?_append_left (by omega), List.getElem?_take]
    rw [if_pos (by omega)]; congr 1
  · split
    · rw [List.getElem?_append_left (by omega), List.getElem?_take, if_pos (by omega), List.getElem?_drop]; congr 1; omega
    · rw [List.getElem?_append_right (by omega), l1, List.getElem?_append_right (by omega), l2, List.getElem?_drop]; congr 1; omega
theorem sw_length (z : List Int) (hz : z.length = 16) : (sw z).length = 16 := by simp [sw, hz]
theorem sgm_sgm (i : Nat) : sgm (sgm i) = i := by unfold sgm; split <;> split <;> (try split) <;> omega
theorem sw_sw (z : List Int) (hz : z.length = 16) : sw (sw z) = z := by
  apply List.ext_getElem?
  intro i
  have h1 := sw_get (sw z) (sw_length z hz) (sgm i)
  rw [sgm_sgm, sw_get z hz] at h1
  exact h1
theorem sw_getD (z : List Int) (hz : z.length = 16) (i : Nat) : (sw z).getD (sgm i) 0 = z.getD i 0 := by simp only [List.getD_eq_getElem?_getD, sw_get z hz]
theorem sgm_inj {i j : Nat} (h : sgm i = sgm j) : i = j := by rw [← sgm_sgm i, h, sgm_sgm]
theorem sw_set (z : List Int) (hz : z.length = 16) (i : Nat) (v : Int) : (sw z).set (sgm i) v = sw (z.set i v) := by
  apply List.ext_getElem?
  intro j
  obtain ⟨k, rfl⟩ : ∃ k, j = sgm k := ⟨sgm j, (sgm_sgm j).symm⟩
  rw [sw_get _ (by simp [hz])]
  by_cases e : i = k
  · subst e
    rcases Nat.lt_or_ge i 16 with hi | hi
    · have : sgm i < 16 := by unfold sgm; split <;> (try split) <;> omega
      rw [List.getElem?_set_self (by rw [sw_length z hz]; omega), List.getElem?_set_self (by omega)]
    · have : 16 ≤ sgm i := by unfold sgm; split <;> (try split) <;> omega
      rw [List.getElem?_eq_none (by rw [List.length_set, sw_length z hz]; omega), List.getElem?_eq_none (by rw [List.length_set]; omega)]
  · rw [List.getElem?_set_ne (fun h => e (sgm_inj h)), List.getElem?_set_ne e, sw_get z hz]

/-- The state of the same hands the other way round. -/
structure Sw2 (hs hs' : List (List Ln)) : Prop where
  len : hs.length = 2
  len' : hs'.length = 2
  at0 : hs'.getD 0 [] = hs.getD 1 []
  at1 : hs'.getD 1 [] = hs.getD 0 []
theorem Sw2.symm {hs hs' : List (List Ln)} (h : Sw2 hs hs') : Sw2 hs' hs := ⟨h.len', h.len, h.at1.symm, h.at0.symm⟩
theorem Sw2.at_ {hs hs' : List (List Ln)} (h : Sw2 hs hs') {p : Nat} (hp : p < 2) : hs'.getD (1 - p) [] = hs.getD p [] := by
  have : p = 0 ∨ p = 1 := by omega
  rcases this with rfl | rfl
  · exact h.at1
  · exact h.at0
theorem sgm_hand {p r : Nat} (hp : p < 2) (hr : r < 4) : (1 - p) * 4 + r = sgm (p * 4 + r) := by
  have : p = 0 ∨ p = 1 := by omega
  rcases this with rfl | rfl
  · unfold sgm; rw [if_pos (by omega)]; omega
  · unfold sgm; rw [if_neg (by omega), if_pos (by omega)]; omega
theorem sgm_word (d : Nat) : 12 + d = sgm (12 + d) := by unfold sgm; rw [if_neg (by omega), if_neg (by omega)]
theorem sw_stp {words : Int} {hs hs' : List (List Ln)} {z : List Int} (hW : Well words hs) (hs2 : Sw2 hs hs') (hf : Fit hs z) {p : Nat} (hp : p < hs.length) : stp hs' (sw z) (1 - p) = sw (stp hs z p) := by
  obtain ⟨hz, hpc⟩ := hf
  have hl2 := hs2.len
  have hp2 : p < 2 := by omega
  obtain ⟨n, hn⟩ := hpc p hp
  have hgd : z.getD (p * 4 + 2) 0 = (n : Int) := by rw [List.getD_eq_getElem?_getD, hn]; rfl
  have hl : hs[p]? = some hs[p] := List.getElem?_eq_getElem hp
  have he : hs.getD p [] = hs[p] := by simp [List.getD_eq_getElem?_getD, hl]
  have hall := hW.okay p _ hl
  have hpc' : (sw z).getD ((1 - p) * 4 + 2) 0 = z.getD (p * 4 + 2) 0 := by rw [sgm_hand hp2 (by omega), sw_getD z hz]
  unfold stp
  rw [hs2.at_ hp2, hpc', he, hgd]
  dsimp only
  generalize hs[p] = ls at hl hall
  split
  · rfl
  rename_i hnl
  have hlt : n < ls.length := by omega
  have hl1 : ls[n]? = some ls[n] := List.getElem?_eq_getElem hlt
  have hk := List.all_eq_true.1 hall _ (List.mem_of_getElem? hl1)
  have e1 : ls.getD (n : Int).toNat ⟨4, 0, 0, 0⟩ = ls[n] := by rw [Int.toNat_natCast, List.getD_eq_getElem?_getD, hl1]; rfl
  rw [e1]
  generalize ls[n] = l at hk
  have r3 : inR l.r 0 1 = true → (1 - p) * 4 + l.r.toNat = sgm (p * 4 + l.r.toNat) := fun h => by
    have := inR_true.1 h
    exact sgm_hand hp2 (by omega)
  have w3 := sgm_word l.d.toNat
  have y0 : (sw z).set ((1 - p) * 4 + 2) ((n : Int) + 1) = sw (z.set (p * 4 + 2) ((n : Int) + 1)) := by rw [sgm_hand hp2 (by omega), sw_set z hz]
  have hy : (z.set (p * 4 + 2) ((n : Int) + 1)).length = 16 := by simp [hz]
  rw [y0]
  simp only [okLn] at hk
  generalize z.set (p * 4 + 2) ((n : Int) + 1) = y at hy
  split
  · rename_i k0
    rw [if_pos k0, Bool.and_eq_true] at hk
    rw [r3 hk.1, sw_set y hy]
  rename_i k0
  rw [if_neg k0] at hk
  split
  · rename_i k1
    rw [if_pos (Or.inl k1), Bool.and_eq_true] at hk
    rw [r3 hk.1, w3, sw_getD y hy, sw_set y hy, ← w3]
  split
  · rename_i k1 k2
    rw [if_pos (Or.inr (Or.inl k2)), Bool.and_eq_true] at hk
    rw [r3 hk.1, w3, sw_getD y hy, sw_set y hy, ← w3]
  split
  · rename_i k1 k2 k3
    rw [if_pos (Or.inr (Or.inr k3)), Bool.and_eq_true] at hk
    rw [r3 hk.1, w3, sw_getD y hy, sw_getD y hy, sw_set y hy, sw_set _ (by simp [hy]), ← w3]
  rename_i k1 k2 k3
  split
  · rename_i k5
    rw [if_neg (by omega), if_neg (by omega), if_pos k5, Bool.and_eq_true] at hk
    rw [r3 hk.1, sw_getD y hy]
    split
    · rw [sgm_hand hp2 (by omega), sw_set y hy]
    · rfl
  · rfl
theorem sw_reach {words : Int} {hs hs' : List (List Ln)} (hW : Well words hs) (h2 : Sw2 hs hs') {z : List Int} (h : Reach hs z) : Reach hs' (sw z) := by
  refine Reach.rec' (hs := hs) (P := fun z => Reach hs' (sw z)) (Reach.start hs') ?_ z h
  intro z p hr hP hp
  have hl := h2.len
  have hl' := h2.len'
  rw [← sw_stp hW h2 (hr.good hW).fit hp]
  exact hP.step (by omega)
theorem sw_ended {hs hs' : List (List Ln)} (h2 : Sw2 hs hs') {z : List Int} (hz : z.length = 16) (h : endB hs z = true) : endB hs' (sw z) = true := by
  rw [endB_iff] at h ⊢
  have hl := h2.len
  have hl' := h2.len'
  intro q hq
  have h1 := h (1 - q) (by omega)
  have e1 : (1 - (1 - q)) = q := by omega
  have e2 := h2.at_ (p := 1 - q) (by omega)
  rw [e1] at e2
  have e3 := sgm_hand (p := 1 - q) (r := 2) (by omega) (by omega)
  rw [e1] at e3
  rw [e2, e3, sw_getD z hz]
  exact h1
def turnT (t : List Int) : List Int := [t.getD 2 0, t.getD 3 0, t.getD 0 0, t.getD 1 0] ++ t.drop 4
theorem regsOf_two (z : List Int) : regsOf z 2 = [z.getD 0 0, z.getD 1 0, z.getD 4 0, z.getD 5 0] := rfl
theorem told_two {hs : List (List Ln)} {words : Int} {z : List Int} (h : hs.length = 2) : toldOf hs words z = [z.getD 0 0, z.getD 1 0, z.getD 4 0, z.getD 5 0] ++ wordsOf z words.toNat := by
  rw [toldOf, h, regsOf_two]
theorem sw_told {hs hs' : List (List Ln)} (h2 : Sw2 hs hs') {words : Int} {z : List Int} (hz : z.length = 16) : toldOf hs' words (sw z) = turnT (toldOf hs words z) := by
  rw [told_two h2.len', told_two h2.len]
  have h0 := sw_getD z hz 0
  have h1 := sw_getD z hz 1
  have h4 := sw_getD z hz 4
  have h5 := sw_getD z hz 5
  have e : wordsOf (sw z) words.toNat = wordsOf z words.toNat := by
    unfold wordsOf
    apply List.map_congr_left
    intro i _
    have h := sw_getD z hz (12 + i)
    rwa [← sgm_word] at h
  rw [e, show (sw z).getD 0 0 = z.getD 4 0 from h4, show (sw z).getD 1 0 = z.getD 5 0 from h5, show (sw z).getD 4 0 = z.getD 0 0 from h0, show (sw z).getD 5 0 = z.getD 1 0 from h1]
  rfl
theorem turn_scR {words : Int} {hs hs' : List (List Ln)} (hW : Well words hs) (hW' : Well words hs') (h2 : Sw2 hs hs') {t : List Int} (h : t ∈ scR words hs) : turnT t ∈ scR words hs' := by
  obtain ⟨z, hr, he, rfl⟩ := (mem_scR hW t).1 h
  have hz := (hr.good hW).fit.1
  exact (mem_scR hW' _).2 ⟨sw z, sw_reach hW h2 hr, sw_ended h2 hz he, sw_told h2 hz⟩
theorem turnT_inj {x y : List Int} (hx : 4 ≤ x.length) (hy : 4 ≤ y.length) (h : turnT x = turnT y) : x = y := by
  match x, hx, y, hy with
  | a0 :: a1 :: a2 :: a3 :: a, _, b0 :: b1 :: b2 :: b3 :: b, _ => simp [turnT] at h; simp [h]
theorem scR_len {words : Int} {hs : List (List Ln)} {t : List Int} (h : t ∈ scR words hs) : t.length = hs.length * 2 + words.toNat := (scR_facts words hs).2.1 t h
theorem turn_le {words : Int} {hs hs' : List (List Ln)} (hW : Well words hs) (hW' : Well words hs') (h2 : Sw2 hs hs') : (scR words hs).length ≤ (scR words hs').length := by
  have hl := h2.len
  exact inj_length turnT (scR_facts words hs).1.nodup (fun x hx y hy => turnT_inj (by rw [scR_len hx]; omega) (by rw [scR_len hy]; omega)) fun x hx => turn_scR hW hW' h2 hx
theorem turn_length {words : Int} {hs hs' : List (List Ln)} (hW : Well words hs) (hW' : Well words hs') (h2 : Sw2 hs hs') : (scR words hs).length = (scR words hs').length :=
  Nat.le_antisymm (turn_le hW hW' h2) (turn_le hW' hW h2.symm)
theorem clash_symm (a b : Ln) : clashB a b = clashB b a := by
  unfold clashB
  by_cases hd : a.d = b.d
  · by_cases hk : a.k = b.k
    · rw [hd, hk, Bool.and_comm (touchB a)]
    · rw [hd, Bool.and_comm (touchB a)]
      simp [hk, Ne.symm hk]
  · simp [hd, Ne.symm hd]
theorem sw_next {hs hs' : List (List Ln)} (h2 : Sw2 hs hs') {z : List Int} (hz : z.length = 16) {p : Nat} (hp : p < 2) : nextLn hs' (sw z) (1 - p) = nextLn hs z p := by
  unfold nextLn
  rw [h2.at_ hp, sgm_hand hp (by omega), sw_getD z hz]
theorem race2_symm {hs : List (List Ln)} {z : List Int} (a b : Nat) : race2 hs z a b = race2 hs z b a := by
  unfold race2
  cases nextLn hs z a <;> cases nextLn hs z b <;> simp [clash_symm]
theorem turn_race1 {words : Int} {hs hs' : List (List Ln)} (hW : Well words hs) (hW' : Well words hs') (h2 : Sw2 hs hs') (h : scRace hs = true) : scRace hs' = true := by
  obtain ⟨z, hr, hz⟩ := (scRace_iff hW).1 h
  refine (scRace_iff hW').2 ⟨sw z, sw_reach hW h2 hr, ?_⟩
  obtain ⟨a, b, ha, hb, hab⟩ := raceB_iff.1 hz
  have hl := h2.len
  have hl' := h2.len'
  obtain rfl : a = 1 := by omega
  obtain rfl : b = 0 := by omega
  refine raceB_iff.2 ⟨1, 0, by omega, by omega, ?_⟩
  have hz16 := (hr.good hW).fit.1
  have e1 := sw_next h2 hz16 (p := 0) (by omega)
  have e2 := sw_next h2 hz16 (p := 1) (by omega)
  rw [race2_symm]
  unfold race2 at hab ⊢
  simp only [Nat.sub_zero, Nat.sub_self] at e1 e2
  rw [e1, e2]
  exact hab
theorem turn_race {words : Int} {hs hs' : List (List Ln)} (hW : Well words hs) (hW' : Well words hs') (h2 : Sw2 hs hs') : scRace hs = scRace hs' := by
  rw [Bool.eq_iff_iff]
  exact ⟨turn_race1 hW hW' h2, turn_race1 hW' hW h2.symm⟩
theorem sw2_pair (a b : List Ln) : Sw2 [a, b] [b, a] := ⟨rfl, rfl, rfl, rfl⟩
theorem check_zero_iff {words : Int} {hs : List (List Ln)} : check words hs = 0 ↔ (1 ≤ words ∧ words ≤ 4) ∧ 0 < hs.length ∧ hs.length ≤ 3 ∧ handsErr words hs = 0 := by
  unfold check
  constructor
  · intro h
    split at h
    · simp at h
    · split at h
      · simp at h
      · split at h
        · simp at h
        · exact ⟨by omega, by omega, by omega, h⟩
  · rintro ⟨h1, h2, h3, h4⟩
    rw [if_neg (by omega), if_neg (by omega), if_neg (by omega)]
    exact h4
theorem handsErr_zero_iff {words : Int} {hs : List (List Ln)} : handsErr words hs = 0 ↔ ∀ ls ∈ hs, handErr words ls = 0 := by
  refine ⟨handsErr_zero, fun h => ?_⟩
  induction hs with
  | nil => rfl
  | cons x r ih =>
    rw [handsErr, if_pos (h x (by simp))]
    exact ih fun ls hl => h ls (by simp [hl])
theorem check_pair (words : Int) (a b : List Ln) : check words [a, b] = 0 ↔ check words [b, a] = 0 := by
  rw [check_zero_iff, check_zero_iff, handsErr_zero_iff, handsErr_zero_iff]
  simp
  intros
  exact And.comm

/-! ### A hand more that has no lines -/
theorem idle_check {words : Int} {hs : List (List Ln)} (h2 : hs.length ≤ 2) (h : check words hs = 0) : check words (hs ++ [[]]) = 0 := by
  rw [check_zero_iff] at h ⊢
  obtain ⟨h1, _, _, h4⟩ := h
  refine ⟨h1, by simp, by simp; omega, ?_⟩
  rw [handsErr_append, if_pos h4]
  simp [handsErr, handErr]
theorem idle_getD {hs : List (List Ln)} {p : Nat} (hp : p < hs.length) : (hs ++ [[]]).getD p [] = hs.getD p [] := by simp [List.getD_eq_getElem?_getD, List.getElem?_append_left hp]
theorem idle_getD_last {hs : List (List Ln)} : (hs ++ [[]]).getD hs.length [] = ([] : List Ln) := by simp [List.getD_eq_getElem?_getD]
theorem idle_stp {hs : List (List Ln)} {z : List Int} {p : Nat} (hp : p < hs.length) : stp (hs ++ [[]]) z p = stp hs z p := by
  unfold stp
  rw [idle_getD hp]
theorem idle_stay {words : Int} {hs : List (List Ln)} {z : List Int} (hg : Good words hs z) (h2 : hs.length ≤ 2) : stp (hs ++ [[]]) z hs.length = z :=
  stp_stay _ z _ [] 0 (by simp) (hg.idle_pc hs.length (by omega) (Nat.le_refl _)) (by simp)
theorem idle_reach {words : Int} {hs : List (List Ln)} (hW : Well words hs) (h2 : hs.length ≤ 2) {z : List Int} : Reach (hs ++ [[]]) z ↔ Reach hs z := by
  constructor
  · intro h
    refine Reach.rec' (hs := hs ++ [[]]) (P := Reach hs) (Reach.start hs) ?_ z h
    intro z p _ hP hp
    rcases Nat.lt_or_ge p hs.length with hlt | hge
    · rw [idle_stp hlt]; exact hP.step hlt
    · obtain rfl : p = hs.length := by simp at hp; omega
      rw [idle_stay (hP.good hW) h2]; exact hP
  · intro h
    refine Reach.rec' (hs := hs) (P := Reach (hs ++ [[]])) (Reach.start _) ?_ z h
    intro z p _ hP hp
    rw [← idle_stp hp]
    exact hP.step (by simp; omega)
theorem idle_ended {words : Int} {hs : List (List Ln)} {z : List Int} (hg : Good words hs z) (h2 : hs.length ≤ 2) : endB (hs ++ [[]]) z = endB hs z := by
  rw [Bool.eq_iff_iff, endB_iff, endB_iff]
  constructor
  · intro h p hp
    have := h p (by simp; omega)
    rwa [idle_getD hp] at this
  · intro h p hp
    rcases Nat.lt_or_ge p hs.length with hlt | hge
    · rw [idle_getD hlt]; exact h p hlt
    · obtain rfl : p = hs.length := by simp at hp; omega
      have e := hg.idle_pc hs.length (by omega) (Nat.le_refl _)
      rw [idle_getD_last, show z.getD (hs.length * 4 + 2) 0 = 0 by rw [List.getD_eq_getElem?_getD, e]; rfl]
      simp
def idleT (k : Nat) (t : List Int) : List Int := t.take k ++ ([0, 0] ++ t.drop k)
theorem idle_told {words : Int} {hs : List (List Ln)} {z : List Int} (hg : Good words hs z) (h2 : hs.length ≤ 2) : toldOf (hs ++ [[]]) words z = idleT (hs.length * 2) (toldOf hs words z) := by
  have hl := regsOf_length z hs.length
  have e1 : z.getD (hs.length * 4) 0 = 0 := by
    rw [List.getD_eq_getElem?_getD, hg.idle (hs.length * 4) (by omega) (fun q hq => by omega) (by omega)]; rfl
  have e2 : z.getD (hs.length * 4 + 1) 0 = 0 := by
    rw [List.getD_eq_getElem?_getD, hg.idle (hs.length * 4 + 1) (by omega) (fun q hq => by omega) (by omega)]; rfl
  rw [toldOf, toldOf, idleT, List.length_append, List.length_singleton, regsOf_succ, e1, e2, List.take_left' hl, List.drop_left' hl, List.append_assoc]
theorem idle_mem {words : Int} {hs : List (List Ln)} (hW : Well words hs) (hW' : Well words (hs ++ [[]])) (h2 : hs.length ≤ 2) {t : List Int} (h : t ∈ scR words hs) : idleT (hs.length * 2) t ∈ scR words (hs ++ [[]]) := by
  obtain ⟨z, hr, he, rfl⟩ := (mem_scR hW t).1 h
  have hg := hr.good hW
  exact (mem_scR hW' _).2 ⟨z, (idle_reach hW h2).2 hr, by rw [idle_ended hg h2]; exact he, idle_told hg h2⟩
theorem idle_of {words : Int} {hs : List (List Ln)} (hW : Well words hs) (hW' : Well words (hs ++ [[]])) (h2 : hs.length ≤ 2) {t : List Int} (h : t ∈ scR words (hs ++ [[]])) : ∃ u, u ∈ scR words hs ∧ t = idleT (hs.length * 2) u := by
  obtain ⟨z, hr, he, rfl⟩ := (mem_scR hW' t).1 h
  have hr' := (idle_reach hW h2).1 hr
  have hg := hr'.good hW
  exact ⟨_, (mem_scR hW _).2 ⟨z, hr', by rw [← idle_ended hg h2]; exact he, rfl⟩, idle_told hg h2⟩
theorem idleT_inj {k : Nat} {x y : List Int} (hx : k ≤ x.length) (hy : k ≤ y.length) (h : idleT k x = idleT k y) : x = y := by
  unfold idleT at h
  have h1 := List.append_inj_left h (by simp; omega)
  have h2 := List.append_inj_right h (by simp; omega)
  have h3 := List.append_cancel_left h2
  rw [← List.take_append_drop k x, ← List.take_append_drop k y, h1, h3]
theorem idle_length {words : Int} {hs : List (List Ln)} (hW : Well words hs) (hW' : Well words (hs ++ [[]])) (h2 : hs.length ≤ 2) : (scR words hs).length = (scR words (hs ++ [[]])).length := by
  refine Nat.le_antisymm ?_ ?_
  · exact inj_length (idleT (hs.length * 2)) (scR_facts words hs).1.nodup (fun x hx y hy => idleT_inj (by rw [scR_len hx]; omega) (by rw [scR_len hy]; omega)) fun x hx => idle_mem hW hW' h2 hx
  · have : (scR words (hs ++ [[]])).length ≤ ((scR words hs).map (idleT (hs.length * 2))).length := nodup_le (scR_facts words _).1.nodup fun x hx => by
      obtain ⟨u, hu, rfl⟩ := idle_of hW hW' h2 hx
      exact List.mem_map.2 ⟨u, hu, rfl⟩
    rwa [List.length_map] at this
theorem idle_next {hs : List (List Ln)} {z : List Int} {p : Nat} (hp : p < hs.length) : nextLn (hs ++ [[]]) z p = nextLn hs z p := by
  unfold nextLn
  rw [idle_getD hp]
theorem idle_next_last {hs : List (List Ln)} {z : List Int} : nextLn (hs ++ [[]]) z hs.length = none := by
  unfold nextLn
  rw [idle_getD_last]
  simp
theorem idle_raceB {hs : List (List Ln)} {z : List Int} : raceB (hs ++ [[]]) z = raceB hs z := by
  rw [Bool.eq_iff_iff, raceB_iff, raceB_iff]
  constructor
  · rintro ⟨a, b, ha, hb, h⟩
    rcases Nat.lt_or_ge a hs.length with hlt | hge
    · refine ⟨a, b, hlt, hb, ?_⟩
      unfold race2 at h ⊢
      rwa [idle_next hlt, idle_next (by omega)] at h
    · obtain rfl : a = hs.length := by simp at ha; omega
      unfold race2 at h
      rw [idle_next_last] at h
      simp at h
  · rintro ⟨a, b, ha, hb, h⟩
    refine ⟨a, b, by simp; omega, hb, ?_⟩
    unfold race2 at h ⊢
    rwa [idle_next ha, idle_next (by omega)]
theorem idle_race {words : Int} {hs : List (List Ln)} (hW : Well words hs) (hW' : Well words (hs ++ [[]])) (h2 : hs.length ≤ 2) : scRace hs = scRace (hs ++ [[]]) := by
  rw [Bool.eq_iff_iff, scRace_iff hW, scRace_iff hW']
  constructor
  · rintro ⟨z, hr, h⟩; exact ⟨z, (idle_reach hW h2).2 hr, by rw [idle_raceB]; exact h⟩
  · rintro ⟨z, hr, h⟩; exact ⟨z, (idle_reach hW h2).1 hr, by rw [← idle_raceB]; exact h⟩
end Go.Proofs.YthpnnmkpbkbanaaDoor
