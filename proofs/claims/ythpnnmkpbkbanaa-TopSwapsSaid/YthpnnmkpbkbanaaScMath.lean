/-
  All that a program may do, and whether it races: plain mathematics.
-/
import Derived.Test.YthpnnmkpbkbanaaAgainMath
namespace Go.Proofs.Ythpnnmkpbkbanaa

/-! ### Lists without a thing twice -/
def ins1 {α : Type} [DecidableEq α] (l : List α) (x : α) : List α := if x ∈ l then l else l ++ [x]
def addAll {α : Type} [DecidableEq α] (l xs : List α) : List α := xs.foldl ins1 l
theorem mem_ins1 {α : Type} [DecidableEq α] {l : List α} {x y : α} : y ∈ ins1 l x ↔ y ∈ l ∨ y = x := by
  unfold ins1
  split
  · rename_i h
    exact ⟨Or.inl, fun h' => h'.elim id fun e => e ▸ h⟩
  · simp
theorem ins1_length {α : Type} [DecidableEq α] (l : List α) (x : α) : (ins1 l x).length ≤ l.length + 1 := by
  unfold ins1
  split <;> simp
theorem nodup_snoc {α : Type} {l : List α} {x : α} (h : l.Nodup) (hx : x ∉ l) : (l ++ [x]).Nodup := by
  rw [List.nodup_append]
  refine ⟨h, by simp, ?_⟩
  intro a ha b hb
  simp at hb
  subst hb
  intro e
  exact hx (e ▸ ha)
theorem mem_addAll {α : Type} [DecidableEq α] (xs : List α) : ∀ {l : List α} {y : α}, y ∈ addAll l xs ↔ y ∈ l ∨ y ∈ xs := by
  induction xs with
  | nil => intro l y; simp [addAll]
  | cons x r ih =>
    intro l y
    show y ∈ addAll (ins1 l x) r ↔ _
    rw [ih, mem_ins1, List.mem_cons, or_assoc]
theorem addAll_length {α : Type} [DecidableEq α] (xs : List α) : ∀ (l : List α), (addAll l xs).length ≤ l.length + xs.length := by
  induction xs with
  | nil => intro l; simp [addAll]
  | cons x r ih =>
    intro l
    have h1 := ih (ins1 l x)
    have h2 := ins1_length l x
    show (addAll (ins1 l x) r).length ≤ _
    simp only [List.length_cons]
    omega
/-- A list without a thing twice is no longer than one that has all of its things. -/
theorem nodup_le {α : Type} [DecidableEq α] : ∀ {l m : List α}, l.Nodup → (∀ x, x ∈ l → x ∈ m) → l.length ≤ m.length
  | [], m, _, _ => Nat.zero_le _
  | x :: r, m, h, hs => by
    have hx := hs x (by simp)
    have hn := List.nodup_cons.1 h
    have := nodup_le (m := m.erase x) hn.2 fun y hy => by
      have hne : y ≠ x := fun e => hn.1 (e ▸ hy)
      exact (List.mem_erase_of_ne hne).2 (hs y (by simp [hy]))
    have h1 : (m.erase x).length = m.length - 1 := List.length_erase_of_mem hx
    have h2 : 0 < m.length := List.length_pos_of_mem hx
    simp only [List.length_cons]
    omega

/-! ### All states -/
def nexts (hs : List (List Ln)) (z : List Int) : List (List Int) := (List.range hs.length).map (stp hs z)
def lev (hs : List (List Ln)) : Nat → List (List Int)
  | 0 => [zero16]
  | k + 1 => addAll (lev hs k) ((lev hs k).flatMap (nexts hs))
/-- All states that a program may come to. -/
def allS (hs : List (List Ln)) : List (List Int) := lev hs 15
theorem lev_length (hs : List (List Ln)) (h3 : hs.length ≤ 3) : ∀ k, (lev hs k).length ≤ 4 ^ k
  | 0 => by simp [lev]
  | k + 1 => by
    have ih := lev_length hs h3 k
    have h1 := addAll_length ((lev hs k).flatMap (nexts hs)) (lev hs k)
    have h2 : ((lev hs k).flatMap (nexts hs)).length ≤ 3 * (lev hs k).length := by
      generalize lev hs k = l
      induction l with
      | nil => simp
      | cons x r ih =>
        rw [List.flatMap_cons, List.length_append]
        have : (nexts hs x).length = hs.length := by simp [nexts]
        simp only [List.length_cons]
        omega
    rw [lev, Nat.pow_succ]
    omega
theorem lev_more (hs : List (List Ln)) {k m : Nat} (h : k ≤ m) {z : List Int} (hz : z ∈ lev hs k) : z ∈ lev hs m := by
  induction h with
  | refl => exact hz
  | step _ ih => rw [lev, mem_addAll]; exact Or.inl ih
theorem lev_step (hs : List (List Ln)) {k : Nat} {z : List Int} (hz : z ∈ lev hs k) {p : Nat} (hp : p < hs.length) : stp hs z p ∈ lev hs (k + 1) := by
  rw [lev, mem_addAll]
  exact Or.inr (List.mem_flatMap.2 ⟨z, hz, List.mem_map.2 ⟨p, List.mem_range.2 hp, rfl⟩⟩)

/-- It may come to a state. -/
def Reach (hs : List (List Ln)) (z : List Int) : Prop := ∃ s : List Int, (∀ h ∈ s, 0 ≤ h ∧ h < hs.length) ∧ z = scripted hs zero16 s
theorem Reach.start (hs : List (List Ln)) : Reach hs zero16 := ⟨[], by simp, rfl⟩
theorem Reach.step {hs : List (List Ln)} {z : List Int} (h : Reach hs z) {p : Nat} (hp : p < hs.length) : Reach hs (stp hs z p) := by
  obtain ⟨s, hs', rfl⟩ := h
  refine ⟨s ++ [(p : Int)], ?_, ?_⟩
  · intro x hx
    rw [List.mem_append] at hx
    rcases hx with hx | hx
    · exact hs' x hx
    · simp at hx; omega
  · rw [scripted_snoc, Int.toNat_natCast]
theorem Reach.rec' {hs : List (List Ln)} {P : List Int → Prop} (h0 : P zero16) (hstep : ∀ z p, Reach hs z → P z → p < hs.length → P (stp hs z p)) : ∀ z, Reach hs z → P z := by
  rintro z ⟨s, hs', rfl⟩
  suffices ∀ n, n ≤ s.length → P (scripted hs zero16 (s.take n)) by
    have := this s.length (Nat.le_refl _)
    rwa [List.take_length] at this
  intro n
  induction n with
  | zero => intro _; exact h0
  | succ n ih =>
    intro hn
    rw [List.take_succ_eq_append_getElem (by omega), scripted_snoc]
    have hm := hs' s[n] (List.getElem_mem _)
    exact hstep _ _ ⟨s.take n, fun x hx => hs' x (List.mem_of_mem_take hx), rfl⟩ (ih (by omega)) (by omega)

/-- Where nothing is turned. -/
theorem stp_frame {words : Int} {hs : List (List Ln)} {zs : List Int} {p : Nat} (hW : Well words hs) (hf : Fit hs zs) (hp : p < hs.length) (i : Nat) (h0 : i ≠ p * 4) (h1 : i ≠ p * 4 + 1) (h2 : i ≠ p * 4 + 2) (h3 : ¬ (12 ≤ i ∧ (i : Int) < 12 + words)) : (stp hs zs p)[i]? = zs[i]? := by
  obtain ⟨hz, hpc⟩ := hf
  obtain ⟨n, hn⟩ := hpc p hp
  have hl : hs[p]? = some hs[p] := List.getElem?_eq_getElem hp
  generalize hs[p] = ls at hl
  have hall := hW.okay p ls hl
  rcases Nat.lt_or_ge n ls.length with hlt | hge
  · have hl1 : ls[n]? = some ls[n] := List.getElem?_eq_getElem hlt
    have hk := List.all_eq_true.1 hall _ (List.mem_of_getElem? hl1)
    generalize ls[n] = l at hl1 hk
    rw [stp_go hs zs p ls n l hl hn hl1]
    have base : (zs.set (p * 4 + 2) ((n : Int) + 1))[i]? = zs[i]? := List.getElem?_set_ne (by omega)
    have putR : ∀ (ys : List Int) (z : Int), inR l.r 0 1 = true → ys[i]? = zs[i]? → (ys.set (p * 4 + l.r.toNat) z)[i]? = zs[i]? := fun ys z hr h => by
      have := inR_true.1 hr
      rw [List.getElem?_set_ne (by omega)]; exact h
    have putD : ∀ (ys : List Int) (z : Int), inR l.d 0 (words - 1) = true → ys[i]? = zs[i]? → (ys.set (12 + l.d.toNat) z)[i]? = zs[i]? := fun ys z hr h => by
      have := inR_true.1 hr
      rw [List.getElem?_set_ne (by omega)]; exact h
    simp only [okLn] at hk
    dsimp only
    split
    · rename_i k0
      rw [if_pos k0, Bool.and_eq_true] at hk
      exact putR _ _ hk.1 base
    rename_i k0
    rw [if_neg k0] at hk
    split
    · rename_i k1
      rw [if_pos (Or.inl k1), Bool.and_eq_true] at hk
      exact putR _ _ hk.1 base
    split
    · rename_i k1 k2
      rw [if_pos (Or.inr (Or.inl k2)), Bool.and_eq_true] at hk
      exact putD _ _ hk.2 base
    split
    · rename_i k3
      rw [if_pos (Or.inr (Or.inr k3)), Bool.and_eq_true] at hk
      exact putD _ _ hk.2 (putR _ _ hk.1 base)
    split
    · split
      · rw [List.getElem?_set_ne (by omega)]; exact base
      · exact base
    · exact base
  · rw [stp_stay hs zs p ls n hl hn hge]
/-- A line done brings a hand on, but no further than its end. -/
theorem stp_pc {words : Int} {hs : List (List Ln)} {zs : List Int} {p : Nat} (hW : Well words hs) (hf : Fit hs zs) (hp : p < hs.length) (n : Nat) (hn : zs[p * 4 + 2]? = some (n : Int)) (hle : n < (hs.getD p []).length) :
    ∃ m : Nat, (stp hs zs p)[p * 4 + 2]? = some (m : Int) ∧ n < m ∧ m ≤ (hs.getD p []).length := by
  obtain ⟨hz, hpc⟩ := hf
  have h3w := hW.few
  have hl : hs[p]? = some hs[p] := List.getElem?_eq_getElem hp
  have he : hs.getD p [] = hs[p] := by simp [List.getD_eq_getElem?_getD, hl]
  rw [he] at hle ⊢
  generalize hs[p] = ls at hl hle
  have hall := hW.okay p ls hl
  have hl1 : ls[n]? = some ls[n] := List.getElem?_eq_getElem hle
  have hk := List.all_eq_true.1 hall _ (List.mem_of_getElem? hl1)
  generalize ls[n] = l at hl1 hk
  rw [stp_go hs zs p ls n l hl hn hl1]
  have own : (zs.set (p * 4 + 2) ((n : Int) + 1))[p * 4 + 2]? = some ((n : Int) + 1) := by rw [List.getElem?_set_self (by omega)]
  have fin : ∀ ys : List Int, ys[p * 4 + 2]? = some ((n : Int) + 1) → ∃ m : Nat, ys[p * 4 + 2]? = some (m : Int) ∧ n < m ∧ m ≤ ls.length := fun ys h => ⟨n + 1, by rw [h]; rfl, by omega, by omega⟩
  have putR : ∀ (ys : List Int) (z : Int), inR l.r 0 1 = true → ys[p * 4 + 2]? = some ((n : Int) + 1) → (ys.set (p * 4 + l.r.toNat) z)[p * 4 + 2]? = some ((n : Int) + 1) := fun ys z hr h => by
    have := inR_true.1 hr
    rw [List.getElem?_set_ne (by omega)]; exact h
  have putD : ∀ (ys : List Int) (z : Int), ys[p * 4 + 2]? = some ((n : Int) + 1) → (ys.set (12 + l.d.toNat) z)[p * 4 + 2]? = some ((n : Int) + 1) := fun ys z h => by
    rw [List.getElem?_set_ne (by omega)]; exact h
  simp only [okLn] at hk
  dsimp only
  split
  · rename_i k0
    rw [if_pos k0, Bool.and_eq_true] at hk
    exact fin _ (putR _ _ hk.1 own)
  rename_i k0
  rw [if_neg k0] at hk
  split
  · rename_i k1
    rw [if_pos (Or.inl k1), Bool.and_eq_true] at hk
    exact fin _ (putR _ _ hk.1 own)
  split
  · exact fin _ (putD _ _ own)
  split
  · rename_i k3
    rw [if_pos (Or.inr (Or.inr k3)), Bool.and_eq_true] at hk
    exact fin _ (putD _ _ (putR _ _ hk.1 own))
  rename_i k1 k2 k3
  split
  · rename_i k5
    rw [if_neg (by omega), if_neg (by omega), if_pos k5, Bool.and_eq_true] at hk
    have hv := inR_true.1 hk.2
    split
    · obtain ⟨m, hm⟩ := Int.eq_ofNat_of_zero_le (show 0 ≤ min ((n : Int) + 1 + l.v) ls.length by omega)
      exact ⟨m, by rw [List.getElem?_set_self (by simp; omega), hm], by omega, by omega⟩
    · exact fin _ own
  · exact fin _ own

/-- What a state is that it may come to. -/
structure Good (words : Int) (hs : List (List Ln)) (z : List Int) : Prop where
  fit : Fit hs z
  pc : ∀ p, p < hs.length → ∃ n : Nat, z[p * 4 + 2]? = some (n : Int) ∧ n ≤ (hs.getD p []).length
  idle : ∀ i, i < 16 → (∀ p, p < hs.length → i ≠ p * 4 ∧ i ≠ p * 4 + 1 ∧ i ≠ p * 4 + 2) → ¬ (12 ≤ i ∧ (i : Int) < 12 + words) → z[i]? = some 0
theorem zero16_get (i : Nat) (h : i < 16) : zero16[i]? = some 0 := by rw [zero16, List.getElem?_replicate, if_pos h]
theorem Good.start {words : Int} {hs : List (List Ln)} (h : hs.length ≤ 3) : Good words hs zero16 :=
  ⟨zero16_fit hs h, fun p hp => ⟨0, by rw [zero16_get _ (by omega)]; rfl, Nat.zero_le _⟩, fun i hi _ _ => zero16_get i hi⟩
theorem Good.step {words : Int} {hs : List (List Ln)} {z : List Int} (hW : Well words hs) (h : Good words hs z) {p : Nat} (hp : p < hs.length) : Good words hs (stp hs z p) := by
  have h3 := hW.few
  refine ⟨(stp_fit hW h.fit hp).1, fun q hq => ?_, fun i hi h1 h2 => ?_⟩
  · obtain ⟨n, hn, hle⟩ := h.pc q hq
    by_cases e : q = p
    · subst e
      rcases Nat.lt_or_ge n (hs.getD q []).length with hlt | hge
      · obtain ⟨m, hm, _, hm2⟩ := stp_pc hW h.fit hq n hn hlt
        exact ⟨m, hm, hm2⟩
      · have hl : hs[q]? = some hs[q] := List.getElem?_eq_getElem hq
        rw [List.getD_eq_getElem?_getD, hl] at hge
        rw [stp_stay hs z q _ n hl hn hge]
        exact ⟨n, hn, hle⟩
    · exact ⟨n, by rw [stp_frame hW h.fit hp _ (by omega) (by omega) (by omega) (by omega)]; exact hn, hle⟩
  · have := h1 p hp
    rw [stp_frame hW h.fit hp i this.1 this.2.1 this.2.2 h2]
    exact h.idle i hi h1 h2
theorem Reach.good {words : Int} {hs : List (List Ln)} {z : List Int} (hW : Well words hs) (h : Reach hs z) : Good words hs z :=
  Reach.rec' (Good.start hW.few) (fun _ _ _ hg hp => hg.step hW hp) z h

/-- How far all hands are. -/
def pcsum (z : List Int) : Int := z.getD 2 0 + z.getD 6 0 + z.getD 10 0
theorem Good.idle_pc {words : Int} {hs : List (List Ln)} {z : List Int} (h : Good words hs z) (p : Nat) (hp : p < 3) (hp2 : hs.length ≤ p) : z[p * 4 + 2]? = some 0 :=
  h.idle _ (by omega) (fun q hq => by omega) (by omega)
theorem Good.pc3 {words : Int} {hs : List (List Ln)} {z : List Int} (hW : Well words hs) (h : Good words hs z) (p : Nat) (hp : p < 3) : ∃ n : Nat, z[p * 4 + 2]? = some (n : Int) ∧ n ≤ 5 := by
  rcases Nat.lt_or_ge p hs.length with hlt | hge
  · obtain ⟨n, hn, hle⟩ := h.pc p hlt
    have hl : hs[p]? = some hs[p] := List.getElem?_eq_getElem hlt
    have := hW.short p _ hl
    rw [List.getD_eq_getElem?_getD, hl, Option.getD_some] at hle
    exact ⟨n, hn, by omega⟩
  · exact ⟨0, h.idle_pc p hp hge, by omega⟩
theorem Good.pcsum_le {words : Int} {hs : List (List Ln)} {z : List Int} (hW : Well words hs) (h : Good words hs z) : pcsum z ≤ 15 := by
  obtain ⟨a, ha, ha5⟩ := h.pc3 hW 0 (by omega)
  obtain ⟨b, hb, hb5⟩ := h.pc3 hW 1 (by omega)
  obtain ⟨c, hc, hc5⟩ := h.pc3 hW 2 (by omega)
  simp only [Nat.zero_mul, Nat.zero_add, Nat.one_mul, Nat.reduceAdd, Nat.reduceMul] at ha hb hc
  simp only [pcsum, List.getD_eq_getElem?_getD, ha, hb, hc, Option.getD_some]
  omega
theorem stp_pcsum {words : Int} {hs : List (List Ln)} {z : List Int} (hW : Well words hs) (h : Good words hs z) {p : Nat} (hp : p < hs.length) : stp hs z p = z ∨ pcsum z + 1 ≤ pcsum (stp hs z p) := by
  have h3 := hW.few
  obtain ⟨n, hn, hle⟩ := h.pc p hp
  rcases Nat.lt_or_ge n (hs.getD p []).length with hlt | hge
  · right
    obtain ⟨m, hm, hm1, _⟩ := stp_pc hW h.fit hp n hn hlt
    have fr : ∀ q, q < 3 → q ≠ p → (stp hs z p)[q * 4 + 2]? = z[q * 4 + 2]? := fun q hq hne => stp_frame hW h.fit hp _ (by omega) (by omega) (by omega) (by omega)
    have f0 := fr 0 (by omega)
    have f1 := fr 1 (by omega)
    have f2 := fr 2 (by omega)
    simp only [pcsum, List.getD_eq_getElem?_getD]
    have hp3 : p = 0 ∨ p = 1 ∨ p = 2 := by omega
    rcases hp3 with rfl | rfl | rfl
    · simp only [Nat.zero_mul, Nat.zero_add, Nat.one_mul, Nat.reduceAdd, Nat.reduceMul] at hn hm f1 f2
      rw [f1 (by omega), f2 (by omega), hn, hm]; simp; omega
    · simp only [Nat.zero_mul, Nat.zero_add, Nat.one_mul, Nat.reduceAdd, Nat.reduceMul] at hn hm f0 f2
      rw [f0 (by omega), f2 (by omega), hn, hm]; simp; omega
    · simp only [Nat.zero_mul, Nat.zero_add, Nat.one_mul, Nat.reduceAdd, Nat.reduceMul] at hn hm f0 f1
      rw [f0 (by omega), f1 (by omega), hn, hm]; simp; omega
  · left
    have hl : hs[p]? = some hs[p] := List.getElem?_eq_getElem hp
    rw [List.getD_eq_getElem?_getD, hl] at hge
    exact stp_stay hs z p _ n hl hn hge

theorem Reach.mem {words : Int} {hs : List (List Ln)} {z : List Int} (hW : Well words hs) (h : Reach hs z) : z ∈ allS hs := by
  have h1 : ∃ k : Nat, z ∈ lev hs k ∧ (k : Int) ≤ pcsum z := by
    refine Reach.rec' (hs := hs) (P := fun z => ∃ k : Nat, z ∈ lev hs k ∧ (k : Int) ≤ pcsum z) ⟨0, by simp [lev], by simp [pcsum, zero16]⟩ ?_ z h
    rintro z p hr ⟨k, hk, hle⟩ hp
    rcases stp_pcsum hW (hr.good hW) hp with e | e
    · rw [e]; exact ⟨k, hk, hle⟩
    · exact ⟨k + 1, lev_step hs hk hp, by omega⟩
  obtain ⟨k, hk, hle⟩ := h1
  have := (h.good hW).pcsum_le hW
  exact lev_more hs (by omega) hk
theorem lev_reach (hs : List (List Ln)) : ∀ k z, z ∈ lev hs k → Reach hs z
  | 0, z, h => by simp [lev] at h; subst h; exact Reach.start hs
  | k + 1, z, h => by
    rw [lev, mem_addAll] at h
    rcases h with h | h
    · exact lev_reach hs k z h
    · obtain ⟨y, hy, hz⟩ := List.mem_flatMap.1 h
      obtain ⟨p, hp, rfl⟩ := List.mem_map.1 hz
      exact (lev_reach hs k y hy).step (List.mem_range.1 hp)
theorem mem_allS {words : Int} {hs : List (List Ln)} {z : List Int} (hW : Well words hs) : z ∈ allS hs ↔ Reach hs z := ⟨lev_reach hs 15 z, fun h => h.mem hW⟩
theorem allS_length {hs : List (List Ln)} (h3 : hs.length ≤ 3) : (allS hs).length ≤ 1073741824 := lev_length hs h3 15

/-! ### What is told -/
/-- All hands are done. -/
def endB (hs : List (List Ln)) (z : List Int) : Bool := (List.range hs.length).all fun p => decide (((hs.getD p []).length : Int) ≤ z.getD (p * 4 + 2) 0)
theorem endB_iff {hs : List (List Ln)} {z : List Int} : endB hs z = true ↔ ∀ p, p < hs.length → ((hs.getD p []).length : Int) ≤ z.getD (p * 4 + 2) 0 := by
  simp [endB, List.all_eq_true]
theorem regsOf_get {zs : List Int} : ∀ (k p : Nat), p < k → (regsOf zs k)[p * 2]? = some (zs.getD (p * 4) 0) ∧ (regsOf zs k)[p * 2 + 1]? = some (zs.getD (p * 4 + 1) 0)
  | 0, p, h => by omega
  | k + 1, p, h => by
    rw [regsOf_succ]
    have hl := regsOf_length zs k
    rcases Nat.lt_or_ge p k with h1 | h1
    · rw [List.getElem?_append_left (by omega), List.getElem?_append_left (by omega)]
      exact regsOf_get k p h1
    · have e : p = k := by omega
      subst e
      rw [List.getElem?_append_right (by omega), List.getElem?_append_right (by omega), hl]
      simp [show p * 2 + 1 - p * 2 = 1 by omega]
theorem wordsOf_get {zs : List Int} (k i : Nat) (h : i < k) : (wordsOf zs k)[i]? = some (zs.getD (12 + i) 0) := by simp [wordsOf, List.getElem?_map, List.getElem?_range h]
theorem toldOf_length {hs : List (List Ln)} {words : Int} {z : List Int} : (toldOf hs words z).length = hs.length * 2 + words.toNat := by rw [toldOf, List.length_append, regsOf_length, wordsOf_length]
/-- Where all is done, no two states tell the same. -/
theorem told_inj {words : Int} {hs : List (List Ln)} {z y : List Int} (hW : Well words hs) (hz : Good words hs z) (hy : Good words hs y) (ez : endB hs z = true) (ey : endB hs y = true) (h : toldOf hs words z = toldOf hs words y) : z = y := by
  have h3 := hW.few
  have hw1 := hW.lo
  have hw4 := hW.hi
  have hr : regsOf z hs.length = regsOf y hs.length := List.append_inj_left h (by rw [regsOf_length, regsOf_length])
  have hw : wordsOf z words.toNat = wordsOf y words.toNat := List.append_inj_right h (by rw [regsOf_length, regsOf_length])
  have at_ : ∀ (x : List Int) (i : Nat), x.length = 16 → i < 16 → x[i]? = some (x.getD i 0) := fun x i hx hi => by simp [List.getD_eq_getElem?_getD, List.getElem?_eq_getElem (show i < x.length by omega)]
  apply List.ext_getElem?
  intro i
  rcases Nat.lt_or_ge i 16 with hi | hi
  · by_cases hwd : 12 ≤ i ∧ (i : Int) < 12 + words
    · obtain ⟨j, rfl⟩ : ∃ j, i = 12 + j := ⟨i - 12, by omega⟩
      have h1 := wordsOf_get (zs := z) words.toNat j (by omega)
      have h2 := wordsOf_get (zs := y) words.toNat j (by omega)
      rw [hw, h2] at h1
      rw [at_ z _ hz.fit.1 hi, at_ y _ hy.fit.1 hi]
      exact h1.symm
    · by_cases hin : ∃ p, p < hs.length ∧ (i = p * 4 ∨ i = p * 4 + 1 ∨ i = p * 4 + 2)
      · obtain ⟨p, hp, hip⟩ := hin
        have h1 := regsOf_get (zs := z) hs.length p hp
        have h2 := regsOf_get (zs := y) hs.length p hp
        rw [hr] at h1
        rcases hip with rfl | rfl | rfl
        · rw [at_ z _ hz.fit.1 hi, at_ y _ hy.fit.1 hi, ← h2.1, ← h1.1]
        · rw [at_ z _ hz.fit.1 hi, at_ y _ hy.fit.1 hi, ← h2.2, ← h1.2]
        · obtain ⟨n, hn, hn2⟩ := hz.pc p hp
          obtain ⟨m, hm, hm2⟩ := hy.pc p hp
          have e1 := endB_iff.1 ez p hp
          have e2 := endB_iff.1 ey p hp
          rw [show z.getD (p * 4 + 2) 0 = (n : Int) by rw [List.getD_eq_getElem?_getD, hn]; rfl] at e1
          rw [show y.getD (p * 4 + 2) 0 = (m : Int) by rw [List.getD_eq_getElem?_getD, hm]; rfl] at e2
          rw [hn, hm]
          congr 1
          omega
      · have hid : ∀ p, p < hs.length → i ≠ p * 4 ∧ i ≠ p * 4 + 1 ∧ i ≠ p * 4 + 2 := fun p hp =>
          ⟨fun e => hin ⟨p, hp, Or.inl e⟩, fun e => hin ⟨p, hp, Or.inr (Or.inl e)⟩, fun e => hin ⟨p, hp, Or.inr (Or.inr e)⟩⟩
        rw [hz.idle i hi hid hwd, hy.idle i hi hid hwd]
  · rw [List.getElem?_eq_none (by rw [hz.fit.1]; omega), List.getElem?_eq_none (by rw [hy.fit.1]; omega)]

/-! ### The order of what is told -/
/-- Has the one the lesser number at the first place where they differ? -/
def lessL : List Int → List Int → Bool
  | x :: a, y :: b => if x = y then lessL a b else decide (x < y)
  | _, _ => false
theorem lessL_irrefl : ∀ a, lessL a a = false
  | [] => rfl
  | x :: a => by simp [lessL, lessL_irrefl a]
theorem lessL_trans : ∀ {a b c : List Int}, lessL a b = true → lessL b c = true → lessL a c = true
  | [], _, _, h, _ => by simp [lessL] at h
  | _ :: _, [], _, h, _ => by simp [lessL] at h
  | _ :: _, _ :: _, [], _, h => by simp [lessL] at h
  | x :: a, y :: b, z :: c, h1, h2 => by
    simp only [lessL] at h1 h2 ⊢
    split at h1
    · rename_i e; subst e
      split at h2
      · rename_i e; subst e
        rw [if_pos rfl]
        exact lessL_trans h1 h2
      · rename_i e; rw [if_neg e]; exact h2
    · rename_i e
      have h1' := of_decide_eq_true h1
      split at h2
      · rename_i e2; subst e2
        rw [if_neg e]; exact h1
      · have h2' := of_decide_eq_true h2
        rw [if_neg (by omega)]
        exact decide_eq_true (by omega)
theorem lessL_asymm {a b : List Int} (h : lessL a b = true) : lessL b a = false := by
  rw [← Bool.not_eq_true]
  intro h2
  have := lessL_trans h h2
  rw [lessL_irrefl] at this
  cases this
theorem lessL_total : ∀ {a b : List Int}, a.length = b.length → a = b ∨ lessL a b = true ∨ lessL b a = true
  | [], [], _ => Or.inl rfl
  | [], _ :: _, h => by simp at h
  | _ :: _, [], h => by simp at h
  | x :: a, y :: b, h => by
    simp only [lessL]
    by_cases e : x = y
    · subst e
      simp only [if_true]
      rcases lessL_total (a := a) (b := b) (by simpa using h) with h1 | h1 | h1
      · exact Or.inl (by rw [h1])
      · exact Or.inr (Or.inl h1)
      · exact Or.inr (Or.inr h1)
    · rw [if_neg e, if_neg (fun h => e h.symm)]
      right
      rcases Int.lt_or_gt_of_ne e with h1 | h1
      · exact Or.inl (decide_eq_true h1)
      · exact Or.inr (decide_eq_true h1)
/-- A list that rises. -/
def Rises (l : List (List Int)) : Prop := l.Pairwise fun a b => lessL a b = true
/-- A list that rises is known by what is in it. -/
theorem rises_ext : ∀ {l m : List (List Int)}, Rises l → Rises m → (∀ x, x ∈ l ↔ x ∈ m) → l = m
  | [], [], _, _, _ => rfl
  | [], y :: m, _, _, h => by have := (h y).2 (by simp); cases this
  | x :: l, [], _, _, h => by have := (h x).1 (by simp); cases this
  | x :: l, y :: m, hl, hm, h => by
    have h1 := List.pairwise_cons.1 hl
    have h2 := List.pairwise_cons.1 hm
    have e : x = y := by
      have a1 := (h x).1 (by simp)
      have a2 := (h y).2 (by simp)
      rcases List.mem_cons.1 a1 with e | a1
      · exact e
      rcases List.mem_cons.1 a2 with e | a2
      · exact e.symm
      have b1 := h1.1 y a2
      have b2 := h2.1 x a1
      rw [lessL_asymm b1] at b2
      cases b2
    subst e
    congr 1
    refine rises_ext h1.2 h2.2 fun z => ⟨fun hz => ?_, fun hz => ?_⟩
    · rcases List.mem_cons.1 ((h z).1 (List.mem_cons_of_mem _ hz)) with e | h'
      · subst e
        have := h1.1 z hz
        rw [lessL_irrefl] at this; cases this
      · exact h'
    · rcases List.mem_cons.1 ((h z).2 (List.mem_cons_of_mem _ hz)) with e | h'
      · subst e
        have := h2.1 z hz
        rw [lessL_irrefl] at this; cases this
      · exact h'
theorem Rises.nodup {l : List (List Int)} (h : Rises l) : l.Nodup := by
  refine List.Pairwise.imp (fun {a b} hab => ?_) h
  intro e
  subst e
  rw [lessL_irrefl] at hab
  cases hab

/-- Put into a list that rises. -/
def putL (l : List (List Int)) (x : List Int) : List (List Int) := l.filter (fun y => lessL y x) ++ x :: l.filter (fun y => lessL x y)
theorem putL_rises {l : List (List Int)} {x : List Int} (h : Rises l) : Rises (putL l x) := by
  unfold Rises putL
  rw [List.pairwise_append]
  refine ⟨h.filter _, ?_, ?_⟩
  · rw [List.pairwise_cons]
    refine ⟨fun y hy => (List.mem_filter.1 hy).2, h.filter _⟩
  · intro a ha b hb
    have h1 := (List.mem_filter.1 ha).2
    rcases List.mem_cons.1 hb with e | hb
    · rw [e]; exact h1
    · exact lessL_trans h1 (List.mem_filter.1 hb).2
theorem mem_putL {l : List (List Int)} {x y : List Int} (n : Nat) (hx : x.length = n) (hl : ∀ z ∈ l, z.length = n) : y ∈ putL l x ↔ y ∈ l ∨ y = x := by
  unfold putL
  rw [List.mem_append, List.mem_cons, List.mem_filter, List.mem_filter]
  constructor
  · rintro (h | h | h)
    · exact Or.inl h.1
    · exact Or.inr h
    · exact Or.inl h.1
  · rintro (h | h)
    · rcases lessL_total (a := y) (b := x) (by rw [hx, hl y h]) with e | e | e
      · exact Or.inr (Or.inl e)
      · exact Or.inl ⟨h, e⟩
      · exact Or.inr (Or.inr ⟨h, e⟩)
    · exact Or.inr (Or.inl h)
def putAll (l xs : List (List Int)) : List (List Int) := xs.foldl putL l
theorem putAll_facts (n : Nat) : ∀ (xs l : List (List Int)), Rises l → (∀ z ∈ l, z.length = n) → (∀ z ∈ xs, z.length = n) → Rises (putAll l xs) ∧ (∀ z ∈ putAll l xs, z.length = n) ∧ ∀ y, y ∈ putAll l xs ↔ y ∈ l ∨ y ∈ xs
  | [], l, h, hl, _ => ⟨h, hl, fun y => by simp [putAll]⟩
  | x :: r, l, h, hl, hx => by
    have h1 : ∀ z ∈ putL l x, z.length = n := fun z hz => by
      rcases (mem_putL n (hx x (by simp)) hl).1 hz with h' | h'
      · exact hl z h'
      · rw [h']; exact hx x (by simp)
    obtain ⟨a, b, c⟩ := putAll_facts n r (putL l x) (putL_rises h) h1 fun z hz => hx z (by simp [hz])
    refine ⟨a, b, fun y => ?_⟩
    show y ∈ putAll (putL l x) r ↔ _
    rw [c y, mem_putL n (hx x (by simp)) hl, List.mem_cons, or_assoc]

/-- All that may be told, rising. -/
def scR (words : Int) (hs : List (List Ln)) : List (List Int) := putAll [] (((allS hs).filter (endB hs)).map (toldOf hs words))
theorem scR_facts (words : Int) (hs : List (List Ln)) : Rises (scR words hs) ∧ (∀ t ∈ scR words hs, t.length = hs.length * 2 + words.toNat) ∧ ∀ t, t ∈ scR words hs ↔ ∃ z, z ∈ allS hs ∧ endB hs z = true ∧ toldOf hs words z = t := by
  obtain ⟨a, b, c⟩ := putAll_facts (hs.length * 2 + words.toNat) (((allS hs).filter (endB hs)).map (toldOf hs words)) [] List.Pairwise.nil (by simp) (by
    intro z hz
    obtain ⟨y, _, rfl⟩ := List.mem_map.1 hz
    exact toldOf_length)
  refine ⟨a, b, fun t => ?_⟩
  rw [scR, c t, List.mem_map]
  constructor
  · rintro (h | ⟨z, hz, rfl⟩)
    · cases h
    · exact ⟨z, (List.mem_filter.1 hz).1, (List.mem_filter.1 hz).2, rfl⟩
  · rintro ⟨z, hz, he, rfl⟩
    exact Or.inr ⟨z, List.mem_filter.2 ⟨hz, he⟩, rfl⟩
theorem mem_scR {words : Int} {hs : List (List Ln)} (hW : Well words hs) (t : List Int) : t ∈ scR words hs ↔ ∃ z, Reach hs z ∧ endB hs z = true ∧ toldOf hs words z = t := by
  rw [(scR_facts words hs).2.2 t]
  constructor
  · rintro ⟨z, h1, h2⟩; exact ⟨z, (mem_allS hW).1 h1, h2⟩
  · rintro ⟨z, h1, h2⟩; exact ⟨z, (mem_allS hW).2 h1, h2⟩

/-! ### Races -/
def nextLn (hs : List (List Ln)) (z : List Int) (p : Nat) : Option Ln := if z.getD (p * 4 + 2) 0 < 0 then none else (hs.getD p [])[(z.getD (p * 4 + 2) 0).toNat]?
def touchB (l : Ln) : Bool := decide (l.k = 1) || (decide (l.k = 2) || decide (l.k = 3))
def clashB (a b : Ln) : Bool := touchB a && touchB b && decide (a.d = b.d) && (decide (a.k ≠ b.k) || decide (a.k = 2))
def race2 (hs : List (List Ln)) (z : List Int) (a b : Nat) : Bool :=
  match nextLn hs z a, nextLn hs z b with
  | some x, some y => clashB x y
  | _, _ => false
def raceB (hs : List (List Ln)) (z : List Int) : Bool := (List.range hs.length).any fun a => (List.range a).any fun b => race2 hs z a b
/-- May two hands touch one word next? -/
def scRace (hs : List (List Ln)) : Bool := (allS hs).any (raceB hs)
theorem raceB_iff {hs : List (List Ln)} {z : List Int} : raceB hs z = true ↔ ∃ a b, a < hs.length ∧ b < a ∧ race2 hs z a b = true := by
  simp only [raceB, List.any_eq_true, List.mem_range]
  constructor
  · rintro ⟨a, ha, b, hb, h⟩; exact ⟨a, b, ha, hb, h⟩
  · rintro ⟨a, b, ha, hb, h⟩; exact ⟨a, ha, b, hb, h⟩
theorem scRace_iff {words : Int} {hs : List (List Ln)} (hW : Well words hs) : scRace hs = true ↔ ∃ z, Reach hs z ∧ raceB hs z = true := by
  simp only [scRace, List.any_eq_true]
  constructor
  · rintro ⟨z, h1, h2⟩; exact ⟨z, (mem_allS hW).1 h1, h2⟩
  · rintro ⟨z, h1, h2⟩; exact ⟨z, (mem_allS hW).2 h1, h2⟩
end Go.Proofs.Ythpnnmkpbkbanaa
