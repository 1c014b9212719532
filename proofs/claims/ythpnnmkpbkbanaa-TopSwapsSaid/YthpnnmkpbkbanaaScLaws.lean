/-
  What holds of all that a program may do: plain mathematics.
-/
import Derived.Test.YthpnnmkpbkbanaaScMath
namespace Go.Proofs.Ythpnnmkpbkbanaa

/-! ### All that a script does may be -/
theorem runErr_zero {words : Int} {hs : List (List Ln)} {script : List Int} (h : runErr words hs script = 0) : check words hs = 0 ∧ script.length ≤ 40 ∧ ∀ x ∈ script, 0 ≤ x ∧ x < hs.length := by
  unfold runErr at h
  split at h
  · rename_i h1; exact absurd h h1
  · rename_i h1
    split at h
    · simp at h
    · split at h
      · rename_i h2 h3
        refine ⟨by simpa using h1, by omega, fun x hx => ?_⟩
        have := inR_true.1 (List.all_eq_true.1 h3 x hx)
        omega
      · simp at h
theorem done_ended {hs : List (List Ln)} {z : List Int} (h : ∀ p, p < hs.length → Done hs z p) : endB hs z = true := by
  rw [endB_iff]
  intro p hp
  obtain ⟨n, hn, hle⟩ := h p hp
  rw [show z.getD (p * 4 + 2) 0 = (n : Int) by rw [List.getD_eq_getElem?_getD, hn]; rfl]
  omega
theorem ended_done {words : Int} {hs : List (List Ln)} {z : List Int} (hg : Good words hs z) (h : endB hs z = true) : ∀ p, p < hs.length → Done hs z p := by
  intro p hp
  have h1 := endB_iff.1 h p hp
  obtain ⟨n, hn, _⟩ := hg.pc p hp
  rw [show z.getD (p * 4 + 2) 0 = (n : Int) by rw [List.getD_eq_getElem?_getD, hn]; rfl] at h1
  exact ⟨n, hn, by omega⟩
theorem fin_reach {words : Int} {hs : List (List Ln)} {script : List Int} (hW : Well words hs) (hs' : ∀ x ∈ script, 0 ≤ x ∧ x < hs.length) : Reach hs (finN hs hs.length (scripted hs zero16 script)) ∧ endB hs (finN hs hs.length (scripted hs zero16 script)) = true := by
  have hf := scripted_fit hW script _ (zero16_fit hs hW.few) hs'
  refine ⟨⟨script ++ againS hs hs.length, ?_, ?_⟩, done_ended (finN_Done hW hf _ (Nat.le_refl _))⟩
  · intro x hx
    rw [List.mem_append] at hx
    rcases hx with hx | hx
    · exact hs' x hx
    · exact againS_mem _ x hx
  · rw [scripted_append, scripted_again hW hf _ (Nat.le_refl _)]
theorem run_in_scR {words : Int} {hs : List (List Ln)} {script : List Int} (h : runErr words hs script = 0) : runTold words hs script ∈ scR words hs := by
  obtain ⟨hc, _, hs'⟩ := runErr_zero h
  have hW := check_well hc
  obtain ⟨h1, h2⟩ := fin_reach hW hs'
  rw [mem_scR hW]
  exact ⟨_, h1, h2, by rw [runTold, if_pos h]⟩

/-! ### Who is alone does one thing -/
theorem alone_reach {hs : List (List Ln)} {z : List Int} (h1 : hs.length = 1) (h : Reach hs z) : ∃ n, z = iter (fun y => stp hs y 0) n zero16 := by
  refine Reach.rec' (hs := hs) (P := fun z => ∃ n, z = iter (fun y => stp hs y 0) n zero16) ⟨0, rfl⟩ ?_ z h
  rintro z p _ ⟨n, rfl⟩ hp
  obtain rfl : p = 0 := by omega
  exact ⟨n + 1, (iter_succ (fun y => stp hs y 0) n zero16).symm⟩
theorem alone_scR {words : Int} {hs : List (List Ln)} (hc : check words hs = 0) (h1 : hs.length = 1) : scR words hs = [runTold words hs []] := by
  have hW := check_well hc
  have hf := zero16_fit hs hW.few
  have he : runErr words hs [] = 0 := by simp [runErr, hc]
  have hm := run_in_scR he
  refine rises_ext (scR_facts words hs).1 (List.pairwise_singleton _ _) fun x => ⟨fun hx => ?_, fun hx => ?_⟩
  · obtain ⟨z, hr, hend, rfl⟩ := (mem_scR hW x).1 hx
    obtain ⟨n, rfl⟩ := alone_reach h1 hr
    have e := allOf_of_done (by omega) (ended_done (hr.good hW) hend 0 (by omega))
    rw [allOf_iter hW hf (by omega)] at e
    rw [List.mem_singleton, runTold, if_pos he, ← e, h1]
    rfl
  · rw [List.mem_singleton] at hx
    rw [hx]; exact hm
theorem alone_race {hs : List (List Ln)} (h1 : hs.length = 1) : scRace hs = false := by
  rw [← Bool.not_eq_true]
  intro h
  simp only [scRace, List.any_eq_true] at h
  obtain ⟨z, _, hz⟩ := h
  obtain ⟨a, b, ha, hb, _⟩ := raceB_iff.1 hz
  omega

/-! ### A map between results -/
theorem inj_length {l m : List (List Int)} (f : List Int → List Int) (hl : l.Nodup) (hi : ∀ x ∈ l, ∀ y ∈ l, f x = f y → x = y) (hm : ∀ x ∈ l, f x ∈ m) : l.length ≤ m.length := by
  have h1 : (l.map f).Nodup := by
    unfold List.Nodup
    rw [List.pairwise_map]
    refine List.Pairwise.imp_of_mem ?_ hl
    intro a b ha hb hab e
    exact hab (hi a ha b hb e)
  have := nodup_le h1 (m := m) fun x hx => by
    obtain ⟨y, hy, rfl⟩ := List.mem_map.1 hx
    exact hm y hy
  rwa [List.length_map] at this

/-! ### Two hands the other way round -/
def sgm (i : Nat) : Nat := if i < 4 then i + 4 else if i < 8 then i - 4 else i
def sw (z : List Int) : List Int := (z.drop 4).take 4 ++ (z.take 4 ++ z.drop 8)
theorem sw_get (z : List Int) (hz : z.length = 16) (i : Nat) : (sw z)[sgm i]? = z[i]? := by
  unfold sw sgm
  have l1 : ((z.drop 4).take 4).length = 4 := by simp [hz]
  have l2 : (z.take 4).length = 4 := by simp [hz]
  split
  · rw [List.getElem?_append_right (by omega), l1, List.getElem?_append_left (by omega), List.getElem?_take]
    rw [if_pos (by omega)]; congr 1
  · split
    · rw [List.getElem?_append_left (by omega), List.getElem?_take, if_pos (by omega), List.getElem?_drop]; congr 1; omega
    · rw [List.getElem?_append_right (by omega), l1, List.getElem?_append_right (by omega), l2, List.getElem?_drop]; congr 1; omega
theorem sw_length (z : List Int) (hz : z.length = 16) : (sw z).length = 16 := by simp [sw, hz]
theorem sgm_sgm (i : Nat) : sgm (sgm i) = i := by unfold sgm; split <;> split <;> (try split) <;> omega
theorem sw_sw (z : List Int) (hz : z.length = 16) : sw (sw z) = z := by
  apply List.ext_getElem?
  intro i
  have h1 := sw_get (sw z) (sw_length z hz) (sgm i)
  rw [sgm_sgm, sw_get z hz] at h1
  exact h1
theorem sw_getD (z : List Int) (hz : z.length = 16) (i : Nat) : (sw z).getD (sgm i) 0 = z.getD i 0 := by simp only [List.getD_eq_getElem?_getD, sw_get z hz]
theorem sgm_inj {i j : Nat} (h : sgm i = sgm j) : i = j := by rw [← sgm_sgm i, h, sgm_sgm]
theorem sw_set (z : List Int) (hz : z.length = 16) (i : Nat) (v : Int) : (sw z).set (sgm i) v = sw (z.set i v) := by
  apply List.ext_getElem?
  intro j
  obtain ⟨k, rfl⟩ : ∃ k, j = sgm k := ⟨sgm j, (sgm_sgm j).symm⟩
  rw [sw_get _ (by simp [hz])]
  by_cases e : i = k
  · subst e
    rcases Nat.lt_or_ge i 16 with hi | hi
    · have : sgm i < 16 := by unfold sgm; split <;> (try split) <;> omega
      rw [List.getElem?_set_self (by rw [sw_length z hz]; omega), List.getElem?_set_self (by omega)]
    · have : 16 ≤ sgm i := by unfold sgm; split <;> (try split) <;> omega
      rw [List.getElem?_eq_none (by rw [List.length_set, sw_length z hz]; omega), List.getElem?_eq_none (by rw [List.length_set]; omega)]
  · rw [List.getElem?_set_ne (fun h => e (sgm_inj h)), List.getElem?_set_ne e, sw_get z hz]

/-- The state of the same hands the other way round. -/
structure Sw2 (hs hs' : List (List Ln)) : Prop where
  len : hs.length = 2
  len' : hs'.length = 2
  at0 : hs'.getD 0 [] = hs.getD 1 []
  at1 : hs'.getD 1 [] = hs.getD 0 []
theorem Sw2.symm {hs hs' : List (List Ln)} (h : Sw2 hs hs') : Sw2 hs' hs := ⟨h.len', h.len, h.at1.symm, h.at0.symm⟩
theorem Sw2.at_ {hs hs' : List (List Ln)} (h : Sw2 hs hs') {p : Nat} (hp : p < 2) : hs'.getD (1 - p) [] = hs.getD p [] := by
  have : p = 0 ∨ p = 1 := by omega
  rcases this with rfl | rfl
  · exact h.at1
  · exact h.at0
theorem sgm_hand {p r : Nat} (hp : p < 2) (hr : r < 4) : (1 - p) * 4 + r = sgm (p * 4 + r) := by
  have : p = 0 ∨ p = 1 := by omega
  rcases this with rfl | rfl
  · unfold sgm; rw [if_pos (by omega)]; omega
  · unfold sgm; rw [if_neg (by omega), if_pos (by omega)]; omega
theorem sgm_word (d : Nat) : 12 + d = sgm (12 + d) := by unfold sgm; rw [if_neg (by omega), if_neg (by omega)]
theorem sw_stp {words : Int} {hs hs' : List (List Ln)} {z : List Int} (hW : Well words hs) (hs2 : Sw2 hs hs') (hf : Fit hs z) {p : Nat} (hp : p < hs.length) : stp hs' (sw z) (1 - p) = sw (stp hs z p) := by
  obtain ⟨hz, hpc⟩ := hf
  have hl2 := hs2.len
  have hp2 : p < 2 := by omega
  obtain ⟨n, hn⟩ := hpc p hp
  have hgd : z.getD (p * 4 + 2) 0 = (n : Int) := by rw [List.getD_eq_getElem?_getD, hn]; rfl
  have hl : hs[p]? = some hs[p] := List.getElem?_eq_getElem hp
  have he : hs.getD p [] = hs[p] := by simp [List.getD_eq_getElem?_getD, hl]
  have hall := hW.okay p _ hl
  have hpc' : (sw z).getD ((1 - p) * 4 + 2) 0 = z.getD (p * 4 + 2) 0 := by rw [sgm_hand hp2 (by omega), sw_getD z hz]
  unfold stp
  rw [hs2.at_ hp2, hpc', he, hgd]
  dsimp only
  generalize hs[p] = ls at hl hall
  split
  · rfl
  rename_i hnl
  have hlt : n < ls.length := by omega
  have hl1 : ls[n]? = some ls[n] := List.getElem?_eq_getElem hlt
  have hk := List.all_eq_true.1 hall _ (List.mem_of_getElem? hl1)
  have e1 : ls.getD (n : Int).toNat ⟨4, 0, 0, 0⟩ = ls[n] := by rw [Int.toNat_natCast, List.getD_eq_getElem?_getD, hl1]; rfl
  rw [e1]
  generalize ls[n] = l at hk
  have r3 : inR l.r 0 1 = true → (1 - p) * 4 + l.r.toNat = sgm (p * 4 + l.r.toNat) := fun h => by
    have := inR_true.1 h
    exact sgm_hand hp2 (by omega)
  have w3 := sgm_word l.d.toNat
  have y0 : (sw z).set ((1 - p) * 4 + 2) ((n : Int) + 1) = sw (z.set (p * 4 + 2) ((n : Int) + 1)) := by rw [sgm_hand hp2 (by omega), sw_set z hz]
  have hy : (z.set (p * 4 + 2) ((n : Int) + 1)).length = 16 := by simp [hz]
  rw [y0]
  simp only [okLn] at hk
  generalize z.set (p * 4 + 2) ((n : Int) + 1) = y at hy
  split
  · rename_i k0
    rw [if_pos k0, Bool.and_eq_true] at hk
    rw [r3 hk.1, sw_set y hy]
  rename_i k0
  rw [if_neg k0] at hk
  split
  · rename_i k1
    rw [if_pos (Or.inl k1), Bool.and_eq_true] at hk
    rw [r3 hk.1, w3, sw_getD y hy, sw_set y hy, ← w3]
  split
  · rename_i k1 k2
    rw [if_pos (Or.inr (Or.inl k2)), Bool.and_eq_true] at hk
    rw [r3 hk.1, w3, sw_getD y hy, sw_set y hy, ← w3]
  split
  · rename_i k1 k2 k3
    rw [if_pos (Or.inr (Or.inr k3)), Bool.and_eq_true] at hk
    rw [r3 hk.1, w3, sw_getD y hy, sw_getD y hy, sw_set y hy, sw_set _ (by simp [hy]), ← w3]
  rename_i k1 k2 k3
  split
  · rename_i k5
    rw [if_neg (by omega), if_neg (by omega), if_pos k5, Bool.and_eq_true] at hk
    rw [r3 hk.1, sw_getD y hy]
    split
    · rw [sgm_hand hp2 (by omega), sw_set y hy]
    · rfl
  · rfl
theorem sw_reach {words : Int} {hs hs' : List (List Ln)} (hW : Well words hs) (h2 : Sw2 hs hs') {z : List Int} (h : Reach hs z) : Reach hs' (sw z) := by
  refine Reach.rec' (hs := hs) (P := fun z => Reach hs' (sw z)) (Reach.start hs') ?_ z h
  intro z p hr hP hp
  have hl := h2.len
  have hl' := h2.len'
  rw [← sw_stp hW h2 (hr.good hW).fit hp]
  exact hP.step (by omega)
theorem sw_ended {hs hs' : List (List Ln)} (h2 : Sw2 hs hs') {z : List Int} (hz : z.length = 16) (h : endB hs z = true) : endB hs' (sw z) = true := by
  rw [endB_iff] at h ⊢
  have hl := h2.len
  have hl' := h2.len'
  intro q hq
  have h1 := h (1 - q) (by omega)
  have e1 : (1 - (1 - q)) = q := by omega
  have e2 := h2.at_ (p := 1 - q) (by omega)
  rw [e1] at e2
  have e3 := sgm_hand (p := 1 - q) (r := 2) (by omega) (by omega)
  rw [e1] at e3
  rw [e2, e3, sw_getD z hz]
  exact h1
def turnT (t : List Int) : List Int := [t.getD 2 0, t.getD 3 0, t.getD 0 0, t.getD 1 0] ++ t.drop 4
theorem regsOf_two (z : List Int) : regsOf z 2 = [z.getD 0 0, z.getD 1 0, z.getD 4 0, z.getD 5 0] := rfl
theorem told_two {hs : List (List Ln)} {words : Int} {z : List Int} (h : hs.length = 2) : toldOf hs words z = [z.getD 0 0, z.getD 1 0, z.getD 4 0, z.getD 5 0] ++ wordsOf z words.toNat := by
  rw [toldOf, h, regsOf_two]
theorem sw_told {hs hs' : List (List Ln)} (h2 : Sw2 hs hs') {words : Int} {z : List Int} (hz : z.length = 16) : toldOf hs' words (sw z) = turnT (toldOf hs words z) := by
  rw [told_two h2.len', told_two h2.len]
  have h0 := sw_getD z hz 0
  have h1 := sw_getD z hz 1
  have h4 := sw_getD z hz 4
  have h5 := sw_getD z hz 5
  have e : wordsOf (sw z) words.toNat = wordsOf z words.toNat := by
    unfold wordsOf
    apply List.map_congr_left
    intro i _
    have h := sw_getD z hz (12 + i)
    rwa [← sgm_word] at h
  rw [e, show (sw z).getD 0 0 = z.getD 4 0 from h4, show (sw z).getD 1 0 = z.getD 5 0 from h5, show (sw z).getD 4 0 = z.getD 0 0 from h0, show (sw z).getD 5 0 = z.getD 1 0 from h1]
  rfl
theorem turn_scR {words : Int} {hs hs' : List (List Ln)} (hW : Well words hs) (hW' : Well words hs') (h2 : Sw2 hs hs') {t : List Int} (h : t ∈ scR words hs) : turnT t ∈ scR words hs' := by
  obtain ⟨z, hr, he, rfl⟩ := (mem_scR hW t).1 h
  have hz := (hr.good hW).fit.1
  exact (mem_scR hW' _).2 ⟨sw z, sw_reach hW h2 hr, sw_ended h2 hz he, sw_told h2 hz⟩
theorem turnT_inj {x y : List Int} (hx : 4 ≤ x.length) (hy : 4 ≤ y.length) (h : turnT x = turnT y) : x = y := by
  match x, hx, y, hy with
  | a0 :: a1 :: a2 :: a3 :: a, _, b0 :: b1 :: b2 :: b3 :: b, _ => simp [turnT] at h; simp [h]
theorem scR_len {words : Int} {hs : List (List Ln)} {t : List Int} (h : t ∈ scR words hs) : t.length = hs.length * 2 + words.toNat := (scR_facts words hs).2.1 t h
theorem turn_le {words : Int} {hs hs' : List (List Ln)} (hW : Well words hs) (hW' : Well words hs') (h2 : Sw2 hs hs') : (scR words hs).length ≤ (scR words hs').length := by
  have hl := h2.len
  exact inj_length turnT (scR_facts words hs).1.nodup (fun x hx y hy => turnT_inj (by rw [scR_len hx]; omega) (by rw [scR_len hy]; omega)) fun x hx => turn_scR hW hW' h2 hx
theorem turn_length {words : Int} {hs hs' : List (List Ln)} (hW : Well words hs) (hW' : Well words hs') (h2 : Sw2 hs hs') : (scR words hs).length = (scR words hs').length :=
  Nat.le_antisymm (turn_le hW hW' h2) (turn_le hW' hW h2.symm)
theorem clash_symm (a b : Ln) : clashB a b = clashB b a := by
  unfold clashB
  by_cases hd : a.d = b.d
  · by_cases hk : a.k = b.k
    · rw [hd, hk, Bool.and_comm (touchB a)]
    · rw [hd, Bool.and_comm (touchB a)]
      simp [hk, Ne.symm hk]
  · simp [hd, Ne.symm hd]
theorem sw_next {hs hs' : List (List Ln)} (h2 : Sw2 hs hs') {z : List Int} (hz : z.length = 16) {p : Nat} (hp : p < 2) : nextLn hs' (sw z) (1 - p) = nextLn hs z p := by
  unfold nextLn
  rw [h2.at_ hp, sgm_hand hp (by omega), sw_getD z hz]
theorem race2_symm {hs : List (List Ln)} {z : List Int} (a b : Nat) : race2 hs z a b = race2 hs z b a := by
  unfold race2
  cases nextLn hs z a <;> cases nextLn hs z b <;> simp [clash_symm]
theorem turn_race1 {words : Int} {hs hs' : List (List Ln)} (hW : Well words hs) (hW' : Well words hs') (h2 : Sw2 hs hs') (h : scRace hs = true) : scRace hs' = true := by
  obtain ⟨z, hr, hz⟩ := (scRace_iff hW).1 h
  refine (scRace_iff hW').2 ⟨sw z, sw_reach hW h2 hr, ?_⟩
  obtain ⟨a, b, ha, hb, hab⟩ := raceB_iff.1 hz
  have hl := h2.len
  have hl' := h2.len'
  obtain rfl : a = 1 := by omega
  obtain rfl : b = 0 := by omega
  refine raceB_iff.2 ⟨1, 0, by omega, by omega, ?_⟩
  have hz16 := (hr.good hW).fit.1
  have e1 := sw_next h2 hz16 (p := 0) (by omega)
  have e2 := sw_next h2 hz16 (p := 1) (by omega)
  rw [race2_symm]
  unfold race2 at hab ⊢
  simp only [Nat.sub_zero, Nat.sub_self] at e1 e2
  rw [e1, e2]
  exact hab
theorem turn_race {words : Int} {hs hs' : List (List Ln)} (hW : Well words hs) (hW' : Well words hs') (h2 : Sw2 hs hs') : scRace hs = scRace hs' := by
  rw [Bool.eq_iff_iff]
  exact ⟨turn_race1 hW hW' h2, turn_race1 hW' hW h2.symm⟩
theorem sw2_pair (a b : List Ln) : Sw2 [a, b] [b, a] := ⟨rfl, rfl, rfl, rfl⟩
theorem check_zero_iff {words : Int} {hs : List (List Ln)} : check words hs = 0 ↔ (1 ≤ words ∧ words ≤ 4) ∧ 0 < hs.length ∧ hs.length ≤ 3 ∧ handsErr words hs = 0 := by
  unfold check
  constructor
  · intro h
    split at h
    · simp at h
    · split at h
      · simp at h
      · split at h
        · simp at h
        · exact ⟨by omega, by omega, by omega, h⟩
  · rintro ⟨h1, h2, h3, h4⟩
    rw [if_neg (by omega), if_neg (by omega), if_neg (by omega)]
    exact h4
theorem handsErr_zero_iff {words : Int} {hs : List (List Ln)} : handsErr words hs = 0 ↔ ∀ ls ∈ hs, handErr words ls = 0 := by
  refine ⟨handsErr_zero, fun h => ?_⟩
  induction hs with
  | nil => rfl
  | cons x r ih =>
    rw [handsErr, if_pos (h x (by simp))]
    exact ih fun ls hl => h ls (by simp [hl])
theorem check_pair (words : Int) (a b : List Ln) : check words [a, b] = 0 ↔ check words [b, a] = 0 := by
  rw [check_zero_iff, check_zero_iff, handsErr_zero_iff, handsErr_zero_iff]
  simp
  intros
  exact And.comm

/-! ### A hand more that has no lines -/
theorem idle_check {words : Int} {hs : List (List Ln)} (h2 : hs.length ≤ 2) (h : check words hs = 0) : check words (hs ++ [[]]) = 0 := by
  rw [check_zero_iff] at h ⊢
  obtain ⟨h1, _, _, h4⟩ := h
  refine ⟨h1, by simp, by simp; omega, ?_⟩
  rw [handsErr_append, if_pos h4]
  simp [handsErr, handErr]
theorem idle_getD {hs : List (List Ln)} {p : Nat} (hp : p < hs.length) : (hs ++ [[]]).getD p [] = hs.getD p [] := by simp [List.getD_eq_getElem?_getD, List.getElem?_append_left hp]
theorem idle_getD_last {hs : List (List Ln)} : (hs ++ [[]]).getD hs.length [] = ([] : List Ln) := by simp [List.getD_eq_getElem?_getD]
theorem idle_stp {hs : List (List Ln)} {z : List Int} {p : Nat} (hp : p < hs.length) : stp (hs ++ [[]]) z p = stp hs z p := by
  unfold stp
  rw [idle_getD hp]
theorem idle_stay {words : Int} {hs : List (List Ln)} {z : List Int} (hg : Good words hs z) (h2 : hs.length ≤ 2) : stp (hs ++ [[]]) z hs.length = z :=
  stp_stay _ z _ [] 0 (by simp) (hg.idle_pc hs.length (by omega) (Nat.le_refl _)) (by simp)
theorem idle_reach {words : Int} {hs : List (List Ln)} (hW : Well words hs) (h2 : hs.length ≤ 2) {z : List Int} : Reach (hs ++ [[]]) z ↔ Reach hs z := by
  constructor
  · intro h
    refine Reach.rec' (hs := hs ++ [[]]) (P := Reach hs) (Reach.start hs) ?_ z h
    intro z p _ hP hp
    rcases Nat.lt_or_ge p hs.length with hlt | hge
    · rw [idle_stp hlt]; exact hP.step hlt
    · obtain rfl : p = hs.length := by simp at hp; omega
      rw [idle_stay (hP.good hW) h2]; exact hP
  · intro h
    refine Reach.rec' (hs := hs) (P := Reach (hs ++ [[]])) (Reach.start _) ?_ z h
    intro z p _ hP hp
    rw [← idle_stp hp]
    exact hP.step (by simp; omega)
theorem idle_ended {words : Int} {hs : List (List Ln)} {z : List Int} (hg : Good words hs z) (h2 : hs.length ≤ 2) : endB (hs ++ [[]]) z = endB hs z := by
  rw [Bool.eq_iff_iff, endB_iff, endB_iff]
  constructor
  · intro h p hp
    have := h p (by simp; omega)
    rwa [idle_getD hp] at this
  · intro h p hp
    rcases Nat.lt_or_ge p hs.length with hlt | hge
    · rw [idle_getD hlt]; exact h p hlt
    · obtain rfl : p = hs.length := by simp at hp; omega
      have e := hg.idle_pc hs.length (by omega) (Nat.le_refl _)
      rw [idle_getD_last, show z.getD (hs.length * 4 + 2) 0 = 0 by rw [List.getD_eq_getElem?_getD, e]; rfl]
      simp
def idleT (k : Nat) (t : List Int) : List Int := t.take k ++ ([0, 0] ++ t.drop k)
theorem idle_told {words : Int} {hs : List (List Ln)} {z : List Int} (hg : Good words hs z) (h2 : hs.length ≤ 2) : toldOf (hs ++ [[]]) words z = idleT (hs.length * 2) (toldOf hs words z) := by
  have hl := regsOf_length z hs.length
  have e1 : z.getD (hs.length * 4) 0 = 0 := by
    rw [List.getD_eq_getElem?_getD, hg.idle (hs.length * 4) (by omega) (fun q hq => by omega) (by omega)]; rfl
  have e2 : z.getD (hs.length * 4 + 1) 0 = 0 := by
    rw [List.getD_eq_getElem?_getD, hg.idle (hs.length * 4 + 1) (by omega) (fun q hq => by omega) (by omega)]; rfl
  rw [toldOf, toldOf, idleT, List.length_append, List.length_singleton, regsOf_succ, e1, e2, List.take_left' hl, List.drop_left' hl, List.append_assoc]
theorem idle_mem {words : Int} {hs : List (List Ln)} (hW : Well words hs) (hW' : Well words (hs ++ [[]])) (h2 : hs.length ≤ 2) {t : List Int} (h : t ∈ scR words hs) : idleT (hs.length * 2) t ∈ scR words (hs ++ [[]]) := by
  obtain ⟨z, hr, he, rfl⟩ := (mem_scR hW t).1 h
  have hg := hr.good hW
  exact (mem_scR hW' _).2 ⟨z, (idle_reach hW h2).2 hr, by rw [idle_ended hg h2]; exact he, idle_told hg h2⟩
theorem idle_of {words : Int} {hs : List (List Ln)} (hW : Well words hs) (hW' : Well words (hs ++ [[]])) (h2 : hs.length ≤ 2) {t : List Int} (h : t ∈ scR words (hs ++ [[]])) : ∃ u, u ∈ scR words hs ∧ t = idleT (hs.length * 2) u := by
  obtain ⟨z, hr, he, rfl⟩ := (mem_scR hW' t).1 h
  have hr' := (idle_reach hW h2).1 hr
  have hg := hr'.good hW
  exact ⟨_, (mem_scR hW _).2 ⟨z, hr', by rw [← idle_ended hg h2]; exact he, rfl⟩, idle_told hg h2⟩
theorem idleT_inj {k : Nat} {x y : List Int} (hx : k ≤ x.length) (hy : k ≤ y.length) (h : idleT k x = idleT k y) : x = y := by
  unfold idleT at h
  have h1 := List.append_inj_left h (by simp; omega)
  have h2 := List.append_inj_right h (by simp; omega)
  have h3 := List.append_cancel_left h2
  rw [← List.take_append_drop k x, ← List.take_append_drop k y, h1, h3]
theorem idle_length {words : Int} {hs : List (List Ln)} (hW : Well words hs) (hW' : Well words (hs ++ [[]])) (h2 : hs.length ≤ 2) : (scR words hs).length = (scR words (hs ++ [[]])).length := by
  refine Nat.le_antisymm ?_ ?_
  · exact inj_length (idleT (hs.length * 2)) (scR_facts words hs).1.nodup (fun x hx y hy => idleT_inj (by rw [scR_len hx]; omega) (by rw [scR_len hy]; omega)) fun x hx => idle_mem hW hW' h2 hx
  · have : (scR words (hs ++ [[]])).length ≤ ((scR words hs).map (idleT (hs.length * 2))).length := nodup_le (scR_facts words _).1.nodup fun x hx => by
      obtain ⟨u, hu, rfl⟩ := idle_of hW hW' h2 hx
      exact List.mem_map.2 ⟨u, hu, rfl⟩
    rwa [List.length_map] at this
theorem idle_next {hs : List (List Ln)} {z : List Int} {p : Nat} (hp : p < hs.length) : nextLn (hs ++ [[]]) z p = nextLn hs z p := by
  unfold nextLn
  rw [idle_getD hp]
theorem idle_next_last {hs : List (List Ln)} {z : List Int} : nextLn (hs ++ [[]]) z hs.length = none := by
  unfold nextLn
  rw [idle_getD_last]
  simp
theorem idle_raceB {hs : List (List Ln)} {z : List Int} : raceB (hs ++ [[]]) z = raceB hs z := by
  rw [Bool.eq_iff_iff, raceB_iff, raceB_iff]
  constructor
  · rintro ⟨a, b, ha, hb, h⟩
    rcases Nat.lt_or_ge a hs.length with hlt | hge
    · refine ⟨a, b, hlt, hb, ?_⟩
      unfold race2 at h ⊢
      rwa [idle_next hlt, idle_next (by omega)] at h
    · obtain rfl : a = hs.length := by simp at ha; omega
      unfold race2 at h
      rw [idle_next_last] at h
      simp at h
  · rintro ⟨a, b, ha, hb, h⟩
    refine ⟨a, b, by simp; omega, hb, ?_⟩
    unfold race2 at h ⊢
    rwa [idle_next ha, idle_next (by omega)]
theorem idle_race {words : Int} {hs : List (List Ln)} (hW : Well words hs) (hW' : Well words (hs ++ [[]])) (h2 : hs.length ≤ 2) : scRace hs = scRace (hs ++ [[]]) := by
  rw [Bool.eq_iff_iff, scRace_iff hW, scRace_iff hW']
  constructor
  · rintro ⟨z, hr, h⟩; exact ⟨z, (idle_reach hW h2).2 hr, by rw [idle_raceB]; exact h⟩
  · rintro ⟨z, hr, h⟩; exact ⟨z, (idle_reach hW h2).1 hr, by rw [← idle_raceB]; exact h⟩
end Go.Proofs.Ythpnnmkpbkbanaa
