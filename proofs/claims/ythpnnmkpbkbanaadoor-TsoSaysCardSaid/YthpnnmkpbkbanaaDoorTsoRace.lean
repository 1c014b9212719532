/-
  Where nobody races nobody sees that what is stored waits: plain mathematics.
-/
import Derived.Test.YthpnnmkpbkbanaaDoorTsoMath
import Derived.Test.YthpnnmkpbkbanaaDoorScM
namespace Go.Proofs.YthpnnmkpbkbanaaDoor

/-! ### A state as sixteen numbers -/
def e16 (s : TS) : List Int :=
  [(s.o 0).a, (s.o 0).b, (s.o 0).n, 0, (s.o 1).a, (s.o 1).b, (s.o 1).n, 0, (s.o 2).a, (s.o 2).b, (s.o 2).n, 0, s.w 0, s.w 1, s.w 2, s.w 3]
theorem e16_length (s : TS) : (e16 s).length = 16 := rfl
theorem e16_n (s : TS) {p : Nat} (hp : p < 3) : (e16 s)[p * 4 + 2]? = some ((s.o p).n : Int) := by
  have h : p = 0 ∨ p = 1 ∨ p = 2 := by omega
  rcases h with rfl | rfl | rfl <;> rfl
theorem e16_w (s : TS) {d : Nat} (hd : d < 4) : (e16 s).getD (12 + d) 0 = s.w d := by
  have h : d = 0 ∨ d = 1 ∨ d = 2 ∨ d = 3 := by omega
  rcases h with rfl | rfl | rfl | rfl <;> rfl
theorem e16_reg (s : TS) {p : Nat} (hp : p < 3) {r : Int} (h0 : 0 ≤ r) (h1 : r ≤ 1) : (e16 s).getD (p * 4 + r.toNat) 0 = (s.o p).reg r := by
  have h : p = 0 ∨ p = 1 ∨ p = 2 := by omega
  have hr : r = 0 ∨ r = 1 := by omega
  rcases h with rfl | rfl | rfl <;> rcases hr with rfl | rfl <;> rfl
theorem e16_set_n (s : TS) {p : Nat} (hp : p < 3) (n : Nat) : (e16 s).set (p * 4 + 2) (n : Int) = e16 ⟨upd s.o p ((s.o p).at_ n), s.w⟩ := by
  have h : p = 0 ∨ p = 1 ∨ p = 2 := by omega
  rcases h with rfl | rfl | rfl <;> rfl
theorem e16_set_w (s : TS) {d : Nat} (hd : d < 4) (v : Int) : (e16 s).set (12 + d) v = e16 ⟨s.o, upd s.w d v⟩ := by
  have h : d = 0 ∨ d = 1 ∨ d = 2 ∨ d = 3 := by omega
  rcases h with rfl | rfl | rfl | rfl <;> rfl
theorem e16_set_reg (s : TS) {p : Nat} (hp : p < 3) {r : Int} (h0 : 0 ≤ r) (h1 : r ≤ 1) (v : Int) : (e16 s).set (p * 4 + r.toNat) v = e16 ⟨upd s.o p ((s.o p).setReg r v), s.w⟩ := by
  have h : p = 0 ∨ p = 1 ∨ p = 2 := by omega
  have hr : r = 0 ∨ r = 1 := by omega
  rcases h with rfl | rfl | rfl <;> rcases hr with rfl | rfl <;> rfl
/-- What waits is not seen. -/
theorem e16_congr {s t : TS} (ho : ∀ p, p < 3 → (s.o p).a = (t.o p).a ∧ (s.o p).b = (t.o p).b ∧ (s.o p).n = (t.o p).n) (hw : s.w = t.w) : e16 s = e16 t := by
  obtain ⟨a0, b0, n0⟩ := ho 0 (by omega)
  obtain ⟨a1, b1, n1⟩ := ho 1 (by omega)
  obtain ⟨a2, b2, n2⟩ := ho 2 (by omega)
  unfold e16
  rw [a0, b0, n0, a1, b1, n1, a2, b2, n2, hw]
theorem reg_at (o : Own) (n : Nat) (r : Int) : (o.at_ n).reg r = o.reg r := rfl

theorem well_line {words : Int} {hs : List (List Ln)} (hW : Well words hs) {p n : Nat} {l : Ln} (hl : (hs.getD p [])[n]? = some l) : p < hs.length ∧ hs[p]? = some (hs.getD p []) ∧ okLn words l = true := by
  rw [List.getD_eq_getElem?_getD] at hl ⊢
  cases e : hs[p]? with
  | none => rw [e] at hl; simp at hl
  | some ls =>
    rw [e] at hl
    exact ⟨(List.getElem?_eq_some_iff.1 e).1, rfl, List.all_eq_true.1 (hW.okay p ls e) l (List.mem_of_getElem? hl)⟩
theorem okLn_reg {words : Int} {l : Ln} (h : okLn words l = true) (h4 : l.k ≠ 4) : 0 ≤ l.r ∧ l.r ≤ 1 := by
  unfold okLn at h
  by_cases k0 : l.k = 0
  · rw [if_pos k0] at h
    exact inR_true.1 (Bool.and_eq_true _ _ ▸ h).1
  by_cases k1 : l.k = 1 ∨ l.k = 2 ∨ l.k = 3
  · rw [if_neg k0, if_pos k1] at h
    exact inR_true.1 (Bool.and_eq_true _ _ ▸ h).1
  rw [if_neg k0, if_neg k1, if_neg h4] at h
  by_cases k5 : l.k = 5
  · rw [if_pos k5] at h
    exact inR_true.1 (Bool.and_eq_true _ _ ▸ h).1
  · rw [if_neg k5] at h
    cases h
theorem okLn_word {words : Int} {l : Ln} (h : okLn words l = true) (hk : l.k = 1 ∨ l.k = 2 ∨ l.k = 3) : 0 ≤ l.d ∧ l.d < words := by
  unfold okLn at h
  rw [if_neg (by omega), if_pos hk] at h
  have := inR_true.1 (Bool.and_eq_true _ _ ▸ h).2
  omega
theorem okLn_leave {words : Int} {l : Ln} (h : okLn words l = true) (hk : l.k = 5) : 0 ≤ l.v := by
  unfold okLn at h
  rw [if_neg (by omega), if_neg (by omega), if_neg (by omega), if_pos hk] at h
  exact (inR_true.1 (Bool.and_eq_true _ _ ▸ h).2).1
/-- A hand of whom nothing waits does a line: what it stores comes at once. -/
theorem stp_e16 {words : Int} {hs : List (List Ln)} (hW : Well words hs) (s : TS) {p : Nat} (hp : p < hs.length) (hq : (s.o p).q = []) : stp hs (e16 s) p = e16 (tcom (tstp hs s p) p) := by
  have h3 := hW.few
  have hw4 := hW.hi
  have hp3 : p < 3 := by omega
  have hn := e16_n s hp3
  have hl : hs[p]? = some (hs.getD p []) := by rw [List.getD_eq_getElem?_getD, List.getElem?_eq_getElem hp]; rfl
  cases hln : (hs.getD p [])[(s.o p).n]? with
  | none =>
    rw [stp_stay hs _ p _ _ hl hn (List.getElem?_eq_none_iff.1 hln)]
    have : tstp hs s p = s := by unfold tstp tsoLn; rw [hln]; simp only [upd_id]
    rw [this]; unfold tcom; rw [hq]
  | some l =>
    obtain ⟨_, _, hok⟩ := well_line hW hln
    rw [stp_go hs _ p _ _ l hl hn hln]
    have hset := e16_set_n s hp3 ((s.o p).n + 1)
    rw [show (((s.o p).n + 1 : Nat) : Int) = ((s.o p).n : Int) + 1 by omega] at hset
    dsimp only
    rw [hset]
    have fin : ∀ (o' : Own) (w' : Nat → Int), o'.q = [] → tsoLn (hs.getD p []) (s.o p) s.w = (o', w') → tcom (tstp hs s p) p = ⟨upd s.o p o', w'⟩ := by
      intro o' w' h1 h2
      have h3 : tstp hs s p = ⟨upd s.o p o', w'⟩ := by unfold tstp; rw [h2]
      rw [h3]
      unfold tcom
      simp only [upd_same, h1]
    by_cases k0 : l.k = 0
    · have hr := okLn_reg hok (by omega)
      rw [if_pos k0, e16_set_reg _ hp3 hr.1 hr.2, fin ((((s.o p).at_ ((s.o p).n + 1))).setReg l.r l.v) s.w (by rw [setReg_q]; exact hq) (by unfold tsoLn locLn; rw [hln]; dsimp only; rw [if_neg (by omega), if_neg (by omega), if_pos k0])]
      simp only [upd_same, upd_upd]
    by_cases k1 : l.k = 1
    · have hr := okLn_reg hok (by omega)
      have hd := okLn_word hok (by omega)
      rw [if_neg k0, if_pos k1, e16_set_reg _ hp3 hr.1 hr.2, e16_w _ (by omega), fin ((((s.o p).at_ ((s.o p).n + 1))).setReg l.r (s.w l.d.toNat)) s.w (by rw [setReg_q]; exact hq) (by unfold tsoLn; rw [hln]; dsimp only; rw [if_pos k1, hq]; rfl)]
      simp only [upd_same, upd_upd]
    by_cases k2 : l.k = 2
    · have hr := okLn_reg hok (by omega)
      have hd := okLn_word hok (by omega)
      rw [if_neg k0, if_neg k1, if_pos k2, e16_set_w _ (by omega), e16_reg _ hp3 hr.1 hr.2]
      have h1 : tsoLn (hs.getD p []) (s.o p) s.w = (⟨(s.o p).a, (s.o p).b, (s.o p).n + 1, [(l.d.toNat, (s.o p).reg l.r)]⟩, s.w) := by
        unfold tsoLn locLn; rw [hln]; dsimp only; rw [if_neg (by omega), if_neg (by omega), if_neg (by omega), if_pos k2, hq]; rfl
      have h2 : tcom (tstp hs s p) p = ⟨upd s.o p ((s.o p).at_ ((s.o p).n + 1)), upd s.w l.d.toNat ((s.o p).reg l.r)⟩ := by
        unfold tstp; rw [h1]; unfold tcom; simp only [upd_same, upd_upd, Own.pop, Own.at_, hq, List.tail_cons]
      rw [h2]
      simp only [upd_same, reg_at]
    by_cases k3 : l.k = 3
    · have hr := okLn_reg hok (by omega)
      have hd := okLn_word hok (by omega)
      rw [if_neg k0, if_neg k1, if_neg k2, if_pos k3, e16_set_reg _ hp3 hr.1 hr.2, e16_w _ (by omega), e16_reg _ hp3 hr.1 hr.2, e16_set_w _ (by omega), fin ((((s.o p).at_ ((s.o p).n + 1))).setReg l.r (s.w l.d.toNat)) (upd s.w l.d.toNat ((s.o p).reg l.r)) (by rw [setReg_q]; exact hq) (by unfold tsoLn; rw [hln]; dsimp only; rw [if_neg k1, if_pos k3, if_pos hq])]
      simp only [upd_same, upd_upd, reg_at]
    by_cases k5 : l.k = 5
    · have hr := okLn_reg hok (by omega)
      have hv := okLn_leave hok k5
      rw [if_neg k0, if_neg k1, if_neg k2, if_neg k3, if_pos k5, e16_reg _ hp3 hr.1 hr.2]
      simp only [upd_same, reg_at]
      by_cases hz : (s.o p).reg l.r = 0
      · rw [if_pos hz]
        obtain ⟨m, hm⟩ : ∃ m : Nat, m = min ((s.o p).n + 1 + l.v.toNat) (hs.getD p []).length := ⟨_, rfl⟩
        rw [show min (((s.o p).n : Int) + 1 + l.v) (hs.getD p []).length = (m : Int) by omega, e16_set_n _ hp3, fin ((s.o p).at_ m) s.w hq (by unfold tsoLn locLn; rw [hln]; dsimp only; rw [if_neg k1, if_neg k3, if_neg k0, if_neg k2, if_neg (by omega), if_pos ⟨k5, hz⟩, hm])]
        simp only [upd_same, upd_upd]
        rfl
      · rw [if_neg hz, fin ((s.o p).at_ ((s.o p).n + 1)) s.w hq (by unfold tsoLn locLn; rw [hln]; dsimp only; rw [if_neg k1, if_neg k3, if_neg k0, if_neg k2, if_neg (by omega), if_neg (fun h => hz h.2)])]
    · have h1 : tsoLn (hs.getD p []) (s.o p) s.w = ((s.o p).at_ ((s.o p).n + 1), s.w) := by
        unfold tsoLn locLn
        rw [hln]
        dsimp only
        rw [if_neg k1, if_neg k3, if_neg k0, if_neg k2]
        by_cases k4 : l.k = 4
        · rw [if_pos k4, if_pos hq]
        · rw [if_neg k4, if_neg (fun h => k5 h.1)]
      rw [if_neg k0, if_neg k1, if_neg k2, if_neg k3, if_neg k5, fin ((s.o p).at_ ((s.o p).n + 1)) s.w hq h1]

/-! ### Where nothing waits -/
inductive SReach (hs : List (List Ln)) : TS → Prop
  | start : SReach hs ts0
  | step {s : TS} {p : Nat} : SReach hs s → p < hs.length → SReach hs (tcom (tstp hs s p) p)
theorem tcom_other {s : TS} {p j : Nat} (h : j ≠ p) : (tcom s p).o j = s.o j := by
  unfold tcom
  split
  · rfl
  · exact upd_other h
theorem tsoLn_q (ls : List Ln) (o : Own) (w : Nat → Int) : ((tsoLn ls o w).1.q = o.q ∧ (o.q ≠ [] → (tsoLn ls o w).2 = w)) ∨
    ∃ l, ls[o.n]? = some l ∧ l.k = 2 ∧ (tsoLn ls o w).1.q = o.q ++ [(l.d.toNat, o.reg l.r)] ∧ (tsoLn ls o w).2 = w := by
  unfold tsoLn
  cases h : ls[o.n]? with
  | none => exact Or.inl ⟨rfl, fun _ => rfl⟩
  | some l =>
    dsimp only
    split
    · exact Or.inl ⟨setReg_q _ _ _, fun _ => rfl⟩
    · split
      · split
        · rename_i hq
          exact Or.inl ⟨setReg_q _ _ _, fun h => absurd hq h⟩
        · exact Or.inl ⟨rfl, fun _ => rfl⟩
      · unfold locLn
        split
        · exact Or.inl ⟨setReg_q _ _ _, fun _ => rfl⟩
        · split
          · rename_i k2
            exact Or.inr ⟨l, rfl, k2, rfl, rfl⟩
          · split
            · split <;> exact Or.inl ⟨rfl, fun _ => rfl⟩
            · split <;> exact Or.inl ⟨rfl, fun _ => rfl⟩
theorem SReach.q {hs : List (List Ln)} {s : TS} (h : SReach hs s) : ∀ p, (s.o p).q = [] := by
  induction h with
  | start => intro p; rfl
  | step _ hp ih =>
    rename_i s p _
    intro j
    by_cases e : j = p
    · subst e
      unfold tcom
      have h1 : ((tstp hs s j).o j) = (tsoLn (hs.getD j []) (s.o j) s.w).1 := by simp [tstp, upd_same]
      split
      · rename_i hq; exact hq
      · rename_i x r hq
        simp only [upd_same, Own.pop]
        rw [h1] at hq ⊢
        rcases tsoLn_q (hs.getD j []) (s.o j) s.w with ⟨h2, _⟩ | ⟨l, _, _, h2, _⟩
        · rw [h2, ih j]; rfl
        · rw [h2, ih j]; rfl
    · rw [tcom_other e]
      simp only [tstp, upd_other e]
      exact ih j
theorem SReach.reach {words : Int} {hs : List (List Ln)} (hW : Well words hs) {s : TS} (h : SReach hs s) : Reach hs (e16 s) := by
  induction h with
  | start => exact Reach.start hs
  | step h1 hp ih =>
    rename_i s p
    rw [← stp_e16 hW s hp (h1.q p)]
    exact ih.step hp
theorem Reach.sreach {words : Int} {hs : List (List Ln)} (hW : Well words hs) {z : List Int} (h : Reach hs z) : ∃ s, SReach hs s ∧ z = e16 s := by
  refine Reach.rec' (hs := hs) (P := fun z => ∃ s, SReach hs s ∧ z = e16 s) ⟨ts0, SReach.start, rfl⟩ ?_ z h
  rintro z p _ ⟨s, h1, rfl⟩ hp
  exact ⟨_, h1.step hp, stp_e16 hW s hp (h1.q p)⟩
theorem SReach.treach {hs : List (List Ln)} {s : TS} (h : SReach hs s) : TReach hs s := by
  induction h with
  | start => exact TReach.start
  | step _ hp ih => exact (ih.step hp).come hp

/-! ### What is told -/
def TEnd (hs : List (List Ln)) (s : TS) : Prop := ∀ p, p < hs.length → (hs.getD p []).length ≤ (s.o p).n ∧ (s.o p).q = []
def TTold (words : Int) (hs : List (List Ln)) (t : List Int) : Prop := ∃ s, TReach hs s ∧ TEnd hs s ∧ toldOf hs words (e16 s) = t
/-- All that may be told, rising. -/
def TsoOf (words : Int) (hs : List (List Ln)) (ts : List (List Int)) : Prop := Rises ts ∧ ∀ t, t ∈ ts ↔ TTold words hs t
theorem end_e16 {hs : List (List Ln)} (h3 : hs.length ≤ 3) {s : TS} : endB hs (e16 s) = true ↔ ∀ p, p < hs.length → (hs.getD p []).length ≤ (s.o p).n := by
  rw [endB_iff]
  constructor <;> intro h p hp
  · have := h p hp
    rw [List.getD_eq_getElem?_getD (l := e16 s), e16_n s (by omega)] at this
    simpa using this
  · rw [List.getD_eq_getElem?_getD (l := e16 s), e16_n s (by omega)]
    simpa using h p hp
/-- What may be where nothing waits may be where it does. -/
theorem more_mem {words : Int} {hs : List (List Ln)} (hW : Well words hs) {ts : List (List Int)} (ht : TsoOf words hs ts) {t : List Int} (h : t ∈ scR words hs) : t ∈ ts := by
  obtain ⟨z, h1, h2, rfl⟩ := (mem_scR hW t).1 h
  obtain ⟨s, hs', rfl⟩ := h1.sreach hW
  exact (ht.2 _).2 ⟨s, hs'.treach, fun p hp => ⟨(end_e16 hW.few).1 h2 p hp, hs'.q p⟩, rfl⟩

/-! ### What waits, seen through -/
theorem over_congr (q : List (Nat × Int)) : ∀ {w w' : Nat → Int} {d : Nat}, w d = w' d → over q w d = over q w' d := by
  induction q with
  | nil => intro w w' d h; exact h
  | cons e r ih =>
    intro w w' d h
    exact ih (w := upd w e.1 e.2) (w' := upd w' e.1 e.2) (by unfold upd; split <;> simp_all)
theorem over_none (q : List (Nat × Int)) : ∀ {w : Nat → Int} {d : Nat}, (∀ v, (d, v) ∉ q) → over q w d = w d := by
  induction q with
  | nil => intro w d _; rfl
  | cons e r ih =>
    intro w d h
    have h1 : d ≠ e.1 := fun he => h e.2 (by rw [he]; simp)
    exact (ih (w := upd w e.1 e.2) fun v hv => h v (by simp [hv])).trans (upd_other h1)
theorem over_snoc (q : List (Nat × Int)) (w : Nat → Int) (e : Nat × Int) : over (q ++ [e]) w = upd (over q w) e.1 e.2 := by
  unfold over; rw [List.foldl_append]; rfl
def pend (s : TS) (p d : Nat) : Prop := ∃ v, (d, v) ∈ (s.o p).q
def flush (s : TS) : Nat → Int := over (s.o 2).q (over (s.o 1).q (over (s.o 0).q s.w))
theorem flush_at {s : TS} {p d : Nat} (hp : p < 3) (h : ∀ j, j < 3 → j ≠ p → ¬ pend s j d) : flush s d = over (s.o p).q s.w d := by
  have no : ∀ j, j < 3 → j ≠ p → ∀ v, (d, v) ∉ (s.o j).q := fun j h1 h2 v hv => h j h1 h2 ⟨v, hv⟩
  have h3 : p = 0 ∨ p = 1 ∨ p = 2 := by omega
  unfold flush
  rcases h3 with rfl | rfl | rfl
  · rw [over_none _ (no 2 (by omega) (by omega)), over_none _ (no 1 (by omega) (by omega))]
  · rw [over_none _ (no 2 (by omega) (by omega))]
    exact over_congr _ (over_none _ (no 0 (by omega) (by omega)))
  · exact over_congr _ ((over_none _ (no 1 (by omega) (by omega))).trans (over_none _ (no 0 (by omega) (by omega))))
def Own.noq (o : Own) : Own := ⟨o.a, o.b, o.n, []⟩
/-- As if all that waits had come. -/
def flat_ (s : TS) : TS := ⟨fun p => (s.o p).noq, flush s⟩

/-! ### Who has stored may not have done so yet -/
inductive TRun (hs : List (List Ln)) : Nat → TS → Prop
  | start : TRun hs 0 ts0
  | step {n : Nat} {s : TS} {p : Nat} : TRun hs n s → p < hs.length → TRun hs (n + 1) (tstp hs s p)
  | come {n : Nat} {s : TS} {p : Nat} : TRun hs n s → p < hs.length → TRun hs (n + 1) (tcom s p)
theorem TReach.run {hs : List (List Ln)} {s : TS} (h : TReach hs s) : ∃ n, TRun hs n s := by
  induction h with
  | start => exact ⟨0, TRun.start⟩
  | step _ hp ih => obtain ⟨n, h⟩ := ih; exact ⟨n + 1, h.step hp⟩
  | come _ hp ih => obtain ⟨n, h⟩ := ih; exact ⟨n + 1, h.come hp⟩
theorem tstp_other {hs : List (List Ln)} {s : TS} {p h : Nat} (hne : h ≠ p) (o' : Own) : tstp hs ⟨upd s.o h o', s.w⟩ p = ⟨upd (tstp hs s p).o h o', (tstp hs s p).w⟩ := by
  unfold tstp
  simp only [upd_other hne.symm]
  rw [upd_comm hne]
theorem tcom_upd_other {s : TS} {p h : Nat} (hne : h ≠ p) (o' : Own) : tcom ⟨upd s.o h o', s.w⟩ p = ⟨upd (tcom s p).o h o', (tcom s p).w⟩ := by
  unfold tcom
  simp only [upd_other hne.symm]
  split
  · rfl
  · simp only [TS.mk.injEq, and_true]
    rw [upd_comm hne]
theorem snap {hs : List (List Ln)} {n : Nat} {s : TS} (hr : TRun hs n s) : ∀ (h : Nat) (q1 : List (Nat × Int)) (d : Nat) (v : Int) (q2 : List (Nat × Int)), (s.o h).q = q1 ++ (d, v) :: q2 →
    ∃ o' m l, o'.q = q1 ∧ m < n ∧ TRun hs m ⟨upd s.o h o', s.w⟩ ∧ (hs.getD h [])[o'.n]? = some l ∧ l.k = 2 ∧ l.d.toNat = d := by
  induction hr with
  | start => intro h q1 d v q2 hq; simp [ts0, own0] at hq
  | step hr hp ih =>
    rename_i n s p
    intro h q1 d v q2 hq
    by_cases e : h = p
    · subst e
      have h1 : ((tstp hs s h).o h) = (tsoLn (hs.getD h []) (s.o h) s.w).1 := by simp [tstp, upd_same]
      have h2 : (tstp hs s h).w = (tsoLn (hs.getD h []) (s.o h) s.w).2 := rfl
      have h3 : ∀ o', upd (tstp hs s h).o h o' = upd s.o h o' := fun o' => by unfold tstp; simp only [upd_upd]
      rw [h1] at hq
      have old : ∀ q2', (s.o h).q = q1 ++ (d, v) :: q2' → (tsoLn (hs.getD h []) (s.o h) s.w).2 = s.w → ∃ o' m l, o'.q = q1 ∧ m < n + 1 ∧ TRun hs m ⟨upd (tstp hs s h).o h o', (tstp hs s h).w⟩ ∧ (hs.getD h [])[o'.n]? = some l ∧ l.k = 2 ∧ l.d.toNat = d := by
        intro q2' hq' hw
        obtain ⟨o', m, l, a1, a2, a3, a4⟩ := ih h q1 d v q2' hq'
        exact ⟨o', m, l, a1, by omega, by rw [h2, hw, h3]; exact a3, a4⟩
      rcases tsoLn_q (hs.getD h []) (s.o h) s.w with ⟨a, b⟩ | ⟨l, a, b, c, dd⟩
      · rw [a] at hq
        exact old q2 hq (b (by rw [hq]; simp))
      · rw [c] at hq
        rcases List.eq_nil_or_concat q2 with rfl | ⟨q2', x, rfl⟩
        · have e1 := List.append_inj' hq rfl
          have e2 := e1.2
          simp at e2
          refine ⟨s.o h, n, l, e1.1, by omega, ?_, a, b, e2.1⟩
          rw [h2, dd, h3, upd_id]
          exact hr
        · rw [List.concat_eq_append, ← List.cons_append, ← List.append_assoc] at hq
          exact old q2' (List.append_inj' hq rfl).1 dd
    · have h1 : (tstp hs s p).o h = s.o h := by simp only [tstp, upd_other e]
      rw [h1] at hq
      obtain ⟨o', m, l, a1, a2, a3, a4⟩ := ih h q1 d v q2 hq
      exact ⟨o', m + 1, l, a1, by omega, by rw [← tstp_other e]; exact a3.step hp, a4⟩
  | come hr hp ih =>
    rename_i n s p
    intro h q1 d v q2 hq
    by_cases e : h = p
    · subst e
      cases hqs : (s.o h).q with
      | nil =>
        have h1 : tcom s h = s := by unfold tcom; rw [hqs]
        rw [h1] at hq ⊢
        rw [hqs] at hq
        simp at hq
      | cons x r =>
        have h1 : tcom s h = ⟨upd s.o h (s.o h).pop, upd s.w x.1 x.2⟩ := by unfold tcom; simp only [hqs]
        rw [h1] at hq ⊢
        simp only [upd_same, Own.pop, hqs, List.tail_cons] at hq
        obtain ⟨o', m, l, a1, a2, a3, a4⟩ := ih h (x :: q1) d v q2 (by rw [hqs, hq]; rfl)
        refine ⟨o'.pop, m + 1, l, by simp [Own.pop, a1], by omega, ?_, a4⟩
        have := a3.come hp
        have h2 : tcom ⟨upd s.o h o', s.w⟩ h = ⟨upd s.o h o'.pop, upd s.w x.1 x.2⟩ := by unfold tcom; simp only [upd_same, a1, upd_upd]
        rw [h2] at this
        simp only [upd_upd]
        exact this
    · rw [tcom_other e] at hq
      obtain ⟨o', m, l, a1, a2, a3, a4⟩ := ih h q1 d v q2 hq
      exact ⟨o', m + 1, l, a1, by omega, by rw [← tcom_upd_other e]; exact a3.come hp, a4⟩

/-! ### Nobody races -/
def NoClash (hs : List (List Ln)) : Prop := ∀ u, SReach hs u → ∀ a b x y, a ≠ b → (hs.getD a [])[(u.o a).n]? = some x → (hs.getD b [])[(u.o b).n]? = some y → clashB x y = false
theorem noClash_of {words : Int} {hs : List (List Ln)} (hW : Well words hs) (h : scRace hs = false) : NoClash hs := by
  intro u hu a b x y hne hx hy
  have h3 := hW.few
  have ha := (well_line hW hx).1
  have hb := (well_line hW hy).1
  have key : ∀ a b x y, b < a → a < hs.length → (hs.getD a [])[(u.o a).n]? = some x → (hs.getD b [])[(u.o b).n]? = some y → clashB x y = false := by
    intro a b x y hlt ha hx hy
    rw [← Bool.not_eq_true]
    intro hc
    have : scRace hs = true := (scRace_iff hW).2 ⟨e16 u, hu.reach hW, raceB_iff.2 ⟨a, b, ha, hlt, by
      have n1 : nextLn hs (e16 u) a = some x := by
        unfold nextLn
        rw [List.getD_eq_getElem?_getD (l := e16 u), e16_n u (by omega)]
        simp only [Option.getD_some, Int.toNat_natCast]
        rw [if_neg (by omega)]; exact hx
      have n2 : nextLn hs (e16 u) b = some y := by
        unfold nextLn
        rw [List.getD_eq_getElem?_getD (l := e16 u), e16_n u (by omega)]
        simp only [Option.getD_some, Int.toNat_natCast]
        rw [if_neg (by omega)]; exact hy
      unfold race2
      rw [n1, n2]; exact hc⟩⟩
    rw [h] at this
    cases this
  rcases Nat.lt_or_gt_of_ne hne with h1 | h1
  · rw [clash_symm]; exact key b a y x h1 hb hy hx
  · exact key a b x y h1 ha hx hy
def Apart (s : TS) : Prop := ∀ a b d, a < 3 → b < 3 → a ≠ b → pend s a d → ¬ pend s b d
theorem flat_other (s : TS) (h : Nat) (o' : Own) (p : Nat) (hne : p ≠ h) : (flat_ ⟨upd s.o h o', s.w⟩).o p = (s.o p).noq := by
  simp only [flat_, upd_other hne]
theorem see_through {words : Int} {hs : List (List Ln)} (hW : Well words hs) (hc : NoClash hs) : ∀ n s, TRun hs n s → Apart s ∧ SReach hs (flat_ s) := by
  intro n
  induction n using Nat.strongRecOn with
  | _ n IH =>
    intro s hr
    have h3 := hW.few
    have conf : ∀ (m : Nat) (s : TS) (p : Nat) (l : Ln), m < n → TRun hs m s → (hs.getD p [])[(s.o p).n]? = some l → (l.k = 1 ∨ l.k = 2 ∨ l.k = 3) → ∀ j, j ≠ p → ¬ pend s j l.d.toNat := by
      rintro m s p l hm hr hl hk j hj ⟨v, hv⟩
      obtain ⟨q1, q2, hq⟩ := List.append_of_mem hv
      obtain ⟨o', m', l', a1, a2, a3, a4, a5, a6⟩ := snap hr j q1 _ v q2 hq
      have hS := (IH m' (by omega) _ a3).2
      have hb := hc _ hS p j l l' (Ne.symm hj) (by rw [flat_other s j o' p (Ne.symm hj)]; exact hl) (by simp only [flat_, upd_same]; exact a4)
      have d1 := okLn_word (well_line hW hl).2.2 hk
      have d2 := okLn_word (well_line hW a4).2.2 (by omega)
      have hd : l.d = l'.d := by omega
      have t1 : touchB l = true := by simp [touchB]; omega
      have t2 : touchB l' = true := by simp [touchB]; omega
      unfold clashB at hb
      rw [t1, t2, hd, a5] at hb
      by_cases k2 : l.k = 2
      · simp [k2] at hb
      · simp [k2] at hb
    cases hr with
    | start =>
      refine ⟨fun a b d _ _ _ h => by obtain ⟨v, hv⟩ := h; simp [ts0, own0] at hv, ?_⟩
      exact SReach.start
    | step hr hp =>
      rename_i n s p
      obtain ⟨hA, hS⟩ := IH n (by omega) s hr
      have conf := fun l => conf n s p l (by omega) hr
      have hp3 : p < 3 := by omega
      obtain ⟨u, hu⟩ : ∃ u, u = flat_ s := ⟨_, rfl⟩
      have huo : u.o p = (s.o p).noq := by rw [hu]; rfl
      have huw : u.w = flush s := by rw [hu]; rfl
      -- one step of the one is one of the other
      have fin : ∀ (o' : Own) (w' : Nat → Int), o'.q = (s.o p).q → (∀ d, w' d = s.w d ∨ ((∀ j, j < 3 → ¬ pend s j d))) → tsoLn (hs.getD p []) (s.o p) s.w = (o', w') → tsoLn (hs.getD p []) (s.o p).noq (flush s) = (o'.noq, fun d => if w' d = s.w d then flush s d else w' d) →
          Apart (tstp hs s p) ∧ SReach hs (flat_ (tstp hs s p)) := by
        intro o' w' h1 h2 h4 h5
        have e1 : tstp hs s p = ⟨upd s.o p o', w'⟩ := by unfold tstp; rw [h4]
        have eq : ∀ j, ((tstp hs s p).o j).q = (s.o j).q := fun j => by
          rw [e1]
          by_cases e : j = p
          · subst e; simp only [upd_same, h1]
          · simp only [upd_other e]
        have ep : ∀ j d, pend (tstp hs s p) j d ↔ pend s j d := fun j d => by unfold pend; rw [eq j]
        refine ⟨fun a b d ha hb hne h => by rw [ep] at h ⊢; exact hA a b d ha hb hne h, ?_⟩
        have hstep := hS.step hp
        have e2 : tcom (tstp hs (flat_ s) p) p = flat_ (tstp hs s p) := by
          have e3 : tstp hs (flat_ s) p = ⟨upd (flat_ s).o p o'.noq, fun d => if w' d = s.w d then flush s d else w' d⟩ := by
            unfold tstp
            rw [show (flat_ s).o p = (s.o p).noq from rfl, show (flat_ s).w = flush s from rfl, h5]
          have e4 : tcom (tstp hs (flat_ s) p) p = tstp hs (flat_ s) p := by
            rw [e3]; unfold tcom; simp only [upd_same, Own.noq]
          rw [e4, e3, e1]
          unfold flat_
          simp only [TS.mk.injEq]
          refine ⟨?_, ?_⟩
          · funext j
            by_cases e : j = p
            · subst e; simp only [upd_same]
            · simp only [upd_other e]
          · funext d
            have fl : flush (⟨upd s.o p o', w'⟩ : TS) = over (s.o 2).q (over (s.o 1).q (over (s.o 0).q w')) := by
              unfold flush
              rw [← e1, eq 0, eq 1, eq 2, e1]
            rw [fl]
            by_cases e : w' d = s.w d
            · rw [if_pos e]
              exact (over_congr _ (over_congr _ (over_congr _ e))).symm
            · rw [if_neg e]
              rcases h2 d with h | h
              · exact absurd h e
              · have no : ∀ j, j < 3 → ∀ v, (d, v) ∉ (s.o j).q := fun j hj v hv => h j hj ⟨v, hv⟩
                rw [over_none _ (no 2 (by omega)), over_none _ (no 1 (by omega)), over_none _ (no 0 (by omega))]
        rw [e2] at hstep
        exact hstep
      cases hln : (hs.getD p [])[(s.o p).n]? with
      | none => exact fin (s.o p) s.w rfl (fun _ => Or.inl rfl) (by unfold tsoLn; rw [hln]) (by unfold tsoLn; rw [show (s.o p).noq.n = (s.o p).n from rfl, hln]; simp)
      | some l =>
        have hok := (well_line hW hln).2.2
        have hnn : (s.o p).noq.n = (s.o p).n := rfl
        have hreg : ∀ r, (s.o p).noq.reg r = (s.o p).reg r := fun r => rfl
        have hset : ∀ r v, (((s.o p).at_ ((s.o p).n + 1)).setReg r v).noq = ((s.o p).noq.at_ ((s.o p).n + 1)).setReg r v := fun r v => by unfold Own.setReg; split <;> rfl
        by_cases k1 : l.k = 1
        · have hf := flush_at hp3 (fun j h1 h2 => conf l hln (Or.inl k1) j h2)
          refine fin (((s.o p).at_ ((s.o p).n + 1)).setReg l.r (over (s.o p).q s.w l.d.toNat)) s.w (setReg_q _ _ _) (fun _ => Or.inl rfl) (by unfold tsoLn; rw [hln]; dsimp only; rw [if_pos k1]) ?_
          unfold tsoLn
          rw [hnn, hln]
          dsimp only
          rw [if_pos k1, hset, ← hf]
          simp [Own.noq, over]
        by_cases k3 : l.k = 3
        · by_cases hq : (s.o p).q = []
          · have hno : ∀ j, j < 3 → ¬ pend s j l.d.toNat := fun j hj => by
              by_cases e : j = p
              · rw [e]; rintro ⟨v, hv⟩; rw [hq] at hv; cases hv
              · exact conf l hln (by omega) j e
            have hf : flush s l.d.toNat = s.w l.d.toNat := by rw [flush_at hp3 (fun j h1 _ => hno j h1), hq]; rfl
            refine fin (((s.o p).at_ ((s.o p).n + 1)).setReg l.r (s.w l.d.toNat)) (upd s.w l.d.toNat ((s.o p).reg l.r)) (setReg_q _ _ _) (fun d => ?_) (by unfold tsoLn; rw [hln]; dsimp only; rw [if_neg k1, if_pos k3, if_pos hq]) ?_
            · by_cases e : d = l.d.toNat
              · subst e; exact Or.inr hno
              · exact Or.inl (upd_other e)
            · unfold tsoLn
              rw [hnn, hln]
              dsimp only
              rw [if_neg k1, if_pos k3, if_pos (show (s.o p).noq.q = [] from rfl), hset, hf]
              simp only [Prod.mk.injEq, true_and]
              funext d
              by_cases e : d = l.d.toNat
              · subst e
                simp only [upd_same, hreg]
                split
                · rename_i h; rw [hf]; exact h
                · rfl
              · simp only [upd_other e, if_true]
          · have hsame : tsoLn (hs.getD p []) (s.o p) s.w = (s.o p, s.w) := by unfold tsoLn; rw [hln]; dsimp only; rw [if_neg k1, if_pos k3, if_neg hq]
            have e1 : tstp hs s p = s := by unfold tstp; rw [hsame]; simp only [upd_id]
            rw [e1]; exact ⟨hA, hS⟩
        by_cases k2 : l.k = 2
        · -- it stores
          have hno := conf l hln (by omega)
          have e1 : tstp hs s p = ⟨upd s.o p ⟨(s.o p).a, (s.o p).b, (s.o p).n + 1, (s.o p).q ++ [(l.d.toNat, (s.o p).reg l.r)]⟩, s.w⟩ := by
            unfold tstp tsoLn locLn; rw [hln]; dsimp only; rw [if_neg k1, if_neg k3, if_neg (by omega), if_pos k2]
          have ep : ∀ j d, pend (tstp hs s p) j d → pend s j d ∨ (j = p ∧ d = l.d.toNat) := by
            rintro j d ⟨v, hv⟩
            rw [e1] at hv
            by_cases e : j = p
            · subst e
              simp only [upd_same] at hv
              rcases List.mem_append.1 hv with h | h
              · exact Or.inl ⟨v, h⟩
              · simp at h; exact Or.inr ⟨rfl, h.1⟩
            · simp only [upd_other e] at hv
              exact Or.inl ⟨v, hv⟩
          have hA' : Apart (tstp hs s p) := by
            intro a b d ha hb hne h1 h2
            rcases ep a d h1 with g1 | ⟨e1, e2⟩
            · rcases ep b d h2 with g2 | ⟨e1, e2⟩
              · exact hA a b d ha hb hne g1 g2
              · exact hno a (by omega) (by rw [← e2]; exact g1)
            · rcases ep b d h2 with g2 | ⟨e3, _⟩
              · exact hno b (by omega) (by rw [← e2]; exact g2)
              · exact hne (by omega)
          refine ⟨hA', ?_⟩
          have hstep := hS.step hp
          have e2 : tcom (tstp hs (flat_ s) p) p = flat_ (tstp hs s p) := by
            have e3 : tstp hs (flat_ s) p = ⟨upd (flat_ s).o p ⟨(s.o p).a, (s.o p).b, (s.o p).n + 1, [(l.d.toNat, (s.o p).reg l.r)]⟩, flush s⟩ := by
              unfold tstp tsoLn locLn
              rw [show (flat_ s).o p = (s.o p).noq from rfl, show (flat_ s).w = flush s from rfl, hnn, hln]; dsimp only; rw [if_neg k1, if_neg k3, if_neg (by omega), if_pos k2]; rfl
            rw [e3, e1]
            unfold tcom
            simp only [upd_same, upd_upd, Own.pop, List.tail_cons]
            simp only [flat_, TS.mk.injEq]
            refine ⟨?_, ?_⟩
            · funext j
              by_cases e : j = p
              · subst e; simp only [upd_same, Own.noq]
              · simp only [upd_other e]
            · funext d
              obtain ⟨S, hSd⟩ : ∃ S : TS, S = ⟨upd s.o p ⟨(s.o p).a, (s.o p).b, (s.o p).n + 1, (s.o p).q ++ [(l.d.toNat, (s.o p).reg l.r)]⟩, s.w⟩ := ⟨_, rfl⟩
              rw [← hSd]
              rw [e1, ← hSd] at ep hA'
              have sq : (S.o p).q = (s.o p).q ++ [(l.d.toNat, (s.o p).reg l.r)] := by rw [hSd]; simp only [upd_same]
              have so : ∀ j, j ≠ p → (S.o j).q = (s.o j).q := fun j hj => by rw [hSd]; simp only [upd_other hj]
              have sw : S.w = s.w := by rw [hSd]
              by_cases e : d = l.d.toNat
              · subst e
                rw [upd_same, flush_at hp3 (fun j h1 h2 h => by
                  rcases ep j _ h with h | ⟨h, _⟩
                  · exact hno j h2 h
                  · exact h2 h), sq, over_snoc, upd_same]
              · rw [upd_other e]
                by_cases hex : ∃ j, j < 3 ∧ j ≠ p ∧ pend s j d
                · obtain ⟨j, hj, hjp, hpd⟩ := hex
                  rw [flush_at hj (fun i h1 h2 h => hA j i d hj h1 (Ne.symm h2) hpd h), flush_at (s := S) hj (fun i h1 h2 h => by
                    rcases ep i d h with h | ⟨_, h⟩
                    · exact hA j i d hj h1 (Ne.symm h2) hpd h
                    · exact e h), so j hjp, sw]
                · rw [flush_at hp3 (fun i h1 h2 h => hex ⟨i, h1, h2, h⟩), flush_at (s := S) hp3 (fun i h1 h2 h => by
                    rcases ep i d h with h | ⟨h, _⟩
                    · exact hex ⟨i, h1, h2, h⟩
                    · exact h2 h), sq, over_snoc, upd_other e, sw]
          rw [e2] at hstep
          exact hstep
        -- a line of its own
        have hloc : ∀ o : Own, o.n = (s.o p).n → ∀ w, tsoLn (hs.getD p []) o w = (locLn (hs.getD p []).length l o, w) := fun o ho w => by
          unfold tsoLn; rw [ho, hln]; dsimp only; rw [if_neg k1, if_neg k3]
        by_cases k4 : l.k = 4 ∧ (s.o p).q ≠ []
        · have e1 : tstp hs s p = s := by
            unfold tstp; rw [hloc _ rfl]
            unfold locLn
            rw [if_neg (by omega), if_neg k2, if_pos k4.1, if_neg k4.2]
            simp only [upd_id]
          rw [e1]; exact ⟨hA, hS⟩
        · have hq4 : l.k = 4 → (s.o p).q = [] := fun h => Classical.byContradiction fun hn => k4 ⟨h, hn⟩
          refine fin (locLn (hs.getD p []).length l (s.o p)) s.w ?_ (fun _ => Or.inl rfl) (hloc _ rfl _) ?_
          · unfold locLn
            split
            · exact setReg_q _ _ _
            · try rw [if_neg k2]
              split
              · split <;> rfl
              · split <;> rfl
          · rw [hloc (s.o p).noq rfl]
            simp only [if_true, Prod.mk.injEq, and_true]
            unfold locLn
            by_cases k0 : l.k = 0
            · rw [if_pos k0, if_pos k0, hset]; rfl
            · rw [if_neg k0, if_neg k0, if_neg k2, if_neg k2]
              by_cases h4 : l.k = 4
              · rw [if_pos h4, if_pos h4, if_pos (show (s.o p).noq.q = [] from rfl), if_pos (hq4 h4)]; rfl
              · rw [if_neg h4, if_neg h4, hreg]
                split <;> rfl
    | come hr hp =>
      rename_i n s p
      obtain ⟨hA, hS⟩ := IH n (by omega) s hr
      have hp3 : p < 3 := by omega
      cases hq : (s.o p).q with
      | nil =>
        have e1 : tcom s p = s := by unfold tcom; rw [hq]
        rw [e1]; exact ⟨hA, hS⟩
      | cons x r =>
        have e1 : tcom s p = ⟨upd s.o p (s.o p).pop, upd s.w x.1 x.2⟩ := by unfold tcom; simp only [hq]
        obtain ⟨S, hSd⟩ : ∃ S, S = tcom s p := ⟨_, rfl⟩
        rw [← hSd]
        rw [← hSd] at e1
        have sq : (S.o p).q = r := by rw [e1]; simp only [upd_same, Own.pop, hq, List.tail_cons]
        have so : ∀ j, j ≠ p → (S.o j).q = (s.o j).q := fun j hj => by rw [e1]; simp only [upd_other hj]
        have sw : S.w = upd s.w x.1 x.2 := by rw [e1]
        have ep : ∀ j d, pend S j d → pend s j d := by
          rintro j d ⟨v, hv⟩
          by_cases e : j = p
          · subst e
            rw [sq] at hv
            exact ⟨v, by rw [hq]; simp [hv]⟩
          · rw [so j e] at hv
            exact ⟨v, hv⟩
        have hx : pend s p x.1 := ⟨x.2, by rw [hq]; simp⟩
        refine ⟨fun a b d ha hb hne h1 h2 => hA a b d ha hb hne (ep a d h1) (ep b d h2), ?_⟩
        have e2 : flat_ S = flat_ s := by
          simp only [flat_, TS.mk.injEq]
          refine ⟨?_, ?_⟩
          · funext j
            by_cases e : j = p
            · subst e; rw [e1]; simp only [upd_same]; rfl
            · rw [e1]; simp only [upd_other e]
          · funext d
            by_cases hex : ∃ j, j < 3 ∧ j ≠ p ∧ pend s j d
            · obtain ⟨j, hj, hjp, hpd⟩ := hex
              have hdx : d ≠ x.1 := fun e => hA j p d hj hp3 hjp hpd (by rw [e]; exact hx)
              rw [flush_at hj (fun i h1 h2 h => hA j i d hj h1 (Ne.symm h2) hpd h), flush_at (s := S) hj (fun i h1 h2 h => hA j i d hj h1 (Ne.symm h2) hpd (ep i d h)), so j hjp, sw]
              exact over_congr _ (upd_other hdx)
            · rw [flush_at hp3 (fun i h1 h2 h => hex ⟨i, h1, h2, h⟩), flush_at (s := S) hp3 (fun i h1 h2 h => hex ⟨i, h1, h2, ep i d h⟩), sq, sw, hq]
              rfl
        rw [e2]
        exact hS
/-- Who does not race does the same where what is stored waits. -/
theorem noRace {words : Int} {hs : List (List Ln)} (hW : Well words hs) (h : scRace hs = false) {ts : List (List Int)} (ht : TsoOf words hs ts) : ts = scR words hs := by
  refine rises_ext ht.1 (scR_facts words hs).1 fun t => ⟨fun hm => ?_, fun hm => more_mem hW ht hm⟩
  obtain ⟨s, h1, h2, rfl⟩ := (ht.2 t).1 hm
  obtain ⟨n, hr⟩ := h1.run
  have h3 := (see_through hW (noClash_of hW h) n s hr).2
  have h4 := hW.few
  have idle : ∀ {n s}, TRun hs n s → ∀ p, hs.length ≤ p → (s.o p).q = [] := by
    intro n s hr
    induction hr with
    | start => intro p _; rfl
    | step _ hp ih => intro p hp2; rw [show ((tstp hs _ _).o p) = _ from upd_other (by omega)]; exact ih p hp2
    | come _ hp ih => intro p hp2; rw [tcom_other (by omega)]; exact ih p hp2
  have hq : ∀ p, (s.o p).q = [] := fun p => by
    rcases Nat.lt_or_ge p hs.length with h | h
    · exact (h2 p h).2
    · exact idle hr p h
  have hw : flush s = s.w := by unfold flush; rw [hq 0, hq 1, hq 2]; rfl
  have e : e16 (flat_ s) = e16 s := e16_congr (fun p _ => ⟨rfl, rfl, rfl⟩) hw
  exact (mem_scR hW _).2 ⟨_, h3.reach hW, by rw [e]; exact (end_e16 h4).2 fun p hp => (h2 p hp).1, by rw [e]⟩
end Go.Proofs.YthpnnmkpbkbanaaDoor
