/-
  Texts merged: TsoFenced, TsoLaws.
-/
import Derived.Test.YthpnnmkpbkbanaaTsoRace
/-
  Behind fences nothing waits: plain mathematics.
-/
namespace Go.Proofs.Ythpnnmkpbkbanaa

/-- Behind each line that stores stands a fence. -/
def Fenced (hs : List (List Ln)) : Prop := ∀ (p n : Nat) (l : Ln), (hs.getD p [])[n]? = some l → l.k = 2 → ∃ f, (hs.getD p [])[n + 1]? = some f ∧ f.k = 4
/-- A hand ahead of the store that waits. -/
def bkO (o : Own) : Own := if o.q = [] then o else ⟨o.a, o.b, o.n - 1, []⟩
def bk (s : TS) : TS := ⟨fun p => bkO (s.o p), s.w⟩
theorem bkO_nil {o : Own} (h : o.q = []) : bkO o = o := if_pos h
theorem bkO_cons {o : Own} (h : o.q ≠ []) : bkO o = ⟨o.a, o.b, o.n - 1, []⟩ := if_neg h
theorem bk_upd (f : Nat → Own) (p : Nat) (x : Own) : (fun j => bkO (upd f p x j)) = upd (fun j => bkO (f j)) p (bkO x) := by
  funext j
  by_cases h : j = p
  · subst h; rw [upd_same, upd_same]
  · rw [upd_other h, upd_other h]
/-- At most the last line waits, and it stores. -/
def FI (hs : List (List Ln)) (s : TS) : Prop := ∀ p, (s.o p).q = [] ∨ ∃ (l : Ln) (m : Nat), (s.o p).n = m + 1 ∧ (hs.getD p [])[m]? = some l ∧ l.k = 2 ∧ (s.o p).q = [(l.d.toNat, (s.o p).reg l.r)]
theorem FI.upd_ {hs : List (List Ln)} {s : TS} (h : FI hs s) (p : Nat) (x : Own) (w : Nat → Int) (hx : x.q = [] ∨ ∃ (l : Ln) (m : Nat), x.n = m + 1 ∧ (hs.getD p [])[m]? = some l ∧ l.k = 2 ∧ x.q = [(l.d.toNat, x.reg l.r)]) : FI hs ⟨upd s.o p x, w⟩ := by
  intro j
  by_cases e : j = p
  · subst e
    simp only [upd_same]
    exact hx
  · simp only [upd_other e]
    exact h j
theorem tsoLn_quiet {ls : List Ln} {o : Own} {w : Nat → Int} (hq : o.q = []) (h : ∀ l, ls[o.n]? = some l → l.k ≠ 2) : (tsoLn ls o w).1.q = [] := by
  unfold tsoLn
  simp only [hq, if_true]
  split
  · exact hq
  · rename_i l hl
    split
    · exact (setReg_q _ _ _).trans hq
    · split
      · exact (setReg_q _ _ _).trans hq
      · unfold locLn
        simp only [hq, if_true]
        split
        · exact (setReg_q _ _ _).trans hq
        · rw [if_neg (h l hl)]
          split
          · exact hq
          · split <;> exact hq
theorem fenced_step {hs : List (List Ln)} (hf : Fenced hs) {s : TS} (hi : FI hs s) (hr : SReach hs (bk s)) {p : Nat} (hp : p < hs.length) : FI hs (tstp hs s p) ∧ SReach hs (bk (tstp hs s p)) := by
  rcases hi p with hq | ⟨l, m, hn, hl, hk, hq⟩
  · by_cases h2 : ∃ l, (hs.getD p [])[(s.o p).n]? = some l ∧ l.k = 2
    · obtain ⟨l, hl, hk⟩ := h2
      have e : tsoLn (hs.getD p []) (s.o p) s.w = (⟨(s.o p).a, (s.o p).b, (s.o p).n + 1, [(l.d.toNat, (s.o p).reg l.r)]⟩, s.w) := by
        unfold tsoLn
        rw [hl]
        dsimp only
        rw [if_neg (by omega), if_neg (by omega)]
        unfold locLn
        rw [if_neg (by omega), if_pos hk, hq]
        rfl
      have eb : bk (tstp hs s p) = bk s := by
        unfold tstp
        rw [e]
        unfold bk
        dsimp only
        rw [bk_upd, bkO_cons (by simp)]
        have e2 : (⟨(s.o p).a, (s.o p).b, (s.o p).n + 1 - 1, []⟩ : Own) = (fun j => bkO (s.o j)) p := by
          dsimp only
          rw [bkO_nil hq, Nat.add_sub_cancel, ← hq]
        dsimp only
        rw [e2, upd_id]
      refine ⟨?_, by rw [eb]; exact hr⟩
      unfold tstp
      rw [e]
      exact hi.upd_ p _ _ (Or.inr ⟨l, _, rfl, hl, hk, rfl⟩)
    · have hz := tsoLn_quiet (w := s.w) hq fun l hl hk => h2 ⟨l, hl, hk⟩
      refine ⟨hi.upd_ p _ _ (Or.inl hz), ?_⟩
      have e1 : tstp hs (bk s) p = bk (tstp hs s p) := by
        unfold tstp bk
        dsimp only
        rw [bk_upd, bkO_nil hq, bkO_nil hz]
      have e2 : tcom (bk (tstp hs s p)) p = bk (tstp hs s p) := by
        have h0 : ((bk (tstp hs s p)).o p).q = [] := by
          unfold bk tstp
          dsimp only
          rw [upd_same, bkO_nil hz]
          exact hz
        unfold tcom
        rw [h0]
      have h3 := hr.step hp
      rwa [e1, e2] at h3
  · obtain ⟨f, hf1, hf2⟩ := hf p m l hl hk
    have e : tstp hs s p = s := by
      unfold tstp tsoLn
      rw [hn, hf1]
      dsimp only
      rw [if_neg (by omega), if_neg (by omega)]
      unfold locLn
      rw [if_neg (by omega), if_neg (by omega), if_pos hf2, if_neg (by rw [hq]; simp)]
      simp only [upd_id]
    rw [e]
    exact ⟨hi, hr⟩
theorem fenced_come {hs : List (List Ln)} {s : TS} (hi : FI hs s) (hr : SReach hs (bk s)) {p : Nat} (hp : p < hs.length) : FI hs (tcom s p) ∧ SReach hs (bk (tcom s p)) := by
  rcases hi p with hq | ⟨l, m, hn, hl, hk, hq⟩
  · have e : tcom s p = s := by unfold tcom; rw [hq]
    rw [e]
    exact ⟨hi, hr⟩
  · have e : tcom s p = ⟨upd s.o p ⟨(s.o p).a, (s.o p).b, m + 1, []⟩, upd s.w l.d.toNat ((s.o p).reg l.r)⟩ := by
      unfold tcom
      rw [hq]
      dsimp only
      unfold Own.pop
      rw [hq, hn]
      rfl
    rw [e]
    refine ⟨hi.upd_ p _ _ (Or.inl rfl), ?_⟩
    have h3 := hr.step hp
    have hb : (bk s).o p = ⟨(s.o p).a, (s.o p).b, m, []⟩ := by
      unfold bk
      dsimp only
      rw [bkO_cons (by rw [hq]; simp), hn, Nat.add_sub_cancel]
    have e1 : tstp hs (bk s) p = ⟨upd (bk s).o p ⟨(s.o p).a, (s.o p).b, m + 1, [(l.d.toNat, (s.o p).reg l.r)]⟩, s.w⟩ := by
      unfold tstp
      rw [hb]
      unfold tsoLn
      dsimp only
      rw [hl]
      dsimp only
      rw [if_neg (by omega), if_neg (by omega)]
      unfold locLn
      rw [if_neg (by omega), if_pos hk]
      rfl
    have e2 : tcom (tstp hs (bk s) p) p = bk ⟨upd s.o p ⟨(s.o p).a, (s.o p).b, m + 1, []⟩, upd s.w l.d.toNat ((s.o p).reg l.r)⟩ := by
      rw [e1]
      unfold tcom
      dsimp only
      rw [upd_same]
      dsimp only
      rw [upd_upd]
      unfold bk Own.pop
      dsimp only
      rw [bk_upd, bkO_nil rfl]
      rfl
    rwa [e2] at h3
theorem fenced_all {hs : List (List Ln)} (hf : Fenced hs) {s : TS} (h : TReach hs s) : FI hs s ∧ SReach hs (bk s) ∧ ∀ p, hs.length ≤ p → (s.o p).q = [] := by
  induction h with
  | start => exact ⟨fun _ => Or.inl rfl, SReach.start, fun _ _ => rfl⟩
  | step _ hp ih => exact ⟨(fenced_step hf ih.1 ih.2.1 hp).1, (fenced_step hf ih.1 ih.2.1 hp).2, fun p hp2 => by rw [show ((tstp hs _ _).o p) = _ from upd_other (by omega)]; exact ih.2.2 p hp2⟩
  | come _ hp ih => exact ⟨(fenced_come ih.1 ih.2.1 hp).1, (fenced_come ih.1 ih.2.1 hp).2, fun p hp2 => by rw [tcom_other (by omega)]; exact ih.2.2 p hp2⟩
/-- A program with a fence behind each line that stores does the same where what is stored waits. -/
theorem fenced_same {words : Int} {hs : List (List Ln)} (hW : Well words hs) (hf : Fenced hs) {ts : List (List Int)} (ht : TsoOf words hs ts) : ts = scR words hs := by
  refine rises_ext ht.1 (scR_facts words hs).1 fun t => ⟨fun hm => ?_, fun hm => more_mem hW ht hm⟩
  obtain ⟨s, h1, h2, rfl⟩ := (ht.2 t).1 hm
  obtain ⟨_, h3, hidle⟩ := fenced_all hf h1
  have hq : ∀ p, (s.o p).q = [] := fun p => by
    rcases Nat.lt_or_ge p hs.length with h | h
    · exact (h2 p h).2
    · exact hidle p h
  have e : bk s = s := by
    unfold bk
    rw [show (fun p => bkO (s.o p)) = s.o from funext fun p => bkO_nil (hq p)]
  rw [e] at h3
  exact (mem_scR hW _).2 ⟨_, h3.reach hW, (end_e16 hW.few).2 fun p hp => (h2 p hp).1, rfl⟩
end Go.Proofs.Ythpnnmkpbkbanaa

/-
  What the laws want of programs that are alone, that only swap, or that have a fence behind each store: plain mathematics.
-/
namespace Go.Proofs.Ythpnnmkpbkbanaa

/-- Who only swaps never races. -/
theorem swaps_race {hs : List (List Ln)} (h : ∀ (p : Nat) (l : Ln), l ∈ hs.getD p [] → l.k ≠ 1 ∧ l.k ≠ 2) : scRace hs = false := by
  rw [← Bool.not_eq_true]
  intro hr
  simp only [scRace, List.any_eq_true] at hr
  obtain ⟨z, _, hz⟩ := hr
  obtain ⟨a, b, _, _, h2⟩ := raceB_iff.1 hz
  unfold race2 at h2
  split at h2
  · rename_i x y hx hy
    have mem : ∀ {p : Nat} {l : Ln}, nextLn hs z p = some l → l ∈ hs.getD p [] := fun {p l} hn => by
      unfold nextLn at hn
      split at hn
      · cases hn
      · exact List.mem_of_getElem? hn
    have k1 := h a x (mem hx)
    have k2 := h b y (mem hy)
    simp only [clashB, touchB, Bool.and_eq_true, Bool.or_eq_true, decide_eq_true_eq] at h2
    omega
  · cases h2
/-- Who is alone does the same where what is stored waits. -/
theorem alone_tso {words : Int} {hs : List (List Ln)} (hW : Well words hs) (h1 : hs.length = 1) {ts : List (List Int)} (ht : TsoOf words hs ts) : ts = scR words hs := noRace hW (alone_race h1) ht
theorem swaps_tso {words : Int} {hs : List (List Ln)} (hW : Well words hs) (h : ∀ (p : Nat) (l : Ln), l ∈ hs.getD p [] → l.k ≠ 1 ∧ l.k ≠ 2) {ts : List (List Int)} (ht : TsoOf words hs ts) : ts = scR words hs := noRace hW (swaps_race h) ht

/-! ### A fence behind each store -/
def fenceLn : Ln := ⟨4, 0, 0, 0⟩
def fen : List Ln → List Ln
  | [] => []
  | l :: r => if l.k = 2 then l :: fenceLn :: fen r else l :: fen r
theorem fen_snoc (l : Ln) : ∀ r, fen (r ++ [l]) = fen r ++ (if l.k = 2 then [l, fenceLn] else [l])
  | [] => by simp only [List.nil_append, fen]
  | x :: r => by
    have ih := fen_snoc l r
    simp only [List.cons_append, fen, ih]
    split <;> simp
theorem fen_next : ∀ (ls : List Ln) (n : Nat) (l : Ln), (fen ls)[n]? = some l → l.k = 2 → (fen ls)[n + 1]? = some fenceLn
  | [], n, l, h, _ => by simp [fen] at h
  | x :: r, n, l, h, hk => by
    unfold fen at h ⊢
    split at h
    · rename_i hx
      rw [if_pos hx]
      match n, h with
      | 0, _ => rfl
      | 1, h =>
        simp only [List.getElem?_cons_succ, List.getElem?_cons_zero, Option.some.injEq] at h
        rw [← h] at hk
        exact absurd hk (by decide)
      | n + 2, h =>
        simp only [List.getElem?_cons_succ] at h ⊢
        exact fen_next r n l h hk
    · rename_i hx
      rw [if_neg hx]
      match n, h with
      | 0, h =>
        simp only [List.getElem?_cons_zero, Option.some.injEq] at h
        rw [h] at hx
        exact absurd hk hx
      | n + 1, h =>
        simp only [List.getElem?_cons_succ] at h ⊢
        exact fen_next r n l h hk
theorem fen_fenced (hs : List (List Ln)) : Fenced (hs.map fen) := by
  intro p n l h hk
  have e : (hs.map fen).getD p [] = fen (hs.getD p []) := by
    rw [List.getD_eq_getElem?_getD, List.getD_eq_getElem?_getD, List.getElem?_map]
    cases hs[p]? <;> rfl
  rw [e] at h ⊢
  exact ⟨fenceLn, fen_next _ n l h hk, rfl⟩
theorem fen_tso {words : Int} {hs : List (List Ln)} (hW : Well words (hs.map fen)) {ts : List (List Int)} (ht : TsoOf words (hs.map fen) ts) : ts = scR words (hs.map fen) := fenced_same hW (fen_fenced hs) ht
end Go.Proofs.Ythpnnmkpbkbanaa
