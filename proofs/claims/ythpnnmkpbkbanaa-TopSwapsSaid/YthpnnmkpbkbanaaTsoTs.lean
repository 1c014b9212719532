/-
  What step, come and ended answer, state by state.
-/
import Derived.Test.YthpnnmkpbkbanaaTsoGl
import Derived.Test.YthpnnmkpbkbanaaTsoSt
namespace Go.Proofs.Ythpnnmkpbkbanaa
open Go.RowKit

theorem own_get {words : Int} {hs : List (List Ln)} (hW : Well words hs) {p : Nat} (hp : p < hs.length) : hs[p]? = some (hs.getD p []) ∧ (hs.getD p []).length ≤ 5 ∧ (hs.getD p []).all (okLn words) = true := by
  have h1 : hs[p]? = some (hs.getD p []) := by rw [List.getD_eq_getElem?_getD, List.getElem?_eq_getElem hp]; rfl
  exact ⟨h1, hW.short p _ h1, hW.okay p _ h1⟩
theorem tstep_ts (words : Int) (hv : Value) (hs : List (List Ln)) (s : TS) (p : Nat) (w : World) (hh : Hands w w.heap.size hv hs) (hW : Well words hs) (hok : TOk words hs s) (hp : p < hs.length) :
    Calls Try.prog 20 #[.agg (row (e49 s)), .agg #[.int .i64 words, hv], .int .i64 p] w fun e w' => e = .returned (.agg (row (e49 (tstp hs s p)))) ∧ Below w.heap.size w w' := by
  have h3 := hW.few
  have h4 := hW.hi
  have hp3 : p < 3 := by omega
  have hr := e49_row hp3 (fun j _ => hok.q5 hW j)
  obtain ⟨hl, h5, hall⟩ := own_get hW hp
  have hn := e16_n s hp3
  cases hln : (hs.getD p [])[(s.o p).n]? with
  | none =>
    have e1 : tstp hs s p = s := by unfold tstp tsoLn; rw [hln]; simp only [upd_id]
    rw [e1]
    exact tstep_none (e16 s) _ _ _ p (e49 s) words hv hs _ _ w hr hh hl h3 hn (List.getElem?_eq_none_iff.1 hln)
  | some l =>
    have hd : ∀ e ∈ (s.o p).q, e.1 < 4 := fun e he => by have := (hok.rq p e he).1; omega
    by_cases hb : (s.o p).q ≠ [] ∧ (l.k = 3 ∨ l.k = 4)
    · have e1 : tstp hs s p = s := by
        unfold tstp tsoLn
        rw [hln]
        dsimp only
        rcases hb.2 with k | k
        · rw [if_neg (by omega), if_pos k, if_neg hb.1]; simp only [upd_id]
        · rw [if_neg (by omega), if_neg (by omega)]
          unfold locLn
          rw [if_neg (by omega), if_neg (by omega), if_pos k, if_neg hb.1]; simp only [upd_id]
      rw [e1]
      exact tstep_block (e16 s) _ _ _ p (e49 s) words hv hs _ _ w hr hh hl h3 hn l.k l.r l.d l.v hln (List.length_pos_iff.2 hb.1) hb.2
    · have hgo : (s.o p).q = [] ∨ (l.k ≠ 3 ∧ l.k ≠ 4) := by
        by_cases hq : (s.o p).q = []
        · exact Or.inl hq
        · exact Or.inr ⟨fun h => hb ⟨hq, Or.inl h⟩, fun h => hb ⟨hq, Or.inr h⟩⟩
      rw [← step_glue hW hp hln hd hgo]
      have hlt := lt_of_line hln
      have hq5 : (s.o p).q.length < 5 := by have := hok.qn p; omega
      have hk : ((decide ((0 : Int) < (s.o p).q.length)) && ((l.k == 3) || (l.k == 4))) = false := by
        rcases hgo with h | h
        · rw [h]; simp
        · have a1 : (l.k == 3) = false := by simpa using h.1
          have a2 : (l.k == 4) = false := by simpa using h.2
          rw [a1, a2]; simp
      exact tstep_go (e16 s) _ _ _ p (e49 s) words hv hs _ _ l.k l.r l.d l.v w hr hh hl h3 hn hln hq5 hd h4 h5 hall _ _ rfl rfl hk (fun k => by
        have := okLn_word (well_line hW hln).2.2 (Or.inr (Or.inl k))
        omega)
theorem tcome_ts (words : Int) (hs : List (List Ln)) (s : TS) (p : Nat) (w : World) (hW : Well words hs) (hok : TOk words hs s) (hp : p < hs.length) :
    Calls Try.prog 21 #[.agg (row (e49 s)), .int .i64 p] w fun e w' => e = .returned (.agg (row (e49 (tcom s p)))) ∧ Below w.heap.size w w' := by
  have h3 := hW.few
  have h4 := hW.hi
  have hp3 : p < 3 := by omega
  have hr := e49_row hp3 (fun j _ => hok.q5 hW j)
  cases hq : (s.o p).q with
  | nil =>
    have e1 : tcom s p = s := by unfold tcom; rw [hq]
    rw [e1]
    rw [hq] at hr
    exact come_none (e16 s) _ _ p (e49 s) w hr
  | cons e r =>
    obtain ⟨d, v⟩ := e
    have hd : d < 4 := by have := (hok.rq p (d, v) (by rw [hq]; simp)).1; simp only at this; omega
    have hl := hok.q5 hW p
    rw [hq] at hr hl
    simp only [List.length_cons] at hl
    rw [← come_glue hp3 hq hd]
    exact come_some (e16 s) _ _ d v r p (e49 s) w hr (by omega) hd
/-- All is done, and nothing waits. -/
def tEndB (hs : List (List Ln)) (s : TS) : Bool := decide (qrow (s.o 0).q ++ (qrow (s.o 1).q ++ qrow (s.o 2).q) = List.replicate 33 0) && endB hs (e16 s)
theorem qrow_zero {q : List (Nat × Int)} : qrow q = List.replicate 11 0 ↔ q = [] := by
  constructor
  · intro h
    unfold qrow at h
    rw [show List.replicate 11 (0 : Int) = 0 :: List.replicate 10 0 from rfl] at h
    injection h with h1 _
    exact List.eq_nil_of_length_eq_zero (by omega)
  · rintro rfl; rfl
theorem tEndB_iff {words : Int} {hs : List (List Ln)} (hW : Well words hs) {s : TS} (hok : TOk words hs s) : tEndB hs s = true ↔ TEnd hs s := by
  have h3 := hW.few
  unfold tEndB
  rw [Bool.and_eq_true, decide_eq_true_eq, end_e16 h3]
  have l0 := qrow_length (hok.q5 hW 0)
  have l1 := qrow_length (hok.q5 hW 1)
  have hz : qrow (s.o 0).q ++ (qrow (s.o 1).q ++ qrow (s.o 2).q) = List.replicate 33 0 ↔ (s.o 0).q = [] ∧ (s.o 1).q = [] ∧ (s.o 2).q = [] := by
    rw [show List.replicate 33 (0 : Int) = List.replicate 11 0 ++ (List.replicate 11 0 ++ List.replicate 11 0) from rfl]
    constructor
    · intro h
      have a := List.append_inj_left h (by rw [l0]; rfl)
      have b := List.append_inj_right h (by rw [l0]; rfl)
      have c := List.append_inj_left b (by rw [l1]; rfl)
      have d := List.append_inj_right b (by rw [l1]; rfl)
      exact ⟨qrow_zero.1 a, qrow_zero.1 c, qrow_zero.1 d⟩
    · rintro ⟨a, b, c⟩
      rw [qrow_zero.2 a, qrow_zero.2 b, qrow_zero.2 c]
  rw [hz]
  constructor
  · rintro ⟨⟨a, b, c⟩, h⟩ p hp
    refine ⟨h p hp, ?_⟩
    have : p = 0 ∨ p = 1 ∨ p = 2 := by omega
    rcases this with rfl | rfl | rfl <;> assumption
  · intro h
    have hq : ∀ p, (s.o p).q = [] := fun p => by
      rcases Nat.lt_or_ge p hs.length with hp | hp
      · exact (h p hp).2
      · rw [hok.idle p hp]; rfl
    exact ⟨⟨hq 0, hq 1, hq 2⟩, fun p hp => (h p hp).1⟩
theorem e16_fit {words : Int} {hs : List (List Ln)} (hW : Well words hs) (s : TS) : Fit hs (e16 s) := ⟨rfl, fun p hp => ⟨(s.o p).n, e16_n s (by have := hW.few; omega)⟩⟩
theorem tended_ts (words : Int) (hv : Value) (hs : List (List Ln)) (s : TS) (w : World) (hh : Hands w w.heap.size hv hs) (hW : Well words hs) (hok : TOk words hs s) :
    Calls Try.prog 18 #[.agg (row (e49 s)), .agg #[.int .i64 words, hv]] w fun e w' => e = .returned (.bool (tEndB hs s)) ∧ Below w.heap.size w w' := by
  have l0 := qrow_length (hok.q5 hW 0)
  have l1 := qrow_length (hok.q5 hW 1)
  have l2 := qrow_length (hok.q5 hW 2)
  exact tended_any (e16 s) _ words hv hs w hh hW.few (e16_fit hW s) (by simp only [List.length_append, l0, l1, l2]) (rest_wf hW hok)
/-- Where all is done and nothing waits no two states tell the same. -/
theorem ttold_inj {words : Int} {hs : List (List Ln)} (hW : Well words hs) {s t : TS} (hs' : TOk words hs s) (ht : TOk words hs t) (es : TEnd hs s) (et : TEnd hs t) (h : toldOf hs words (e16 s) = toldOf hs words (e16 t)) : e49 s = e49 t := by
  have h3 := hW.few
  have h4 := hW.hi
  have good : ∀ {s : TS}, TOk words hs s → Good words hs (e16 s) := fun {s} hk => by
    refine ⟨e16_fit hW s, fun p hp => ⟨(s.o p).n, e16_n s (by omega), hk.nl p⟩, fun i hi h1 h2 => ?_⟩
    have hidle : ∀ p, p < 3 → hs.length ≤ p → s.o p = own0 := fun p _ hp => hk.idle p hp
    have hw : ∀ d, d < 4 → ¬ ((12 + d : Nat) : Int) < 12 + words → s.w d = 0 := fun d _ hd => hk.wz d (by omega)
    have ho : ∀ p r, p < 3 → r < 3 → i = p * 4 + r → s.o p = own0 := fun p r hp hr e => by
      rcases Nat.lt_or_ge p hs.length with hlt | hge
      · have := h1 p hlt; omega
      · exact hidle p hp hge
    have hcase : (∃ p r, p < 3 ∧ r < 3 ∧ i = p * 4 + r) ∨ i = 3 ∨ i = 7 ∨ i = 11 ∨ ∃ d, d < 4 ∧ i = 12 + d := by
      have : i = 0 ∨ i = 1 ∨ i = 2 ∨ i = 3 ∨ i = 4 ∨ i = 5 ∨ i = 6 ∨ i = 7 ∨ i = 8 ∨ i = 9 ∨ i = 10 ∨ i = 11 ∨ i = 12 ∨ i = 13 ∨ i = 14 ∨ i = 15 := by omega
      rcases this with h | h | h | h | h | h | h | h | h | h | h | h | h | h | h | h
      · exact Or.inl ⟨0, 0, by omega, by omega, h⟩
      · exact Or.inl ⟨0, 1, by omega, by omega, h⟩
      · exact Or.inl ⟨0, 2, by omega, by omega, h⟩
      · exact Or.inr (Or.inl h)
      · exact Or.inl ⟨1, 0, by omega, by omega, h⟩
      · exact Or.inl ⟨1, 1, by omega, by omega, h⟩
      · exact Or.inl ⟨1, 2, by omega, by omega, h⟩
      · exact Or.inr (Or.inr (Or.inl h))
      · exact Or.inl ⟨2, 0, by omega, by omega, h⟩
      · exact Or.inl ⟨2, 1, by omega, by omega, h⟩
      · exact Or.inl ⟨2, 2, by omega, by omega, h⟩
      · exact Or.inr (Or.inr (Or.inr (Or.inl h)))
      all_goals exact Or.inr (Or.inr (Or.inr (Or.inr ⟨i - 12, by omega, by omega⟩)))
    rcases hcase with ⟨p, r, hp, hr, e⟩ | e | e | e | ⟨d, hd, e⟩
    · have h0 := ho p r hp hr e
      have hp' : p = 0 ∨ p = 1 ∨ p = 2 := by omega
      have hr' : r = 0 ∨ r = 1 ∨ r = 2 := by omega
      subst e
      rcases hp' with rfl | rfl | rfl <;> rcases hr' with rfl | rfl | rfl <;> simp [e16, h0, own0]
    · subst e; rfl
    · subst e; rfl
    · subst e; rfl
    · subst e
      have h0 := hw d hd (by omega)
      have hd' : d = 0 ∨ d = 1 ∨ d = 2 ∨ d = 3 := by omega
      rcases hd' with rfl | rfl | rfl | rfl <;> simp [e16, h0]
  have e := told_inj hW (good hs') (good ht) ((end_e16 h3).2 fun p hp => (es p hp).1) ((end_e16 h3).2 fun p hp => (et p hp).1) h
  have hq : ∀ {s : TS}, TOk words hs s → TEnd hs s → ∀ p, (s.o p).q = [] := fun {s} hk he p => by
    rcases Nat.lt_or_ge p hs.length with hp | hp
    · exact (he p hp).2
    · rw [hk.idle p hp]; rfl
  unfold e49
  rw [e, hq hs' es 0, hq hs' es 1, hq hs' es 2, hq ht et 0, hq ht et 1, hq ht et 2]
end Go.Proofs.Ythpnnmkpbkbanaa
