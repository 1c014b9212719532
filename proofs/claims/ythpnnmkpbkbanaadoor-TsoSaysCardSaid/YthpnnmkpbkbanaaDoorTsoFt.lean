/-
  Texts merged: TsoTs, TsoFin.
-/
import Derived.Test.YthpnnmkpbkbanaaDoorTsoGl
import Derived.Test.YthpnnmkpbkbanaaDoorTsoStep3
import Derived.Test.YthpnnmkpbkbanaaDoorCmp
/-
  What step, come and ended answer, state by state.
-/
namespace Go.Proofs.YthpnnmkpbkbanaaDoor
open Go.RowKit

theorem own_get {words : Int} {hs : List (List Ln)} (hW : Well words hs) {p : Nat} (hp : p < hs.length) : hs[p]? = some (hs.getD p []) ∧ (hs.getD p []).length ≤ 5 ∧ (hs.getD p []).all (okLn words) = true := by
  have h1 : hs[p]? = some (hs.getD p []) := by rw [List.getD_eq_getElem?_getD, List.getElem?_eq_getElem hp]; rfl
  exact ⟨h1, hW.short p _ h1, hW.okay p _ h1⟩
theorem tstep_ts (words : Int) (hv : Value) (hs : List (List Ln)) (s : TS) (p : Nat) (w : World) (hh : Hands w w.heap.size hv hs) (hW : Well words hs) (hok : TOk words hs s) (hp : p < hs.length) :
    Calls Tryd.prog 36 #[.agg (row (e49 s)), .agg #[.int .i64 words, hv], .int .i64 p] w fun e w' => e = .returned (.agg (row (e49 (tstp hs s p)))) ∧ Below w.heap.size w w' := by
  have h3 := hW.few
  have h4 := hW.hi
  have hp3 : p < 3 := by omega
  have hr := e49_row hp3 (fun j _ => hok.q5 hW j)
  obtain ⟨hl, h5, hall⟩ := own_get hW hp
  have hn := e16_n s hp3
  cases hln : (hs.getD p [])[(s.o p).n]? with
  | none =>
    have e1 : tstp hs s p = s := by unfold tstp tsoLn; rw [hln]; simp only [upd_id]
    rw [e1]
    exact tstep_none (e16 s) _ _ _ p (e49 s) words hv hs _ _ w hr hh hl h3 hn (List.getElem?_eq_none_iff.1 hln)
  | some l =>
    have hd : ∀ e ∈ (s.o p).q, e.1 < 4 := fun e he => by have := (hok.rq p e he).1; omega
    by_cases hb : (s.o p).q ≠ [] ∧ (l.k = 3 ∨ l.k = 4)
    · have e1 : tstp hs s p = s := by
        unfold tstp tsoLn
        rw [hln]
        dsimp only
        rcases hb.2 with k | k
        · rw [if_neg (by omega), if_pos k, if_neg hb.1]; simp only [upd_id]
        · rw [if_neg (by omega), if_neg (by omega)]
          unfold locLn
          rw [if_neg (by omega), if_neg (by omega), if_pos k, if_neg hb.1]; simp only [upd_id]
      rw [e1]
      exact tstep_block (e16 s) _ _ _ p (e49 s) words hv hs _ _ w hr hh hl h3 hn l.k l.r l.d l.v hln (List.length_pos_iff.2 hb.1) hb.2
    · have hgo : (s.o p).q = [] ∨ (l.k ≠ 3 ∧ l.k ≠ 4) := by
        by_cases hq : (s.o p).q = []
        · exact Or.inl hq
        · exact Or.inr ⟨fun h => hb ⟨hq, Or.inl h⟩, fun h => hb ⟨hq, Or.inr h⟩⟩
      rw [← step_glue hW hp hln hd hgo]
      have hlt := lt_of_line hln
      have hq5 : (s.o p).q.length < 5 := by have := hok.qn p; omega
      have hk : ((decide ((0 : Int) < (s.o p).q.length)) && ((l.k == 3) || (l.k == 4))) = false := by
        rcases hgo with h | h
        · rw [h]; simp
        · have a1 : (l.k == 3) = false := by simpa using h.1
          have a2 : (l.k == 4) = false := by simpa using h.2
          rw [a1, a2]; simp
      exact tstep_go (e16 s) _ _ _ p (e49 s) words hv hs _ _ l.k l.r l.d l.v w hr hh hl h3 hn hln hq5 hd h4 h5 hall _ _ rfl rfl hk (fun k => by
        have := okLn_word (well_line hW hln).2.2 (Or.inr (Or.inl k))
        omega)
theorem tcome_ts (words : Int) (hs : List (List Ln)) (s : TS) (p : Nat) (w : World) (hW : Well words hs) (hok : TOk words hs s) (hp : p < hs.length) :
    Calls Tryd.prog 37 #[.agg (row (e49 s)), .int .i64 p] w fun e w' => e = .returned (.agg (row (e49 (tcom s p)))) ∧ Below w.heap.size w w' := by
  have h3 := hW.few
  have h4 := hW.hi
  have hp3 : p < 3 := by omega
  have hr := e49_row hp3 (fun j _ => hok.q5 hW j)
  cases hq : (s.o p).q with
  | nil =>
    have e1 : tcom s p = s := by unfold tcom; rw [hq]
    rw [e1]
    rw [hq] at hr
    exact come_none (e16 s) _ _ p (e49 s) w hr
  | cons e r =>
    obtain ⟨d, v⟩ := e
    have hd : d < 4 := by have := (hok.rq p (d, v) (by rw [hq]; simp)).1; simp only at this; omega
    have hl := hok.q5 hW p
    rw [hq] at hr hl
    simp only [List.length_cons] at hl
    rw [← come_glue hp3 hq hd]
    exact come_some (e16 s) _ _ d v r p (e49 s) w hr (by omega) hd
/-- All is done, and nothing waits. -/
def tEndB (hs : List (List Ln)) (s : TS) : Bool := decide (qrow (s.o 0).q ++ (qrow (s.o 1).q ++ qrow (s.o 2).q) = List.replicate 33 0) && endB hs (e16 s)
theorem qrow_zero {q : List (Nat × Int)} : qrow q = List.replicate 11 0 ↔ q = [] := by
  constructor
  · intro h
    unfold qrow at h
    rw [show List.replicate 11 (0 : Int) = 0 :: List.replicate 10 0 from rfl] at h
    injection h with h1 _
    exact List.eq_nil_of_length_eq_zero (by omega)
  · rintro rfl; rfl
theorem tEndB_iff {words : Int} {hs : List (List Ln)} (hW : Well words hs) {s : TS} (hok : TOk words hs s) : tEndB hs s = true ↔ TEnd hs s := by
  have h3 := hW.few
  unfold tEndB
  rw [Bool.and_eq_true, decide_eq_true_eq, end_e16 h3]
  have l0 := qrow_length (hok.q5 hW 0)
  have l1 := qrow_length (hok.q5 hW 1)
  have hz : qrow (s.o 0).q ++ (qrow (s.o 1).q ++ qrow (s.o 2).q) = List.replicate 33 0 ↔ (s.o 0).q = [] ∧ (s.o 1).q = [] ∧ (s.o 2).q = [] := by
    rw [show List.replicate 33 (0 : Int) = List.replicate 11 0 ++ (List.replicate 11 0 ++ List.replicate 11 0) from rfl]
    constructor
    · intro h
      have a := List.append_inj_left h (by rw [l0]; rfl)
      have b := List.append_inj_right h (by rw [l0]; rfl)
      have c := List.append_inj_left b (by rw [l1]; rfl)
      have d := List.append_inj_right b (by rw [l1]; rfl)
      exact ⟨qrow_zero.1 a, qrow_zero.1 c, qrow_zero.1 d⟩
    · rintro ⟨a, b, c⟩
      rw [qrow_zero.2 a, qrow_zero.2 b, qrow_zero.2 c]
  rw [hz]
  constructor
  · rintro ⟨⟨a, b, c⟩, h⟩ p hp
    refine ⟨h p hp, ?_⟩
    have : p = 0 ∨ p = 1 ∨ p = 2 := by omega
    rcases this with rfl | rfl | rfl <;> assumption
  · intro h
    have hq : ∀ p, (s.o p).q = [] := fun p => by
      rcases Nat.lt_or_ge p hs.length with hp | hp
      · exact (h p hp).2
      · rw [hok.idle p hp]; rfl
    exact ⟨⟨hq 0, hq 1, hq 2⟩, fun p hp => (h p hp).1⟩
theorem e16_fit {words : Int} {hs : List (List Ln)} (hW : Well words hs) (s : TS) : Fit hs (e16 s) := ⟨rfl, fun p hp => ⟨(s.o p).n, e16_n s (by have := hW.few; omega)⟩⟩
theorem tended_ts (words : Int) (hv : Value) (hs : List (List Ln)) (s : TS) (w : World) (hh : Hands w w.heap.size hv hs) (hW : Well words hs) (hok : TOk words hs s) :
    Calls Tryd.prog 34 #[.agg (row (e49 s)), .agg #[.int .i64 words, hv]] w fun e w' => e = .returned (.bool (tEndB hs s)) ∧ Below w.heap.size w w' := by
  have l0 := qrow_length (hok.q5 hW 0)
  have l1 := qrow_length (hok.q5 hW 1)
  have l2 := qrow_length (hok.q5 hW 2)
  exact tended_any (e16 s) _ words hv hs w hh hW.few (e16_fit hW s) (by simp only [List.length_append, l0, l1, l2]) (rest_wf hW hok)
/-- Where all is done and nothing waits no two states tell the same. -/
theorem ttold_inj {words : Int} {hs : List (List Ln)} (hW : Well words hs) {s t : TS} (hs' : TOk words hs s) (ht : TOk words hs t) (es : TEnd hs s) (et : TEnd hs t) (h : toldOf hs words (e16 s) = toldOf hs words (e16 t)) : e49 s = e49 t := by
  have h3 := hW.few
  have h4 := hW.hi
  have good : ∀ {s : TS}, TOk words hs s → Good words hs (e16 s) := fun {s} hk => by
    refine ⟨e16_fit hW s, fun p hp => ⟨(s.o p).n, e16_n s (by omega), hk.nl p⟩, fun i hi h1 h2 => ?_⟩
    have hidle : ∀ p, p < 3 → hs.length ≤ p → s.o p = own0 := fun p _ hp => hk.idle p hp
    have hw : ∀ d, d < 4 → ¬ ((12 + d : Nat) : Int) < 12 + words → s.w d = 0 := fun d _ hd => hk.wz d (by omega)
    have ho : ∀ p r, p < 3 → r < 3 → i = p * 4 + r → s.o p = own0 := fun p r hp hr e => by
      rcases Nat.lt_or_ge p hs.length with hlt | hge
      · have := h1 p hlt; omega
      · exact hidle p hp hge
    have hcase : (∃ p r, p < 3 ∧ r < 3 ∧ i = p * 4 + r) ∨ i = 3 ∨ i = 7 ∨ i = 11 ∨ ∃ d, d < 4 ∧ i = 12 + d := by
      have : i = 0 ∨ i = 1 ∨ i = 2 ∨ i = 3 ∨ i = 4 ∨ i = 5 ∨ i = 6 ∨ i = 7 ∨ i = 8 ∨ i = 9 ∨ i = 10 ∨ i = 11 ∨ i = 12 ∨ i = 13 ∨ i = 14 ∨ i = 15 := by omega
      rcases this with h | h | h | h | h | h | h | h | h | h | h | h | h | h | h | h
      · exact Or.inl ⟨0, 0, by omega, by omega, h⟩
      · exact Or.inl ⟨0, 1, by omega, by omega, h⟩
      · exact Or.inl ⟨0, 2, by omega, by omega, h⟩
      · exact Or.inr (Or.inl h)
      · exact Or.inl ⟨1, 0, by omega, by omega, h⟩
      · exact Or.inl ⟨1, 1, by omega, by omega, h⟩
      · exact Or.inl ⟨1, 2, by omega, by omega, h⟩
      · exact Or.inr (Or.inr (Or.inl h))
      · exact Or.inl ⟨2, 0, by omega, by omega, h⟩
      · exact Or.inl ⟨2, 1, by omega, by omega, h⟩
      · exact Or.inl ⟨2, 2, by omega, by omega, h⟩
      · exact Or.inr (Or.inr (Or.inr (Or.inl h)))
      all_goals exact Or.inr (Or.inr (Or.inr (Or.inr ⟨i - 12, by omega, by omega⟩)))
    rcases hcase with ⟨p, r, hp, hr, e⟩ | e | e | e | ⟨d, hd, e⟩
    · have h0 := ho p r hp hr e
      have hp' : p = 0 ∨ p = 1 ∨ p = 2 := by omega
      have hr' : r = 0 ∨ r = 1 ∨ r = 2 := by omega
      subst e
      rcases hp' with rfl | rfl | rfl <;> rcases hr' with rfl | rfl | rfl <;> simp [e16, h0, own0]
    · subst e; rfl
    · subst e; rfl
    · subst e; rfl
    · subst e
      have h0 := hw d hd (by omega)
      have hd' : d = 0 ∨ d = 1 ∨ d = 2 ∨ d = 3 := by omega
      rcases hd' with rfl | rfl | rfl | rfl <;> simp [e16, h0]
  have e := told_inj hW (good hs') (good ht) ((end_e16 h3).2 fun p hp => (es p hp).1) ((end_e16 h3).2 fun p hp => (et p hp).1) h
  have hq : ∀ {s : TS}, TOk words hs s → TEnd hs s → ∀ p, (s.o p).q = [] := fun {s} hk he p => by
    rcases Nat.lt_or_ge p hs.length with hp | hp
    · exact (he p hp).2
    · rw [hk.idle p hp]; rfl
  unfold e49
  rw [e, hq hs' es 0, hq hs' es 1, hq hs' es 2, hq ht et 0, hq ht et 1, hq ht et 2]
end Go.Proofs.YthpnnmkpbkbanaaDoor

/-
  The search of all states where what is stored waits: what is known, what is left, and what is told.
-/
namespace Go.Proofs.YthpnnmkpbkbanaaDoor
open Go.RowKit
open Classical in
noncomputable instance : DecidableEq TS := fun a b => Classical.propDecidable (a = b)

/-- Behind a round: `pre` are taken, `left` are left, in a round over `s` the hands below `i` have made their steps. -/
structure TKnow (hs : List (List Ln)) (known pre left : List TS) (cur : Option TS) (i : Nat) : Prop where
  nd : known.Nodup
  rch : ∀ s ∈ known, TReach hs s
  st : ts0 ∈ known
  eq : known = pre ++ left
  cl : ∀ s ∈ pre, cur ≠ some s → ∀ p, p < hs.length → tstp hs s p ∈ known ∧ tcom s p ∈ known
  cu : ∀ s, cur = some s → s ∈ pre ∧ ∀ p, p < i → tstp hs s p ∈ known ∧ tcom s p ∈ known

theorem TKnow.start (hs : List (List Ln)) : TKnow hs [ts0] [] [ts0] none 0 :=
  ⟨by simp, fun s h => by rw [List.mem_singleton.1 h]; exact .start, by simp, rfl, by simp, by simp⟩
theorem TKnow.few {words : Int} {hs : List (List Ln)} (hW : Well words hs) {known pre left : List TS} {cur : Option TS} {i : Nat} (h : TKnow hs known pre left cur i) : known.length ≤ 20644068912 := by
  obtain ⟨L, h1, h2⟩ := few_states hW.few (fun ls hl => by
    obtain ⟨p, hp⟩ := List.getElem?_of_mem hl
    exact hW.short p ls hp)
  exact Nat.le_trans (nodup_le h.nd fun s hs' => h2 s (h.rch s hs')) h1
theorem TKnow.few2 {words : Int} {hs : List (List Ln)} (hW : Well words hs) {known pre left : List TS} {cur : Option TS} {i : Nat} (h : TKnow hs known pre left cur i) : pre.length + left.length ≤ 20644068912 := by
  have := h.few hW
  rwa [h.eq, List.length_append] at this
theorem TKnow.take {hs : List (List Ln)} {known pre left : List TS} {s : TS} {i : Nat} (h : TKnow hs known pre (s :: left) none i) : TKnow hs known (pre ++ [s]) left (some s) 0 := by
  refine ⟨h.nd, h.rch, h.st, by rw [h.eq, List.append_assoc]; rfl, fun t ht hne p hp => ?_, fun t ht => ?_⟩
  · rcases List.mem_append.1 ht with h1 | h1
    · exact h.cl t h1 (by simp) p hp
    · rw [List.mem_singleton.1 h1] at hne; exact absurd rfl hne
  · injection ht with ht
    subst ht
    exact ⟨by simp, fun p hp => by omega⟩
theorem TKnow.put {words : Int} {hs : List (List Ln)} (hW : Well words hs) {known pre left : List TS} {cur : Option TS} {i : Nat} (h : TKnow hs known pre left cur i) {t : TS} (ht : TReach hs t) :
    ∃ known' left', ins1 (known.map e49) (e49 t) = known'.map e49 ∧ (if e49 t ∈ known.map e49 then left.map e49 else left.map e49 ++ [e49 t]) = left'.map e49 ∧ TKnow hs known' pre left' cur i ∧ t ∈ known' ∧ ∀ s ∈ known, s ∈ known' := by
  have hm : e49 t ∈ known.map e49 ↔ t ∈ known := by
    rw [List.mem_map]
    constructor
    · rintro ⟨s, h1, h2⟩
      rwa [← e49_inj hW ((h.rch s h1).ok hW) (ht.ok hW) h2]
    · intro h1; exact ⟨t, h1, rfl⟩
  by_cases hk : t ∈ known
  · refine ⟨known, left, by rw [ins1, if_pos (hm.2 hk)], by rw [if_pos (hm.2 hk)], h, hk, fun _ h => h⟩
  · have hk' : ¬ e49 t ∈ known.map e49 := fun h1 => hk (hm.1 h1)
    refine ⟨known ++ [t], left ++ [t], by rw [ins1, if_neg hk']; simp, by rw [if_neg hk']; simp, ⟨?_, ?_, ?_, ?_, ?_, ?_⟩, by simp, fun s h1 => List.mem_append_left _ h1⟩
    · rw [List.nodup_append]
      exact ⟨h.nd, by simp, fun a ha b hb => by rw [List.mem_singleton.1 hb]; intro e; exact hk (e ▸ ha)⟩
    · intro s h1
      rcases List.mem_append.1 h1 with h2 | h2
      · exact h.rch s h2
      · rw [List.mem_singleton.1 h2]; exact ht
    · exact List.mem_append_left _ h.st
    · rw [h.eq, List.append_assoc]
    · intro s h1 h2 p hp
      exact ⟨List.mem_append_left _ (h.cl s h1 h2 p hp).1, List.mem_append_left _ (h.cl s h1 h2 p hp).2⟩
    · intro s h1
      exact ⟨(h.cu s h1).1, fun p hp => ⟨List.mem_append_left _ ((h.cu s h1).2 p hp).1, List.mem_append_left _ ((h.cu s h1).2 p hp).2⟩⟩
theorem TKnow.next {hs : List (List Ln)} {known pre left : List TS} {s : TS} {i : Nat} (h : TKnow hs known pre left (some s) i) (h1 : tstp hs s i ∈ known) (h2 : tcom s i ∈ known) : TKnow hs known pre left (some s) (i + 1) :=
  ⟨h.nd, h.rch, h.st, h.eq, h.cl, fun t ht => ⟨(h.cu t ht).1, fun p hp => by
    rcases Nat.lt_succ_iff_lt_or_eq.1 hp with h3 | h3
    · exact (h.cu t ht).2 p h3
    · injection ht with ht
      subst h3; subst ht
      exact ⟨h1, h2⟩⟩⟩
theorem TKnow.done {hs : List (List Ln)} {known pre left : List TS} {s : TS} (h : TKnow hs known pre left (some s) hs.length) : TKnow hs known pre left none 0 :=
  ⟨h.nd, h.rch, h.st, h.eq, fun t ht _ p hp => by
    by_cases he : s = t
    · subst he; exact (h.cu s rfl).2 p hp
    · exact h.cl t ht (fun e => he (by injection e)) p hp, by simp⟩
theorem tend_stay {hs : List (List Ln)} {s : TS} (h : TEnd hs s) {p : Nat} (hp : p < hs.length) : tstp hs s p = s ∧ tcom s p = s := by
  have h1 := h p hp
  constructor
  · unfold tstp tsoLn
    rw [List.getElem?_eq_none_iff.2 h1.1]
    simp only [upd_id]
  · unfold tcom
    rw [h1.2]
theorem TKnow.ended {hs : List (List Ln)} {known pre left : List TS} {s : TS} (h : TKnow hs known pre left (some s) 0) (he : TEnd hs s) : TKnow hs known pre left none 0 :=
  ⟨h.nd, h.rch, h.st, h.eq, fun t ht _ p hp => by
    by_cases e : s = t
    · subst e
      have hk : s ∈ known := by rw [h.eq]; exact List.mem_append_left _ (h.cu s rfl).1
      rw [(tend_stay he hp).1, (tend_stay he hp).2]
      exact ⟨hk, hk⟩
    · exact h.cl t ht (fun e' => e (by injection e')) p hp, by simp⟩
theorem TKnow.all {hs : List (List Ln)} {known pre : List TS} {i : Nat} (h : TKnow hs known pre [] none i) (s : TS) : s ∈ pre ↔ TReach hs s := by
  have he : known = pre := by rw [h.eq, List.append_nil]
  subst he
  constructor
  · exact h.rch s
  · intro hr
    induction hr with
    | start => exact h.st
    | step _ hp ih => exact (h.cl _ ih (by simp) _ hp).1
    | come _ hp ih => exact (h.cl _ ih (by simp) _ hp).2

/-! ### What is told -/
def toldsT (words : Int) (hs : List (List Ln)) (pre : List TS) : List (List Int) := (pre.filter (tEndB hs)).map fun s => toldOf hs words (e16 s)
theorem toldsT_yes {words : Int} {hs : List (List Ln)} {pre : List TS} {s : TS} (h : tEndB hs s = true) : toldsT words hs (pre ++ [s]) = toldsT words hs pre ++ [toldOf hs words (e16 s)] := by simp [toldsT, h]
theorem toldsT_no {words : Int} {hs : List (List Ln)} {pre : List TS} {s : TS} (h : tEndB hs s = false) : toldsT words hs (pre ++ [s]) = toldsT words hs pre := by simp [toldsT, h]
theorem toldsT_length {words : Int} {hs : List (List Ln)} {pre : List TS} : (toldsT words hs pre).length ≤ pre.length := by rw [toldsT, List.length_map]; exact List.length_filter_le ..
theorem tresults_of {words : Int} {hs : List (List Ln)} (hW : Well words hs) {known pre : List TS} {i : Nat} (hk : TKnow hs known pre [] none i) {ts : List (List Int)} (hp : ts.Perm (toldsT words hs pre)) (hso : ts.Pairwise fun a b => 0 ≤ cmpL b a) : TsoOf words hs ts := by
  have hx := hk.all
  have hnd : pre.Nodup := by have h1 := hk.nd; rwa [hk.eq, List.append_nil] at h1
  have hmem : ∀ t, t ∈ ts ↔ TTold words hs t := fun t => by
    rw [hp.mem_iff, toldsT, List.mem_map]
    constructor
    · rintro ⟨s, hs', rfl⟩
      rw [List.mem_filter] at hs'
      have hr := (hx s).1 hs'.1
      exact ⟨s, hr, (tEndB_iff hW (hr.ok hW)).1 hs'.2, rfl⟩
    · rintro ⟨s, h1, h2, h3⟩
      exact ⟨s, List.mem_filter.2 ⟨(hx s).2 h1, (tEndB_iff hW (h1.ok hW)).2 h2⟩, h3⟩
  have hnd2 : (toldsT words hs pre).Nodup := by
    unfold toldsT List.Nodup
    rw [List.pairwise_map]
    refine List.Pairwise.imp_of_mem ?_ (hnd.filter (tEndB hs))
    intro a b ha hb hne he
    rw [List.mem_filter] at ha hb
    have oa := ((hx a).1 ha.1).ok hW
    have ob := ((hx b).1 hb.1).ok hW
    exact hne (e49_inj hW oa ob (ttold_inj hW oa ob ((tEndB_iff hW oa).1 ha.2) ((tEndB_iff hW ob).1 hb.2) he))
  have hnd3 : ts.Nodup := hp.nodup_iff.2 hnd2
  have hlen : ∀ t ∈ ts, t.length = hs.length * 2 + words.toNat := fun t ht => by
    obtain ⟨s, _, _, rfl⟩ := (hmem t).1 ht
    exact toldOf_length
  refine ⟨List.Pairwise.imp_of_mem ?_ (List.Pairwise.and hso hnd3), hmem⟩
  intro a b ha hb ⟨h1, h2⟩
  have hl : a.length = b.length := by rw [hlen a ha, hlen b hb]
  rcases lessL_total hl with h | h | h
  · exact absurd h h2
  · exact h
  · exact absurd ((cmpL_less hl.symm).2 h) (by omega)
end Go.Proofs.YthpnnmkpbkbanaaDoor
