/-
  Where what is stored waits it does not matter who is called first.
-/
import Derived.Test.YtbbecncelehlkaaTsoRace
namespace Go.Proofs.Ytbbecncelehlkaa

def sg (p : Nat) : Nat := if p = 0 then 1 else if p = 1 then 0 else p
theorem sg_sg (p : Nat) : sg (sg p) = p := by
  unfold sg
  by_cases h0 : p = 0
  · subst h0; rfl
  · by_cases h1 : p = 1
    · subst h1; rfl
    · simp only [if_neg h0, if_neg h1]
theorem sg_two {p : Nat} (h : p < 2) : sg p = 1 - p := by
  have : p = 0 ∨ p = 1 := by omega
  rcases this with rfl | rfl <;> rfl
/-- The state with the two hands the other way round. -/
def swT (s : TS) : TS := ⟨fun p => s.o (sg p), s.w⟩
theorem upd_sg {α : Type} (f : Nat → α) (p : Nat) (x : α) : (fun j => upd f p x (sg j)) = upd (fun j => f (sg j)) (sg p) x := by
  funext j
  by_cases h : j = sg p
  · subst h; rw [upd_same, sg_sg, upd_same]
  · rw [upd_other h, upd_other (fun e => h (by rw [← e, sg_sg]))]
theorem swT_stp {hs hs' : List (List Ln)} (h2 : Sw2 hs hs') (s : TS) {p : Nat} (hp : p < hs.length) : tstp hs' (swT s) (sg p) = swT (tstp hs s p) := by
  have hl := h2.len
  have e := h2.at_ (p := p) (by omega)
  unfold tstp swT
  dsimp only
  rw [sg_sg, sg_two (p := p) (by omega), e, ← sg_two (p := p) (by omega), upd_sg]
theorem swT_come (s : TS) (p : Nat) : tcom (swT s) (sg p) = swT (tcom s p) := by
  unfold tcom swT
  dsimp only
  rw [sg_sg]
  split
  · rfl
  · rw [upd_sg]
theorem swT_reach {hs hs' : List (List Ln)} (h2 : Sw2 hs hs') {s : TS} (h : TReach hs s) : TReach hs' (swT s) := by
  have hl := h2.len
  have hl' := h2.len'
  induction h with
  | start => exact .start
  | step _ hp ih =>
    rw [← swT_stp h2 _ hp]
    exact .step ih (by rw [sg_two (by omega)]; omega)
  | come _ hp ih =>
    rw [← swT_come]
    exact .come ih (by rw [sg_two (by omega)]; omega)
theorem swT_end {hs hs' : List (List Ln)} (h2 : Sw2 hs hs') {s : TS} (h : TEnd hs s) : TEnd hs' (swT s) := by
  have hl := h2.len
  have hl' := h2.len'
  intro q hq
  have h1 := h (1 - q) (by omega)
  have e2 := h2.at_ (p := 1 - q) (by omega)
  have e1 : (1 - (1 - q)) = q := by omega
  rw [e1] at e2
  unfold swT
  dsimp only
  rw [e2, sg_two (by omega)]
  exact h1
theorem swT_told {hs hs' : List (List Ln)} (h2 : Sw2 hs hs') (words : Int) (s : TS) : toldOf hs' words (e16 (swT s)) = turnT (toldOf hs words (e16 s)) := by
  rw [told_two h2.len', told_two h2.len]
  have e : wordsOf (e16 (swT s)) words.toNat = wordsOf (e16 s) words.toNat := by
    unfold wordsOf
    apply List.map_congr_left
    intro i _
    rcases Nat.lt_or_ge i 4 with hi | hi
    · rw [e16_w _ hi, e16_w _ hi]; rfl
    · rw [List.getD_eq_getElem?_getD, List.getD_eq_getElem?_getD, List.getElem?_eq_none_iff.2 (by rw [e16_length]; omega), List.getElem?_eq_none_iff.2 (by rw [e16_length]; omega)]
  rw [e]
  rfl
theorem turn_tso {words : Int} {hs hs' : List (List Ln)} (h2 : Sw2 hs hs') {ts us : List (List Int)} (h : TsoOf words hs ts) (h' : TsoOf words hs' us) {t : List Int} (ht : t ∈ ts) : turnT t ∈ us := by
  obtain ⟨s, hr, he, rfl⟩ := (h.2 t).1 ht
  exact (h'.2 _).2 ⟨swT s, swT_reach h2 hr, swT_end h2 he, swT_told h2 words s⟩
theorem tso_len {words : Int} {hs : List (List Ln)} {ts : List (List Int)} (h : TsoOf words hs ts) {t : List Int} (ht : t ∈ ts) : t.length = hs.length * 2 + words.toNat := by
  obtain ⟨s, _, _, rfl⟩ := (h.2 t).1 ht
  exact toldOf_length
theorem turn_tso_le {words : Int} {hs hs' : List (List Ln)} (h2 : Sw2 hs hs') {ts us : List (List Int)} (h : TsoOf words hs ts) (h' : TsoOf words hs' us) : ts.length ≤ us.length := by
  have hl := h2.len
  exact inj_length turnT h.1.nodup (fun x hx y hy => turnT_inj (by rw [tso_len h hx]; omega) (by rw [tso_len h hy]; omega)) fun x hx => turn_tso h2 h h' hx
theorem turn_tso_length {words : Int} {hs hs' : List (List Ln)} (h2 : Sw2 hs hs') {ts us : List (List Int)} (h : TsoOf words hs ts) (h' : TsoOf words hs' us) : ts.length = us.length :=
  Nat.le_antisymm (turn_tso_le h2 h h') (turn_tso_le h2.symm h' h)
end Go.Proofs.Ytbbecncelehlkaa
