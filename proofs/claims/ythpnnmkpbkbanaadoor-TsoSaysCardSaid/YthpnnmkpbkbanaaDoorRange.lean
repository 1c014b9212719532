/-
  A range over a function whose rounds own memory: what the rounds own is named, so that the function that is ranged over may have memory of its own, and write it between two rounds.
-/
import Derived.Test.YthpnnmkpbkbanaaDoorTouch
import Derived.RangeFuncIn
import Derived.RangeFuncRecord
import Derived.RangeFuncSeq
import Derived.ControlIn
namespace Go.Proofs.YthpnnmkpbkbanaaDoor
open Go.RowKit
variable {P : Program}

/-- What is said of what the rounds own: it stands while no block of theirs turns, and none that nobody may turn; their blocks are there. -/
structure Owns (okB : Nat → Prop) (J : (Nat → Prop) → World → Prop) : Prop where
  stays : ∀ O O' A A', J O A → Touch O' A A' → (∀ k, O k → ¬ O' k) → (∀ k, O' k → okB k) → J O A'
  there : ∀ O A, J O A → ∀ k, O k → k < A.heap.size

/-- A round that goes on, or says 'no more'. -/
def RoundSays {α : Type} (J : List α → (Nat → Prop) → World → Prop) (Jx : List α → World → Prop) (O : Nat → Prop) (pre : List α) (x : α) (W : World) (e : Ending) (W' : World) : Prop :=
  (e = .returned (.bool true) ∧ ∃ O', J (pre ++ [x]) O' W' ∧ Touch O W W' ∧ ∀ k, O' k → O k ∨ W.heap.size ≤ k) ∨ (e = .returned (.bool false) ∧ Jx (pre ++ [x]) W')

/-- How the body of a round may be left. -/
def leftBy {α : Type} (I : List α → (Nat → Prop) → World → Prop) (Ix : Code → List α → (Nat → Prop) → World → Prop) (O : Nat → Prop) (xs : List α) (W : World) : Exit → Act → World → Prop
  | .normal, _, W' => ∃ O', I xs O' W' ∧ Touch O W W' ∧ ∀ k, O' k → O k ∨ W.heap.size ≤ k
  | .ret, _, W' => ∃ O', Ix .ret xs O' W' ∧ Touch O W W' ∧ ∀ k, O' k → O k ∨ W.heap.size ≤ k
  | .exit id, _, W' => ∃ O', Ix (.exit id) xs O' W' ∧ Touch O W W' ∧ ∀ k, O' k → O k ∨ W.heap.size ≤ k
  | .goto _, _, _ => False
  | .panic _, _, _ => False
  | .outgrown, _, _ => False

theorem touch_putObj {O : Nat → Prop} {a b : World} (h : Touch O a b) {l : Nat} (hl : O l ∨ a.heap.size ≤ l) (o : Obj) : Touch O a (b.putObj l o) :=
  h.trans (O' := fun k => k = l) ⟨rfl, rfl, rfl, by simp, fun k _ hk => World.putObj_heap_other hk⟩ fun _ h' => by rw [h']; exact hl

theorem touch_one (W : World) (l : Nat) (o : Obj) : Touch (fun k => k = l) W (W.putObj l o) := touch_putObj (O := fun k => k = l) (Touch.refl _ W) (Or.inl rfl) o

/-- THE STATEMENT. -/
theorem range_owned {α : Type} {g : Operand} {ps : Array Tmp} {assign body : Code} {Q : Exit → Act → World → Prop} {a : Act} {w : World}
    {gf : Nat} {lb : Array Value} (hg : a.eval g = .func (.func gf) #[] lb) (eg : ∀ args w, (callFunc gf args).run P w = .ok (.enter gf args) w)
    (encs : α → Array Value) (hps : ∀ x, (encs x).size = ps.size)
    (good : List α → α → Prop) (Done : List α → Prop) (Part : List α → Prop)
    (I : List α → (Nat → Prop) → World → Prop) (Ix : Code → List α → (Nat → Prop) → World → Prop) (okB : Nat → Prop) (hI : ∀ xs, Owns okB (I xs)) (hIx : ∀ c xs, Owns okB (Ix c xs)) (O0 : Nat → Prop) (h0 : I [] O0 w)
    (hok : ∀ xs O A, I xs O A → ∀ k, O k → okB k) (hokN : ∀ k, w.heap.size ≤ k → okB k)
    (hseq : ∀ (l : Nat) (J : List α → (Nat → Prop) → World → Prop) (Jx : List α → World → Prop) (O1 : Nat → Prop) (W : World), (∀ xs, Owns okB (J xs)) → (∀ xs O A, J xs O A → ∀ k, O k → okB k) → Touch (fun _ => False) w W → l < W.heap.size → (∀ k, O1 k → O0 k ∨ w.heap.size ≤ k) →
      (∀ O pre x W1, J pre O W1 → good pre x → YieldAt Fence.wide 0 P l (encs x) W1 (RoundSays J Jx O pre x W1)) → J [] O1 W →
      Calls P gf (#[.func (.yield l) #[] #[]] ++ lb) W fun e W' => (∃ v, e = .returned v) ∧ ((∃ xs O, Done xs ∧ J xs O W') ∨ (∃ pre, Part pre ∧ Jx pre W')))
    (A : α → Nat → Act → World → Prop) (hA : ∀ x Bx a1 W1 W2 l, A x Bx a1 W1 → Touch (fun k => k = l) W1 W2 → l ≠ Bx → A x Bx a1 W2)
    (hassign : ∀ (l : Nat) (O : Nat → Prop) (pre : List α) (x : α) (W : World) (K : Act → World → Prop), I pre O W → good pre x → (∀ Bx a1 W1, Touch (fun _ => False) W W1 → W.heap.size ≤ Bx → A x Bx a1 W1 → K a1 W1) →
      assign.wpIn (Fence.wide.inRound l) 0 P (Exit.then K (fun _ _ _ => False)) { tmps := (ps.zip (encs x)).foldl (fun t (p, v) => t.setIfInBounds p v) a.tmps, defers := [] } W)
    (hbody : ∀ (l : Nat) (O : Nat → Prop) (pre : List α) (x : α) (Bx : Nat) (a1 : Act) (W : World), I pre O W → good pre x → A x Bx a1 W → ¬ O Bx → body.wpIn (Fence.wide.inRound l) 0 P (leftBy I Ix O (pre ++ [x]) W) a1 W)
    (hdone : ∀ (D : Nat) (xs : List α) (O : Nat → Prop) (W : World), w.heap.size ≤ D → Done xs → I xs O W → ¬ O D → W.heap[D]? = some (.deferred (some [])) → Q .normal { a with defers := { target := .collected D, args := #[] } :: a.defers } W)
    (hstop : ∀ (D : Nat) (c : Code) (pre : List α) (O : Nat → Prop) (W : World), w.heap.size ≤ D → Part pre → Ix c pre O W → ¬ O D → W.heap[D]? = some (.deferred (some [])) → c.wpIn Fence.wide 0 P Q { a with defers := { target := .collected D, args := #[] } :: a.defers } W) :
    (Code.rangeFunc g ps assign body).wp P Q a w := by
  refine wpIn_wide.1 (wpIn_rangeFunc (F := Fence.wide) (n := 0) ?_)
  intro fn _
  obtain ⟨rec, hrec⟩ : ∃ rec : LoopState → Option Code → Loop, rec = fun st pe => { state := st, pending := pe, fn, tmps := a.tmps, params := ps, assign, body, defers := w.heap.size } := ⟨_, rfl⟩
  obtain ⟨W1, hW1⟩ : ∃ W1, W1 = (w.alloc (.deferred (some []))).alloc (.loop (rec .ready none)) := ⟨_, rfl⟩
  have hT1 : Touch (fun _ => False) w W1 := by rw [hW1]; exact ((Touch.refl _ w).alloc _).alloc _
  have hs1 : W1.heap.size = w.heap.size + 2 := by rw [hW1]; simp
  have hD1 : W1.heap[w.heap.size]? = some (.deferred (some [])) := by rw [hW1]; exact (Below.heap_alloc _ _ _ (by simp)).trans (World.alloc_heap_new w _)
  have hL1 : W1.heap[w.heap.size + 1]? = some (.loop (rec .ready none)) := by
    have := World.alloc_heap_new (w.alloc (.deferred (some []))) (.loop (rec .ready none))
    rw [World.size_alloc] at this
    rw [hW1]; exact this
  refine ⟨w.heap.size + 1, [{ target := .collected w.heap.size, args := #[] }], W1, { target := .fn (.func gf) lb, args := #[.func (.yield (w.heap.size + 1)) #[] #[]] }, W1, gf, #[.func (.yield (w.heap.size + 1)) #[] #[]] ++ lb, W1, ?_, ?_, fun _ _ => trivial, ?_, (fun h => by cases h), callsIn_wide.2 ?_⟩
  · rw [hW1, hrec]; exact run_enterLoop_outer _ _ _ _ _
  · simp only [resolve, hg]
    simp [go_sem]
  · simp [invoke, go_sem, eg]
  -- what the rounds own, with the record and the block for deferred calls
  let own : (Nat → Prop) → (Nat → Prop) := fun O k => O k ∨ k = w.heap.size ∨ k = w.heap.size + 1
  have hO0 : ∀ k, O0 k → k < w.heap.size := (hI []).there _ _ h0
  refine (hseq (w.heap.size + 1)
    (fun pre O' W => ∃ O, O' = own O ∧ I pre O W ∧ ¬ O w.heap.size ∧ ¬ O (w.heap.size + 1) ∧ W.heap[w.heap.size + 1]? = some (.loop (rec .ready none)) ∧ W.heap[w.heap.size]? = some (.deferred (some [])))
    (fun pre W => ∃ c O, Ix c pre O W ∧ ¬ O w.heap.size ∧ ¬ O (w.heap.size + 1) ∧ W.heap[w.heap.size + 1]? = some (.loop (rec .done (some c))) ∧ W.heap[w.heap.size]? = some (.deferred (some [])))
    (own O0) W1 ?_ ?_ hT1 (by omega) ?_ ?_ ?_).mono ?_
  · intro xs
    refine ⟨?_, ?_⟩
    · rintro _ O' A A' ⟨O, rfl, h1, h2, h3, h4, h5⟩ ht hno hbo
      exact ⟨O, rfl, (hI xs).stays O O' A A' h1 ht (fun k hk => hno k (Or.inl hk)) hbo, h2, h3, (ht.block _ (Array.getElem?_eq_some_iff.1 h4).1 (hno _ (Or.inr (Or.inr rfl)))).trans h4, (ht.block _ (Array.getElem?_eq_some_iff.1 h5).1 (hno _ (Or.inr (Or.inl rfl)))).trans h5⟩
    · rintro _ A ⟨O, rfl, h1, h2, h3, h4, h5⟩ k hk
      rcases hk with hk | rfl | rfl
      · exact (hI xs).there O A h1 k hk
      · exact (Array.getElem?_eq_some_iff.1 h5).1
      · exact (Array.getElem?_eq_some_iff.1 h4).1
  · rintro xs _ A ⟨O, rfl, h1, h2, h3, h4, h5⟩ k hk
    rcases hk with hk | rfl | rfl
    · exact hok xs O A h1 k hk
    · exact hokN _ (Nat.le_refl _)
    · exact hokN _ (by omega)
  · rintro k (hk | rfl | rfl)
    · exact Or.inl hk
    · exact Or.inr (Nat.le_refl _)
    · exact Or.inr (by omega)
  · -- a round
    rintro O' pre x W ⟨O, rfl, hi, hn1, hn2, hl, hk⟩ hx
    have hlt : w.heap.size + 1 < W.heap.size := (Array.getElem?_eq_some_iff.1 hl).1
    have hy := run_yield (P := P) (args := encs x) hl (by rw [hrec]; exact hps x)
    rw [hrec] at hy
    refine ⟨fn, _, assign, body, hy, roundIn_of_wpIn trivial (hassign _ O pre x W _ hi hx ?_)⟩
    intro Bx a1 Wa hta hBx hAx
    have hla : Wa.heap[w.heap.size + 1]? = some (.loop (rec .ready none)) := (hta.block _ hlt (fun h => h)).trans hl
    have hka : Wa.heap[w.heap.size]? = some (.deferred (some [])) := (hta.block _ (by omega) (fun h => h)).trans hk
    have hia : I pre O Wa := (hI pre).stays O _ W Wa hi hta (fun _ _ h => h) (fun _ h => h.elim)
    have hOlt := (hI pre).there O W hi
    have hsa := hta.size
    refine ⟨_, run_beginRound hla (by rw [hrec]), ?_⟩
    obtain ⟨V, hV⟩ : ∃ V, V = Wa.putObj (w.heap.size + 1) (.loop { rec .ready none with state := .busy }) := ⟨_, rfl⟩
    rw [← hV]
    have hTV : Touch (fun k => k = w.heap.size + 1) Wa V := by rw [hV]; exact touch_one Wa _ _
    have hl2 : V.heap[w.heap.size + 1]? = some (.loop { rec .ready none with state := .busy }) := by rw [hV]; exact World.putObj_heap_same (by omega)
    have hk2 : V.heap[w.heap.size]? = some (.deferred (some [])) := by rw [hV]; exact (World.putObj_heap_other (by omega)).trans hka
    have hVW : V.heap.size = Wa.heap.size := by rw [hV]; simp
    have hokL : ∀ k, k = w.heap.size + 1 → okB k := fun k hk => hokN k (by omega)
    have hiV : I pre O V := (hI pre).stays O _ Wa V hia hTV (fun k h1 h2 => hn2 (h2 ▸ h1)) hokL
    refine wpIn_mono (hbody _ O pre x Bx a1 V hiV hx (hA _ _ _ _ _ _ hAx hTV (by omega)) (fun h => by have := hOlt _ h; omega)) ?_
    -- the round's end
    have fin : ∀ (jump : Option Code) (W3 : World), Touch O V W3 →
        ∃ W4, (Instr.endRound (w.heap.size + 1) jump).run P W3 = .ok (.bool jump.isNone) W4 ∧ Touch (fun k => k = w.heap.size + 1) W3 W4 ∧
        W4.heap[w.heap.size + 1]? = some (.loop (rec (if jump.isNone then .ready else .done) jump)) ∧ W4.heap[w.heap.size]? = some (.deferred (some [])) ∧ Touch (own O) W W4 := fun jump W3 ht => by
      have hl3 : W3.heap[w.heap.size + 1]? = some (.loop { rec .ready none with state := .busy }) := (ht.block _ (by omega) hn2).trans hl2
      have hk3 : W3.heap[w.heap.size]? = some (.deferred (some [])) := (ht.block _ (by omega) hn1).trans hk2
      have h := run_endRound (P := P) jump hl3
      refine ⟨_, h, touch_one W3 _ _, ?_, (World.putObj_heap_other (by omega)).trans hk3, ?_⟩
      · rw [World.putObj_heap_same (Array.getElem?_eq_some_iff.1 hl3).1, hrec]
      · exact touch_putObj ((((hta.mono (O' := own O) fun k hk => hk.elim).trans hTV fun k hk => Or.inl (Or.inr (Or.inr hk))).trans ht fun k hk => Or.inl (Or.inl hk))) (Or.inl (Or.inr (Or.inr rfl))) _
    have away : ∀ O' : Nat → Prop, (∀ k, O' k → O k ∨ V.heap.size ≤ k) → ¬ O' w.heap.size ∧ ¬ O' (w.heap.size + 1) := fun O' h => by
      refine ⟨fun h1 => ?_, fun h1 => ?_⟩
      · rcases h _ h1 with h2 | h2
        · exact hn1 h2
        · omega
      · rcases h _ h1 with h2 | h2
        · exact hn2 h2
        · omega
    rintro e a3 W3 hp
    cases e with
    | normal =>
      obtain ⟨O', hi3, ht3, ho3⟩ := hp
      obtain ⟨W4, hr, ht4, hl4, hk4, htt⟩ := fin none W3 ht3
      obtain ⟨q1, q2⟩ := away O' ho3
      refine ⟨_, W4, hr, Or.inl ⟨rfl, own O', ⟨O', rfl, (hI _).stays O' _ W3 W4 hi3 ht4 (fun k h1 h2 => q2 (h2 ▸ h1)) hokL, q1, q2, hl4, hk4⟩, htt, ?_⟩⟩
      rintro k (h1 | h1)
      · rcases ho3 k h1 with h2 | h2
        · exact Or.inl (Or.inl h2)
        · exact Or.inr (by omega)
      · exact Or.inl (Or.inr h1)
    | ret =>
      obtain ⟨O', hi3, ht3, ho3⟩ := hp
      obtain ⟨W4, hr, ht4, hl4, hk4, _⟩ := fin (some .ret) W3 ht3
      obtain ⟨q1, q2⟩ := away O' ho3
      exact ⟨_, W4, hr, Or.inr ⟨rfl, .ret, O', (hIx _ _).stays O' _ W3 W4 hi3 ht4 (fun k h1 h2 => q2 (h2 ▸ h1)) hokL, q1, q2, hl4, hk4⟩⟩
    | exit id =>
      obtain ⟨O', hi3, ht3, ho3⟩ := hp
      obtain ⟨W4, hr, ht4, hl4, hk4, _⟩ := fin (some (.exit id)) W3 ht3
      obtain ⟨q1, q2⟩ := away O' ho3
      exact ⟨_, W4, hr, Or.inr ⟨rfl, .exit id, O', (hIx _ _).stays O' _ W3 W4 hi3 ht4 (fun k h1 h2 => q2 (h2 ▸ h1)) hokL, q1, q2, hl4, hk4⟩⟩
    | goto t => exact hp.elim
    | panic ch => exact hp.elim
    | outgrown => exact hp.elim
  · exact ⟨O0, rfl, (hI []).stays O0 _ w W1 h0 hT1 (fun _ _ h => h) (fun _ h => h.elim), fun h => by have := hO0 _ h; omega, fun h => by have := hO0 _ h; omega, hL1, hD1⟩
  · -- behind the call
    rintro e W2 ⟨⟨v, rfl⟩, (⟨xs, _, hd, O, rfl, hi, hn1, hn2, hl, hk⟩ | ⟨pre, hd, c, O, hi, hn1, hn2, hl, hk⟩)⟩
    · refine ⟨none, _, by have := run_endLoop (P := P) hl (by rw [hrec]; simp); rw [hrec] at this; exact this, hdone _ xs O _ (Nat.le_refl _) hd ((hI _).stays O _ _ _ hi (touch_one _ (w.heap.size + 1) _) (fun k h1 h2 => hn2 (h2 ▸ h1)) fun k hk => hokN k (by omega)) hn1 ((World.putObj_heap_other (by omega)).trans hk)⟩
    · refine ⟨some c, _, by have := run_endLoop (P := P) hl (by rw [hrec]; simp); rw [hrec] at this; exact this, hstop _ c pre O _ (Nat.le_refl _) hd ((hIx _ _).stays O _ _ _ hi (touch_one _ (w.heap.size + 1) _) (fun k h1 h2 => hn2 (h2 ▸ h1)) fun k hk => hokN k (by omega)) hn1 ((World.putObj_heap_other (by omega)).trans hk)⟩
end Go.Proofs.YthpnnmkpbkbanaaDoor
