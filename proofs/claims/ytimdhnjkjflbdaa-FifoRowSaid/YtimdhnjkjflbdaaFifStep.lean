/-
  Chapter 16 as plain mathematics: a step keeps what is always so.
-/
import Derived.Test.YtimdhnjkjflbdaaFifMath
namespace Go.Proofs.Ytimdhnjkjflbdaa
theorem fgstp_eq {g : FG} {p i' j' : Nat} {b' : FH} (e1 : fone g.v p = b') (e2 : ¬ ((g.v.h p).a = 3 ∧ g.v.nx (g.v.h p).t = 0)) (e3 : fhd g.v p = g.o i') (e4 : ftl g.v p = g.o j')
    (e5 : (if (g.v.h p).a = 10 ∧ g.v.hd = (g.v.h p).h then g.i + 1 else g.i) = i')
    (e6 : (if ((g.v.h p).a = 4 ∨ (g.v.h p).a = 9 ∨ (g.v.h p).a = 5) ∧ g.v.tl = (g.v.h p).t then g.j + 1 else g.j) = j') :
    fgstp g p = ⟨⟨fput g.v.h p b', g.v.nx, g.v.k, g.o i', g.o j'⟩, g.o, g.m, i', j', g.by'⟩ := by
  unfold fgstp fstp fnx
  simp only [if_neg e2, e1, e3, e4, e5, e6]
section
variable {n : Nat} {g : FG} (k : FOk n g)
include k
/-- The words are further on, maybe; the queue is the same. -/
theorem FOk.turn {p i' j' : Nat} {b' : FH} (hi : g.i ≤ i') (hj : g.j ≤ j') (hij : i' ≤ j') (hjm : j' ≤ g.m) (hb : FHk g.o g.m i' j' g.v.k b')
    (he : 1 ≤ b'.a ∧ b'.a ≤ 5 → b'.e = (g.v.h p).e ∧ 1 ≤ (g.v.h p).a ∧ (g.v.h p).a ≤ 5) : FOk n ⟨⟨fput g.v.h p b', g.v.nx, g.v.k, g.o i', g.o j'⟩, g.o, g.m, i', j', g.by'⟩ := by
  refine ⟨k.o0, k.ok, k.oi, k.nx, k.nl, k.nu, rfl, rfl, hij, hjm, fun q hq => ?_, fun q hq h => ?_, k.sb, k.k1⟩
  · show FHk g.o g.m i' j' g.v.k (fput g.v.h p b' q)
    by_cases e : q = p
    · rw [e, fput_same]; exact hb
    · rw [fput_other e]
      exact (k.hk q hq).more (Nat.le_refl _) hi hj k.jm (by omega) (fun y _ => rfl) fun _ y h1 h2 => by omega
  · show (fput g.v.h p b' q).e < g.v.k ∧ g.by' (fput g.v.h p b' q).e = q ∧ ∀ d, d < g.v.k → 1 ≤ d → g.by' d = q → d ≤ (fput g.v.h p b' q).e
    have h : 1 ≤ (fput g.v.h p b' q).a ∧ (fput g.v.h p b' q).a ≤ 5 := h
    by_cases e : q = p
    · rw [e, fput_same] at h ⊢
      obtain ⟨h1, h2⟩ := he h
      rw [h1]; rw [e] at hq; exact k.ek p hq h2
    · rw [fput_other e] at h ⊢; exact k.ek q hq h
/-- Its node comes behind the last one. -/
theorem FOk.link {p : Nat} (hp : p < n) (h3 : (g.v.h p).a = 3) (h0 : g.v.nx (g.v.h p).t = 0) : FOk n (fgstp g p) := by
  have K := k.hk p hp
  have hij := k.ij
  have hjm := k.jm
  have own := K.own ⟨by omega, by omega⟩
  obtain ⟨e1, e2, e3⟩ := k.ek p hp ⟨by omega, by omega⟩
  obtain ⟨y0, hy0, ht⟩ := K.tt ⟨by omega, by omega⟩
  have hym : y0 = g.m := by
    rcases Nat.lt_or_ge y0 g.m with h | h
    · have := k.nx y0 h
      rw [← ht, h0] at this; omega
    · omega
  rw [hym] at ht
  have eF : fgstp g p = ⟨⟨fput g.v.h p (fto (g.v.h p) 5), fput g.v.nx (g.v.h p).t ((g.v.h p).e + 1), g.v.k, g.v.hd, g.v.tl⟩, fput g.o (g.m + 1) (g.v.h p).e, g.m + 1, g.i, g.j, g.by'⟩ := by
    have f1 : fone g.v p = fto (g.v.h p) 5 := by unfold fone; rw [if_neg (by omega), if_neg (by omega), if_pos h3, if_pos h0]
    have f2 : fhd g.v p = g.v.hd := if_neg fun h => by omega
    have f3 : ftl g.v p = g.v.tl := by unfold ftl; rw [if_neg fun h => by omega, if_neg fun h => by omega]
    have f4 : (if (g.v.h p).a = 10 ∧ g.v.hd = (g.v.h p).h then g.i + 1 else g.i) = g.i := if_neg fun h => by omega
    have f5 : (if ((g.v.h p).a = 4 ∨ (g.v.h p).a = 9 ∨ (g.v.h p).a = 5) ∧ g.v.tl = (g.v.h p).t then g.j + 1 else g.j) = g.j := if_neg fun h => by omega
    unfold fgstp fstp fnx
    simp only [if_pos (And.intro h3 h0), f1, f2, f3, f4, f5]
  rw [eF]
  have ho : ∀ y, y ≤ g.m → fput g.o (g.m + 1) (g.v.h p).e y = g.o y := fun y hy => fput_other (by omega)
  have hn : fput g.o (g.m + 1) (g.v.h p).e (g.m + 1) = (g.v.h p).e := fput_same _ _ _
  have het : (g.v.h p).e ≠ (g.v.h p).t := fun e => own g.m (Nat.le_refl _) (by rw [← ht]; exact e.symm)
  refine ⟨?_, fun y hy => ?_, fun y z hy hz e => ?_, fun y hy => ?_, ?_, fun d hd => ?_, ?_, ?_, hij, by show g.j ≤ g.m + 1; omega, fun q hq => ?_, fun q hq h => ?_, fun y z h1 h2 h3 h4 => ?_, k.k1⟩
  · show fput g.o (g.m + 1) (g.v.h p).e 0 = 0
    rw [ho 0 (Nat.zero_le _)]; exact k.o0
  · show fput g.o (g.m + 1) (g.v.h p).e y < _
    have hy : y ≤ g.m + 1 := hy
    by_cases e : y = g.m + 1
    · rw [e, hn]; exact e1
    · rw [ho y (by omega)]; exact k.ok y (by omega)
  · have hy : y ≤ g.m + 1 := hy
    have hz : z ≤ g.m + 1 := hz
    have e : fput g.o (g.m + 1) (g.v.h p).e y = fput g.o (g.m + 1) (g.v.h p).e z := e
    by_cases a1 : y = g.m + 1
    · by_cases a2 : z = g.m + 1
      · omega
      · rw [a1, hn, ho z (by omega)] at e
        exact absurd e.symm (own z (by omega))
    · by_cases a2 : z = g.m + 1
      · rw [a2, hn, ho y (by omega)] at e
        exact absurd e (own y (by omega))
      · rw [ho y (by omega), ho z (by omega)] at e
        exact k.oi y z (by omega) (by omega) e
  · have hy : y < g.m + 1 := hy
    show fput g.v.nx (g.v.h p).t ((g.v.h p).e + 1) (fput g.o (g.m + 1) (g.v.h p).e y) = fput g.o (g.m + 1) (g.v.h p).e (y + 1) + 1
    rw [ho y (by omega)]
    by_cases a1 : y = g.m
    · rw [a1, hn, ← ht, fput_same]
    · rw [ho (y + 1) (by omega), fput_other]
      · exact k.nx y (by omega)
      · rw [ht]; exact fun e => a1 (k.oi y g.m (by omega) (Nat.le_refl _) e)
  · show fput g.v.nx (g.v.h p).t ((g.v.h p).e + 1) (fput g.o (g.m + 1) (g.v.h p).e (g.m + 1)) = 0
    rw [hn, fput_other het]
    exact k.nu _ own
  · show fput g.v.nx (g.v.h p).t ((g.v.h p).e + 1) d = 0
    have hd : ∀ y, y ≤ g.m + 1 → fput g.o (g.m + 1) (g.v.h p).e y ≠ d := hd
    have hd' : ∀ y, y ≤ g.m → g.o y ≠ d := fun y hy => by have := hd y (by omega); rw [ho y hy] at this; exact this
    rw [fput_other fun e => hd' g.m (Nat.le_refl _) (by rw [← ht]; exact e.symm)]
    exact k.nu d hd'
  · show g.v.hd = fput g.o (g.m + 1) (g.v.h p).e g.i
    rw [ho _ (by omega)]; exact k.hd
  · show g.v.tl = fput g.o (g.m + 1) (g.v.h p).e g.j
    rw [ho _ (by omega)]; exact k.tl
  · show FHk (fput g.o (g.m + 1) (g.v.h p).e) (g.m + 1) g.i g.j g.v.k (fput g.v.h p _ q)
    by_cases e : q = p
    · rw [e, fput_same]
      refine ⟨(by omega : 5 ≤ 10), fun h => by have : 5 ≤ 4 := h.2; omega, fun _ => ⟨y0, hy0, ?_⟩, fun h => by have : (5 : Nat) = 4 := h; omega, fun _ => ⟨g.m, Nat.lt_succ_self _, ?_, ?_⟩, fun h => by have : 7 ≤ 5 := h; omega, fun h => by have : (5 : Nat) = 9 := h; omega, fun h => by have : (5 : Nat) = 10 := h; omega⟩
      · show (g.v.h p).t = _
        rw [ho _ (by omega), hym]; exact ht
      · show (g.v.h p).t = _
        rw [ho _ (Nat.le_refl _)]; exact ht
      · show (g.v.h p).e = _
        rw [hn]
    · rw [fput_other e]
      refine (k.hk q hq).more (Nat.le_succ _) (Nat.le_refl _) (Nat.le_refl _) hjm (by omega) ho fun h y h1 h2 => ?_
      rw [show y = g.m + 1 by omega, hn]
      intro e4
      have := (k.ek q hq ⟨h.1, by omega⟩).2.1
      rw [← e4, e2] at this
      exact e this.symm
  · show (fput g.v.h p _ q).e < g.v.k ∧ g.by' (fput g.v.h p _ q).e = q ∧ ∀ d, d < g.v.k → 1 ≤ d → g.by' d = q → d ≤ (fput g.v.h p _ q).e
    have h : 1 ≤ (fput g.v.h p _ q).a ∧ (fput g.v.h p _ q).a ≤ 5 := h
    by_cases e : q = p
    · rw [e, fput_same]; exact ⟨e1, e2, e3⟩
    · rw [fput_other e] at h ⊢; exact k.ek q hq h
  · have h3 : z ≤ g.m + 1 := h3
    have h4 : g.by' (fput g.o (g.m + 1) (g.v.h p).e y) = g.by' (fput g.o (g.m + 1) (g.v.h p).e z) := h4
    show fput g.o (g.m + 1) (g.v.h p).e y < fput g.o (g.m + 1) (g.v.h p).e z
    rw [ho y (by omega)] at h4 ⊢
    by_cases a : z = g.m + 1
    · rw [a, hn] at h4 ⊢
      rw [e2] at h4
      have b1 : g.o y ≠ 0 := fun e => by
        have := k.oi y 0 (by omega) (Nat.zero_le _) (by rw [e, k.o0])
        omega
      have b2 := e3 (g.o y) (k.ok y (by omega)) (by omega) h4
      have b3 := own y (by omega)
      omega
    · rw [ho z (by omega)] at h4 ⊢
      exact k.sb y z h1 h2 (by omega) h4
/-- A hand that does something steps. -/
theorem FOk.step {p : Nat} (hp : p < n) (hp0 : (g.v.h p).a ≠ 0) : FOk n (fgstp g p) := by
  have K := k.hk p hp
  have hij := k.ij
  have hjm := k.jm
  have hln := K.ln
  have no10 : (g.v.h p).a ≠ 10 → fhd g.v p = g.o g.i ∧ (if (g.v.h p).a = 10 ∧ g.v.hd = (g.v.h p).h then g.i + 1 else g.i) = g.i := fun h =>
    ⟨(if_neg fun e => h e.1).trans k.hd, if_neg fun e => h e.1⟩
  have no45 : (g.v.h p).a ≠ 4 ∧ (g.v.h p).a ≠ 9 ∧ (g.v.h p).a ≠ 5 ∨ g.v.tl ≠ (g.v.h p).t → ftl g.v p = g.o g.j ∧ (if ((g.v.h p).a = 4 ∨ (g.v.h p).a = 9 ∨ (g.v.h p).a = 5) ∧ g.v.tl = (g.v.h p).t then g.j + 1 else g.j) = g.j := fun h => by
    refine ⟨?_, if_neg fun e => ?_⟩
    · unfold ftl
      rw [if_neg fun e => ?_, if_neg fun e => ?_]
      · exact k.tl
      · rcases h with h | h
        · omega
        · exact h e.2
      · rcases h with h | h
        · omega
        · exact h e.2
    · rcases h with h | h
      · omega
      · exact h e.2
  have no3 : (g.v.h p).a ≠ 3 → ¬ ((g.v.h p).a = 3 ∧ g.v.nx (g.v.h p).t = 0) := fun h e => h e.1
  by_cases h1 : (g.v.h p).a = 1
  · have e1 : fone g.v p = ⟨2, (g.v.h p).e, g.v.tl, (g.v.h p).h, (g.v.h p).x⟩ := by unfold fone; rw [if_pos h1]
    rw [fgstp_eq e1 (no3 (by omega)) (no10 (by omega)).1 (no45 (.inl (by omega))).1 (no10 (by omega)).2 (no45 (.inl (by omega))).2]
    refine k.turn (Nat.le_refl _) (Nat.le_refl _) hij hjm ?_ fun _ => ⟨rfl, by omega, by omega⟩
    exact ⟨(by omega : 2 ≤ 10), fun _ => K.own ⟨by omega, by omega⟩, fun _ => ⟨g.j, Nat.le_refl _, k.tl⟩, fun h => by have : (2 : Nat) = 4 := h; omega, fun h => by have : (2 : Nat) = 5 := h; omega, fun h => by have : 7 ≤ 2 := h; omega, fun h => by have : (2 : Nat) = 9 := h; omega, fun h => by have : (2 : Nat) = 10 := h; omega⟩
  by_cases h2 : (g.v.h p).a = 2
  · obtain ⟨y, hy, ht⟩ := K.tt ⟨by omega, by omega⟩
    have own := K.own ⟨by omega, by omega⟩
    by_cases hx : g.v.nx (g.v.h p).t = 0
    · have e1 : fone g.v p = ⟨3, (g.v.h p).e, (g.v.h p).t, (g.v.h p).h, g.v.nx (g.v.h p).t⟩ := by unfold fone; rw [if_neg h1, if_pos h2, if_pos hx]
      rw [fgstp_eq e1 (no3 (by omega)) (no10 (by omega)).1 (no45 (.inl (by omega))).1 (no10 (by omega)).2 (no45 (.inl (by omega))).2]
      refine k.turn (Nat.le_refl _) (Nat.le_refl _) hij hjm ?_ fun _ => ⟨rfl, by omega, by omega⟩
      exact ⟨(by omega : 3 ≤ 10), fun _ => own, fun _ => ⟨y, hy, ht⟩, fun h => by have : (3 : Nat) = 4 := h; omega, fun h => by have : (3 : Nat) = 5 := h; omega, fun h => by have : 7 ≤ 3 := h; omega, fun h => by have : (3 : Nat) = 9 := h; omega, fun h => by have : (3 : Nat) = 10 := h; omega⟩
    · have e1 : fone g.v p = ⟨4, (g.v.h p).e, (g.v.h p).t, (g.v.h p).h, g.v.nx (g.v.h p).t⟩ := by unfold fone; rw [if_neg h1, if_pos h2, if_neg hx]
      have hym : y < g.m := by
        rcases Nat.lt_or_ge y g.m with h | h
        · exact h
        · rw [ht, show y = g.m by omega] at hx; exact absurd k.nl hx
      rw [fgstp_eq e1 (no3 (by omega)) (no10 (by omega)).1 (no45 (.inl (by omega))).1 (no10 (by omega)).2 (no45 (.inl (by omega))).2]
      refine k.turn (Nat.le_refl _) (Nat.le_refl _) hij hjm ?_ fun _ => ⟨rfl, by omega, by omega⟩
      exact ⟨(by omega : 4 ≤ 10), fun _ => own, fun _ => ⟨y, hy, ht⟩, fun _ => ⟨y, hym, ht, by show g.v.nx (g.v.h p).t = _; rw [ht]; exact k.nx y hym⟩, fun h => by have : (4 : Nat) = 5 := h; omega, fun h => by have : 7 ≤ 4 := h; omega, fun h => by have : (4 : Nat) = 9 := h; omega, fun h => by have : (4 : Nat) = 10 := h; omega⟩
  have to1 : 1 ≤ (g.v.h p).a ∧ (g.v.h p).a ≤ 4 → ∀ i' j', FHk g.o g.m i' j' g.v.k (fto (g.v.h p) 1) := fun h i' j' =>
    ⟨(by omega : 1 ≤ 10), fun _ => K.own h, fun h => by have : 2 ≤ 1 := h.1; omega, fun h => by have : (1 : Nat) = 4 := h; omega, fun h => by have : (1 : Nat) = 5 := h; omega, fun h => by have : 7 ≤ 1 := h; omega, fun h => by have : (1 : Nat) = 9 := h; omega, fun h => by have : (1 : Nat) = 10 := h; omega⟩
  have to6 : ∀ i' j', FHk g.o g.m i' j' g.v.k (fto (g.v.h p) 6) := fun i' j' =>
    ⟨(by omega : 6 ≤ 10), fun h => by have : 6 ≤ 4 := h.2; omega, fun h => by have : 6 ≤ 5 := h.2; omega, fun h => by have : (6 : Nat) = 4 := h; omega, fun h => by have : (6 : Nat) = 5 := h; omega, fun h => by have : 7 ≤ 6 := h; omega, fun h => by have : (6 : Nat) = 9 := h; omega, fun h => by have : (6 : Nat) = 10 := h; omega⟩
  by_cases h3 : (g.v.h p).a = 3
  · by_cases hx : g.v.nx (g.v.h p).t = 0
    · exact k.link hp h3 hx
    · have e1 : fone g.v p = fto (g.v.h p) 1 := by unfold fone; rw [if_neg h1, if_neg h2, if_pos h3, if_neg hx]
      rw [fgstp_eq e1 (fun e => hx e.2) (no10 (by omega)).1 (no45 (.inl (by omega))).1 (no10 (by omega)).2 (no45 (.inl (by omega))).2]
      exact k.turn (Nat.le_refl _) (Nat.le_refl _) hij hjm (to1 ⟨by omega, by omega⟩ _ _) fun _ => ⟨rfl, by omega, by omega⟩
  by_cases h4 : (g.v.h p).a = 4
  · have e1 : fone g.v p = fto (g.v.h p) 1 := by unfold fone; rw [if_neg h1, if_neg h2, if_neg h3, if_pos h4]
    by_cases ht : g.v.tl = (g.v.h p).t
    · obtain ⟨y, hy, a1, a2⟩ := K.four h4
      have hjy : g.j = y := k.oi g.j y hjm (by omega) (by rw [← k.tl, ht]; exact a1)
      have e4 : ftl g.v p = g.o (g.j + 1) := by unfold ftl; rw [if_pos ⟨.inl h4, ht⟩, a2, hjy]; rfl
      rw [fgstp_eq e1 (no3 (by omega)) (no10 (by omega)).1 e4 (no10 (by omega)).2 (if_pos ⟨.inl h4, ht⟩)]
      exact k.turn (Nat.le_refl _) (Nat.le_succ _) (by omega) (by omega) (to1 ⟨by omega, by omega⟩ _ _) fun _ => ⟨rfl, by omega, by omega⟩
    · rw [fgstp_eq e1 (no3 (by omega)) (no10 (by omega)).1 (no45 (.inr ht)).1 (no10 (by omega)).2 (no45 (.inr ht)).2]
      exact k.turn (Nat.le_refl _) (Nat.le_refl _) hij hjm (to1 ⟨by omega, by omega⟩ _ _) fun _ => ⟨rfl, by omega, by omega⟩
  by_cases h5 : (g.v.h p).a = 5
  · have e1 : fone g.v p = fto (g.v.h p) 0 := by unfold fone; rw [if_neg h1, if_neg h2, if_neg h3, if_neg h4, if_pos h5]
    by_cases ht : g.v.tl = (g.v.h p).t
    · obtain ⟨y, hy, a1, a2⟩ := K.five h5
      have hjy : g.j = y := k.oi g.j y hjm (by omega) (by rw [← k.tl, ht]; exact a1)
      have e4 : ftl g.v p = g.o (g.j + 1) := by unfold ftl; rw [if_neg fun e => by omega, if_pos ⟨h5, ht⟩, a2, hjy]
      rw [fgstp_eq e1 (no3 (by omega)) (no10 (by omega)).1 e4 (no10 (by omega)).2 (if_pos ⟨.inr (.inr h5), ht⟩)]
      exact k.turn (Nat.le_refl _) (Nat.le_succ _) (by omega) (by omega) (FHk.none rfl) fun h => by have : 1 ≤ 0 := h.1; omega
    · rw [fgstp_eq e1 (no3 (by omega)) (no10 (by omega)).1 (no45 (.inr ht)).1 (no10 (by omega)).2 (no45 (.inr ht)).2]
      exact k.turn (Nat.le_refl _) (Nat.le_refl _) hij hjm (FHk.none rfl) fun h => by have : 1 ≤ 0 := h.1; omega
  by_cases h6 : (g.v.h p).a = 6
  · have e1 : fone g.v p = ⟨7, (g.v.h p).e, (g.v.h p).t, g.v.hd, (g.v.h p).x⟩ := by unfold fone; rw [if_neg h1, if_neg h2, if_neg h3, if_neg h4, if_neg h5, if_pos h6]
    rw [fgstp_eq e1 (no3 (by omega)) (no10 (by omega)).1 (no45 (.inl (by omega))).1 (no10 (by omega)).2 (no45 (.inl (by omega))).2]
    refine k.turn (Nat.le_refl _) (Nat.le_refl _) hij hjm ?_ fun h => by have : 7 ≤ 5 := h.2; omega
    exact ⟨(by omega : 7 ≤ 10), fun h => by have : 7 ≤ 4 := h.2; omega, fun h => by have : 7 ≤ 5 := h.2; omega, fun h => by have : (7 : Nat) = 4 := h; omega, fun h => by have : (7 : Nat) = 5 := h; omega, fun _ => ⟨g.i, Nat.le_refl _, k.hd, fun h => by have : 8 ≤ 7 := h; omega⟩, fun h => by have : (7 : Nat) = 9 := h; omega, fun h => by have : (7 : Nat) = 10 := h; omega⟩
  by_cases h7 : (g.v.h p).a = 7
  · obtain ⟨y, hy, a1, _⟩ := K.hh (by omega)
    have e1 : fone g.v p = ⟨8, (g.v.h p).e, g.v.tl, (g.v.h p).h, (g.v.h p).x⟩ := by unfold fone; rw [if_neg h1, if_neg h2, if_neg h3, if_neg h4, if_neg h5, if_neg h6, if_pos h7]
    rw [fgstp_eq e1 (no3 (by omega)) (no10 (by omega)).1 (no45 (.inl (by omega))).1 (no10 (by omega)).2 (no45 (.inl (by omega))).2]
    refine k.turn (Nat.le_refl _) (Nat.le_refl _) hij hjm ?_ fun h => by have : 8 ≤ 5 := h.2; omega
    exact ⟨(by omega : 8 ≤ 10), fun h => by have : 8 ≤ 4 := h.2; omega, fun h => by have : 8 ≤ 5 := h.2; omega, fun h => by have : (8 : Nat) = 4 := h; omega, fun h => by have : (8 : Nat) = 5 := h; omega, fun _ => ⟨y, hy, a1, fun _ => ⟨g.j, by omega, Nat.le_refl _, k.tl⟩⟩, fun h => by have : (8 : Nat) = 9 := h; omega, fun h => by have : (8 : Nat) = 10 := h; omega⟩
  by_cases h8 : (g.v.h p).a = 8
  · obtain ⟨y, hy, a1, a2⟩ := K.hh (by omega)
    obtain ⟨z, b1, b2, b3⟩ := a2 (by omega)
    by_cases e : (g.v.h p).h = (g.v.h p).t
    · have hyz : y = z := k.oi y z (by omega) (by omega) (by rw [← a1, ← b3]; exact e)
      by_cases hx : g.v.nx (g.v.h p).h = 0
      · have e1 : fone g.v p = ⟨0, (g.v.h p).e, (g.v.h p).t, (g.v.h p).h, g.v.nx (g.v.h p).h⟩ := by unfold fone; rw [if_neg h1, if_neg h2, if_neg h3, if_neg h4, if_neg h5, if_neg h6, if_neg h7, if_pos h8, if_pos e, if_pos hx]
        rw [fgstp_eq e1 (no3 (by omega)) (no10 (by omega)).1 (no45 (.inl (by omega))).1 (no10 (by omega)).2 (no45 (.inl (by omega))).2]
        exact k.turn (Nat.le_refl _) (Nat.le_refl _) hij hjm (FHk.none rfl) fun h => by have : 1 ≤ 0 := h.1; omega
      · have hym : y < g.m := by
          rcases Nat.lt_or_ge y g.m with h | h
          · exact h
          · rw [a1, show y = g.m by omega] at hx; exact absurd k.nl hx
        have e1 : fone g.v p = ⟨9, (g.v.h p).e, (g.v.h p).t, (g.v.h p).h, g.v.nx (g.v.h p).h⟩ := by unfold fone; rw [if_neg h1, if_neg h2, if_neg h3, if_neg h4, if_neg h5, if_neg h6, if_neg h7, if_pos h8, if_pos e, if_neg hx]
        rw [fgstp_eq e1 (no3 (by omega)) (no10 (by omega)).1 (no45 (.inl (by omega))).1 (no10 (by omega)).2 (no45 (.inl (by omega))).2]
        refine k.turn (Nat.le_refl _) (Nat.le_refl _) hij hjm ?_ fun h => by have : 9 ≤ 5 := h.2; omega
        exact ⟨(by omega : 9 ≤ 10), fun h => by have : 9 ≤ 4 := h.2; omega, fun h => by have : 9 ≤ 5 := h.2; omega, fun h => by have : (9 : Nat) = 4 := h; omega, fun h => by have : (9 : Nat) = 5 := h; omega, fun _ => ⟨y, hy, a1, fun _ => ⟨z, b1, b2, b3⟩⟩, fun _ => ⟨y, hym, by show (g.v.h p).t = _; rw [← e]; exact a1, by show g.v.nx (g.v.h p).h = _; rw [a1]; exact k.nx y hym⟩, fun h => by have : (9 : Nat) = 10 := h; omega⟩
    · have hyz : y ≠ z := fun h => e (by rw [a1, b3, h])
      have hym : y < g.m := by omega
      have e1 : fone g.v p = ⟨10, (g.v.h p).e, (g.v.h p).t, (g.v.h p).h, g.v.nx (g.v.h p).h⟩ := by unfold fone; rw [if_neg h1, if_neg h2, if_neg h3, if_neg h4, if_neg h5, if_neg h6, if_neg h7, if_pos h8, if_neg e]
      rw [fgstp_eq e1 (no3 (by omega)) (no10 (by omega)).1 (no45 (.inl (by omega))).1 (no10 (by omega)).2 (no45 (.inl (by omega))).2]
      refine k.turn (Nat.le_refl _) (Nat.le_refl _) hij hjm ?_ fun h => by have : 10 ≤ 5 := h.2; omega
      exact ⟨(by omega : 10 ≤ 10), fun h => by have : 10 ≤ 4 := h.2; omega, fun h => by have : 10 ≤ 5 := h.2; omega, fun h => by have : (10 : Nat) = 4 := h; omega, fun h => by have : (10 : Nat) = 5 := h; omega, fun _ => ⟨y, hy, a1, fun _ => ⟨z, b1, b2, b3⟩⟩, fun h => by have : (10 : Nat) = 9 := h; omega, fun _ => ⟨y, by omega, a1, by show g.v.nx (g.v.h p).h = _; rw [a1]; exact k.nx y hym⟩⟩
  by_cases h9 : (g.v.h p).a = 9
  · have e1 : fone g.v p = fto (g.v.h p) 6 := by unfold fone; rw [if_neg h1, if_neg h2, if_neg h3, if_neg h4, if_neg h5, if_neg h6, if_neg h7, if_neg h8, if_pos h9]
    by_cases ht : g.v.tl = (g.v.h p).t
    · obtain ⟨y, hy, a1, a2⟩ := K.nine h9
      have hjy : g.j = y := k.oi g.j y hjm (by omega) (by rw [← k.tl, ht]; exact a1)
      have e4 : ftl g.v p = g.o (g.j + 1) := by unfold ftl; rw [if_pos ⟨.inr h9, ht⟩, a2, hjy]; rfl
      rw [fgstp_eq e1 (no3 (by omega)) (no10 (by omega)).1 e4 (no10 (by omega)).2 (if_pos ⟨.inr (.inl h9), ht⟩)]
      exact k.turn (Nat.le_refl _) (Nat.le_succ _) (by omega) (by omega) (to6 _ _) fun h => by have : 6 ≤ 5 := h.2; omega
    · rw [fgstp_eq e1 (no3 (by omega)) (no10 (by omega)).1 (no45 (.inr ht)).1 (no10 (by omega)).2 (no45 (.inr ht)).2]
      exact k.turn (Nat.le_refl _) (Nat.le_refl _) hij hjm (to6 _ _) fun h => by have : 6 ≤ 5 := h.2; omega
  · have h10 : (g.v.h p).a = 10 := by omega
    by_cases hh : g.v.hd = (g.v.h p).h
    · have e1 : fone g.v p = fto (g.v.h p) 0 := by unfold fone; rw [if_neg h1, if_neg h2, if_neg h3, if_neg h4, if_neg h5, if_neg h6, if_neg h7, if_neg h8, if_neg h9, if_pos hh]
      obtain ⟨y, hy, a1, a2⟩ := K.ten h10
      have hiy : g.i = y := k.oi g.i y (by omega) (by omega) (by rw [← k.hd, hh]; exact a1)
      have e3 : fhd g.v p = g.o (g.i + 1) := by unfold fhd; rw [if_pos ⟨h10, hh⟩, a2, hiy]; rfl
      rw [fgstp_eq e1 (no3 (by omega)) e3 (no45 (.inl (by omega))).1 (if_pos ⟨h10, hh⟩) (no45 (.inl (by omega))).2]
      exact k.turn (Nat.le_succ _) (Nat.le_refl _) (by omega) hjm (FHk.none rfl) fun h => by have : 1 ≤ 0 := h.1; omega
    · have e1 : fone g.v p = fto (g.v.h p) 6 := by unfold fone; rw [if_neg h1, if_neg h2, if_neg h3, if_neg h4, if_neg h5, if_neg h6, if_neg h7, if_neg h8, if_neg h9, if_neg hh]
      have e3 : fhd g.v p = g.o g.i := (if_neg fun e => hh e.2).trans k.hd
      rw [fgstp_eq e1 (no3 (by omega)) e3 (no45 (.inl (by omega))).1 (if_neg fun e => hh e.2) (no45 (.inl (by omega))).2]
      exact k.turn (Nat.le_refl _) (Nat.le_refl _) hij hjm (to6 _ _) fun h => by have : 6 ≤ 5 := h.2; omega
/-- What is got is the node behind Head. -/
theorem FOk.got {p : Nat} (hp : p < n) (h10 : (g.v.h p).a = 10) (hh : g.v.hd = (g.v.h p).h) : g.i + 1 ≤ g.m ∧ (g.v.h p).x = g.o (g.i + 1) + 1 := by
  have hij := k.ij
  have hjm := k.jm
  obtain ⟨y, hy, a1, a2⟩ := (k.hk p hp).ten h10
  have hiy : g.i = y := k.oi g.i y (by omega) (by omega) (by rw [← k.hd, hh]; exact a1)
  exact ⟨by omega, by rw [hiy]; exact a2⟩
end
end Go.Proofs.Ytimdhnjkjflbdaa
