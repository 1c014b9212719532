/-
  The walk of latchgarthlaw3.FifoPlays: the queue and the reference's, beside each other.
-/
import Derived.Test.YtnplhjbbkccdnaaDoorFifRef4
import Derived.Test.YtnplhjbbkccdnaaDoorFifRef5
import Derived.Test.YtnplhjbbkccdnaaDoorFifRef6
import Derived.Test.YtnplhjbbkccdnaaDoorFifRef7
import Derived.Test.YtnplhjbbkccdnaaDoorFifoAt
import Derived.Test.YtnplhjbbkccdnaaDoorRws
import Derived.Test.YtnplhjbbkccdnaaDoorInts
import Derived.Test.YtnplhjbbkccdnaaDoorAs2
import Derived.Deep.DeepCutAuto
namespace Go.Proofs.YtnplhjbbkccdnaaDoor.Fif
open Go.RowKit Rf

/-- StepFifo: what is told, in one. -/
theorem refstep_any {F : Nat → Prop} {n : Nat} {s : FG} {vl : Nat → Int} {v0 v1 v2 v3 v4 v5 v6 v7 v8 : Value} {fx : Nat → Int} (w : World) (h : RK F w n s.v vl v0 v1 v2 v3 v4 v5 v6 v7 v8 fx) (hF : ∀ b, F b → b < w.heap.size) (ok : FOk n s) (hk40 : s.v.k ≤ 40) (h1 : 1 ≤ n) (h4 : n ≤ 4) (p : Int) :
    Calls Tryd.prog 21 #[.agg #[v0, v1, v2, v3, v4, v5, v6, v7, v8], .int .i64 p] w fun e w' => StpT F w w' n (sStpD n s p) (sStpG n s vl p) (sStpE n s p) (sStpS n s p).v vl e := by
  by_cases hp : 0 ≤ p ∧ p < n
  · obtain ⟨q, rfl⟩ := Int.eq_ofNat_of_zero_le hp.1
    have hq : q < n := by omega
    by_cases ha : (s.v.h q).a = 0
    · have he : sStpE n s q = 7 := by unfold sStpE; rw [if_neg (show ¬ ¬ (0 ≤ (q : Int) ∧ (q : Int) < n) from fun h => h hp), if_pos (show (s.v.h (q : Int).toNat).a = 0 by simpa using ha)]
      have hd : sStpD n s q = false := by unfold sStpD; rw [he]; rfl
      have hg : sStpG n s vl q = 0 := by unfold sStpG; rw [he]; rfl
      have hs : sStpS n s q = s := by unfold sStpS; rw [he]; rfl
      rw [hg, hd, hs, he]
      exact sidle w h hF ok hk40 h1 h4 hq ha
    · have he : sStpE n s q = 0 := by unfold sStpE; rw [if_neg (show ¬ ¬ (0 ≤ (q : Int) ∧ (q : Int) < n) from fun h => h hp), if_neg (show ¬ (s.v.h (q : Int).toNat).a = 0 by simpa using ha)]
      have hd : sStpD n s q = sfin s.v q := by unfold sStpD; rw [he]; rfl
      have hg : sStpG n s vl q = stold s.v vl q := by unfold sStpG; rw [he]; rfl
      have hs : (sStpS n s q).v = fstp s.v q := by unfold sStpS; rw [he]; rfl
      rw [hg, hd, hs, he]
      have hln := (ok.hk q hq).ln
      have n3 : (s.v.h q).a ≠ 3 → fnx s.v q = s.v.nx := fun h => by unfold fnx; rw [if_neg fun e => h e.1]
      have n10 : (s.v.h q).a ≠ 10 → fhd s.v q = s.v.hd := fun h => by unfold fhd; rw [if_neg fun e => h e.1]
      have nt : (s.v.h q).a ≠ 4 → (s.v.h q).a ≠ 9 → (s.v.h q).a ≠ 5 → ftl s.v q = s.v.tl := fun h4 h9 h5 => by unfold ftl; rw [if_neg fun e => by omega, if_neg fun e => h5 e.1]
      have nf : (s.v.h q).a ≠ 5 → (s.v.h q).a ≠ 8 → (s.v.h q).a ≠ 10 → sfin s.v q = false ∧ stold s.v vl q = 0 := fun h5 h8 h10 => by
        have e : sfin s.v q = false := by unfold sfin; rw [if_neg h5, if_neg h8, if_neg h10]
        exact ⟨e, by unfold stold; rw [e]; rfl⟩
      have hc : (s.v.h q).a = 1 ∨ (s.v.h q).a = 2 ∨ (s.v.h q).a = 3 ∨ (s.v.h q).a = 4 ∨ (s.v.h q).a = 5 ∨ (s.v.h q).a = 6 ∨ (s.v.h q).a = 7 ∨ (s.v.h q).a = 8 ∨ (s.v.h q).a = 9 ∨ (s.v.h q).a = 10 := by omega
      rcases hc with a | a | a | a | a | a | a | a | a | a
      · obtain ⟨f1, f2⟩ := nf (by omega) (by omega) (by omega)
        rw [fstp_eq (by unfold fone; rw [if_pos a]) (n3 (by omega)) (n10 (by omega)) (nt (by omega) (by omega) (by omega))]
        rw [f1, f2]
        exact s1 w h hF ok hk40 h1 h4 hq a
      · obtain ⟨f1, f2⟩ := nf (by omega) (by omega) (by omega)
        by_cases hx : s.v.nx (s.v.h q).t = 0
        · rw [fstp_eq (by unfold fone; rw [if_neg (show ¬ (s.v.h q).a = 1 by omega), if_pos a, if_pos hx]) (n3 (by omega)) (n10 (by omega)) (nt (by omega) (by omega) (by omega))]
          rw [f1, f2]
          exact s2y w h hF ok hk40 h1 h4 hq a hx
        · rw [fstp_eq (by unfold fone; rw [if_neg (show ¬ (s.v.h q).a = 1 by omega), if_pos a, if_neg hx]) (n3 (by omega)) (n10 (by omega)) (nt (by omega) (by omega) (by omega))]
          rw [f1, f2]
          exact s2n w h hF ok hk40 h1 h4 hq a hx
      · obtain ⟨f1, f2⟩ := nf (by omega) (by omega) (by omega)
        by_cases hx : s.v.nx (s.v.h q).t = 0
        · rw [fstp_eq (by unfold fone; rw [if_neg (show ¬ (s.v.h q).a = 1 by omega), if_neg (show ¬ (s.v.h q).a = 2 by omega), if_pos a, if_pos hx]) (nx' := fput s.v.nx (s.v.h q).t ((s.v.h q).e + 1)) (by unfold fnx; rw [if_pos ⟨a, hx⟩]) (n10 (by omega)) (nt (by omega) (by omega) (by omega))]
          rw [f1, f2]
          exact s3y w h hF ok hk40 h1 h4 hq a hx
        · rw [fstp_eq (by unfold fone; rw [if_neg (show ¬ (s.v.h q).a = 1 by omega), if_neg (show ¬ (s.v.h q).a = 2 by omega), if_pos a, if_neg hx]) (nx' := s.v.nx) (by unfold fnx; rw [if_neg fun e => hx e.2]) (n10 (by omega)) (nt (by omega) (by omega) (by omega))]
          rw [f1, f2]
          exact s3n w h hF ok hk40 h1 h4 hq a hx
      · obtain ⟨f1, f2⟩ := nf (by omega) (by omega) (by omega)
        by_cases hx : s.v.tl = (s.v.h q).t
        · rw [fstp_eq (by unfold fone; rw [if_neg (show ¬ (s.v.h q).a = 1 by omega), if_neg (show ¬ (s.v.h q).a = 2 by omega), if_neg (show ¬ (s.v.h q).a = 3 by omega), if_pos a]) (n3 (by omega)) (n10 (by omega)) (tl' := (s.v.h q).x - 1) (by unfold ftl; rw [if_pos ⟨.inl a, hx⟩])]
          rw [f1, f2]
          exact s4y w h hF ok hk40 h1 h4 hq a hx
        · rw [fstp_eq (by unfold fone; rw [if_neg (show ¬ (s.v.h q).a = 1 by omega), if_neg (show ¬ (s.v.h q).a = 2 by omega), if_neg (show ¬ (s.v.h q).a = 3 by omega), if_pos a]) (n3 (by omega)) (n10 (by omega)) (tl' := s.v.tl) (by unfold ftl; rw [if_neg (fun e => hx e.2), if_neg (fun e => hx e.2)])]
          rw [f1, f2]
          exact s4n w h hF ok hk40 h1 h4 hq a hx
      · have f1 : sfin s.v q = true := by unfold sfin; rw [if_pos a]
        have f2 : stold s.v vl q = -1 := by unfold stold; rw [f1, if_pos rfl, if_neg (by omega)]
        by_cases hx : s.v.tl = (s.v.h q).t
        · rw [fstp_eq (by unfold fone; rw [if_neg (show ¬ (s.v.h q).a = 1 by omega), if_neg (show ¬ (s.v.h q).a = 2 by omega), if_neg (show ¬ (s.v.h q).a = 3 by omega), if_neg (show ¬ (s.v.h q).a = 4 by omega), if_pos a]) (n3 (by omega)) (n10 (by omega)) (tl' := (s.v.h q).e) (by unfold ftl; rw [if_neg (fun e => by omega), if_pos ⟨a, hx⟩])]
          rw [f1, f2]
          exact s5y w h hF ok hk40 h1 h4 hq a hx
        · rw [fstp_eq (by unfold fone; rw [if_neg (show ¬ (s.v.h q).a = 1 by omega), if_neg (show ¬ (s.v.h q).a = 2 by omega), if_neg (show ¬ (s.v.h q).a = 3 by omega), if_neg (show ¬ (s.v.h q).a = 4 by omega), if_pos a]) (n3 (by omega)) (n10 (by omega)) (tl' := s.v.tl) (by unfold ftl; rw [if_neg (fun e => hx e.2), if_neg (fun e => hx e.2)])]
          rw [f1, f2]
          exact s5n w h hF ok hk40 h1 h4 hq a hx
      · obtain ⟨f1, f2⟩ := nf (by omega) (by omega) (by omega)
        rw [fstp_eq (by unfold fone; rw [if_neg (show ¬ (s.v.h q).a = 1 by omega), if_neg (show ¬ (s.v.h q).a = 2 by omega), if_neg (show ¬ (s.v.h q).a = 3 by omega), if_neg (show ¬ (s.v.h q).a = 4 by omega), if_neg (show ¬ (s.v.h q).a = 5 by omega), if_pos a]) (n3 (by omega)) (n10 (by omega)) (nt (by omega) (by omega) (by omega))]
        rw [f1, f2]
        exact s6 w h hF ok hk40 h1 h4 hq a
      · obtain ⟨f1, f2⟩ := nf (by omega) (by omega) (by omega)
        rw [fstp_eq (by unfold fone; rw [if_neg (show ¬ (s.v.h q).a = 1 by omega), if_neg (show ¬ (s.v.h q).a = 2 by omega), if_neg (show ¬ (s.v.h q).a = 3 by omega), if_neg (show ¬ (s.v.h q).a = 4 by omega), if_neg (show ¬ (s.v.h q).a = 5 by omega), if_neg (show ¬ (s.v.h q).a = 6 by omega), if_pos a]) (n3 (by omega)) (n10 (by omega)) (nt (by omega) (by omega) (by omega))]
        rw [f1, f2]
        exact s7 w h hF ok hk40 h1 h4 hq a
      · by_cases hne : (s.v.h q).h = (s.v.h q).t
        · by_cases hx : s.v.nx (s.v.h q).h = 0
          · have f1 : sfin s.v q = true := by unfold sfin; rw [if_neg (show ¬ (s.v.h q).a = 5 by omega), if_pos a]; exact decide_eq_true ⟨hne, hx⟩
            have f2 : stold s.v vl q = -1 := by unfold stold; rw [f1, if_pos rfl, if_neg (by omega)]
            rw [fstp_eq (by unfold fone; rw [if_neg (show ¬ (s.v.h q).a = 1 by omega), if_neg (show ¬ (s.v.h q).a = 2 by omega), if_neg (show ¬ (s.v.h q).a = 3 by omega), if_neg (show ¬ (s.v.h q).a = 4 by omega), if_neg (show ¬ (s.v.h q).a = 5 by omega), if_neg (show ¬ (s.v.h q).a = 6 by omega), if_neg (show ¬ (s.v.h q).a = 7 by omega), if_pos a, if_pos hne, if_pos hx]) (n3 (by omega)) (n10 (by omega)) (nt (by omega) (by omega) (by omega))]
            rw [f1, f2]
            exact s8y w h hF ok hk40 h1 h4 hq a hne hx
          · have f1 : sfin s.v q = false := by unfold sfin; rw [if_neg (show ¬ (s.v.h q).a = 5 by omega), if_pos a]; exact decide_eq_false fun e => hx e.2
            have f2 : stold s.v vl q = 0 := by unfold stold; rw [f1]; rfl
            rw [fstp_eq (by unfold fone; rw [if_neg (show ¬ (s.v.h q).a = 1 by omega), if_neg (show ¬ (s.v.h q).a = 2 by omega), if_neg (show ¬ (s.v.h q).a = 3 by omega), if_neg (show ¬ (s.v.h q).a = 4 by omega), if_neg (show ¬ (s.v.h q).a = 5 by omega), if_neg (show ¬ (s.v.h q).a = 6 by omega), if_neg (show ¬ (s.v.h q).a = 7 by omega), if_pos a, if_pos hne, if_neg hx]) (n3 (by omega)) (n10 (by omega)) (nt (by omega) (by omega) (by omega))]
            rw [f1, f2]
            exact s8n w h hF ok hk40 h1 h4 hq a hne hx
        · have f1 : sfin s.v q = false := by unfold sfin; rw [if_neg (show ¬ (s.v.h q).a = 5 by omega), if_pos a]; exact decide_eq_false fun e => hne e.1
          have f2 : stold s.v vl q = 0 := by unfold stold; rw [f1]; rfl
          rw [fstp_eq (by unfold fone; rw [if_neg (show ¬ (s.v.h q).a = 1 by omega), if_neg (show ¬ (s.v.h q).a = 2 by omega), if_neg (show ¬ (s.v.h q).a = 3 by omega), if_neg (show ¬ (s.v.h q).a = 4 by omega), if_neg (show ¬ (s.v.h q).a = 5 by omega), if_neg (show ¬ (s.v.h q).a = 6 by omega), if_neg (show ¬ (s.v.h q).a = 7 by omega), if_pos a, if_neg hne]) (n3 (by omega)) (n10 (by omega)) (nt (by omega) (by omega) (by omega))]
          rw [f1, f2]
          exact s8f w h hF ok hk40 h1 h4 hq a hne
      · obtain ⟨f1, f2⟩ := nf (by omega) (by omega) (by omega)
        by_cases hx : s.v.tl = (s.v.h q).t
        · rw [fstp_eq (by unfold fone; rw [if_neg (show ¬ (s.v.h q).a = 1 by omega), if_neg (show ¬ (s.v.h q).a = 2 by omega), if_neg (show ¬ (s.v.h q).a = 3 by omega), if_neg (show ¬ (s.v.h q).a = 4 by omega), if_neg (show ¬ (s.v.h q).a = 5 by omega), if_neg (show ¬ (s.v.h q).a = 6 by omega), if_neg (show ¬ (s.v.h q).a = 7 by omega), if_neg (show ¬ (s.v.h q).a = 8 by omega), if_pos a]) (n3 (by omega)) (n10 (by omega)) (tl' := (s.v.h q).x - 1) (by unfold ftl; rw [if_pos ⟨.inr a, hx⟩])]
          rw [f1, f2]
          exact s9y w h hF ok hk40 h1 h4 hq a hx
        · rw [fstp_eq (by unfold fone; rw [if_neg (show ¬ (s.v.h q).a = 1 by omega), if_neg (show ¬ (s.v.h q).a = 2 by omega), if_neg (show ¬ (s.v.h q).a = 3 by omega), if_neg (show ¬ (s.v.h q).a = 4 by omega), if_neg (show ¬ (s.v.h q).a = 5 by omega), if_neg (show ¬ (s.v.h q).a = 6 by omega), if_neg (show ¬ (s.v.h q).a = 7 by omega), if_neg (show ¬ (s.v.h q).a = 8 by omega), if_pos a]) (n3 (by omega)) (n10 (by omega)) (tl' := s.v.tl) (by unfold ftl; rw [if_neg (fun e => hx e.2), if_neg (fun e => hx e.2)])]
          rw [f1, f2]
          exact s9n w h hF ok hk40 h1 h4 hq a hx
      · by_cases hx : s.v.hd = (s.v.h q).h
        · have f1 : sfin s.v q = true := by unfold sfin; rw [if_neg (show ¬ (s.v.h q).a = 5 by omega), if_neg (show ¬ (s.v.h q).a = 8 by omega), if_pos a]; exact decide_eq_true hx
          have f2 : stold s.v vl q = vl ((s.v.h q).x - 1) := by unfold stold; rw [f1, if_pos rfl, if_pos a]
          rw [fstp_eq (by unfold fone; rw [if_neg (show ¬ (s.v.h q).a = 1 by omega), if_neg (show ¬ (s.v.h q).a = 2 by omega), if_neg (show ¬ (s.v.h q).a = 3 by omega), if_neg (show ¬ (s.v.h q).a = 4 by omega), if_neg (show ¬ (s.v.h q).a = 5 by omega), if_neg (show ¬ (s.v.h q).a = 6 by omega), if_neg (show ¬ (s.v.h q).a = 7 by omega), if_neg (show ¬ (s.v.h q).a = 8 by omega), if_neg (show ¬ (s.v.h q).a = 9 by omega), if_pos hx]) (n3 (by omega)) (hd' := (s.v.h q).x - 1) (by unfold fhd; rw [if_pos ⟨a, hx⟩]) (nt (by omega) (by omega) (by omega))]
          rw [f1, f2]
          exact s10y w h hF ok hk40 h1 h4 hq a hx
        · have f1 : sfin s.v q = false := by unfold sfin; rw [if_neg (show ¬ (s.v.h q).a = 5 by omega), if_neg (show ¬ (s.v.h q).a = 8 by omega), if_pos a]; exact decide_eq_false hx
          have f2 : stold s.v vl q = 0 := by unfold stold; rw [f1]; rfl
          rw [fstp_eq (by unfold fone; rw [if_neg (show ¬ (s.v.h q).a = 1 by omega), if_neg (show ¬ (s.v.h q).a = 2 by omega), if_neg (show ¬ (s.v.h q).a = 3 by omega), if_neg (show ¬ (s.v.h q).a = 4 by omega), if_neg (show ¬ (s.v.h q).a = 5 by omega), if_neg (show ¬ (s.v.h q).a = 6 by omega), if_neg (show ¬ (s.v.h q).a = 7 by omega), if_neg (show ¬ (s.v.h q).a = 8 by omega), if_neg (show ¬ (s.v.h q).a = 9 by omega), if_neg hx]) (n3 (by omega)) (hd' := s.v.hd) (by unfold fhd; rw [if_neg fun e => hx e.2]) (nt (by omega) (by omega) (by omega))]
          rw [f1, f2]
          exact s10n w h hF ok hk40 h1 h4 hq a hx
  · have he : sStpE n s p = 1 := by unfold sStpE; rw [if_pos hp]
    have hd : sStpD n s p = false := by unfold sStpD; rw [he]; rfl
    have hg : sStpG n s vl p = 0 := by unfold sStpG; rw [he]; rfl
    have hs : sStpS n s p = s := by unfold sStpS; rw [he]; rfl
    rw [hg, hd, hs, he]
    exact sbad w h hF ok hk40 h1 h4 p hp
section
variable {F F' O : Nat → Prop} {W W' : World} {n : Nat} {v : FS} {vl : Nat → Int} {v0 v1 v2 v3 v4 v5 v6 v7 v8 : Value} {fx : Nat → Int}
theorem RK.below (h : RK F W n v vl v0 v1 v2 v3 v4 v5 v6 v7 v8 fx) (hb : Below W.heap.size W W') : RK F W' n v vl v0 v1 v2 v3 v4 v5 v6 v7 v8 fx := ⟨h.rv.below hb, h.f⟩
theorem RK.touch (h : RK F W n v vl v0 v1 v2 v3 v4 v5 v6 v7 v8 fx) (ht : Touch O W W') (hO : ∀ b, b < W.heap.size → O b → F b) : RK F W' n v vl v0 v1 v2 v3 v4 v5 v6 v7 v8 fx := ⟨h.rv.touch ht hO, h.f⟩
theorem RK.more (h : RK F W n v vl v0 v1 v2 v3 v4 v5 v6 v7 v8 fx) (hF : ∀ b, b < W.heap.size → F' b → F b) : RK F' W n v vl v0 v1 v2 v3 v4 v5 v6 v7 v8 fx := ⟨h.rv.more hF, h.f⟩
theorem RK.forms (h : RK F W n v vl v0 v1 v2 v3 v4 v5 v6 v7 v8 fx) : v0 = .int .i64 v.hd ∧ v1 = .int .i64 v.tl ∧ ∃ A2 c2 A3 c3 A4 c4 A5 c5 A6 c6 A7 c7 A8 c8, v2 = .slice A2 v.k c2 ∧ v3 = .slice A3 v.k c3 ∧ v4 = .slice A4 n c4 ∧ v5 = .slice A5 n c5 ∧ v6 = .slice A6 n c6 ∧ v7 = .slice A7 n c7 ∧ v8 = .slice A8 n c8 := by
  obtain ⟨A2, c2, e2⟩ := SL.form h.rv.p2
  obtain ⟨A3, c3, e3⟩ := SL.form h.rv.p3
  obtain ⟨A4, c4, e4⟩ := SL.form h.rv.p4
  obtain ⟨A5, c5, e5⟩ := SL.form h.rv.p5
  obtain ⟨A6, c6, e6⟩ := SL.form h.rv.p6
  obtain ⟨A7, c7, e7⟩ := SL.form h.rv.p7
  obtain ⟨A8, c8, e8⟩ := SL.form h.rv.p8
  exact ⟨h.rv.p0, h.rv.p1, A2, c2, A3, c3, A4, c4, A5, c5, A6, c6, A7, c7, A8, c8, e2, e3, e4, e5, e6, e7, e8⟩
end
/-- The queue in block g, which is as s says; the reference's queue, in block b, which is as v says. -/
structure UP (w W : World) (g b n : Nat) (s : FG) (vl : Nat → Int) (v : FS) (vm : Nat → Int) (v0 v1 v2 v3 v4 v5 v6 v7 v8 : Value) (fx : Nat → Int) : Prop where
  lk : LkAt w W g n s vl
  box : Block W b 54 #[v0, v1, v2, v3, v4, v5, v6, v7, v8]
  gb : g < b
  rk : RK (fun x => x = g ∨ x = b) W n v vm v0 v1 v2 v3 v4 v5 v6 v7 v8 fx
section
variable {w W W' : World} {g b n : Nat} {s s' : FG} {vl vl' vm vm' : Nat → Int} {v v' : FS} {v0 v1 v2 v3 v4 v5 v6 v7 v8 u0 u1 u2 u3 u4 u5 u6 u7 u8 : Value} {fx gx : Nat → Int}
theorem UP.low (h : UP w W g b n s vl v vm v0 v1 v2 v3 v4 v5 v6 v7 v8 fx) : w.heap.size ≤ b := by have := h.lk.new; have := h.gb; omega
theorem UP.F (h : UP w W g b n s vl v vm v0 v1 v2 v3 v4 v5 v6 v7 v8 fx) : ∀ x, (x = g ∨ x = b) → x < W.heap.size := fun x hx => by
  have := h.lk.lt
  have := h.box.lt
  rcases hx with rfl | rfl <;> assumption
theorem UP.call (h : UP w W g b n s vl v vm v0 v1 v2 v3 v4 v5 v6 v7 v8 fx) (hb : Below W.heap.size W W') : UP w W' g b n s vl v vm v0 v1 v2 v3 v4 v5 v6 v7 v8 fx :=
  ⟨h.lk.on hb (Nat.le_refl _), h.box.below hb h.box.lt, h.gb, h.rk.below hb⟩
theorem UP.turn (h : UP w W g b n s vl v vm v0 v1 v2 v3 v4 v5 v6 v7 v8 fx) (hl : LkAt w W' g n s' vl') (ht : Touch (fun k => k = g) W W') : UP w W' g b n s' vl' v vm v0 v1 v2 v3 v4 v5 v6 v7 v8 fx :=
  ⟨hl, h.box.touch ht (by have := h.gb; omega), h.gb, h.rk.touch ht fun x _ e => Or.inl e⟩
theorem UP.drewN (h : UP w W g b n s vl v vm v0 v1 v2 v3 v4 v5 v6 v7 v8 fx) (i : Nat) : UP w (W.drewN i) g b n s vl v vm v0 v1 v2 v3 v4 v5 v6 v7 v8 fx := h.call (below_drewN (Below.refl _ W) i)
theorem UP.drew (h : UP w W g b n s vl v vm v0 v1 v2 v3 v4 v5 v6 v7 v8 fx) : UP w W.drew g b n s vl v vm v0 v1 v2 v3 v4 v5 v6 v7 v8 fx := h.call (Below.refl _ W).drew
/-- The reference's queue is written anew. -/
theorem UP.store (h : UP w W g b n s vl v vm v0 v1 v2 v3 v4 v5 v6 v7 v8 fx) (hr : RK (fun x => x = g ∨ x = b) W n v' vm' u0 u1 u2 u3 u4 u5 u6 u7 u8 gx) : UP w (((((((((W.setCell ⟨b, 0, none⟩ u0).setCell ⟨b, 1, none⟩ u1).setCell ⟨b, 2, none⟩ u2).setCell ⟨b, 3, none⟩ u3).setCell ⟨b, 4, none⟩ u4).setCell ⟨b, 5, none⟩ u5).setCell ⟨b, 6, none⟩ u6).setCell ⟨b, 7, none⟩ u7).setCell ⟨b, 8, none⟩ u8) g b n s vl v' vm' u0 u1 u2 u3 u4 u5 u6 u7 u8 gx := by
  have hw := h.low
  have hgb := h.gb
  have hb : Below w.heap.size w (((((((((W.setCell ⟨b, 0, none⟩ u0).setCell ⟨b, 1, none⟩ u1).setCell ⟨b, 2, none⟩ u2).setCell ⟨b, 3, none⟩ u3).setCell ⟨b, 4, none⟩ u4).setCell ⟨b, 5, none⟩ u5).setCell ⟨b, 6, none⟩ u6).setCell ⟨b, 7, none⟩ u7).setCell ⟨b, 8, none⟩ u8) := (((((((((h.lk.below.setCell hw _).setCell hw _).setCell hw _).setCell hw _).setCell hw _).setCell hw _).setCell hw _).setCell hw _).setCell hw _)
  have ht : Touch (fun x => x = b) W (((((((((W.setCell ⟨b, 0, none⟩ u0).setCell ⟨b, 1, none⟩ u1).setCell ⟨b, 2, none⟩ u2).setCell ⟨b, 3, none⟩ u3).setCell ⟨b, 4, none⟩ u4).setCell ⟨b, 5, none⟩ u5).setCell ⟨b, 6, none⟩ u6).setCell ⟨b, 7, none⟩ u7).setCell ⟨b, 8, none⟩ u8) := ((((((((((Touch.refl (fun x => x = b) W).setCell (p := ⟨b, 0, none⟩) (Or.inl rfl) u0).setCell (p := ⟨b, 1, none⟩) (Or.inl rfl) u1).setCell (p := ⟨b, 2, none⟩) (Or.inl rfl) u2).setCell (p := ⟨b, 3, none⟩) (Or.inl rfl) u3).setCell (p := ⟨b, 4, none⟩) (Or.inl rfl) u4).setCell (p := ⟨b, 5, none⟩) (Or.inl rfl) u5).setCell (p := ⟨b, 6, none⟩) (Or.inl rfl) u6).setCell (p := ⟨b, 7, none⟩) (Or.inl rfl) u7).setCell (p := ⟨b, 8, none⟩) (Or.inl rfl) u8)
  refine ⟨h.lk.touch ht fun k hk => by omega, ?_, hgb, hr.touch ht fun x _ e => Or.inr e⟩
  have := (((((((((h.box.put 0 u0).put 1 u1).put 2 u2).put 3 u3).put 4 u4).put 5 u5).put 6 u6).put 7 u7).put 8 u8)
  simpa using this
theorem UP.q (h : UP w W g b n s vl v vm v0 v1 v2 v3 v4 v5 v6 v7 v8 fx) : W.cell? ⟨b, 0, none⟩ = some v0 ∧ W.cell? ⟨b, 1, none⟩ = some v1 ∧ W.cell? ⟨b, 2, none⟩ = some v2 ∧ W.cell? ⟨b, 3, none⟩ = some v3 ∧ W.cell? ⟨b, 4, none⟩ = some v4 ∧ W.cell? ⟨b, 5, none⟩ = some v5 ∧ W.cell? ⟨b, 6, none⟩ = some v6 ∧ W.cell? ⟨b, 7, none⟩ = some v7 ∧ W.cell? ⟨b, 8, none⟩ = some v8 := ⟨h.box.cell 0, h.box.cell 1, h.box.cell 2, h.box.cell 3, h.box.cell 4, h.box.cell 5, h.box.cell 6, h.box.cell 7, h.box.cell 8⟩
end
theorem errIs {c : Int} {w W : World} (hg : ErrVar w) (hb : Below w.heap.size w W) : Calls Tryd.prog 6 #[errV 64 c, .int .i64 c] W fun e w' => e = .returned (.bool true) ∧ Below W.heap.size W w' :=
  (errorIs_any c c W (hg.below hb hg.lt)).mono fun _ _ ⟨he, hx⟩ => ⟨he.trans (by rw [decide_eq_true rfl]), hx⟩
theorem row_case (l : List Int) : (∃ x y, l = [x, y]) ∨ (∃ x, l = [x]) ∨ l.length ≠ 2 ∧ l.length ≠ 1 := by
  match l with
  | [] => exact .inr (.inr ⟨by simp, by simp⟩)
  | [x] => exact .inr (.inl ⟨x, rfl⟩)
  | [x, y] => exact .inl ⟨x, y, rfl⟩
  | _ :: _ :: _ :: _ => exact .inr (.inr ⟨by simp, by simp⟩)
theorem sAt_in {n : Nat} {s : FG} {p : Nat} (h : p < n) : sAt n s p = (s.v.h p).a := by
  rw [sAt, if_pos (by omega)]; rfl
end Go.Proofs.YtnplhjbbkccdnaaDoor.Fif
