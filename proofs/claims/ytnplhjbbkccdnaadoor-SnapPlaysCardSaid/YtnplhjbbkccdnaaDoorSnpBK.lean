/-
  The reference of package snap: how its slices hold chapter 14's state; BeginBoard over it.
-/
import Derived.Test.YtnplhjbbkccdnaaDoorSnpWds
import Derived.Test.YtnplhjbbkccdnaaDoorSnpRef3
import Derived.Test.YtnplhjbbkccdnaaDoorSnapLkN
namespace Go.Proofs.YtnplhjbbkccdnaaDoor.Snap
open Go.RowKit

/-- What the reference has of a hand, where it counts: what it writes, whether it does, its first words, its last ones, who moved, what it saw. -/
structure HKp (n : Nat) (b : SB) (x : Int) (w : Bool) (Gf Gl Gm Gs : Pd) : Prop where
  xw : b.a ≠ 0 → x = ((b.x : Nat) : Int) ∧ w = b.w
  one : b.a = 1 → Gf = wds n b.k b.f ∧ Gl = SL 0 [] ∧ Gm = nm n fun q => ((b.mv q : Nat) : Int)
  two : b.a = 2 → Gf = wds n n b.f ∧ Gl = wds n b.k b.l ∧ Gm = nm n fun q => ((b.mv q : Nat) : Int)
  three : b.a = 3 → Gs = nm n fun q => ((b.sw q : Nat) : Int)
theorem HKp.zero {n : Nat} {b : SB} {x : Int} {w : Bool} {Gf Gl Gm Gs : Pd} (h : b.a = 0) : HKp n b x w Gf Gl Gm Gs := ⟨fun e => absurd h e, fun e => by omega, fun e => by omega, fun e => by omega⟩
/-- The reference's board, by value, apart from blocks F. -/
structure BK (F : Nat → Prop) (W : World) (n : Nat) (s : SS) (v0 v1 v2 v3 v4 v5 v6 v7 : Value) (fx : Nat → Int) (fb : Nat → Bool) (Gf Gl Gm Gs : Nat → Pd) : Prop where
  rv : RV F W v0 v1 v2 v3 v4 v5 v6 v7 (wds n n s.wd) (nm n fun p => (((s.h p).a : Nat) : Int)) (nm n fx) (bl n fb) (sl n Gf) (sl n Gl) (sl n Gm) (sl n Gs)
  gf : ∀ i, i < n → Stb (Gf i)
  gl : ∀ i, i < n → Stb (Gl i)
  gm : ∀ i, i < n → Stb (Gm i)
  gs : ∀ i, i < n → Stb (Gs i)
  f : ∀ p, p < n → HKp n (s.h p) (fx p) (fb p) (Gf p) (Gl p) (Gm p) (Gs p)
section
variable {F F' O : Nat → Prop} {W W' : World} {n : Nat} {s : SS} {v0 v1 v2 v3 v4 v5 v6 v7 : Value} {fx : Nat → Int} {fb : Nat → Bool} {Gf Gl Gm Gs : Nat → Pd}
theorem BK.below (h : BK F W n s v0 v1 v2 v3 v4 v5 v6 v7 fx fb Gf Gl Gm Gs) (hb : Below W.heap.size W W') : BK F W' n s v0 v1 v2 v3 v4 v5 v6 v7 fx fb Gf Gl Gm Gs := ⟨h.rv.below hb, h.gf, h.gl, h.gm, h.gs, h.f⟩
theorem BK.touch (h : BK F W n s v0 v1 v2 v3 v4 v5 v6 v7 fx fb Gf Gl Gm Gs) (ht : Touch O W W') (hO : ∀ b, b < W.heap.size → O b → F b) : BK F W' n s v0 v1 v2 v3 v4 v5 v6 v7 fx fb Gf Gl Gm Gs := ⟨h.rv.touch ht hO, h.gf, h.gl, h.gm, h.gs, h.f⟩
theorem BK.more (h : BK F W n s v0 v1 v2 v3 v4 v5 v6 v7 fx fb Gf Gl Gm Gs) (hF : ∀ b, b < W.heap.size → F' b → F b) : BK F' W n s v0 v1 v2 v3 v4 v5 v6 v7 fx fb Gf Gl Gm Gs := ⟨h.rv.more hF, h.gf, h.gl, h.gm, h.gs, h.f⟩
theorem BK.forms (h : BK F W n s v0 v1 v2 v3 v4 v5 v6 v7 fx fb Gf Gl Gm Gs) : ∃ A0 c0 A1 c1 A2 c2 A3 c3 A4 c4 A5 c5 A6 c6 A7 c7, v0 = .slice A0 n c0 ∧ v1 = .slice A1 n c1 ∧ v2 = .slice A2 n c2 ∧ v3 = .slice A3 n c3 ∧ v4 = .slice A4 n c4 ∧ v5 = .slice A5 n c5 ∧ v6 = .slice A6 n c6 ∧ v7 = .slice A7 n c7 := by
  obtain ⟨A0, c0, e0⟩ := SL.form h.rv.p0
  obtain ⟨A1, c1, e1⟩ := SL.form h.rv.p1
  obtain ⟨A2, c2, e2⟩ := SL.form h.rv.p2
  obtain ⟨A3, c3, e3⟩ := SL.form h.rv.p3
  obtain ⟨A4, c4, e4⟩ := SL.form h.rv.p4
  obtain ⟨A5, c5, e5⟩ := SL.form h.rv.p5
  obtain ⟨A6, c6, e6⟩ := SL.form h.rv.p6
  obtain ⟨A7, c7, e7⟩ := SL.form h.rv.p7
  exact ⟨A0, c0, A1, c1, A2, c2, A3, c3, A4, c4, A5, c5, A6, c6, A7, c7, e0, e1, e2, e3, e4, e5, e6, e7⟩
end
/-- What BeginBoard hands back. -/
def BegT (F : Nat → Prop) (w w' : World) (n : Nat) (E : Int) (s : SS) (e : Ending) : Prop := ∃ u0 u1 u2 u3 u4 u5 u6 u7 gx gb Hf Hl Hm Hs, e = .returned (.tuple #[.agg #[u0, u1, u2, u3, u4, u5, u6, u7], .int .i64 E]) ∧ BK F w' n s u0 u1 u2 u3 u4 u5 u6 u7 gx gb Hf Hl Hm Hs ∧ Below w.heap.size w w'
theorem begin_ref {F : Nat → Prop} {n : Nat} {s : SS} {v0 v1 v2 v3 v4 v5 v6 v7 : Value} {fx : Nat → Int} {fb : Nat → Bool} {Gf Gl Gm Gs : Nat → Pd} (w : World) (h : BK F w n s v0 v1 v2 v3 v4 v5 v6 v7 fx fb Gf Gl Gm Gs) (hF : ∀ b, F b → b < w.heap.size) (h1 : 1 ≤ n) (h4 : n ≤ 4) (p x : Int) (wr : Bool) :
    Calls Tryd.prog 8 #[.agg #[v0, v1, v2, v3, v4, v5, v6, v7], .int .i64 p, .bool wr, .int .i64 x] w fun e w' => BegT F w w' n (if x < 0 ∨ 1000 < x then 1 else bgE n s p) (if (if x < 0 ∨ 1000 < x then 1 else bgE n s p) = 0 then sbeg s p.toNat wr x.toNat else s) e := by
  obtain ⟨A0, c0, A1, c1, A2, c2, A3, c3, A4, c4, A5, c5, A6, c6, A7, c7, rfl, rfl, rfl, rfl, rfl, rfl, rfl, rfl⟩ := h.forms
  have he : bbE n (fun p => (((s.h p).a : Nat) : Int)) p x = if x < 0 ∨ 1000 < x then 1 else bgE n s p := by
    unfold bbE bgE
    by_cases hx : x < 0 ∨ 1000 < x
    · rw [if_pos hx, if_pos (Or.inr (by omega))]
    · rw [if_neg hx]
      by_cases hp : 0 ≤ p ∧ p < n
      · rw [if_neg (show ¬ (¬ (0 ≤ p ∧ p < (n : Int)) ∨ ¬ (0 ≤ x ∧ x ≤ 1000)) by omega), if_neg (show ¬ ¬ (0 ≤ p ∧ p < (n : Int)) from fun h => h hp)]
        by_cases ha : (s.h p.toNat).a = 0
        · rw [if_neg (show ¬ (((s.h p.toNat).a : Nat) : Int) ≠ 0 by omega), if_neg (fun h => h ha)]
        · rw [if_pos (show (((s.h p.toNat).a : Nat) : Int) ≠ 0 by omega), if_pos ha]
      · rw [if_pos (Or.inl hp), if_pos hp]
  refine (beginBoard_any w rfl rfl h.rv h.gf h.gl h.gm hF h1 h4 p x wr).mono fun e w' ⟨u1, u2, u3, u4, u5, u6, h2, h3, h5, h6⟩ => ?_
  rw [← he]
  by_cases h0 : bbE n (fun p => (((s.h p).a : Nat) : Int)) p x = 0
  · rw [if_pos h0]
    have hp : 0 ≤ p ∧ p < n := by
      unfold bbE at h0
      refine Decidable.by_contra fun hn => ?_
      rw [if_pos (Or.inl hn)] at h0
      omega
    obtain ⟨q, rfl⟩ := Int.eq_ofNat_of_zero_le hp.1
    have hq : q < n := by omega
    have hx : 0 ≤ x := by
      unfold bbE at h0
      refine Decidable.by_contra fun hn => ?_
      rw [if_pos (Or.inr (by omega))] at h0
      omega
    obtain ⟨y, rfl⟩ := Int.eq_ofNat_of_zero_le hx
    rw [Int.toNat_natCast, Int.toNat_natCast]
    have hrv := h6 h0
    rw [Int.toNat_natCast] at hrv
    have ea : ∀ i, i < n → ((((sbeg s q wr y).h i).a : Nat) : Int) = rput (fun p => (((s.h p).a : Nat) : Int)) q 1 i := fun i _ => by
      show (((nput s.h q _ i).a : Nat) : Int) = _
      by_cases e : i = q
      · rw [e, nput_same, rput_same]; rfl
      · rw [nput_other e, rput_other e]
    have en : nm n (rput (fun p => (((s.h p).a : Nat) : Int)) q 1) = nm n fun p => ((((sbeg s q wr y).h p).a : Nat) : Int) := by
      unfold nm sl
      exact congrArg (SL n) (List.map_congr_left fun i hi => by rw [← ea i (List.mem_range.1 hi)])
    rw [en] at hrv
    have hz : Stb (SL 0 []) := SL_stb fun _ h => by cases h
    refine ⟨_, u1, u2, u3, u4, u5, u6, _, _, _, _, _, _, Gs, h2, ⟨hrv, rput_stb h.gf hz, rput_stb h.gl hz, rput_stb h.gm (nm_stb _ _), h.gs, fun p hp => ?_⟩, h3⟩
    show HKp n (nput s.h q _ p) _ _ _ _ _ _
    by_cases e : p = q
    · subst e
      rw [nput_same, rput_same, rput_same, rput_same, rput_same, rput_same]
      exact ⟨fun _ => ⟨rfl, rfl⟩, fun _ => ⟨rfl, rfl, rfl⟩, fun e => by have e : (1 : Nat) = 2 := e; omega, fun e => by have e : (1 : Nat) = 3 := e; omega⟩
    · rw [nput_other e, rput_other e, rput_other e, rput_other e, rput_other e, rput_other e]
      exact h.f p hp
  · rw [if_neg h0]
    exact ⟨_, u1, u2, u3, u4, u5, u6, _, fx, fb, Gf, Gl, Gm, Gs, h2, ⟨h5 h0, h.gf, h.gl, h.gm, h.gs, h.f⟩, h3⟩
end Go.Proofs.YtnplhjbbkccdnaaDoor.Snap
