/-
  The reference of package ring: StepPut and StepGet.
-/
import Derived.Test.YtihidjbepjeceaaDoorRngRS
import Derived.Test.YtihidjbepjeceaaDoorRefSetO
import Derived.Test.YtihidjbepjeceaaDoorRingLkN
import Derived.Test.YtihidjbepjeceaaDoorHeldZ
import Derived.Test.YtihidjbepjeceaaDoorHeldA
import Derived.StillTailTactics
import Derived.Deep.RegionHeld3
namespace Go.Proofs.YtihidjbepjeceaaDoor.Ring
open Go.RowKit Rf

/-- The places, as a slice of the reference has them. -/
def pn (n : Nat) (s : RGS) : Pd := nm n fun i => ((s.pl i : Nat) : Int)
/-- What a step of the reference hands back: the ring, and what is told. -/
def SpT (F : Nat → Prop) (w w' : World) (n : Nat) (s : RGS) (x y z : Value) (e : Ending) : Prop := ∃ A c, e = .returned (.tuple #[.agg #[.slice A n c, .int .i64 ((s.hd : Nat) : Int), .int .i64 ((s.tl : Nat) : Int), .int .i64 ((s.pa : Nat) : Int), .int .i64 ((s.ga : Nat) : Int), .int .i64 ((s.pv : Nat) : Int), .int .i64 ((s.gv : Nat) : Int)], x, y, z]) ∧ pn n s F w' (.slice A n c) ∧ Below w.heap.size w w'
theorem SpT.of {F : Nat → Prop} {w w' : World} {n : Nat} {s : RGS} {x y z : Value} {e : Ending} (h : ∃ A c, e = .returned (.tuple #[.agg #[.slice A n c, .int .i64 ((s.hd : Nat) : Int), .int .i64 ((s.tl : Nat) : Int), .int .i64 ((s.pa : Nat) : Int), .int .i64 ((s.ga : Nat) : Int), .int .i64 ((s.pv : Nat) : Int), .int .i64 ((s.gv : Nat) : Int)], x, y, z]) ∧ pn n s F w' (.slice A n c) ∧ Below w.heap.size w w') : SpT F w w' n s x y z e := h
theorem pn_stb (n : Nat) (s : RGS) : Stb (pn n s) := nm_stb _ _
theorem start_ring {F : Nat → Prop} {n : Nat} {s : RGS} {w : World} {A : Option Addr} {c : Nat} (h : pn n s F w (.slice A n c)) : RV F w (.slice A n c) (.int .i64 ((s.hd : Nat) : Int)) (.int .i64 ((s.tl : Nat) : Int)) (.int .i64 ((s.pa : Nat) : Int)) (.int .i64 ((s.ga : Nat) : Int)) (.int .i64 ((s.pv : Nat) : Int)) (.int .i64 ((s.gv : Nat) : Int)) (pn n s) (isInt ((s.hd : Nat) : Int)) (isInt ((s.tl : Nat) : Int)) (isInt ((s.pa : Nat) : Int)) (isInt ((s.ga : Nat) : Int)) (isInt ((s.pv : Nat) : Int)) (isInt ((s.gv : Nat) : Int)) :=
  ⟨h, rfl, rfl, rfl, rfl, rfl, rfl, pn_stb _ _, isInt_stb _, isInt_stb _, isInt_stb _, isInt_stb _, isInt_stb _, isInt_stb _⟩
theorem far7 {W : World} {b : Nat} {u0 u1 u2 u3 u4 u5 u6 x0 x1 x2 x3 x4 x5 x6 : Value} (h : W.cell? ⟨b, 0, none⟩ = some u0 ∧ W.cell? ⟨b, 1, none⟩ = some u1 ∧ W.cell? ⟨b, 2, none⟩ = some u2 ∧ W.cell? ⟨b, 3, none⟩ = some u3 ∧ W.cell? ⟨b, 4, none⟩ = some u4 ∧ W.cell? ⟨b, 5, none⟩ = some u5 ∧ W.cell? ⟨b, 6, none⟩ = some u6) : (((((((W.setCell ⟨b + 1, 0, none⟩ x0).setCell ⟨b + 1, 1, none⟩ x1).setCell ⟨b + 1, 2, none⟩ x2).setCell ⟨b + 1, 3, none⟩ x3).setCell ⟨b + 1, 4, none⟩ x4).setCell ⟨b + 1, 5, none⟩ x5).setCell ⟨b + 1, 6, none⟩ x6).drew.cell? ⟨b, 0, none⟩ = some u0 ∧ (((((((W.setCell ⟨b + 1, 0, none⟩ x0).setCell ⟨b + 1, 1, none⟩ x1).setCell ⟨b + 1, 2, none⟩ x2).setCell ⟨b + 1, 3, none⟩ x3).setCell ⟨b + 1, 4, none⟩ x4).setCell ⟨b + 1, 5, none⟩ x5).setCell ⟨b + 1, 6, none⟩ x6).drew.cell? ⟨b, 1, none⟩ = some u1 ∧ (((((((W.setCell ⟨b + 1, 0, none⟩ x0).setCell ⟨b + 1, 1, none⟩ x1).setCell ⟨b + 1, 2, none⟩ x2).setCell ⟨b + 1, 3, none⟩ x3).setCell ⟨b + 1, 4, none⟩ x4).setCell ⟨b + 1, 5, none⟩ x5).setCell ⟨b + 1, 6, none⟩ x6).drew.cell? ⟨b, 2, none⟩ = some u2 ∧ (((((((W.setCell ⟨b + 1, 0, none⟩ x0).setCell ⟨b + 1, 1, none⟩ x1).setCell ⟨b + 1, 2, none⟩ x2).setCell ⟨b + 1, 3, none⟩ x3).setCell ⟨b + 1, 4, none⟩ x4).setCell ⟨b + 1, 5, none⟩ x5).setCell ⟨b + 1, 6, none⟩ x6).drew.cell? ⟨b, 3, none⟩ = some u3 ∧ (((((((W.setCell ⟨b + 1, 0, none⟩ x0).setCell ⟨b + 1, 1, none⟩ x1).setCell ⟨b + 1, 2, none⟩ x2).setCell ⟨b + 1, 3, none⟩ x3).setCell ⟨b + 1, 4, none⟩ x4).setCell ⟨b + 1, 5, none⟩ x5).setCell ⟨b + 1, 6, none⟩ x6).drew.cell? ⟨b, 4, none⟩ = some u4 ∧ (((((((W.setCell ⟨b + 1, 0, none⟩ x0).setCell ⟨b + 1, 1, none⟩ x1).setCell ⟨b + 1, 2, none⟩ x2).setCell ⟨b + 1, 3, none⟩ x3).setCell ⟨b + 1, 4, none⟩ x4).setCell ⟨b + 1, 5, none⟩ x5).setCell ⟨b + 1, 6, none⟩ x6).drew.cell? ⟨b, 5, none⟩ = some u5 ∧ (((((((W.setCell ⟨b + 1, 0, none⟩ x0).setCell ⟨b + 1, 1, none⟩ x1).setCell ⟨b + 1, 2, none⟩ x2).setCell ⟨b + 1, 3, none⟩ x3).setCell ⟨b + 1, 4, none⟩ x4).setCell ⟨b + 1, 5, none⟩ x5).setCell ⟨b + 1, 6, none⟩ x6).drew.cell? ⟨b, 6, none⟩ = some u6 := by
  have hne : b ≠ b + 1 := by omega
  have f : ∀ (V : World) (i j : Nat) (x : Value), (V.setCell ⟨b + 1, j, none⟩ x).cell? ⟨b, i, none⟩ = V.cell? ⟨b, i, none⟩ := fun V i j x => World.cell?_of_block (w := V) (Below.heap_setCell V ⟨b + 1, j, none⟩ x b hne)
  obtain ⟨h0, h1, h2, h3, h4, h5, h6⟩ := h
  refine ⟨?_, ?_, ?_, ?_, ?_, ?_, ?_⟩
  · rw [World.cell?_drew, f, f, f, f, f, f, f]; exact h0
  · rw [World.cell?_drew, f, f, f, f, f, f, f]; exact h1
  · rw [World.cell?_drew, f, f, f, f, f, f, f]; exact h2
  · rw [World.cell?_drew, f, f, f, f, f, f, f]; exact h3
  · rw [World.cell?_drew, f, f, f, f, f, f, f]; exact h4
  · rw [World.cell?_drew, f, f, f, f, f, f, f]; exact h5
  · rw [World.cell?_drew, f, f, f, f, f, f, f]; exact h6
theorem told_drew {F : Nat → Prop} {w X : World} {k : Nat} {t : TypeId} {cs : Array Value} {v0 v1 v2 v3 v4 v5 v6 : Value} {P0 P1 P2 P3 P4 P5 P6 : Pd} (h : Block X k t cs ∧ Below w.heap.size w X ∧ RV F X v0 v1 v2 v3 v4 v5 v6 P0 P1 P2 P3 P4 P5 P6) : Block X.drew k t cs ∧ Below w.heap.size w X.drew ∧ RV F X.drew v0 v1 v2 v3 v4 v5 v6 P0 P1 P2 P3 P4 P5 P6 := ⟨h.1, h.2.1.drew, h.2.2.below (Below.refl _ _).drew⟩
theorem set_pn {F : Nat → Prop} {n m x : Nat} {s s' : RGS} {v : Value} {w : World} (hF : ∀ b, F b → b < w.heap.size) (h : pn n s F w v) (hm : m < n) (h8 : n ≤ 1000) (hs : ∀ i, s'.pl i = gup s.pl m x i) :
    Calls Tryd.prog 17 #[v, .int .i64 (m : Int), .int .i64 (x : Int)] w fun e w' => ∃ A c, e = .returned (.slice A n c) ∧ pn n s' F w' (.slice A n c) ∧ Below w.heap.size w w' :=
  (set_nm (x : Int) hF h hm h8).mono fun _ _ ⟨A, c, he, hn, hb⟩ => ⟨A, c, he, nm_congr hn fun i _ => by
    rw [hs i]
    by_cases e : i = m
    · rw [e, gup_same, rput_same]
    · rw [gup_other e, rput_other e], hb⟩
end Go.Proofs.YtihidjbepjeceaaDoor.Ring
