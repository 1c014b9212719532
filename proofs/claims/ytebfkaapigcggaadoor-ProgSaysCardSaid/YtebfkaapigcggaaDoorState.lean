/-
  What (prog.state).done, step, finish and told answer.
-/
import Derived.Test.YtebfkaapigcggaaDoorCheck
import Derived.Test.YtebfkaapigcggaaDoorFinMath
namespace Go.Proofs.YtebfkaapigcggaaDoor
open Go.RowKit

theorem row_one (zs : List Int) : (row zs).all (·.oneCell') = true := by
  rw [Array.all_eq_true_iff_forall_mem]
  intro v hv
  simp [row] at hv
  obtain ⟨a, _, rfl⟩ := hv
  rfl
theorem row_at (zs : List Int) (i : Nat) (h : i < zs.length) : ∃ x, (row zs)[i]? = some (.int .i64 x) := ⟨zs[i], row_get (List.getElem?_eq_getElem h)⟩
theorem below_setRow {B : Nat} {a w : World} (h : Below B a w) {g : Nat} (hg : B ≤ g) (cs : Array Value) : Below B a (w.setRow g cs) :=
  ⟨h.os, h.tape, h.output, by simpa [World.setRow] using h.size, fun k hk => (setRow_other w g k cs (by omega)).trans (h.block k hk)⟩
theorem row_set (zs : List Int) (i : Nat) (z : Int) : (row zs).setIfInBounds i (.int .i64 z) = row (zs.set i z) := by
  apply Array.ext'
  simp [row, List.map_set]

set_option maxHeartbeats 1000000 in
theorem done_any (zs : List Int) (words : Int) (hv : Value) (hs : List (List Ln)) (h : Nat) (ls : List Ln) (pc : Int) (w : World) (hh : Hands w w.heap.size hv hs) (hl : hs[h]? = some ls) (h3 : hs.length ≤ 3)
    (hp : zs[h * 4 + 2]? = some pc) :
    Calls Tryd.prog 24 #[.agg (row zs), .agg #[.int .i64 words, hv], .int .i64 h] w fun e w' => e = .returned (.bool (decide ((ls.length : Int) ≤ pc))) ∧ Below w.heap.size w w' := by
  obtain ⟨A, c, rfl, hlen, hh⟩ := hh
  have hlt : h < hs.length := (List.getElem?_eq_some_iff.1 hl).1
  obtain ⟨b, o, rfl, hb, hc⟩ := hh (by omega)
  obtain ⟨u, hu, hL⟩ := hc h ls hl
  obtain ⟨A', c', rfl, hl2, hL⟩ := hL
  have hr := row_get hp
  clear hh hc hL hl hp
  have i1 : (0 : Int) ≤ (h : Int) := by omega
  have i2 : (h : Int) < 4 := by omega
  have i3 : (h : Int) < hs.length := by omega
  go_enter Tryd.func24, Tryd.ntmps24
  go_wp2
  go_quiet (fail)
  go_wp2
  go_ret
  exact ⟨rfl, below_drewN (((Below.refl _ _).alloc (Nat.le_refl _) _).alloc (by simp) _) _⟩

theorem Tst.info : (Tryd.prog.info? 53).map (·.size) = some 16 := by kernel_rfl

end Go.Proofs.YtebfkaapigcggaaDoor
