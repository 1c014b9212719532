/-
  What latchgarthref1.copied, first and next answer.
-/
import Derived.Test.YtkohobbjnafljaaDoorRow
import Derived.Test.YtkohobbjnafljaaDoorRefCheck
import Derived.Test.YtkohobbjnafljaaDoorRefMath
import Derived.Outline
namespace Go.Proofs.YtkohobbjnafljaaDoor
open Go.RowKit

theorem rowAt_of_own {w : World} {base e n : Nat} {v : Value} {ys : List Int} (h : w.ownsRow base e 1 v n (ys.map (Value.int .i64))) (hn : 0 < n) : ∃ g c, v = .slice (some ⟨g, 0, none⟩) n c ∧ n ≤ c ∧ base ≤ g ∧ g < w.heap.size ∧ RowAt w g ys := by
  have hl : ys.length = n := by have := h.1; simpa using this
  have h0 := h
  rcases h.2 with ⟨rfl, h1⟩ | ⟨g, cap, cur, rfl, hb, _, hnc, _, _, _⟩
  · omega
  · refine ⟨g, cap, rfl, hnc, hb, (h0.lt g rfl).2, fun i z hz => ⟨?_, h0.frozenAt i⟩⟩
    have hi : i < n := by have := (List.getElem?_eq_some_iff.1 hz).1; omega
    rw [h0.cellAt i (by omega), List.getElem?_map, hz]; rfl

theorem Tin2.info : (Tryd.prog.info? 3).map (fun i => (i.zero, i.size, i.bytes)) = some (some (.int .i64 0), 1, 8) := by kernel_rfl
theorem Tin2.size : (Tryd.prog.info? 3).map (·.size) = some 1 := by kernel_rfl

def CopyPost (w : World) (ys : List Int) (e : Ending) (w' : World) : Prop := ∃ g c, e = .returned (.slice (some ⟨g, 0, none⟩) ys.length c) ∧ ys.length ≤ c ∧ w.heap.size ≤ g ∧ g < w'.heap.size ∧ RowAt w' g ys ∧ Below w.heap.size w w'
theorem copied_any (sv : Value) (ys : List Int) (B : Nat) (w : World) (hs : Nums w B sv ys) (h0 : 0 < ys.length) (h1 : ys.length ≤ 1000) :
    Calls Tryd.prog 38 #[sv] w (CopyPost w ys) := by
  obtain ⟨A, c, rfl, hl, hs⟩ := hs
  obtain ⟨b, o, rfl, hb, hc⟩ := hs h0
  obtain ⟨i0, hi, hz0, hz1, hz2⟩ := info_parts Tin2.info
  have HC := Lib.hid hc
  clear hc hs
  have cells : ∀ j u, (ys.map (Value.int .i64))[j]? = some u → w.cell? ((⟨b, o, none⟩ : Addr).add j) = some u := by
    intro j u hu
    rw [List.getElem?_map] at hu
    cases hz : ys[j]? with
    | none => rw [hz] at hu; cases hu
    | some z =>
      rw [hz] at hu
      rw [← Option.some.inj hu, show (⟨b, o, none⟩ : Addr).add j = ⟨b, o + j, none⟩ by unfold Addr.add; by_cases h : j = 0 <;> simp [h]]
      exact HC.out j z hz
  have HCE := Lib.hid cells
  clear cells
  go_enter Tryd.func38, Tryd.ntmps38
  go_wp2_with (at_builtin; refine wpList_append_own _ rfl (.tmp 4) (.tmp 5) 53 rfl w.heap.size 3 i0 (.int .i64 0) 1 8 Tryd.underlying53 hi hz0 hz1 hz2 rfl (by decide) _ _ _ rfl (World.ownsRow_nil _ _ _ _) ⟨b, o, none⟩ ys.length c (ys.map (Value.int .i64)) rfl (by simp) HCE.out (by intro u hu; simp at hu; obtain ⟨a, _, rfl⟩ := hu; rfl) (by unfold maxLen; omega) (by omega) (Nat.le_refl _) ?_; intro v1 w1 hown hg _)
  go_ret
  obtain ⟨g, c1, rfl, hnc, hg1, hg2, hr⟩ := rowAt_of_own (by simpa using hown) (by omega)
  exact ⟨g, c1, by simp, by simpa using hnc, hg1, hg2, hr, (Below.refl _ _).grown hg (Nat.le_refl _) (fun k hk => by cases hk)⟩

theorem RowAt.of_block {w : World} {g : Nat} {T : TypeId} {ys : List Int} (h : Block w g T (row ys)) : RowAt w g ys := fun i _ hz => ⟨(h.cell i).trans (row_get hz), h.free i⟩
set_option maxRecDepth 100000 in
theorem first_any (w : World) : Calls Tryd.prog 21 #[] w (CopyPost w (List.replicate 46 0)) := by
  have hmk : ∀ w, (Instr.makeSlice 53 (.int .i64 46) (.int .i64 46)).run Tryd.prog w = .ok (.slice (some ⟨w.heap.size, 0, none⟩) 46 46) (w.alloc (.cells (row (List.replicate 46 0)) 3)) := fun w => by kernel_rfl
  go_enter Tryd.func21, Tryd.ntmps21
  go_wp2
  go_ret
  exact ⟨_, _, rfl, by simp, Nat.le_refl _, by simp, RowAt.of_block (T := 3) (ys := List.replicate 46 0) (Block.made _ _ _), (Below.refl _ _).alloc (Nat.le_refl _) _⟩

set_option maxHeartbeats 1000000 in
theorem next_any (words : Int) (hv sv : Value) (hs : List (List Ln)) (ys : List Int) (B h n : Nat) (ls : List Ln) (w : World) (hh : Hands w w.heap.size hv hs) (hn : Nums w B sv ys) (hl : hs[h]? = some ls) (hp : ys[h * 3]? = some (n : Int)) :
    Calls Tryd.prog 22 #[.agg #[.int .i64 words, hv], sv, .int .i64 h] w fun e w' => e = .returned (.tuple #[lnV (nextOf hs ys h).1, .bool (nextOf hs ys h).2]) ∧ Below w.heap.size w w' := by
  have hlt : h < hs.length := (List.getElem?_eq_some_iff.1 hl).1
  have hly : h * 3 < ys.length := (List.getElem?_eq_some_iff.1 hp).1
  obtain ⟨A, c, rfl, hlen, hh⟩ := hh
  obtain ⟨b, o, rfl, hb, hc⟩ := hh (by omega)
  obtain ⟨u, hu, hL⟩ := hc h ls hl
  obtain ⟨A', c', rfl, hl2, hL⟩ := hL
  obtain ⟨A2, c2, rfl, hl3, hn⟩ := hn
  obtain ⟨b2, o2, rfl, hb2, hc2⟩ := hn (by omega)
  have hpc := hc2 _ _ hp
  have hb2' : b2 < w.heap.size := lt_of_cell hpc
  have i1 : (0 : Int) ≤ (h : Int) := by omega
  have i3 : (h : Int) < hs.length := by omega
  have i4 : (h : Int) * 3 < ys.length := by omega
  have e1 : ((h : Int) * 3).toNat = h * 3 := by omega
  have i5 : (h : Int) * 3 ≤ 9223372036854775807 := by omega
  by_cases hd : ls.length ≤ n
  · have hX : nextOf hs ys h = (⟨0, 0, 0, 0⟩, false) := by
      simp only [nextOf, List.getD_eq_getElem?_getD, hl, hp, Option.getD_some]
      rw [if_pos (by omega)]
    have HX := Lib.hid hX
    clear hX hh hc hL hn hc2 hl hp
    go_enter Tryd.func22, Tryd.ntmps22
    go_wp2
    refine bodyPost_ret (v := .tuple #[.agg #[.int .i64 0, .int .i64 0, .int .i64 0, .int .i64 0], .bool false]) (by simp [results, Tryd.results22, go_sem]) rfl ⟨by rw [HX.out]; rfl, ((Below.refl _ _).alloc (Nat.le_refl _) _).alloc (by simp) _⟩
  · have hnl : n < ls.length := by omega
    obtain ⟨b3, o3, rfl, hb3, hc3⟩ := hL (by omega)
    obtain ⟨l, hln⟩ : ∃ l, ls[n]? = some l := ⟨_, List.getElem?_eq_getElem hnl⟩
    obtain ⟨f0, f1, f2, f3⟩ := hc3 n l hln
    have hX : nextOf hs ys h = (l, true) := by
      simp only [nextOf, List.getD_eq_getElem?_getD, hl, hp, Option.getD_some]
      rw [if_neg (by omega), Int.toNat_natCast, hln]; rfl
    have HX := Lib.hid hX
    have i6 : (n : Int) < ls.length := by omega
    obtain ⟨k, r, d, v⟩ := l
    simp only at f0 f1 f2 f3
    clear hX hh hc hL hn hc2 hl hp hc3 hln hd
    go_enter Tryd.func22, Tryd.ntmps22
    go_wp2
    refine bodyPost_ret (v := .tuple #[.agg #[.int .i64 k, .int .i64 r, .int .i64 d, .int .i64 v], .bool true]) (by simp [results, Tryd.results22, go_sem]) rfl ⟨by rw [HX.out]; rfl, ((Below.refl _ _).alloc (Nat.le_refl _) _).alloc (by simp) _⟩
end Go.Proofs.YtkohobbjnafljaaDoor
