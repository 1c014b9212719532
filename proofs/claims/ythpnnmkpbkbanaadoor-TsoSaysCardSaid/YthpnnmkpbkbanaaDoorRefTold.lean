/-
  What latchgarthref1.result answers.
-/
import Derived.Test.YthpnnmkpbkbanaaDoorRefC
import Derived.Test.YthpnnmkpbkbanaaDoorTold
import Derived.Test.YthpnnmkpbkbanaaDoorRefMm
namespace Go.Proofs.YthpnnmkpbkbanaaDoor
open Go.RowKit

theorem append_same (ty : TypeId) (A1 A2 : Option Addr) (n1 c1 n2 c2 : Nat) (w : World) :
    (Builtin.append_ #[47, 48] ty #[.slice A1 n1 c1, .slice A2 n2 c2]).run Tryd.prog w = (Builtin.append_ #[47, 47] ty #[.slice A1 n1 c1, .slice A2 n2 c2]).run Tryd.prog w := by
  simp [Builtin.append_, run_underlying Tryd.underlying47, run_underlying Tryd.underlying48]

theorem Block.grown {w w' : World} {g : Nat} {t : TypeId} {cs : Array Value} {row : Option Nat} (h : Block w g t cs) (hg : w.grownBy w' row) (hne : some g ≠ row) : Block w' g t cs := (hg.block g h.lt hne).trans h

theorem numsP_of_own {w : World} {base e : Nat} {v : Value} {zs : List Int} (h : w.ownsRow base e 1 v zs.length (zs.map (Value.int .i64))) (hm : zs.length ≤ 9223372036854775807) {P : Nat → Prop} (hP : ∀ b, base ≤ b → b < w.heap.size → P b) : NumsP w P v zs := by
  obtain ⟨A, c, e1, h1, h2⟩ := nums_of_own h hm
  refine ⟨A, c, e1, h1, fun h0 => ?_⟩
  obtain ⟨b, o, e2, h3, h4⟩ := h2 h0
  refine ⟨b, o, e2, hP b ?_ h3, h4⟩
  subst e1 e2
  exact (h.lt b rfl).1

set_option maxRecDepth 100000 in
set_option maxHeartbeats 2000000 in
theorem result_new (ys : List Int) (sv : Value) (words : Int) (hv : Value) (hs : List (List Ln)) (B : Nat) (w : World) (hh : Hands w w.heap.size hv hs) (h3 : hs.length ≤ 3) (hw1 : 1 ≤ words) (hw4 : words ≤ 4) (b o c2 : Nat) (hsv : sv = .slice (some ⟨b, o, none⟩) 46 c2) (h46 : 46 ≤ c2) (hn : Nums w B sv ys) (hB : B ≤ w.heap.size) (hl : ys.length = 46) :
    Calls Tryd.prog 21 #[.agg #[.int .i64 words, hv], sv] w fun e w' => ∃ v, e = .returned v ∧ NumsP w' (fun b => w.heap.size ≤ b ∧ b < w'.heap.size) v (refRegs ys hs.length ++ refWords ys words.toNat) ∧ Below w.heap.size w w' := by
  obtain ⟨A, c, rfl, hlen, hh⟩ := hh
  clear hh
  obtain ⟨n, rfl⟩ := Int.eq_ofNat_of_zero_le (show 0 ≤ words by omega)
  obtain ⟨i0, hi, hz0, hz1, hz2⟩ := info_parts Tin.info
  subst hsv
  obtain ⟨A2, c3, hse, hl2, hn⟩ := hn
  obtain ⟨b', o', rfl, hb, hc⟩ := hn (by omega)
  obtain ⟨rfl, rfl⟩ : b = b' ∧ o = o' := by
    injection hse with h1 h2 h3
    injection h1 with h1
    injection h1 with h4 h5
    exact ⟨h4, h5⟩
  clear hse
  have HL := Lib.hid hl
  have hbw : b < w.heap.size := by omega
  have HC := Lib.hid (show ∀ i, i < 46 → w.cell? ⟨b, o + i, none⟩ = some (.int .i64 (ys.getD i 0)) from fun i hi => hc i _ (getD_at (by omega)))
  clear hc hn hl hl2
  have K0 := Lib.hid (Block.made w 24 #[.int .i64 n, .slice A hs.length c])
  have HB0 := Lib.hid ((Below.refl w.heap.size w).alloc (Nat.le_refl _) (.cells #[.int .i64 n, .slice A hs.length c] 24))
  go_enter Tryd.func21, Tryd.ntmps21
  go_wp2_with fail
  go_loopw [5, 6] (fun v i wr => ∃ k : Nat, k ≤ hs.length ∧ i = .int .i64 k ∧ wr.ownsRow (w.heap.size + 1) 3 1 v (refRegs ys k).length ((refRegs ys k).map (Value.int .i64)) ∧ Block wr w.heap.size 24 #[.int .i64 n, .slice A hs.length c] ∧ Below w.heap.size w wr) (fun _ i _ => hs.length - (intOf i).toNat)
  case atStart => exact ⟨0, Nat.zero_le _, rfl, World.ownsRow_nil _ _ _ _, K0.out, HB0.out⟩
  case round =>
    obtain ⟨k, hk, rfl, hown, kb, hb⟩ := hrel
    have c0 := kb.cell 0
    have c1 := kb.cell 1
    simp at c0 c1
    have hlk := kb.lt
    have HO := Lib.hid hown
    have KB := Lib.hid kb
    have HB := Lib.hid hb
    have HL2 := Lib.hid (refRegs_length ys k)
    clear hown kb hb K0 HB0
    by_cases hlt : k < hs.length
    · have hkI : (k : Int) < hs.length := by omega
      have r1 := (HB.out.cell (p := ⟨b, o + (k * 3 + 1), none⟩) hbw).trans (HC.out (k * 3 + 1) (by omega))
      have j1 : (k : Int) * 3 + 1 < 46 := by omega
      have j2 : (k : Int) * 3 + 2 < 46 := by omega
      go_wp2_with (first | (at_builtin; refine wpList_append_own _ rfl (.tmp 14) (.tmp 21) 47 rfl (w.heap.size + 1) 3 i0 (.int .i64 0) 1 8 Tryd.underlying47 hi hz0 hz1 hz2 rfl (by decide) _ _ _ rfl (HO.out.alloc _) ⟨wr.heap.size, 0, none⟩ 1 1 [.int .i64 (ys.getD (k * 3 + 1) 0)] rfl rfl (one_cell (by simp)) (by intro u hu; simp at hu; subst hu; rfl) (by rw [HL2.out]; unfold maxLen; omega) (by rw [HL2.out]; omega) (by simp; omega) ?_; intro v1 w1 hown1 hg1 _; have hlt1 := HO.out.lt; have hb1 := (HB.out.alloc HB.out.size _).grown hg1 (by have := HB.out.size; simp; omega) (fun q hq => Nat.le_of_lt (hlt1 q hq).1); have HO1 := Lib.hid hown1; have KB1 := Lib.hid ((KB.out.alloc _).grown hg1 (fun e => by have := (hlt1 _ e.symm).1; omega)); have HB1 := Lib.hid hb1; have d1 := KB1.out.cell 1; simp at d1; have s1 := KB1.out.lt; have r2 := (HB1.out.cell (p := ⟨b, o + (k * 3 + 2), none⟩) hbw).trans (HC.out (k * 3 + 2) (by omega)); clear hown1 hg1 hlt1 hb1) | (at_builtin; refine wpList_append_own _ rfl (.tmp 23) (.tmp 30) 47 rfl (w.heap.size + 1) 3 i0 (.int .i64 0) 1 8 Tryd.underlying47 hi hz0 hz1 hz2 rfl (by decide) _ _ _ rfl (HO1.out.alloc _) ⟨w1.heap.size, 0, none⟩ 1 1 [.int .i64 (ys.getD (k * 3 + 2) 0)] rfl rfl (one_cell (by simp)) (by intro u hu; simp at hu; subst hu; rfl) (by rw [HL2.out]; unfold maxLen; omega) (by rw [HL2.out]; omega) (by simp; omega) ?_; intro v2 w2 hown2 hg2 _; have hlt2 := HO1.out.lt; have HB2 := Lib.hid ((HB1.out.alloc HB1.out.size _).grown hg2 (by have := HB1.out.size; simp; omega) (fun q hq => Nat.le_of_lt (hlt2 q hq).1)); have HO2 := Lib.hid hown2; have KB2 := Lib.hid ((KB1.out.alloc _).grown hg2 (fun e => by have := (hlt2 _ e.symm).1; omega)); clear hown2 hg2 hlt2))
      go_roundw
      case rel =>
        refine ⟨k + 1, by omega, by go_num, ?_, KB2.out, HB2.out⟩
        rw [refRegs_succ, List.length_append, List.length_append, List.map_append, List.map_append]
        exact HO2.out
      case measure => simp [intOf]; omega
    · have hkI : ¬ (k : Int) < hs.length := by omega
      have HK := Lib.hid (show k = hs.length by omega)
      have g1 : ∀ j u, ((refWords ys n).map (Value.int .i64))[j]? = some u → wr.cell? ((⟨b, o + 9, none⟩ : Addr).add j) = some u := by
        intro j u hu
        have hj : j < n := by have := (List.getElem?_eq_some_iff.1 hu).1; simpa [refWords_length] using this
        have e : u = .int .i64 (ys.getD (9 + j) 0) := by
          rw [List.getElem?_map, refWords, List.getElem?_map, List.getElem?_range hj] at hu
          exact (Option.some.inj hu).symm
        rw [e, show (⟨b, o + 9, none⟩ : Addr).add j = ⟨b, o + (9 + j), none⟩ by unfold Addr.add; by_cases h : j = 0 <;> simp [h, Nat.add_assoc]]
        exact (HB.out.cell (p := ⟨b, o + (9 + j), none⟩) hbw).trans (HC.out (9 + j) (by omega))
      have G1 := Lib.hid g1
      have HL3 := Lib.hid (refWords_length ys n)
      have i1 : (0 : Int) ≤ (n : Int) := by omega
      clear g1
      have i2 : (9 : Int) + n ≤ c2 := by omega
      have i3 : (0 : Int) ≤ 9 + n := by omega
      have i4 : ¬ c2 = 9 := by omega
      go_wp2_with (at_builtin; refine wpList_append_two rfl (.tmp 32) (.tmp 37) 47 48 rfl append_same (w.heap.size + 1) 3 i0 (.int .i64 0) 1 8 Tryd.underlying47 hi hz0 hz1 hz2 rfl (by decide) _ _ _ rfl HO.out ⟨b, o + 9, none⟩ (9 + n - 9) _ ((refWords ys n).map (Value.int .i64)) rfl (by rw [List.length_map, HL3.out]; omega) G1.out (by intro u hu; simp at hu; obtain ⟨a, _, rfl⟩ := hu; rfl) (by rw [HL2.out]; unfold maxLen; omega) (by rw [HL2.out]; omega) (by have := HB.out.size; omega) ?_; intro v' w2 hown2 hg2; have hlt2 := HO.out.lt; have hb2 := HB.out.grown hg2 HB.out.size (fun k hk => Nat.le_of_lt (hlt2 _ hk).1); have HO2 := Lib.hid hown2; clear hown2 hg2 hlt2)
      go_ret
      have h1 := HO2.out
      rw [show 9 + n - 9 = n by omega] at h1
      refine ⟨_, rfl, ?_, hb2⟩
      rw [← HK.out]
      refine numsP_of_own (base := w.heap.size + 1) (e := 3) (by rw [List.length_append, HL3.out, List.map_append]; exact h1) ?_ fun b hb1 hb2 => ⟨by omega, hb2⟩
      rw [List.length_append, HL2.out, HL3.out]; omega
theorem result_any (ys : List Int) (sv : Value) (words : Int) (hv : Value) (hs : List (List Ln)) (B : Nat) (w : World) (hh : Hands w w.heap.size hv hs) (h3 : hs.length ≤ 3) (hw1 : 1 ≤ words) (hw4 : words ≤ 4) (b o c2 : Nat) (hsv : sv = .slice (some ⟨b, o, none⟩) 46 c2) (h46 : 46 ≤ c2) (hn : Nums w B sv ys) (hB : B ≤ w.heap.size) (hl : ys.length = 46) :
    Calls Tryd.prog 21 #[.agg #[.int .i64 words, hv], sv] w fun e w' => ∃ v, e = .returned v ∧ Nums w' w'.heap.size v (refRegs ys hs.length ++ refWords ys words.toNat) ∧ Below w.heap.size w w' :=
  (result_new ys sv words hv hs B w hh h3 hw1 hw4 b o c2 hsv h46 hn hB hl).mono fun _ _ ⟨v, he, hv, hb⟩ => ⟨v, he, hv.nums fun _ h => h.2, hb⟩
end Go.Proofs.YthpnnmkpbkbanaaDoor
