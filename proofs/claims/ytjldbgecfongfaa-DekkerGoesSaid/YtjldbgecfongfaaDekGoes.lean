/-
  The walk of latchgarthlaw2.DekkerGoes: it answers true, whatever the script.
-/
import Derived.Test.YtjldbgecfongfaaDekFact
namespace Go.Proofs.Ytjldbgecfongfaa
open Go.RowKit

/-- Who was in: two bools of one's own. -/
structure WasIn (w wr : World) (g h : Nat) (b0 b1 : Bool) : Prop where
  new : w.heap.size ≤ h
  far : h ≠ g
  blk : Block wr h 4 #[.bool b0, .bool b1]
theorem WasIn.cells {w wr : World} {g h : Nat} {b0 b1 : Bool} (k : WasIn w wr g h b0 b1) :
    wr.cell? ⟨h, 0, none⟩ = some (.bool b0) ∧ wr.cell? ⟨h, 1, none⟩ = some (.bool b1) ∧ wr.frozen? ⟨h, 0, none⟩ = false ∧ wr.frozen? ⟨h, 1, none⟩ = false :=
  ⟨(Block.cell k.blk 0).trans rfl, (Block.cell k.blk 1).trans rfl, k.blk.free 0, k.blk.free 1⟩
theorem WasIn.touch {w wr w' : World} {g h : Nat} {b0 b1 : Bool} (k : WasIn w wr g h b0 b1) (ht : Touch (fun i => i = g) wr w') : WasIn w w' g h b0 b1 :=
  ⟨k.new, k.far, k.blk.touch ht k.far⟩
theorem WasIn.put0 {w wr : World} {g h : Nat} {b0 b1 : Bool} (k : WasIn w wr g h b0 b1) : WasIn w (wr.setCell ⟨h, 0, none⟩ (.bool true)) g h true b1 := ⟨k.new, k.far, k.blk.put 0 _⟩
theorem WasIn.put1 {w wr : World} {g h : Nat} {b0 b1 : Bool} (k : WasIn w wr g h b0 b1) : WasIn w (wr.setCell ⟨h, 1, none⟩ (.bool true)) g h b0 true := ⟨k.new, k.far, k.blk.put 1 _⟩
theorem LkAt.other {w wr : World} {g h i : Nat} {s : List Int} {u : Value} (k : LkAt w wr g s) (hn : w.heap.size ≤ h) (hf : h ≠ g) : LkAt w (wr.setCell ⟨h, i, none⟩ u) g s :=
  ⟨k.new, Block.far k.lk (p := ⟨h, i, none⟩) (fun e => hf e.symm) u, k.below.setCell hn _, k.all⟩
theorem LkAt.made {w wr : World} {g : Nat} {s : List Int} (k : LkAt w wr g s) (o : Obj) : LkAt w (wr.alloc o) g s :=
  ⟨k.new, Block.alloc k.lk o, k.below.alloc k.below.size o, k.all⟩

/-- What a step does with both. -/
theorem stepB {w wr : World} {g h : Nat} {s : List Int} {b0 b1 : Bool} (hl : LkAt w wr g s) (hw : WasIn w wr g h b0 b1) (p : Int) (h0 : 0 ≤ p) (h1 : p ≤ 1) :
    Calls Try.prog 8 #[.pointer (some ⟨g, 0, none⟩), .int .i64 p] wr fun e w' => e = .returned .nilIface ∧ LkAt w w' g (pstp s p) ∧ WasIn w w' g h b0 b1 :=
  (step_any s hl.all g wr hl.lk p).mono fun _ _ ⟨he, hk, ht⟩ => ⟨he.trans (by rw [perr, if_pos (by omega)]; rfl), hl.turn hk ht (pall_stp hl.all p), hw.touch ht⟩

/-- Where it stands in a round: behind so many hands. -/
def phalf (x : List Int × Bool × Bool) : Nat → List Int × Bool × Bool
  | 0 => x
  | 1 => (pstp x.1 0, x.2.1 || decide (atP (pstp x.1 0) 0 = 7), x.2.2)
  | _ => pround x
theorem phalf_two (x : List Int × Bool × Bool) : phalf x 2 = (pstp (phalf x 1).1 1, (phalf x 1).2.1, x.2.2 || decide (atP (pstp (phalf x 1).1 1) 1 = 7)) := rfl

set_option maxHeartbeats 4000000 in
theorem goes_law (sv : Value) (script : List Int) (w : World) (hn : Nums w w.heap.size sv script) :
    Calls Try.prog 4 #[sv] w fun e w' => e = .returned (.bool true) ∧ Below w.heap.size w w' := by
  obtain ⟨A, c, rfl, hlen, hn⟩ := hn
  have HN := Lib.hid hn
  clear hn
  have HMK : ∀ w, (Instr.makeSlice 31 (.int .i64 2) (.int .i64 2)).run Try.prog w = .ok (.slice (some ⟨w.heap.size, 0, none⟩) 2 2) (w.alloc (.cells #[.bool false, .bool false] 4)) := fun w => by kernel_rfl
  go_enter Try.func4, Try.ntmps4
  go_wp2_with (first | (go_at_call 6; refine (dekFact_any _).mono ?_; rintro e w1 ⟨rfl, hb⟩; have HB := Lib.hid hb; clear hb) | (go_at_call 7; refine (newL HB.out).mono ?_; rintro e w2 ⟨g, rfl, hl⟩; have HL := Lib.hid hl; clear hl))
  go_loopw [5] (fun i wr => ∃ (k : Nat) (s : List Int), k ≤ script.length ∧ i = .int .i64 k ∧ LkAt w wr g s) (fun i _ => script.length - (intOf i).toNat)
  case atStart => exact ⟨0, pnew, by omega, rfl, HL.out⟩
  case round =>
    clear HL
    obtain ⟨k, s, hk, rfl, hl⟩ := hrel
    have HL := Lib.hid hl
    by_cases hgo : k < script.length ∧ k < 200
    · have hI : (k : Int) < script.length := by omega
      have h4 : (k : Int) < 200 := by omega
      obtain ⟨hlt, _⟩ := hgo
      obtain ⟨b, o, rfl, hbb, hcc⟩ := HN.out (by omega)
      obtain ⟨x, hx⟩ : ∃ x, script[k]? = some x := ⟨script[k], List.getElem?_eq_getElem hlt⟩
      have hxc := (hl.below.cell (p := ⟨b, o + k, none⟩) hbb).trans (hcc k x hx)
      have HX := Lib.hid hx
      clear hcc hx hl
      go_wp2_with (go_at_call 8; (with_reducible refine (stepL HL.out x).mono ?_); rintro e w3 ⟨rfl, hl⟩; have H3 := Lib.hid hl; clear hl)
      go_roundw
      case rel => exact ⟨k + 1, _, by omega, by go_num, H3.out⟩
      case measure => simp [intOf]; omega
    · clear hl
      have HG := Lib.hid (pall_goes s HL.out.all)
      have hh : (k : Int) < script.length ∧ ¬ (k : Int) < 200 ∨ ¬ (k : Int) < script.length := by omega
      clear hgo
      rcases hh with ⟨hI, hJ⟩ | hI
      all_goals
        go_wp2
        have hl0 := HL.out.made (.cells #[.bool false, .bool false] 4)
        have hw0 : WasIn w (wr.alloc (.cells #[.bool false, .bool false] 4)) g wr.heap.size false false := ⟨HL.out.below.size, fun e => Nat.lt_irrefl _ (e ▸ HL.out.lk.lt), Block.made wr _ _⟩
        obtain ⟨h, hh⟩ : ∃ h, h = wr.heap.size := ⟨_, rfl⟩
        obtain ⟨V, hV⟩ : ∃ V, V = wr.alloc (.cells #[.bool false, .bool false] 4) := ⟨_, rfl⟩
        rw [← hh, ← hV] at hw0
        rw [← hV] at hl0
        rw [← hh, ← hV]
        have HL0 := Lib.hid hl0
        have HW0 := Lib.hid hw0
        clear hh hV hl0 hw0 HMK
        go_loopw [7] (fun i wr => ∃ n : Nat, n ≤ 60 ∧ i = .int .i64 n ∧ LkAt w wr g (prounds (s, false, false) n).1 ∧ WasIn w wr g h (prounds (s, false, false) n).2.1 (prounds (s, false, false) n).2.2) (fun i _ => 60 - (intOf i).toNat)
        case atStart => exact ⟨0, by omega, rfl, HL0.out, HW0.out⟩
        case round =>
          clear HL0 HW0
          obtain ⟨n, hn, rfl, hl, hw⟩ := hrel
          obtain ⟨x, hx⟩ : ∃ x, x = prounds (s, false, false) n := ⟨_, rfl⟩
          rw [← hx] at hl hw
          have HX := Lib.hid hx
          have HL1 := Lib.hid hl
          have HW1 := Lib.hid hw
          clear hl hw hx
          by_cases hn6 : n < 60
          · have hnI : (n : Int) < 60 := by omega
            go_wp2
            go_loopw [8] (fun q wr => ∃ j : Nat, j ≤ 2 ∧ q = .int .i64 j ∧ LkAt w wr g (phalf x j).1 ∧ WasIn w wr g h (phalf x j).2.1 (phalf x j).2.2) (fun q _ => 2 - (intOf q).toNat)
            case atStart => exact ⟨0, by omega, rfl, HL1.out, HW1.out⟩
            case round =>
              clear HL1 HW1
              obtain ⟨j, hj, rfl, hl, hw⟩ := hrel
              have HL2 := Lib.hid hl
              have HW2 := Lib.hid hw
              clear hl hw
              obtain rfl | rfl | rfl : j = 0 ∨ j = 1 ∨ j = 2 := by omega
              · by_cases h5 : atP (pstp x.1 0) 0 = 7
                · have HE := Lib.hid (show phalf x 1 = (pstp (phalf x 0).1 0, true, (phalf x 0).2.2) by simp [phalf, h5])
                  go_wp2_with (first | (go_at_call 8; (with_reducible refine (stepB HL2.out HW2.out 0 (by omega) (by omega)).mono ?_); rintro e w3 ⟨rfl, hl, hw⟩; obtain ⟨k0, k1, z0, z1⟩ := hw.cells; have H3 := Lib.hid hl; have W3 := Lib.hid hw; clear hl hw) | (go_at_call 9; (with_reducible refine (at0 H3.out).mono ?_); rw [show atP (pstp (phalf x 0).1 0) 0 = 7 from h5]; rintro e w4 ⟨rfl, rfl⟩))
                  go_roundw
                  case rel => exact ⟨1, by omega, by go_num, by rw [HE.out]; exact H3.out.other W3.out.new W3.out.far, by rw [HE.out]; exact W3.out.put0⟩
                  case measure => simp [intOf]
                · have HE := Lib.hid (show phalf x 1 = (pstp (phalf x 0).1 0, (phalf x 0).2.1, (phalf x 0).2.2) by simp [phalf, h5])
                  have e5 : (atP (pstp (phalf x 0).1 0) 0 == 7) = false := beq_eq_false_iff_ne.2 h5
                  clear h5
                  go_wp2_with (first | (go_at_call 8; (with_reducible refine (stepB HL2.out HW2.out 0 (by omega) (by omega)).mono ?_); rintro e w3 ⟨rfl, hl, hw⟩; obtain ⟨k0, k1, z0, z1⟩ := hw.cells; have H3 := Lib.hid hl; have W3 := Lib.hid hw; clear hl hw) | (go_at_call 9; (with_reducible refine (at0 H3.out).mono ?_); rintro e w4 ⟨rfl, rfl⟩))
                  go_roundw
                  case rel => exact ⟨1, by omega, by go_num, by rw [HE.out]; exact H3.out, by rw [HE.out]; exact W3.out⟩
                  case measure => simp [intOf]
              · by_cases h5 : atP (pstp (phalf x 1).1 1) 1 = 7
                · have HE := Lib.hid (show phalf x 2 = (pstp (phalf x 1).1 1, (phalf x 1).2.1, true) by rw [phalf_two, decide_eq_true h5, Bool.or_true])
                  go_wp2_with (first | (go_at_call 8; (with_reducible refine (stepB HL2.out HW2.out 1 (by omega) (by omega)).mono ?_); rintro e w3 ⟨rfl, hl, hw⟩; obtain ⟨k0, k1, z0, z1⟩ := hw.cells; have H3 := Lib.hid hl; have W3 := Lib.hid hw; clear hl hw) | (go_at_call 9; (with_reducible refine (at1 H3.out).mono ?_); rw [h5]; rintro e w4 ⟨rfl, rfl⟩))
                  go_roundw
                  case rel => exact ⟨2, by omega, by go_num, by rw [HE.out]; exact H3.out.other W3.out.new W3.out.far, by rw [HE.out]; exact W3.out.put1⟩
                  case measure => simp [intOf]
                · have HE := Lib.hid (show phalf x 2 = (pstp (phalf x 1).1 1, (phalf x 1).2.1, (phalf x 1).2.2) by rw [phalf_two, decide_eq_false h5, Bool.or_false]; rfl)
                  have e5 : (atP (pstp (phalf x 1).1 1) 1 == 7) = false := beq_eq_false_iff_ne.2 h5
                  clear h5
                  go_wp2_with (first | (go_at_call 8; (with_reducible refine (stepB HL2.out HW2.out 1 (by omega) (by omega)).mono ?_); rintro e w3 ⟨rfl, hl, hw⟩; obtain ⟨k0, k1, z0, z1⟩ := hw.cells; have H3 := Lib.hid hl; have W3 := Lib.hid hw; clear hl hw) | (go_at_call 9; (with_reducible refine (at1 H3.out).mono ?_); rintro e w4 ⟨rfl, rfl⟩))
                  go_roundw
                  case rel => exact ⟨2, by omega, by go_num, by rw [HE.out]; exact H3.out, by rw [HE.out]; exact W3.out⟩
                  case measure => simp [intOf]
              · go_wp2
                go_roundw
                case rel => exact ⟨n + 1, by omega, by go_num, by rw [prounds, ← HX.out]; exact HL2.out, by rw [prounds, ← HX.out]; exact HW2.out⟩
                case measure => simp [intOf]; omega
          · obtain rfl : n = 60 := by omega
            have hg := HG.out
            rw [← HX.out] at hg
            have hw := HW1.out
            rw [hg] at hw
            obtain ⟨k0, k1, -, -⟩ := hw.cells
            clear hw hg
            go_wp2
            go_loopw [9] (fun q wq => ∃ j : Nat, j ≤ 2 ∧ q = .int .i64 j ∧ wq = wr) (fun q _ => 2 - (intOf q).toNat)
            case atStart => exact ⟨0, by omega, rfl, rfl⟩
            case round =>
              obtain ⟨j, hj, rfl, rfl⟩ := hrel
              obtain rfl | rfl | rfl : j = 0 ∨ j = 1 ∨ j = 2 := by omega
              · go_wp2
                go_roundw
                case rel => exact ⟨1, by omega, by go_num, trivial⟩
                case measure => simp [intOf]
              · go_wp2
                go_roundw
                case rel => exact ⟨2, by omega, by go_num, trivial⟩
                case measure => simp [intOf]
              · go_wp2
                go_ret
                exact ⟨rfl, HL1.out.below⟩
end Go.Proofs.Ytjldbgecfongfaa
