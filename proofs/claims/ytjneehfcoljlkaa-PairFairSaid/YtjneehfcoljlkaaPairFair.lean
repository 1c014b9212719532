/-
  The walk of latchgarthlaw2.PairFair: it answers true, whatever the script.
-/
import Derived.Test.YtjneehfcoljlkaaPairAlone
namespace Go.Proofs.Ytjneehfcoljlkaa
open Go.RowKit

/-- Two numbers of one's own. -/
structure Two (w wr : World) (g h : Nat) (c0 c1 : Int) : Prop where
  new : w.heap.size ≤ h
  far : h ≠ g
  blk : Block wr h 3 #[.int .i64 c0, .int .i64 c1]
theorem Two.cells {w wr : World} {g h : Nat} {c0 c1 : Int} (k : Two w wr g h c0 c1) :
    wr.cell? ⟨h, 0, none⟩ = some (.int .i64 c0) ∧ wr.cell? ⟨h, 1, none⟩ = some (.int .i64 c1) ∧ wr.frozen? ⟨h, 0, none⟩ = false ∧ wr.frozen? ⟨h, 1, none⟩ = false :=
  ⟨(Block.cell k.blk 0).trans rfl, (Block.cell k.blk 1).trans rfl, k.blk.free 0, k.blk.free 1⟩
theorem Two.touch {w wr w' : World} {g h : Nat} {c0 c1 : Int} (k : Two w wr g h c0 c1) (ht : Touch (fun i => i = g) wr w') : Two w w' g h c0 c1 :=
  ⟨k.new, k.far, k.blk.touch ht k.far⟩
theorem Two.put0 {w wr : World} {g h : Nat} {c0 c1 : Int} (k : Two w wr g h c0 c1) (z : Int) : Two w (wr.setCell ⟨h, 0, none⟩ (.int .i64 z)) g h z c1 := ⟨k.new, k.far, k.blk.put 0 _⟩
theorem Two.put1 {w wr : World} {g h : Nat} {c0 c1 : Int} (k : Two w wr g h c0 c1) (z : Int) : Two w (wr.setCell ⟨h, 1, none⟩ (.int .i64 z)) g h c0 z := ⟨k.new, k.far, k.blk.put 1 _⟩
theorem LkAt.aside {w wr : World} {g h i : Nat} {s : List Int} {u : Value} (k : LkAt w wr g s) (hn : w.heap.size ≤ h) (hf : h ≠ g) : LkAt w (wr.setCell ⟨h, i, none⟩ u) g s :=
  ⟨k.new, Block.far k.lk (p := ⟨h, i, none⟩) (fun e => hf e.symm) u, k.below.setCell hn _, k.all⟩
theorem LkAt.more {w wr : World} {g : Nat} {s : List Int} (k : LkAt w wr g s) (o : Obj) : LkAt w (wr.alloc o) g s :=
  ⟨k.new, Block.alloc k.lk o, k.below.alloc k.below.size o, k.all⟩
theorem stepT {w wr : World} {g h : Nat} {s : List Int} {c0 c1 : Int} (hl : LkAt w wr g s) (hw : Two w wr g h c0 c1) (p : Int) :
    Calls Try.prog 9 #[.pointer (some ⟨g, 0, none⟩), .int .i64 p] wr fun e w' => e = .returned (errV 38 (perr p)) ∧ LkAt w w' g (pstp s p) ∧ Two w w' g h c0 c1 :=
  (step_any s hl.all g wr hl.lk p).mono fun _ _ ⟨he, hk, ht⟩ => ⟨he, hl.turn hk ht (pall_stp hl.all p), hw.touch ht⟩
theorem pfair0 (s : List Int) (c0 c1 : Int) : pfair (s, c0, c1) 0 = (pstp s 0, if atP s 0 = 2 ∨ atP (pstp s 0) 0 = 5 then 0 else c0, if atP s 0 ≠ 5 ∧ atP (pstp s 0) 0 = 5 ∧ 3 ≤ atP (pstp s 0) 1 ∧ atP (pstp s 0) 1 ≤ 4 then c1 + 1 else c1) := rfl
theorem pfair1 (s : List Int) (c0 c1 : Int) : pfair (s, c0, c1) 1 = (pstp s 1, if atP s 1 ≠ 5 ∧ atP (pstp s 1) 1 = 5 ∧ 3 ≤ atP (pstp s 1) 0 ∧ atP (pstp s 1) 0 ≤ 4 then c0 + 1 else c0, if atP s 1 = 2 ∨ atP (pstp s 1) 1 = 5 then 0 else c1) := rfl
theorem pfair_none (x : List Int × Int × Int) (p : Int) (h : ¬ (0 ≤ p ∧ p ≤ 1)) : pfair x p = x := by
  rw [pfair, if_neg (by omega), if_neg (by omega)]

/-- What holds at the head of the loop. -/
def FairAt (w wr : World) (g h : Nat) (x : List Int × Int × Int) : Prop := x ∈ pfall ∧ LkAt w wr g x.1 ∧ Two w wr g h x.2.1 x.2.2

set_option maxRecDepth 100000 in
set_option maxHeartbeats 8000000 in
theorem fair_law (sv : Value) (script : List Int) (w : World) (hn : Nums w w.heap.size sv script) :
    Calls Try.prog 5 #[sv] w fun e w' => e = .returned (.bool true) ∧ Below w.heap.size w w' := by
  obtain ⟨A, c, rfl, hlen, hn⟩ := hn
  have HN := Lib.hid hn
  clear hn
  go_enter Try.func5, Try.ntmps5
  go_wp2_with (first | (go_at_call 7; refine (pairFact_any _).mono ?_; rintro e w1 ⟨rfl, hb⟩; have HB := Lib.hid hb; clear hb) | (go_at_call 8; refine (newL HB.out).mono ?_; rintro e w2 ⟨g, rfl, hl⟩; have HL := Lib.hid hl; clear hl))
  have hl0 := HL.out.more (.cells #[.int .i64 0, .int .i64 0] 3)
  have hw0 : Two w (w2.alloc (.cells #[.int .i64 0, .int .i64 0] 3)) g w2.heap.size 0 0 := ⟨HL.out.below.size, fun e => Nat.lt_irrefl _ (e ▸ HL.out.lk.lt), Block.made w2 _ _⟩
  obtain ⟨h, hh⟩ : ∃ h, h = w2.heap.size := ⟨_, rfl⟩
  obtain ⟨V, hV⟩ : ∃ V, V = w2.alloc (.cells #[.int .i64 0, .int .i64 0] 3) := ⟨_, rfl⟩
  rw [← hh, ← hV] at hw0
  rw [← hV] at hl0
  rw [← hh, ← hV]
  have HF0 := Lib.hid (show FairAt w V g h pfnew from ⟨pfall_new, hl0, hw0⟩)
  clear hh hV hl0 hw0
  go_loopw [6] (fun i wr => ∃ (k : Nat) (x : List Int × Int × Int), k ≤ script.length ∧ i = .int .i64 k ∧ FairAt w wr g h x) (fun i _ => script.length - (intOf i).toNat)
  case atStart => exact ⟨0, pfnew, by omega, rfl, HF0.out⟩
  case round =>
    clear HF0
    obtain ⟨k, x, hk, rfl, hx⟩ := hrel
    have HX := Lib.hid hx
    clear hx
    by_cases hgo : k < script.length ∧ k < 400
    · have hI : (k : Int) < script.length := by omega
      have h4 : (k : Int) < 400 := by omega
      obtain ⟨hlt, _⟩ := hgo
      obtain ⟨b, o, rfl, hbb, hcc⟩ := HN.out (by omega)
      obtain ⟨p, hp⟩ : ∃ x, script[k]? = some x := ⟨script[k], List.getElem?_eq_getElem hlt⟩
      have hxc := (HX.out.2.1.below.cell (p := ⟨b, o + k, none⟩) hbb).trans (hcc k p hp)
      have HP := Lib.hid hp
      clear hcc hp
      by_cases hpr : 0 ≤ p ∧ p ≤ 1
      · obtain ⟨s, c0, c1⟩ := x
        have HL := Lib.hid HX.out.2.1
        have HT := Lib.hid HX.out.2.2
        have hb := pfall_ok _ HX.out.1
        have hnx := pfall_ok _ (pfall_stp HX.out.1 p)
        have HNX := Lib.hid (pfall_stp HX.out.1 p)
        obtain rfl | rfl : p = 0 ∨ p = 1 := by omega
        all_goals clear hpr HP
        · by_cases hw : atP s 0 = 2
          · have hw5 : ¬ atP s 0 = 5 := by omega
            by_cases hn : atP (pstp s 0) 0 = 5
            · by_cases hd : 3 ≤ atP (pstp s 0) 1 ∧ atP (pstp s 0) 1 ≤ 4
              · have HE := Lib.hid (show pfair (s, c0, c1) 0 = (pstp s 0, 0, c1 + 1) from by rw [pfair0, if_pos (Or.inl hw), if_pos ⟨hw5, hn, hd⟩])
                obtain ⟨-, b0, b1, b2, b3⟩ := hb
                have hq : c1 + 1 ≤ 1 := by rw [HE.out] at hnx; exact hnx.2.2.2.2
                simp only at b0 b1 b2 b3
                obtain ⟨hd1, hd2⟩ := hd
                clear hnx hw5
                go_wp2_with (first | (go_at_call 11; (with_reducible refine (in_true 0 0 1 (by omega) (by omega) _).mono ?_); rintro e w' ⟨rfl, rfl⟩) | (go_at_call 10; (with_reducible refine (at0 HL.out).mono ?_); rw [hw]; rintro e w' ⟨rfl, rfl⟩) | (go_at_call 9; (with_reducible refine (stepT HL.out HT.out 0).mono ?_); rintro e w3 ⟨rfl, hl, ht⟩; obtain ⟨k0, k1, z0, z1⟩ := ht.cells; have H3 := Lib.hid hl; have T3 := Lib.hid ht; have HA := Lib.hid (hl.aside (i := 0) (u := .int .i64 0) ht.new ht.far); clear hl ht) | (go_at_call 10; (with_reducible refine (at0 H3.out).mono ?_); rw [hn]; rintro e w' ⟨rfl, rfl⟩) | (go_at_call 10; (with_reducible refine (at1 HA.out).mono ?_); rintro e w' ⟨rfl, rfl⟩) | (go_at_call 11; (with_reducible refine (in_true _ 3 4 hd1 hd2 _).mono ?_); rintro e w' ⟨rfl, rfl⟩))
                go_roundw
                case rel => exact ⟨k + 1, pfair (s, c0, c1) 0, by omega, by go_num, HNX.out, by rw [HE.out]; exact (HA.out.aside T3.out.new T3.out.far), by rw [HE.out]; exact ((T3.out.put0 0).put1 _)⟩
                case measure => simp [intOf]; omega
              · have HE := Lib.hid (show pfair (s, c0, c1) 0 = (pstp s 0, 0, c1) from by rw [pfair0, if_pos (Or.inl hw), if_neg (fun h => hd h.2.2)])
                obtain ⟨-, b0, b1, b2, b3⟩ := hb
                simp only at b0 b1 b2 b3
                have HD := Lib.hid hd
                clear hnx hw5 hd
                go_wp2_with (first | (go_at_call 11; (with_reducible refine (in_true 0 0 1 (by omega) (by omega) _).mono ?_); rintro e w' ⟨rfl, rfl⟩) | (go_at_call 10; (with_reducible refine (at0 HL.out).mono ?_); rw [hw]; rintro e w' ⟨rfl, rfl⟩) | (go_at_call 9; (with_reducible refine (stepT HL.out HT.out 0).mono ?_); rintro e w3 ⟨rfl, hl, ht⟩; obtain ⟨k0, k1, z0, z1⟩ := ht.cells; have H3 := Lib.hid hl; have T3 := Lib.hid ht; have HA := Lib.hid (hl.aside (i := 0) (u := .int .i64 0) ht.new ht.far); clear hl ht) | (go_at_call 10; (with_reducible refine (at0 H3.out).mono ?_); rw [hn]; rintro e w' ⟨rfl, rfl⟩) | (go_at_call 10; (with_reducible refine (at1 HA.out).mono ?_); rintro e w' ⟨rfl, rfl⟩) | (go_at_call 11; (with_reducible refine (in_false _ 3 4 HD.out _).mono ?_); rintro e w' ⟨rfl, rfl⟩))
                go_roundw
                case rel => exact ⟨k + 1, pfair (s, c0, c1) 0, by omega, by go_num, HNX.out, by rw [HE.out]; exact HA.out, by rw [HE.out]; exact (T3.out.put0 0)⟩
                case measure => simp [intOf]; omega
            · have HE := Lib.hid (show pfair (s, c0, c1) 0 = (pstp s 0, 0, c1) from by rw [pfair0, if_pos (Or.inl hw), if_neg (fun h => hn h.2.1)])
              obtain ⟨-, b0, b1, b2, b3⟩ := hb
              simp only at b0 b1 b2 b3
              have en : (atP (pstp s 0) 0 == 5) = false := beq_eq_false_iff_ne.2 hn
              clear hnx hw5 hn
              go_wp2_with (first | (go_at_call 11; (with_reducible refine (in_true 0 0 1 (by omega) (by omega) _).mono ?_); rintro e w' ⟨rfl, rfl⟩) | (go_at_call 10; (with_reducible refine (at0 HL.out).mono ?_); rw [hw]; rintro e w' ⟨rfl, rfl⟩) | (go_at_call 9; (with_reducible refine (stepT HL.out HT.out 0).mono ?_); rintro e w3 ⟨rfl, hl, ht⟩; obtain ⟨k0, k1, z0, z1⟩ := ht.cells; have H3 := Lib.hid hl; have T3 := Lib.hid ht; have HA := Lib.hid (hl.aside (i := 0) (u := .int .i64 0) ht.new ht.far); clear hl ht) | (go_at_call 10; (with_reducible refine (at0 H3.out).mono ?_); rintro e w' ⟨rfl, rfl⟩) | (go_at_call 10; (with_reducible refine (at1 HA.out).mono ?_); rintro e w' ⟨rfl, rfl⟩))
              go_roundw
              case rel => exact ⟨k + 1, pfair (s, c0, c1) 0, by omega, by go_num, HNX.out, by rw [HE.out]; exact HA.out, by rw [HE.out]; exact (T3.out.put0 0)⟩
              case measure => simp [intOf]; omega
          · have hw2 := hw
            clear hw
            by_cases hw : atP s 0 = 5
            · skip
              by_cases hn : atP (pstp s 0) 0 = 5
              · have HE := Lib.hid (show pfair (s, c0, c1) 0 = (pstp s 0, 0, c1) from by rw [pfair0, if_pos (Or.inr hn), if_neg (fun h => h.1 hw)])
                obtain ⟨-, b0, b1, b2, b3⟩ := hb
                simp only at b0 b1 b2 b3
                clear hnx
                go_wp2_with (first | (go_at_call 11; (with_reducible refine (in_true 0 0 1 (by omega) (by omega) _).mono ?_); rintro e w' ⟨rfl, rfl⟩) | (go_at_call 10; (with_reducible refine (at0 HL.out).mono ?_); rw [hw]; rintro e w' ⟨rfl, rfl⟩) | (go_at_call 9; (with_reducible refine (stepT HL.out HT.out 0).mono ?_); rintro e w3 ⟨rfl, hl, ht⟩; obtain ⟨k0, k1, z0, z1⟩ := ht.cells; have H3 := Lib.hid hl; have T3 := Lib.hid ht; have HA := Lib.hid (hl.aside (i := 0) (u := .int .i64 0) ht.new ht.far); clear hl ht) | (go_at_call 10; (with_reducible refine (at0 H3.out).mono ?_); rw [hn]; rintro e w' ⟨rfl, rfl⟩) | (go_at_call 10; (with_reducible refine (at1 HA.out).mono ?_); rintro e w' ⟨rfl, rfl⟩))
                go_roundw
                case rel => exact ⟨k + 1, pfair (s, c0, c1) 0, by omega, by go_num, HNX.out, by rw [HE.out]; exact HA.out, by rw [HE.out]; exact (T3.out.put0 0)⟩
                case measure => simp [intOf]; omega
              · have HE := Lib.hid (show pfair (s, c0, c1) 0 = (pstp s 0, c0, c1) from by rw [pfair0, if_neg (fun h => h.elim hw2 hn), if_neg (fun h => h.1 hw)])
                obtain ⟨-, b0, b1, b2, b3⟩ := hb
                simp only at b0 b1 b2 b3
                have en : (atP (pstp s 0) 0 == 5) = false := beq_eq_false_iff_ne.2 hn
                clear hnx hn
                go_wp2_with (first | (go_at_call 11; (with_reducible refine (in_true 0 0 1 (by omega) (by omega) _).mono ?_); rintro e w' ⟨rfl, rfl⟩) | (go_at_call 10; (with_reducible refine (at0 HL.out).mono ?_); rw [hw]; rintro e w' ⟨rfl, rfl⟩) | (go_at_call 9; (with_reducible refine (stepT HL.out HT.out 0).mono ?_); rintro e w3 ⟨rfl, hl, ht⟩; obtain ⟨k0, k1, z0, z1⟩ := ht.cells; have H3 := Lib.hid hl; have T3 := Lib.hid ht; have HA := Lib.hid (hl.aside (i := 0) (u := .int .i64 0) ht.new ht.far); clear hl ht) | (go_at_call 10; (with_reducible refine (at0 H3.out).mono ?_); rintro e w' ⟨rfl, rfl⟩) | (go_at_call 10; (with_reducible refine (at1 HA.out).mono ?_); rintro e w' ⟨rfl, rfl⟩))
                go_roundw
                case rel => exact ⟨k + 1, pfair (s, c0, c1) 0, by omega, by go_num, HNX.out, by rw [HE.out]; exact H3.out, by rw [HE.out]; exact T3.out⟩
                case measure => simp [intOf]; omega
            · have hw5 := hw
              clear hw
              by_cases hn : atP (pstp s 0) 0 = 5
              · by_cases hd : 3 ≤ atP (pstp s 0) 1 ∧ atP (pstp s 0) 1 ≤ 4
                · have HE := Lib.hid (show pfair (s, c0, c1) 0 = (pstp s 0, 0, c1 + 1) from by rw [pfair0, if_pos (Or.inr hn), if_pos ⟨hw5, hn, hd⟩])
                  obtain ⟨-, b0, b1, b2, b3⟩ := hb
                  have hq : c1 + 1 ≤ 1 := by rw [HE.out] at hnx; exact hnx.2.2.2.2
                  simp only at b0 b1 b2 b3
                  have e2 : (atP s 0 == 2) = false := beq_eq_false_iff_ne.2 hw2
                  have e5 : (atP s 0 != 5) = true := bne_iff_ne.2 hw5
                  obtain ⟨hd1, hd2⟩ := hd
                  clear hnx hw2 hw5
                  go_wp2_with (first | (go_at_call 11; (with_reducible refine (in_true 0 0 1 (by omega) (by omega) _).mono ?_); rintro e w' ⟨rfl, rfl⟩) | (go_at_call 10; (with_reducible refine (at0 HL.out).mono ?_); rintro e w' ⟨rfl, rfl⟩) | (go_at_call 9; (with_reducible refine (stepT HL.out HT.out 0).mono ?_); rintro e w3 ⟨rfl, hl, ht⟩; obtain ⟨k0, k1, z0, z1⟩ := ht.cells; have H3 := Lib.hid hl; have T3 := Lib.hid ht; have HA := Lib.hid (hl.aside (i := 0) (u := .int .i64 0) ht.new ht.far); clear hl ht) | (go_at_call 10; (with_reducible refine (at0 H3.out).mono ?_); rw [hn]; rintro e w' ⟨rfl, rfl⟩) | (go_at_call 10; (with_reducible refine (at1 HA.out).mono ?_); rintro e w' ⟨rfl, rfl⟩) | (go_at_call 11; (with_reducible refine (in_true _ 3 4 hd1 hd2 _).mono ?_); rintro e w' ⟨rfl, rfl⟩))
                  go_roundw
                  case rel => exact ⟨k + 1, pfair (s, c0, c1) 0, by omega, by go_num, HNX.out, by rw [HE.out]; exact (HA.out.aside T3.out.new T3.out.far), by rw [HE.out]; exact ((T3.out.put0 0).put1 _)⟩
                  case measure => simp [intOf]; omega
                · have HE := Lib.hid (show pfair (s, c0, c1) 0 = (pstp s 0, 0, c1) from by rw [pfair0, if_pos (Or.inr hn), if_neg (fun h => hd h.2.2)])
                  obtain ⟨-, b0, b1, b2, b3⟩ := hb
                  simp only at b0 b1 b2 b3
                  have e2 : (atP s 0 == 2) = false := beq_eq_false_iff_ne.2 hw2
                  have e5 : (atP s 0 != 5) = true := bne_iff_ne.2 hw5
                  have HD := Lib.hid hd
                  clear hnx hw2 hw5 hd
                  go_wp2_with (first | (go_at_call 11; (with_reducible refine (in_true 0 0 1 (by omega) (by omega) _).mono ?_); rintro e w' ⟨rfl, rfl⟩) | (go_at_call 10; (with_reducible refine (at0 HL.out).mono ?_); rintro e w' ⟨rfl, rfl⟩) | (go_at_call 9; (with_reducible refine (stepT HL.out HT.out 0).mono ?_); rintro e w3 ⟨rfl, hl, ht⟩; obtain ⟨k0, k1, z0, z1⟩ := ht.cells; have H3 := Lib.hid hl; have T3 := Lib.hid ht; have HA := Lib.hid (hl.aside (i := 0) (u := .int .i64 0) ht.new ht.far); clear hl ht) | (go_at_call 10; (with_reducible refine (at0 H3.out).mono ?_); rw [hn]; rintro e w' ⟨rfl, rfl⟩) | (go_at_call 10; (with_reducible refine (at1 HA.out).mono ?_); rintro e w' ⟨rfl, rfl⟩) | (go_at_call 11; (with_reducible refine (in_false _ 3 4 HD.out _).mono ?_); rintro e w' ⟨rfl, rfl⟩))
                  go_roundw
                  case rel => exact ⟨k + 1, pfair (s, c0, c1) 0, by omega, by go_num, HNX.out, by rw [HE.out]; exact HA.out, by rw [HE.out]; exact (T3.out.put0 0)⟩
                  case measure => simp [intOf]; omega
              · have HE := Lib.hid (show pfair (s, c0, c1) 0 = (pstp s 0, c0, c1) from by rw [pfair0, if_neg (fun h => h.elim hw2 hn), if_neg (fun h => hn h.2.1)])
                obtain ⟨-, b0, b1, b2, b3⟩ := hb
                simp only at b0 b1 b2 b3
                have e2 : (atP s 0 == 2) = false := beq_eq_false_iff_ne.2 hw2
                have e5 : (atP s 0 != 5) = true := bne_iff_ne.2 hw5
                have en : (atP (pstp s 0) 0 == 5) = false := beq_eq_false_iff_ne.2 hn
                clear hnx hw2 hw5 hn
                go_wp2_with (first | (go_at_call 11; (with_reducible refine (in_true 0 0 1 (by omega) (by omega) _).mono ?_); rintro e w' ⟨rfl, rfl⟩) | (go_at_call 10; (with_reducible refine (at0 HL.out).mono ?_); rintro e w' ⟨rfl, rfl⟩) | (go_at_call 9; (with_reducible refine (stepT HL.out HT.out 0).mono ?_); rintro e w3 ⟨rfl, hl, ht⟩; obtain ⟨k0, k1, z0, z1⟩ := ht.cells; have H3 := Lib.hid hl; have T3 := Lib.hid ht; have HA := Lib.hid (hl.aside (i := 0) (u := .int .i64 0) ht.new ht.far); clear hl ht) | (go_at_call 10; (with_reducible refine (at0 H3.out).mono ?_); rintro e w' ⟨rfl, rfl⟩) | (go_at_call 10; (with_reducible refine (at1 HA.out).mono ?_); rintro e w' ⟨rfl, rfl⟩))
                go_roundw
                case rel => exact ⟨k + 1, pfair (s, c0, c1) 0, by omega, by go_num, HNX.out, by rw [HE.out]; exact H3.out, by rw [HE.out]; exact T3.out⟩
                case measure => simp [intOf]; omega
        · by_cases hw : atP s 1 = 2
          · have hw5 : ¬ atP s 1 = 5 := by omega
            by_cases hn : atP (pstp s 1) 1 = 5
            · by_cases hd : 3 ≤ atP (pstp s 1) 0 ∧ atP (pstp s 1) 0 ≤ 4
              · have HE := Lib.hid (show pfair (s, c0, c1) 1 = (pstp s 1, c0 + 1, 0) from by rw [pfair1, if_pos ⟨hw5, hn, hd⟩, if_pos (Or.inl hw)])
                obtain ⟨-, b0, b1, b2, b3⟩ := hb
                have hq : c0 + 1 ≤ 1 := by rw [HE.out] at hnx; exact hnx.2.2.1
                simp only at b0 b1 b2 b3
                obtain ⟨hd1, hd2⟩ := hd
                clear hnx hw5
                go_wp2_with (first | (go_at_call 11; (with_reducible refine (in_true 1 0 1 (by omega) (by omega) _).mono ?_); rintro e w' ⟨rfl, rfl⟩) | (go_at_call 10; (with_reducible refine (at1 HL.out).mono ?_); rw [hw]; rintro e w' ⟨rfl, rfl⟩) | (go_at_call 9; (with_reducible refine (stepT HL.out HT.out 1).mono ?_); rintro e w3 ⟨rfl, hl, ht⟩; obtain ⟨k0, k1, z0, z1⟩ := ht.cells; have H3 := Lib.hid hl; have T3 := Lib.hid ht; have HA := Lib.hid (hl.aside (i := 1) (u := .int .i64 0) ht.new ht.far); clear hl ht) | (go_at_call 10; (with_reducible refine (at1 H3.out).mono ?_); rw [hn]; rintro e w' ⟨rfl, rfl⟩) | (go_at_call 10; (with_reducible refine (at0 HA.out).mono ?_); rintro e w' ⟨rfl, rfl⟩) | (go_at_call 11; (with_reducible refine (in_true _ 3 4 hd1 hd2 _).mono ?_); rintro e w' ⟨rfl, rfl⟩))
                go_roundw
                case rel => exact ⟨k + 1, pfair (s, c0, c1) 1, by omega, by go_num, HNX.out, by rw [HE.out]; exact (HA.out.aside T3.out.new T3.out.far), by rw [HE.out]; exact ((T3.out.put1 0).put0 _)⟩
                case measure => simp [intOf]; omega
              · have HE := Lib.hid (show pfair (s, c0, c1) 1 = (pstp s 1, c0, 0) from by rw [pfair1, if_neg (fun h => hd h.2.2), if_pos (Or.inl hw)])
                obtain ⟨-, b0, b1, b2, b3⟩ := hb
                simp only at b0 b1 b2 b3
                have HD := Lib.hid hd
                clear hnx hw5 hd
                go_wp2_with (first | (go_at_call 11; (with_reducible refine (in_true 1 0 1 (by omega) (by omega) _).mono ?_); rintro e w' ⟨rfl, rfl⟩) | (go_at_call 10; (with_reducible refine (at1 HL.out).mono ?_); rw [hw]; rintro e w' ⟨rfl, rfl⟩) | (go_at_call 9; (with_reducible refine (stepT HL.out HT.out 1).mono ?_); rintro e w3 ⟨rfl, hl, ht⟩; obtain ⟨k0, k1, z0, z1⟩ := ht.cells; have H3 := Lib.hid hl; have T3 := Lib.hid ht; have HA := Lib.hid (hl.aside (i := 1) (u := .int .i64 0) ht.new ht.far); clear hl ht) | (go_at_call 10; (with_reducible refine (at1 H3.out).mono ?_); rw [hn]; rintro e w' ⟨rfl, rfl⟩) | (go_at_call 10; (with_reducible refine (at0 HA.out).mono ?_); rintro e w' ⟨rfl, rfl⟩) | (go_at_call 11; (with_reducible refine (in_false _ 3 4 HD.out _).mono ?_); rintro e w' ⟨rfl, rfl⟩))
                go_roundw
                case rel => exact ⟨k + 1, pfair (s, c0, c1) 1, by omega, by go_num, HNX.out, by rw [HE.out]; exact HA.out, by rw [HE.out]; exact (T3.out.put1 0)⟩
                case measure => simp [intOf]; omega
            · have HE := Lib.hid (show pfair (s, c0, c1) 1 = (pstp s 1, c0, 0) from by rw [pfair1, if_neg (fun h => hn h.2.1), if_pos (Or.inl hw)])
              obtain ⟨-, b0, b1, b2, b3⟩ := hb
              simp only at b0 b1 b2 b3
              have en : (atP (pstp s 1) 1 == 5) = false := beq_eq_false_iff_ne.2 hn
              clear hnx hw5 hn
              go_wp2_with (first | (go_at_call 11; (with_reducible refine (in_true 1 0 1 (by omega) (by omega) _).mono ?_); rintro e w' ⟨rfl, rfl⟩) | (go_at_call 10; (with_reducible refine (at1 HL.out).mono ?_); rw [hw]; rintro e w' ⟨rfl, rfl⟩) | (go_at_call 9; (with_reducible refine (stepT HL.out HT.out 1).mono ?_); rintro e w3 ⟨rfl, hl, ht⟩; obtain ⟨k0, k1, z0, z1⟩ := ht.cells; have H3 := Lib.hid hl; have T3 := Lib.hid ht; have HA := Lib.hid (hl.aside (i := 1) (u := .int .i64 0) ht.new ht.far); clear hl ht) | (go_at_call 10; (with_reducible refine (at1 H3.out).mono ?_); rintro e w' ⟨rfl, rfl⟩) | (go_at_call 10; (with_reducible refine (at0 HA.out).mono ?_); rintro e w' ⟨rfl, rfl⟩))
              go_roundw
              case rel => exact ⟨k + 1, pfair (s, c0, c1) 1, by omega, by go_num, HNX.out, by rw [HE.out]; exact HA.out, by rw [HE.out]; exact (T3.out.put1 0)⟩
              case measure => simp [intOf]; omega
          · have hw2 := hw
            clear hw
            by_cases hw : atP s 1 = 5
            · skip
              by_cases hn : atP (pstp s 1) 1 = 5
              · have HE := Lib.hid (show pfair (s, c0, c1) 1 = (pstp s 1, c0, 0) from by rw [pfair1, if_neg (fun h => h.1 hw), if_pos (Or.inr hn)])
                obtain ⟨-, b0, b1, b2, b3⟩ := hb
                simp only at b0 b1 b2 b3
                clear hnx
                go_wp2_with (first | (go_at_call 11; (with_reducible refine (in_true 1 0 1 (by omega) (by omega) _).mono ?_); rintro e w' ⟨rfl, rfl⟩) | (go_at_call 10; (with_reducible refine (at1 HL.out).mono ?_); rw [hw]; rintro e w' ⟨rfl, rfl⟩) | (go_at_call 9; (with_reducible refine (stepT HL.out HT.out 1).mono ?_); rintro e w3 ⟨rfl, hl, ht⟩; obtain ⟨k0, k1, z0, z1⟩ := ht.cells; have H3 := Lib.hid hl; have T3 := Lib.hid ht; have HA := Lib.hid (hl.aside (i := 1) (u := .int .i64 0) ht.new ht.far); clear hl ht) | (go_at_call 10; (with_reducible refine (at1 H3.out).mono ?_); rw [hn]; rintro e w' ⟨rfl, rfl⟩) | (go_at_call 10; (with_reducible refine (at0 HA.out).mono ?_); rintro e w' ⟨rfl, rfl⟩))
                go_roundw
                case rel => exact ⟨k + 1, pfair (s, c0, c1) 1, by omega, by go_num, HNX.out, by rw [HE.out]; exact HA.out, by rw [HE.out]; exact (T3.out.put1 0)⟩
                case measure => simp [intOf]; omega
              · have HE := Lib.hid (show pfair (s, c0, c1) 1 = (pstp s 1, c0, c1) from by rw [pfair1, if_neg (fun h => h.1 hw), if_neg (fun h => h.elim hw2 hn)])
                obtain ⟨-, b0, b1, b2, b3⟩ := hb
                simp only at b0 b1 b2 b3
                have en : (atP (pstp s 1) 1 == 5) = false := beq_eq_false_iff_ne.2 hn
                clear hnx hn
                go_wp2_with (first | (go_at_call 11; (with_reducible refine (in_true 1 0 1 (by omega) (by omega) _).mono ?_); rintro e w' ⟨rfl, rfl⟩) | (go_at_call 10; (with_reducible refine (at1 HL.out).mono ?_); rw [hw]; rintro e w' ⟨rfl, rfl⟩) | (go_at_call 9; (with_reducible refine (stepT HL.out HT.out 1).mono ?_); rintro e w3 ⟨rfl, hl, ht⟩; obtain ⟨k0, k1, z0, z1⟩ := ht.cells; have H3 := Lib.hid hl; have T3 := Lib.hid ht; have HA := Lib.hid (hl.aside (i := 1) (u := .int .i64 0) ht.new ht.far); clear hl ht) | (go_at_call 10; (with_reducible refine (at1 H3.out).mono ?_); rintro e w' ⟨rfl, rfl⟩) | (go_at_call 10; (with_reducible refine (at0 HA.out).mono ?_); rintro e w' ⟨rfl, rfl⟩))
                go_roundw
                case rel => exact ⟨k + 1, pfair (s, c0, c1) 1, by omega, by go_num, HNX.out, by rw [HE.out]; exact H3.out, by rw [HE.out]; exact T3.out⟩
                case measure => simp [intOf]; omega
            · have hw5 := hw
              clear hw
              by_cases hn : atP (pstp s 1) 1 = 5
              · by_cases hd : 3 ≤ atP (pstp s 1) 0 ∧ atP (pstp s 1) 0 ≤ 4
                · have HE := Lib.hid (show pfair (s, c0, c1) 1 = (pstp s 1, c0 + 1, 0) from by rw [pfair1, if_pos ⟨hw5, hn, hd⟩, if_pos (Or.inr hn)])
                  obtain ⟨-, b0, b1, b2, b3⟩ := hb
                  have hq : c0 + 1 ≤ 1 := by rw [HE.out] at hnx; exact hnx.2.2.1
                  simp only at b0 b1 b2 b3
                  have e2 : (atP s 1 == 2) = false := beq_eq_false_iff_ne.2 hw2
                  have e5 : (atP s 1 != 5) = true := bne_iff_ne.2 hw5
                  obtain ⟨hd1, hd2⟩ := hd
                  clear hnx hw2 hw5
                  go_wp2_with (first | (go_at_call 11; (with_reducible refine (in_true 1 0 1 (by omega) (by omega) _).mono ?_); rintro e w' ⟨rfl, rfl⟩) | (go_at_call 10; (with_reducible refine (at1 HL.out).mono ?_); rintro e w' ⟨rfl, rfl⟩) | (go_at_call 9; (with_reducible refine (stepT HL.out HT.out 1).mono ?_); rintro e w3 ⟨rfl, hl, ht⟩; obtain ⟨k0, k1, z0, z1⟩ := ht.cells; have H3 := Lib.hid hl; have T3 := Lib.hid ht; have HA := Lib.hid (hl.aside (i := 1) (u := .int .i64 0) ht.new ht.far); clear hl ht) | (go_at_call 10; (with_reducible refine (at1 H3.out).mono ?_); rw [hn]; rintro e w' ⟨rfl, rfl⟩) | (go_at_call 10; (with_reducible refine (at0 HA.out).mono ?_); rintro e w' ⟨rfl, rfl⟩) | (go_at_call 11; (with_reducible refine (in_true _ 3 4 hd1 hd2 _).mono ?_); rintro e w' ⟨rfl, rfl⟩))
                  go_roundw
                  case rel => exact ⟨k + 1, pfair (s, c0, c1) 1, by omega, by go_num, HNX.out, by rw [HE.out]; exact (HA.out.aside T3.out.new T3.out.far), by rw [HE.out]; exact ((T3.out.put1 0).put0 _)⟩
                  case measure => simp [intOf]; omega
                · have HE := Lib.hid (show pfair (s, c0, c1) 1 = (pstp s 1, c0, 0) from by rw [pfair1, if_neg (fun h => hd h.2.2), if_pos (Or.inr hn)])
                  obtain ⟨-, b0, b1, b2, b3⟩ := hb
                  simp only at b0 b1 b2 b3
                  have e2 : (atP s 1 == 2) = false := beq_eq_false_iff_ne.2 hw2
                  have e5 : (atP s 1 != 5) = true := bne_iff_ne.2 hw5
                  have HD := Lib.hid hd
                  clear hnx hw2 hw5 hd
                  go_wp2_with (first | (go_at_call 11; (with_reducible refine (in_true 1 0 1 (by omega) (by omega) _).mono ?_); rintro e w' ⟨rfl, rfl⟩) | (go_at_call 10; (with_reducible refine (at1 HL.out).mono ?_); rintro e w' ⟨rfl, rfl⟩) | (go_at_call 9; (with_reducible refine (stepT HL.out HT.out 1).mono ?_); rintro e w3 ⟨rfl, hl, ht⟩; obtain ⟨k0, k1, z0, z1⟩ := ht.cells; have H3 := Lib.hid hl; have T3 := Lib.hid ht; have HA := Lib.hid (hl.aside (i := 1) (u := .int .i64 0) ht.new ht.far); clear hl ht) | (go_at_call 10; (with_reducible refine (at1 H3.out).mono ?_); rw [hn]; rintro e w' ⟨rfl, rfl⟩) | (go_at_call 10; (with_reducible refine (at0 HA.out).mono ?_); rintro e w' ⟨rfl, rfl⟩) | (go_at_call 11; (with_reducible refine (in_false _ 3 4 HD.out _).mono ?_); rintro e w' ⟨rfl, rfl⟩))
                  go_roundw
                  case rel => exact ⟨k + 1, pfair (s, c0, c1) 1, by omega, by go_num, HNX.out, by rw [HE.out]; exact HA.out, by rw [HE.out]; exact (T3.out.put1 0)⟩
                  case measure => simp [intOf]; omega
              · have HE := Lib.hid (show pfair (s, c0, c1) 1 = (pstp s 1, c0, c1) from by rw [pfair1, if_neg (fun h => hn h.2.1), if_neg (fun h => h.elim hw2 hn)])
                obtain ⟨-, b0, b1, b2, b3⟩ := hb
                simp only at b0 b1 b2 b3
                have e2 : (atP s 1 == 2) = false := beq_eq_false_iff_ne.2 hw2
                have e5 : (atP s 1 != 5) = true := bne_iff_ne.2 hw5
                have en : (atP (pstp s 1) 1 == 5) = false := beq_eq_false_iff_ne.2 hn
                clear hnx hw2 hw5 hn
                go_wp2_with (first | (go_at_call 11; (with_reducible refine (in_true 1 0 1 (by omega) (by omega) _).mono ?_); rintro e w' ⟨rfl, rfl⟩) | (go_at_call 10; (with_reducible refine (at1 HL.out).mono ?_); rintro e w' ⟨rfl, rfl⟩) | (go_at_call 9; (with_reducible refine (stepT HL.out HT.out 1).mono ?_); rintro e w3 ⟨rfl, hl, ht⟩; obtain ⟨k0, k1, z0, z1⟩ := ht.cells; have H3 := Lib.hid hl; have T3 := Lib.hid ht; have HA := Lib.hid (hl.aside (i := 1) (u := .int .i64 0) ht.new ht.far); clear hl ht) | (go_at_call 10; (with_reducible refine (at1 H3.out).mono ?_); rintro e w' ⟨rfl, rfl⟩) | (go_at_call 10; (with_reducible refine (at0 HA.out).mono ?_); rintro e w' ⟨rfl, rfl⟩))
                go_roundw
                case rel => exact ⟨k + 1, pfair (s, c0, c1) 1, by omega, by go_num, HNX.out, by rw [HE.out]; exact H3.out, by rw [HE.out]; exact T3.out⟩
                case measure => simp [intOf]; omega
      · have HNX := Lib.hid (pfall_stp HX.out.1 p)
        have HE := Lib.hid (pfair_none x p hpr)
        have HPR := Lib.hid hpr
        clear hpr
        go_wp2_with (go_at_call 11; (with_reducible refine (in_false p 0 1 HPR.out _).mono ?_); rintro e w' ⟨rfl, rfl⟩)
        go_roundw
        case rel => exact ⟨k + 1, x, by omega, by go_num, HX.out⟩
        case measure => simp [intOf]; omega
    · have hh : (k : Int) < script.length ∧ ¬ (k : Int) < 400 ∨ ¬ (k : Int) < script.length := by omega
      clear hgo
      rcases hh with ⟨hI, hJ⟩ | hI
      all_goals
        go_wp2
        go_ret
        exact ⟨rfl, HX.out.2.1.below⟩
end Go.Proofs.Ytjneehfcoljlkaa
