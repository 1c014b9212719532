/-
  latchgarthref4.in, Hist: what is wrong with a history.
-/
import Derived.Test.YtimdhnjkjflbdaaDoorLinRow
namespace Go.Proofs.YtimdhnjkjflbdaaDoor.Lin
open Go.RowKit

theorem in4_any (n lo hi : Int) (w : World) : Calls Tryd.prog 13 #[.int .i64 n, .int .i64 lo, .int .i64 hi] w fun e w' => e = .returned (.bool (inR n lo hi)) ∧ w = w' := by
  by_cases h1 : lo ≤ n
  · by_cases h2 : n ≤ hi
    · go_enter Tryd.func13, Tryd.ntmps13
      go_wp2
      go_ret
      exact ⟨by simp [inR, h1, h2], rfl⟩
    · go_enter Tryd.func13, Tryd.ntmps13
      go_wp2
      go_ret
      exact ⟨by simp [inR, h2], rfl⟩
  · go_enter Tryd.func13, Tryd.ntmps13
    go_wp2
    go_ret
    exact ⟨by simp [inR]; omega, rfl⟩
theorem lone_inb {h : List LO} {i : Nat} (c : ¬ (lat h i).inb) : lone h i = 1 := by unfold lone; rw [if_pos c]
theorem lone_shape {h : List LO} {i : Nat} (c : (lat h i).inb) (d : (lat h i).to ≤ (lat h i).fr) : lone h i = 3 := by unfold lone; rw [if_neg (fun e => e c), if_pos d]
theorem lone_clash {h : List LO} {i j : Nat} (c : (lat h i).inb) (d : ¬ (lat h i).to ≤ (lat h i).fr) (hj : j < i) (e : (lat h j).clash (lat h i)) : lone h i = 6 := by unfold lone; rw [if_neg (fun e => e c), if_neg d, if_pos ⟨j, hj, e⟩]
theorem lone_none {h : List LO} {i : Nat} (c : (lat h i).inb) (d : ¬ (lat h i).to ≤ (lat h i).fr) (e : ∀ j, j < i → ¬ (lat h j).clash (lat h i)) : lone h i = 0 := by unfold lone; rw [if_neg (fun e => e c), if_neg d, if_neg (fun ⟨j, hj, f⟩ => e j hj f)]
set_option maxHeartbeats 16000000 in
set_option maxRecDepth 100000 in
theorem hist_any (ob : Int) (h : List LO) (v : Value) (w : World) (hh : Ops w w.heap.size v h) :
    Calls Tryd.prog 5 #[.int .i64 ob, v] w fun e w' => e = .returned (.int .i64 (lchk ob h)) ∧ Below w.heap.size w w' := by
  have HI := Lib.hid in4_any
  have HO := Lib.hid (fun (A : Option Addr) (c : Nat) (e : v = .slice A h.length c) (k : Nat) (hk : k < h.length) => (e ▸ hh).at_ hk)
  obtain ⟨A, c, rfl, ⟨hlc, hcm⟩, -⟩ := id hh
  have HO := Lib.hid (HO.out A c rfl)
  clear hh
  obtain ⟨E, hE⟩ : ∃ E, E = lchk ob h := ⟨_, rfl⟩
  rw [← hE]
  by_cases h1 : 0 ≤ ob ∧ ob ≤ 2
  · have hwB : inR ob 0 2 = true := inR_true.2 h1
    by_cases h2 : 8 < h.length
    · have h8 : decide ((8 : Int) < h.length) = true := decide_eq_true (by omega)
      have HE := Lib.hid (show E = 4 from hE.trans (lchk_len h1 h2))
      clear h1 h2 hE
      go_enter Tryd.func5, Tryd.ntmps5
      go_wp2_with (go_at_call 13; (with_reducible refine (HI.out _ _ _ _).mono ?_); rintro e w9 ⟨rfl, rfl⟩)
      go_ret
      exact ⟨by rw [HE.out]; rfl, Below.refl _ _⟩
    · have h8 : decide ((8 : Int) < h.length) = false := decide_eq_false (by omega)
      have HE := Lib.hid (show E = lupto h h.length from hE.trans (lchk_upto h1 h2))
      have hl8 : h.length ≤ 8 := by omega
      clear h1 h2 hE
      go_enter Tryd.func5, Tryd.ntmps5
      go_wp2_with (go_at_call 13; (with_reducible refine (HI.out _ _ _ _).mono ?_); rintro e w9 ⟨rfl, rfl⟩)
      go_loopw [5] (fun x wr => ∃ i : Nat, i ≤ h.length ∧ x = .int .i64 i ∧ lupto h i = 0 ∧ Below w.heap.size w wr) (fun x _ => h.length - (intOf x).toNat)
      case atStart => exact ⟨0, Nat.zero_le _, rfl, rfl, Below.refl _ _⟩
      case round =>
        obtain ⟨i, hi, rfl, hz, hbr⟩ := hrel
        have HZ := Lib.hid hz; clear hz
        by_cases hlt : i < h.length
        · obtain ⟨b, off, hA, hb, c0, c1, c2, c3, c4, c5⟩ := HO.out i hlt
          subst hA
          have g0 := (hbr.cell (p := ⟨b, off + i * 6, none⟩) hb).trans c0
          have g1 := (hbr.cell (p := ⟨b, off + i * 6 + 1, none⟩) hb).trans c1
          have g2 := (hbr.cell (p := ⟨b, off + i * 6 + 2, none⟩) hb).trans c2
          have g3 := (hbr.cell (p := ⟨b, off + i * 6 + 3, none⟩) hb).trans c3
          have g4 := (hbr.cell (p := ⟨b, off + i * 6 + 4, none⟩) hb).trans c4
          have g5 := (hbr.cell (p := ⟨b, off + i * 6 + 5, none⟩) hb).trans c5
          clear c0 c1 c2 c3 c4 c5
          have hsw := hbr.size
          have HB2 := Lib.hid (hbr.alloc hsw (.cells #[.int .i64 (lat h i).hd, .int .i64 (lat h i).kd, .int .i64 (lat h i).ar, .int .i64 (lat h i).gt, .int .i64 (lat h i).fr, .int .i64 (lat h i).to] 38))
          have HIB := Lib.hid (inb_iff (lat h i))
          have HEA := Lib.hid (show ∀ n, lone h i = n → n ≠ 0 → E = n from fun n e1 e2 => by rw [HE.out, lupto_at HZ.out (by rw [e1]; exact e2) hlt, e1])
          cases r0 : inR (lat h i).hd 0 3
          · have HE7 := Lib.hid (HEA.out 1 (lone_inb fun c => by have := (HIB.out.1 c).1; rw [r0] at this; cases this) (by decide))
            go_wp2_with (go_at_call 13; (with_reducible refine (HI.out _ _ _ _).mono ?_); rintro e w9 ⟨rfl, rfl⟩)
            go_ret
            exact ⟨by rw [HE7.out]; rfl, HB2.out⟩
          · skip
            cases r1 : inR (lat h i).kd 0 1
            · have HE7 := Lib.hid (HEA.out 1 (lone_inb fun c => by have := (HIB.out.1 c).2.1; rw [r1] at this; cases this) (by decide))
              go_wp2_with (go_at_call 13; (with_reducible refine (HI.out _ _ _ _).mono ?_); rintro e w9 ⟨rfl, rfl⟩)
              go_ret
              exact ⟨by rw [HE7.out]; rfl, HB2.out⟩
            · skip
              cases r2 : inR (lat h i).ar 0 1000
              · have HE7 := Lib.hid (HEA.out 1 (lone_inb fun c => by have := (HIB.out.1 c).2.2.1; rw [r2] at this; cases this) (by decide))
                go_wp2_with (go_at_call 13; (with_reducible refine (HI.out _ _ _ _).mono ?_); rintro e w9 ⟨rfl, rfl⟩)
                go_ret
                exact ⟨by rw [HE7.out]; rfl, HB2.out⟩
              · skip
                cases r3 : inR (lat h i).gt (-1) 8000
                · have HE7 := Lib.hid (HEA.out 1 (lone_inb fun c => by have := (HIB.out.1 c).2.2.2.1; rw [r3] at this; cases this) (by decide))
                  go_wp2_with (go_at_call 13; (with_reducible refine (HI.out _ _ _ _).mono ?_); rintro e w9 ⟨rfl, rfl⟩)
                  go_ret
                  exact ⟨by rw [HE7.out]; rfl, HB2.out⟩
                · skip
                  cases r4 : inR (lat h i).fr 0 1000
                  · have HE7 := Lib.hid (HEA.out 1 (lone_inb fun c => by have := (HIB.out.1 c).2.2.2.2.1; rw [r4] at this; cases this) (by decide))
                    go_wp2_with (go_at_call 13; (with_reducible refine (HI.out _ _ _ _).mono ?_); rintro e w9 ⟨rfl, rfl⟩)
                    go_ret
                    exact ⟨by rw [HE7.out]; rfl, HB2.out⟩
                  · skip
                    cases r5 : inR (lat h i).to 0 1000
                    · have HE7 := Lib.hid (HEA.out 1 (lone_inb fun c => by have := (HIB.out.1 c).2.2.2.2.2; rw [r5] at this; cases this) (by decide))
                      go_wp2_with (go_at_call 13; (with_reducible refine (HI.out _ _ _ _).mono ?_); rintro e w9 ⟨rfl, rfl⟩)
                      go_ret
                      exact ⟨by rw [HE7.out]; rfl, HB2.out⟩
                    · skip
                      have hinb := HIB.out.2 ⟨r0, r1, r2, r3, r4, r5⟩
                      have HINB := Lib.hid hinb; clear hinb
                      by_cases e1 : (lat h i).to ≤ (lat h i).fr
                      · have d1 : decide ((lat h i).to ≤ (lat h i).fr) = true := decide_eq_true e1
                        have HE7 := Lib.hid (HEA.out 3 (lone_shape HINB.out e1) (by decide))
                        clear e1
                        go_wp2_with (go_at_call 13; (with_reducible refine (HI.out _ _ _ _).mono ?_); rintro e w9 ⟨rfl, rfl⟩)
                        go_ret
                        exact ⟨by rw [HE7.out]; rfl, HB2.out⟩
                      · have d1 : decide ((lat h i).to ≤ (lat h i).fr) = false := decide_eq_false e1
                        have HSH := Lib.hid e1
                        clear e1
                        obtain ⟨wo, hwo⟩ : ∃ wo : World, wo = wr := ⟨_, rfl⟩
                        subst hwo
                        go_wp2_with (go_at_call 13; (with_reducible refine (HI.out _ _ _ _).mono ?_); rintro e w9 ⟨rfl, rfl⟩)
                        go_loopw [7] (fun x wr => ∃ j : Nat, j ≤ i ∧ x = .int .i64 j ∧ (∀ y, y < j → ¬ (lat h y).clash (lat h i)) ∧ ∃ n, wr = (wo.alloc (.cells #[.int .i64 (lat h i).hd, .int .i64 (lat h i).kd, .int .i64 (lat h i).ar, .int .i64 (lat h i).gt, .int .i64 (lat h i).fr, .int .i64 (lat h i).to] 38)).drewN n) (fun x _ => i - (intOf x).toNat)
                        case atStart => exact ⟨0, Nat.zero_le _, rfl, (fun y hy => absurd hy (Nat.not_lt_zero _)), 0, rfl⟩
                        case round =>
                          obtain ⟨j, hj, rfl, hp, n, hwr⟩ := hrel
                          have HP := Lib.hid hp; clear hp
                          have HBQ := Lib.hid (show Below w.heap.size w wr from hwr ▸ below_drewN HB2.out n)
                          have x0 : wr.cell? ⟨wo.heap.size, 0, none⟩ = some (.int .i64 (lat h i).hd) := by rw [hwr]; show (wo.alloc _).cell? _ = _; simp
                          have x4 : wr.cell? ⟨wo.heap.size, 4, none⟩ = some (.int .i64 (lat h i).fr) := by rw [hwr]; show (wo.alloc _).cell? _ = _; simp
                          have x5 : wr.cell? ⟨wo.heap.size, 5, none⟩ = some (.int .i64 (lat h i).to) := by rw [hwr]; show (wo.alloc _).cell? _ = _; simp
                          have HWR := Lib.hid hwr; clear hwr
                          by_cases hjl : j < i
                          · obtain ⟨b', off', e', _, m0, _, _, _, m4, m5⟩ := HO.out j (by omega)
                            injection e' with e'
                            injection e' with e1 e2
                            subst e1 e2
                            have y0 := (HBQ.out.cell (p := ⟨b, off + j * 6, none⟩) hb).trans m0
                            have y4 := (HBQ.out.cell (p := ⟨b, off + j * 6 + 4, none⟩) hb).trans m4
                            have y5 := (HBQ.out.cell (p := ⟨b, off + j * 6 + 5, none⟩) hb).trans m5
                            clear m0 m4 m5
                            have hjh : j < h.length := by omega
                            by_cases e1 : (lat h j).hd = (lat h i).hd
                            · have d2 : ((lat h j).hd == (lat h i).hd) = true := beq_iff_eq.2 e1
                              by_cases e2 : (lat h j).fr < (lat h i).to
                              · have d3 : decide ((lat h j).fr < (lat h i).to) = true := decide_eq_true e2
                                by_cases e3 : (lat h i).fr < (lat h j).to
                                · have d4 : decide ((lat h i).fr < (lat h j).to) = true := decide_eq_true e3
                                  have HE7 := Lib.hid (HEA.out 6 (lone_clash HINB.out (by have := HSH.out; omega) hjl ⟨e1, e2, e3⟩) (by decide))
                                  clear e1 e2 e3
                                  go_wp2_with fail
                                  go_quiet (fail)
                                  go_wp2
                                  go_ret
                                  exact ⟨by rw [HE7.out]; rfl, below_drewN HBQ.out _⟩
                                · have d4 : decide ((lat h i).fr < (lat h j).to) = false := decide_eq_false e3
                                  have HN := Lib.hid (show ¬ (lat h j).clash (lat h i) from fun c => e3 c.2.2)
                                  clear e1 e2 e3
                                  go_wp2_with fail
                                  go_quiet (fail)
                                  go_wp2
                                  go_roundw
                                  case rel => exact ⟨j + 1, by omega, by go_num, fun y hy => (if e : y = j then e ▸ HN.out else HP.out y (by omega)), by rw [HWR.out]; first | exact ⟨_, rfl⟩ | exact ⟨_, World.drewN_drewN _ _ _⟩⟩
                                  case measure => simp [intOf]; omega
                              · have d3 : decide ((lat h j).fr < (lat h i).to) = false := decide_eq_false e2
                                have HN := Lib.hid (show ¬ (lat h j).clash (lat h i) from fun c => e2 c.2.1)
                                clear e1 e2
                                go_wp2_with fail
                                go_quiet (fail)
                                go_wp2
                                go_roundw
                                case rel => exact ⟨j + 1, by omega, by go_num, fun y hy => (if e : y = j then e ▸ HN.out else HP.out y (by omega)), by rw [HWR.out]; first | exact ⟨_, rfl⟩ | exact ⟨_, World.drewN_drewN _ _ _⟩⟩
                                case measure => simp [intOf]; omega
                            · have d2 : ((lat h j).hd == (lat h i).hd) = false := beq_eq_false_iff_ne.2 e1
                              have HN := Lib.hid (show ¬ (lat h j).clash (lat h i) from fun c => e1 c.1)
                              clear e1
                              go_wp2_with fail
                              go_quiet (fail)
                              go_wp2
                              go_roundw
                              case rel => exact ⟨j + 1, by omega, by go_num, fun y hy => (if e : y = j then e ▸ HN.out else HP.out y (by omega)), by rw [HWR.out]; first | exact ⟨_, rfl⟩ | exact ⟨_, World.drewN_drewN _ _ _⟩⟩
                              case measure => simp [intOf]; omega
                          · have HE7 := Lib.hid (show lupto h (i + 1) = 0 by show (if lupto h i = 0 then lone h i else lupto h i) = 0; rw [if_pos HZ.out]; exact lone_none HINB.out (by have := HSH.out; omega) fun y hy => HP.out y (by omega))
                            go_wp2
                            go_roundw
                            case rel => exact ⟨i + 1, by omega, by go_num, HE7.out, HBQ.out⟩
                            case measure => simp [intOf]; omega
        · have HE7 := Lib.hid (show E = 0 by rw [HE.out, ← show i = h.length by omega]; exact HZ.out)
          go_wp2
          go_ret
          exact ⟨by rw [HE7.out]; rfl, hbr⟩
  · have hwB : inR ob 0 2 = false := inR_false.2 h1
    have HE := Lib.hid (show E = 1 from hE.trans (lchk_obj h1))
    clear h1 hE
    go_enter Tryd.func5, Tryd.ntmps5
    go_wp2_with (go_at_call 13; (with_reducible refine (HI.out _ _ _ _).mono ?_); rintro e w9 ⟨rfl, rfl⟩)
    go_ret
    exact ⟨by rw [HE.out]; rfl, Below.refl _ _⟩
end Go.Proofs.YtimdhnjkjflbdaaDoor.Lin
