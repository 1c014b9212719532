/-
  The walk of latchgarthtop.TopCount: it answers true, whatever the lock, the number of hands and the script.
-/
import Derived.Test.YtobfaohcadmopaaBakLkN
import Derived.Test.YtobfaohcadmopaaMcsLkN
import Derived.Test.YtobfaohcadmopaaFltLkN
import Derived.Test.YtobfaohcadmopaaTckLkN
import Derived.Test.YtobfaohcadmopaaClhLk
import Derived.Deep.OwnRows
namespace Go.Proofs.Ytobfaohcadmopaa
open Go.RowKit
namespace TopCount

theorem Tint.info : (Try.prog.info? 3).map (fun i => (i.zero, i.size, i.bytes)) = some (some (.int .i64 0), 1, 8) := by kernel_rfl
theorem make_ints (k : Nat) (hk : k ≤ 1000) (w : World) : (Instr.makeSlice 22 (.int .i64 k) (.int .i64 k)).run Try.prog w = .ok (.slice (some ⟨w.heap.size, 0, none⟩) k k) (w.alloc (.cells (madeCells #[.int .i64 0] k) 3)) :=
  run_make_row' 22 3 (.int .i64 0) 8 Try.underlying22 Tint.info rfl .i64 .i64 k (by omega) (by omega) w
/-- What each hand read: a row of numbers of one's own. -/
structure Had (w wr : World) (g n h : Nat) (hd : Nat → Nat) : Prop where
  new : w.heap.size ≤ h
  far : h ≠ g
  blk : ∃ cs, Block wr h 3 cs ∧ cs.size = n ∧ ∀ i, i < n → cs[i]? = some (.int .i64 (hd i))
/-- Another number of one hand. -/
def hup (f : Nat → Nat) (i x : Nat) : Nat → Nat := fun j => if j = i then x else f j
section
variable {w wr w' : World} {g n h : Nat} {hd : Nat → Nat}
theorem Had.cell (k : Had w wr g n h hd) {i : Nat} (hi : i < n) : wr.cell? ⟨h, i, none⟩ = some (.int .i64 (hd i)) := by
  obtain ⟨cs, h1, h2, h3⟩ := k.blk
  rw [h1.cell]; exact h3 i hi
theorem Had.free (k : Had w wr g n h hd) (i : Nat) : wr.frozen? ⟨h, i, none⟩ = false := by
  obtain ⟨cs, h1, h2, h3⟩ := k.blk
  exact h1.free i
theorem Had.touch (k : Had w wr g n h hd) (ht : Touch (fun i => i = g) wr w') : Had w w' g n h hd := by
  obtain ⟨cs, h1, h2, h3⟩ := k.blk
  exact ⟨k.new, k.far, cs, h1.touch ht k.far, h2, h3⟩
theorem Had.put (k : Had w wr g n h hd) {i : Nat} (hi : i < n) (x : Nat) : Had w (wr.setCell ⟨h, i, none⟩ (.int .i64 x)) g n h (hup hd i x) := by
  obtain ⟨cs, h1, h2, h3⟩ := k.blk
  refine ⟨k.new, k.far, _, h1.put i _, by simpa using h2, fun j hj => ?_⟩
  unfold hup
  by_cases e : j = i
  · subst e; rw [Array.getElem?_setIfInBounds_self, if_pos (by omega)]; simp
  · rw [Array.getElem?_setIfInBounds_ne (by omega), h3 j hj]; simp [e]
end
theorem Had.made {w wr : World} {g n : Nat} (hw : w.heap.size ≤ wr.heap.size) (hg : g < wr.heap.size) : Had w (wr.alloc (.cells (madeCells #[.int .i64 0] n) 3)) g n wr.heap.size (fun _ => 0) := by
  refine ⟨hw, by omega, _, Block.made wr _ _, by simp [madeCells], fun i hi => ?_⟩
  have h1 : (#[Value.int .i64 0] : Array Value)[i % (#[Value.int .i64 0] : Array Value).size]! = .int .i64 0 := by simp [Nat.mod_one]
  rw [madeCells, Array.getElem?_map, Array.getElem?_range, if_pos hi, Option.map_some, h1]; rfl
/-- Who is in read what is now. -/
def Cnt (n IN : Nat) (a hd : Nat → Nat) (N : Nat) : Prop := ∀ p, p < n → a p = IN → hd p = N
section
variable {n IN N p : Nat} {a a' hd : Nat → Nat}
theorem Cnt.comes (h : Cnt n IN a hd N) (ho : ∀ q, q < n → q ≠ p → a' q = a q) : Cnt n IN a' (hup hd p N) N := fun q hq e => by
  unfold hup
  by_cases eq : q = p
  · rw [if_pos eq]
  · rw [if_neg eq]; exact h q hq (by rw [← ho q hq eq]; exact e)
theorem Cnt.goes (h1 : ∀ q, q < n → a q = IN → a p = IN → q = p) (ho : ∀ q, q < n → q ≠ p → a' q = a q) (hp : a p = IN) (hp' : a' p ≠ IN) (M : Nat) : Cnt n IN a' hd M := fun q hq e => by
  by_cases eq : q = p
  · subst eq; exact absurd e hp'
  · exact absurd (h1 q hq (by rw [← ho q hq eq]; exact e) hp) eq
theorem Cnt.stays (h : Cnt n IN a hd N) (ho : ∀ q, q < n → q ≠ p → a' q = a q) (hp : a' p = IN → a p = IN) : Cnt n IN a' hd N := fun q hq e => by
  by_cases eq : q = p
  · subst eq; exact h q hq (hp e)
  · exact h q hq (by rw [← ho q hq eq]; exact e)
end
theorem in_any (z lo hi : Int) (w : World) : Calls Try.prog 20 #[.int .i64 z, .int .i64 lo, .int .i64 hi] w fun e w' => e = .returned (.bool (decide (lo ≤ z ∧ z ≤ hi))) ∧ w = w' := by
  by_cases h0 : lo ≤ z
  · by_cases h1 : z ≤ hi
    · rw [decide_eq_true (show lo ≤ z ∧ z ≤ hi from ⟨h0, h1⟩)]
      go_enter Try.func20, Try.ntmps20
      go_wp2
      go_ret
      exact ⟨rfl, rfl⟩
    · rw [decide_eq_false (show ¬ (lo ≤ z ∧ z ≤ hi) from fun h => h1 h.2)]
      go_enter Try.func20, Try.ntmps20
      go_wp2
      go_ret
      exact ⟨rfl, rfl⟩
  · rw [decide_eq_false (show ¬ (lo ≤ z ∧ z ≤ hi) from fun h => h0 h.1)]
    go_enter Try.func20, Try.ntmps20
    go_wp2
    go_ret
    exact ⟨rfl, rfl⟩
theorem in_yes (z lo hi : Int) (h0 : lo ≤ z) (h1 : z ≤ hi) (w : World) : Calls Try.prog 20 #[.int .i64 z, .int .i64 lo, .int .i64 hi] w fun e w' => e = .returned (.bool true) ∧ w = w' := by
  have := in_any z lo hi w
  rwa [decide_eq_true (show lo ≤ z ∧ z ≤ hi from ⟨h0, h1⟩)] at this
theorem in_no (z lo hi : Int) (h : ¬ (lo ≤ z ∧ z ≤ hi)) (w : World) : Calls Try.prog 20 #[.int .i64 z, .int .i64 lo, .int .i64 hi] w fun e w' => e = .returned (.bool false) ∧ w = w' := by
  have := in_any z lo hi w
  rwa [decide_eq_false h] at this
theorem bad_true {z : Int} (h : ¬ (1 ≤ z ∧ z ≤ 4)) : (decide (z < 1) || decide (4 < z)) = true := by
  simp only [Bool.or_eq_true, decide_eq_true_eq]; omega
theorem tick_two : Ticket.lkAt 1 (Ticket.lkStep 1 (Ticket.lkNew 1) 0) 0 = 2 := by decide +kernel
end TopCount
namespace Bakery
theorem at_oth {n : Nat} {s : LSt} {p q : Nat} (hp : p < n) (hq : q < n) (h : q ≠ p) : lkAt n (lkStep n s p) q = lkAt n s q := by
  rw [lkStep_in hp, lkAt_in hq, lkAt_in hq, bstep, bup_other h]

set_option maxRecDepth 100000 in
set_option maxHeartbeats 8000000 in
theorem count_law (n : Nat) (h1 : 1 ≤ n) (h4 : n ≤ 4) (sv : Value) (script : List Int) (w : World) (hn : Nums w w.heap.size sv script) :
    Calls Try.prog 7 #[.int .i64 0, .int .i64 n, sv] w fun e w' => e = .returned (.bool true) ∧ Below w.heap.size w w' := by
  obtain ⟨A, c, rfl, hlen, hn⟩ := hn
  have HN := Lib.hid hn
  clear hn
  have hmk := TopCount.make_ints n (by omega)
  have HK0 := Lib.hid (TopCount.in_yes 0 0 3 (by omega) (by omega))
  go_enter Try.func7, Try.ntmps7
  go_wp2_with (first | (go_at_call 14; refine (Ticket.newL (w := w) (n := 1) (Below.refl _ _) (by omega) (by omega)).mono ?_; rintro e w1 ⟨gt, rfl, hl⟩; have HT1 := Lib.hid hl; clear hl) | (go_at_call 15; (with_reducible refine (Ticket.stepG HT1.out (by omega) 0 (by omega) (by omega)).mono ?_); rintro e w2 ⟨rfl, hl, -⟩; have HB2 := Lib.hid hl.below; have HT2 := Lib.hid hl; clear hl) | (go_at_call 16; (with_reducible refine (Ticket.atL HT2.out 0).mono ?_); rw [TopCount.tick_two]; rintro e w' ⟨rfl, rfl⟩) | (go_at_call 17; refine (newL HB2.out h1 h4).mono ?_; rintro e w3 ⟨g, rfl, hl⟩; have HB3 := Lib.hid hl.below; have HK3 := Lib.hid hl; clear hl) | (go_at_call 18; refine (Mcs.lnew_any n h1 h4 w3).mono ?_; rintro e w4 ⟨rfl, -, hb⟩; have HB4 := Lib.hid (HB3.out.trans (hb.mono HB3.out.size)); have HK4 := Lib.hid (HK3.out.on hb (Nat.le_refl _)); clear hb) | (go_at_call 9; refine (Clh.lnew_any n h1 h4 w4).mono ?_; rintro e w5 ⟨rfl, -, hb⟩; have HB5 := Lib.hid (HB4.out.trans (hb.mono HB4.out.size)); have HK5 := Lib.hid (HK4.out.on hb (Nat.le_refl _)); clear hb) | (go_at_call 19; refine (Filter.lnew_any n h1 h4 w5).mono ?_; rintro e w6 ⟨rfl, -, hb⟩; have HB6 := Lib.hid (HB5.out.trans (hb.mono HB5.out.size)); have HK6 := Lib.hid (HK5.out.on hb (Nat.le_refl _)); clear hb) | (go_at_call 20; (with_reducible refine (HK0.out _).mono ?_); rintro e w' ⟨rfl, rfl⟩))
  have hs1 := HK6.out.below.size
  have hs2 := HK6.out.lk.lt
  obtain ⟨V, hV⟩ : ∃ V, V = (w6.alloc (.cells #[.int .i64 7, .int .i64 6, .int .i64 4, .int .i64 5] 3)) := ⟨_, rfl⟩
  have hVs : V.heap.size = w6.heap.size + 1 := by rw [hV]; simp
  have hl0 : LkAt w (V.alloc (.cells (madeCells #[.int .i64 0] n) 3)) g n (lkNew n) 0 := by rw [hV]; exact (HK6.out.made _).made _
  have hw0 : TopCount.Had w (V.alloc (.cells (madeCells #[.int .i64 0] n) 3)) g n V.heap.size (fun _ => 0) := TopCount.Had.made (by omega) (by omega)
  obtain ⟨h, hh⟩ : ∃ h, h = V.heap.size := ⟨_, rfl⟩
  rw [← hV]
  obtain ⟨U, hU⟩ : ∃ U, U = V.alloc (.cells (madeCells #[.int .i64 0] n) 3) := ⟨_, rfl⟩
  rw [← hU, ← hh] at hw0
  rw [← hU] at hl0
  have hh2 : w6.heap.size + 1 = h := by omega
  try rw [← hVs]
  rw [← hU, ← hh]
  have HL0 := Lib.hid hl0
  have HW0 := Lib.hid hw0
  clear hh hh2 hV hU hVs hl0 hw0 hmk hs1 hs2 HK0
  go_loopw [18, 19, 21] (fun num wt i wr => ∃ (k : Nat) (s : LSt) (N : Nat) (hd : Nat → Nat), k ≤ script.length ∧ i = .int .i64 k ∧ k ≤ 400 ∧ N ≤ k ∧ num = .int .i64 N ∧ wt = .int .i64 N ∧ LkAt w wr g n s k ∧ TopCount.Had w wr g n h hd ∧ TopCount.Cnt n 7 (fun q => lkAt n s q) hd N) (fun _ _ i _ => script.length - (intOf i).toNat)
  case atStart => exact ⟨0, _, 0, _, by omega, rfl, by omega, by omega, rfl, rfl, HL0.out, HW0.out, fun _ _ _ => rfl⟩
  case round =>
    clear HL0 HW0
    obtain ⟨k, s, N, hd, hk, rfl, hk4, hNk, rfl, rfl, hl, hw, hc⟩ := hrel
    have HL := Lib.hid hl
    have HW := Lib.hid hw
    have HC := Lib.hid hc
    clear hw hc
    by_cases hgo : k < script.length ∧ k < 400
    · have hI : (k : Int) < script.length := by omega
      have h4I : (k : Int) < 400 := by omega
      obtain ⟨hlt, _⟩ := hgo
      obtain ⟨b, o, rfl, hbb, hcc⟩ := HN.out (by omega)
      obtain ⟨x, hx⟩ : ∃ x, script[k]? = some x := ⟨script[k], List.getElem?_eq_getElem hlt⟩
      have hxc := (hl.below.cell (p := ⟨b, o + k, none⟩) hbb).trans (hcc k x hx)
      have hw1 : IntKind.i64.wrap ((n : Int) - 1) = (n : Int) - 1 := IntWalk.i64_in _ (by omega)
      have hwN : IntKind.i64.wrap ((N : Int) + 1) = ((N + 1 : Nat) : Int) := (IntWalk.i64_in _ (by omega)).trans (by omega)
      have hne : ((N : Int) != (N : Int)) = false := by simp
      have hne1 : (((N + 1 : Nat) : Int) != ((N + 1 : Nat) : Int)) = false := by simp
      clear hcc hx hl
      by_cases hin : 0 ≤ x ∧ x ≤ (n : Int) - 1
      · obtain ⟨p, rfl⟩ := Int.eq_ofNat_of_zero_le hin.1
        have hpn : p < n := by omega
        have hpI : (p : Int) < n := by omega
        have HIP := Lib.hid (TopCount.in_yes p 0 ((n : Int) - 1) (by omega) (by omega))
        clear hin
        obtain ⟨a, ha⟩ : ∃ a, a = lkAt n s p := ⟨_, rfl⟩
        obtain ⟨s3, hs3⟩ : ∃ s3, s3 = lkStep n s p := ⟨_, rfl⟩
        obtain ⟨b2, hb2⟩ : ∃ b2, b2 = lkAt n s3 p := ⟨_, rfl⟩
        have HO := Lib.hid (show ∀ q, q < n → q ≠ p → (fun q => lkAt n s3 q) q = (fun q => lkAt n s q) q from fun q hq h => by rw [hs3]; exact at_oth hpn hq h)
        have HON := Lib.hid (show ∀ q, q < n → (fun q => lkAt n s q) q = 7 → (fun q => lkAt n s q) p = 7 → q = p from fun q hq e1 e2 => lk_one HL.out.ok q p hq hpn e1 e2)
        have HA := Lib.hid (atL HL.out p)
        have HSG := Lib.hid (stepG HL.out (by omega) p (by omega) hpI)
        rw [← ha] at HA
        rw [← hs3] at HSG
        have HPA := Lib.hid (show (fun q => lkAt n s q) p = a from ha.symm)
        have HPB := Lib.hid (show (fun q => lkAt n s3 q) p = b2 from hb2.symm)
        have HB2 := Lib.hid hb2
        clear ha hs3 hb2
        by_cases aI : a = 7
        · by_cases bI : b2 = 7
          · have e1 : ((a : Int) != 7) = false := by simp; omega
            have e3 : ((a : Int) == 7) = true := by simp; omega
            have e4 : ((b2 : Int) != 7) = false := by simp; omega
            have HC3 := Lib.hid (HC.out.stays (a' := fun q => lkAt n s3 q) HO.out (fun _ => HPA.out.trans aI))
            clear aI bI
            go_wp2_with (first | (go_at_call 20; (with_reducible refine (HIP.out _).mono ?_); rintro e w5 ⟨rfl, rfl⟩) | (go_at_call 21; (with_reducible refine HA.out.mono ?_); rintro e w3 ⟨rfl, rfl⟩) | (go_at_call 22; (with_reducible refine HSG.out.mono ?_); rintro e w4 ⟨rfl, hl4, ht4⟩; have HL3 := Lib.hid hl4; have HW3 := Lib.hid (HW.out.touch ht4); have hc3 := HW3.out.cell hpn; have hf3 := HW3.out.free p; clear hl4 ht4) | (go_at_call 21; (with_reducible refine (atL HL3.out p).mono ?_); rw [← HB2.out]; rintro e w5 ⟨rfl, rfl⟩))
            go_roundw
            case rel => exact ⟨k + 1, _, N, hd, by omega, by go_num, by omega, by omega, rfl, rfl, HL3.out, HW3.out, HC3.out⟩
            case measure => simp [intOf]; omega
          · have e1 : ((a : Int) != 7) = false := by simp; omega
            have e3 : ((a : Int) == 7) = true := by simp; omega
            have e4 : ((b2 : Int) != 7) = true := by simp; omega
            have HC3 := Lib.hid (TopCount.Cnt.goes (hd := hd) (a' := fun q => lkAt n s3 q) HON.out HO.out (HPA.out.trans aI) (fun h => bI (HPB.out.symm.trans h)) (N + 1))
            have HHD := Lib.hid (HC.out p hpn (HPA.out.trans aI))
            clear aI bI
            go_wp2_with (first | (go_at_call 20; (with_reducible refine (HIP.out _).mono ?_); rintro e w5 ⟨rfl, rfl⟩) | (go_at_call 21; (with_reducible refine HA.out.mono ?_); rintro e w3 ⟨rfl, rfl⟩) | (go_at_call 22; (with_reducible refine HSG.out.mono ?_); rintro e w4 ⟨rfl, hl4, ht4⟩; have HL3 := Lib.hid hl4; have HW3 := Lib.hid (HW.out.touch ht4); have hc3 := HW3.out.cell hpn; have hf3 := HW3.out.free p; rw [HHD.out] at hc3; clear hl4 ht4) | (go_at_call 21; (with_reducible refine (atL HL3.out p).mono ?_); rw [← HB2.out]; rintro e w5 ⟨rfl, rfl⟩))
            go_roundw
            case rel => exact ⟨k + 1, _, N + 1, hd, by omega, by go_num, by omega, by omega, rfl, rfl, HL3.out, HW3.out, HC3.out⟩
            case measure => simp [intOf]; omega
        · have e1 : ((a : Int) != 7) = true := by simp; omega
          have e3 : ((a : Int) == 7) = false := by simp; omega
          by_cases bI : b2 = 7
          · have e2 : ((b2 : Int) == 7) = true := by simp; omega
            have HC3 := Lib.hid (HC.out.comes (p := p) (a' := fun q => lkAt n s3 q) HO.out)
            clear aI bI
            go_wp2_with (first | (go_at_call 20; (with_reducible refine (HIP.out _).mono ?_); rintro e w5 ⟨rfl, rfl⟩) | (go_at_call 21; (with_reducible refine HA.out.mono ?_); rintro e w3 ⟨rfl, rfl⟩) | (go_at_call 22; (with_reducible refine HSG.out.mono ?_); rintro e w4 ⟨rfl, hl4, ht4⟩; have HL3 := Lib.hid hl4; have HW3 := Lib.hid (HW.out.touch ht4); have hc3 := HW3.out.cell hpn; have hf3 := HW3.out.free p; clear hl4 ht4) | (go_at_call 21; (with_reducible refine (atL HL3.out p).mono ?_); rw [← HB2.out]; rintro e w5 ⟨rfl, rfl⟩))
            go_roundw
            case rel => exact ⟨k + 1, _, N, _, by omega, by go_num, by omega, by omega, rfl, rfl, HL3.out.other HW3.out.new HW3.out.far, HW3.out.put hpn N, HC3.out⟩
            case measure => simp [intOf]; omega
          · have e2 : ((b2 : Int) == 7) = false := by simp; omega
            have HC3 := Lib.hid (HC.out.stays (a' := fun q => lkAt n s3 q) HO.out (fun h => absurd (HPB.out.symm.trans h) bI))
            clear aI bI
            go_wp2_with (first | (go_at_call 20; (with_reducible refine (HIP.out _).mono ?_); rintro e w5 ⟨rfl, rfl⟩) | (go_at_call 21; (with_reducible refine HA.out.mono ?_); rintro e w3 ⟨rfl, rfl⟩) | (go_at_call 22; (with_reducible refine HSG.out.mono ?_); rintro e w4 ⟨rfl, hl4, ht4⟩; have HL3 := Lib.hid hl4; have HW3 := Lib.hid (HW.out.touch ht4); have hc3 := HW3.out.cell hpn; have hf3 := HW3.out.free p; clear hl4 ht4) | (go_at_call 21; (with_reducible refine (atL HL3.out p).mono ?_); rw [← HB2.out]; rintro e w5 ⟨rfl, rfl⟩))
            go_roundw
            case rel => exact ⟨k + 1, _, N, hd, by omega, by go_num, by omega, by omega, rfl, rfl, HL3.out, HW3.out, HC3.out⟩
            case measure => simp [intOf]; omega
      · have HIP := Lib.hid (TopCount.in_no x 0 ((n : Int) - 1) hin)
        clear hin
        go_wp2_with (go_at_call 20; (with_reducible refine (HIP.out _).mono ?_); rintro e w5 ⟨rfl, rfl⟩)
        go_roundw
        case rel => exact ⟨k + 1, _, N, hd, by omega, by go_num, by omega, by omega, rfl, rfl, HL.out.age (by omega), HW.out, HC.out⟩
        case measure => simp [intOf]; omega
    · have hh : (k : Int) < script.length ∧ ¬ (k : Int) < 400 ∨ ¬ (k : Int) < script.length := by omega
      clear hgo hl
      rcases hh with ⟨hI, hJ⟩ | hI
      all_goals
        go_wp2
        go_ret
        exact ⟨rfl, HL.out.below⟩
end Bakery
namespace Mcs
theorem at_oth {n : Nat} {s : LSt} {p q : Nat} (hp : p < n) (hq : q < n) (h : q ≠ p) : lkAt n (lkStep n s p) q = lkAt n s q := by
  rw [lkStep_in hp, lkAt_in hq, lkAt_in hq, (qstep_oth h).1]

set_option maxRecDepth 100000 in
set_option maxHeartbeats 8000000 in
theorem count_law (n : Nat) (h1 : 1 ≤ n) (h4 : n ≤ 4) (sv : Value) (script : List Int) (w : World) (hn : Nums w w.heap.size sv script) :
    Calls Try.prog 7 #[.int .i64 1, .int .i64 n, sv] w fun e w' => e = .returned (.bool true) ∧ Below w.heap.size w w' := by
  obtain ⟨A, c, rfl, hlen, hn⟩ := hn
  have HN := Lib.hid hn
  clear hn
  have hmk := TopCount.make_ints n (by omega)
  have HK0 := Lib.hid (TopCount.in_yes 1 0 3 (by omega) (by omega))
  go_enter Try.func7, Try.ntmps7
  go_wp2_with (first | (go_at_call 14; refine (Ticket.newL (w := w) (n := 1) (Below.refl _ _) (by omega) (by omega)).mono ?_; rintro e w1 ⟨gt, rfl, hl⟩; have HT1 := Lib.hid hl; clear hl) | (go_at_call 15; (with_reducible refine (Ticket.stepG HT1.out (by omega) 0 (by omega) (by omega)).mono ?_); rintro e w2 ⟨rfl, hl, -⟩; have HB2 := Lib.hid hl.below; have HT2 := Lib.hid hl; clear hl) | (go_at_call 16; (with_reducible refine (Ticket.atL HT2.out 0).mono ?_); rw [TopCount.tick_two]; rintro e w' ⟨rfl, rfl⟩) | (go_at_call 17; refine (Bakery.lnew_any n h1 h4 w2).mono ?_; rintro e w3 ⟨rfl, -, hb⟩; have HB3 := Lib.hid (HB2.out.trans (hb.mono HB2.out.size)); clear hb) | (go_at_call 18; refine (newL HB3.out h1 h4).mono ?_; rintro e w4 ⟨g, rfl, hl⟩; have HB4 := Lib.hid hl.below; have HK4 := Lib.hid hl; clear hl) | (go_at_call 9; refine (Clh.lnew_any n h1 h4 w4).mono ?_; rintro e w5 ⟨rfl, -, hb⟩; have HB5 := Lib.hid (HB4.out.trans (hb.mono HB4.out.size)); have HK5 := Lib.hid (HK4.out.on hb (Nat.le_refl _)); clear hb) | (go_at_call 19; refine (Filter.lnew_any n h1 h4 w5).mono ?_; rintro e w6 ⟨rfl, -, hb⟩; have HB6 := Lib.hid (HB5.out.trans (hb.mono HB5.out.size)); have HK6 := Lib.hid (HK5.out.on hb (Nat.le_refl _)); clear hb) | (go_at_call 20; (with_reducible refine (HK0.out _).mono ?_); rintro e w' ⟨rfl, rfl⟩))
  have hs1 := HK6.out.below.size
  have hs2 := HK6.out.lk.lt
  obtain ⟨V, hV⟩ : ∃ V, V = (w6.alloc (.cells #[.int .i64 7, .int .i64 6, .int .i64 4, .int .i64 5] 3)) := ⟨_, rfl⟩
  have hVs : V.heap.size = w6.heap.size + 1 := by rw [hV]; simp
  have hl0 : LkAt w (V.alloc (.cells (madeCells #[.int .i64 0] n) 3)) g n (lkNew n) 0 := by rw [hV]; exact (HK6.out.made _).made _
  have hw0 : TopCount.Had w (V.alloc (.cells (madeCells #[.int .i64 0] n) 3)) g n V.heap.size (fun _ => 0) := TopCount.Had.made (by omega) (by omega)
  obtain ⟨h, hh⟩ : ∃ h, h = V.heap.size := ⟨_, rfl⟩
  rw [← hV]
  obtain ⟨U, hU⟩ : ∃ U, U = V.alloc (.cells (madeCells #[.int .i64 0] n) 3) := ⟨_, rfl⟩
  rw [← hU, ← hh] at hw0
  rw [← hU] at hl0
  have hh2 : w6.heap.size + 1 = h := by omega
  try rw [← hVs]
  rw [← hU, ← hh]
  have HL0 := Lib.hid hl0
  have HW0 := Lib.hid hw0
  clear hh hh2 hV hU hVs hl0 hw0 hmk hs1 hs2 HK0
  go_loopw [18, 19, 21] (fun num wt i wr => ∃ (k : Nat) (s : LSt) (N : Nat) (hd : Nat → Nat), k ≤ script.length ∧ i = .int .i64 k ∧ k ≤ 400 ∧ N ≤ k ∧ num = .int .i64 N ∧ wt = .int .i64 N ∧ LkAt w wr g n s k ∧ TopCount.Had w wr g n h hd ∧ TopCount.Cnt n 6 (fun q => lkAt n s q) hd N) (fun _ _ i _ => script.length - (intOf i).toNat)
  case atStart => exact ⟨0, _, 0, _, by omega, rfl, by omega, by omega, rfl, rfl, HL0.out, HW0.out, fun _ _ _ => rfl⟩
  case round =>
    clear HL0 HW0
    obtain ⟨k, s, N, hd, hk, rfl, hk4, hNk, rfl, rfl, hl, hw, hc⟩ := hrel
    have HL := Lib.hid hl
    have HW := Lib.hid hw
    have HC := Lib.hid hc
    clear hw hc
    by_cases hgo : k < script.length ∧ k < 400
    · have hI : (k : Int) < script.length := by omega
      have h4I : (k : Int) < 400 := by omega
      obtain ⟨hlt, _⟩ := hgo
      obtain ⟨b, o, rfl, hbb, hcc⟩ := HN.out (by omega)
      obtain ⟨x, hx⟩ : ∃ x, script[k]? = some x := ⟨script[k], List.getElem?_eq_getElem hlt⟩
      have hxc := (hl.below.cell (p := ⟨b, o + k, none⟩) hbb).trans (hcc k x hx)
      have hw1 : IntKind.i64.wrap ((n : Int) - 1) = (n : Int) - 1 := IntWalk.i64_in _ (by omega)
      have hwN : IntKind.i64.wrap ((N : Int) + 1) = ((N + 1 : Nat) : Int) := (IntWalk.i64_in _ (by omega)).trans (by omega)
      have hne : ((N : Int) != (N : Int)) = false := by simp
      have hne1 : (((N + 1 : Nat) : Int) != ((N + 1 : Nat) : Int)) = false := by simp
      clear hcc hx hl
      by_cases hin : 0 ≤ x ∧ x ≤ (n : Int) - 1
      · obtain ⟨p, rfl⟩ := Int.eq_ofNat_of_zero_le hin.1
        have hpn : p < n := by omega
        have hpI : (p : Int) < n := by omega
        have HIP := Lib.hid (TopCount.in_yes p 0 ((n : Int) - 1) (by omega) (by omega))
        clear hin
        obtain ⟨a, ha⟩ : ∃ a, a = lkAt n s p := ⟨_, rfl⟩
        obtain ⟨s3, hs3⟩ : ∃ s3, s3 = lkStep n s p := ⟨_, rfl⟩
        obtain ⟨b2, hb2⟩ : ∃ b2, b2 = lkAt n s3 p := ⟨_, rfl⟩
        have HO := Lib.hid (show ∀ q, q < n → q ≠ p → (fun q => lkAt n s3 q) q = (fun q => lkAt n s q) q from fun q hq h => by rw [hs3]; exact at_oth hpn hq h)
        have HON := Lib.hid (show ∀ q, q < n → (fun q => lkAt n s q) q = 6 → (fun q => lkAt n s q) p = 6 → q = p from fun q hq e1 e2 => lk_one HL.out.ok q p hq hpn e1 e2)
        have HA := Lib.hid (atL HL.out p)
        have HSG := Lib.hid (stepG HL.out (by omega) p (by omega) hpI)
        rw [← ha] at HA
        rw [← hs3] at HSG
        have HPA := Lib.hid (show (fun q => lkAt n s q) p = a from ha.symm)
        have HPB := Lib.hid (show (fun q => lkAt n s3 q) p = b2 from hb2.symm)
        have HB2 := Lib.hid hb2
        clear ha hs3 hb2
        by_cases aI : a = 6
        · by_cases bI : b2 = 6
          · have e1 : ((a : Int) != 6) = false := by simp; omega
            have e3 : ((a : Int) == 6) = true := by simp; omega
            have e4 : ((b2 : Int) != 6) = false := by simp; omega
            have HC3 := Lib.hid (HC.out.stays (a' := fun q => lkAt n s3 q) HO.out (fun _ => HPA.out.trans aI))
            clear aI bI
            go_wp2_with (first | (go_at_call 20; (with_reducible refine (HIP.out _).mono ?_); rintro e w5 ⟨rfl, rfl⟩) | (go_at_call 23; (with_reducible refine HA.out.mono ?_); rintro e w3 ⟨rfl, rfl⟩) | (go_at_call 24; (with_reducible refine HSG.out.mono ?_); rintro e w4 ⟨rfl, hl4, ht4⟩; have HL3 := Lib.hid hl4; have HW3 := Lib.hid (HW.out.touch ht4); have hc3 := HW3.out.cell hpn; have hf3 := HW3.out.free p; clear hl4 ht4) | (go_at_call 23; (with_reducible refine (atL HL3.out p).mono ?_); rw [← HB2.out]; rintro e w5 ⟨rfl, rfl⟩))
            go_roundw
            case rel => exact ⟨k + 1, _, N, hd, by omega, by go_num, by omega, by omega, rfl, rfl, HL3.out, HW3.out, HC3.out⟩
            case measure => simp [intOf]; omega
          · have e1 : ((a : Int) != 6) = false := by simp; omega
            have e3 : ((a : Int) == 6) = true := by simp; omega
            have e4 : ((b2 : Int) != 6) = true := by simp; omega
            have HC3 := Lib.hid (TopCount.Cnt.goes (hd := hd) (a' := fun q => lkAt n s3 q) HON.out HO.out (HPA.out.trans aI) (fun h => bI (HPB.out.symm.trans h)) (N + 1))
            have HHD := Lib.hid (HC.out p hpn (HPA.out.trans aI))
            clear aI bI
            go_wp2_with (first | (go_at_call 20; (with_reducible refine (HIP.out _).mono ?_); rintro e w5 ⟨rfl, rfl⟩) | (go_at_call 23; (with_reducible refine HA.out.mono ?_); rintro e w3 ⟨rfl, rfl⟩) | (go_at_call 24; (with_reducible refine HSG.out.mono ?_); rintro e w4 ⟨rfl, hl4, ht4⟩; have HL3 := Lib.hid hl4; have HW3 := Lib.hid (HW.out.touch ht4); have hc3 := HW3.out.cell hpn; have hf3 := HW3.out.free p; rw [HHD.out] at hc3; clear hl4 ht4) | (go_at_call 23; (with_reducible refine (atL HL3.out p).mono ?_); rw [← HB2.out]; rintro e w5 ⟨rfl, rfl⟩))
            go_roundw
            case rel => exact ⟨k + 1, _, N + 1, hd, by omega, by go_num, by omega, by omega, rfl, rfl, HL3.out, HW3.out, HC3.out⟩
            case measure => simp [intOf]; omega
        · have e1 : ((a : Int) != 6) = true := by simp; omega
          have e3 : ((a : Int) == 6) = false := by simp; omega
          by_cases bI : b2 = 6
          · have e2 : ((b2 : Int) == 6) = true := by simp; omega
            have HC3 := Lib.hid (HC.out.comes (p := p) (a' := fun q => lkAt n s3 q) HO.out)
            clear aI bI
            go_wp2_with (first | (go_at_call 20; (with_reducible refine (HIP.out _).mono ?_); rintro e w5 ⟨rfl, rfl⟩) | (go_at_call 23; (with_reducible refine HA.out.mono ?_); rintro e w3 ⟨rfl, rfl⟩) | (go_at_call 24; (with_reducible refine HSG.out.mono ?_); rintro e w4 ⟨rfl, hl4, ht4⟩; have HL3 := Lib.hid hl4; have HW3 := Lib.hid (HW.out.touch ht4); have hc3 := HW3.out.cell hpn; have hf3 := HW3.out.free p; clear hl4 ht4) | (go_at_call 23; (with_reducible refine (atL HL3.out p).mono ?_); rw [← HB2.out]; rintro e w5 ⟨rfl, rfl⟩))
            go_roundw
            case rel => exact ⟨k + 1, _, N, _, by omega, by go_num, by omega, by omega, rfl, rfl, HL3.out.other HW3.out.new HW3.out.far, HW3.out.put hpn N, HC3.out⟩
            case measure => simp [intOf]; omega
          · have e2 : ((b2 : Int) == 6) = false := by simp; omega
            have HC3 := Lib.hid (HC.out.stays (a' := fun q => lkAt n s3 q) HO.out (fun h => absurd (HPB.out.symm.trans h) bI))
            clear aI bI
            go_wp2_with (first | (go_at_call 20; (with_reducible refine (HIP.out _).mono ?_); rintro e w5 ⟨rfl, rfl⟩) | (go_at_call 23; (with_reducible refine HA.out.mono ?_); rintro e w3 ⟨rfl, rfl⟩) | (go_at_call 24; (with_reducible refine HSG.out.mono ?_); rintro e w4 ⟨rfl, hl4, ht4⟩; have HL3 := Lib.hid hl4; have HW3 := Lib.hid (HW.out.touch ht4); have hc3 := HW3.out.cell hpn; have hf3 := HW3.out.free p; clear hl4 ht4) | (go_at_call 23; (with_reducible refine (atL HL3.out p).mono ?_); rw [← HB2.out]; rintro e w5 ⟨rfl, rfl⟩))
            go_roundw
            case rel => exact ⟨k + 1, _, N, hd, by omega, by go_num, by omega, by omega, rfl, rfl, HL3.out, HW3.out, HC3.out⟩
            case measure => simp [intOf]; omega
      · have HIP := Lib.hid (TopCount.in_no x 0 ((n : Int) - 1) hin)
        clear hin
        go_wp2_with (go_at_call 20; (with_reducible refine (HIP.out _).mono ?_); rintro e w5 ⟨rfl, rfl⟩)
        go_roundw
        case rel => exact ⟨k + 1, _, N, hd, by omega, by go_num, by omega, by omega, rfl, rfl, HL.out.age (by omega), HW.out, HC.out⟩
        case measure => simp [intOf]; omega
    · have hh : (k : Int) < script.length ∧ ¬ (k : Int) < 400 ∨ ¬ (k : Int) < script.length := by omega
      clear hgo hl
      rcases hh with ⟨hI, hJ⟩ | hI
      all_goals
        go_wp2
        go_ret
        exact ⟨rfl, HL.out.below⟩
end Mcs
namespace Clh
theorem at_oth {n : Nat} {s : LSt} {p q : Nat} (hp : p < n) (hq : q < n) (h : q ≠ p) : lkAt n (lkStep n s p) q = lkAt n s q := by
  rw [lkStep_in hp, lkAt_in hq, lkAt_in hq, (cstep_oth h).1]

set_option maxRecDepth 100000 in
set_option maxHeartbeats 8000000 in
theorem count_law (n : Nat) (h1 : 1 ≤ n) (h4 : n ≤ 4) (sv : Value) (script : List Int) (w : World) (hn : Nums w w.heap.size sv script) :
    Calls Try.prog 7 #[.int .i64 2, .int .i64 n, sv] w fun e w' => e = .returned (.bool true) ∧ Below w.heap.size w w' := by
  obtain ⟨A, c, rfl, hlen, hn⟩ := hn
  have HN := Lib.hid hn
  clear hn
  have hmk := TopCount.make_ints n (by omega)
  have HK0 := Lib.hid (TopCount.in_yes 2 0 3 (by omega) (by omega))
  go_enter Try.func7, Try.ntmps7
  go_wp2_with (first | (go_at_call 14; refine (Ticket.newL (w := w) (n := 1) (Below.refl _ _) (by omega) (by omega)).mono ?_; rintro e w1 ⟨gt, rfl, hl⟩; have HT1 := Lib.hid hl; clear hl) | (go_at_call 15; (with_reducible refine (Ticket.stepG HT1.out (by omega) 0 (by omega) (by omega)).mono ?_); rintro e w2 ⟨rfl, hl, -⟩; have HB2 := Lib.hid hl.below; have HT2 := Lib.hid hl; clear hl) | (go_at_call 16; (with_reducible refine (Ticket.atL HT2.out 0).mono ?_); rw [TopCount.tick_two]; rintro e w' ⟨rfl, rfl⟩) | (go_at_call 17; refine (Bakery.lnew_any n h1 h4 w2).mono ?_; rintro e w3 ⟨rfl, -, hb⟩; have HB3 := Lib.hid (HB2.out.trans (hb.mono HB2.out.size)); clear hb) | (go_at_call 18; refine (Mcs.lnew_any n h1 h4 w3).mono ?_; rintro e w4 ⟨rfl, -, hb⟩; have HB4 := Lib.hid (HB3.out.trans (hb.mono HB3.out.size)); clear hb) | (go_at_call 9; refine (newL HB4.out h1 h4).mono ?_; rintro e w5 ⟨g, rfl, hl⟩; have HB5 := Lib.hid hl.below; have HK5 := Lib.hid hl; clear hl) | (go_at_call 19; refine (Filter.lnew_any n h1 h4 w5).mono ?_; rintro e w6 ⟨rfl, -, hb⟩; have HB6 := Lib.hid (HB5.out.trans (hb.mono HB5.out.size)); have HK6 := Lib.hid (HK5.out.on hb (Nat.le_refl _)); clear hb) | (go_at_call 20; (with_reducible refine (HK0.out _).mono ?_); rintro e w' ⟨rfl, rfl⟩))
  have hs1 := HK6.out.below.size
  have hs2 := HK6.out.lk.lt
  obtain ⟨V, hV⟩ : ∃ V, V = (w6.alloc (.cells #[.int .i64 7, .int .i64 6, .int .i64 4, .int .i64 5] 3)) := ⟨_, rfl⟩
  have hVs : V.heap.size = w6.heap.size + 1 := by rw [hV]; simp
  have hl0 : LkAt w (V.alloc (.cells (madeCells #[.int .i64 0] n) 3)) g n (lkNew n) 0 := by rw [hV]; exact (HK6.out.made _).made _
  have hw0 : TopCount.Had w (V.alloc (.cells (madeCells #[.int .i64 0] n) 3)) g n V.heap.size (fun _ => 0) := TopCount.Had.made (by omega) (by omega)
  obtain ⟨h, hh⟩ : ∃ h, h = V.heap.size := ⟨_, rfl⟩
  rw [← hV]
  obtain ⟨U, hU⟩ : ∃ U, U = V.alloc (.cells (madeCells #[.int .i64 0] n) 3) := ⟨_, rfl⟩
  rw [← hU, ← hh] at hw0
  rw [← hU] at hl0
  have hh2 : w6.heap.size + 1 = h := by omega
  try rw [← hVs]
  rw [← hU, ← hh]
  have HL0 := Lib.hid hl0
  have HW0 := Lib.hid hw0
  clear hh hh2 hV hU hVs hl0 hw0 hmk hs1 hs2 HK0
  go_loopw [18, 19, 21] (fun num wt i wr => ∃ (k : Nat) (s : LSt) (N : Nat) (hd : Nat → Nat), k ≤ script.length ∧ i = .int .i64 k ∧ k ≤ 400 ∧ N ≤ k ∧ num = .int .i64 N ∧ wt = .int .i64 N ∧ LkAt w wr g n s k ∧ TopCount.Had w wr g n h hd ∧ TopCount.Cnt n 4 (fun q => lkAt n s q) hd N) (fun _ _ i _ => script.length - (intOf i).toNat)
  case atStart => exact ⟨0, _, 0, _, by omega, rfl, by omega, by omega, rfl, rfl, HL0.out, HW0.out, fun _ _ _ => rfl⟩
  case round =>
    clear HL0 HW0
    obtain ⟨k, s, N, hd, hk, rfl, hk4, hNk, rfl, rfl, hl, hw, hc⟩ := hrel
    have HL := Lib.hid hl
    have HW := Lib.hid hw
    have HC := Lib.hid hc
    clear hw hc
    by_cases hgo : k < script.length ∧ k < 400
    · have hI : (k : Int) < script.length := by omega
      have h4I : (k : Int) < 400 := by omega
      obtain ⟨hlt, _⟩ := hgo
      obtain ⟨b, o, rfl, hbb, hcc⟩ := HN.out (by omega)
      obtain ⟨x, hx⟩ : ∃ x, script[k]? = some x := ⟨script[k], List.getElem?_eq_getElem hlt⟩
      have hxc := (hl.below.cell (p := ⟨b, o + k, none⟩) hbb).trans (hcc k x hx)
      have hw1 : IntKind.i64.wrap ((n : Int) - 1) = (n : Int) - 1 := IntWalk.i64_in _ (by omega)
      have hwN : IntKind.i64.wrap ((N : Int) + 1) = ((N + 1 : Nat) : Int) := (IntWalk.i64_in _ (by omega)).trans (by omega)
      have hne : ((N : Int) != (N : Int)) = false := by simp
      have hne1 : (((N + 1 : Nat) : Int) != ((N + 1 : Nat) : Int)) = false := by simp
      clear hcc hx hl
      by_cases hin : 0 ≤ x ∧ x ≤ (n : Int) - 1
      · obtain ⟨p, rfl⟩ := Int.eq_ofNat_of_zero_le hin.1
        have hpn : p < n := by omega
        have hpI : (p : Int) < n := by omega
        have HIP := Lib.hid (TopCount.in_yes p 0 ((n : Int) - 1) (by omega) (by omega))
        clear hin
        obtain ⟨a, ha⟩ : ∃ a, a = lkAt n s p := ⟨_, rfl⟩
        obtain ⟨s3, hs3⟩ : ∃ s3, s3 = lkStep n s p := ⟨_, rfl⟩
        obtain ⟨b2, hb2⟩ : ∃ b2, b2 = lkAt n s3 p := ⟨_, rfl⟩
        have HO := Lib.hid (show ∀ q, q < n → q ≠ p → (fun q => lkAt n s3 q) q = (fun q => lkAt n s q) q from fun q hq h => by rw [hs3]; exact at_oth hpn hq h)
        have HON := Lib.hid (show ∀ q, q < n → (fun q => lkAt n s q) q = 4 → (fun q => lkAt n s q) p = 4 → q = p from fun q hq e1 e2 => lk_one HL.out.ok q p hq hpn e1 e2)
        have HA := Lib.hid (atL HL.out p)
        have HSG := Lib.hid (stepG HL.out (by omega) p (by omega) hpI)
        rw [← ha] at HA
        rw [← hs3] at HSG
        have HPA := Lib.hid (show (fun q => lkAt n s q) p = a from ha.symm)
        have HPB := Lib.hid (show (fun q => lkAt n s3 q) p = b2 from hb2.symm)
        have HB2 := Lib.hid hb2
        clear ha hs3 hb2
        by_cases aI : a = 4
        · by_cases bI : b2 = 4
          · have e1 : ((a : Int) != 4) = false := by simp; omega
            have e3 : ((a : Int) == 4) = true := by simp; omega
            have e4 : ((b2 : Int) != 4) = false := by simp; omega
            have HC3 := Lib.hid (HC.out.stays (a' := fun q => lkAt n s3 q) HO.out (fun _ => HPA.out.trans aI))
            clear aI bI
            go_wp2_with (first | (go_at_call 20; (with_reducible refine (HIP.out _).mono ?_); rintro e w5 ⟨rfl, rfl⟩) | (go_at_call 11; (with_reducible refine HA.out.mono ?_); rintro e w3 ⟨rfl, rfl⟩) | (go_at_call 10; (with_reducible refine HSG.out.mono ?_); rintro e w4 ⟨rfl, hl4, ht4⟩; have HL3 := Lib.hid hl4; have HW3 := Lib.hid (HW.out.touch ht4); have hc3 := HW3.out.cell hpn; have hf3 := HW3.out.free p; clear hl4 ht4) | (go_at_call 11; (with_reducible refine (atL HL3.out p).mono ?_); rw [← HB2.out]; rintro e w5 ⟨rfl, rfl⟩))
            go_roundw
            case rel => exact ⟨k + 1, _, N, hd, by omega, by go_num, by omega, by omega, rfl, rfl, HL3.out, HW3.out, HC3.out⟩
            case measure => simp [intOf]; omega
          · have e1 : ((a : Int) != 4) = false := by simp; omega
            have e3 : ((a : Int) == 4) = true := by simp; omega
            have e4 : ((b2 : Int) != 4) = true := by simp; omega
            have HC3 := Lib.hid (TopCount.Cnt.goes (hd := hd) (a' := fun q => lkAt n s3 q) HON.out HO.out (HPA.out.trans aI) (fun h => bI (HPB.out.symm.trans h)) (N + 1))
            have HHD := Lib.hid (HC.out p hpn (HPA.out.trans aI))
            clear aI bI
            go_wp2_with (first | (go_at_call 20; (with_reducible refine (HIP.out _).mono ?_); rintro e w5 ⟨rfl, rfl⟩) | (go_at_call 11; (with_reducible refine HA.out.mono ?_); rintro e w3 ⟨rfl, rfl⟩) | (go_at_call 10; (with_reducible refine HSG.out.mono ?_); rintro e w4 ⟨rfl, hl4, ht4⟩; have HL3 := Lib.hid hl4; have HW3 := Lib.hid (HW.out.touch ht4); have hc3 := HW3.out.cell hpn; have hf3 := HW3.out.free p; rw [HHD.out] at hc3; clear hl4 ht4) | (go_at_call 11; (with_reducible refine (atL HL3.out p).mono ?_); rw [← HB2.out]; rintro e w5 ⟨rfl, rfl⟩))
            go_roundw
            case rel => exact ⟨k + 1, _, N + 1, hd, by omega, by go_num, by omega, by omega, rfl, rfl, HL3.out, HW3.out, HC3.out⟩
            case measure => simp [intOf]; omega
        · have e1 : ((a : Int) != 4) = true := by simp; omega
          have e3 : ((a : Int) == 4) = false := by simp; omega
          by_cases bI : b2 = 4
          · have e2 : ((b2 : Int) == 4) = true := by simp; omega
            have HC3 := Lib.hid (HC.out.comes (p := p) (a' := fun q => lkAt n s3 q) HO.out)
            clear aI bI
            go_wp2_with (first | (go_at_call 20; (with_reducible refine (HIP.out _).mono ?_); rintro e w5 ⟨rfl, rfl⟩) | (go_at_call 11; (with_reducible refine HA.out.mono ?_); rintro e w3 ⟨rfl, rfl⟩) | (go_at_call 10; (with_reducible refine HSG.out.mono ?_); rintro e w4 ⟨rfl, hl4, ht4⟩; have HL3 := Lib.hid hl4; have HW3 := Lib.hid (HW.out.touch ht4); have hc3 := HW3.out.cell hpn; have hf3 := HW3.out.free p; clear hl4 ht4) | (go_at_call 11; (with_reducible refine (atL HL3.out p).mono ?_); rw [← HB2.out]; rintro e w5 ⟨rfl, rfl⟩))
            go_roundw
            case rel => exact ⟨k + 1, _, N, _, by omega, by go_num, by omega, by omega, rfl, rfl, HL3.out.other HW3.out.new HW3.out.far, HW3.out.put hpn N, HC3.out⟩
            case measure => simp [intOf]; omega
          · have e2 : ((b2 : Int) == 4) = false := by simp; omega
            have HC3 := Lib.hid (HC.out.stays (a' := fun q => lkAt n s3 q) HO.out (fun h => absurd (HPB.out.symm.trans h) bI))
            clear aI bI
            go_wp2_with (first | (go_at_call 20; (with_reducible refine (HIP.out _).mono ?_); rintro e w5 ⟨rfl, rfl⟩) | (go_at_call 11; (with_reducible refine HA.out.mono ?_); rintro e w3 ⟨rfl, rfl⟩) | (go_at_call 10; (with_reducible refine HSG.out.mono ?_); rintro e w4 ⟨rfl, hl4, ht4⟩; have HL3 := Lib.hid hl4; have HW3 := Lib.hid (HW.out.touch ht4); have hc3 := HW3.out.cell hpn; have hf3 := HW3.out.free p; clear hl4 ht4) | (go_at_call 11; (with_reducible refine (atL HL3.out p).mono ?_); rw [← HB2.out]; rintro e w5 ⟨rfl, rfl⟩))
            go_roundw
            case rel => exact ⟨k + 1, _, N, hd, by omega, by go_num, by omega, by omega, rfl, rfl, HL3.out, HW3.out, HC3.out⟩
            case measure => simp [intOf]; omega
      · have HIP := Lib.hid (TopCount.in_no x 0 ((n : Int) - 1) hin)
        clear hin
        go_wp2_with (go_at_call 20; (with_reducible refine (HIP.out _).mono ?_); rintro e w5 ⟨rfl, rfl⟩)
        go_roundw
        case rel => exact ⟨k + 1, _, N, hd, by omega, by go_num, by omega, by omega, rfl, rfl, HL.out.age (by omega), HW.out, HC.out⟩
        case measure => simp [intOf]; omega
    · have hh : (k : Int) < script.length ∧ ¬ (k : Int) < 400 ∨ ¬ (k : Int) < script.length := by omega
      clear hgo hl
      rcases hh with ⟨hI, hJ⟩ | hI
      all_goals
        go_wp2
        go_ret
        exact ⟨rfl, HL.out.below⟩
end Clh
namespace Filter
theorem at_oth {n : Nat} {s : LSt} {p q : Nat} (hp : p < n) (hq : q < n) (h : q ≠ p) : lkAt n (lkStep n s p) q = lkAt n s q := by
  rw [lkStep_in hp, lkAt_in hq, lkAt_in hq]
  unfold fstep fpass
  repeat' split
  all_goals first | rfl | exact fup_other h

set_option maxRecDepth 100000 in
set_option maxHeartbeats 8000000 in
theorem count_law (n : Nat) (h1 : 1 ≤ n) (h4 : n ≤ 4) (sv : Value) (script : List Int) (w : World) (hn : Nums w w.heap.size sv script) :
    Calls Try.prog 7 #[.int .i64 3, .int .i64 n, sv] w fun e w' => e = .returned (.bool true) ∧ Below w.heap.size w w' := by
  obtain ⟨A, c, rfl, hlen, hn⟩ := hn
  have HN := Lib.hid hn
  clear hn
  have hmk := TopCount.make_ints n (by omega)
  have HK0 := Lib.hid (TopCount.in_yes 3 0 3 (by omega) (by omega))
  go_enter Try.func7, Try.ntmps7
  go_wp2_with (first | (go_at_call 14; refine (Ticket.newL (w := w) (n := 1) (Below.refl _ _) (by omega) (by omega)).mono ?_; rintro e w1 ⟨gt, rfl, hl⟩; have HT1 := Lib.hid hl; clear hl) | (go_at_call 15; (with_reducible refine (Ticket.stepG HT1.out (by omega) 0 (by omega) (by omega)).mono ?_); rintro e w2 ⟨rfl, hl, -⟩; have HB2 := Lib.hid hl.below; have HT2 := Lib.hid hl; clear hl) | (go_at_call 16; (with_reducible refine (Ticket.atL HT2.out 0).mono ?_); rw [TopCount.tick_two]; rintro e w' ⟨rfl, rfl⟩) | (go_at_call 17; refine (Bakery.lnew_any n h1 h4 w2).mono ?_; rintro e w3 ⟨rfl, -, hb⟩; have HB3 := Lib.hid (HB2.out.trans (hb.mono HB2.out.size)); clear hb) | (go_at_call 18; refine (Mcs.lnew_any n h1 h4 w3).mono ?_; rintro e w4 ⟨rfl, -, hb⟩; have HB4 := Lib.hid (HB3.out.trans (hb.mono HB3.out.size)); clear hb) | (go_at_call 9; refine (Clh.lnew_any n h1 h4 w4).mono ?_; rintro e w5 ⟨rfl, -, hb⟩; have HB5 := Lib.hid (HB4.out.trans (hb.mono HB4.out.size)); clear hb) | (go_at_call 19; refine (newL HB5.out h1 h4).mono ?_; rintro e w6 ⟨g, rfl, hl⟩; have HB6 := Lib.hid hl.below; have HK6 := Lib.hid hl; clear hl) | (go_at_call 20; (with_reducible refine (HK0.out _).mono ?_); rintro e w' ⟨rfl, rfl⟩))
  have hs1 := HK6.out.below.size
  have hs2 := HK6.out.lk.lt
  obtain ⟨V, hV⟩ : ∃ V, V = (w6.alloc (.cells #[.int .i64 7, .int .i64 6, .int .i64 4, .int .i64 5] 3)) := ⟨_, rfl⟩
  have hVs : V.heap.size = w6.heap.size + 1 := by rw [hV]; simp
  have hl0 : LkAt w (V.alloc (.cells (madeCells #[.int .i64 0] n) 3)) g n (lkNew n) 0 := by rw [hV]; exact (HK6.out.made _).made _
  have hw0 : TopCount.Had w (V.alloc (.cells (madeCells #[.int .i64 0] n) 3)) g n V.heap.size (fun _ => 0) := TopCount.Had.made (by omega) (by omega)
  obtain ⟨h, hh⟩ : ∃ h, h = V.heap.size := ⟨_, rfl⟩
  rw [← hV]
  obtain ⟨U, hU⟩ : ∃ U, U = V.alloc (.cells (madeCells #[.int .i64 0] n) 3) := ⟨_, rfl⟩
  rw [← hU, ← hh] at hw0
  rw [← hU] at hl0
  have hh2 : w6.heap.size + 1 = h := by omega
  try rw [← hVs]
  rw [← hU, ← hh]
  have HL0 := Lib.hid hl0
  have HW0 := Lib.hid hw0
  clear hh hh2 hV hU hVs hl0 hw0 hmk hs1 hs2 HK0
  go_loopw [18, 19, 21] (fun num wt i wr => ∃ (k : Nat) (s : LSt) (N : Nat) (hd : Nat → Nat), k ≤ script.length ∧ i = .int .i64 k ∧ k ≤ 400 ∧ N ≤ k ∧ num = .int .i64 N ∧ wt = .int .i64 N ∧ LkAt w wr g n s k ∧ TopCount.Had w wr g n h hd ∧ TopCount.Cnt n 5 (fun q => lkAt n s q) hd N) (fun _ _ i _ => script.length - (intOf i).toNat)
  case atStart => exact ⟨0, _, 0, _, by omega, rfl, by omega, by omega, rfl, rfl, HL0.out, HW0.out, fun _ _ _ => rfl⟩
  case round =>
    clear HL0 HW0
    obtain ⟨k, s, N, hd, hk, rfl, hk4, hNk, rfl, rfl, hl, hw, hc⟩ := hrel
    have HL := Lib.hid hl
    have HW := Lib.hid hw
    have HC := Lib.hid hc
    clear hw hc
    by_cases hgo : k < script.length ∧ k < 400
    · have hI : (k : Int) < script.length := by omega
      have h4I : (k : Int) < 400 := by omega
      obtain ⟨hlt, _⟩ := hgo
      obtain ⟨b, o, rfl, hbb, hcc⟩ := HN.out (by omega)
      obtain ⟨x, hx⟩ : ∃ x, script[k]? = some x := ⟨script[k], List.getElem?_eq_getElem hlt⟩
      have hxc := (hl.below.cell (p := ⟨b, o + k, none⟩) hbb).trans (hcc k x hx)
      have hw1 : IntKind.i64.wrap ((n : Int) - 1) = (n : Int) - 1 := IntWalk.i64_in _ (by omega)
      have hwN : IntKind.i64.wrap ((N : Int) + 1) = ((N + 1 : Nat) : Int) := (IntWalk.i64_in _ (by omega)).trans (by omega)
      have hne : ((N : Int) != (N : Int)) = false := by simp
      have hne1 : (((N + 1 : Nat) : Int) != ((N + 1 : Nat) : Int)) = false := by simp
      clear hcc hx hl
      by_cases hin : 0 ≤ x ∧ x ≤ (n : Int) - 1
      · obtain ⟨p, rfl⟩ := Int.eq_ofNat_of_zero_le hin.1
        have hpn : p < n := by omega
        have hpI : (p : Int) < n := by omega
        have HIP := Lib.hid (TopCount.in_yes p 0 ((n : Int) - 1) (by omega) (by omega))
        clear hin
        obtain ⟨a, ha⟩ : ∃ a, a = lkAt n s p := ⟨_, rfl⟩
        obtain ⟨s3, hs3⟩ : ∃ s3, s3 = lkStep n s p := ⟨_, rfl⟩
        obtain ⟨b2, hb2⟩ : ∃ b2, b2 = lkAt n s3 p := ⟨_, rfl⟩
        have HO := Lib.hid (show ∀ q, q < n → q ≠ p → (fun q => lkAt n s3 q) q = (fun q => lkAt n s q) q from fun q hq h => by rw [hs3]; exact at_oth hpn hq h)
        have HON := Lib.hid (show ∀ q, q < n → (fun q => lkAt n s q) q = 5 → (fun q => lkAt n s q) p = 5 → q = p from fun q hq e1 e2 => lk_one HL.out.ok q p hq hpn e1 e2)
        have HA := Lib.hid (atL HL.out p)
        have HSG := Lib.hid (stepG HL.out (by omega) p (by omega) hpI)
        rw [← ha] at HA
        rw [← hs3] at HSG
        have HPA := Lib.hid (show (fun q => lkAt n s q) p = a from ha.symm)
        have HPB := Lib.hid (show (fun q => lkAt n s3 q) p = b2 from hb2.symm)
        have HB2 := Lib.hid hb2
        clear ha hs3 hb2
        by_cases aI : a = 5
        · by_cases bI : b2 = 5
          · have e1 : ((a : Int) != 5) = false := by simp; omega
            have e3 : ((a : Int) == 5) = true := by simp; omega
            have e4 : ((b2 : Int) != 5) = false := by simp; omega
            have HC3 := Lib.hid (HC.out.stays (a' := fun q => lkAt n s3 q) HO.out (fun _ => HPA.out.trans aI))
            clear aI bI
            go_wp2_with (first | (go_at_call 20; (with_reducible refine (HIP.out _).mono ?_); rintro e w5 ⟨rfl, rfl⟩) | (go_at_call 25; (with_reducible refine HA.out.mono ?_); rintro e w3 ⟨rfl, rfl⟩) | (go_at_call 26; (with_reducible refine HSG.out.mono ?_); rintro e w4 ⟨rfl, hl4, ht4⟩; have HL3 := Lib.hid hl4; have HW3 := Lib.hid (HW.out.touch ht4); have hc3 := HW3.out.cell hpn; have hf3 := HW3.out.free p; clear hl4 ht4) | (go_at_call 25; (with_reducible refine (atL HL3.out p).mono ?_); rw [← HB2.out]; rintro e w5 ⟨rfl, rfl⟩))
            go_roundw
            case rel => exact ⟨k + 1, _, N, hd, by omega, by go_num, by omega, by omega, rfl, rfl, HL3.out, HW3.out, HC3.out⟩
            case measure => simp [intOf]; omega
          · have e1 : ((a : Int) != 5) = false := by simp; omega
            have e3 : ((a : Int) == 5) = true := by simp; omega
            have e4 : ((b2 : Int) != 5) = true := by simp; omega
            have HC3 := Lib.hid (TopCount.Cnt.goes (hd := hd) (a' := fun q => lkAt n s3 q) HON.out HO.out (HPA.out.trans aI) (fun h => bI (HPB.out.symm.trans h)) (N + 1))
            have HHD := Lib.hid (HC.out p hpn (HPA.out.trans aI))
            clear aI bI
            go_wp2_with (first | (go_at_call 20; (with_reducible refine (HIP.out _).mono ?_); rintro e w5 ⟨rfl, rfl⟩) | (go_at_call 25; (with_reducible refine HA.out.mono ?_); rintro e w3 ⟨rfl, rfl⟩) | (go_at_call 26; (with_reducible refine HSG.out.mono ?_); rintro e w4 ⟨rfl, hl4, ht4⟩; have HL3 := Lib.hid hl4; have HW3 := Lib.hid (HW.out.touch ht4); have hc3 := HW3.out.cell hpn; have hf3 := HW3.out.free p; rw [HHD.out] at hc3; clear hl4 ht4) | (go_at_call 25; (with_reducible refine (atL HL3.out p).mono ?_); rw [← HB2.out]; rintro e w5 ⟨rfl, rfl⟩))
            go_roundw
            case rel => exact ⟨k + 1, _, N + 1, hd, by omega, by go_num, by omega, by omega, rfl, rfl, HL3.out, HW3.out, HC3.out⟩
            case measure => simp [intOf]; omega
        · have e1 : ((a : Int) != 5) = true := by simp; omega
          have e3 : ((a : Int) == 5) = false := by simp; omega
          by_cases bI : b2 = 5
          · have e2 : ((b2 : Int) == 5) = true := by simp; omega
            have HC3 := Lib.hid (HC.out.comes (p := p) (a' := fun q => lkAt n s3 q) HO.out)
            clear aI bI
            go_wp2_with (first | (go_at_call 20; (with_reducible refine (HIP.out _).mono ?_); rintro e w5 ⟨rfl, rfl⟩) | (go_at_call 25; (with_reducible refine HA.out.mono ?_); rintro e w3 ⟨rfl, rfl⟩) | (go_at_call 26; (with_reducible refine HSG.out.mono ?_); rintro e w4 ⟨rfl, hl4, ht4⟩; have HL3 := Lib.hid hl4; have HW3 := Lib.hid (HW.out.touch ht4); have hc3 := HW3.out.cell hpn; have hf3 := HW3.out.free p; clear hl4 ht4) | (go_at_call 25; (with_reducible refine (atL HL3.out p).mono ?_); rw [← HB2.out]; rintro e w5 ⟨rfl, rfl⟩))
            go_roundw
            case rel => exact ⟨k + 1, _, N, _, by omega, by go_num, by omega, by omega, rfl, rfl, HL3.out.other HW3.out.new HW3.out.far, HW3.out.put hpn N, HC3.out⟩
            case measure => simp [intOf]; omega
          · have e2 : ((b2 : Int) == 5) = false := by simp; omega
            have HC3 := Lib.hid (HC.out.stays (a' := fun q => lkAt n s3 q) HO.out (fun h => absurd (HPB.out.symm.trans h) bI))
            clear aI bI
            go_wp2_with (first | (go_at_call 20; (with_reducible refine (HIP.out _).mono ?_); rintro e w5 ⟨rfl, rfl⟩) | (go_at_call 25; (with_reducible refine HA.out.mono ?_); rintro e w3 ⟨rfl, rfl⟩) | (go_at_call 26; (with_reducible refine HSG.out.mono ?_); rintro e w4 ⟨rfl, hl4, ht4⟩; have HL3 := Lib.hid hl4; have HW3 := Lib.hid (HW.out.touch ht4); have hc3 := HW3.out.cell hpn; have hf3 := HW3.out.free p; clear hl4 ht4) | (go_at_call 25; (with_reducible refine (atL HL3.out p).mono ?_); rw [← HB2.out]; rintro e w5 ⟨rfl, rfl⟩))
            go_roundw
            case rel => exact ⟨k + 1, _, N, hd, by omega, by go_num, by omega, by omega, rfl, rfl, HL3.out, HW3.out, HC3.out⟩
            case measure => simp [intOf]; omega
      · have HIP := Lib.hid (TopCount.in_no x 0 ((n : Int) - 1) hin)
        clear hin
        go_wp2_with (go_at_call 20; (with_reducible refine (HIP.out _).mono ?_); rintro e w5 ⟨rfl, rfl⟩)
        go_roundw
        case rel => exact ⟨k + 1, _, N, hd, by omega, by go_num, by omega, by omega, rfl, rfl, HL.out.age (by omega), HW.out, HC.out⟩
        case measure => simp [intOf]; omega
    · have hh : (k : Int) < script.length ∧ ¬ (k : Int) < 400 ∨ ¬ (k : Int) < script.length := by omega
      clear hgo hl
      rcases hh with ⟨hI, hJ⟩ | hI
      all_goals
        go_wp2
        go_ret
        exact ⟨rfl, HL.out.below⟩
end Filter
namespace TopCount
set_option maxRecDepth 100000 in
set_option maxHeartbeats 4000000 in
theorem count_bad (kd z : Int) (hz : ¬ (1 ≤ z ∧ z ≤ 4)) (A : Option Addr) (l c : Nat) (w : World) :
    Calls Try.prog 7 #[.int .i64 kd, .int .i64 z, .slice A l c] w fun e w' => e = .returned (.bool true) ∧ Below w.heap.size w w' := by
  have HZ := Lib.hid hz
  by_cases hz1 : z < 1
  all_goals
    clear hz
    go_enter Try.func7, Try.ntmps7
    go_wp2_with (first | (go_at_call 14; refine (Ticket.newL (w := w) (n := 1) (Below.refl _ _) (by omega) (by omega)).mono ?_; rintro e w1 ⟨gt, rfl, hl⟩; have HT1 := Lib.hid hl; clear hl) | (go_at_call 15; (with_reducible refine (Ticket.stepG HT1.out (by omega) 0 (by omega) (by omega)).mono ?_); rintro e w2 ⟨rfl, hl, -⟩; have HB2 := Lib.hid hl.below; have HT2 := Lib.hid hl; clear hl) | (go_at_call 16; (with_reducible refine (Ticket.atL HT2.out 0).mono ?_); rw [TopCount.tick_two]; rintro e w' ⟨rfl, rfl⟩) | (go_at_call 17; refine (Bakery.lnew_bad z HZ.out w2).mono ?_; rw [Bakery.errV_one]; rintro e w3 ⟨rfl, hb⟩; have HB3 := Lib.hid (HB2.out.trans (hb.mono HB2.out.size)); clear hb) | (go_at_call 18; refine (Mcs.lnew_bad z HZ.out w3).mono ?_; rw [Mcs.errV_one]; rintro e w4 ⟨rfl, hb⟩; have HB4 := Lib.hid (HB3.out.trans (hb.mono HB3.out.size)); clear hb) | (go_at_call 9; refine (Clh.lnew_bad z HZ.out w4).mono ?_; rw [Clh.errV_one]; rintro e w5 ⟨rfl, hb⟩; have HB5 := Lib.hid (HB4.out.trans (hb.mono HB4.out.size)); clear hb) | (go_at_call 19; refine (Filter.lnew_bad z HZ.out w5).mono ?_; rw [Filter.errV_one]; rintro e w6 ⟨rfl, hb⟩; have HB6 := Lib.hid (HB5.out.trans (hb.mono HB5.out.size)); clear hb))
    go_ret
    first | exact ⟨rfl, HB6.out⟩ | exact ⟨congrArg (fun b => Ending.returned (.bool b)) (bad_true HZ.out), HB6.out⟩
set_option maxRecDepth 100000 in
set_option maxHeartbeats 4000000 in
theorem count_none (kd : Int) (hk : ¬ (0 ≤ kd ∧ kd ≤ 3)) (n : Nat) (h1 : 1 ≤ n) (h4 : n ≤ 4) (A : Option Addr) (l c : Nat) (w : World) :
    Calls Try.prog 7 #[.int .i64 kd, .int .i64 n, .slice A l c] w fun e w' => e = .returned (.bool true) ∧ Below w.heap.size w w' := by
  have HK0 := Lib.hid (in_no kd 0 3 hk)
  clear hk
  go_enter Try.func7, Try.ntmps7
  go_wp2_with (first | (go_at_call 14; refine (Ticket.newL (w := w) (n := 1) (Below.refl _ _) (by omega) (by omega)).mono ?_; rintro e w1 ⟨gt, rfl, hl⟩; have HT1 := Lib.hid hl; clear hl) | (go_at_call 15; (with_reducible refine (Ticket.stepG HT1.out (by omega) 0 (by omega) (by omega)).mono ?_); rintro e w2 ⟨rfl, hl, -⟩; have HB2 := Lib.hid hl.below; have HT2 := Lib.hid hl; clear hl) | (go_at_call 16; (with_reducible refine (Ticket.atL HT2.out 0).mono ?_); rw [TopCount.tick_two]; rintro e w' ⟨rfl, rfl⟩) | (go_at_call 17; refine (Bakery.lnew_any n h1 h4 w2).mono ?_; rintro e w3 ⟨rfl, -, hb⟩; have HB3 := Lib.hid (HB2.out.trans (hb.mono HB2.out.size)); clear hb) | (go_at_call 18; refine (Mcs.lnew_any n h1 h4 w3).mono ?_; rintro e w4 ⟨rfl, -, hb⟩; have HB4 := Lib.hid (HB3.out.trans (hb.mono HB3.out.size)); clear hb) | (go_at_call 9; refine (Clh.lnew_any n h1 h4 w4).mono ?_; rintro e w5 ⟨rfl, -, hb⟩; have HB5 := Lib.hid (HB4.out.trans (hb.mono HB4.out.size)); clear hb) | (go_at_call 19; refine (Filter.lnew_any n h1 h4 w5).mono ?_; rintro e w6 ⟨rfl, -, hb⟩; have HB6 := Lib.hid (HB5.out.trans (hb.mono HB5.out.size)); clear hb) | (go_at_call 20; (with_reducible refine (HK0.out _).mono ?_); rintro e w' ⟨rfl, rfl⟩))
  go_ret
  exact ⟨rfl, HB6.out⟩
theorem count_any (kd z : Int) (sv : Value) (script : List Int) (w : World) (hn : Nums w w.heap.size sv script) :
    Calls Try.prog 7 #[.int .i64 kd, .int .i64 z, sv] w fun e w' => e = .returned (.bool true) ∧ Below w.heap.size w w' := by
  by_cases hz : 1 ≤ z ∧ z ≤ 4
  · obtain ⟨n, rfl⟩ := Int.eq_ofNat_of_zero_le (show 0 ≤ z by omega)
    have h1 : 1 ≤ n := by omega
    have h4 : n ≤ 4 := by omega
    by_cases hk : 0 ≤ kd ∧ kd ≤ 3
    · obtain rfl | rfl | rfl | rfl : kd = 0 ∨ kd = 1 ∨ kd = 2 ∨ kd = 3 := by omega
      · exact Bakery.count_law n h1 h4 sv script w hn
      · exact Mcs.count_law n h1 h4 sv script w hn
      · exact Clh.count_law n h1 h4 sv script w hn
      · exact Filter.count_law n h1 h4 sv script w hn
    · obtain ⟨A, c, rfl, _, _⟩ := hn
      exact count_none kd hk n h1 h4 A _ c w
  · obtain ⟨A, c, rfl, _, _⟩ := hn
    exact count_bad kd z hz A _ c w
end TopCount
end Go.Proofs.Ytobfaohcadmopaa
