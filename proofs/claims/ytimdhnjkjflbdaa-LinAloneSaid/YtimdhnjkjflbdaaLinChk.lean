/-
  Package lin: within, inRange, fault, Check.
-/
import Derived.Test.YtimdhnjkjflbdaaOpsG
import Derived.Deep.QuietTactic
import Derived.BigQuiet
import Derived.Outline
import Derived.LoopTactic
import Derived.StillTailTactics
import Derived.Deep.DrawnRows
import Derived.Deep.RegionHeld3
import Derived.Deep.DeepCutAuto
import Derived.IntWalk
import Derived.Handy
namespace Go.Proofs.Ytimdhnjkjflbdaa.Lin
open Go.RowKit

theorem within_any (n lo hi : Int) (w : World) : Calls Try.prog 52 #[.int .i64 n, .int .i64 lo, .int .i64 hi] w fun e w' => e = .returned (.bool (inR n lo hi)) ∧ w = w' := by
  by_cases h1 : lo ≤ n
  · by_cases h2 : n ≤ hi
    · go_enter Try.func52, Try.ntmps52
      go_wp2
      go_ret
      exact ⟨by simp [inR, h1, h2], rfl⟩
    · go_enter Try.func52, Try.ntmps52
      go_wp2
      go_ret
      exact ⟨by simp [inR, h2], rfl⟩
  · go_enter Try.func52, Try.ntmps52
    go_wp2
    go_ret
    exact ⟨by simp [inR]; omega, rfl⟩
theorem inb_iff (o : LO) : o.inb ↔ inR o.hd 0 3 = true ∧ inR o.kd 0 1 = true ∧ inR o.ar 0 1000 = true ∧ inR o.gt (-1) 8000 = true ∧ inR o.fr 0 1000 = true ∧ inR o.to 0 1000 = true := by
  simp only [LO.inb, inR_true]
set_option maxHeartbeats 4000000 in
theorem inRange_any (o : LO) (w : World) : Calls Try.prog 57 #[o.val] w fun e w' => e = .returned (.bool (decide o.inb)) ∧ Below w.heap.size w w' := by
  obtain ⟨D, hD⟩ : ∃ D, D = decide o.inb := ⟨_, rfl⟩
  rw [← hD]
  have HD := Lib.hid hD; clear hD
  have HI := Lib.hid (inb_iff o)
  obtain ⟨hd, kd, ar, gt, fr, tz⟩ := o
  unfold LO.val
  dsimp only at HI ⊢
  cases h0 : inR hd 0 3
  · go_enter Try.func57, Try.ntmps57
    go_wp2_with (go_at_call 52; refine (within_any _ _ _ _).mono ?_; rintro e w9 ⟨rfl, rfl⟩)
    go_ret
    exact ⟨by rw [HD.out, decide_eq_false (fun c => by have := (HI.out.1 c).1; rw [h0] at this; cases this)]; rfl, (Below.refl _ _).alloc (Nat.le_refl _) _⟩
  · cases h1 : inR kd 0 1
    · go_enter Try.func57, Try.ntmps57
      go_wp2_with (go_at_call 52; refine (within_any _ _ _ _).mono ?_; rintro e w9 ⟨rfl, rfl⟩)
      go_ret
      exact ⟨by rw [HD.out, decide_eq_false (fun c => by have := (HI.out.1 c).2.1; rw [h1] at this; cases this)]; rfl, (Below.refl _ _).alloc (Nat.le_refl _) _⟩
    · cases h2 : inR ar 0 1000
      · go_enter Try.func57, Try.ntmps57
        go_wp2_with (go_at_call 52; refine (within_any _ _ _ _).mono ?_; rintro e w9 ⟨rfl, rfl⟩)
        go_ret
        exact ⟨by rw [HD.out, decide_eq_false (fun c => by have := (HI.out.1 c).2.2.1; rw [h2] at this; cases this)]; rfl, (Below.refl _ _).alloc (Nat.le_refl _) _⟩
      · cases h3 : inR gt (-1) 8000
        · go_enter Try.func57, Try.ntmps57
          go_wp2_with (go_at_call 52; refine (within_any _ _ _ _).mono ?_; rintro e w9 ⟨rfl, rfl⟩)
          go_ret
          exact ⟨by rw [HD.out, decide_eq_false (fun c => by have := (HI.out.1 c).2.2.2.1; rw [h3] at this; cases this)]; rfl, (Below.refl _ _).alloc (Nat.le_refl _) _⟩
        · cases h4 : inR fr 0 1000
          · go_enter Try.func57, Try.ntmps57
            go_wp2_with (go_at_call 52; refine (within_any _ _ _ _).mono ?_; rintro e w9 ⟨rfl, rfl⟩)
            go_ret
            exact ⟨by rw [HD.out, decide_eq_false (fun c => by have := (HI.out.1 c).2.2.2.2.1; rw [h4] at this; cases this)]; rfl, (Below.refl _ _).alloc (Nat.le_refl _) _⟩
          · cases h5 : inR tz 0 1000
            · go_enter Try.func57, Try.ntmps57
              go_wp2_with (go_at_call 52; refine (within_any _ _ _ _).mono ?_; rintro e w9 ⟨rfl, rfl⟩)
              go_ret
              exact ⟨by rw [HD.out, decide_eq_false (fun c => by have := (HI.out.1 c).2.2.2.2.2; rw [h5] at this; cases this)]; rfl, (Below.refl _ _).alloc (Nat.le_refl _) _⟩
            · go_enter Try.func57, Try.ntmps57
              go_wp2_with (go_at_call 52; refine (within_any _ _ _ _).mono ?_; rintro e w9 ⟨rfl, rfl⟩)
              go_ret
              exact ⟨by rw [HD.out, decide_eq_true (HI.out.2 ⟨h0, h1, h2, h3, h4, h5⟩)]; rfl, (Below.refl _ _).alloc (Nat.le_refl _) _⟩

theorem inRange_val (hd kd ar gt fr tz : Int) (d : Bool) (e : decide (LO.inb ⟨hd, kd, ar, gt, fr, tz⟩) = d) (w : World) : Calls Try.prog 57 #[.agg #[.int .i64 hd, .int .i64 kd, .int .i64 ar, .int .i64 gt, .int .i64 fr, .int .i64 tz]] w fun e w' => e = .returned (.bool d) ∧ Below w.heap.size w w' :=
  (inRange_any ⟨hd, kd, ar, gt, fr, tz⟩ w).mono fun _ _ ⟨he, hb⟩ => ⟨by rw [he, e], hb⟩
/-- The cells of a box that holds an op. -/
def Box (w : World) (b : Nat) (o : LO) : Prop := w.cell? ⟨b, 0, none⟩ = some (.int .i64 o.hd) ∧ w.cell? ⟨b, 1, none⟩ = some (.int .i64 o.kd) ∧ w.cell? ⟨b, 2, none⟩ = some (.int .i64 o.ar) ∧ w.cell? ⟨b, 3, none⟩ = some (.int .i64 o.gt) ∧ w.cell? ⟨b, 4, none⟩ = some (.int .i64 o.fr) ∧ w.cell? ⟨b, 5, none⟩ = some (.int .i64 o.to)
theorem Box.below {w w' : World} {b B : Nat} {o : LO} (h : Box w b o) (hb : Below B w w') (hB : b < B) : Box w' b o :=
  ⟨(hb.cell (p := ⟨b, 0, none⟩) hB).trans h.1, (hb.cell (p := ⟨b, 1, none⟩) hB).trans h.2.1, (hb.cell (p := ⟨b, 2, none⟩) hB).trans h.2.2.1, (hb.cell (p := ⟨b, 3, none⟩) hB).trans h.2.2.2.1, (hb.cell (p := ⟨b, 4, none⟩) hB).trans h.2.2.2.2.1, (hb.cell (p := ⟨b, 5, none⟩) hB).trans h.2.2.2.2.2⟩
set_option maxHeartbeats 4000000 in
theorem fault_any (h : List LO) (i c c0 : Nat) (A : Option Addr) (w : World) (hi : i < h.length) (hh : Ops w w.heap.size (.slice A h.length c0) h) :
    Calls Try.prog 53 #[.agg #[.int .i64 (lat h i).hd, .int .i64 (lat h i).kd, .int .i64 (lat h i).ar, .int .i64 (lat h i).gt, .int .i64 (lat h i).fr, .int .i64 (lat h i).to], .slice A i c] w fun e w' => e = .returned (errV 55 (lone h i)) ∧ Below w.heap.size w w' := by
  have hL63 := hh.len
  have HO := Lib.hid (fun (k : Nat) (hk : k < h.length) => hh.at_ hk)
  clear hh
  have HE1 := Lib.hid (show ¬ (lat h i).inb → lone h i = 1 from fun c => by unfold lone; rw [if_pos c])
  have HE3 := Lib.hid (show (lat h i).inb → (lat h i).to ≤ (lat h i).fr → lone h i = 3 from fun c d => by unfold lone; rw [if_neg (fun e => e c), if_pos d])
  have HE6 := Lib.hid (show (lat h i).inb → ¬ (lat h i).to ≤ (lat h i).fr → ∀ j, j < i → (lat h j).clash (lat h i) → lone h i = 6 from fun c d j hj e => by unfold lone; rw [if_neg (fun e => e c), if_neg d, if_pos ⟨j, hj, e⟩])
  have HE0 := Lib.hid (show (lat h i).inb → ¬ (lat h i).to ≤ (lat h i).fr → (∀ j, j < i → ¬ (lat h j).clash (lat h i)) → lone h i = 0 from fun c d e => by unfold lone; rw [if_neg (fun e => e c), if_neg d, if_neg (fun ⟨j, hj, f⟩ => e j hj f)])
  obtain ⟨E, hE⟩ : ∃ E, E = lone h i := ⟨_, rfl⟩
  rw [← hE] at HE1 HE3 HE6 HE0 ⊢
  clear hE
  obtain ⟨o, ho⟩ : ∃ o, o = lat h i := ⟨_, rfl⟩
  rw [← ho] at HE1 HE3 HE6 HE0 ⊢
  clear ho
  obtain ⟨hd, kd, ar, gt, fr, tz⟩ := o
  dsimp only at HE1 HE3 HE6 HE0 ⊢
  by_cases h1 : LO.inb ⟨hd, kd, ar, gt, fr, tz⟩
  · have HI2 := Lib.hid (inRange_val hd kd ar gt fr tz true (decide_eq_true h1))
    by_cases h2 : tz ≤ fr
    · rw [HE3.out h1 h2]
      clear HO HE1 HE3 HE6 HE0 h1
      go_enter Try.func53, Try.ntmps53
      go_wp2_with (go_at_call 57; refine (HI2.out _).mono ?_; rintro e w9 ⟨rfl, hb9⟩; have q4 : w9.cell? ⟨w.heap.size, 4, none⟩ = some (.int .i64 fr) := (hb9.cell (p := ⟨w.heap.size, 4, none⟩) (by simp)).trans (by simp); have q5 : w9.cell? ⟨w.heap.size, 5, none⟩ = some (.int .i64 tz) := (hb9.cell (p := ⟨w.heap.size, 5, none⟩) (by simp)).trans (by simp))
      go_ret
      exact ⟨rfl, ((Below.refl _ _).alloc (Nat.le_refl _) _).trans (hb9.mono (by simp))⟩
    · have HE6' := Lib.hid (HE6.out h1 h2)
      have HE0' := Lib.hid (HE0.out h1 h2)
      have hge : decide (tz ≤ fr) = false := decide_eq_false h2
      clear HE1 HE3 HE6 HE0 h1 h2
      go_enter Try.func53, Try.ntmps53
      go_wp2_with (go_at_call 57; refine (HI2.out _).mono ?_; rintro e w9 ⟨rfl, hb9⟩; have q0 : w9.cell? ⟨w.heap.size, 0, none⟩ = some (.int .i64 hd) := (hb9.cell (p := ⟨w.heap.size, 0, none⟩) (by simp)).trans (by simp); have q4 : w9.cell? ⟨w.heap.size, 4, none⟩ = some (.int .i64 fr) := (hb9.cell (p := ⟨w.heap.size, 4, none⟩) (by simp)).trans (by simp); have q5 : w9.cell? ⟨w.heap.size, 5, none⟩ = some (.int .i64 tz) := (hb9.cell (p := ⟨w.heap.size, 5, none⟩) (by simp)).trans (by simp))
      go_loopw [21] (fun x wr => ∃ j : Nat, j ≤ i ∧ x = .int .i64 j ∧ (∀ y, y < j → ¬ (lat h y).clash ⟨hd, kd, ar, gt, fr, tz⟩) ∧ Below w.heap.size w wr ∧ wr.cell? ⟨w.heap.size, 0, none⟩ = some (.int .i64 hd) ∧ wr.cell? ⟨w.heap.size, 4, none⟩ = some (.int .i64 fr) ∧ wr.cell? ⟨w.heap.size, 5, none⟩ = some (.int .i64 tz)) (fun x _ => i - (intOf x).toNat)
      case atStart => exact ⟨0, Nat.zero_le _, rfl, (fun _ hy => absurd hy (Nat.not_lt_zero _)), ((Below.refl _ _).alloc (Nat.le_refl _) _).trans (hb9.mono (by simp)), q0, q4, q5⟩
      case round =>
        obtain ⟨j, hj, rfl, hz, hbr, q0, q4, q5⟩ := hrel
        have HZ := Lib.hid hz; clear hz
        by_cases hlt : j < i
        · obtain ⟨b, off, rfl, hb, c0, c1, c2, c3, c4, c5⟩ := HO.out j (by omega)
          have g0 := (hbr.cell (p := ⟨b, off + j * 6, none⟩) hb).trans c0
          have g1 := (hbr.cell (p := ⟨b, off + j * 6 + 1, none⟩) hb).trans c1
          have g2 := (hbr.cell (p := ⟨b, off + j * 6 + 2, none⟩) hb).trans c2
          have g3 := (hbr.cell (p := ⟨b, off + j * 6 + 3, none⟩) hb).trans c3
          have g4 := (hbr.cell (p := ⟨b, off + j * 6 + 4, none⟩) hb).trans c4
          have g5 := (hbr.cell (p := ⟨b, off + j * 6 + 5, none⟩) hb).trans c5
          clear c0 c1 c2 c3 c4 c5
          have hsz : w.heap.size < wr.heap.size := lt_of_cell q0
          by_cases e1 : (lat h j).hd = hd
          · have d1 : ((lat h j).hd == hd) = true := beq_iff_eq.2 e1
            by_cases e2 : (lat h j).fr < tz
            · have d2 : decide ((lat h j).fr < tz) = true := decide_eq_true e2
              by_cases e3 : fr < (lat h j).to
              · have d3 : decide (fr < (lat h j).to) = true := decide_eq_true e3
                have HE7 := Lib.hid (HE6'.out j hlt ⟨e1, e2, e3⟩)
                clear e1 e2 e3
                go_wp2
                go_ret
                exact ⟨by rw [HE7.out]; rfl, hbr.alloc (Nat.le_of_lt hsz) _⟩
              · have d3 : decide (fr < (lat h j).to) = false := decide_eq_false e3
                have HN := Lib.hid (fun (c : (lat h j).clash ⟨hd, kd, ar, gt, fr, tz⟩) => e3 c.2.2)
                clear e1 e2 e3
                go_wp2
                go_roundw
                case rel => exact ⟨j + 1, by omega, by go_num, fun y hy => (if e : y = j then e ▸ HN.out else HZ.out y (by omega)), hbr.alloc (Nat.le_of_lt hsz) _, (World.cell?_alloc_lt _ _ ⟨w.heap.size, 0, none⟩ hsz).trans q0, (World.cell?_alloc_lt _ _ ⟨w.heap.size, 4, none⟩ hsz).trans q4, (World.cell?_alloc_lt _ _ ⟨w.heap.size, 5, none⟩ hsz).trans q5⟩
                case measure => simp [intOf]; omega
            · have d2 : decide ((lat h j).fr < tz) = false := decide_eq_false e2
              have HN := Lib.hid (fun (c : (lat h j).clash ⟨hd, kd, ar, gt, fr, tz⟩) => e2 c.2.1)
              clear e1 e2
              go_wp2
              go_roundw
              case rel => exact ⟨j + 1, by omega, by go_num, fun y hy => (if e : y = j then e ▸ HN.out else HZ.out y (by omega)), hbr.alloc (Nat.le_of_lt hsz) _, (World.cell?_alloc_lt _ _ ⟨w.heap.size, 0, none⟩ hsz).trans q0, (World.cell?_alloc_lt _ _ ⟨w.heap.size, 4, none⟩ hsz).trans q4, (World.cell?_alloc_lt _ _ ⟨w.heap.size, 5, none⟩ hsz).trans q5⟩
              case measure => simp [intOf]; omega
          · have d1 : ((lat h j).hd == hd) = false := beq_eq_false_iff_ne.2 e1
            have HN := Lib.hid (fun (c : (lat h j).clash ⟨hd, kd, ar, gt, fr, tz⟩) => e1 c.1)
            clear e1
            go_wp2
            go_roundw
            case rel => exact ⟨j + 1, by omega, by go_num, fun y hy => (if e : y = j then e ▸ HN.out else HZ.out y (by omega)), hbr.alloc (Nat.le_of_lt hsz) _, (World.cell?_alloc_lt _ _ ⟨w.heap.size, 0, none⟩ hsz).trans q0, (World.cell?_alloc_lt _ _ ⟨w.heap.size, 4, none⟩ hsz).trans q4, (World.cell?_alloc_lt _ _ ⟨w.heap.size, 5, none⟩ hsz).trans q5⟩
            case measure => simp [intOf]; omega
        · have HE7 := Lib.hid (HE0'.out fun y hy => HZ.out y (by omega))
          go_wp2
          go_ret
          exact ⟨by rw [HE7.out]; rfl, hbr⟩
  · rw [HE1.out h1]
    have HI2 := Lib.hid (inRange_val hd kd ar gt fr tz false (decide_eq_false h1))
    clear HO HE1 HE3 HE6 HE0 h1
    go_enter Try.func53, Try.ntmps53
    go_wp2_with (go_at_call 57; refine (HI2.out _).mono ?_; rintro e w9 ⟨rfl, hb9⟩)
    go_ret
    exact ⟨rfl, ((Below.refl _ _).alloc (Nat.le_refl _) _).trans (hb9.mono (by simp))⟩
theorem lchk_obj {ob : Int} {h : List LO} (e : ¬ (0 ≤ ob ∧ ob ≤ 2)) : lchk ob h = 1 := by unfold lchk; rw [if_pos e]
theorem lchk_len {ob : Int} {h : List LO} (e : 0 ≤ ob ∧ ob ≤ 2) (l : 8 < h.length) : lchk ob h = 4 := by unfold lchk; rw [if_neg (fun c => c e), if_pos l]
theorem lchk_upto {ob : Int} {h : List LO} (e : 0 ≤ ob ∧ ob ≤ 2) (l : ¬ 8 < h.length) : lchk ob h = lupto h h.length := by unfold lchk; rw [if_neg (fun c => c e), if_neg l]
theorem lone_errs (h : List LO) (i : Nat) : lone h i = 0 ∨ lone h i = 1 ∨ lone h i = 3 ∨ lone h i = 6 := by
  unfold lone
  split
  · exact Or.inr (Or.inl rfl)
  · split
    · exact Or.inr (Or.inr (Or.inl rfl))
    · split
      · exact Or.inr (Or.inr (Or.inr rfl))
      · exact Or.inl rfl
set_option maxHeartbeats 4000000 in
set_option maxRecDepth 100000 in
theorem check_any (ob : Int) (h : List LO) (v : Value) (w : World) (hh : Ops w w.heap.size v h) :
    Calls Try.prog 46 #[.int .i64 ob, v] w fun e w' => e = .returned (errV 55 (lchk ob h)) ∧ Below w.heap.size w w' := by
  have HOp := Lib.hid (fun (w' : World) (hb : Below w.heap.size w w') => (hh.below hb (Nat.le_refl _)).more hb.size)
  have hh0 := hh
  obtain ⟨A, c, rfl, ⟨hlc, hcm⟩, -⟩ := hh0
  by_cases h1 : 0 ≤ ob ∧ ob ≤ 2
  · have hwB : inR ob 0 2 = true := inR_true.2 h1
    by_cases h2 : 8 < h.length
    · have h8 : decide ((8 : Int) < h.length) = true := decide_eq_true (by omega)
      rw [lchk_len h1 h2]
      clear hh HOp h1 h2
      go_enter Try.func46, Try.ntmps46
      go_wp2_with (go_at_call 52; refine (within_any _ _ _ _).mono ?_; rintro e w' ⟨rfl, rfl⟩)
      go_ret
      exact ⟨rfl, Below.refl _ _⟩
    · have h8 : decide ((8 : Int) < h.length) = false := decide_eq_false (by omega)
      have HE := Lib.hid (lchk_upto h1 h2)
      have HO := Lib.hid (fun (k : Nat) (hk : k < h.length) => hh.at_ hk)
      clear hh h1
      go_enter Try.func46, Try.ntmps46
      go_wp2_with (go_at_call 52; refine (within_any _ _ _ _).mono ?_; rintro e w' ⟨rfl, rfl⟩)
      go_loopw [20] (fun x wr => ∃ j : Nat, j ≤ h.length ∧ x = .int .i64 j ∧ lupto h j = 0 ∧ Below w.heap.size w wr) (fun x _ => h.length - (intOf x).toNat)
      case atStart => exact ⟨0, Nat.zero_le _, rfl, rfl, Below.refl _ _⟩
      case round =>
        obtain ⟨j, hj, rfl, hz, hbr⟩ := hrel
        have HZ := Lib.hid hz; clear hz
        by_cases hlt : j < h.length
        · obtain ⟨b, off, rfl, hb, c0, c1, c2, c3, c4, c5⟩ := HO.out j hlt
          have g0 := (hbr.cell (p := ⟨b, off + j * 6, none⟩) hb).trans c0
          have g1 := (hbr.cell (p := ⟨b, off + j * 6 + 1, none⟩) hb).trans c1
          have g2 := (hbr.cell (p := ⟨b, off + j * 6 + 2, none⟩) hb).trans c2
          have g3 := (hbr.cell (p := ⟨b, off + j * 6 + 3, none⟩) hb).trans c3
          have g4 := (hbr.cell (p := ⟨b, off + j * 6 + 4, none⟩) hb).trans c4
          have g5 := (hbr.cell (p := ⟨b, off + j * 6 + 5, none⟩) hb).trans c5
          clear c0 c1 c2 c3 c4 c5
          have hsw : w.heap.size ≤ wr.heap.size := hbr.size
          have hjc : j ≤ c := by omega
          have HF := Lib.hid (fun (w9 : World) (hb9 : Below w.heap.size w w9) => fault_any h j c c (some ⟨b, off, none⟩) w9 hlt (HOp.out w9 hb9))
          have hbr2 := hbr.alloc hsw (.cells #[.int .i64 (lat h j).hd, .int .i64 (lat h j).kd, .int .i64 (lat h j).ar, .int .i64 (lat h j).gt, .int .i64 (lat h j).fr, .int .i64 (lat h j).to] 34)
          have HB2 := Lib.hid hbr2; clear hbr2
          obtain ⟨wx, hwx⟩ : ∃ wx, wx = (wr.alloc (.cells #[.int .i64 (lat h j).hd, .int .i64 (lat h j).kd, .int .i64 (lat h j).ar, .int .i64 (lat h j).gt, .int .i64 (lat h j).fr, .int .i64 (lat h j).to] 34)) := ⟨_, rfl⟩
          rw [← hwx] at HB2
          have HX := Lib.hid hwx; clear hwx
          have HF2 := Lib.hid (HF.out wx.drew (below_drewN HB2.out 1))
          rw [HX.out] at HF2 HB2
          by_cases e0 : lone h j = 0
          · rw [e0, show errV 55 ((0 : Nat) : Int) = .nilIface from rfl] at HF2
            have HE7 := Lib.hid (show lupto h (j + 1) = 0 by show (if lupto h j = 0 then lone h j else lupto h j) = 0; rw [if_pos HZ.out]; exact e0)
            clear e0
            go_wp2_with fail
            go_region_with (go_at_call 53; (with_reducible refine HF2.out.mono ?_); rintro e w9 ⟨rfl, hb9⟩)
            go_wp2
            go_roundw
            case rel => exact ⟨j + 1, by omega, by go_num, HE7.out, (below_drewN HB2.out 1).trans (hb9.mono (by simp; omega))⟩
            case measure => simp [intOf]; omega
          · have HE7 := Lib.hid (show lchk ob h = lone h j from HE.out.trans (lupto_at HZ.out e0 hlt))
            have HN := Lib.hid (show errV 55 (lone h j) = .iface 55 (.int .i64 (lone h j)) by rcases lone_errs h j with e | e | e | e; exact absurd e e0; all_goals (rw [e]; rfl))
            rw [HN.out] at HF2
            clear e0
            go_wp2_with fail
            go_region_with (go_at_call 53; (with_reducible refine HF2.out.mono ?_); rintro e w9 ⟨rfl, hb9⟩)
            go_wp2
            go_ret
            exact ⟨by rw [HE7.out, HN.out]; rfl, (below_drewN HB2.out 1).trans (hb9.mono (by simp; omega))⟩
        · rw [show j = h.length by omega] at HZ
          rw [← HE.out] at HZ
          go_wp2
          go_ret
          exact ⟨by rw [HZ.out]; rfl, hbr⟩
  · have hwB : inR ob 0 2 = false := inR_false.2 h1
    rw [lchk_obj h1]
    clear hh HOp h1
    go_enter Try.func46, Try.ntmps46
    go_wp2_with (go_at_call 52; refine (within_any _ _ _ _).mono ?_; rintro e w' ⟨rfl, rfl⟩)
    go_ret
    exact ⟨rfl, Below.refl _ _⟩
end Go.Proofs.Ytimdhnjkjflbdaa.Lin
