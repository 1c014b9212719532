/-
  The walk of latchgarthlaw3.SnapGoes: it answers true, whatever the number of hands, the steps, and the hand.
-/
import Derived.Test.YtoaakonfofjamaaSnapFact
import Derived.Test.YtoaakonfofjamaaRws
import Derived.Deep.OwnRows
namespace Go.Proofs.Ytoaakonfofjamaa.Snap
open Go.RowKit

theorem row_case (l : List Int) : (∃ x y, l = [x, y]) ∨ (∃ x, l = [x]) ∨ l.length ≠ 2 ∧ l.length ≠ 1 := by
  match l with
  | [] => exact .inr (.inr ⟨by simp, by simp⟩)
  | [x] => exact .inr (.inl ⟨x, rfl⟩)
  | [x, y] => exact .inl ⟨x, y, rfl⟩
  | _ :: _ :: _ :: _ => exact .inr (.inr ⟨by simp, by simp⟩)
/-- The list at place k, where it came in. -/
theorem rws_at {w : World} {A : Option Addr} {c : Nat} {ls : List (List Int)} (h : Rws w w.heap.size (.slice A ls.length c) ls) {k : Nat} {l : List Int} (hk : ls[k]? = some l) :
    ∃ b o, A = some ⟨b, o, none⟩ ∧ b < w.heap.size ∧ ∃ A' c', w.cell? ⟨b, o + k, none⟩ = some (.slice A' l.length c') ∧ Nums w w.heap.size (.slice A' l.length c') l := by
  obtain ⟨b, o, e, A', c', h1, h2⟩ := h.at_ hk
  exact ⟨b, o, e, lt_of_cell h1, A', c', h1, h2⟩
theorem errV_ne {z : Int} (h : z ≠ 0) : ∃ u, errV 39 z = .iface 39 u := by
  unfold errV
  rw [if_neg h]
  exact ⟨_, rfl⟩
section
variable {w wr w' : World} {g n T : Nat} {s : SS}
theorem writeNil (h : LkAt w wr g n T s) {p x : Int} (he : wrE n s p x = 0) :
    Calls Try.prog 8 #[.pointer (some ⟨g, 0, none⟩), .int .i64 p, .int .i64 x] wr fun e w' => e = .returned .nilIface ∧ LkAt w w' g n T (gwr n s p x) :=
  (writeT h p x).mono fun _ _ ⟨h1, h2, _⟩ => ⟨by rw [h1, he]; rfl, h2⟩
theorem writeErr (h : LkAt w wr g n T s) {p x : Int} (he : wrE n s p x ≠ 0) :
    Calls Try.prog 8 #[.pointer (some ⟨g, 0, none⟩), .int .i64 p, .int .i64 x] wr fun e w' => (∃ u, e = .returned (.iface 39 u)) ∧ LkAt w w' g n T s :=
  (writeT h p x).mono fun _ _ ⟨h1, h2, _⟩ => by
    obtain ⟨u, hu⟩ := errV_ne he
    have e : gwr n s p x = s := if_neg he
    rw [e] at h2
    exact ⟨⟨u, by rw [h1, hu]⟩, h2⟩
theorem lookNil (h : LkAt w wr g n T s) {p : Int} (he : bgE n s p = 0) :
    Calls Try.prog 9 #[.pointer (some ⟨g, 0, none⟩), .int .i64 p] wr fun e w' => e = .returned .nilIface ∧ LkAt w w' g n T (glk n s p) :=
  (lookT h p).mono fun _ _ ⟨h1, h2, _⟩ => ⟨by rw [h1, he]; rfl, h2⟩
theorem lookErr (h : LkAt w wr g n T s) {p : Int} (he : bgE n s p ≠ 0) :
    Calls Try.prog 9 #[.pointer (some ⟨g, 0, none⟩), .int .i64 p] wr fun e w' => (∃ u, e = .returned (.iface 39 u)) ∧ LkAt w w' g n T s :=
  (lookT h p).mono fun _ _ ⟨h1, h2, _⟩ => by
    obtain ⟨u, hu⟩ := errV_ne he
    have e : glk n s p = s := if_neg he
    rw [e] at h2
    exact ⟨⟨u, by rw [h1, hu]⟩, h2⟩
/-- Does p step? -/
def stOk (n : Nat) (s : SS) (p : Int) : Prop := (0 ≤ p ∧ p < n) ∧ (s.h p.toNat).a ≠ 0
instance (n : Nat) (s : SS) (p : Int) : Decidable (stOk n s p) := by unfold stOk; infer_instance
theorem stepNil (h : LkAt w wr g n T s) (hT : T ≤ 1000000) {p : Int} (he : stOk n s p) :
    Calls Try.prog 10 #[.pointer (some ⟨g, 0, none⟩), .int .i64 p] wr fun e w' => (∃ u, e = .returned (.tuple #[.bool (decide ((sone n s p.toNat).a = 0)), u, .nilIface]) ∧ (∀ f, stold n s p.toNat = some f → Nums w' w'.heap.size u (lkS n f)) ∧ (stold n s p.toNat = none → u = .slice none 0 0)) ∧ LkAt w w' g n (T + 1) (gst n s p) ∧ Touch (fun k => k = g) wr w' :=
  (stepT h hT p).mono fun _ _ ⟨h1, h2, h3⟩ => by
    unfold GR at h1
    rw [if_neg (show ¬ ¬ (0 ≤ p ∧ p < n) from fun h => h he.1), if_neg he.2] at h1
    exact ⟨h1, h2, h3⟩
theorem stepErr (h : LkAt w wr g n T s) (hT : T ≤ 1000000) {p : Int} (he : ¬ stOk n s p) :
    Calls Try.prog 10 #[.pointer (some ⟨g, 0, none⟩), .int .i64 p] wr fun e w' => (∃ u, e = .returned (.tuple #[.bool false, .slice none 0 0, .iface 39 u])) ∧ LkAt w w' g n (T + 1) s ∧ Touch (fun k => k = g) wr w' :=
  (stepT h hT p).mono fun _ _ ⟨h1, h2, h3⟩ => by
    have e : gst n s p = s := if_pos (by
      unfold stOk at he
      by_cases h : 0 ≤ p ∧ p < n
      · exact Or.inr (Decidable.of_not_not fun h2 => he ⟨h, h2⟩)
      · exact Or.inl h)
    rw [e] at h2
    refine ⟨?_, h2, h3⟩
    unfold GR at h1
    by_cases hp : 0 ≤ p ∧ p < n
    · rw [if_neg (show ¬ ¬ (0 ≤ p ∧ p < n) from fun h => h hp), if_pos (Decidable.of_not_not fun h2 => he ⟨hp, h2⟩)] at h1
      exact ⟨_, h1⟩
    · rw [if_pos hp] at h1
      exact ⟨_, h1⟩
end
/-- How many steps of its own p made since it began, and how many it needs at most. -/
def Mi (n : Nat) (s : SS) (p : Int) (M : Nat) : Prop := ∀ q : Nat, p = (q : Int) → q < n → (s.h q).a ≠ 0 → M + sleft n (s.h q) ≤ n * (n + 2) + 1
section
variable {n : Nat} {s : SS} {p : Int} {M : Nat}
theorem Mi.new (n : Nat) (p : Int) : Mi n ssnew p 0 := fun _ _ _ h => absurd rfl h
theorem Mi.beg_other (h : Mi n s p M) {q : Nat} (hq : (q : Int) ≠ p) (w : Bool) (x : Nat) : Mi n (sbeg s q w x) p M := fun r hr hn ha => by
  have e : (sbeg s q w x).h r = s.h r := nput_other fun e => hq (by rw [hr, e])
  rw [e] at ha ⊢
  exact h r hr hn ha
theorem Mi.beg_same {q : Nat} (w : Bool) (x : Nat) : Mi n (sbeg s q w x) (q : Int) 0 := fun r hr hn ha => by
  obtain rfl : q = r := by omega
  have e : (sbeg s q w x).h q = sbeg1 (s.h q) w x := nput_same _ _ _
  rw [e, sleft_beg]; omega
theorem Mi.wr (h : Mi n s p M) {x y : Int} (he : wrE n s x y = 0) : Mi n (gwr n s x y) p (if x = p then 0 else M) := by
  have hw := wr_some he
  unfold gwr
  rw [if_pos he]
  obtain ⟨q, z, rfl, rfl, -, -, -⟩ := hw
  split
  · rename_i e; rw [← e]; exact Mi.beg_same _ _
  · rename_i e; exact h.beg_other e _ _
theorem Mi.lk (h : Mi n s p M) {x : Int} (he : bgE n s x = 0) : Mi n (glk n s x) p (if x = p then 0 else M) := by
  have hw := bg_some he
  unfold glk
  rw [if_pos he]
  obtain ⟨q, rfl, -, -⟩ := hw
  split
  · rename_i e; rw [← e]; exact Mi.beg_same _ _
  · rename_i e; exact h.beg_other e _ _
theorem gst_ok {x : Int} (he : stOk n s x) : gst n s x = sstep n s x.toNat := if_neg fun h => h.elim (fun h => h he.1) he.2
theorem Mi.st_other (h : Mi n s p M) {x : Int} (he : stOk n s x) (hx : x ≠ p) : Mi n (gst n s x) p M := fun r hr hn ha => by
  rw [gst_ok he] at ha ⊢
  have e : (sstep n s x.toNat).h r = s.h r := nput_other fun e => hx (by have := he.1; omega)
  rw [e] at ha ⊢
  exact h r hr hn ha
theorem Mi.st_same (h : Mi n s p M) (he : stOk n s p) (k : SMk n (s.h p.toNat)) : Mi n (gst n s p) p (M + 1) ∧ M + 1 ≤ n * (n + 2) + 1 ∧ (M + 1 = n * (n + 2) + 1 → (sone n s p.toNat).a = 0) := by
  have h1 := h p.toNat (by have := he.1; omega) (by have := he.1; omega) he.2
  obtain ⟨k2, h2⟩ := k.step he.2
  refine ⟨fun r hr hn ha => ?_, by omega, fun hM => Decidable.of_not_not fun ha => ?_⟩
  · rw [gst_ok he] at ha ⊢
    obtain rfl : p.toNat = r := by omega
    have e : (sstep n s p.toNat).h p.toNat = sone n s p.toNat := nput_same _ _ _
    rw [e]; omega
  · have := sleft_pos k2 ha
    omega
end
set_option maxHeartbeats 8000000 in
set_option maxRecDepth 100000 in
theorem goes_law (z : Int) (sv : Value) (steps : List (List Int)) (p : Int) (w : World) (hn : Rws w w.heap.size sv steps) :
    Calls Try.prog 4 #[.int .i64 z, sv, .int .i64 p] w fun e w' => e = .returned (.bool true) ∧ Below w.heap.size w w' := by
  obtain ⟨A, c, rfl, hlen, -⟩ := id hn
  have HN := Lib.hid hn
  clear hn
  by_cases hz : 1 ≤ z ∧ z ≤ 4
  · obtain ⟨n, rfl⟩ := Int.eq_ofNat_of_zero_le (show 0 ≤ z by omega)
    have h1 : 1 ≤ n := by omega
    have h4 : n ≤ 4 := by omega
    obtain ⟨n2, hn2⟩ : ∃ n2, n2 = n + 2 := ⟨_, rfl⟩
    obtain ⟨m, hm⟩ : ∃ m, m = n * n2 := ⟨_, rfl⟩
    have hm24 : m ≤ 24 := by
      rw [hm, hn2]
      exact Nat.le_trans (Nat.mul_le_mul h4 (show n + 2 ≤ 6 by omega)) (by omega)
    obtain ⟨B, hB⟩ : ∃ B, B = m + 1 := ⟨_, rfl⟩
    have hw1 : IntKind.i64.wrap ((n : Int) + 2) = (n2 : Int) := (IntWalk.i64_in _ (by omega)).trans (by omega)
    have hw2 : IntKind.i64.wrap ((n : Int) * (n2 : Int)) = (m : Int) := by
      rw [show (n : Int) * (n2 : Int) = (m : Int) by rw [hm]; rfl]
      exact IntWalk.i64_in _ (by omega)
    have hw3 : IntKind.i64.wrap ((m : Int) + 1) = (B : Int) := (IntWalk.i64_in _ (by omega)).trans (by omega)
    have hB25 : B ≤ 25 := by omega
    have HB0 := Lib.hid (show B = n * (n + 2) + 1 by rw [hB, hm, hn2])
    clear hz hn2 hm hB hm24
    go_enter Try.func4, Try.ntmps4
    go_wp2_with (first | (go_at_call 5; refine (fact_any _).mono ?_; rintro e w1 ⟨rfl, hb⟩; have HB := Lib.hid hb; clear hb) | (go_at_call 6; refine (newL HB.out h1 h4).mono ?_; rintro e w2 ⟨g, rfl, hl⟩; have HL := Lib.hid hl; clear hl))
    have HL0 := HL
    clear HL
    go_loopw [10, 11] (fun mn i wr => ∃ (k T M : Nat) (s : SS), k ≤ steps.length ∧ mn = .int .i64 M ∧ i = .int .i64 k ∧ k ≤ 300 ∧ T ≤ k ∧ M ≤ k ∧ LkAt w wr g n T s ∧ Mi n s p M) (fun _ i _ => steps.length - (intOf i).toNat)
    case atStart => exact ⟨0, 0, 0, ssnew, by omega, rfl, rfl, by omega, by omega, by omega, HL0.out, Mi.new n p⟩
    case round =>
      clear HL0
      obtain ⟨k, T, M, s, hk, rfl, rfl, hk2, hT, hM, hl, hmi⟩ := hrel
      have HL := Lib.hid hl
      have HMI := Lib.hid hmi
      have HTT := Lib.hid hT
      clear hl hmi hT
      by_cases hgo : k < steps.length ∧ k < 300
      · have hI : (k : Int) < steps.length := by omega
        have h2I : (k : Int) < 300 := by omega
        obtain ⟨hlt, hk200⟩ := hgo
        obtain ⟨l, hx⟩ : ∃ l, steps[k]? = some l := ⟨steps[k], List.getElem?_eq_getElem hlt⟩
        obtain ⟨b, o, rfl, hbl, A', c', hxc, hnl⟩ := rws_at HN.out hx
        have hxr : wr.cell? ⟨b, o + k, none⟩ = some (.slice A' l.length c') := (HL.out.below.cell (p := ⟨b, o + k, none⟩) hbl).trans hxc
        clear hx hxc
        rcases row_case l with ⟨x, y, rfl⟩ | ⟨x, rfl⟩ | ⟨hl2, hl1⟩
        · obtain ⟨b1, o1, rfl, hb1, hc0⟩ := hnl.at_ (k := 0) rfl
          rw [Nat.add_zero] at hc0
          obtain ⟨b2, o2, e2, _, hc1⟩ := hnl.at_ (k := 1) rfl
          injection e2 with e2
          injection e2 with e2 e3 _
          subst e2 e3
          have hxr2 : wr.cell? ⟨b, o + k, none⟩ = some (.slice (some ⟨b1, o1, none⟩) 2 c') := hxr
          clear hxr
          have HX0 := Lib.hid (show ∀ W, Below w.heap.size w W → W.cell? ⟨b1, o1, none⟩ = some (.int .i64 x) from fun W hb => (hb.cell (p := ⟨b1, o1, none⟩) hb1).trans hc0)
          have HX1 := Lib.hid (show ∀ W, Below w.heap.size w W → W.cell? ⟨b1, o1 + 1, none⟩ = some (.int .i64 y) from fun W hb => (hb.cell (p := ⟨b1, o1 + 1, none⟩) hb1).trans hc1)
          have d0 := HX0.out _ HL.out.below
          have d1 := HX1.out _ HL.out.below
          clear hnl hc0 hc1
          by_cases hy : 0 ≤ y
          · skip
            by_cases he : wrE n s x y = 0
            · have HW := Lib.hid (writeNil (HL.out.on (w' := wr.drew) (Below.refl wr.heap.size wr).drew (Nat.le_refl _)) he)
              have HM2 := Lib.hid (HMI.out.wr he)
              clear he
              by_cases hxp : x = p
              · have hxb : (x == p) = true := by simp [hxp]
                rw [if_pos hxp] at HM2
                clear hxp
                go_wp2_with fail
                go_region_with (go_at_call 8; (with_reducible refine HW.out.mono ?_); rintro e w4 ⟨rfl, hl4⟩; have d4 := HX0.out _ hl4.below; have HL4 := Lib.hid hl4; clear hl4)
                all_goals
                  go_wp2
                  go_roundw
                  case rel => exact ⟨k + 1, T, 0, gwr n s x y, by omega, rfl, by go_num, by omega, by have := HTT.out; omega, by omega, HL4.out, HM2.out⟩
                  case measure => simp [intOf]; omega
              · have hxb : (x == p) = false := by simp [hxp]
                rw [if_neg hxp] at HM2
                clear hxp
                go_wp2_with fail
                go_region_with (go_at_call 8; (with_reducible refine HW.out.mono ?_); rintro e w4 ⟨rfl, hl4⟩; have d4 := HX0.out _ hl4.below; have HL4 := Lib.hid hl4; clear hl4)
                all_goals
                  go_wp2
                  go_roundw
                  case rel => exact ⟨k + 1, T, M, gwr n s x y, by omega, rfl, by go_num, by omega, by have := HTT.out; omega, by omega, HL4.out, HM2.out⟩
                  case measure => simp [intOf]; omega
            · have HW := Lib.hid (writeErr (HL.out.on (w' := wr.drew) (Below.refl wr.heap.size wr).drew (Nat.le_refl _)) he)
              clear he
              go_wp2_with fail
              go_region_with (go_at_call 8; (with_reducible refine HW.out.mono ?_); rintro e w4 ⟨⟨u4, rfl⟩, hl4⟩; have d4 := HX0.out _ hl4.below; have HL4 := Lib.hid hl4; clear hl4)
              all_goals
                go_wp2
                go_roundw
                case rel => exact ⟨k + 1, T, M, s, by omega, rfl, by go_num, by omega, by have := HTT.out; omega, by omega, HL4.out, HMI.out⟩
                case measure => simp [intOf]; omega
          · skip
            by_cases he : bgE n s x = 0
            · have HW := Lib.hid (lookNil HL.out he)
              have HM2 := Lib.hid (HMI.out.lk he)
              clear he
              by_cases hxp : x = p
              · have hxb : (x == p) = true := by simp [hxp]
                rw [if_pos hxp] at HM2
                clear hxp
                go_wp2_with (go_at_call 9; (with_reducible refine HW.out.mono ?_); rintro e w4 ⟨rfl, hl4⟩; have d4 := HX0.out _ hl4.below; have HL4 := Lib.hid hl4; clear hl4)
                go_roundw
                case rel => exact ⟨k + 1, T, 0, glk n s x, by omega, rfl, by go_num, by omega, by have := HTT.out; omega, by omega, HL4.out, HM2.out⟩
                case measure => simp [intOf]; omega
              · have hxb : (x == p) = false := by simp [hxp]
                rw [if_neg hxp] at HM2
                clear hxp
                go_wp2_with (go_at_call 9; (with_reducible refine HW.out.mono ?_); rintro e w4 ⟨rfl, hl4⟩; have d4 := HX0.out _ hl4.below; have HL4 := Lib.hid hl4; clear hl4)
                go_roundw
                case rel => exact ⟨k + 1, T, M, glk n s x, by omega, rfl, by go_num, by omega, by have := HTT.out; omega, by omega, HL4.out, HM2.out⟩
                case measure => simp [intOf]; omega
            · have HW := Lib.hid (lookErr HL.out he)
              clear he
              go_wp2_with (go_at_call 9; (with_reducible refine HW.out.mono ?_); rintro e w4 ⟨⟨u4, rfl⟩, hl4⟩; have d4 := HX0.out _ hl4.below; have HL4 := Lib.hid hl4; clear hl4)
              go_roundw
              case rel => exact ⟨k + 1, T, M, s, by omega, rfl, by go_num, by omega, by have := HTT.out; omega, by omega, HL4.out, HMI.out⟩
              case measure => simp [intOf]; omega
        · obtain ⟨b1, o1, rfl, hb1, hc0⟩ := hnl.at_ (k := 0) rfl
          rw [Nat.add_zero] at hc0
          have hxr2 : wr.cell? ⟨b, o + k, none⟩ = some (.slice (some ⟨b1, o1, none⟩) 1 c') := hxr
          clear hxr
          have HX0 := Lib.hid (show ∀ W, Below w.heap.size w W → W.cell? ⟨b1, o1, none⟩ = some (.int .i64 x) from fun W hb => (hb.cell (p := ⟨b1, o1, none⟩) hb1).trans hc0)
          have d0 := HX0.out _ HL.out.below
          clear hnl hc0
          have hT6 : T ≤ 1000000 := by have := HTT.out; omega
          by_cases he : stOk n s x
          · have HW := Lib.hid (stepNil HL.out hT6 he)
            by_cases hxp : x = p
            · subst hxp
              have hxb : (x == x) = true := by simp
              obtain ⟨q1, q2, q3⟩ := HMI.out.st_same he (HL.out.ok.mks _ (by have := he.1; omega))
              rw [← HB0.out] at q2 q3
              have HM2 := Lib.hid q1
              have hwm : IntKind.i64.wrap ((M : Int) + 1) = (M : Int) + 1 := IntWalk.i64_in _ (by omega)
              have hlt2 : ¬ (B : Int) < (M : Int) + 1 := by omega
              by_cases hMB : M + 1 = B
              · rw [decide_eq_true (q3 hMB)] at HW
                have hMb : (((M : Int) + 1) == (B : Int)) = true := by simp; omega
                clear he q1 q2 q3 hMB
                go_wp2_with (go_at_call 10; (with_reducible refine HW.out.mono ?_); rintro e w4 ⟨⟨u4, rfl, -, -⟩, hl4, -⟩; have d4 := HX0.out _ hl4.below; have HL4 := Lib.hid hl4; clear hl4)
                go_roundw
                case rel => exact ⟨k + 1, T + 1, M + 1, gst n s x, by omega, rfl, by go_num, by omega, by have := HTT.out; omega, by omega, HL4.out, HM2.out⟩
                case measure => simp [intOf]; omega
              · have hMb : (((M : Int) + 1) == (B : Int)) = false := by simp; omega
                obtain ⟨D, hD⟩ : ∃ D, D = decide ((sone n s x.toNat).a = 0) := ⟨_, rfl⟩
                rw [← hD] at HW
                clear he q1 q2 q3 hMB hD
                go_wp2_with (go_at_call 10; (with_reducible refine HW.out.mono ?_); rintro e w4 ⟨⟨u4, rfl, -, -⟩, hl4, -⟩; have d4 := HX0.out _ hl4.below; have HL4 := Lib.hid hl4; clear hl4)
                go_roundw
                case rel => exact ⟨k + 1, T + 1, M + 1, gst n s x, by omega, rfl, by go_num, by omega, by have := HTT.out; omega, by omega, HL4.out, HM2.out⟩
                case measure => simp [intOf]; omega
            · have hxb : (x == p) = false := by simp [hxp]
              have HM2 := Lib.hid (HMI.out.st_other he hxp)
              obtain ⟨D, hD⟩ : ∃ D, D = decide ((sone n s x.toNat).a = 0) := ⟨_, rfl⟩
              rw [← hD] at HW
              clear he hxp hD
              go_wp2_with (go_at_call 10; (with_reducible refine HW.out.mono ?_); rintro e w4 ⟨⟨u4, rfl, -, -⟩, hl4, -⟩; have d4 := HX0.out _ hl4.below; have HL4 := Lib.hid hl4; clear hl4)
              go_roundw
              case rel => exact ⟨k + 1, T + 1, M, gst n s x, by omega, rfl, by go_num, by omega, by have := HTT.out; omega, by omega, HL4.out, HM2.out⟩
              case measure => simp [intOf]; omega
          · have HW := Lib.hid (stepErr HL.out hT6 he)
            clear he
            go_wp2_with (go_at_call 10; (with_reducible refine HW.out.mono ?_); rintro e w4 ⟨⟨u4, rfl⟩, hl4, -⟩; have d4 := HX0.out _ hl4.below; have HL4 := Lib.hid hl4; clear hl4)
            go_roundw
            case rel => exact ⟨k + 1, T + 1, M, s, by omega, rfl, by go_num, by omega, by have := HTT.out; omega, by omega, HL4.out, HMI.out⟩
            case measure => simp [intOf]; omega
        · have hi2 : ((l.length : Int) == 2) = false := by simp; omega
          have hi1 : ((l.length : Int) != 1) = true := by simp; omega
          clear hl2 hl1 hnl
          go_wp2
          go_roundw
          case rel => exact ⟨k + 1, T, M, s, by omega, rfl, by go_num, by omega, by have := HTT.out; omega, by omega, HL.out, HMI.out⟩
          case measure => simp [intOf]; omega
      · have hh : (k : Int) < steps.length ∧ ¬ (k : Int) < 300 ∨ ¬ (k : Int) < steps.length := by omega
        clear hgo
        rcases hh with ⟨hI, hJ⟩ | hI
        all_goals
          go_wp2
          go_ret
          exact ⟨rfl, HL.out.below⟩
  · have HZ := Lib.hid hz
    by_cases hz1 : z < 1
    all_goals
      clear hz
      go_enter Try.func4, Try.ntmps4
      go_wp2_with (first | (go_at_call 5; refine (fact_any _).mono ?_; rintro e w1 ⟨rfl, hb⟩; have HB := Lib.hid hb; clear hb) | (go_at_call 6; refine (newBad HB.out z HZ.out).mono ?_; rw [errV_one]; rintro e w2 ⟨rfl, hb⟩; have HB2 := Lib.hid hb; clear hb))
      go_ret
      first | exact ⟨rfl, HB2.out⟩ | exact ⟨congrArg (fun b => Ending.returned (.bool b)) (bad_true HZ.out), HB2.out⟩
end Go.Proofs.Ytoaakonfofjamaa.Snap
