/-
  The walk of latchgarthlaw4.DequeOnce: it answers true, whatever the number of hands and the steps.
-/
import Derived.Test.YtbicckeoidijpaaDequeTaken
import Derived.Deep.RegionHeld3
import Derived.Test.YtbicckeoidijpaaHeldA
namespace Go.Proofs.Ytbicckeoidijpaa.Dq
open Go.RowKit

theorem bad_true {z : Int} (h : ¬ (1 ≤ z ∧ z ≤ 4)) : (decide (z < 1) || decide (4 < z)) = true := by
  simp only [Bool.or_eq_true, decide_eq_true_eq]; omega
theorem in_yes {z lo hi : Int} (h0 : lo ≤ z) (h1 : z ≤ hi) (w : World) : Calls Try.prog 9 #[.int .i64 z, .int .i64 lo, .int .i64 hi] w fun e w' => e = .returned (.bool true) ∧ w = w' := by
  go_enter Try.func9, Try.ntmps9
  go_wp2
  go_ret
  exact ⟨rfl, rfl⟩
theorem irow_drew {W : World} {h n : Nat} {f : Nat → Int} (k : IRow W h n f) : IRow W.drew h n f := k
/-- How often each number stands in a list. -/
def cntf (L : List Int) : Nat → Int := fun d => (L.count (d : Int) : Nat)
theorem cntf_nil : cntf [] = fun _ => 0 := rfl
theorem cntf_same (L : List Int) (d : Nat) : cntf (L ++ [(d : Int)]) d = cntf L d + 1 := by unfold cntf; simp
theorem cntf_other (L : List Int) {d e : Nat} (h : e ≠ d) : cntf (L ++ [(d : Int)]) e = cntf L e := by
  unfold cntf
  rw [List.count_append, List.count_singleton]
  have : ((d : Int) == (e : Int)) = false := by simp; omega
  rw [this]; simp
theorem count_le (L : List Int) (d : Nat) : 0 ≤ cntf L d ∧ cntf L d ≤ L.length := by
  unfold cntf
  have := List.count_le_length (a := (d : Int)) (l := L)
  omega
theorem nodup_count {L : List Int} (h : L.Nodup) (d : Nat) : cntf L d ≤ 1 := by
  unfold cntf
  induction L with
  | nil => simp
  | cons a L ih =>
    obtain ⟨h1, h2⟩ := List.nodup_cons.1 h
    have := ih h2
    rw [List.count_cons]
    by_cases e : a = (d : Int)
    · have : L.count (d : Int) = 0 := List.count_eq_zero.2 (e ▸ h1)
      rw [this]; simp; split <;> omega
    · have : (a == (d : Int)) = false := by simp [e]
      rw [this]; simpa using ih h2
theorem take_more {L : List Int} {k : Nat} {z : Int} (h : L[k]? = some z) : L.take (k + 1) = L.take k ++ [z] := by
  rw [List.take_add_one, h]; rfl
theorem take_all {L : List Int} {k : Nat} (h : L.length = k) : L.take k = L := List.take_of_length_le (by omega)
theorem pair_lt {L : List Int} (h : L.Pairwise (· < ·)) {k : Nat} {x y : Int} (hx : L[k]? = some x) (hy : L[k + 1]? = some y) : x < y := by
  obtain ⟨h1, e1⟩ := List.getElem?_eq_some_iff.1 hx
  obtain ⟨h2, e2⟩ := List.getElem?_eq_some_iff.1 hy
  rw [← e1, ← e2]
  exact List.pairwise_iff_getElem.1 h _ _ h1 h2 (Nat.lt_succ_self _)
section
variable {w W W' : World} {g n base A : Nat} {gs : DS} {nx : Nat} {ps : Bool} {vP vQ : Value} {P Q : List Int}
/-- The deque alone. -/
def TL (w W : World) (g n A : Nat) (gs : DS) : Prop := ∃ s, LkAt w W g n s A ∧ DR s gs
theorem TL.below (k : TL w W g n A gs) : Below w.heap.size w W := by
  obtain ⟨s, h, _⟩ := k
  exact h.below
theorem TA.far (k : TA w W g n base A gs nx ps vP vQ P Q) {h : Nat} (ht : Touch (fun k => k = h) W W') (hg : g < h) : TL w W' g n A gs :=
  k.lk.imp fun _ q => ⟨q.1.touch ht fun i hi => by have := k.new.1; omega, q.2⟩
theorem endsT (k : TL w W g n A gs) (ha : gs.a = 0) :
    Calls Try.prog 10 #[.pointer (some ⟨g, 0, none⟩)] W fun e W' => e = .returned (.tuple #[.int .i64 (gs.T : Nat), .int .i64 (gs.E : Nat)]) ∧ ∃ i, W' = W.drewN i := by
  obtain ⟨s, hl, hr⟩ := k
  refine (endsL hl).mono fun e W' ⟨h1, h2⟩ => ⟨?_, h2⟩
  have hB := hr.B
  rw [if_neg (by omega)] at hB
  rw [h1, hr.T, hB]
end

set_option maxHeartbeats 8000000 in
set_option maxRecDepth 100000 in
theorem once_law (z : Int) (sv : Value) (steps : List (List Int)) (w : World) (hn : Rws w w.heap.size sv steps) :
    Calls Try.prog 3 #[.int .i64 z, sv] w fun e w' => e = .returned (.bool true) ∧ Below w.heap.size w w' := by
  by_cases hz : 1 ≤ z ∧ z ≤ 4
  · obtain ⟨n, rfl⟩ := Int.eq_ofNat_of_zero_le (show 0 ≤ z by omega)
    have h1 : 1 ≤ n := by omega
    have h4 : n ≤ 4 := by omega
    have HN := Lib.hid hn
    clear hz hn
    have hmk : ∀ W : World, (Instr.makeSlice 29 (.int .i64 400) (.int .i64 400)).run Try.prog W = .ok (.slice (some ⟨W.heap.size, 0, none⟩) 400 400) (W.alloc (.cells (madeCells #[.int .i64 0] 400) 3)) := make_ints 400 (by omega)
    go_enter Try.func3, Try.ntmps3
    go_upto_region 8 with (first | (go_at_call 6; refine (fact_any _).mono ?_; rintro e w1 ⟨rfl, hb⟩; have HB := Lib.hid hb; clear hb) | (go_at_call 7; refine (newL HB.out h1 h4).mono ?_; rintro e w2 ⟨g, rfl, hl⟩; have HL := Lib.hid hl; clear hl) | (go_at_call 8; refine (taken_any HL.out sv steps (HN.out.below HL.out.below (Nat.le_refl _))).mono ?_; rintro e w3 ⟨gs, nx, ps, vP, vQ, P, Q, rfl, hta, ha, hpd⟩; have HTA := Lib.hid hta; have HA := Lib.hid ha; have HPD := Lib.hid hpd; clear hta ha hpd))
    obtain ⟨base, hbase⟩ : ∃ base, base = w2.heap.size := ⟨_, rfl⟩
    rw [← hbase] at HTA
    have hta := HTA.out
    have hsum := hta.os.sum HA.out
    have hte := hta.os.ok.te
    have hpd := HPD.out
    obtain ⟨KP, hKP⟩ : ∃ K, P.length = K := ⟨_, rfl⟩
    obtain ⟨KQ, hKQ⟩ : ∃ K, Q.length = K := ⟨_, rfl⟩
    obtain ⟨aP, cP, rfl, haP⟩ := hta.formP hKP
    obtain ⟨aQ, cQ, rfl, haQ⟩ := hta.formQ hKQ
    obtain ⟨pd, hpdd⟩ : ∃ m, m = gs.pd := ⟨_, rfl⟩
    have hhigh : ∀ z, z ∈ P ∨ z ∈ Q → 0 ≤ z ∧ z < (pd : Int) := fun z hz => by rw [hpdd]; exact hta.os.high hz
    rw [← hpdd] at hsum hpd ⊢
    rw [hKP, hKQ] at hsum
    have HHI := Lib.hid hhigh
    have HKP := Lib.hid hKP
    have HKQ := Lib.hid hKQ
    have HAP := Lib.hid haP
    have HAQ := Lib.hid haQ
    have hKs : KP + KQ ≤ pd := by omega
    have hbs := hta.bs
    have HS := Lib.hid hsum
    have HTE := Lib.hid hte
    obtain ⟨h, hh⟩ : ∃ h, h = w3.heap.size := ⟨_, rfl⟩
    obtain ⟨W4, hW4⟩ : ∃ W, W = w3.alloc (.cells (madeCells #[.int .i64 0] 400) 3) := ⟨_, rfl⟩
    have HR0 := Lib.hid (show IRow W4 h 400 (cntf (P.take 0)) from by rw [hW4, hh, List.take_zero, cntf_nil]; exact IRow.made w3 400)
    have HTA4 := Lib.hid (show TA w W4 g n base 360 gs nx ps (.slice aP KP cP) (.slice aQ KQ cQ) P Q from by rw [hW4]; exact hta.made _)
    have HGH := Lib.hid (show g < h ∧ base ≤ h from ⟨by rw [hh]; have := hta.gb; omega, by rw [hh]; exact hbs⟩)
    have HAP4 := Lib.hid (show 0 < KP → ∃ b, aP = some ⟨b, 0, none⟩ ∧ b ≠ h ∧ b < W4.heap.size from fun h0 => by
      obtain ⟨b, e, hb⟩ := haP h0
      exact ⟨b, e, by omega, by rw [hW4]; simp; omega⟩)
    have HAQ4 := Lib.hid (show 0 < KQ → ∃ b, aQ = some ⟨b, 0, none⟩ ∧ b ≠ h ∧ b < W4.heap.size from fun h0 => by
      obtain ⟨b, e, hb⟩ := haQ h0
      exact ⟨b, e, by omega, by rw [hW4]; simp; omega⟩)
    have HW4 := Lib.hid hW4
    have HH := Lib.hid hh
    clear hta hsum hte hKP hKQ haP haQ hhigh hpdd hbs HTA HAP HAQ hbase hW4 hh HL HB
    have hmk3 := hmk w3
    clear hmk
    go_upto_region 9 with fail
    rw [← HW4.out, ← HH.out]
    clear hmk3
    go_wp2_with fail
    go_loopw [12] (fun i wr => ∃ k : Nat, i = .int .i64 k ∧ k ≤ KP ∧ IRow wr h 400 (cntf (P.take k)) ∧ Touch (fun k => k = h) W4 wr) (fun i _ => KP - (intOf i).toNat)
    case atStart => exact ⟨0, rfl, by omega, HR0.out, Touch.refl _ _⟩
    case round =>
      clear HR0
      obtain ⟨k, rfl, hk, hr, ht⟩ := hrel
      by_cases hgo : k < KP
      · have hI : (k : Int) < (KP : Int) := by omega
        obtain ⟨z, hz⟩ : ∃ z, P[k]? = some z := ⟨P[k]'(by have := HKP.out; omega), List.getElem?_eq_getElem _⟩
        obtain ⟨bP, rfl, hbh, hbl⟩ := HAP4.out (by omega)
        obtain ⟨hz0, hz1⟩ := HHI.out z (.inl (List.mem_of_getElem? hz))
        obtain ⟨d, rfl⟩ := Int.eq_ofNat_of_zero_le hz0
        have hd : d < 400 := by omega
        have hxc : wr.cell? ⟨bP, k, none⟩ = some (.int .i64 (d : Int)) := (ht.cell (p := ⟨bP, k, none⟩) hbl hbh).trans (HTA4.out.cellP hz)
        obtain ⟨C, hC⟩ : ∃ C, C = cntf (P.take k) d := ⟨_, rfl⟩
        have hCb : 0 ≤ C ∧ C ≤ 1000 := by have := count_le (P.take k) d; have := HKP.out; have := List.length_take_le' k P; omega
        have q1 := hr.cell hd
        rw [← hC] at q1
        have f1 := hr.free d
        have hw1 : IntKind.i64.wrap ((pd : Int) - 1) = (pd : Int) - 1 := IntWalk.i64_in _ (by omega)
        obtain ⟨C1, hC1⟩ : ∃ C1, C1 = C + 1 := ⟨_, rfl⟩
        have hwC : IntKind.i64.wrap (C + 1) = C1 := by rw [hC1]; exact IntWalk.i64_in _ (by omega)
        have HIN := Lib.hid (fun W => in_yes (z := (d : Int)) (lo := 0) (hi := (pd : Int) - 1) hz0 (by omega) W)
        have HR := Lib.hid (show IRow (wr.setCell ⟨h, d, none⟩ (.int .i64 C1)) h 400 (cntf (P.take (k + 1))) from hr.put hd (fun j hj => by rw [take_more hz]; exact cntf_other _ hj) (by rw [take_more hz, cntf_same, hC1, hC]))
        have HT := Lib.hid ht
        have hdI : (d : Int) < 400 := by omega
        clear hz hr ht hz1 hC hC1 hgo
        go_wp2_with (go_at_call 9; (with_reducible refine (HIN.out _).mono ?_); rintro e wi ⟨rfl, rfl⟩)
        go_roundw
        case rel => exact ⟨k + 1, by go_num, by omega, HR.out, HT.out.setCell (Or.inl rfl) _⟩
        case measure => simp [intOf]; omega
      · obtain rfl : k = KP := by omega
        have hI : ¬ (k : Int) < (k : Int) := by omega
        have HR0 := Lib.hid (show IRow wr h 400 (cntf (P ++ Q.take 0)) from by rw [take_all HKP.out] at hr; simpa using hr)
        have HT0 := Lib.hid ht
        clear hr ht hgo hk
        go_wp2_with fail
        go_loopw [13] (fun i wr => ∃ j : Nat, i = .int .i64 j ∧ j ≤ KQ ∧ IRow wr h 400 (cntf (P ++ Q.take j)) ∧ Touch (fun k => k = h) W4 wr) (fun i _ => KQ - (intOf i).toNat)
        case atStart => exact ⟨0, rfl, by omega, HR0.out, HT0.out⟩
        case round =>
          clear HR0 HT0
          obtain ⟨j, rfl, hj, hr, ht⟩ := hrel
          by_cases hgo : j < KQ
          · have hI : (j : Int) < (KQ : Int) := by omega
            obtain ⟨z, hz⟩ : ∃ z, Q[j]? = some z := ⟨Q[j]'(by have := HKQ.out; omega), List.getElem?_eq_getElem _⟩
            obtain ⟨bQ, rfl, hbh, hbl⟩ := HAQ4.out (by omega)
            obtain ⟨hz0, hz1⟩ := HHI.out z (.inr (List.mem_of_getElem? hz))
            obtain ⟨d, rfl⟩ := Int.eq_ofNat_of_zero_le hz0
            have hd : d < 400 := by omega
            have hxc : wr.cell? ⟨bQ, j, none⟩ = some (.int .i64 (d : Int)) := (ht.cell (p := ⟨bQ, j, none⟩) hbl hbh).trans (HTA4.out.cellQ hz)
            obtain ⟨C, hC⟩ : ∃ C, C = cntf (P ++ Q.take j) d := ⟨_, rfl⟩
            have hCb : 0 ≤ C ∧ C ≤ 1000 := by have := count_le (P ++ Q.take j) d; have := HKP.out; have := HKQ.out; have := List.length_take_le' j Q; rw [List.length_append] at *; omega
            have q1 := hr.cell hd
            rw [← hC] at q1
            have f1 := hr.free d
            have hw1 : IntKind.i64.wrap ((pd : Int) - 1) = (pd : Int) - 1 := IntWalk.i64_in _ (by omega)
            obtain ⟨C1, hC1⟩ : ∃ C1, C1 = C + 1 := ⟨_, rfl⟩
            have hwC : IntKind.i64.wrap (C + 1) = C1 := by rw [hC1]; exact IntWalk.i64_in _ (by omega)
            have HIN := Lib.hid (fun W => in_yes (z := (d : Int)) (lo := 0) (hi := (pd : Int) - 1) hz0 (by omega) W)
            have HR := Lib.hid (show IRow (wr.setCell ⟨h, d, none⟩ (.int .i64 C1)) h 400 (cntf (P ++ Q.take (j + 1))) from hr.put hd (fun i hi => by rw [take_more hz, ← List.append_assoc]; exact cntf_other _ hi) (by rw [take_more hz, ← List.append_assoc, cntf_same, hC1, hC]))
            have HT := Lib.hid ht
            have hdI : (d : Int) < 400 := by omega
            rcases Nat.eq_zero_or_pos j with hj0 | hj0
            · subst hj0
              rw [show ((0 : Nat) : Int) = 0 from rfl] at *
              have HSS := Lib.hid (show (fun W : World => W.cell? ⟨bQ, 0, none⟩ = some (.int .i64 (d : Int))) wr.drew from hxc)
              clear hz hr ht hz1 hC hC1 hgo
              go_upto_region 18 with fail
              refine wp_region_held_drew (S := (fun W : World => W.cell? ⟨bQ, 0, none⟩ = some (.int .i64 (d : Int)))) (by kernel_rfl) ?_ (fun hHeld => ?_)
              · exact HSS.out
              refine wpAnyH_take (i := 0) (oi := { dst := some 71, op := Op.move (Operand.tmp 10), type := 29, pos := "law.go:310", after := #[], guard := none }) (v := .slice (some ⟨bQ, 0, none⟩) KQ cQ) rfl (by kernel_rfl) (by kernel_rfl) (by kernel_rfl) (fun _ _ _ h => h) (Or.inl ⟨by rfl, fun W hSw => by (try dsimp only at hSw); go_simp⟩) (by assumption) ?_
              try simp only [Act.put, List.setIfInBounds_toArray, List.set_cons_zero, List.set_cons_succ]
              refine wpAnyH_take (i := 1) (oi := { dst := some 72, op := Op.move (Operand.tmp 13), type := 3, pos := "law.go:310", after := #[], guard := none }) (v := .int .i64 0) rfl (by kernel_rfl) (by kernel_rfl) (by kernel_rfl) (fun _ _ _ h => h) (Or.inl ⟨by rfl, fun W hSw => by (try dsimp only at hSw); go_simp⟩) (by assumption) ?_
              try simp only [Act.put, List.setIfInBounds_toArray, List.set_cons_zero, List.set_cons_succ]
              refine wpAnyH_take (i := 2) (oi := { dst := some 73, op := Op.indexAddr 29 (Operand.tmp 71) (Operand.tmp 72), type := 0, pos := "law.go:310", after := #[{ on := 0, ground := Ground.data }, { on := 1, ground := Ground.data }], guard := none }) (v := .pointer (some ⟨bQ, 0, none⟩)) rfl (by kernel_rfl) (by kernel_rfl) (by kernel_rfl) (fun _ _ _ h => h) (Or.inl ⟨by rfl, fun W hSw => by (try dsimp only at hSw); go_simp⟩) (by assumption) ?_
              try simp only [Act.put, List.setIfInBounds_toArray, List.set_cons_zero, List.set_cons_succ]
              refine wpAnyH_take (i := 3) (oi := { dst := some 74, op := Op.load 3 (Operand.tmp 73), type := 3, pos := "law.go:310", after := #[{ on := 2, ground := Ground.data }], guard := none }) (v := .int .i64 (d : Int)) rfl (by kernel_rfl) (by kernel_rfl) (by kernel_rfl) (fun _ _ _ h => h) (Or.inl ⟨by rfl, fun W hSw => by (try dsimp only at hSw); go_simp⟩) (by assumption) ?_
              try simp only [Act.put, List.setIfInBounds_toArray, List.set_cons_zero, List.set_cons_succ]
              refine wpAnyH_take (i := 4) (oi := { dst := some 75, op := Op.move (Operand.tmp 8), type := 3, pos := "law.go:310", after := #[], guard := none }) (v := .int .i64 (pd : Int)) rfl (by kernel_rfl) (by kernel_rfl) (by kernel_rfl) (fun _ _ _ h => h) (Or.inl ⟨by rfl, fun W hSw => by (try dsimp only at hSw); go_simp⟩) (by assumption) ?_
              try simp only [Act.put, List.setIfInBounds_toArray, List.set_cons_zero, List.set_cons_succ]
              refine wpAnyH_take (i := 5) (oi := { dst := some 76, op := Op.binOp BinOp.sub 3 (Operand.tmp 75) (Operand.const (Value.int IntKind.i64 1)) 3, type := 3, pos := "law.go:310", after := #[{ on := 4, ground := Ground.data }], guard := none }) (v := .int .i64 ((pd : Int) - 1)) rfl (by kernel_rfl) (by kernel_rfl) (by kernel_rfl) (fun _ _ _ h => h) (Or.inl ⟨by rfl, fun W hSw => by (try dsimp only at hSw); go_simp⟩) (by assumption) ?_
              try simp only [Act.put, List.setIfInBounds_toArray, List.set_cons_zero, List.set_cons_succ]
              refine held_call 6 (o := { dst := some 77, op := Op.call { callee := Callee.value (Operand.func 9), args := #[Operand.tmp 74, Operand.const (Value.int IntKind.i64 0), Operand.tmp 76], argTypes := #[3, 3, 3] }, type := 4, pos := "law.go:310", after := #[{ on := 3, ground := Ground.data }, { on := 5, ground := Ground.data }], guard := none }) ?hr1 ?ho1 ?hw1 9 #[.int .i64 (d : Int), .int .i64 0, .int .i64 ((pd : Int) - 1)] ?hx1 _ (HIN.out _) ?h1
              case hr1 => kernel_rfl
              case ho1 => rfl
              case hw1 => rfl
              case hx1 => (go_simp; try rfl)
              rintro e w7 ⟨rfl, rfl⟩
              refine ⟨_, rfl, (by assumption), ?_⟩
              try simp only [Act.put, List.setIfInBounds_toArray, List.set_cons_zero, List.set_cons_succ]
              refine wpAnyH_take (i := 7) (oi := { dst := some 78, op := Op.unOp UnOp.not 4 (Operand.tmp 77), type := 4, pos := "law.go:310", after := #[{ on := 6, ground := Ground.data }], guard := none }) (v := .bool false) rfl (by kernel_rfl) (by kernel_rfl) (by kernel_rfl) (fun _ _ _ h => h) (Or.inl ⟨by rfl, fun W hSw => by (try dsimp only at hSw); go_simp⟩) (by assumption) ?_
              try simp only [Act.put, List.setIfInBounds_toArray, List.set_cons_zero, List.set_cons_succ]
              refine wpAnyH_take (i := 8) (oi := { dst := some 79, op := Op.move (Operand.tmp 78), type := 4, pos := "law.go:310", after := #[{ on := 7, ground := Ground.data }, { on := 6, ground := Ground.chain }], guard := none }) (v := .bool false) rfl (by kernel_rfl) (by kernel_rfl) (by kernel_rfl) (fun _ _ _ h => h) (Or.inl ⟨by rfl, fun W hSw => by (try dsimp only at hSw); go_simp⟩) (by assumption) ?_
              try simp only [Act.put, List.setIfInBounds_toArray, List.set_cons_zero, List.set_cons_succ]
              refine wpAnyH_take (i := 9) (oi := { dst := some 80, op := Op.move (Operand.tmp 13), type := 3, pos := "law.go:310", after := #[{ on := 8, ground := Ground.guard }], guard := some (8, false) }) (v := .int .i64 0) rfl (by kernel_rfl) (by kernel_rfl) (by kernel_rfl) (fun _ _ _ h => h) (Or.inl ⟨by rfl, fun W hSw => by (try dsimp only at hSw); go_simp⟩) (by assumption) ?_
              try simp only [Act.put, List.setIfInBounds_toArray, List.set_cons_zero, List.set_cons_succ]
              refine wpAnyH_take (i := 10) (oi := { dst := some 81, op := Op.binOp BinOp.gtr 3 (Operand.tmp 80) (Operand.const (Value.int IntKind.i64 0)) 3, type := 4, pos := "law.go:310", after := #[{ on := 9, ground := Ground.data }, { on := 8, ground := Ground.guard }], guard := some (8, false) }) (v := .bool false) rfl (by kernel_rfl) (by kernel_rfl) (by kernel_rfl) (fun _ _ _ h => h) (Or.inl ⟨by rfl, fun W hSw => by (try dsimp only at hSw); go_simp⟩) (by assumption) ?_
              try simp only [Act.put, List.setIfInBounds_toArray, List.set_cons_zero, List.set_cons_succ]
              refine wpAnyH_take (i := 11) (oi := { dst := some 82, op := Op.move (Operand.tmp 81), type := 4, pos := "law.go:310", after := #[{ on := 10, ground := Ground.data }, { on := 8, ground := Ground.chain }, { on := 8, ground := Ground.guard }], guard := some (8, false) }) (v := .bool false) rfl (by kernel_rfl) (by kernel_rfl) (by kernel_rfl) (fun _ _ _ h => h) (Or.inl ⟨by rfl, fun W hSw => by (try dsimp only at hSw); go_simp⟩) (by assumption) ?_
              try simp only [Act.put, List.setIfInBounds_toArray, List.set_cons_zero, List.set_cons_succ]
              refine wpAnyH_take (i := 12) (oi := { dst := some 83, op := Op.move (Operand.tmp 10), type := 29, pos := "law.go:310", after := #[{ on := 11, ground := Ground.guard }], guard := some (11, true) }) (v := undef) rfl (by kernel_rfl) (by kernel_rfl) (by kernel_rfl) (fun _ _ _ h => h) (Or.inr ⟨by rfl, rfl⟩) (by assumption) ?_
              try simp only [Act.put, List.setIfInBounds_toArray, List.set_cons_zero, List.set_cons_succ]
              refine wpAnyH_take (i := 13) (oi := { dst := some 84, op := Op.move (Operand.tmp 13), type := 3, pos := "law.go:310", after := #[{ on := 11, ground := Ground.guard }], guard := some (11, true) }) (v := undef) rfl (by kernel_rfl) (by kernel_rfl) (by kernel_rfl) (fun _ _ _ h => h) (Or.inr ⟨by rfl, rfl⟩) (by assumption) ?_
              try simp only [Act.put, List.setIfInBounds_toArray, List.set_cons_zero, List.set_cons_succ]
              refine wpAnyH_take (i := 14) (oi := { dst := some 85, op := Op.binOp BinOp.sub 3 (Operand.tmp 84) (Operand.const (Value.int IntKind.i64 1)) 3, type := 3, pos := "law.go:310", after := #[{ on := 13, ground := Ground.data }, { on := 11, ground := Ground.guard }], guard := some (11, true) }) (v := undef) rfl (by kernel_rfl) (by kernel_rfl) (by kernel_rfl) (fun _ _ _ h => h) (Or.inr ⟨by rfl, rfl⟩) (by assumption) ?_
              try simp only [Act.put, List.setIfInBounds_toArray, List.set_cons_zero, List.set_cons_succ]
              refine wpAnyH_take (i := 15) (oi := { dst := some 86, op := Op.indexAddr 29 (Operand.tmp 83) (Operand.tmp 85), type := 0, pos := "law.go:310", after := #[{ on := 12, ground := Ground.data }, { on := 14, ground := Ground.data }, { on := 11, ground := Ground.guard }], guard := some (11, true) }) (v := undef) rfl (by kernel_rfl) (by kernel_rfl) (by kernel_rfl) (fun _ _ _ h => h) (Or.inr ⟨by rfl, rfl⟩) (by assumption) ?_
              try simp only [Act.put, List.setIfInBounds_toArray, List.set_cons_zero, List.set_cons_succ]
              refine wpAnyH_take (i := 16) (oi := { dst := some 87, op := Op.load 3 (Operand.tmp 86), type := 3, pos := "law.go:310", after := #[{ on := 15, ground := Ground.data }, { on := 11, ground := Ground.guard }], guard := some (11, true) }) (v := undef) rfl (by kernel_rfl) (by kernel_rfl) (by kernel_rfl) (fun _ _ _ h => h) (Or.inr ⟨by rfl, rfl⟩) (by assumption) ?_
              try simp only [Act.put, List.setIfInBounds_toArray, List.set_cons_zero, List.set_cons_succ]
              refine wpAnyH_take (i := 17) (oi := { dst := some 88, op := Op.move (Operand.tmp 10), type := 29, pos := "law.go:310", after := #[{ on := 11, ground := Ground.guard }], guard := some (11, true) }) (v := undef) rfl (by kernel_rfl) (by kernel_rfl) (by kernel_rfl) (fun _ _ _ h => h) (Or.inr ⟨by rfl, rfl⟩) (by assumption) ?_
              try simp only [Act.put, List.setIfInBounds_toArray, List.set_cons_zero, List.set_cons_succ]
              refine wpAnyH_take (i := 18) (oi := { dst := some 89, op := Op.move (Operand.tmp 13), type := 3, pos := "law.go:310", after := #[{ on := 11, ground := Ground.guard }], guard := some (11, true) }) (v := undef) rfl (by kernel_rfl) (by kernel_rfl) (by kernel_rfl) (fun _ _ _ h => h) (Or.inr ⟨by rfl, rfl⟩) (by assumption) ?_
              try simp only [Act.put, List.setIfInBounds_toArray, List.set_cons_zero, List.set_cons_succ]
              refine wpAnyH_take (i := 19) (oi := { dst := some 90, op := Op.indexAddr 29 (Operand.tmp 88) (Operand.tmp 89), type := 0, pos := "law.go:310", after := #[{ on := 17, ground := Ground.data }, { on := 18, ground := Ground.data }, { on := 11, ground := Ground.guard }], guard := some (11, true) }) (v := undef) rfl (by kernel_rfl) (by kernel_rfl) (by kernel_rfl) (fun _ _ _ h => h) (Or.inr ⟨by rfl, rfl⟩) (by assumption) ?_
              try simp only [Act.put, List.setIfInBounds_toArray, List.set_cons_zero, List.set_cons_succ]
              refine wpAnyH_take (i := 20) (oi := { dst := some 91, op := Op.load 3 (Operand.tmp 90), type := 3, pos := "law.go:310", after := #[{ on := 19, ground := Ground.data }, { on := 11, ground := Ground.guard }], guard := some (11, true) }) (v := undef) rfl (by kernel_rfl) (by kernel_rfl) (by kernel_rfl) (fun _ _ _ h => h) (Or.inr ⟨by rfl, rfl⟩) (by assumption) ?_
              try simp only [Act.put, List.setIfInBounds_toArray, List.set_cons_zero, List.set_cons_succ]
              refine wpAnyH_take (i := 21) (oi := { dst := some 92, op := Op.binOp BinOp.geq 3 (Operand.tmp 87) (Operand.tmp 91) 3, type := 4, pos := "law.go:310", after := #[{ on := 16, ground := Ground.data }, { on := 20, ground := Ground.data }, { on := 11, ground := Ground.guard }], guard := some (11, true) }) (v := undef) rfl (by kernel_rfl) (by kernel_rfl) (by kernel_rfl) (fun _ _ _ h => h) (Or.inr ⟨by rfl, rfl⟩) (by assumption) ?_
              try simp only [Act.put, List.setIfInBounds_toArray, List.set_cons_zero, List.set_cons_succ]
              refine wpAnyH_take (i := 22) (oi := { dst := some 93, op := Op.pick (Operand.tmp 82) (Operand.tmp 92) (Operand.const (Value.bool false)), type := 4, pos := "law.go:310", after := #[{ on := 11, ground := Ground.data }, { on := 21, ground := Ground.data }, { on := 8, ground := Ground.guard }], guard := some (8, false) }) (v := .bool false) rfl (by kernel_rfl) (by kernel_rfl) (by kernel_rfl) (fun _ _ _ h => h) (Or.inl ⟨by rfl, fun W hSw => by (try dsimp only at hSw); go_simp⟩) (by assumption) ?_
              try simp only [Act.put, List.setIfInBounds_toArray, List.set_cons_zero, List.set_cons_succ]
              refine wpAnyH_take (i := 23) (oi := { dst := some 94, op := Op.pick (Operand.tmp 79) (Operand.const (Value.bool true)) (Operand.tmp 93), type := 4, pos := "law.go:310", after := #[{ on := 8, ground := Ground.data }, { on := 22, ground := Ground.data }], guard := none }) (v := .bool false) rfl (by kernel_rfl) (by kernel_rfl) (by kernel_rfl) (fun _ _ _ h => h) (Or.inl ⟨by rfl, fun W hSw => by (try dsimp only at hSw); go_simp⟩) (by assumption) ?_
              try simp only [Act.put, List.setIfInBounds_toArray, List.set_cons_zero, List.set_cons_succ]
              clear hHeld
              refine wpAnyH_done (by kernel_rfl) ?_ _
              go_wp2
              go_roundw
              case rel => exact ⟨0 + 1, by go_num, by omega, HR.out, (HT.out.drew.setCell (Or.inl rfl) _)⟩
              case measure => simp [intOf]; omega
            · obtain ⟨i, hij⟩ : ∃ i, j = i + 1 := ⟨j - 1, by omega⟩
              obtain ⟨y, hy⟩ : ∃ y, Q[i]? = some y := ⟨Q[i]'(by have := HKQ.out; omega), List.getElem?_eq_getElem _⟩
              have hlt := pair_lt HTA4.out.os.rise hy (hij ▸ hz)
              have hyc : wr.cell? ⟨bQ, i, none⟩ = some (.int .i64 y) := (ht.cell (p := ⟨bQ, i, none⟩) hbl hbh).trans (HTA4.out.cellQ hy)
              have hw2 : IntKind.i64.wrap ((j : Int) - 1) = (i : Int) := (IntWalk.i64_in _ (by omega)).trans (by omega)
              have hpos : (0 : Int) < (j : Int) := by omega
              have hposd : decide ((0 : Int) < (j : Int)) = true := decide_eq_true hpos
              have hposN : 0 < j := by omega
              have hposNd : decide (0 < j) = true := decide_eq_true hposN
              have HSS := Lib.hid (show (fun W : World => W.cell? ⟨bQ, j, none⟩ = some (.int .i64 (d : Int)) ∧ W.cell? ⟨bQ, i, none⟩ = some (.int .i64 y)) wr.drew from ⟨hxc, hyc⟩)
              have hI2 : (i : Int) < (KQ : Int) := by omega
              have hnd : ¬ (d : Int) ≤ y := by omega
              have hndd : decide ((d : Int) ≤ y) = false := decide_eq_false hnd
              clear hz hr ht hz1 hC hC1 hgo hy hlt hj0 hij
              go_wp2_with fail
              go_region_held3 (fun W : World => W.cell? ⟨bQ, j, none⟩ = some (.int .i64 (d : Int)) ∧ W.cell? ⟨bQ, i, none⟩ = some (.int .i64 y)) (exact HSS.out) ((go_at_call 9; (with_reducible refine (HIN.out _).mono ?_); rintro e wi ⟨rfl, rfl⟩))
              all_goals
                go_wp2
                go_roundw
                case rel => exact ⟨j + 1, by go_num, by omega, irow_drew HR.out, (HT.out.setCell (Or.inl rfl) _).drew⟩
                case measure => simp [intOf]; omega
          · obtain rfl : j = KQ := by omega
            have hI : ¬ (j : Int) < (j : Int) := by omega
            have HR0 := Lib.hid (show IRow wr h 400 (cntf (P ++ Q)) from by rwa [take_all HKQ.out] at hr)
            have HT0 := Lib.hid ht
            clear hr ht hgo hj
            go_wp2_with fail
            go_loopw [14] (fun i wr => ∃ m : Nat, i = .int .i64 m ∧ m ≤ pd ∧ IRow wr h 400 (cntf (P ++ Q)) ∧ Touch (fun k => k = h) W4 wr) (fun i _ => pd - (intOf i).toNat)
            case atStart => exact ⟨0, rfl, by omega, HR0.out, HT0.out⟩
            case round =>
              clear HR0 HT0
              obtain ⟨m, rfl, hm, hr, ht⟩ := hrel
              have HR0 := Lib.hid hr
              have HT0 := Lib.hid ht
              clear hr ht
              by_cases hgo : m < pd
              · have hI2 : (m : Int) < (pd : Int) := by omega
                have hm4 : (m : Int) < 400 := by omega
                have q1 := HR0.out.cell (i := m) (by omega)
                obtain ⟨C, hC⟩ : ∃ C, C = cntf (P ++ Q) m := ⟨_, rfl⟩
                have hC1 : ¬ 1 < C := by rw [hC]; have := nodup_count HTA4.out.os.nd m; omega
                rw [← hC] at q1
                clear hC hgo
                go_wp2
                go_roundw
                case rel => exact ⟨m + 1, by go_num, by omega, HR0.out, HT0.out⟩
                case measure => simp [intOf]; omega
              · obtain rfl : m = pd := by omega
                have hI2 : ¬ (m : Int) < (m : Int) := by omega
                have HTA5 := Lib.hid (HTA4.out.far HT0.out HGH.out.1)
                have HE := Lib.hid (endsT HTA5.out HA.out)
                obtain ⟨T0, hT0⟩ : ∃ m, m = gs.T := ⟨_, rfl⟩
                obtain ⟨E0, hE0⟩ : ∃ m, m = gs.E := ⟨_, rfl⟩
                rw [← hT0, ← hE0] at HE
                have hs := HS.out
                have ht := HTE.out
                rw [← hT0, ← hE0] at hs ht
                have hwa : IntKind.i64.wrap ((E0 : Int) - (T0 : Int)) = ((E0 - T0 : Nat) : Int) := (IntWalk.i64_in _ (by omega)).trans (by omega)
                have hwb : IntKind.i64.wrap ((m : Int) - (k : Int)) = ((m - k : Nat) : Int) := (IntWalk.i64_in _ (by omega)).trans (by omega)
                have hwc : IntKind.i64.wrap (((m - k : Nat) : Int) - (j : Int)) = ((E0 - T0 : Nat) : Int) := (IntWalk.i64_in _ (by omega)).trans (by omega)
                generalize ((m - k : Nat) : Int) = x1 at hwb hwc
                generalize ((E0 - T0 : Nat) : Int) = x2 at hwa hwc
                clear hgo hT0 hE0 hs ht
                go_wp2_with (go_at_call 10; (with_reducible refine HE.out.mono ?_); rintro e w6 ⟨rfl, i6, rfl⟩)
                go_ret
                exact ⟨rfl, below_drewN (HTA5.out.below) _⟩
  · have HZ := Lib.hid hz
    clear hn
    by_cases hz1 : z < 1
    all_goals
      clear hz
      go_enter Try.func3, Try.ntmps3
      go_wp2_with (first | (go_at_call 6; refine (fact_any _).mono ?_; rintro e w1 ⟨rfl, hb⟩; have HB := Lib.hid hb; clear hb) | (go_at_call 7; refine (newBad HB.out z HZ.out).mono ?_; rw [err1]; rintro e w2 ⟨rfl, hb⟩; have HB2 := Lib.hid hb; clear hb))
      go_ret
      first | exact ⟨rfl, HB2.out⟩ | exact ⟨congrArg (fun b => Ending.returned (.bool b)) (bad_true HZ.out), HB2.out⟩
end Go.Proofs.Ytbicckeoidijpaa.Dq
