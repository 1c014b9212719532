/-
  Package snap: what a hand sees.
-/
import Derived.Test.YtnplhjbbkccdnaaDoorSnapVals
import Derived.Test.YtnplhjbbkccdnaaDoorSnapRead
import Derived.StillTailTactics
namespace Go.Proofs.YtnplhjbbkccdnaaDoor.Snap
open Go.RowKit
section
variable {w : World} {g n : Nat} {v : SS} (h : Lk w g n v) {p : Nat} (hp : p < 4)
include h hp
theorem Lk.xA : w.cell? ⟨g, 25 + p * 60, none⟩ = some (.int .i64 (v.h p).a) := h.hat hp (i := 0) (by omega)
theorem Lk.xW : w.cell? ⟨g, 25 + p * 60 + 1, none⟩ = some (.bool (v.h p).w) := h.hat hp (i := 1) (by omega)
theorem Lk.xX : w.cell? ⟨g, 25 + p * 60 + 2, none⟩ = some (.int .i64 (v.h p).x) := h.hat hp (i := 2) (by omega)
theorem Lk.xK : w.cell? ⟨g, 25 + p * 60 + 3, none⟩ = some (.int .i64 (v.h p).k) := h.hat hp (i := 3) (by omega)
theorem Lk.xF {q : Nat} (hq : q < 4) {j : Nat} (hj : j < 6) : w.cell? ⟨g, 25 + p * 60 + 4 + q * 6 + j, none⟩ = some (wc ((v.h p).f q) j) := by
  have := h.hat hp (i := 4 + q * 6 + j) (by omega)
  rw [← Nat.add_assoc, ← Nat.add_assoc] at this
  rw [this]
  unfold hc
  rw [if_neg (by omega), if_neg (by omega), if_neg (by omega), if_neg (by omega), if_pos (by omega), show (4 + q * 6 + j - 4) / 6 = q by omega, show (4 + q * 6 + j - 4) % 6 = j by omega]
theorem Lk.xL {q : Nat} (hq : q < 4) {j : Nat} (hj : j < 6) : w.cell? ⟨g, 25 + p * 60 + 28 + q * 6 + j, none⟩ = some (wc ((v.h p).l q) j) := by
  have := h.hat hp (i := 28 + q * 6 + j) (by omega)
  rw [← Nat.add_assoc, ← Nat.add_assoc] at this
  rw [this]
  unfold hc
  rw [if_neg (by omega), if_neg (by omega), if_neg (by omega), if_neg (by omega), if_neg (by omega), if_pos (by omega), show (28 + q * 6 + j - 28) / 6 = q by omega, show (28 + q * 6 + j - 28) % 6 = j by omega]
theorem Lk.xM {q : Nat} (hq : q < 4) : w.cell? ⟨g, 25 + p * 60 + 52 + q, none⟩ = some (.int .i64 ((v.h p).mv q)) := by
  have := h.hat hp (i := 52 + q) (by omega)
  rw [← Nat.add_assoc] at this
  rw [this]
  unfold hc
  rw [if_neg (by omega), if_neg (by omega), if_neg (by omega), if_neg (by omega), if_neg (by omega), if_neg (by omega), if_pos (by omega), Nat.add_sub_cancel_left]
theorem Lk.xS {q : Nat} (hq : q < 4) : w.cell? ⟨g, 25 + p * 60 + 56 + q, none⟩ = some (.int .i64 ((v.h p).sw q)) := by
  have := h.hat hp (i := 56 + q) (by omega)
  rw [← Nat.add_assoc] at this
  rw [this]
  unfold hc
  rw [if_neg (by omega), if_neg (by omega), if_neg (by omega), if_neg (by omega), if_neg (by omega), if_neg (by omega), if_neg (by omega), Nat.add_sub_cancel_left]
end
theorem results_two {P : Program} {fn : Func} {p a : Tmp} {ty : TypeId} (h : fn.results = #[.cell p ty, .tmp a]) (tmps : Array Value) (w : World) (g : Nat) (t : TypeId) (cs : Array Value) (fr : Nat × Nat) (d : TypeDesc)
    (hp : tmps.getD p undef = .pointer (some ⟨g, 0, none⟩)) (hg : w.heap[g]? = some (.cells cs t fr))
    (hu : P.underlying ty = some d) (hd : (match d with | .struct _ | .array _ _ => true | _ => false) = true) (hi : (P.info? ty).map (·.size) = some cs.size) :
    (results fn tmps).run P w = .ok (.tuple #[.agg cs, tmps.getD a undef]) w := by
  have hp' : tmps[p]?.getD undef = .pointer (some ⟨g, 0, none⟩) := by simpa using hp
  simp [results, h, hp', asAddr, run_loadVar_row w g t ty cs fr d hg hu hd hi]
/-- A hand with the first j moves counted. -/
def sv (b : SB) (j : Nat) : SB := { b with mv := fun q => if q < j then smvd b b.l q else b.mv q }
theorem sv_zero (b : SB) : sv b 0 = b := by unfold sv; simp
theorem sv_same {b : SB} {j : Nat} (h : (b.f j).t = (b.l j).t) : sv b (j + 1) = sv b j := by
  unfold sv
  congr 1
  funext q
  by_cases e : q = j
  · rw [if_pos (by omega), if_neg (by omega), e]; unfold smvd; rw [if_pos h]; omega
  · by_cases e2 : q < j
    · rw [if_pos (by omega), if_pos e2]
    · rw [if_neg (by omega), if_neg e2]
theorem sv_more {b : SB} {j : Nat} (h : (b.f j).t ≠ (b.l j).t) : bM (sv b j) j (b.mv j + 1) = sv b (j + 1) := by
  unfold sv bM
  dsimp only
  congr 1
  funext q
  by_cases e : q = j
  · rw [e, nput_same, if_pos (by omega)]; unfold smvd; rw [if_neg h]
  · rw [nput_other e]
    by_cases e2 : q < j
    · rw [if_pos e2, if_pos (show q < j + 1 by omega)]
    · rw [if_neg e2, if_neg (show ¬ q < j + 1 by omega)]
/-- Have the first ones moved not? -/
def eqs (b : SB) : Nat → Bool
  | 0 => true
  | k + 1 => eqs b k && decide ((b.f k).t = (b.l k).t)
theorem eqs_iff {b : SB} : ∀ {k : Nat}, eqs b k = true ↔ ∀ q, q < k → (b.f q).t = (b.l q).t := by
  intro k
  induction k with
  | zero => exact ⟨fun _ q hq => absurd hq (Nat.not_lt_zero _), fun _ => rfl⟩
  | succ k ih =>
    unfold eqs
    rw [Bool.and_eq_true, ih, decide_eq_true_iff]
    constructor
    · intro h q hq
      by_cases e : q = k
      · rw [e]; exact h.2
      · exact h.1 q (by omega)
    · intro h
      exact ⟨fun q hq => h q (by omega), h k (by omega)⟩
def seen (b : SB) : Nat → Nat := match ssee 4 b b.l with
  | some s => s
  | none => fun q => (b.l q).v
def sees (b : SB) : Bool := (ssee 4 b b.l).isSome
theorem sfind_at {P : Nat → Bool} {j : Nat} : ∀ {n : Nat}, j < n → P j = true → (∀ q, q < j → P q = false) → sfind P n = some j := by
  intro n
  induction n with
  | zero => intro h; exact absurd h (Nat.not_lt_zero _)
  | succ n ih =>
    intro h hp hq
    unfold sfind
    by_cases e : j = n
    · subst e
      cases e2 : sfind P j with
      | some r => have := sfind_some e2; rw [hq r this.1] at this; cases this.2
      | none => show (if P j then some j else none) = _; rw [if_pos hp]
    · rw [ih (by omega) hp hq]
theorem sfind_no {P : Nat → Bool} {n : Nat} (h : ∀ q, q < n → P q = false) : sfind P n = none := by
  cases e : sfind P n with
  | none => rfl
  | some r => have := sfind_some e; rw [h r this.1] at this; cases this.2
theorem seen_help {b : SB} {j : Nat} (hj : j < 4) (h2 : smvd b b.l j = 2) (hq : ∀ q, q < j → smvd b b.l q ≠ 2) : seen b = (b.l j).s ∧ sees b = true := by
  have e : sfind (fun q => decide (smvd b b.l q = 2)) 4 = some j := sfind_at hj (decide_eq_true h2) fun q h => decide_eq_false (hq q h)
  unfold seen sees ssee
  rw [e]
  exact ⟨rfl, rfl⟩
theorem seen_none {b : SB} (hq : ∀ q, q < 4 → smvd b b.l q ≠ 2) : seen b = (fun q => (b.l q).v) ∧ sees b = eqs b 4 := by
  have e : sfind (fun q => decide (smvd b b.l q = 2)) 4 = none := sfind_no fun q h => decide_eq_false (hq q h)
  unfold seen sees ssee
  rw [e]
  cases h : eqs b 4 with
  | true =>
    have e2 : sfind (fun q => decide ((b.f q).t ≠ (b.l q).t)) 4 = none := sfind_no fun q hq => by simp [eqs_iff.1 h q hq]
    rw [e2]
    exact ⟨rfl, rfl⟩
  | false =>
    cases e2 : sfind (fun q => decide ((b.f q).t ≠ (b.l q).t)) 4 with
    | some r => exact ⟨rfl, rfl⟩
    | none =>
      have : eqs b 4 = true := eqs_iff.2 fun q hq => by simpa using sfind_none e2 q hq
      rw [h] at this
      cases this
theorem sees_all {b : SB} (hs : sees b = false) : ∀ q, q < 4 → smvd b b.l q ≠ 2 := by
  intro q hq e
  unfold sees ssee at hs
  cases e1 : sfind (fun q => decide (smvd b b.l q = 2)) 4 with
  | some r => rw [e1] at hs; cases hs
  | none => exact absurd e (by simpa using sfind_none e1 q hq)
/-- In a round of the count. -/
structure Cnt (w W : World) (g n : Nat) (v : SS) (p j : Nat) : Prop where
  lk : Lk W g n (putH v p (sv (v.h p) j))
  no : ∀ q, q < j → smvd (v.h p) (v.h p).l q ≠ 2
  own : Block W w.heap.size 66 #[.int .i64 0, .int .i64 0, .int .i64 0, .int .i64 0]
  touch : Touch (fun k => k = g) w W
theorem putH_h (v : SS) (p : Nat) (b : SB) : (putH v p b).h p = b := nput_same _ _ _
theorem putH_wd (v : SS) (p : Nat) (b : SB) : (putH v p b).wd = v.wd := rfl
theorem putH_self (v : SS) (p : Nat) : putH v p (v.h p) = v := by
  unfold putH
  have : nput v.h p (v.h p) = v.h := by
    funext q
    by_cases e : q = p
    · rw [e, nput_same]
    · rw [nput_other e]
  rw [this]
theorem putH_two (v : SS) (p : Nat) (b c : SB) : putH (putH v p b) p c = putH v p c := by
  unfold putH
  have : nput (nput v.h p b) p c = nput v.h p c := by
    funext q
    by_cases e : q = p
    · rw [e, nput_same, nput_same]
    · rw [nput_other e, nput_other e, nput_other e]
  dsimp only
  rw [this]
set_option maxHeartbeats 4000000 in
theorem sees_any {g n : Nat} {v : SS} (w : World) (hk : Lk w g n v) {p : Nat} (hp : p < 4) (hm : ∀ q, q < 4 → (v.h p).mv q ≤ 1) :
    Calls Tryd.prog 44 #[.pointer (some ⟨g, 25 + p * 60, none⟩)] w fun e w' =>
      e = .returned (.tuple #[.agg #[.int .i64 (seen (v.h p) 0), .int .i64 (seen (v.h p) 1), .int .i64 (seen (v.h p) 2), .int .i64 (seen (v.h p) 3)], .bool (sees (v.h p))]) ∧
      (∃ j, Lk w' g n (putH v p (sv (v.h p) j)) ∧ (sees (v.h p) = false → j = 4)) ∧ Touch (fun k => k = g) w w' := by
  have H0 : Cnt w (w.alloc (.cells #[.int .i64 0, .int .i64 0, .int .i64 0, .int .i64 0] 66)) g n v p 0 :=
    ⟨by rw [sv_zero, putH_self]; exact hk.alloc _, fun q hq => absurd hq (Nat.not_lt_zero _), Block.made _ _ _, (Touch.refl _ _).alloc _⟩
  have HH0 := Lib.hid H0
  have hg := hk.lt
  have HG := Lib.hid hg
  have HM := Lib.hid hm
  clear hk H0 hm hg
  go_enter Tryd.func44, Tryd.ntmps44
  go_wp2_with fail
  go_loopw [4, 6] (fun sm i wr => ∃ k : Nat, k ≤ 4 ∧ i = .int .i64 k ∧ sm = .bool (eqs (v.h p) k) ∧ Cnt w wr g n v p k) (fun _ i _ => 4 - (intOf i).toNat)
  case atStart => exact ⟨0, by omega, rfl, rfl, HH0.out⟩
  case round =>
    clear HH0
    obtain ⟨k, hk, rfl, rfl, hC⟩ := hrel
    have hg : g < w.heap.size := HG.out
    by_cases hlt : k < 4
    · have hI : (k : Int) < 4 := by omega
      have c1 : wr.cell? ⟨g, 25 + p * 60 + 4 + k * 6 + 1, none⟩ = some (.int .i64 ((v.h p).f k).t) := by
        have c1 := hC.lk.xF hp hlt (j := 1) (by omega)
        rw [putH_h] at c1
        exact c1
      have c2 : wr.cell? ⟨g, 25 + p * 60 + 28 + k * 6 + 1, none⟩ = some (.int .i64 ((v.h p).l k).t) := by
        have c2 := hC.lk.xL hp hlt (j := 1) (by omega)
        rw [putH_h] at c2
        exact c2
      by_cases he : ((v.h p).f k).t = ((v.h p).l k).t
      · have hd : ((((v.h p).f k).t : Int) == (((v.h p).l k).t : Int)) = true := by simp [he]
        have HE := Lib.hid he
        have HC := Lib.hid hC
        clear he hC
        go_wp2
        go_quiet (fail)
        go_wp2
        go_roundw
        case rel =>
          have hC := HC.out
          refine ⟨k + 1, by omega, by go_num, ?_, ?_⟩
          · have e4 : eqs (v.h p) (k + 1) = eqs (v.h p) k := by
              rw [eqs, decide_eq_true HE.out, Bool.and_true]
            rw [e4]
          · refine ⟨by rw [sv_same HE.out]; exact hC.lk.drewN _, fun q hq => ?_, hC.own.drewN _, hC.touch.drewN _⟩
            by_cases e : q = k
            · have := HM.out k hlt
              rw [e]; unfold smvd; rw [if_pos HE.out]; omega
            · exact hC.no q (by omega)
        case measure => simp [intOf]; omega
      · have hd : ((((v.h p).f k).t : Int) == (((v.h p).l k).t : Int)) = false := by simp; omega
        have c3 : wr.cell? ⟨g, 25 + p * 60 + 52 + k, none⟩ = some (.int .i64 ((v.h p).mv k)) := by
          have c3 := hC.lk.xM hp hlt
          rw [putH_h] at c3
          unfold sv at c3
          dsimp only at c3
          rw [if_neg (Nat.lt_irrefl k)] at c3
          exact c3
        have f3 := hC.lk.free (25 + p * 60 + 52 + k)
        have hm := HM.out k hlt
        rcases (show (v.h p).mv k = 1 ∨ (v.h p).mv k = 0 by omega) with hm2 | hm1
        · rw [hm2] at c3
          have hw : IntKind.i64.wrap (2 : Int) = 2 := rfl
          have hC1 : ∀ i, Cnt w ((wr.drewN i).setCell ⟨g, 25 + p * 60 + 52 + k, none⟩ (.int .i64 2)) g n v p (k + 1) ∨ (smvd (v.h p) (v.h p).l k = 2 ∧ Lk ((wr.drewN i).setCell ⟨g, 25 + p * 60 + 52 + k, none⟩ (.int .i64 2)) g n (putH v p (sv (v.h p) (k + 1)))) := fun i => by
            have hL := (hC.lk.drewN i).setM hp hlt 2
            rw [putH_h, putH_two] at hL
            have hsv := sv_more he
            rw [hm2] at hsv
            rw [hsv] at hL
            have hsm : smvd (v.h p) (v.h p).l k = 2 := by unfold smvd; rw [if_neg he, hm2]
            exact Or.inr ⟨hsm, hL⟩
          have hO : ∀ i, Block ((wr.drewN i).setCell ⟨g, 25 + p * 60 + 52 + k, none⟩ (.int .i64 2)) w.heap.size 66 #[.int .i64 0, .int .i64 0, .int .i64 0, .int .i64 0] := fun i => (hC.own.drewN i).far (p := ⟨g, 25 + p * 60 + 52 + k, none⟩) (by show w.heap.size ≠ g; omega) _
          have hT : ∀ i, Touch (fun k => k = g) w ((wr.drewN i).setCell ⟨g, 25 + p * 60 + 52 + k, none⟩ (.int .i64 2)) := fun i => (hC.touch.drewN i).setCell (Or.inl rfl) _
          have HSM := Lib.hid (show smvd (v.h p) (v.h p).l k = 2 by unfold smvd; rw [if_neg he, hm2])
          have HE := Lib.hid he
          have HNO := Lib.hid hC.no
          have HC1 := Lib.hid hC1
          have HO := Lib.hid hO
          have HT := Lib.hid hT
          clear he hC hC1 hO hT
          go_wp2
          go_quiet (fail)
          go_wp2_with fail
          go_region_with fail
          obtain ⟨V, hV⟩ : ∃ V, V = (wr.drewN (nq + 1)).setCell ⟨g, 25 + p * 60 + 52 + k, none⟩ (.int .i64 2) := ⟨_, rfl⟩
          rw [← hV]
          have d1 := HC1.out (nq + 1)
          have d2 := HO.out (nq + 1)
          have d3 := HT.out (nq + 1)
          rw [← hV] at d1 d2 d3
          clear hV HC1 HO HT
          have e2 : smvd (v.h p) (v.h p).l k = 2 ∧ Lk V g n (putH v p (sv (v.h p) (k + 1))) := by
            rcases d1 with d1 | d1
            · exact absurd HSM.out (d1.no k (by omega))
            · exact d1
          have hL := e2.2
          have c4 : V.cell? ⟨g, 25 + p * 60 + 52 + k, none⟩ = some (.int .i64 2) := by
            have c4 := hL.xM hp hlt
            rw [putH_h] at c4
            have e3 : (sv (v.h p) (k + 1)).mv k = 2 := by
              unfold sv
              dsimp only
              rw [if_pos (Nat.lt_succ_self k)]; exact e2.1
            rw [e3] at c4
            exact c4
          have s0 : V.cell? ⟨g, 25 + p * 60 + 28 + k * 6 + 2, none⟩ = some (.int .i64 (((v.h p).l k).s 0)) := by
            have c := hL.xL hp hlt (j := 2) (by omega)
            rw [putH_h] at c
            exact c
          have s1 : V.cell? ⟨g, 25 + p * 60 + 28 + k * 6 + 3, none⟩ = some (.int .i64 (((v.h p).l k).s 1)) := by
            have c := hL.xL hp hlt (j := 3) (by omega)
            rw [putH_h] at c
            exact c
          have s2 : V.cell? ⟨g, 25 + p * 60 + 28 + k * 6 + 4, none⟩ = some (.int .i64 (((v.h p).l k).s 2)) := by
            have c := hL.xL hp hlt (j := 4) (by omega)
            rw [putH_h] at c
            exact c
          have s3 : V.cell? ⟨g, 25 + p * 60 + 28 + k * 6 + 5, none⟩ = some (.int .i64 (((v.h p).l k).s 3)) := by
            have c := hL.xL hp hlt (j := 5) (by omega)
            rw [putH_h] at c
            exact c
          have a0 : V.cell? ⟨w.heap.size, 0, none⟩ = some (.int .i64 0) := d2.cell 0
          have b0 := d2.free 0
          have a1 : V.cell? ⟨w.heap.size, 1, none⟩ = some (.int .i64 0) := d2.cell 1
          have b1 := d2.free 1
          have a2 : V.cell? ⟨w.heap.size, 2, none⟩ = some (.int .i64 0) := d2.cell 2
          have b2 := d2.free 2
          have a3 : V.cell? ⟨w.heap.size, 3, none⟩ = some (.int .i64 0) := d2.cell 3
          have b3 := d2.free 3
          obtain ⟨y1, y2⟩ := seen_help hlt e2.1 HNO.out
          have Y1 := Lib.hid y1
          have Y2 := Lib.hid y2
          have D2 := Lib.hid d2
          have D3 := Lib.hid d3
          have HL := Lib.hid hL
          clear d1 d2 d3 hL e2 y1 y2
          go_wp2
          rw [Y1.out, Y2.out]
          refine bodyPost_ret (v := .tuple #[.agg #[.int .i64 (((v.h p).l k).s 0), .int .i64 (((v.h p).l k).s 1), .int .i64 (((v.h p).l k).s 2), .int .i64 (((v.h p).l k).s 3)], .bool true]) (results_two (p := 2) (a := 3) rfl _ _ w.heap.size _ _ _ _ rfl (four D2.out _ _ _ _) Tryd.underlying66 rfl Tv.info) rfl ⟨rfl, ⟨k + 1, ?_, fun h => by cases h⟩, ?_⟩
          · exact (((HL.out.far (p := ⟨w.heap.size, 0, none⟩) (by show g ≠ w.heap.size; omega) _).far (p := ⟨w.heap.size, 1, none⟩) (by show g ≠ w.heap.size; omega) _).far (p := ⟨w.heap.size, 2, none⟩) (by show g ≠ w.heap.size; omega) _).far (p := ⟨w.heap.size, 3, none⟩) (by show g ≠ w.heap.size; omega) _
          · exact (((D3.out.setCell (Or.inr (Nat.le_refl _)) _).setCell (Or.inr (Nat.le_refl _)) _).setCell (Or.inr (Nat.le_refl _)) _).setCell (Or.inr (Nat.le_refl _)) _
        · rw [hm1] at c3
          have hw : IntKind.i64.wrap (1 : Int) = 1 := rfl
          have hC1 : ∀ i, Cnt w ((wr.drewN i).setCell ⟨g, 25 + p * 60 + 52 + k, none⟩ (.int .i64 1)) g n v p (k + 1) ∨ (smvd (v.h p) (v.h p).l k = 2 ∧ Lk ((wr.drewN i).setCell ⟨g, 25 + p * 60 + 52 + k, none⟩ (.int .i64 1)) g n (putH v p (sv (v.h p) (k + 1)))) := fun i => by
            have hL := (hC.lk.drewN i).setM hp hlt 1
            rw [putH_h, putH_two] at hL
            have hsv := sv_more he
            rw [hm1] at hsv
            rw [hsv] at hL
            have hsm : smvd (v.h p) (v.h p).l k = 1 := by unfold smvd; rw [if_neg he, hm1]
            exact Or.inl ⟨hL, fun q hq => by
              by_cases e : q = k
              · rw [e, hsm]; omega
              · exact hC.no q (by omega), (hC.own.drewN i).far (p := ⟨g, 25 + p * 60 + 52 + k, none⟩) (by show w.heap.size ≠ g; omega) _, (hC.touch.drewN i).setCell (Or.inl rfl) _⟩
          have hO : ∀ i, Block ((wr.drewN i).setCell ⟨g, 25 + p * 60 + 52 + k, none⟩ (.int .i64 1)) w.heap.size 66 #[.int .i64 0, .int .i64 0, .int .i64 0, .int .i64 0] := fun i => (hC.own.drewN i).far (p := ⟨g, 25 + p * 60 + 52 + k, none⟩) (by show w.heap.size ≠ g; omega) _
          have hT : ∀ i, Touch (fun k => k = g) w ((wr.drewN i).setCell ⟨g, 25 + p * 60 + 52 + k, none⟩ (.int .i64 1)) := fun i => (hC.touch.drewN i).setCell (Or.inl rfl) _
          have HSM := Lib.hid (show smvd (v.h p) (v.h p).l k = 1 by unfold smvd; rw [if_neg he, hm1])
          have HE := Lib.hid he
          have HNO := Lib.hid hC.no
          have HC1 := Lib.hid hC1
          have HO := Lib.hid hO
          have HT := Lib.hid hT
          clear he hC hC1 hO hT
          go_wp2
          go_quiet (fail)
          go_wp2_with fail
          go_region_with fail
          obtain ⟨V, hV⟩ : ∃ V, V = (wr.drewN (nq + 1)).setCell ⟨g, 25 + p * 60 + 52 + k, none⟩ (.int .i64 1) := ⟨_, rfl⟩
          rw [← hV]
          have d1 := HC1.out (nq + 1)
          have d2 := HO.out (nq + 1)
          have d3 := HT.out (nq + 1)
          rw [← hV] at d1 d2 d3
          clear hV HC1 HO HT
          have c4 : V.cell? ⟨g, 25 + p * 60 + 52 + k, none⟩ = some (.int .i64 1) := by
            rcases d1 with d1 | d1
            · have c4 := d1.lk.xM hp hlt
              rw [putH_h] at c4
              have e3 : (sv (v.h p) (k + 1)).mv k = 1 := by
                unfold sv
                dsimp only
                rw [if_pos (Nat.lt_succ_self k)]; exact HSM.out
              rw [e3] at c4
              exact c4
            · have := HSM.out
              have := d1.1
              omega
          have D1 := Lib.hid d1
          clear d1 d2 d3
          go_wp2
          go_roundw
          case rel =>
            refine ⟨k + 1, by omega, by go_num, ?_, ?_⟩
            · have e4 : eqs (v.h p) (k + 1) = false := by
                unfold eqs
                rw [decide_eq_false HE.out, Bool.and_false]
              rw [e4]
            · rcases D1.out with d1 | d1
              · exact d1
              · have := HSM.out
                have := d1.1
                omega
          case measure => simp [intOf]; omega
    · obtain rfl : k = 4 := by omega
      have hC4 := hC.lk
      have hv : ∀ q, q < 4 → wr.cell? ⟨g, 25 + p * 60 + 28 + q * 6, none⟩ = some (.int .i64 ((v.h p).l q).v) := fun q hq => by
        have c := hC4.xL hp hq (j := 0) (by omega)
        rw [putH_h] at c
        exact c
      have HV := Lib.hid (values_any (o := 25 + p * 60 + 28) wr ((v.h p).l 0).v ((v.h p).l 1).v ((v.h p).l 2).v ((v.h p).l 3).v (hv 0 (by omega)) (hv 1 (by omega)) (hv 2 (by omega)) (hv 3 (by omega)))
      obtain ⟨y1, y2⟩ := seen_none hC.no
      have Y1 := Lib.hid y1
      have Y2 := Lib.hid y2
      have HC := Lib.hid hC
      have hI : ¬ ((4 : Nat) : Int) < 4 := by omega
      clear hC hC4 hv y1 y2
      go_wp2_with (go_at_call 36; (with_reducible refine HV.out.mono ?_); rintro e w' ⟨rfl, hb⟩; have HB := Lib.hid hb; have d2 := HC.out.own.below hb HC.out.own.lt; have a0 := d2.cell 0; have a1 := d2.cell 1; have a2 := d2.cell 2; have a3 := d2.cell 3; have b0 := d2.free 0; have b1 := d2.free 1; have b2 := d2.free 2; have b3 := d2.free 3; have D2 := Lib.hid d2; clear hb d2)
      rw [Y1.out, Y2.out]
      refine bodyPost_ret (v := .tuple #[.agg #[.int .i64 ((v.h p).l 0).v, .int .i64 ((v.h p).l 1).v, .int .i64 ((v.h p).l 2).v, .int .i64 ((v.h p).l 3).v], .bool (eqs (v.h p) 4)]) (results_two (p := 2) (a := 3) rfl _ _ w.heap.size _ _ _ _ rfl (four D2.out _ _ _ _) Tryd.underlying66 rfl Tv.info) rfl ⟨rfl, ⟨4, ?_, fun _ => rfl⟩, ?_⟩
      · exact ((((HC.out.lk.below HB.out HC.out.lk.lt).far (p := ⟨w.heap.size, 0, none⟩) (by show g ≠ w.heap.size; omega) _).far (p := ⟨w.heap.size, 1, none⟩) (by show g ≠ w.heap.size; omega) _).far (p := ⟨w.heap.size, 2, none⟩) (by show g ≠ w.heap.size; omega) _).far (p := ⟨w.heap.size, 3, none⟩) (by show g ≠ w.heap.size; omega) _
      · exact ((((HC.out.touch.calls HB.out HC.out.touch.size).setCell (Or.inr (Nat.le_refl _)) _).setCell (Or.inr (Nat.le_refl _)) _).setCell (Or.inr (Nat.le_refl _)) _).setCell (Or.inr (Nat.le_refl _)) _
end Go.Proofs.YtnplhjbbkccdnaaDoor.Snap
