/-
  The walk of latchgarthlaw2.BakeryFirst: it answers true, whatever the number of hands and the script.
-/
import Derived.Test.YtgkicabfmkghmaaBakLGoes
namespace Go.Proofs.Ytgkicabfmkghmaa.Bakery
open Go.RowKit

theorem in_any (z lo hi : Int) (w : World) : Calls Try.prog 11 #[.int .i64 z, .int .i64 lo, .int .i64 hi] w fun e w' => e = .returned (.bool (decide (lo ≤ z ∧ z ≤ hi))) ∧ w = w' := by
  by_cases h0 : lo ≤ z
  · by_cases h1 : z ≤ hi
    · rw [decide_eq_true (show lo ≤ z ∧ z ≤ hi from ⟨h0, h1⟩)]
      go_enter Try.func11, Try.ntmps11
      go_wp2
      go_ret
      exact ⟨rfl, rfl⟩
    · rw [decide_eq_false (show ¬ (lo ≤ z ∧ z ≤ hi) from fun h => h1 h.2)]
      go_enter Try.func11, Try.ntmps11
      go_wp2
      go_ret
      exact ⟨rfl, rfl⟩
  · rw [decide_eq_false (show ¬ (lo ≤ z ∧ z ≤ hi) from fun h => h0 h.1)]
    go_enter Try.func11, Try.ntmps11
    go_wp2
    go_ret
    exact ⟨rfl, rfl⟩

theorem idx_lt {n p q : Nat} (hp : p < n) (hq : q < n) : p * n + q < n * n := by
  have h := Nat.mul_le_mul_right n (show p + 1 ≤ n from hp)
  rw [Nat.succ_mul] at h
  omega
theorem idx_inj {n a b p q : Nat} (hb : b < n) (hq : q < n) (h : a * n + b = p * n + q) : a = p ∧ b = q := by
  have key : ∀ x y, y < n → (x * n + y) / n = x := fun x y hy => by
    rw [Nat.add_comm, Nat.add_mul_div_right _ _ (by omega), Nat.div_eq_of_lt hy, Nat.zero_add]
  have h1 := key a b hb
  rw [h, key p q hq] at h1
  subst h1
  exact ⟨rfl, by omega⟩
theorem WasIn.putb {w wr : World} {g n h : Nat} {bs : Nat → Bool} (k : WasIn w wr g n h bs) {i : Nat} (hi : i < n) (b : Bool) : WasIn w (wr.setCell ⟨h, i, none⟩ (.bool b)) g n h (fun j => if j = i then b else bs j) := by
  obtain ⟨cs, h1, h2, h3⟩ := k.blk
  refine ⟨k.new, k.far, _, h1.put i _, by simpa using h2, fun j hj => ?_⟩
  by_cases e : j = i
  · subst e; rw [Array.getElem?_setIfInBounds_self, if_pos (by omega)]; simp
  · rw [Array.getElem?_setIfInBounds_ne (by omega), h3 j hj]; simp [e]

/-- What is marked: who had its number when another one began. -/
def Ahd (n : Nat) (s : LSt) (bs : Nat → Bool) : Prop := ∀ a b, a < n → b < n → bs (a * n + b) = true → BAft a b s
/-- The same while hand p, that is in, is struck out of the rows up to j. -/
def AhdIn (n p j : Nat) (s : LSt) (bs : Nat → Bool) : Prop := ∀ a b, a < n → b < n → bs (a * n + b) = true → b = p ∧ j ≤ a ∧ (a = p → False) ∨ b ≠ p ∧ BAft a b s
theorem Ahd.new (n : Nat) (s : LSt) : Ahd n s (fun _ => false) := fun _ _ _ _ h => by cases h
section
variable {n p : Nat} {s : LSt} {bs : Nat → Bool}
theorem Ahd.begin (hok : BOk n s) (h : Ahd n s bs) (h1 : (s p).a = 1) : Ahd n (bstep n s p) bs := fun a b ha hb e => by
  have h2 := h a b ha hb e
  refine h2.step hok ha hb fun e3 e4 => ?_
  have := (bone_one (n := n) h1).1
  omega
theorem Ahd.mark (h : Ahd n (bstep n s p) bs) (h1 : (s p).a = 1) {j : Nat} (hj : j < n) (c : Bool) (hc : c = true → j ≠ p ∧ 4 ≤ (bstep n s p j).a ∧ (bstep n s p j).a ≤ 6) : Ahd n (bstep n s p) (fun i => if i = p * n + j then c else bs i) := fun a b ha hb e => by
  dsimp only at e
  by_cases e2 : a * n + b = p * n + j
  · obtain ⟨rfl, rfl⟩ := idx_inj hb hj e2
    rw [if_pos rfl] at e
    have h3 := hc e
    refine BAft.begin h3.1 h1 ?_
    rw [bstep, bup_other h3.1] at h3
    exact h3.2
  · rw [if_neg e2] at e
    exact h a b ha hb e
theorem Ahd.else_ (hok : BOk n s) (h : Ahd n s bs) (h67 : ¬ ((s p).a = 6 ∧ (bone n s p).a = 7)) : Ahd n (bstep n s p) bs := fun a b ha hb e => by
  have h2 := h a b ha hb e
  refine h2.step hok ha hb fun e3 e4 => ?_
  subst e3
  have h3 := h2.2.2.1
  exact h67 ⟨(bone_line (n := n) (by omega)).2.2 e4, e4⟩
theorem Ahd.came (hok : BOk n s) (h : Ahd n s bs) : AhdIn n p 0 (bstep n s p) bs := fun a b ha hb e => by
  have h2 := h a b ha hb e
  by_cases e2 : b = p
  · exact Or.inl ⟨e2, Nat.zero_le _, fun e3 => h2.1 (by omega)⟩
  · exact Or.inr ⟨e2, h2.step hok ha hb fun e3 => absurd e3.symm e2⟩
theorem AhdIn.none {j : Nat} (h : AhdIn n p j (bstep n s p) bs) (hp : p < n) (h7 : (bone n s p).a = 7) {q : Nat} (hq : q < n) : bs (p * n + q) = false := by
  cases e : bs (p * n + q) with
  | false => rfl
  | true =>
    rcases h p q hp hq e with h1 | h1
    · exact (h1.2.2 rfl).elim
    · have h2 := h1.2.2.1
      rw [bstep, bup_same] at h2
      omega
theorem AhdIn.strike {j : Nat} {s' : LSt} (h : AhdIn n p j s' bs) : AhdIn n p (j + 1) s' (fun i => if i = j * n + p then false else bs i) := fun a b ha hb e => by
  dsimp only at e
  by_cases e2 : a * n + b = j * n + p
  · rw [if_pos e2] at e; cases e
  · rw [if_neg e2] at e
    rcases h a b ha hb e with h1 | h1
    · refine Or.inl ⟨h1.1, ?_, h1.2.2⟩
      have : a ≠ j := fun e3 => e2 (by rw [h1.1, e3])
      omega
    · exact Or.inr h1
theorem AhdIn.done {s' : LSt} (h : AhdIn n p n s' bs) : Ahd n s' bs := fun a b ha hb e => by
  rcases h a b ha hb e with h1 | h1
  · omega
  · exact h1.2
end

set_option maxRecDepth 100000 in
set_option maxHeartbeats 4000000 in
theorem first_law (z : Int) (sv : Value) (script : List Int) (w : World) (hn : Nums w w.heap.size sv script) :
    Calls Try.prog 5 #[.int .i64 z, sv] w fun e w' => e = .returned (.bool true) ∧ Below w.heap.size w w' := by
  obtain ⟨A, c, rfl, hlen, hn⟩ := hn
  have HN := Lib.hid hn
  clear hn
  by_cases hz : 1 ≤ z ∧ z ≤ 4
  · obtain ⟨n, rfl⟩ := Int.eq_ofNat_of_zero_le (show 0 ≤ z by omega)
    have h1 : 1 ≤ n := by omega
    have h4 : n ≤ 4 := by omega
    clear hz
    obtain ⟨N, hN⟩ : ∃ N, N = n * n := ⟨_, rfl⟩
    have hN16 : N ≤ 16 := by rw [hN]; exact Nat.mul_le_mul h4 h4
    have hwN : IntKind.i64.wrap ((n : Int) * (n : Int)) = (N : Int) := by rw [hN]; exact (IntWalk.i64_in _ (by rw [← Int.natCast_mul, ← hN]; omega)).trans (by simp)
    have hmk := make_bools N (by omega)
    have HNN := Lib.hid hN
    clear hN
    go_enter Try.func5, Try.ntmps5
    go_wp2_with (first | (go_at_call 7; refine (fact_any _).mono ?_; rintro e w1 ⟨rfl, hb⟩; have HB := Lib.hid hb; clear hb) | (go_at_call 8; refine (newL HB.out h1 h4).mono ?_; rintro e w2 ⟨g, rfl, hl⟩; have HL := Lib.hid hl; clear hl))
    have hl0 := HL.out.made (.cells (madeCells #[.bool false] N) 4)
    have hw0 : WasIn w (w2.alloc (.cells (madeCells #[.bool false] N) 4)) g N w2.heap.size (fun _ => false) := WasIn.made HL.out.below.size HL.out.lk.lt
    obtain ⟨h, hh⟩ : ∃ h, h = w2.heap.size := ⟨_, rfl⟩
    obtain ⟨V, hV⟩ : ∃ V, V = w2.alloc (.cells (madeCells #[.bool false] N) 4) := ⟨_, rfl⟩
    rw [← hh, ← hV] at hw0
    rw [← hV] at hl0
    rw [← hh, ← hV]
    have HL0 := Lib.hid hl0
    have HW0 := Lib.hid hw0
    clear hh hV hl0 hw0 hmk
    go_loopw [9] (fun i wr => ∃ (k : Nat) (s : LSt) (bs : Nat → Bool), k ≤ script.length ∧ i = .int .i64 k ∧ k ≤ 400 ∧ LkAt w wr g n s k ∧ WasIn w wr g N h bs ∧ Ahd n s bs) (fun i _ => script.length - (intOf i).toNat)
    case atStart => exact ⟨0, _, _, by omega, rfl, by omega, HL0.out, HW0.out, Ahd.new _ _⟩
    case round =>
      clear HL HL0 HW0
      obtain ⟨k, s, bs, hk, rfl, hk4, hl, hw, hm⟩ := hrel
      have HL := Lib.hid hl
      have HW := Lib.hid hw
      have HM := Lib.hid hm
      by_cases hlt : k < script.length
      · have hI : (k : Int) < script.length := by omega
        by_cases h400 : k < 400
        · have h4I : (k : Int) < 400 := by omega
          obtain ⟨b, o, rfl, hbb, hcc⟩ := HN.out (by omega)
          obtain ⟨x, hx⟩ : ∃ x, script[k]? = some x := ⟨script[k], List.getElem?_eq_getElem hlt⟩
          have hxc := (hl.below.cell (p := ⟨b, o + k, none⟩) hbb).trans (hcc k x hx)
          have HX := Lib.hid hx
          clear hcc hx hl hw hm
          have hw1 : IntKind.i64.wrap ((n : Int) - 1) = (n : Int) - 1 := IntWalk.i64_in _ (by omega)
          by_cases hin : 0 ≤ x ∧ x ≤ (n : Int) - 1
          · obtain ⟨p, rfl⟩ := Int.eq_ofNat_of_zero_le hin.1
            have hpn : p < n := by omega
            have HIN := Lib.hid (in_any (p : Int) 0 ((n : Int) - 1))
            rw [decide_eq_true hin] at HIN
            clear hin
            have hpI : (p : Int) < n := by omega
            have HE := Lib.hid (lkStep_in (s := s) hpn)
            have hpn12 : p * n ≤ 3 * 4 := Nat.mul_le_mul (by omega) h4
            have hpnI : (p : Int) * (n : Int) = ((p * n : Nat) : Int) := by simp
            have hwpn : IntKind.i64.wrap ((p : Int) * (n : Int)) = (p : Int) * (n : Int) := IntWalk.i64_in _ (by rw [hpnI]; omega)
            have HPN := Lib.hid (⟨hpn12, hpnI⟩ : p * n ≤ 3 * 4 ∧ (p : Int) * (n : Int) = ((p * n : Nat) : Int))
            clear hpn12 hpnI
            go_wp2_with (first | (go_at_call 11; (with_reducible refine (HIN.out _).mono ?_); rintro e w3 ⟨rfl, rfl⟩) | (go_at_call 10; (with_reducible refine (atL HL.out p).mono ?_); rw [lkAt_in hpn]; rintro e w3 ⟨rfl, rfl⟩) | (go_at_call 9; (with_reducible refine (stepT HL.out (by omega) p).mono ?_); rw [HE.out]; rintro e w4 ⟨rfl, hl4, ht4⟩; have HL4 := Lib.hid hl4; have HW4 := Lib.hid (HW.out.touch ht4); clear hl4 ht4) | (go_at_call 10; (with_reducible refine (atL HL4.out p).mono ?_); rw [lkAt_in hpn]; rintro e w5 ⟨rfl, rfl⟩))
            have hsp : (bstep n s p p).a = (bone n s p).a := by rw [bstep, bup_same]
            rw [hsp]
            clear hsp
            by_cases a1 : (s p).a = 1
            · have e1 : ((((s p).a : Nat) : Int) == 1) = true := beq_iff_eq.2 (by omega)
              have e6 : ((((s p).a : Nat) : Int) == 6) = false := beq_eq_false_iff_ne.2 (by omega)
              have HM1 := Lib.hid (Ahd.begin HL.out.ok HM.out a1)
              have HA1 := Lib.hid a1
              clear a1
              go_loopw [13] (fun q wr => ∃ (j : Nat) (bs : Nat → Bool), j ≤ n ∧ q = .int .i64 j ∧ LkAt w wr g n (bstep n s p) (k + 1) ∧ WasIn w wr g N h bs ∧ Ahd n (bstep n s p) bs) (fun q _ => n - (intOf q).toNat)
              case atStart => exact ⟨0, bs, by omega, rfl, HL4.out, HW4.out, HM1.out⟩
              case round =>
                clear HL4 HW4 HM1
                obtain ⟨j, bs, hj, rfl, hl, hw, hm⟩ := hrel
                have HL5 := Lib.hid hl
                have HW5 := Lib.hid hw
                have HM5 := Lib.hid hm
                clear hl hw hm
                by_cases hjn : j < n
                · have hjI : (j : Int) < n := by omega
                  obtain ⟨d, hd⟩ : ∃ d, d = p * n + j := ⟨_, rfl⟩
                  have hdN : d < N := by rw [hd, HNN.out]; exact idx_lt hpn hjn
                  have hwd : IntKind.i64.wrap ((p : Int) * (n : Int) + (j : Int)) = (d : Int) := (IntWalk.i64_in _ (by have := HPN.out.1; rw [HPN.out.2]; omega)).trans (by rw [HPN.out.2, hd]; simp)
                  have hdI : (d : Int) < N := by omega
                  have hc5 := HW5.out.cell hdN
                  have hf5 := HW5.out.free d
                  have HD := Lib.hid hd
                  clear hd
                  by_cases ejp : j = p
                  · have ne : ((j : Int) != (p : Int)) = false := by simp; omega
                    have HMK := Lib.hid (HM5.out.mark HA1.out hjn false (fun e => by cases e))
                    clear ejp
                    go_wp2
                    go_roundw
                    case rel => exact ⟨j + 1, _, by omega, by go_num, HL5.out.other HW5.out.new HW5.out.far, HW5.out.putb hdN false, by rw [HD.out]; exact HMK.out⟩
                    case measure => simp [intOf]; omega
                  · have ne : ((j : Int) != (p : Int)) = true := by simp; omega
                    obtain ⟨c6, hc6⟩ : ∃ c6, c6 = decide ((4 : Int) ≤ (((bstep n s p j).a : Nat) : Int) ∧ (((bstep n s p j).a : Nat) : Int) ≤ 6) := ⟨_, rfl⟩
                    have HIN6 := Lib.hid (in_any (((bstep n s p j).a : Nat) : Int) 4 6)
                    rw [← hc6] at HIN6
                    have HMK := Lib.hid (HM5.out.mark HA1.out hjn c6 (fun e => by rw [hc6] at e; have := of_decide_eq_true e; omega))
                    clear ejp hc6
                    go_wp2_with (first | (go_at_call 10; (with_reducible refine (atL HL5.out j).mono ?_); rw [lkAt_in hjn]; rintro e w5 ⟨rfl, rfl⟩) | (go_at_call 11; (with_reducible refine (HIN6.out _).mono ?_); rintro e w3 ⟨rfl, rfl⟩))
                    go_roundw
                    case rel => exact ⟨j + 1, _, by omega, by go_num, HL5.out.other HW5.out.new HW5.out.far, HW5.out.putb hdN c6, by rw [HD.out]; exact HMK.out⟩
                    case measure => simp [intOf]; omega
                · obtain rfl : j = n := by omega
                  have hjI : ¬ (j : Int) < j := by omega
                  go_wp2
                  go_roundw
                  case rel => exact ⟨k + 1, _, bs, by omega, by go_num, by omega, HL5.out, HW5.out, HM5.out⟩
                  case measure => simp [intOf]; omega
            · have e1 : ((((s p).a : Nat) : Int) == 1) = false := beq_eq_false_iff_ne.2 (by omega)
              clear a1
              by_cases a67 : (s p).a = 6 ∧ (bone n s p).a = 7
              · have e6 : ((((s p).a : Nat) : Int) == 6) = true := beq_iff_eq.2 (by omega)
                have e7 : ((((bone n s p).a : Nat) : Int) == 7) = true := beq_iff_eq.2 (by omega)
                have HA7 := Lib.hid a67.2
                have HM1 := Lib.hid (Ahd.came (p := p) HL.out.ok HM.out)
                clear a67
                go_loopw [13] (fun q wr => ∃ (j : Nat) (bs : Nat → Bool), j ≤ n ∧ q = .int .i64 j ∧ LkAt w wr g n (bstep n s p) (k + 1) ∧ WasIn w wr g N h bs ∧ AhdIn n p j (bstep n s p) bs) (fun q _ => n - (intOf q).toNat)
                case atStart => exact ⟨0, bs, by omega, rfl, HL4.out, HW4.out, HM1.out⟩
                case round =>
                  clear HL4 HW4 HM1
                  obtain ⟨j, bs, hj, rfl, hl, hw, hm⟩ := hrel
                  have HL5 := Lib.hid hl
                  have HW5 := Lib.hid hw
                  have HM5 := Lib.hid hm
                  clear hl hw hm
                  by_cases hjn : j < n
                  · have hjI : (j : Int) < n := by omega
                    obtain ⟨d, hd⟩ : ∃ d, d = p * n + j := ⟨_, rfl⟩
                    have hdN : d < N := by rw [hd, HNN.out]; exact idx_lt hpn hjn
                    have hwd : IntKind.i64.wrap ((p : Int) * (n : Int) + (j : Int)) = (d : Int) := (IntWalk.i64_in _ (by have := HPN.out.1; rw [HPN.out.2]; omega)).trans (by rw [HPN.out.2, hd]; simp)
                    have hdI : (d : Int) < N := by omega
                    have hc5 := HW5.out.cell hdN
                    rw [hd, HM5.out.none hpn HA7.out hjn, ← hd] at hc5
                    have hjn12 : j * n ≤ 3 * 4 := Nat.mul_le_mul (by omega) h4
                    have hjnI : (j : Int) * (n : Int) = ((j * n : Nat) : Int) := by simp
                    have hwjn : IntKind.i64.wrap ((j : Int) * (n : Int)) = (j : Int) * (n : Int) := IntWalk.i64_in _ (by rw [hjnI]; omega)
                    obtain ⟨d2, hd2⟩ : ∃ d2, d2 = j * n + p := ⟨_, rfl⟩
                    have hdN2 : d2 < N := by rw [hd2, HNN.out]; exact idx_lt hjn hpn
                    have hwd2 : IntKind.i64.wrap ((j : Int) * (n : Int) + (p : Int)) = (d2 : Int) := (IntWalk.i64_in _ (by rw [hjnI]; omega)).trans (by rw [hjnI, hd2]; simp)
                    clear hjn12 hjnI
                    have hdI2 : (d2 : Int) < N := by omega
                    have hc6 := HW5.out.cell hdN2
                    have hf6 := HW5.out.free d2
                    have HMK := Lib.hid (HM5.out.strike)
                    have HD := Lib.hid hd2
                    clear hd hd2
                    go_wp2
                    go_roundw
                    case rel => exact ⟨j + 1, _, by omega, by go_num, HL5.out.other HW5.out.new HW5.out.far, HW5.out.putb hdN2 false, by rw [HD.out]; exact HMK.out⟩
                    case measure => simp [intOf]; omega
                  · obtain rfl : j = n := by omega
                    have hjI : ¬ (j : Int) < j := by omega
                    go_wp2
                    go_roundw
                    case rel => exact ⟨k + 1, _, bs, by omega, by go_num, by omega, HL5.out, HW5.out, HM5.out.done⟩
                    case measure => simp [intOf]; omega
              · have e67 : ((((s p).a : Nat) : Int) == 6) = false ∨ ((((s p).a : Nat) : Int) == 6) = true ∧ ((((bone n s p).a : Nat) : Int) == 7) = false := by
                  by_cases a6 : (s p).a = 6
                  · exact Or.inr ⟨beq_iff_eq.2 (by omega), beq_eq_false_iff_ne.2 (by omega)⟩
                  · exact Or.inl (beq_eq_false_iff_ne.2 (by omega))
                have HM1 := Lib.hid (Ahd.else_ HL.out.ok HM.out a67)
                clear a67
                rcases e67 with e6 | ⟨e6, e7⟩
                all_goals
                  go_loopw [13] (fun q wr => ∃ j : Nat, j ≤ n ∧ q = .int .i64 j ∧ wr = w4) (fun q _ => n - (intOf q).toNat)
                  case atStart => exact ⟨0, by omega, rfl, rfl⟩
                  case round =>
                    obtain ⟨j, hj, rfl, rfl⟩ := hrel
                    by_cases hjn : j < n
                    · have hjI : (j : Int) < n := by omega
                      go_wp2
                      go_roundw
                      case rel => exact ⟨j + 1, by omega, by go_num, trivial⟩
                      case measure => simp [intOf]; omega
                    · obtain rfl : j = n := by omega
                      have hjI : ¬ (j : Int) < j := by omega
                      go_wp2
                      go_roundw
                      case rel => exact ⟨k + 1, _, bs, by omega, by go_num, by omega, HL4.out, HW4.out, HM1.out⟩
                      case measure => simp [intOf]; omega
          · have HIN := Lib.hid (in_any x 0 ((n : Int) - 1))
            rw [decide_eq_false hin] at HIN
            clear hin
            go_wp2_with (go_at_call 11; (with_reducible refine (HIN.out _).mono ?_); rintro e w3 ⟨rfl, rfl⟩)
            go_roundw
            case rel => exact ⟨k + 1, s, bs, by omega, by go_num, by omega, HL.out.age (by omega), HW.out, HM.out⟩
            case measure => simp [intOf]; omega
        · have h4I : ¬ (k : Int) < 400 := by omega
          go_wp2
          go_ret
          exact ⟨rfl, HL.out.below⟩
      · have hI : ¬ (k : Int) < script.length := by omega
        go_wp2
        go_ret
        exact ⟨rfl, HL.out.below⟩
  · have HZ := Lib.hid hz
    by_cases hz1 : z < 1
    all_goals
      clear hz
      go_enter Try.func5, Try.ntmps5
      go_wp2_with (first | (go_at_call 7; refine (fact_any _).mono ?_; rintro e w1 ⟨rfl, hb⟩; have HB := Lib.hid hb; clear hb) | (go_at_call 8; refine (newBad HB.out z HZ.out).mono ?_; rw [errV_one]; rintro e w2 ⟨rfl, hb⟩; have HB2 := Lib.hid hb; clear hb))
      go_ret
      first | exact ⟨rfl, HB2.out⟩ | exact ⟨congrArg (fun b => Ending.returned (.bool b)) (bad_true HZ.out), HB2.out⟩
end Go.Proofs.Ytgkicabfmkghmaa.Bakery
