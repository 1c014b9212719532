/-
  The walk of latchgarthlaw2.ClhGoes: it answers true, whatever the number of hands and the script.
-/
import Derived.Test.YtobfaohcadmopaaClhFact
import Derived.Deep.OwnRows
namespace Go.Proofs.Ytobfaohcadmopaa.Clh
open Go.RowKit

theorem Tbool.info : (Try.prog.info? 4).map (fun i => (i.zero, i.size, i.bytes)) = some (some (.bool false), 1, 1) := by kernel_rfl
theorem make_bools (k : Nat) (hk : k ≤ 1000) (w : World) : (Instr.makeSlice 32 (.int .i64 k) (.int .i64 k)).run Try.prog w = .ok (.slice (some ⟨w.heap.size, 0, none⟩) k k) (w.alloc (.cells (madeCells #[.bool false] k) 4)) :=
  run_make_row' 32 4 (.bool false) 1 Try.underlying32 Tbool.info rfl .i64 .i64 k (by omega) (by omega) w

/-- Who was in: a row of bools of one's own, a bool for each hand. -/
structure WasIn (w wr : World) (g n h : Nat) (bs : Nat → Bool) : Prop where
  new : w.heap.size ≤ h
  far : h ≠ g
  blk : ∃ cs, Block wr h 4 cs ∧ cs.size = n ∧ ∀ i, i < n → cs[i]? = some (.bool (bs i))
section
variable {w wr w' : World} {g n h : Nat} {bs : Nat → Bool}
theorem WasIn.cell (k : WasIn w wr g n h bs) {i : Nat} (hi : i < n) : wr.cell? ⟨h, i, none⟩ = some (.bool (bs i)) := by
  obtain ⟨cs, h1, h2, h3⟩ := k.blk
  rw [h1.cell]; exact h3 i hi
theorem WasIn.free (k : WasIn w wr g n h bs) (i : Nat) : wr.frozen? ⟨h, i, none⟩ = false := by
  obtain ⟨cs, h1, h2, h3⟩ := k.blk
  exact h1.free i
theorem WasIn.touch (k : WasIn w wr g n h bs) (ht : Touch (fun i => i = g) wr w') : WasIn w w' g n h bs := by
  obtain ⟨cs, h1, h2, h3⟩ := k.blk
  exact ⟨k.new, k.far, cs, h1.touch ht k.far, h2, h3⟩
theorem WasIn.put (k : WasIn w wr g n h bs) {i : Nat} (hi : i < n) : WasIn w (wr.setCell ⟨h, i, none⟩ (.bool true)) g n h (fun j => if j = i then true else bs j) := by
  obtain ⟨cs, h1, h2, h3⟩ := k.blk
  refine ⟨k.new, k.far, _, h1.put i _, by simpa using h2, fun j hj => ?_⟩
  by_cases e : j = i
  · subst e; rw [Array.getElem?_setIfInBounds_self, if_pos (by omega)]; simp
  · rw [Array.getElem?_setIfInBounds_ne (by omega), h3 j hj]; simp [e]
end
theorem WasIn.made {w wr : World} {g n : Nat} (hw : w.heap.size ≤ wr.heap.size) (hg : g < wr.heap.size) : WasIn w (wr.alloc (.cells (madeCells #[.bool false] n) 4)) g n wr.heap.size (fun _ => false) := by
  refine ⟨hw, by omega, _, Block.made wr _ _, by simp [madeCells], fun i hi => ?_⟩
  have h1 : (#[Value.bool false] : Array Value)[i % (#[Value.bool false] : Array Value).size]! = .bool false := by simp [Nat.mod_one]
  rw [madeCells, Array.getElem?_map, Array.getElem?_range, if_pos hi, Option.map_some, h1]

/-- All do a line in turn. -/
def lrun (n : Nat) (s : LSt) : Nat → LSt
  | 0 => s
  | t + 1 => lkStep n (lrun n s t) ((t % n : Nat) : Int)
/-- Who was in up to some time is marked. -/
def Marked (n : Nat) (s : LSt) (T : Nat) (bs : Nat → Bool) : Prop := ∀ t, t < T → lkAt n (lrun n s (t + 1)) ((t % n : Nat) : Int) = 4 → bs (t % n) = true
theorem Marked.zero (n : Nat) (s : LSt) (bs : Nat → Bool) : Marked n s 0 bs := fun t ht => by omega
theorem Marked.same {n : Nat} {s : LSt} {T : Nat} {bs : Nat → Bool} (h : Marked n s T bs) (ho : ¬ lkAt n (lrun n s (T + 1)) ((T % n : Nat) : Int) = 4) : Marked n s (T + 1) bs := fun t ht e => by
  by_cases e2 : t = T
  · subst e2; exact absurd e ho
  · exact h t (by omega) e
theorem Marked.more {n : Nat} {s : LSt} {T : Nat} {bs : Nat → Bool} (h : Marked n s T bs) {q : Nat} (hq : T % n = q) : Marked n s (T + 1) (fun j => if j = q then true else bs j) := fun t ht e => by
  by_cases e3 : t % n = q
  · simp [e3]
  · simp only [e3, if_false]
    refine h t ?_ e
    rcases Nat.lt_or_ge t T with h1 | h1
    · exact h1
    · obtain rfl : t = T := by omega
      exact absurd hq e3
theorem turn_mod {n r q : Nat} (hq : q < n) : (r * n + q) % n = q := by rw [Nat.add_comm, Nat.mul_comm, Nat.add_mul_mod_self_left, Nat.mod_eq_of_lt hq]

set_option maxHeartbeats 4000000 in
theorem goes_law (z : Int) (sv : Value) (script : List Int) (w : World) (hn : Nums w w.heap.size sv script) :
    Calls Try.prog 4 #[.int .i64 z, sv] w fun e w' => e = .returned (.bool true) ∧ Below w.heap.size w w' := by
  obtain ⟨A, c, rfl, hlen, hn⟩ := hn
  have HN := Lib.hid hn
  clear hn
  by_cases hz : 1 ≤ z ∧ z ≤ 4
  · obtain ⟨n, rfl⟩ := Int.eq_ofNat_of_zero_le (show 0 ≤ z by omega)
    have h1 : 1 ≤ n := by omega
    have h4 : n ≤ 4 := by omega
    clear hz
    have hmk := make_bools n (by omega)
    go_enter Try.func4, Try.ntmps4
    go_wp2_with (first | (go_at_call 8; refine (fact_any _).mono ?_; rintro e w1 ⟨rfl, hb⟩; have HB := Lib.hid hb; clear hb) | (go_at_call 9; refine (newL HB.out h1 h4).mono ?_; rintro e w2 ⟨g, rfl, hl⟩; have HL := Lib.hid hl; clear hl))
    go_loopw [8] (fun i wr => ∃ (k : Nat) (s : LSt), k ≤ script.length ∧ i = .int .i64 k ∧ k ≤ 200 ∧ LkAt w wr g n s k) (fun i _ => script.length - (intOf i).toNat)
    case atStart => exact ⟨0, _, by omega, rfl, by omega, HL.out⟩
    case round =>
      clear HL
      obtain ⟨k, s, hk, rfl, hk4, hl⟩ := hrel
      have HL := Lib.hid hl
      by_cases hgo : k < script.length ∧ k < 200
      · have hI : (k : Int) < script.length := by omega
        have h4I : (k : Int) < 200 := by omega
        obtain ⟨hlt, _⟩ := hgo
        obtain ⟨b, o, rfl, hbb, hcc⟩ := HN.out (by omega)
        obtain ⟨x, hx⟩ : ∃ x, script[k]? = some x := ⟨script[k], List.getElem?_eq_getElem hlt⟩
        have hxc := (hl.below.cell (p := ⟨b, o + k, none⟩) hbb).trans (hcc k x hx)
        have HX := Lib.hid hx
        clear hcc hx hl
        go_wp2_with (go_at_call 10; (with_reducible refine (stepL HL.out (by omega) x).mono ?_); rintro e w3 ⟨rfl, hl⟩; have H3 := Lib.hid hl; clear hl)
        go_roundw
        case rel => exact ⟨k + 1, _, by omega, by go_num, by omega, H3.out⟩
        case measure => simp [intOf]; omega
      · clear hl
        have hh : (k : Int) < script.length ∧ ¬ (k : Int) < 200 ∨ ¬ (k : Int) < script.length := by omega
        clear hgo
        have hs1 := HL.out.below.size
        have hs2 := HL.out.lk.lt
        rcases hh with ⟨hI, hJ⟩ | hI
        all_goals
          go_wp2
          have hl0 := HL.out.made (.cells (madeCells #[.bool false] n) 4)
          have hw0 : WasIn w (wr.alloc (.cells (madeCells #[.bool false] n) 4)) g n wr.heap.size (fun _ => false) := WasIn.made hs1 hs2
          obtain ⟨h, hh⟩ : ∃ h, h = wr.heap.size := ⟨_, rfl⟩
          obtain ⟨V, hV⟩ : ∃ V, V = wr.alloc (.cells (madeCells #[.bool false] n) 4) := ⟨_, rfl⟩
          rw [← hh, ← hV] at hw0
          rw [← hV] at hl0
          rw [← hh, ← hV]
          have HL0 := Lib.hid hl0
          have HW0 := Lib.hid hw0
          clear hh hV hl0 hw0 hmk hs1 hs2
          go_loopw [10] (fun i wr => ∃ (r : Nat) (bs : Nat → Bool), r ≤ 60 ∧ i = .int .i64 r ∧ LkAt w wr g n (lrun n s (r * n)) (k + r * n) ∧ WasIn w wr g n h bs ∧ Marked n s (r * n) bs) (fun i _ => 60 - (intOf i).toNat)
          case atStart => exact ⟨0, _, by omega, rfl, by rw [Nat.zero_mul]; exact HL0.out, HW0.out, by rw [Nat.zero_mul]; exact Marked.zero n s _⟩
          case round =>
            clear HL0 HW0
            obtain ⟨r, bs, hr, rfl, hl, hw, hm⟩ := hrel
            have HL1 := Lib.hid hl
            have HW1 := Lib.hid hw
            have HM1 := Lib.hid hm
            clear hl hw hm
            by_cases hr6 : r < 60
            · have hrI : (r : Int) < 60 := by omega
              go_wp2
              go_loopw [11] (fun q wr => ∃ (j : Nat) (bs : Nat → Bool), j ≤ n ∧ q = .int .i64 j ∧ LkAt w wr g n (lrun n s (r * n + j)) (k + (r * n + j)) ∧ WasIn w wr g n h bs ∧ Marked n s (r * n + j) bs) (fun q _ => n - (intOf q).toNat)
              case atStart => exact ⟨0, bs, by omega, rfl, HL1.out, HW1.out, HM1.out⟩
              case round =>
                clear HL1 HW1 HM1
                obtain ⟨j, bs, hj, rfl, hl, hw, hm⟩ := hrel
                have HL2 := Lib.hid hl
                have HW2 := Lib.hid hw
                have HM2 := Lib.hid hm
                clear hl hw hm
                by_cases hjn : j < n
                · have hjI : (j : Int) < n := by omega
                  have HAG := Lib.hid (show k + (r * n + j) ≤ 100000 from (by have : r * n ≤ 60 * 4 := Nat.mul_le_mul (by omega) h4; omega))
                  have HE := Lib.hid (show lkStep n (lrun n s (r * n + j)) (j : Int) = lrun n s (r * n + (j + 1)) by rw [← Nat.add_assoc, lrun, turn_mod hjn])
                  by_cases h5 : lkAt n (lrun n s (r * n + (j + 1))) j = 4
                  · have e5 : (((lkAt n (lrun n s (r * n + (j + 1))) j : Nat) : Int) == 4) = true := beq_iff_eq.2 (by omega)
                    have HM3 := Lib.hid (HM2.out.more (turn_mod hjn))
                    clear h5
                    go_wp2_with (first | (go_at_call 10; (with_reducible refine (stepG HL2.out HAG.out j (by omega) hjI).mono ?_); rw [HE.out]; rintro e w3 ⟨rfl, hl, ht⟩; have H3 := Lib.hid hl; have W3 := Lib.hid (HW2.out.touch ht); have hc3 := W3.out.cell hjn; have hf3 := W3.out.free j; clear hl ht) | (go_at_call 11; (with_reducible refine (atL H3.out j).mono ?_); rintro e w4 ⟨rfl, rfl⟩))
                    go_roundw
                    case rel => exact ⟨j + 1, _, by omega, by go_num, H3.out.other W3.out.new W3.out.far, W3.out.put hjn, HM3.out⟩
                    case measure => simp [intOf]; omega
                  · have e5 : (((lkAt n (lrun n s (r * n + (j + 1))) j : Nat) : Int) == 4) = false := beq_eq_false_iff_ne.2 (by omega)
                    have HM3 := Lib.hid (HM2.out.same (by rw [turn_mod hjn]; exact h5))
                    clear h5
                    go_wp2_with (first | (go_at_call 10; (with_reducible refine (stepG HL2.out HAG.out j (by omega) hjI).mono ?_); rw [HE.out]; rintro e w3 ⟨rfl, hl, ht⟩; have H3 := Lib.hid hl; have W3 := Lib.hid (HW2.out.touch ht); clear hl ht) | (go_at_call 11; (with_reducible refine (atL H3.out j).mono ?_); rintro e w4 ⟨rfl, rfl⟩))
                    go_roundw
                    case rel => exact ⟨j + 1, bs, by omega, by go_num, H3.out, W3.out, HM3.out⟩
                    case measure => simp [intOf]; omega
                · obtain rfl : j = n := by omega
                  have hjI : ¬ (j : Int) < j := by omega
                  have e1 : r * j + j = (r + 1) * j := by rw [Nat.succ_mul]
                  rw [e1] at HL2 HM2
                  clear e1
                  go_wp2
                  go_roundw
                  case rel => exact ⟨r + 1, bs, by omega, by go_num, HL2.out, HW2.out, HM2.out⟩
                  case measure => simp [intOf]; omega
            · obtain rfl : r = 60 := by omega
              have hall : ∀ p, p < n → bs p = true := fun p hp => by
                obtain ⟨t, ht, hp2, h5⟩ := lk_comes HL.out.ok h1 h4 (lrun n s) rfl (fun t => rfl) hp
                have := HM1.out t ht (by rw [hp2]; exact h5)
                rwa [hp2] at this
              have HA := Lib.hid hall
              clear hall
              go_wp2
              go_loopw [12] (fun q wq => ∃ j : Nat, j ≤ n ∧ q = .int .i64 j ∧ wq = wr) (fun q _ => n - (intOf q).toNat)
              case atStart => exact ⟨0, by omega, rfl, rfl⟩
              case round =>
                obtain ⟨j, hj, rfl, rfl⟩ := hrel
                by_cases hjn : j < n
                · have hjI : (j : Int) < n := by omega
                  have hc := HW1.out.cell hjn
                  rw [HA.out j hjn] at hc
                  go_wp2
                  go_roundw
                  case rel => exact ⟨j + 1, by omega, by go_num, trivial⟩
                  case measure => simp [intOf]; omega
                · obtain rfl : j = n := by omega
                  have hjI : ¬ (j : Int) < j := by omega
                  go_wp2
                  go_ret
                  exact ⟨rfl, HL1.out.below⟩
  · have HZ := Lib.hid hz
    by_cases hz1 : z < 1
    all_goals
      clear hz
      go_enter Try.func4, Try.ntmps4
      go_wp2_with (first | (go_at_call 8; refine (fact_any _).mono ?_; rintro e w1 ⟨rfl, hb⟩; have HB := Lib.hid hb; clear hb) | (go_at_call 9; refine (newBad HB.out z HZ.out).mono ?_; rw [errV_one]; rintro e w2 ⟨rfl, hb⟩; have HB2 := Lib.hid hb; clear hb))
      go_ret
      first | exact ⟨rfl, HB2.out⟩ | exact ⟨congrArg (fun b => Ending.returned (.bool b)) (bad_true HZ.out), HB2.out⟩
end Go.Proofs.Ytobfaohcadmopaa.Clh
