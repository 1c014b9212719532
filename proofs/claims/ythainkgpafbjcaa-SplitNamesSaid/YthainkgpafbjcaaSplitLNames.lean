/-
  The walk of latchgarthlaw2.SplitNames: it answers true, whatever the number of hands and the script.
-/
import Derived.Test.YthainkgpafbjcaaSplitFact
import Derived.Deep.OwnRows
namespace Go.Proofs.Ythainkgpafbjcaa.Split
open Go.RowKit

theorem inB_any (z lo hi : Int) (w : World) : Calls Try.prog 7 #[.int .i64 z, .int .i64 lo, .int .i64 hi] w fun e w' => e = .returned (.bool (decide (lo ≤ z ∧ z ≤ hi))) ∧ w = w' := by
  by_cases h0 : lo ≤ z
  · by_cases h1 : z ≤ hi
    · rw [decide_eq_true (show lo ≤ z ∧ z ≤ hi from ⟨h0, h1⟩)]
      go_enter Try.func7, Try.ntmps7
      go_wp2
      go_ret
      exact ⟨rfl, rfl⟩
    · rw [decide_eq_false (show ¬ (lo ≤ z ∧ z ≤ hi) from fun h => h1 h.2)]
      go_enter Try.func7, Try.ntmps7
      go_wp2
      go_ret
      exact ⟨rfl, rfl⟩
  · rw [decide_eq_false (show ¬ (lo ≤ z ∧ z ≤ hi) from fun h => h0 h.1)]
    go_enter Try.func7, Try.ntmps7
    go_wp2
    go_ret
    exact ⟨rfl, rfl⟩
theorem inB_yes (z lo hi : Int) (h0 : lo ≤ z) (h1 : z ≤ hi) (w : World) : Calls Try.prog 7 #[.int .i64 z, .int .i64 lo, .int .i64 hi] w fun e w' => e = .returned (.bool true) ∧ w = w' := by
  have := inB_any z lo hi w
  rwa [decide_eq_true (show lo ≤ z ∧ z ≤ hi from ⟨h0, h1⟩)] at this
theorem inB_no (z lo hi : Int) (h : ¬ (lo ≤ z ∧ z ≤ hi)) (w : World) : Calls Try.prog 7 #[.int .i64 z, .int .i64 lo, .int .i64 hi] w fun e w' => e = .returned (.bool false) ∧ w = w' := by
  have := inB_any z lo hi w
  rwa [decide_eq_false h] at this
theorem Tint.info : (Try.prog.info? 3).map (fun i => (i.zero, i.size, i.bytes)) = some (some (.int .i64 0), 1, 8) := by kernel_rfl
theorem make_ints (k : Nat) (hk : k ≤ 1000) (w : World) : (Instr.makeSlice 22 (.int .i64 k) (.int .i64 k)).run Try.prog w = .ok (.slice (some ⟨w.heap.size, 0, none⟩) k k) (w.alloc (.cells (madeCells #[.int .i64 0] k) 3)) :=
  run_make_row' 22 3 (.int .i64 0) 8 Try.underlying22 Tint.info rfl .i64 .i64 k (by omega) (by omega) w

/-- A row of numbers of one's own, a number for each hand. -/
structure Did (w wr : World) (g n h : Nat) (ds : Nat → Nat) : Prop where
  new : w.heap.size ≤ h
  far : h ≠ g
  blk : ∃ cs, Block wr h 3 cs ∧ cs.size = n ∧ ∀ i, i < n → cs[i]? = some (.int .i64 (ds i))
section
variable {w wr w' : World} {g n h : Nat} {ds : Nat → Nat}
theorem Did.cell (k : Did w wr g n h ds) {i : Nat} (hi : i < n) : wr.cell? ⟨h, i, none⟩ = some (.int .i64 (ds i)) := by
  obtain ⟨cs, h1, h2, h3⟩ := k.blk
  rw [h1.cell]; exact h3 i hi
theorem Did.free (k : Did w wr g n h ds) (i : Nat) : wr.frozen? ⟨h, i, none⟩ = false := by
  obtain ⟨cs, h1, h2, h3⟩ := k.blk
  exact h1.free i
theorem Did.touch (k : Did w wr g n h ds) (ht : Touch (fun i => i = g) wr w') : Did w w' g n h ds := by
  obtain ⟨cs, h1, h2, h3⟩ := k.blk
  exact ⟨k.new, k.far, cs, h1.touch ht k.far, h2, h3⟩
theorem Did.below (k : Did w wr g n h ds) (hb : Below wr.heap.size wr w') : Did w w' g n h ds := by
  obtain ⟨cs, h1, h2, h3⟩ := k.blk
  exact ⟨k.new, k.far, cs, h1.below hb h1.lt, h2, h3⟩
theorem Did.put (k : Did w wr g n h ds) {i : Nat} (hi : i < n) (z : Nat) : Did w (wr.setCell ⟨h, i, none⟩ (.int .i64 z)) g n h (sup' ds i z) := by
  obtain ⟨cs, h1, h2, h3⟩ := k.blk
  refine ⟨k.new, k.far, _, h1.put i _, by simpa using h2, fun j hj => ?_⟩
  by_cases e : j = i
  · subst e; rw [Array.getElem?_setIfInBounds_self, if_pos (by omega), sup_same]
  · rw [Array.getElem?_setIfInBounds_ne (by omega), h3 j hj, sup_other e]
end
theorem Did.made {w wr : World} {g n : Nat} (hw : w.heap.size ≤ wr.heap.size) (hg : g < wr.heap.size) : Did w (wr.alloc (.cells (madeCells #[.int .i64 0] n) 3)) g n wr.heap.size (fun _ => 0) := by
  refine ⟨hw, by omega, _, Block.made wr _ _, by simp [madeCells], fun i hi => ?_⟩
  have h1 : (#[Value.int .i64 0] : Array Value)[i % (#[Value.int .i64 0] : Array Value).size]! = .int .i64 0 := by simp [Nat.mod_one]
  rw [madeCells, Array.getElem?_map, Array.getElem?_range, if_pos hi, Option.map_some, h1]; rfl
theorem scnt_yes {P : Nat → Prop} [DecidablePred P] {k : Nat} (h : P k) : scnt P (k + 1) = scnt P k + 1 := by rw [scnt, if_pos h]
theorem scnt_no {P : Nat → Prop} [DecidablePred P] {k : Nat} (h : ¬ P k) : scnt P (k + 1) = scnt P k := by rw [scnt, if_neg h]; rfl
/-- What holds of the names when hand p has just done a line. -/
theorem names_ok {n p : Nat} {s : SG} (hok : SOk n s) (hp : p < n) (hd : 0 < s.d p) {q : Nat} (hq : q < n) :
    ¬ lkName n s q < -1 ∧ ¬ ((trn (sact n s) : Nat) : Int) ≤ lkName n s q ∧ (lkName n s q < 0 → ¬ ((4 * sact n s : Nat) : Int) ≤ (s.d q : Int)) := by
  have h1 := hok.name_lt hq
  rw [lkName_in hq]
  refine ⟨by omega, by omega, fun h h2 => ?_⟩
  have h3 := hok.named hq (sact_pos hp hd) (by omega)
  omega
theorem names_one {n : Nat} {s : SG} (hok : SOk n s) {q r : Nat} (hq : q < n) (hr : r < q) (h : ¬ lkName n s q < 0) : (lkName n s r == lkName n s q) = false := by
  rw [lkName_in hq] at h ⊢
  rw [lkName_in (show r < n by omega)]
  refine beq_eq_false_iff_ne.2 fun e => ?_
  have := hok.name_one hq (show r < n by omega) (by omega) (show spnam s.v q = spnam s.v r by omega)
  omega
theorem sd_le {n A : Nat} {s : SG} (h : ∀ q, s.d q ≤ A) (p : Int) : ∀ q, (lkStep n s p).d q ≤ A + 1 := fun q => by
  have h1 := h q
  have h2 := h p.toNat
  unfold lkStep
  split
  · show sup' s.d p.toNat (s.d p.toNat + 1) q ≤ _
    by_cases e : q = p.toNat
    · subst e; rw [sup_same]; omega
    · rw [sup_other e]; omega
  · omega

set_option maxHeartbeats 4000000 in
set_option maxRecDepth 100000 in
theorem names_law (z : Int) (sv : Value) (script : List Int) (w : World) (hn : Nums w w.heap.size sv script) :
    Calls Try.prog 3 #[.int .i64 z, sv] w fun e w' => e = .returned (.bool true) ∧ Below w.heap.size w w' := by
  obtain ⟨A, c, rfl, hlen, hn⟩ := hn
  have HN := Lib.hid hn
  clear hn
  by_cases hz : 1 ≤ z ∧ z ≤ 4
  · obtain ⟨n, rfl⟩ := Int.eq_ofNat_of_zero_le (show 0 ≤ z by omega)
    have h1 : 1 ≤ n := by omega
    have h4 : n ≤ 4 := by omega
    have hwn : IntKind.i64.wrap ((n : Int) - 1) = (n : Int) - 1 := IntWalk.i64_in _ (by omega)
    clear hz
    have hmk := make_ints n (by omega)
    go_enter Try.func3, Try.ntmps3
    go_wp2_with (first | (go_at_call 4; refine (fact_any _).mono ?_; rintro e w1 ⟨rfl, hb⟩; have HB := Lib.hid hb; clear hb) | (go_at_call 5; refine (newL HB.out h1 h4).mono ?_; rintro e w2 ⟨g, rfl, hl⟩; have HL := Lib.hid hl; clear hl))
    have hl0 := HL.out.made (.cells (madeCells #[.int .i64 0] n) 3)
    have hw0 : Did w (w2.alloc (.cells (madeCells #[.int .i64 0] n) 3)) g n w2.heap.size (fun _ => 0) := Did.made HL.out.below.size HL.out.lk.lt
    obtain ⟨h, hh⟩ : ∃ h, h = w2.heap.size := ⟨_, rfl⟩
    obtain ⟨V, hV⟩ : ∃ V, V = w2.alloc (.cells (madeCells #[.int .i64 0] n) 3) := ⟨_, rfl⟩
    rw [← hh, ← hV] at hw0
    rw [← hV] at hl0
    rw [← hh, ← hV]
    have HL0 := Lib.hid hl0
    have HW0 := Lib.hid hw0
    clear hh hV hl0 hw0 hmk HL
    go_loopw [9] (fun i wr => ∃ (k : Nat) (s : LSt), k ≤ script.length ∧ i = .int .i64 k ∧ k ≤ 200 ∧ LkAt w wr g n s k ∧ Did w wr g n h s.d ∧ ∀ q, s.d q ≤ k) (fun i _ => script.length - (intOf i).toNat)
    case atStart => exact ⟨0, lkNew n, by omega, rfl, by omega, HL0.out, HW0.out, fun _ => Nat.le_refl _⟩
    case round =>
      clear HL0 HW0
      obtain ⟨k, s, hk, rfl, hk2, hl, hd, hdk⟩ := hrel
      have HL := Lib.hid hl
      have HD := Lib.hid hd
      have HDK := Lib.hid hdk
      clear hd hdk
      by_cases hgo : k < script.length ∧ k < 200
      · have hI : (k : Int) < script.length := by omega
        have h2I : (k : Int) < 200 := by omega
        obtain ⟨hlt, hk200⟩ := hgo
        obtain ⟨b, o, rfl, hbb, hcc⟩ := HN.out (by omega)
        obtain ⟨x, hx⟩ : ∃ x, script[k]? = some x := ⟨script[k], List.getElem?_eq_getElem hlt⟩
        have hxc := (hl.below.cell (p := ⟨b, o + k, none⟩) hbb).trans (hcc k x hx)
        clear hcc hx hl
        by_cases hp : 0 ≤ x ∧ x ≤ (n : Int) - 1
        · have HIN := Lib.hid (inB_yes x 0 ((n : Int) - 1) hp.1 hp.2)
          obtain ⟨p, rfl⟩ := Int.eq_ofNat_of_zero_le hp.1
          have hpn : p < n := by omega
          have hpI : (p : Int) < n := by omega
          have h0I : (0 : Int) ≤ p := by omega
          have HSG := Lib.hid (stepG HL.out (by omega) p h0I hpI)
          rw [lkStep_in hpn] at HSG
          have HD1 := Lib.hid (show ∀ q, (sgstep s p).d q ≤ k + 1 from fun q => by have := sd_le (n := n) HDK.out (p : Int) q; rwa [lkStep_in hpn] at this)
          obtain ⟨s3, hs3⟩ : ∃ s3, s3 = sgstep s p := ⟨_, rfl⟩
          obtain ⟨d1, hd1⟩ : ∃ d1, d1 = s.d p + 1 := ⟨_, rfl⟩
          have hsd : s3.d = sup' s.d p d1 := by rw [hs3, hd1]; rfl
          rw [← hs3] at HSG HD1
          have hdp := HDK.out p
          have hwd : IntKind.i64.wrap ((s.d p : Int) + 1) = (d1 : Int) := (IntWalk.i64_in _ (by omega)).trans (by omega)
          have HSD := Lib.hid hsd
          have HPN := Lib.hid hpn
          have HDL := Lib.hid (show 0 < d1 by omega)
          clear hp hs3 hsd hdp hd1
          go_upto_region 16 with (first | (go_at_call 6; (with_reducible refine HSG.out.mono ?_); rintro e w4 ⟨rfl, hl4, ht4⟩; have HL3 := Lib.hid hl4; have HR3 := Lib.hid (HD.out.touch ht4); have hdc := (HD.out.touch ht4).cell hpn; have hdf := (HD.out.touch ht4).free p; clear hl4 ht4) | (go_at_call 7; (with_reducible refine (HIN.out _).mono ?_); rintro e w5 ⟨rfl, rfl⟩))
          clear hdc hdf
          have hdid := HR3.out.put hpn d1
          rw [← HSD.out] at hdid
          have hlk := HL3.out.other (i := p) (u := .int .i64 d1) HR3.out.new HR3.out.far
          obtain ⟨V, hV⟩ : ∃ V, V = w4.setCell ⟨h, p, none⟩ (.int .i64 d1) := ⟨_, rfl⟩
          rw [← hV] at hdid hlk ⊢
          have HV := Lib.hid (⟨hlk, hdid⟩ : LkAt w V g n s3 (k + 1) ∧ Did w V g n h s3.d)
          have h0d : 0 < s3.d p := by rw [HSD.out, sup_same]; exact HDL.out
          have HOK := Lib.hid (fun q (hq : q < n) => names_ok HV.out.1.ok hpn h0d (q := q) hq)
          have HON := Lib.hid (fun q (hq : q < n) r (hr : r < q) => names_one HV.out.1.ok (q := q) (r := r) hq hr)
          clear hdid hlk hV HL3 HR3 HSD HSG HL HD HDK hwd hxc h0d
          go_wp2
          go_loopw [11, 12] (fun m q wr => ∃ j : Nat, j ≤ n ∧ q = .int .i64 j ∧ m = .int .i64 (scnt (fun q => 0 < s3.d q) j : Nat) ∧ wr = V) (fun _ q _ => n - (intOf q).toNat)
          case atStart => exact ⟨0, by omega, rfl, rfl, rfl⟩
          case round =>
            obtain ⟨j, hj, rfl, rfl, rfl⟩ := hrel
            by_cases hjn : j < n
            · have hjI : (j : Int) < n := by omega
              have hdj := HV.out.2.cell hjn
              have hsc := scnt_le (fun q => 0 < s3.d q) j
              by_cases hpos : 0 < s3.d j
              · have hpI : (0 : Int) < (s3.d j : Int) := by omega
                have HE := Lib.hid (scnt_yes (P := fun q => 0 < s3.d q) (k := j) hpos)
                have hws : IntKind.i64.wrap (((scnt (fun q => 0 < s3.d q) j : Nat) : Int) + 1) = ((scnt (fun q => 0 < s3.d q) j : Nat) : Int) + 1 := IntWalk.i64_in _ (by omega)
                clear hpos hsc
                go_wp2
                go_roundw
                case rel => exact ⟨j + 1, by omega, by go_num, by rw [HE.out]; go_num, trivial⟩
                case measure => simp [intOf]; omega
              · have hpI : ¬ (0 : Int) < (s3.d j : Int) := by omega
                have HE := Lib.hid (scnt_no (P := fun q => 0 < s3.d q) (k := j) hpos)
                clear hpos hsc
                go_wp2
                go_roundw
                case rel => exact ⟨j + 1, by omega, by go_num, by rw [HE.out], trivial⟩
                case measure => simp [intOf]; omega
            · obtain rfl : j = n := by omega
              have hjI : ¬ (j : Int) < j := by omega
              have hKn := scnt_le (fun q => 0 < s3.d q) j
              obtain ⟨K, hK⟩ : ∃ K, K = scnt (fun q => 0 < s3.d q) j := ⟨_, rfl⟩
              have hKs : sact j s3 = K := hK.symm
              rw [← hK] at hKn ⊢
              rw [hKs] at HOK
              obtain ⟨K1, hK1⟩ : ∃ K1, K1 = K + 1 := ⟨_, rfl⟩
              obtain ⟨M, hM⟩ : ∃ M, M = K * K1 := ⟨_, rfl⟩
              obtain ⟨T, hT⟩ : ∃ T, T = trn K := ⟨_, rfl⟩
              obtain ⟨K4, hK4⟩ : ∃ K4, K4 = 4 * K := ⟨_, rfl⟩
              have hM20 : M ≤ 4 * 5 := by rw [hM]; exact Nat.mul_le_mul (by omega) (by omega)
              have hTM : T = M / 2 := by rw [hT, trn, hM, hK1]
              have hwk1 : IntKind.i64.wrap ((K : Int) + 1) = (K1 : Int) := (IntWalk.i64_in _ (by omega)).trans (by omega)
              have hwk2 : IntKind.i64.wrap ((K : Int) * (K1 : Int)) = (M : Int) := by
                rw [← Int.natCast_mul, ← hM]; exact IntWalk.i64_in _ (by omega)
              have hdv : (M : Int).tdiv 2 = (T : Int) := by rw [hTM]; rfl
              have hwk3 : IntKind.i64.wrap (T : Int) = (T : Int) := IntWalk.i64_in _ (by omega)
              have hwk4 : IntKind.i64.wrap (4 * (K : Int)) = (K4 : Int) := (IntWalk.i64_in _ (by omega)).trans (by omega)
              rw [← hT, ← hK4] at HOK
              clear hKn hK hKs hK1 hM hT hK4 hM20 hTM
              go_wp2
              go_loopw [13] (fun q wr => ∃ i : Nat, i ≤ j ∧ q = .int .i64 i ∧ LkAt w wr g j s3 (k + 1) ∧ Did w wr g j h s3.d) (fun q _ => j - (intOf q).toNat)
              case atStart => exact ⟨0, by omega, rfl, HV.out⟩
              case round =>
                clear HV
                obtain ⟨i, hi, rfl, hli⟩ := hrel
                have HV := Lib.hid hli
                clear hli
                by_cases hij : i < j
                · have hiI : (i : Int) < j := by omega
                  obtain ⟨a, ha⟩ : ∃ a : Int, a = lkName j s3 i := ⟨_, rfl⟩
                  obtain ⟨hn1, hn2, hn3⟩ := HOK.out i hij
                  have HO1 := Lib.hid (HON.out i hij)
                  rw [← ha] at hn1 hn2 hn3 HO1
                  have HA := Lib.hid ha
                  clear ha
                  have hmid : (¬ a < 0 ∧ ¬ 0 ≤ a ∨ 0 ≤ a ∧ ¬ a < 0 ∨ a < 0 ∧ ¬ 0 ≤ a) := by omega
                  rcases hmid with ⟨_, _⟩ | ⟨hge, hlt0⟩ | ⟨hlt0, hge⟩
                  · omega
                  · clear hn3
                    go_wp2_with (go_at_call 8; (with_reducible refine (nameL HV.out.1 i).mono ?_); rw [← HA.out]; rintro e w6 ⟨rfl, h6, hb6⟩; have H6 := Lib.hid (⟨h6, HV.out.2.below hb6⟩ : _ ∧ _); clear h6 hb6)
                    go_loopw [15] (fun r wr => ∃ t : Nat, t ≤ i ∧ r = .int .i64 t ∧ LkAt w wr g j s3 (k + 1) ∧ Did w wr g j h s3.d) (fun r _ => i - (intOf r).toNat)
                    case atStart => exact ⟨0, by omega, rfl, H6.out⟩
                    case round =>
                      clear H6 HV
                      obtain ⟨t, ht, rfl, hli⟩ := hrel
                      have HV := Lib.hid hli
                      clear hli
                      by_cases hti : t < i
                      · have htI : (t : Int) < i := by omega
                        have hne := HO1.out t hti hlt0
                        go_wp2_with (go_at_call 8; (with_reducible refine (nameL HV.out.1 t).mono ?_); rintro e w6 ⟨rfl, h6, hb6⟩; have H6 := Lib.hid (⟨h6, HV.out.2.below hb6⟩ : _ ∧ _); clear h6 hb6)
                        go_roundw
                        case rel => exact ⟨t + 1, by omega, by go_num, H6.out⟩
                        case measure => simp [intOf]; omega
                      · obtain rfl : t = i := by omega
                        have htI : ¬ (t : Int) < t := by omega
                        go_wp2
                        go_roundw
                        case rel => exact ⟨t + 1, by omega, by go_num, HV.out⟩
                        case measure => simp [intOf]; omega
                  · have hn4 := hn3 hlt0
                    clear hn3
                    have hdi := HV.out.2.cell hij
                    go_wp2_with (go_at_call 8; (with_reducible refine (nameL HV.out.1 i).mono ?_); rw [← HA.out]; rintro e w6 ⟨rfl, h6, hb6⟩; have H6 := Lib.hid (⟨h6, HV.out.2.below hb6⟩ : _ ∧ _); have hdi := H6.out.2.cell hij; clear h6 hb6)
                    go_loopw [15] (fun r wr => ∃ t : Nat, t ≤ i ∧ r = .int .i64 t ∧ LkAt w wr g j s3 (k + 1) ∧ Did w wr g j h s3.d) (fun r _ => i - (intOf r).toNat)
                    case atStart => exact ⟨0, by omega, rfl, H6.out⟩
                    case round =>
                      clear H6 HV
                      obtain ⟨t, ht, rfl, hli⟩ := hrel
                      have HV := Lib.hid hli
                      clear hli hdi
                      by_cases hti : t < i
                      · have htI : (t : Int) < i := by omega
                        go_wp2
                        go_roundw
                        case rel => exact ⟨t + 1, by omega, by go_num, HV.out⟩
                        case measure => simp [intOf]; omega
                      · obtain rfl : t = i := by omega
                        have htI : ¬ (t : Int) < t := by omega
                        go_wp2
                        go_roundw
                        case rel => exact ⟨t + 1, by omega, by go_num, HV.out⟩
                        case measure => simp [intOf]; omega
                · obtain rfl : i = j := by omega
                  have hiI : ¬ (i : Int) < i := by omega
                  go_wp2
                  go_roundw
                  case rel => exact ⟨k + 1, s3, by omega, by go_num, by omega, HV.out.1, HV.out.2, HD1.out⟩
                  case measure => simp [intOf]; omega
        · have HSB := Lib.hid (stepT HL.out (by omega) x)
          rw [lkStep_out (show ¬ (0 ≤ x ∧ x < (n : Int)) by omega), show perr n x = 1 from if_neg (by omega), errV_one] at HSB
          clear hp
          go_wp2_with (go_at_call 6; (with_reducible refine HSB.out.mono ?_); rintro e w4 ⟨rfl, hl4, ht4⟩; have HL3 := Lib.hid hl4; have HR3 := Lib.hid (HD.out.touch ht4); clear hl4 ht4)
          go_roundw
          case rel => exact ⟨k + 1, s, by omega, by go_num, by omega, HL3.out, HR3.out, fun q => by have := HDK.out q; omega⟩
          case measure => simp [intOf]; omega
      · have hh : (k : Int) < script.length ∧ ¬ (k : Int) < 200 ∨ ¬ (k : Int) < script.length := by omega
        clear hgo hl
        rcases hh with ⟨hI, hJ⟩ | hI
        all_goals
          go_wp2
          go_ret
          exact ⟨rfl, HL.out.below⟩
  · have HZ := Lib.hid hz
    by_cases hz1 : z < 1
    all_goals
      clear hz
      go_enter Try.func3, Try.ntmps3
      go_wp2_with (first | (go_at_call 4; refine (fact_any _).mono ?_; rintro e w1 ⟨rfl, hb⟩; have HB := Lib.hid hb; clear hb) | (go_at_call 5; refine (newBad HB.out z HZ.out).mono ?_; rw [errV_one]; rintro e w2 ⟨rfl, hb⟩; have HB2 := Lib.hid hb; clear hb))
      go_ret
      first | exact ⟨rfl, HB2.out⟩ | exact ⟨congrArg (fun b => Ending.returned (.bool b)) (bad_true HZ.out), HB2.out⟩
end Go.Proofs.Ythainkgpafbjcaa.Split
