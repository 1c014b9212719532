/-
  What (prog.State).Ended, sc.touches, sc.clash and sc.racing answer.
-/
import Derived.Test.YthpnnmkpbkbanaaDoorState
import Derived.Test.YthpnnmkpbkbanaaDoorScM
namespace Go.Proofs.YthpnnmkpbkbanaaDoor
open Go.RowKit

theorem any_range_false {f : Nat → Bool} {n : Nat} (h : ∀ i, i < n → f i = false) : (List.range n).any f = false := by
  rw [← Bool.not_eq_true, List.any_eq_true]
  rintro ⟨i, hi, hf⟩
  rw [h i (List.mem_range.1 hi)] at hf
  cases hf
theorem any_range_succ {f : Nat → Bool} {n : Nat} (h : (List.range n).any f = false) (hn : f n = false) : (List.range (n + 1)).any f = false := by
  rw [List.range_succ, List.any_append, h]
  simp [hn]
theorem any_range_true {f : Nat → Bool} {n i : Nat} (hi : i < n) (h : f i = true) : (List.range n).any f = true := List.any_eq_true.2 ⟨i, List.mem_range.2 hi, h⟩
theorem all_range_succ {f : Nat → Bool} {n : Nat} (h : (List.range n).all f = true) (hn : f n = true) : (List.range (n + 1)).all f = true := by
  rw [List.range_succ, List.all_append, h]
  simp [hn]
theorem all_range_false {f : Nat → Bool} {n i : Nat} (hi : i < n) (h : f i = false) : (List.range n).all f = false := by
  rw [← Bool.not_eq_true, List.all_eq_true]
  intro h2
  rw [h2 i (List.mem_range.2 hi)] at h
  cases h
theorem nextLn_eq {hs : List (List Ln)} {z : List Int} {p : Nat} {ls : List Ln} {n : Nat} (hl : hs[p]? = some ls) (hp : z[p * 4 + 2]? = some (n : Int)) : nextLn hs z p = ls[n]? := by
  unfold nextLn
  rw [show z.getD (p * 4 + 2) 0 = (n : Int) by rw [List.getD_eq_getElem?_getD, hp]; rfl, if_neg (by omega), Int.toNat_natCast, List.getD_eq_getElem?_getD, hl]
  rfl

set_option maxRecDepth 100000 in
set_option maxHeartbeats 2000000 in
theorem ended_any (zs : List Int) (words : Int) (hv : Value) (hs : List (List Ln)) (w : World) (hh : Hands w w.heap.size hv hs) (h3 : hs.length ≤ 3) (hf : Fit hs zs) :
    Calls Tryd.prog 25 #[.agg (row zs), .agg #[.int .i64 words, hv]] w fun e w' => e = .returned (.bool (endB hs zs)) ∧ Below w.heap.size w w' := by
  have HH := Lib.hid hh
  obtain ⟨A, c, rfl, hlen, hh⟩ := hh
  have HF := Lib.hid hf
  clear hh hf
  have k1 : Block ((w.alloc (.cells (row zs) 63)).alloc (.cells #[.int .i64 words, .slice A hs.length c] 24)) w.heap.size 63 (row zs) := (Block.made _ _ _).alloc _
  have k2 : Block ((w.alloc (.cells (row zs) 63)).alloc (.cells #[.int .i64 words, .slice A hs.length c] 24)) (w.heap.size + 1) 24 #[.int .i64 words, .slice A hs.length c] := (by simpa using (Block.made (w.alloc _) _ _))
  have K1 := Lib.hid k1
  have K2 := Lib.hid k2
  clear k1 k2
  have HSZ := Lib.hid ((row_size zs).trans HF.out.1)
  go_enter Tryd.func25, Tryd.ntmps25
  go_wp2_with fail
  go_loopw [11] (fun i wr => ∃ k : Nat, k ≤ hs.length ∧ i = .int .i64 k ∧ ((List.range k).all fun p => decide (((hs.getD p []).length : Int) ≤ zs.getD (p * 4 + 2) 0)) = true ∧ Block wr w.heap.size 63 (row zs) ∧ Block wr (w.heap.size + 1) 24 #[.int .i64 words, .slice A hs.length c] ∧ Below w.heap.size w wr) (fun i _ => hs.length - (intOf i).toNat)
  case atStart => exact ⟨0, Nat.zero_le _, rfl, rfl, K1.out, K2.out, ((Below.refl _ _).alloc (Nat.le_refl _) _).alloc (by simp) _⟩
  case round =>
    obtain ⟨k, hk, rfl, ha, b1, b2, hb⟩ := hrel
    have HA := Lib.hid ha
    have c20 := b2.cell 0
    have c21 := b2.cell 1
    simp at c20 c21
    have hsz := b2.lt
    have B1 := Lib.hid b1
    have B2 := Lib.hid b2
    clear ha b1 b2 K1 K2
    by_cases hlt : k < hs.length
    · have hl : hs[k]? = some hs[k] := List.getElem?_eq_getElem hlt
      generalize hs[k] = ls at hl
      obtain ⟨n, hn⟩ := HF.out.2 k hlt
      have HL := Lib.hid hl
      have HN := Lib.hid hn
      have HHr := Lib.hid ((HH.out.below hb (Nat.le_refl _)).more hb.size)
      have HT := Lib.hid (show decide (((hs.getD k []).length : Int) ≤ zs.getD (k * 4 + 2) 0) = decide (ls.length ≤ n) by
        rw [show zs.getD (k * 4 + 2) 0 = (n : Int) by rw [List.getD_eq_getElem?_getD, hn]; rfl, show hs.getD k [] = ls by rw [List.getD_eq_getElem?_getD, hl]; rfl]
        simp)
      clear hl hn
      rcases Nat.lt_or_ge n ls.length with hn2 | hn2
      · have HLN := Lib.hid (show ls[n]? = some ls[n] from List.getElem?_eq_getElem hn2)
        have HE := Lib.hid (show endB hs zs = false from all_range_false hlt (by rw [HT.out]; exact decide_eq_false (by omega)))
        go_wp2_with (first | (refine wpList_load_row rfl 63 (.tmp 2) rfl w.heap.size rfl _ (row zs) _ _ B1.out Tryd.underlying63 rfl (by rw [HSZ.out]; exact Tst.info) ?_) | (go_at_call 48; refine (next_some zs words _ hs k ls n _ _ HHr.out HL.out h3 HN.out HLN.out).mono ?_; rintro e w1 ⟨rfl, hb1⟩; have hs1 := hb1.size))
        go_ret
        exact ⟨by rw [HE.out]; rfl, (hb.trans (hb1.mono (by omega))).alloc (by omega) _⟩
      · have HE := Lib.hid (show ((List.range (k + 1)).all fun p => decide (((hs.getD p []).length : Int) ≤ zs.getD (p * 4 + 2) 0)) = true from all_range_succ HA.out (by rw [HT.out]; exact decide_eq_true hn2))
        go_wp2_with (first | (refine wpList_load_row rfl 63 (.tmp 2) rfl w.heap.size rfl _ (row zs) _ _ B1.out Tryd.underlying63 rfl (by rw [HSZ.out]; exact Tst.info) ?_) | (go_at_call 48; refine (next_none zs words _ hs k ls n _ HHr.out HL.out h3 HN.out hn2).mono ?_; rintro e w1 ⟨rfl, hb1⟩; have hs1 := hb1.size))
        go_roundw
        case rel => exact ⟨k + 1, by omega, by go_num, HE.out, (B1.out.below hb1 (by omega)).alloc _, (B2.out.below hb1 (by omega)).alloc _, (hb.trans (hb1.mono (by omega))).alloc (by omega) _⟩
        case measure => simp [intOf]; omega
    · have HE := Lib.hid (show endB hs zs = true by
        have h := HA.out
        rw [show k = hs.length by omega] at h
        exact h)
      go_wp2_with fail
      go_ret
      exact ⟨by rw [HE.out]; rfl, hb⟩

theorem touches_any (k r d v : Int) (w : World) : Calls Tryd.prog 74 #[.agg #[.int .i64 k, .int .i64 r, .int .i64 d, .int .i64 v]] w fun e w' => e = .returned (.bool (touchB ⟨k, r, d, v⟩)) ∧ Below w.heap.size w w' := by
  go_enter Tryd.func74, Tryd.ntmps74
  go_wp2
  all_goals go_ret
  all_goals refine ⟨?_, (Below.refl _ _).alloc (Nat.le_refl _) _⟩
  all_goals (by_cases k3 : k = 3 <;> simp_all [touchB])

set_option maxHeartbeats 1000000 in
theorem clash_any (k r d v k2 r2 d2 v2 : Int) (w : World) : Calls Tryd.prog 53 #[.agg #[.int .i64 k, .int .i64 r, .int .i64 d, .int .i64 v], .agg #[.int .i64 k2, .int .i64 r2, .int .i64 d2, .int .i64 v2]] w fun e w' => e = .returned (.bool (clashB ⟨k, r, d, v⟩ ⟨k2, r2, d2, v2⟩)) ∧ Below w.heap.size w w' := by
  obtain ⟨ta, hta⟩ : ∃ ta, ta = touchB ⟨k, r, d, v⟩ := ⟨_, rfl⟩
  obtain ⟨tb, htb⟩ : ∃ tb, tb = touchB ⟨k2, r2, d2, v2⟩ := ⟨_, rfl⟩
  have hcl : clashB ⟨k, r, d, v⟩ ⟨k2, r2, d2, v2⟩ = (ta && tb && decide (d = d2) && (decide (k ≠ k2) || decide (k = 2))) := by rw [hta, htb]; rfl
  have CA : ∀ W, Calls Tryd.prog 74 #[.agg #[.int .i64 k, .int .i64 r, .int .i64 d, .int .i64 v]] W fun e w' => e = .returned (.bool ta) ∧ Below W.heap.size W w' := fun W => by rw [hta]; exact touches_any _ _ _ _ W
  have CB : ∀ W, Calls Tryd.prog 74 #[.agg #[.int .i64 k2, .int .i64 r2, .int .i64 d2, .int .i64 v2]] W fun e w' => e = .returned (.bool tb) ∧ Below W.heap.size W w' := fun W => by rw [htb]; exact touches_any _ _ _ _ W
  rw [hcl]
  have HCA := Lib.hid CA
  have HCB := Lib.hid CB
  clear CA CB hta htb hcl
  have k1 : Block ((w.alloc (.cells #[.int .i64 k, .int .i64 r, .int .i64 d, .int .i64 v] 40)).alloc (.cells #[.int .i64 k2, .int .i64 r2, .int .i64 d2, .int .i64 v2] 40)) w.heap.size 40 #[.int .i64 k, .int .i64 r, .int .i64 d, .int .i64 v] := (Block.made _ _ _).alloc _
  have k2' : Block ((w.alloc (.cells #[.int .i64 k, .int .i64 r, .int .i64 d, .int .i64 v] 40)).alloc (.cells #[.int .i64 k2, .int .i64 r2, .int .i64 d2, .int .i64 v2] 40)) (w.heap.size + 1) 40 #[.int .i64 k2, .int .i64 r2, .int .i64 d2, .int .i64 v2] := (by simpa using (Block.made (w.alloc _) _ _))
  have K1 := Lib.hid k1
  have K2 := Lib.hid k2'
  clear k1 k2'
  have HB0 := Lib.hid (((Below.refl w.heap.size w).alloc (Nat.le_refl _) (.cells #[.int .i64 k, .int .i64 r, .int .i64 d, .int .i64 v] 40)).alloc (by simp) (.cells #[.int .i64 k2, .int .i64 r2, .int .i64 d2, .int .i64 v2] 40))
  go_enter Tryd.func53, Tryd.ntmps53
  go_wp2_with fail
  refine (HCA.out _).mono ?_
  rintro e w1 ⟨rfl, hb1⟩
  have M1 := K1.out.below hb1 (by simp; omega)
  have M2 := K2.out.below hb1 (by simp)
  have HB1 := Lib.hid (HB0.out.trans (hb1.mono (by simp; omega)))
  have hs1 := hb1.size
  simp at hs1
  clear hb1
  cases ta with
  | false =>
    go_wp2_with fail
    go_ret
    exact ⟨by simp, HB1.out⟩
  | true =>
    have a0 := M1.cell 0
    have a2 := M1.cell 2
    have b0 := M2.cell 0
    have b1 := M2.cell 1
    have b2 := M2.cell 2
    have b3 := M2.cell 3
    simp at a0 a2 b0 b1 b2 b3
    have HM1 := Lib.hid M1
    have HM2 := Lib.hid M2
    clear M1 M2
    go_wp2_with fail
    refine (HCB.out _).mono ?_
    rintro e w2 ⟨rfl, hb2⟩
    have N1 := HM1.out.below hb2 (by omega)
    have N2 := HM2.out.below hb2 (by omega)
    have HB2 := Lib.hid (HB1.out.trans (hb2.mono (by omega)))
    clear hb2 a0 a2 b0 b1 b2 b3
    cases tb with
    | false =>
      go_wp2_with fail
      go_ret
      exact ⟨by simp, HB2.out⟩
    | true =>
      have a0 := N1.cell 0
      have a2 := N1.cell 2
      have b0 := N2.cell 0
      have b2 := N2.cell 2
      simp at a0 a2 b0 b2
      clear N1 N2
      by_cases hd : d = d2
      · subst hd
        by_cases hk : k = k2
        · subst hk
          go_wp2_with fail
          go_ret
          exact ⟨by by_cases h2 : k = 2 <;> simp [h2], HB2.out⟩
        · have hkB : (k != k2) = true := by simp [hk]
          have hkB2 : (k == k2) = false := by simp [hk]
          go_wp2_with fail
          go_ret
          exact ⟨by simp, HB2.out⟩
      · have hdB : (d != d2) = true := by simp [hd]
        have hdB2 : (d == d2) = false := by simp [hd]
        go_wp2_with fail
        go_ret
        exact ⟨by simp [hd], HB2.out⟩

theorem race2_none {hs : List (List Ln)} {z : List Int} {a b : Nat} (h : nextLn hs z a = none ∨ nextLn hs z b = none) : race2 hs z a b = false := by
  unfold race2
  rcases h with h | h
  · rw [h]
  · rw [h]; split <;> simp_all
theorem race2_some {hs : List (List Ln)} {z : List Int} {a b : Nat} {x y : Ln} (h1 : nextLn hs z a = some x) (h2 : nextLn hs z b = some y) : race2 hs z a b = clashB x y := by
  unfold race2
  rw [h1, h2]

set_option maxRecDepth 100000 in
set_option maxHeartbeats 4000000 in
theorem racing_any (zs : List Int) (words : Int) (hv : Value) (hs : List (List Ln)) (w : World) (hh : Hands w w.heap.size hv hs) (h3 : hs.length ≤ 3) (hf : Fit hs zs) :
    Calls Tryd.prog 31 #[.agg #[.int .i64 words, hv], .agg (row zs)] w fun e w' => e = .returned (.bool (raceB hs zs)) ∧ Below w.heap.size w w' := by
  have HH := Lib.hid hh
  obtain ⟨A, c, rfl, hlen, hh⟩ := hh
  have HF := Lib.hid hf
  clear hh hf
  have k1 : Block ((w.alloc (.cells #[.int .i64 words, .slice A hs.length c] 24)).alloc (.cells (row zs) 63)) w.heap.size 24 #[.int .i64 words, .slice A hs.length c] := (Block.made _ _ _).alloc _
  have k2 : Block ((w.alloc (.cells #[.int .i64 words, .slice A hs.length c] 24)).alloc (.cells (row zs) 63)) (w.heap.size + 1) 63 (row zs) := (by simpa using (Block.made (w.alloc _) _ _))
  have K1 := Lib.hid k1
  have K2 := Lib.hid k2
  clear k1 k2
  have HSZ := Lib.hid ((row_size zs).trans HF.out.1)
  go_enter Tryd.func31, Tryd.ntmps31
  go_wp2_with fail
  go_loopw [14] (fun i wr => ∃ k : Nat, k ≤ hs.length ∧ i = .int .i64 k ∧ ((List.range k).any fun a => (List.range a).any fun b => race2 hs zs a b) = false ∧ Block wr w.heap.size 24 #[.int .i64 words, .slice A hs.length c] ∧ Block wr (w.heap.size + 1) 63 (row zs) ∧ Below w.heap.size w wr) (fun i _ => hs.length - (intOf i).toNat)
  case atStart => exact ⟨0, Nat.zero_le _, rfl, rfl, K1.out, K2.out, ((Below.refl _ _).alloc (Nat.le_refl _) _).alloc (by simp) _⟩
  case round =>
    obtain ⟨k, hk, rfl, ha, b1, b2, hb⟩ := hrel
    have HA := Lib.hid ha
    have c20 := b1.cell 0
    have c21 := b1.cell 1
    simp at c20 c21
    have hsz := b2.lt
    have B1 := Lib.hid b1
    have B2 := Lib.hid b2
    clear ha b1 b2 K1 K2
    by_cases hlt : k < hs.length
    · have hl : hs[k]? = some hs[k] := List.getElem?_eq_getElem hlt
      generalize hs[k] = ls at hl
      obtain ⟨n, hn⟩ := HF.out.2 k hlt
      have HL := Lib.hid hl
      have HN := Lib.hid hn
      have HHr := Lib.hid ((HH.out.below hb (Nat.le_refl _)).more hb.size)
      have HNX := Lib.hid (nextLn_eq hl hn)
      clear hl hn
      rcases Nat.lt_or_ge n ls.length with hn2 | hn2
      · obtain ⟨l, hl⟩ : ∃ l, ls[n]? = some l := ⟨ls[n], List.getElem?_eq_getElem hn2⟩
        obtain ⟨lk, lr, ld, lv⟩ := l
        have HLN := Lib.hid hl
        have HNK := Lib.hid (HNX.out.trans hl)
        clear hl
        go_wp2_with (first | (refine wpList_load_row rfl 63 (.tmp 3) rfl (w.heap.size + 1) rfl _ (row zs) _ _ B2.out Tryd.underlying63 rfl (by rw [HSZ.out]; exact Tst.info) ?_) | (go_at_call 48; refine (next_some zs words _ hs k ls n ⟨lk, lr, ld, lv⟩ _ HHr.out HL.out h3 HN.out HLN.out).mono ?_; rintro e w1 ⟨rfl, hb1⟩; have hs1 := hb1.size; have hbB := hb.trans (hb1.mono (Nat.le_of_lt (Nat.lt_of_succ_lt hsz))); have C1 := Lib.hid ((B1.out.below hb1 (by omega)).alloc (.cells #[.int .i64 lk, .int .i64 lr, .int .i64 ld, .int .i64 lv] 40)); have C2 := Lib.hid ((B2.out.below hb1 (by omega)).alloc (.cells #[.int .i64 lk, .int .i64 lr, .int .i64 ld, .int .i64 lv] 40)); have C3 := Lib.hid (Block.made w1 40 #[.int .i64 lk, .int .i64 lr, .int .i64 ld, .int .i64 lv]); clear hb1))
        have hbA := hbB.alloc (by omega) (.cells #[.int .i64 lk, .int .i64 lr, .int .i64 ld, .int .i64 lv] 40)
        have hsA : w.heap.size + 1 < w1.heap.size := by omega
        obtain ⟨W, hW⟩ : ∃ W, W = w1.alloc (.cells #[.int .i64 lk, .int .i64 lr, .int .i64 ld, .int .i64 lv] 40) := ⟨_, rfl⟩
        rw [← hW] at C1 C2 C3 hbA ⊢
        clear hW hbB hb c20 c21 hsz hs1 B1 B2 HHr
        go_loopw [27] (fun i wr => ∃ j : Nat, j ≤ k ∧ i = .int .i64 j ∧ ((List.range j).any fun b => race2 hs zs k b) = false ∧ Block wr w.heap.size 24 #[.int .i64 words, .slice A hs.length c] ∧ Block wr (w.heap.size + 1) 63 (row zs) ∧ Block wr w1.heap.size 40 #[.int .i64 lk, .int .i64 lr, .int .i64 ld, .int .i64 lv] ∧ Below w.heap.size w wr) (fun i _ => k - (intOf i).toNat)
        case atStart => exact ⟨0, Nat.zero_le _, rfl, rfl, C1.out, C2.out, C3.out, hbA⟩
        case round =>
          clear hbA C1 C2 C3
          obtain ⟨j, hj, rfl, ha2, b1, b2, b3, hb⟩ := hrel
          have HA2 := Lib.hid ha2
          have c20 := b1.cell 0
          have c21 := b1.cell 1
          have c30 := b3.cell 0
          have c31 := b3.cell 1
          have c32 := b3.cell 2
          have c33 := b3.cell 3
          simp at c20 c21 c30 c31 c32 c33
          have hsz := b3.lt
          have B1 := Lib.hid b1
          have B2 := Lib.hid b2
          have B3 := Lib.hid b3
          clear ha2 b1 b2 b3
          by_cases hjk : j < k
          · have hl : hs[j]? = some hs[j] := List.getElem?_eq_getElem (by omega)
            generalize hs[j]'(by omega) = ls2 at hl
            obtain ⟨n2, hn2⟩ := HF.out.2 j (by omega)
            have HL2 := Lib.hid hl
            have HN2 := Lib.hid hn2
            have HHr := Lib.hid ((HH.out.below hb (Nat.le_refl _)).more hb.size)
            have HNX2 := Lib.hid (nextLn_eq hl hn2)
            clear hl hn2
            rcases Nat.lt_or_ge n2 ls2.length with hn2 | hn2
            · obtain ⟨l, hl⟩ : ∃ l, ls2[n2]? = some l := ⟨ls2[n2], List.getElem?_eq_getElem hn2⟩
              obtain ⟨mk, mr, md, mv⟩ := l
              have HLN2 := Lib.hid hl
              have HR := Lib.hid (race2_some HNK.out (HNX2.out.trans hl))
              obtain ⟨cl, hcl⟩ : ∃ cl, cl = clashB ⟨lk, lr, ld, lv⟩ ⟨mk, mr, md, mv⟩ := ⟨_, rfl⟩
              have HCL := Lib.hid hcl
              have CC : ∀ V, Calls Tryd.prog 53 #[.agg #[.int .i64 lk, .int .i64 lr, .int .i64 ld, .int .i64 lv], .agg #[.int .i64 mk, .int .i64 mr, .int .i64 md, .int .i64 mv]] V fun e w' => e = .returned (.bool cl) ∧ Below V.heap.size V w' := fun V => by rw [hcl]; exact clash_any _ _ _ _ _ _ _ _ V
              have HCC := Lib.hid CC
              clear hl hcl CC
              cases cl with
              | true =>
                have HE := Lib.hid (show raceB hs zs = true from any_range_true hlt (any_range_true hjk (by rw [HR.out, ← HCL.out])))
                go_wp2_with (first | (refine wpList_load_row rfl 63 (.tmp 3) rfl (w.heap.size + 1) rfl _ (row zs) _ _ B2.out Tryd.underlying63 rfl (by rw [HSZ.out]; exact Tst.info) ?_) | (go_at_call 48; refine (next_some zs words _ hs j ls2 n2 ⟨mk, mr, md, mv⟩ _ HHr.out HL2.out h3 HN2.out HLN2.out).mono ?_; rintro e w2 ⟨rfl, hb2⟩; have hs2 := hb2.size; have d30 := (hb2.cell (p := ⟨w1.heap.size, 0, none⟩) hsz).trans c30; have d31 := (hb2.cell (p := ⟨w1.heap.size, 1, none⟩) hsz).trans c31; have d32 := (hb2.cell (p := ⟨w1.heap.size, 2, none⟩) hsz).trans c32; have d33 := (hb2.cell (p := ⟨w1.heap.size, 3, none⟩) hsz).trans c33; have hz2 : w1.heap.size < w2.heap.size := Nat.lt_of_lt_of_le hsz hs2) | (go_at_call 53; refine (HCC.out _).mono ?_; rintro e w3 ⟨rfl, hb3⟩))
                go_ret
                exact ⟨by rw [HE.out]; rfl, ((hb.trans (hb2.mono (by omega))).alloc (by omega) _).trans (hb3.mono (by simp; omega))⟩
              | false =>
                have HE := Lib.hid (show ((List.range (j + 1)).any fun b => race2 hs zs k b) = false from any_range_succ HA2.out (by rw [HR.out, ← HCL.out]))
                go_wp2_with (first | (refine wpList_load_row rfl 63 (.tmp 3) rfl (w.heap.size + 1) rfl _ (row zs) _ _ B2.out Tryd.underlying63 rfl (by rw [HSZ.out]; exact Tst.info) ?_) | (go_at_call 48; refine (next_some zs words _ hs j ls2 n2 ⟨mk, mr, md, mv⟩ _ HHr.out HL2.out h3 HN2.out HLN2.out).mono ?_; rintro e w2 ⟨rfl, hb2⟩; have hs2 := hb2.size; have d30 := (hb2.cell (p := ⟨w1.heap.size, 0, none⟩) hsz).trans c30; have d31 := (hb2.cell (p := ⟨w1.heap.size, 1, none⟩) hsz).trans c31; have d32 := (hb2.cell (p := ⟨w1.heap.size, 2, none⟩) hsz).trans c32; have d33 := (hb2.cell (p := ⟨w1.heap.size, 3, none⟩) hsz).trans c33; have hz2 : w1.heap.size < w2.heap.size := Nat.lt_of_lt_of_le hsz hs2) | (go_at_call 53; refine (HCC.out _).mono ?_; rintro e w3 ⟨rfl, hb3⟩))
                go_roundw
                case rel =>
                  have e1 := hb3.size
                  simp at e1
                  exact ⟨j + 1, by omega, by go_num, HE.out, ((B1.out.below hb2 (by omega)).alloc _).below hb3 (by simp; omega), ((B2.out.below hb2 (by omega)).alloc _).below hb3 (by simp; omega), ((B3.out.below hb2 (by omega)).alloc _).below hb3 (by simp; omega), ((hb.trans (hb2.mono (by omega))).alloc (by omega) _).trans (hb3.mono (by simp; omega))⟩
                case measure => simp [intOf]; omega
            · have HE := Lib.hid (show ((List.range (j + 1)).any fun b => race2 hs zs k b) = false from any_range_succ HA2.out (race2_none (Or.inr (by rw [HNX2.out, List.getElem?_eq_none hn2]))))
              go_wp2_with (first | (refine wpList_load_row rfl 63 (.tmp 3) rfl (w.heap.size + 1) rfl _ (row zs) _ _ B2.out Tryd.underlying63 rfl (by rw [HSZ.out]; exact Tst.info) ?_) | (go_at_call 48; refine (next_none zs words _ hs j ls2 n2 _ HHr.out HL2.out h3 HN2.out hn2).mono ?_; rintro e w2 ⟨rfl, hb2⟩; have hs2 := hb2.size))
              go_roundw
              case rel => exact ⟨j + 1, by omega, by go_num, HE.out, (B1.out.below hb2 (by omega)).alloc _, (B2.out.below hb2 (by omega)).alloc _, (B3.out.below hb2 (by omega)).alloc _, (hb.trans (hb2.mono (by omega))).alloc (by omega) _⟩
              case measure => simp [intOf]; omega
          · have HE := Lib.hid (show ((List.range (k + 1)).any fun a => (List.range a).any fun b => race2 hs zs a b) = false from any_range_succ HA.out (by have h := HA2.out; rw [show j = k by omega] at h; exact h))
            go_wp2_with fail
            go_roundw
            case rel => exact ⟨k + 1, by omega, by go_num, HE.out, B1.out, B2.out, hb⟩
            case measure => simp [intOf]; omega
      · have HE := Lib.hid (show ((List.range (k + 1)).any fun a => (List.range a).any fun b => race2 hs zs a b) = false from any_range_succ HA.out (any_range_false fun b _ => race2_none (Or.inl (by rw [HNX.out, List.getElem?_eq_none hn2]))))
        go_wp2_with (first | (refine wpList_load_row rfl 63 (.tmp 3) rfl (w.heap.size + 1) rfl _ (row zs) _ _ B2.out Tryd.underlying63 rfl (by rw [HSZ.out]; exact Tst.info) ?_) | (go_at_call 48; refine (next_none zs words _ hs k ls n _ HHr.out HL.out h3 HN.out hn2).mono ?_; rintro e w1 ⟨rfl, hb1⟩; have hs1 := hb1.size))
        go_roundw
        case rel => exact ⟨k + 1, by omega, by go_num, HE.out, (B1.out.below hb1 (by omega)).alloc _, (B2.out.below hb1 (by omega)).alloc _, (hb.trans (hb1.mono (by omega))).alloc (by omega) _⟩
        case measure => simp [intOf]; omega
    · have HE := Lib.hid (show raceB hs zs = false by
        have h := HA.out
        rw [show k = hs.length by omega] at h
        exact h)
      go_wp2_with fail
      go_ret
      exact ⟨by rw [HE.out]; rfl, hb⟩
end Go.Proofs.YthpnnmkpbkbanaaDoor
