/-
  Texts merged: RefQ2, RefStep2, RefCome.
-/
import Derived.Test.YthpnnmkpbkbanaaDoorRefM
import Derived.Test.YthpnnmkpbkbanaaDoorRefC
/-
  What a store that waits, a load that looks at what waits, and what comes make of a row of the document's answer: plain mathematics.
-/
namespace Go.Proofs.YthpnnmkpbkbanaaDoor

theorem preQ_upd (s : TS) (p : Nat) (o' : Own) (w' : Nat → Int) : preQ ⟨upd s.o p o', w'⟩ p = preQ s p := by
  unfold preQ
  by_cases h0 : p = 0
  · rw [if_pos h0, if_pos h0]
  · rw [if_neg h0, if_neg h0]
    by_cases h1 : p = 1
    · rw [if_pos h1, if_pos h1]
      show qrow (upd s.o p o' 0).q = _
      rw [upd_other (by omega)]
    · rw [if_neg h1, if_neg h1]
      show qrow (upd s.o p o' 0).q ++ qrow (upd s.o p o' 1).q = _
      rw [upd_other (by omega), upd_other (by omega)]
theorem postQ_upd (s : TS) (p : Nat) (o' : Own) (w' : Nat → Int) : postQ ⟨upd s.o p o', w'⟩ p = postQ s p := by
  unfold postQ
  by_cases h0 : p = 0
  · rw [if_pos h0, if_pos h0]
    show qrow (upd s.o p o' 1).q ++ qrow (upd s.o p o' 2).q = _
    rw [upd_other (by omega), upd_other (by omega)]
  · rw [if_neg h0, if_neg h0]
    by_cases h1 : p = 1
    · rw [if_pos h1, if_pos h1]
      show qrow (upd s.o p o' 2).q = _
      rw [upd_other (by omega)]
    · rw [if_neg h1, if_neg h1]
theorem r13_q (s : TS) (p : Nat) (o' : Own) (h : o'.a = (s.o p).a ∧ o'.b = (s.o p).b ∧ o'.n = (s.o p).n) : r13 ⟨upd s.o p o', s.w⟩ = r13 s := by
  have ha : ∀ j, (upd s.o p o' j).a = (s.o j).a ∧ (upd s.o p o' j).b = (s.o j).b ∧ (upd s.o p o' j).n = (s.o j).n := fun j => by
    by_cases e : j = p
    · subst e; rw [upd_same]; exact h
    · rw [upd_other e]; exact ⟨rfl, rfl, rfl⟩
  unfold r13
  simp only [(ha 0).1, (ha 0).2.1, (ha 0).2.2, (ha 1).1, (ha 1).2.1, (ha 1).2.2, (ha 2).1, (ha 2).2.1, (ha 2).2.2]
/-- What is done with what waits of a hand. -/
theorem r46_mid_set {s : TS} {p : Nat} (hp : p < 3) {q' : List (Nat × Int)} {m : List Int} (hm : m = qrow q') :
    (r13 s ++ preQ s p) ++ (m ++ postQ s p) = r46 ⟨upd s.o p ⟨(s.o p).a, (s.o p).b, (s.o p).n, q'⟩, s.w⟩ := by
  rw [r46_mid _ hp, preQ_upd, postQ_upd, r13_q s p ⟨(s.o p).a, (s.o p).b, (s.o p).n, q'⟩ ⟨rfl, rfl, rfl⟩, hm]
  show _ = _ ++ (qrow (upd s.o p _ p).q ++ _)
  rw [upd_same]
theorem pre_length {s : TS} {p : Nat} (hp : p < 3) (hq : ∀ p, (s.o p).q.length ≤ 5) : (r13 s ++ preQ s p).length = 13 + p * 11 := by rw [List.length_append, preQ_length hp hq, r13_length]
/-- A store that waits. -/
theorem r46_push {s : TS} {p : Nat} (hp : p < 3) (hq : ∀ p, (s.o p).q.length ≤ 5) (hlt : (s.o p).q.length < 5) (d : Nat) (v : Int) :
    ((((r46 s).set (13 + p * 11 + (1 + (s.o p).q.length * 2)) (d : Int)).set (13 + p * 11 + (1 + (s.o p).q.length * 2 + 1)) v).set (13 + p * 11 + 0) (((s.o p).q.length : Int) + 1)) = r46 ⟨upd s.o p ⟨(s.o p).a, (s.o p).b, (s.o p).n, (s.o p).q ++ [(d, v)]⟩, s.w⟩ := by
  have hl := qrow_length (hq p)
  rw [r46_mid s hp, ← pre_length hp hq, set_mid _ _ _ _ _ (by rw [hl]; omega), set_mid _ _ _ _ _ (by rw [List.length_set, hl]; omega), set_mid _ _ _ _ _ (by rw [List.length_set, List.length_set, hl]; omega)]
  exact r46_mid_set hp (qrow_put hlt d v)
/-- What waits is moved forward, so many numbers. -/
def shf : Nat → List Int → List Int
  | 0, m => m
  | j + 1, m => (shf j m).set (j + 1) ((shf j m).getD (j + 3) 0)
theorem shf_length (j : Nat) (m : List Int) : (shf j m).length = m.length := by
  induction j with
  | zero => rfl
  | succ j ih => rw [shf, List.length_set, ih]
theorem shf_come (x : Nat × Int) {q : List (Nat × Int)} (h : q.length ≤ 4) : (((shf 8 (qrow (x :: q))).set 9 0).set 10 0).set 0 (q.length : Int) = qrow q := by
  match q, h with
  | [], _ => rfl
  | [a], _ => rfl
  | [a, b], _ => rfl
  | [a, b, c], _ => rfl
  | [a, b, c, d], _ => rfl
def shfR (p : Nat) (j : Nat) (s : TS) : List Int := (r13 s ++ preQ s p) ++ (shf j (qrow (s.o p).q) ++ postQ s p)
theorem shfR_zero {s : TS} {p : Nat} (hp : p < 3) : shfR p 0 s = r46 s := (r46_mid s hp).symm
theorem shfR_length {s : TS} {p : Nat} (hp : p < 3) (hq : ∀ p, (s.o p).q.length ≤ 5) (j : Nat) : (shfR p j s).length = 46 := by
  rw [← r46_length (s := s) fun p _ => hq p, r46_mid s hp]
  simp only [shfR, List.length_append, shf_length]
theorem shfR_at {s : TS} {p : Nat} (hp : p < 3) (hq : ∀ p, (s.o p).q.length ≤ 5) (j : Nat) {i : Nat} (hi : i < 11) : (shfR p j s)[13 + p * 11 + i]? = (shf j (qrow (s.o p).q))[i]? := by
  rw [shfR, ← pre_length hp hq]
  exact get_mid _ _ _ _ (by rw [shf_length, qrow_length (hq p)]; exact hi)
theorem shfR_succ {s : TS} {p : Nat} (hp : p < 3) (hq : ∀ p, (s.o p).q.length ≤ 5) {j : Nat} (hj : j < 8) : (shfR p j s).set (13 + p * 11 + (j + 1)) ((shfR p j s).getD (13 + p * 11 + (j + 3)) 0) = shfR p (j + 1) s := by
  rw [List.getD_eq_getElem?_getD, shfR_at hp hq j (by omega), ← List.getD_eq_getElem?_getD]
  rw [shfR, ← pre_length hp hq, set_mid _ _ _ _ _ (by rw [shf_length, qrow_length (hq p)]; omega)]
  rfl
/-- What waits longest comes. -/
theorem r46_come {s : TS} {p : Nat} (hp : p < 3) (hq : ∀ p, (s.o p).q.length ≤ 5) {d : Nat} {v : Int} {q : List (Nat × Int)} (he : (s.o p).q = (d, v) :: q) :
    (((shfR p 8 ⟨s.o, upd s.w d v⟩).set (13 + p * 11 + 9) 0).set (13 + p * 11 + 10) 0).set (13 + p * 11 + 0) (q.length : Int) = r46 (tcom s p) := by
  have hq' : ∀ j, ((TS.mk s.o (upd s.w d v)).o j).q.length ≤ 5 := hq
  have hl : (qrow (s.o p).q).length = 11 := qrow_length (hq p)
  have h4 : q.length ≤ 4 := by have := hq p; rw [he] at this; simp at this; omega
  rw [shfR, ← pre_length hp hq', set_mid _ _ _ _ _ (by rw [shf_length]; show 9 < (qrow (s.o p).q).length; omega), set_mid _ _ _ _ _ (by rw [List.length_set, shf_length]; show 10 < (qrow (s.o p).q).length; omega), set_mid _ _ _ _ _ (by rw [List.length_set, List.length_set, shf_length]; show 0 < (qrow (s.o p).q).length; omega)]
  have h1 := r46_mid_set (s := ⟨s.o, upd s.w d v⟩) hp (q' := q) (m := (((shf 8 (qrow (s.o p).q)).set 9 0).set 10 0).set 0 (q.length : Int)) (by rw [he]; exact shf_come (d, v) h4)
  refine h1.trans ?_
  unfold tcom
  rw [he]
  simp only [Own.pop, he, List.tail_cons]
/-- A load that looks at what waits. -/
theorem setReg_setReg (o : Own) (r v v' : Int) : (o.setReg r v).setReg r v' = o.setReg r v' := by unfold Own.setReg; split <;> rfl
theorem r46_fwd {s : TS} {p : Nat} {l : Ln} (hp : p < 3) (h0 : 0 ≤ l.r) (h1 : l.r ≤ 1) (k1 : l.k = 1) (v : Int) : (r46 (rdo s p l)).set (p * 3 + 1 + l.r.toNat) v = r46 ⟨upd s.o p (((s.o p).at_ ((s.o p).n + 1)).setReg l.r v), s.w⟩ := by
  rw [r46_set_reg _ hp h0 h1]
  unfold rdo
  dsimp only
  rw [if_neg (by omega), if_pos k1]
  simp only [upd_same, upd_upd, setReg_setReg]
theorem over_take {q : List (Nat × Int)} {w : Nat → Int} {i : Nat} {e : Nat × Int} (h : q[i]? = some e) (d : Nat) : over (q.take (i + 1)) w d = if e.1 = d then e.2 else over (q.take i) w d := by
  have hi : i < q.length := (List.getElem?_eq_some_iff.1 h).1
  rw [List.take_succ_eq_append_getElem hi]
  rw [List.getElem?_eq_getElem hi] at h
  rw [Option.some.inj h, over_snoc]
  unfold upd
  by_cases e1 : e.1 = d
  · rw [if_pos e1, if_pos e1.symm]
  · rw [if_neg e1, if_neg (fun h => e1 h.symm)]
end Go.Proofs.YthpnnmkpbkbanaaDoor

/-
  What latchgarthref1.step answers for a store that waits, and for a load that looks at what waits.
-/
namespace Go.Proofs.YthpnnmkpbkbanaaDoor
open Go.RowKit

set_option maxRecDepth 100000 in
set_option maxHeartbeats 4000000 in
theorem refstep_push (s : TS) (h : Nat) (hh : h ≤ 2) (hq : ∀ p, (s.o p).q.length ≤ 5) (hlt : (s.o h).q.length < 5) (hn : (s.o h).n ≤ 20) (sv : Value) (B : Nat) (r d : Nat) (v : Int) (w : World) (hs : Nums w B sv (r46 s)) (hB : B ≤ w.heap.size) (hr : r ≤ 1) :
    Calls Tryd.prog 18 #[sv, .int .i64 h, .agg #[.int .i64 2, .int .i64 r, .int .i64 d, .int .i64 v], .bool true] w (DonePost w (r46 (rstp true s h ⟨2, r, d, v⟩))) := by
  have HS := Lib.hid hs
  obtain ⟨n, hnn⟩ : ∃ n, n = (s.o h).n := ⟨_, rfl⟩
  obtain ⟨len, hln⟩ : ∃ len, len = (s.o h).q.length := ⟨_, rfl⟩
  obtain ⟨ys, hys⟩ : ∃ ys, ys = r46 s := ⟨_, rfl⟩
  have HL := Lib.hid (show ys.length = 46 by rw [hys]; exact r46_length fun p _ => hq p)
  have HP := Lib.hid (show ys[h * 3]? = some (n : Int) by rw [hys, hnn]; exact r46_n s (by omega))
  have HE := Lib.hid (show ((((ys.set (h * 3) ((n : Int) + 1)).set (13 + h * 11 + 1 + 2 * len) (d : Int)).set (13 + h * 11 + 1 + 2 * len + 1) ((s.o h).reg r)).set (13 + h * 11) ((len : Int) + 1)) = r46 (rstp true s h ⟨2, r, d, v⟩) by
    have e0 : ys.set (h * 3) ((n : Int) + 1) = r46 ⟨upd s.o h ((s.o h).at_ ((s.o h).n + 1)), s.w⟩ := by rw [hys, hnn, ← r46_set_n s (by omega)]; rfl
    have hq2 : ∀ p, ((upd s.o h ((s.o h).at_ ((s.o h).n + 1))) p).q.length ≤ 5 := fun p => by
      by_cases e : p = h
      · subst e; rw [upd_same]; exact hq p
      · rw [upd_other e]; exact hq p
    have e1 := r46_push (s := ⟨upd s.o h ((s.o h).at_ ((s.o h).n + 1)), s.w⟩) (p := h) (by omega) hq2 (by simp only [upd_same]; exact hlt) d ((s.o h).reg r)
    simp only [upd_same] at e1
    rw [e0, show 13 + h * 11 + 1 + 2 * len = 13 + h * 11 + (1 + (s.o h).q.length * 2) by omega, show 13 + h * 11 + (1 + (s.o h).q.length * 2) + 1 = 13 + h * 11 + (1 + (s.o h).q.length * 2 + 1) by omega, hln]
    refine e1.trans ?_
    unfold rstp
    dsimp only
    rw [if_pos (show true = true ∧ (2 : Int) = 2 from ⟨rfl, rfl⟩), upd_upd, Int.toNat_natCast]
    rfl)
  have HC := Lib.hid (show ys[13 + h * 11]? = some (len : Int) by rw [hys, hln]; exact r46_cnt (by omega) hq)
  have HRG := Lib.hid (show ys.getD (h * 3 + 1 + r) 0 = (s.o h).reg r by
    have := r46_reg s (p := h) (by omega) (r := (r : Int)) (by omega) (by omega)
    rw [Int.toNat_natCast] at this
    rw [hys]; exact this)
  obtain ⟨rg, hrg⟩ : ∃ rg, rg = (s.o h).reg r := ⟨_, rfl⟩
  rw [← hrg] at HE HRG
  obtain ⟨res, hres⟩ : ∃ res, res = r46 (rstp true s h ⟨2, r, d, v⟩) := ⟨_, rfl⟩
  rw [← hres] at HE
  rw [← hres]
  rw [← hys] at HS
  have hlen5 : len < 5 := by omega
  have hn20 : n ≤ 20 := by omega
  clear hys hrg hres hnn hln hs hlt hq hn
  have L2 := Lib.hid (show (ys.set (h * 3) ((n : Int) + 1)).length = 46 by rw [List.length_set, HL.out])
  obtain ⟨ys2, hys2⟩ : ∃ ys2, ys2 = ys.set (h * 3) ((n : Int) + 1) := ⟨_, rfl⟩
  have C2 := Lib.hid (show ys2.getD (13 + h * 11) 0 = (len : Int) by rw [hys2, List.getD_eq_getElem?_getD, List.getElem?_set_ne (by omega), HC.out]; rfl)
  have R2 := Lib.hid (show ys2.getD (h * 3 + 1 + r) 0 = rg by rw [hys2, List.getD_eq_getElem?_getD, List.getElem?_set_ne (by omega), ← List.getD_eq_getElem?_getD, HRG.out])
  rw [← hys2] at HE L2
  have HY2 := Lib.hid hys2
  clear hys2
  obtain ⟨K, hK⟩ : ∃ K, K = 13 + h * 11 + 1 + 2 * len := ⟨_, rfl⟩
  rw [← hK] at HE
  have hK2 : K < 45 := by omega
  have hKI : (13 : Int) + (h : Int) * 11 + 1 + 2 * (len : Int) = (K : Int) := by omega
  obtain ⟨ys3, hys3⟩ : ∃ ys3, ys3 = ys2.set K (d : Int) := ⟨_, rfl⟩
  rw [← hys3] at HE
  have L3 := Lib.hid (show ys3.length = 46 by rw [hys3, List.length_set, L2.out])
  have R3 := Lib.hid (show ys3.getD (h * 3 + 1 + r) 0 = rg by rw [hys3, List.getD_eq_getElem?_getD, List.getElem?_set_ne (by omega), ← List.getD_eq_getElem?_getD, R2.out])
  have C3 := Lib.hid (show ys3.getD (13 + h * 11) 0 = (len : Int) by rw [hys3, List.getD_eq_getElem?_getD, List.getElem?_set_ne (by omega), ← List.getD_eq_getElem?_getD, C2.out])
  have HY3 := Lib.hid hys3
  clear hys3
  obtain ⟨ys4, hys4⟩ : ∃ ys4, ys4 = ys3.set (K + 1) rg := ⟨_, rfl⟩
  rw [← hys4] at HE
  have L4 := Lib.hid (show ys4.length = 46 by rw [hys4, List.length_set, L3.out])
  have C4 := Lib.hid (show ys4.getD (13 + h * 11) 0 = (len : Int) by rw [hys4, List.getD_eq_getElem?_getD, List.getElem?_set_ne (by omega), ← List.getD_eq_getElem?_getD, C3.out])
  have HY4 := Lib.hid hys4
  have HKE := Lib.hid hK
  clear hys4 hK
  have hs := HS.out
  obtain ⟨A, cA, rfl, hA, _⟩ := hs
  rw [HL.out] at HS
  rw [HL.out]
  have K0 := Lib.hid (Block.made w 40 #[.int .i64 2, .int .i64 r, .int .i64 d, .int .i64 v])
  have HB0 := Lib.hid ((Below.refl w.heap.size w).alloc (Nat.le_refl _) (.cells #[.int .i64 2, .int .i64 r, .int .i64 d, .int .i64 v] 40))
  have i1 : (0 : Int) ≤ (h : Int) * 3 := by omega
  have i2 : (h : Int) * 3 < 46 := by omega
  have i3 : (13 : Int) + (h : Int) * 11 < 46 := by omega
  have i4 : (0 : Int) ≤ 13 + (h : Int) * 11 := by omega
  have i5 : (K : Int) < 46 := by omega
  have i6 : (K : Int) + 1 < 46 := by omega
  have i7 : (h : Int) * 3 + 1 + r < 46 := by omega
  go_enter Tryd.func18, Tryd.ntmps18
  go_wp2_with fail
  refine (copied_any _ ys B _ (HS.out.keep (fun p hp => World.cell?_alloc_lt _ _ p (Nat.lt_of_lt_of_le hp hB))) (by rw [HL.out]; omega) (by rw [HL.out]; omega)).mono ?_
  rintro e w1 ⟨g, c, rfl, hc46, hg1, hg2, hr1, hb1⟩
  rw [HL.out]
  rw [HL.out] at hc46
  simp at hg1
  have HR1 := Lib.hid hr1
  have HB1 := Lib.hid (HB0.out.trans (hb1.mono (by simp)))
  have K1 := Lib.hid (show Block w1 w.heap.size 40 #[.int .i64 2, .int .i64 r, .int .i64 d, .int .i64 v] from K0.out.below hb1 (by simp))
  have q1 : w1.cell? ⟨g, h * 3, none⟩ = some (.int .i64 n) := (hr1 (h * 3) n HP.out).1
  have y01 := (K1.out.cell 0).trans rfl; have y11 := (K1.out.cell 1).trans rfl; have y21 := (K1.out.cell 2).trans rfl; have y31 := (K1.out.cell 3).trans rfl
  clear hr1 hb1
  go_wp2_with (first | (refine wpList_store_num rfl 3 (.tmp 30) (.tmp 29) rfl g (h * 3) rfl (n + 1) rfl Tin2.size ys HR1.out (Nat.lt_of_lt_of_eq (by omega) HL.out.symm) ?_; intro w2 hr2 hb2 hs2 hf2; have HR2 := Lib.hid (show RowAt w2 g ys2 by rw [HY2.out]; exact hr2); have HB2 := Lib.hid (HB1.out.trans (hb2 _ (by omega))); have hS2 : w2.heap.size = w1.heap.size := hs2; have k2 : ∀ i, w2.cell? ⟨w.heap.size, i, none⟩ = w1.cell? ⟨w.heap.size, i, none⟩ := fun i => hf2 _ (show w.heap.size ≠ g by omega); have y02 := (k2 0).trans y01; have y12 := (k2 1).trans y11; have y22 := (k2 2).trans y21; have y32 := (k2 3).trans y31; have q2 : w2.cell? ⟨g, 13 + h * 11, none⟩ = some (.int .i64 len) := (HR2.out.get (i := 13 + h * 11) (Nat.lt_of_lt_of_eq (by omega) L2.out.symm)).1.trans (by rw [C2.out]); clear hr2 hb2 hs2 hf2 k2) | (refine wpList_store_num rfl 3 (.tmp 43) (.tmp 42) rfl g K rfl d rfl Tin2.size ys2 HR2.out (Nat.lt_of_lt_of_eq (by omega) L2.out.symm) ?_; intro w3 hr3 hb3 hs3 hf3; have HR3 := Lib.hid (show RowAt w3 g ys3 by rw [HY3.out]; exact hr3); have HB3 := Lib.hid (HB2.out.trans (hb3 _ (by omega))); have hS3 : w3.heap.size = w2.heap.size := hs3; have k3 : ∀ i, w3.cell? ⟨w.heap.size, i, none⟩ = w2.cell? ⟨w.heap.size, i, none⟩ := fun i => hf3 _ (show w.heap.size ≠ g by omega); have y03 := (k3 0).trans y02; have y13 := (k3 1).trans y12; have y23 := (k3 2).trans y22; have y33 := (k3 3).trans y32; have q3 : w3.cell? ⟨g, h * 3 + 1 + r, none⟩ = some (.int .i64 rg) := (HR3.out.get (i := h * 3 + 1 + r) (Nat.lt_of_lt_of_eq (by omega) L3.out.symm)).1.trans (by rw [R3.out]); clear hr3 hb3 hs3 hf3 k3) | (refine wpList_store_num rfl 3 (.tmp 56) (.tmp 55) rfl g (K + 1) rfl rg rfl Tin2.size ys3 HR3.out (Nat.lt_of_lt_of_eq (by omega) L3.out.symm) ?_; intro w4 hr4 hb4 hs4 hf4; have HR4 := Lib.hid (show RowAt w4 g ys4 by rw [HY4.out]; exact hr4); have HB4 := Lib.hid (HB3.out.trans (hb4 _ (by omega))); have hS4 : w4.heap.size = w3.heap.size := hs4; have k4 : ∀ i, w4.cell? ⟨w.heap.size, i, none⟩ = w3.cell? ⟨w.heap.size, i, none⟩ := fun i => hf4 _ (show w.heap.size ≠ g by omega); have y04 := (k4 0).trans y03; have y14 := (k4 1).trans y13; have y24 := (k4 2).trans y23; have y34 := (k4 3).trans y33; have q4 : w4.cell? ⟨g, 13 + h * 11, none⟩ = some (.int .i64 len) := (HR4.out.get (i := 13 + h * 11) (Nat.lt_of_lt_of_eq (by omega) L4.out.symm)).1.trans (by rw [C4.out]); clear hr4 hb4 hs4 hf4 k4) | (refine wpList_store_num rfl 3 (.tmp 62) (.tmp 61) rfl g (13 + h * 11) rfl (len + 1) rfl Tin2.size ys4 HR4.out (Nat.lt_of_lt_of_eq (by omega) L4.out.symm) ?_; intro w5 hr5 hb5 hs5 hf5; have HR5 := Lib.hid (show RowAt w5 g res by rw [← HE.out]; exact hr5); have HB5 := Lib.hid (HB4.out.trans (hb5 _ (by omega))); have hS5 : w5.heap.size = w4.heap.size := hs5; have k5 : ∀ i, w5.cell? ⟨w.heap.size, i, none⟩ = w4.cell? ⟨w.heap.size, i, none⟩ := fun i => hf5 _ (show w.heap.size ≠ g by omega); have y05 := (k5 0).trans y04; have y15 := (k5 1).trans y14; have y25 := (k5 2).trans y24; have y35 := (k5 3).trans y34; skip; clear hr5 hb5 hs5 hf5 k5))
  go_ret
  exact ⟨g, c, rfl, hc46, by omega, by omega, HR5.out, HB5.out⟩

set_option maxRecDepth 100000 in
set_option maxHeartbeats 4000000 in
theorem refstep_fwd (s : TS) (h : Nat) (hh : h ≤ 2) (hq : ∀ p, (s.o p).q.length ≤ 5) (hn : (s.o h).n ≤ 20) (words : Int) (hw : words ≤ 4) (sv : Value) (B : Nat) (r d : Nat) (v : Int) (hok : okLn words ⟨1, r, d, v⟩ = true) (w : World) (hs : Nums w B sv (r46 s)) (hB : B ≤ w.heap.size) (hr : r ≤ 1) :
    Calls Tryd.prog 18 #[sv, .int .i64 h, .agg #[.int .i64 1, .int .i64 r, .int .i64 d, .int .i64 v], .bool true] w (DonePost w (r46 (rstp true s h ⟨1, r, d, v⟩))) := by
  have hl : (r46 s).length = 46 := r46_length fun p _ => hq p
  have HS := Lib.hid hs
  have HD := Lib.hid (fun w' hs' hB' => (by have := refdone_any (r46 s) sv B h (s.o h).n words ⟨1, r, d, v⟩ w' hs' hB' hl hh (r46_n s (by omega)) hn hw hok; rwa [refDone_r46 (by omega) hw hok] at this : Calls Tryd.prog 22 #[sv, .int .i64 h, .agg #[.int .i64 1, .int .i64 r, .int .i64 d, .int .i64 v]] w' (DonePost w' (r46 (rdo s h ⟨1, r, d, v⟩)))))
  obtain ⟨T0, hT0⟩ : ∃ T0, T0 = r46 (rdo s h ⟨1, r, d, v⟩) := ⟨_, rfl⟩
  rw [← hT0] at HD
  have hq2 : ∀ p, ((rdo s h ⟨1, r, d, v⟩).o p).q.length ≤ 5 := fun p => by
    unfold rdo
    dsimp only
    rw [if_neg (by omega), if_pos rfl]
    by_cases e : p = h
    · subst e; simp only [upd_same, setReg_q]; exact hq p
    · simp only [upd_other e]; exact hq p
  have HLT := Lib.hid (show T0.length = 46 by rw [hT0]; exact r46_length fun p _ => hq2 p)
  have HF := Lib.hid (show ∀ z : Int, T0.set (h * 3 + 1 + r) z = r46 ⟨upd s.o h (((s.o h).at_ ((s.o h).n + 1)).setReg r z), s.w⟩ from fun z => by
    have := r46_fwd (s := s) (p := h) (l := ⟨1, r, d, v⟩) (by omega) (by show (0 : Int) ≤ r; omega) (by show (r : Int) ≤ 1; omega) rfl z
    rw [hT0]
    simpa using this)
  have HE0 := Lib.hid (show T0.set (h * 3 + 1 + r) (s.w d) = T0 by
    rw [HF.out, hT0]
    unfold rdo
    dsimp only
    rw [if_neg (by omega), if_pos rfl, Int.toNat_natCast])
  have HE1 := Lib.hid (show T0.set (h * 3 + 1 + r) (over (s.o h).q s.w d) = r46 (rstp true s h ⟨1, r, d, v⟩) by
    rw [HF.out]
    unfold rstp
    dsimp only
    rw [if_neg (by omega), if_pos rfl, Int.toNat_natCast])
  have HC := Lib.hid (r46_cnt (s := s) (p := h) (by omega) hq)
  have HAT := Lib.hid (show ∀ (i : Nat) (e : Nat × Int), (s.o h).q[i]? = some e → (r46 s)[13 + h * 11 + 1 + 2 * i]? = some (e.1 : Int) ∧ (r46 s)[13 + h * 11 + 2 + 2 * i]? = some e.2 from fun i e he => by
    have h1 := pairs_get he
    have hi := (List.getElem?_eq_some_iff.1 he).1
    have h5 := hq h
    rw [show 13 + h * 11 + 1 + 2 * i = 13 + h * 11 + (1 + i * 2) by omega, show 13 + h * 11 + 2 + 2 * i = 13 + h * 11 + (1 + i * 2 + 1) by omega, r46_at (by omega) hq (by omega), r46_at (by omega) hq (by omega)]
    exact h1)
  obtain ⟨ov, hov⟩ : ∃ ov : Nat → Int, ov = fun i => over ((s.o h).q.take i) s.w d := ⟨_, rfl⟩
  have HO0 := Lib.hid (show T0.set (h * 3 + 1 + r) (ov 0) = T0 by rw [hov]; exact HE0.out)
  have HO1 := Lib.hid (show T0.set (h * 3 + 1 + r) (ov (s.o h).q.length) = r46 (rstp true s h ⟨1, r, d, v⟩) by rw [hov]; simp only [List.take_length]; exact HE1.out)
  have HOS := Lib.hid (show ∀ (i : Nat) (e : Nat × Int), (s.o h).q[i]? = some e → ov (i + 1) = if e.1 = d then e.2 else ov i from fun i e he => by rw [hov]; exact over_take he d)
  obtain ⟨q, hqq⟩ : ∃ q, q = (s.o h).q := ⟨_, rfl⟩
  have hq5 : q.length ≤ 5 := by rw [hqq]; exact hq h
  rw [← hqq] at HC HAT HO1 HOS
  obtain ⟨res, hres⟩ : ∃ res, res = r46 (rstp true s h ⟨1, r, d, v⟩) := ⟨_, rfl⟩
  obtain ⟨ys, hys⟩ : ∃ ys, ys = r46 s := ⟨_, rfl⟩
  rw [← hres] at HO1
  rw [← hres]
  rw [← hys] at HC HAT HS HD hl
  obtain ⟨A, cA, rfl, hA, hsn⟩ := hs
  obtain ⟨b, o, rfl, hb, hcc⟩ := hsn (by rw [← hys]; omega)
  rw [← hys] at hcc hA
  rw [← hys, hl] at HS HD
  rw [← hys, hl]
  have HCC := Lib.hid hcc
  have hbw : b < w.heap.size := by omega
  have K0 := Lib.hid (Block.made w 40 #[.int .i64 1, .int .i64 r, .int .i64 d, .int .i64 v])
  have HB0 := Lib.hid ((Below.refl w.heap.size w).alloc (Nat.le_refl _) (.cells #[.int .i64 1, .int .i64 r, .int .i64 d, .int .i64 v] 40))
  have i3 : (13 : Int) + (h : Int) * 11 < 46 := by omega
  have i4 : (0 : Int) ≤ 13 + (h : Int) * 11 := by omega
  have i7 : (h : Int) * 3 + 1 + r < 46 := by omega
  clear hov hqq hres hys hT0 HE0 HE1 HF hcc hsn hq hq2 hl hok hn hA
  go_enter Tryd.func18, Tryd.ntmps18
  go_wp2_with fail
  refine (HD.out _ (HS.out.keep (fun p hp => World.cell?_alloc_lt _ _ p (Nat.lt_of_lt_of_le hp hB))) (by simp; omega)).mono ?_
  rintro e w1 ⟨g, c, rfl, hc46, hg1, hg2, hr1, hb1⟩
  simp at hg1
  have HR1 := Lib.hid hr1
  have HB1 := Lib.hid (HB0.out.trans (hb1.mono (by simp)))
  have K1 := Lib.hid (show Block w1 w.heap.size 40 #[.int .i64 1, .int .i64 r, .int .i64 d, .int .i64 v] from K0.out.below hb1 (by simp))
  clear hr1 hb1
  go_wp2
  go_loopw [12] (fun iv wr => ∃ i : Nat, i ≤ q.length ∧ iv = .int .i64 i ∧ RowAt wr g (T0.set (h * 3 + 1 + r) (ov i)) ∧ Below (w.heap.size + 1) w1 wr) (fun iv _ => q.length - (intOf iv).toNat)
  case atStart => exact ⟨0, by omega, rfl, by rw [HO0.out]; exact HR1.out, Below.refl _ _⟩
  case round =>
    obtain ⟨i, hi, rfl, hr2, hb2⟩ := hrel
    have HR2 := Lib.hid hr2
    have HB2 := Lib.hid hb2
    have s0 : wr.cell? ⟨b, o + (13 + h * 11), none⟩ = some (.int .i64 q.length) := ((hb2.cell (p := ⟨b, o + (13 + h * 11), none⟩) (by show b < _; omega)).trans (HB1.out.cell (p := ⟨b, o + (13 + h * 11), none⟩) hbw)).trans (HCC.out _ _ HC.out)
    have kl : ∀ j, wr.cell? ⟨w.heap.size, j, none⟩ = w1.cell? ⟨w.heap.size, j, none⟩ := fun j => hb2.cell (p := ⟨w.heap.size, j, none⟩) (Nat.lt_succ_self _)
    have y0 := (kl 0).trans ((K1.out.cell 0).trans rfl)
    have y1 := (kl 1).trans ((K1.out.cell 1).trans rfl)
    have y2 := (kl 2).trans ((K1.out.cell 2).trans rfl)
    clear hr2 hb2 kl
    by_cases hlt : i < q.length
    · have hiI : (i : Int) < q.length := by omega
      obtain ⟨e, he⟩ : ∃ e, q[i]? = some e := ⟨_, List.getElem?_eq_getElem hlt⟩
      obtain ⟨a1, a2⟩ := HAT.out i e he
      have HOE := Lib.hid (HOS.out i e he)
      have s1 : wr.cell? ⟨b, o + (13 + h * 11 + 1 + 2 * i), none⟩ = some (.int .i64 e.1) := ((HB2.out.cell (p := ⟨b, o + (13 + h * 11 + 1 + 2 * i), none⟩) (by show b < _; omega)).trans (HB1.out.cell (p := ⟨b, o + (13 + h * 11 + 1 + 2 * i), none⟩) hbw)).trans (HCC.out _ _ a1)
      have s2 : wr.cell? ⟨b, o + (13 + h * 11 + 2 + 2 * i), none⟩ = some (.int .i64 e.2) := ((HB2.out.cell (p := ⟨b, o + (13 + h * 11 + 2 + 2 * i), none⟩) (by show b < _; omega)).trans (HB1.out.cell (p := ⟨b, o + (13 + h * 11 + 2 + 2 * i), none⟩) hbw)).trans (HCC.out _ _ a2)
      have i8 : (13 : Int) + (h : Int) * 11 + 1 + 2 * (i : Int) < 46 := by omega
      have i9 : (13 : Int) + (h : Int) * 11 + 2 + 2 * (i : Int) < 46 := by omega
      obtain ⟨g1, g2⟩ := HR2.out.get (i := h * 3 + 1 + r) (by rw [List.length_set, HLT.out]; omega)
      clear a1 a2 he
      by_cases hd : e.1 = d
      · have ed : ((e.1 : Int) == (d : Int)) = true := beq_iff_eq.2 (by omega)
        have HN := Lib.hid (show ov (i + 1) = e.2 by rw [HOE.out, if_pos hd])
        clear hd
        go_wp2
        go_quiet (fail)
        go_wp2
        obtain ⟨X, hX⟩ : ∃ X, X = wr.drewN nq := ⟨_, rfl⟩
        have HRX := Lib.hid (show RowAt X g (T0.set (h * 3 + 1 + r) (ov i)) by rw [hX]; exact HR2.out)
        have HBX := Lib.hid (show Below (w.heap.size + 1) w1 X by rw [hX]; exact below_drewN HB2.out _)
        have x1 : X.cell? ⟨w.heap.size, 1, none⟩ = some (.int .i64 r) := by rw [hX]; exact y1
        have x2 : X.cell? ⟨b, o + (13 + h * 11 + 2 + 2 * i), none⟩ = some (.int .i64 e.2) := by rw [hX]; exact s2
        have x3 : X.cell? ⟨g, h * 3 + 1 + r, none⟩ = some (.int .i64 ((T0.set (h * 3 + 1 + r) (ov i)).getD (h * 3 + 1 + r) 0)) := by rw [hX]; exact g1
        have x4 : X.frozen? ⟨g, h * 3 + 1 + r, none⟩ = false := by rw [hX]; exact g2
        rw [← hX]
        clear hX y0 y1 y2 s0 s1 s2 g1 g2 HR2 HB2
        go_region
        all_goals
          go_wp2
          go_roundw
          case rel => exact ⟨i + 1, by omega, by go_num, by rw [HN.out, ← List.set_set (a := ov i)]; exact RowAt.put (show RowAt _ g _ from HRX.out) _ _, (HBX.out.setCell (p := ⟨g, h * 3 + 1 + r, none⟩) (show w.heap.size + 1 ≤ g by omega) _).drew⟩
          case measure => simp [intOf]; omega
      · have ed : ((e.1 : Int) == (d : Int)) = false := beq_eq_false_iff_ne.2 (by omega)
        have HN := Lib.hid (show ov (i + 1) = ov i by rw [HOE.out, if_neg hd])
        clear hd
        go_wp2
        go_quiet (fail)
        go_wp2
        go_roundw
        case rel => exact ⟨i + 1, by omega, by go_num, by rw [HN.out]; exact HR2.out, below_drewN HB2.out _⟩
        case measure => simp [intOf]; omega
    · obtain rfl : i = q.length := by omega
      go_wp2
      go_ret
      exact ⟨g, c, rfl, hc46, by omega, by have := HB2.out.size; omega, by rw [← HO1.out]; exact HR2.out, HB1.out.trans (HB2.out.mono (by omega))⟩
end Go.Proofs.YthpnnmkpbkbanaaDoor

/-
  What latchgarthref1.come answers.
-/
namespace Go.Proofs.YthpnnmkpbkbanaaDoor
open Go.RowKit

set_option maxRecDepth 100000 in
set_option maxHeartbeats 4000000 in
theorem refcome_any (s : TS) (h : Nat) (hh : h ≤ 2) (hq : ∀ p, (s.o p).q.length ≤ 5) (d : Nat) (v : Int) (q : List (Nat × Int)) (he : (s.o h).q = (d, v) :: q) (hd : d ≤ 3) (sv : Value) (B : Nat) (w : World) (hs : Nums w B sv (r46 s)) :
    Calls Tryd.prog 19 #[sv, .int .i64 h] w (DonePost w (r46 (tcom s h))) := by
  have HS := Lib.hid hs
  have hl : (r46 s).length = 46 := r46_length fun p _ => hq p
  obtain ⟨s1, hs1⟩ : ∃ s1 : TS, s1 = ⟨s.o, upd s.w d v⟩ := ⟨_, rfl⟩
  have hq1 : ∀ p, (s1.o p).q.length ≤ 5 := fun p => by rw [hs1]; exact hq p
  have HW1 := Lib.hid (show (r46 s).set (9 + d) v = shfR h 0 s1 by rw [shfR_zero (by omega), r46_set_w s (by omega), hs1])
  have HSU := Lib.hid (show ∀ j, j < 8 → (shfR h j s1).set (13 + h * 11 + (j + 1)) ((shfR h j s1).getD (13 + h * 11 + (j + 3)) 0) = shfR h (j + 1) s1 from fun j hj => shfR_succ (by omega) hq1 hj)
  have HFIN := Lib.hid (show (((shfR h 8 s1).set (13 + h * 11 + 9) 0).set (13 + h * 11 + 10) 0).set (13 + h * 11 + 0) (q.length : Int) = r46 (tcom s h) by rw [hs1]; exact r46_come (by omega) hq he)
  have HLN := Lib.hid (show ∀ j, (shfR h j s1).length = 46 from fun j => shfR_length (by omega) hq1 j)
  have h0 := pairs_get (q := (s.o h).q) (i := 0) (e := (d, v)) (by rw [he]; rfl)
  have hc0 : (r46 s)[13 + h * 11 + 1]? = some (d : Int) := by rw [r46_at (by omega) hq (by omega)]; exact h0.1
  have hc1 : (r46 s)[13 + h * 11 + 2]? = some v := by rw [r46_at (by omega) hq (by omega)]; exact h0.2
  have HC0 := Lib.hid hc0
  have HC1 := Lib.hid hc1
  have HCNT := Lib.hid (show ((((shfR h 8 s1).set (13 + h * 11 + 9) 0).set (13 + h * 11 + 10) 0)).getD (13 + h * 11) 0 = (q.length : Int) + 1 by
    have h1 : (shfR h 8 s1)[13 + h * 11 + 0]? = (shf 8 (qrow (s1.o h).q))[0]? := shfR_at (by omega) hq1 8 (by omega)
    have h2 : (shf 8 (qrow (s1.o h).q))[0]? = (qrow (s1.o h).q)[0]? := by
      simp only [shf]
      repeat rw [List.getElem?_set_ne (by omega)]
    rw [List.getD_eq_getElem?_getD, List.getElem?_set_ne (by omega), List.getElem?_set_ne (by omega), show 13 + h * 11 = 13 + h * 11 + 0 from rfl, h1, h2, hs1]
    show Option.getD ((qrow (s.o h).q)[0]?) 0 = _
    rw [he]
    rfl)
  obtain ⟨ys, hys⟩ : ∃ ys, ys = r46 s := ⟨_, rfl⟩
  obtain ⟨res, hres⟩ : ∃ res, res = r46 (tcom s h) := ⟨_, rfl⟩
  rw [← hres] at HFIN
  rw [← hres]
  rw [← hys] at HS HW1 HC0 HC1 hl
  have HL := Lib.hid hl
  have hq4 : q.length ≤ 4 := by have := hq h; rw [he] at this; simp at this; omega
  obtain ⟨A, cA, rfl, hA, _⟩ := hs
  rw [← hys, hl] at HS
  rw [← hys, hl]
  obtain ⟨sh, hsh⟩ : ∃ sh : Nat → List Int, sh = fun j => shfR h j s1 := ⟨_, rfl⟩
  have HW1' := Lib.hid (show ys.set (9 + d) v = sh 0 by rw [hsh]; exact HW1.out)
  have HSU' := Lib.hid (show ∀ j, j < 8 → (sh j).set (13 + h * 11 + (j + 1)) ((sh j).getD (13 + h * 11 + (j + 3)) 0) = sh (j + 1) by rw [hsh]; exact HSU.out)
  have HFIN' := Lib.hid (show (((sh 8).set (13 + h * 11 + 9) 0).set (13 + h * 11 + 10) 0).set (13 + h * 11) (q.length : Int) = res by rw [hsh]; exact HFIN.out)
  have HLN' := Lib.hid (show ∀ j, (sh j).length = 46 by rw [hsh]; exact HLN.out)
  have HCNT' := Lib.hid (show ((((sh 8).set (13 + h * 11 + 9) 0).set (13 + h * 11 + 10) 0)).getD (13 + h * 11) 0 = (q.length : Int) + 1 by rw [hsh]; exact HCNT.out)
  have i3 : (13 : Int) + (h : Int) * 11 < 46 := by omega
  have i4 : (0 : Int) ≤ 13 + (h : Int) * 11 := by omega
  have i5 : (13 : Int) + (h : Int) * 11 + 1 < 46 := by omega
  have i6 : (13 : Int) + (h : Int) * 11 + 2 < 46 := by omega
  have i7 : (9 : Int) + (d : Int) < 46 := by omega
  clear hsh hres hys hs1 hq1 HW1 HSU HFIN HLN HCNT h0 hc0 hc1 he hq hl hA
  go_enter Tryd.func19, Tryd.ntmps19
  go_wp2_with fail
  refine (copied_any _ ys B _ HS.out (by rw [HL.out]; omega) (by rw [HL.out]; omega)).mono ?_
  rintro e w1 ⟨g, c, rfl, hc46, hg1, hg2, hr1, hb1⟩
  rw [HL.out]
  rw [HL.out] at hc46
  have HR1 := Lib.hid hr1
  have HB1 := Lib.hid hb1
  have q1 : w1.cell? ⟨g, 13 + h * 11 + 1, none⟩ = some (.int .i64 d) := (hr1 _ _ HC0.out).1
  have q2 : w1.cell? ⟨g, 13 + h * 11 + 2, none⟩ = some (.int .i64 v) := (hr1 _ _ HC1.out).1
  obtain ⟨q3, q4⟩ := hr1.get (i := 9 + d) (by rw [HL.out]; omega)
  clear hr1 hb1
  go_wp2
  go_region
  all_goals
    have hrx : ∀ X : World, RowAt X g (ys.set (9 + d) v) → RowAt X g (sh 0) := fun X hX => by rw [← HW1'.out]; exact hX
    have HRX := Lib.hid hrx
    have hbx := (HB1.out.setCell (p := ⟨g, 9 + d, none⟩) (show w.heap.size ≤ g by omega) (.int .i64 v)).drew
    have HBX := Lib.hid hbx
    clear hrx hbx q1 q2 q3 q4
    go_wp2
    go_loopw [6] (fun iv wr => ∃ j : Nat, j ≤ 8 ∧ iv = .int .i64 ((j : Int) + 1) ∧ RowAt wr g (sh j) ∧ Below w.heap.size w wr) (fun iv _ => 9 - (intOf iv).toNat)
    case atStart => exact ⟨0, by omega, rfl, HRX.out _ (RowAt.put (show RowAt _ g _ from HR1.out) _ _), HBX.out⟩
    case round =>
      obtain ⟨j, hj, rfl, hr2, hb2⟩ := hrel
      have HR2 := Lib.hid hr2
      have HB2 := Lib.hid hb2
      clear hr2 hb2
      by_cases hj8 : j < 8
      · have c1 : (j : Int) + 1 + 2 < 11 := by omega
        have c2 : (13 : Int) + (h : Int) * 11 + ((j : Int) + 1) < 46 := by omega
        have c3 : (13 : Int) + (h : Int) * 11 + ((j : Int) + 1) + 2 < 46 := by omega
        have c4 : (0 : Int) ≤ 13 + (h : Int) * 11 + ((j : Int) + 1) := by omega
        have l1 := (HR2.out.get (i := 13 + h * 11 + (j + 1) + 2) (by rw [HLN'.out]; omega)).1
        go_wp2_with (refine wpList_store_num rfl 3 (.tmp 41) (.tmp 40) rfl g (13 + h * 11 + (j + 1)) rfl _ rfl Tin2.size (sh j) HR2.out (Nat.lt_of_lt_of_eq (by omega) (HLN'.out j).symm) ?_; intro w3 hr3 hb3 hs3 _; have HR3 := Lib.hid (show RowAt w3 g (sh (j + 1)) by rw [← HSU'.out j hj8]; exact hr3); have HB3 := Lib.hid (HB2.out.trans (hb3 _ (by omega))); clear hr3 hb3)
        go_roundw
        case rel => exact ⟨j + 1, by omega, by go_num, HR3.out, HB3.out⟩
        case measure => simp [intOf]; omega
      · obtain rfl : j = 8 := by omega
        have c5 : (13 : Int) + (h : Int) * 11 + 11 - 2 = ((13 + h * 11 + 9 : Nat) : Int) := by omega
        have c6 : (13 : Int) + (h : Int) * 11 + 11 - 1 = ((13 + h * 11 + 10 : Nat) : Int) := by omega
        rw [show (((8 : Nat) : Int)) = 8 from rfl]
        have HGS := Lib.hid (show g < wr.heap.size from (by have := HR2.out.get (i := 0) (by rw [HLN'.out]; omega); exact lt_of_cell this.1))
        go_wp2_with (first | (refine wpList_store_num rfl 3 (.tmp 46) (.const (.int .i64 0)) rfl g (13 + h * 11 + 9) rfl 0 rfl Tin2.size (sh 8) HR2.out (Nat.lt_of_lt_of_eq (by omega) (HLN'.out 8).symm) ?_; intro w3 hr3 hb3 hs3 _; have HR3 := Lib.hid hr3; have HB3 := Lib.hid (HB2.out.trans (hb3 _ (by omega))); have hl3 := Lib.hid (show ((sh 8).set (13 + h * 11 + 9) 0).length = 46 from (List.length_set ..).trans (HLN'.out 8)); clear hr3 hb3) | (refine wpList_store_num rfl 3 (.tmp 51) (.const (.int .i64 0)) rfl g (13 + h * 11 + 10) rfl 0 rfl Tin2.size _ HR3.out (Nat.lt_of_lt_of_eq (by omega) hl3.out.symm) ?_; intro w4 hr4 hb4 hs4 _; have HR4 := Lib.hid hr4; have HB4 := Lib.hid (HB3.out.trans (hb4 _ (by omega))); have hl4 := Lib.hid (show (((sh 8).set (13 + h * 11 + 9) 0).set (13 + h * 11 + 10) 0).length = 46 from (List.length_set ..).trans hl3.out); have l4 : w4.cell? ⟨g, 13 + h * 11, none⟩ = some (.int .i64 (q.length + 1)) := (HR4.out.get (i := 13 + h * 11) (Nat.lt_of_lt_of_eq (by omega) hl4.out.symm)).1.trans (by rw [HCNT'.out]); clear hr4 hb4) | (refine wpList_store_num rfl 3 (.tmp 57) (.tmp 56) rfl g (13 + h * 11) rfl _ rfl Tin2.size _ HR4.out (Nat.lt_of_lt_of_eq (by omega) hl4.out.symm) ?_; intro w5 hr5 hb5 hs5 _; have HR5 := Lib.hid (show RowAt w5 g res from (by rw [← HFIN'.out]; simpa using hr5)); have HB5 := Lib.hid (HB4.out.trans (hb5 _ (by omega))); clear hr5 hb5))
        go_ret
        exact ⟨g, c, rfl, hc46, by omega, by have := HGS.out; omega, HR5.out, HB5.out⟩
end Go.Proofs.YthpnnmkpbkbanaaDoor
