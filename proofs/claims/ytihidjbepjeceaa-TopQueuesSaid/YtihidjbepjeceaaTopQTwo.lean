/-
  A queue with two ends and a ring beside each other, each used by one alone: what their calls do.
-/
import Derived.Test.YtihidjbepjeceaaTopQMath
namespace Go.Proofs.Ytihidjbepjeceaa.TopQ
open Go.RowKit

theorem e0 : errV 44 0 = .nilIface := rfl
/-- The steps of a get of a ring: M of them, of which the last one ends it, and tells X. -/
structure RR (R : Nat → RGS) (M : Nat) (X : Int) : Prop where
  next : ∀ j, j < M → R (j + 1) = Ring.sSg 8 (R j)
  fin : ∀ j, j < M → Ring.gD (R j) = decide (j + 1 = M)
  told : ∀ j, j < M → Ring.gG (R j) = if j + 1 = M then X else 0
  err : ∀ j, j < M → Ring.gE (R j) = 0
  tl : ∀ j, (R j).tl ≤ 100
/-- The steps of a put: three. -/
structure RP (R : Nat → RGS) : Prop where
  next : ∀ j, j < 3 → R (j + 1) = Ring.sSp 8 (R j)
  fin : ∀ j, j < 3 → Ring.pD 8 (R j) = decide (j + 1 = 3)
  put : ∀ j, j < 3 → Ring.pP (R j) = decide (j + 1 = 3)
  err : ∀ j, j < 3 → Ring.pE (R j) = 0
  tl : ∀ j, j < 3 → (R j).tl ≤ 100
/-- Nothing is under way in a ring: m were put, i got. -/
structure RI (r : RGS) (m i : Nat) : Prop where
  pa : r.pa = 0
  ga : r.ga = 0
  tl : r.tl = m
  hd : r.hd = i
/-- A ring's lines, as steps. -/
theorem sg4y (r : RGS) (h : r.ga = 4) (hf : r.tl = r.hd) : Ring.sSg 8 r = ⟨r.pa, r.pv, 0, r.gv, r.hd, r.tl, r.pl, r.puts, r.out, r.have'⟩ := by
  unfold Ring.sSg rgsg; rw [if_neg (by omega), if_pos h, if_pos hf]
theorem sg4n (r : RGS) (h : r.ga = 4) (hf : ¬ r.tl = r.hd) : Ring.sSg 8 r = ⟨r.pa, r.pv, 5, r.gv, r.hd, r.tl, r.pl, r.puts, r.out, r.have'⟩ := by
  unfold Ring.sSg rgsg; rw [if_neg (by omega), if_pos h, if_neg hf]
theorem sg5 (r : RGS) (h : r.ga = 5) : Ring.sSg 8 r = ⟨r.pa, r.pv, 6, r.pl (r.hd % 8), r.hd, r.tl, r.pl, r.puts, r.out, r.have'⟩ := by
  unfold Ring.sSg rgsg; rw [if_neg (by omega), if_neg (by omega), if_pos h]
theorem sg6 (r : RGS) (h : r.ga = 6) : Ring.sSg 8 r = ⟨r.pa, r.pv, 0, r.gv, r.hd + 1, r.tl, r.pl, r.puts, r.out, r.have'⟩ := by
  unfold Ring.sSg rgsg; rw [if_neg (by omega), if_neg (by omega), if_neg (by omega)]
theorem sp1 (r : RGS) (h : r.pa = 1) (hf : ¬ r.tl = r.hd + 8) : Ring.sSp 8 r = ⟨2, r.pv, r.ga, r.gv, r.hd, r.tl, r.pl, r.puts, r.out, r.have'⟩ := by
  unfold Ring.sSp rgsp; rw [if_neg (by omega), if_pos h, if_neg hf]
theorem sp2 (r : RGS) (h : r.pa = 2) : Ring.sSp 8 r = ⟨3, r.pv, r.ga, r.gv, r.hd, r.tl, gup r.pl (r.tl % 8) r.pv, r.puts, r.out, r.have'⟩ := by
  unfold Ring.sSp rgsp; rw [if_neg (by omega), if_neg (by omega), if_pos h]
theorem sp3 (r : RGS) (h : r.pa = 3) : Ring.sSp 8 r = ⟨0, r.pv, r.ga, r.gv, r.hd, r.tl + 1, r.pl, gup r.puts r.tl r.pv, r.out, r.have'⟩ := by
  unfold Ring.sSp rgsp; rw [if_neg (by omega), if_neg (by omega), if_neg (by omega)]
def rit (f : RGS → RGS) (r : RGS) : Nat → RGS
  | 0 => r
  | j + 1 => f (rit f r j)
section
variable {r : RGS} {m i : Nat}
theorem rget_none (h : RI r m i) (him : i = m) (hm : m ≤ 100) : ∃ R : Nat → RGS, R 0 = rgget r ∧ RR R 1 (-1) ∧ RI (R 1) m i ∧ (R 1).puts = r.puts := by
  have e1 : Ring.sSg 8 (rgget r) = ⟨r.pa, r.pv, 0, r.gv, r.hd, r.tl, r.pl, r.puts, r.out, r.tl⟩ := sg4y _ rfl (show r.tl = r.hd by rw [h.tl, h.hd, him])
  refine ⟨fun j => if j = 0 then rgget r else Ring.sSg 8 (rgget r), rfl, ⟨fun j hj => ?_, fun j hj => ?_, fun j hj => ?_, fun j hj => ?_, fun j => ?_⟩, ?_, ?_⟩
  · obtain rfl : j = 0 := by omega
    rfl
  · obtain rfl : j = 0 := by omega
    show Ring.gD (rgget r) = true
    unfold Ring.gD; rw [if_pos (show (rgget r).ga = 4 from rfl)]
    exact decide_eq_true (show r.tl = r.hd by rw [h.tl, h.hd, him])
  · obtain rfl : j = 0 := by omega
    show Ring.gG (rgget r) = -1
    unfold Ring.gG; rw [if_pos (show (rgget r).ga = 4 from rfl), if_pos (show (rgget r).tl = (rgget r).hd by show r.tl = r.hd; rw [h.tl, h.hd, him])]
  · obtain rfl : j = 0 := by omega
    exact if_neg (show ¬ (4 : Nat) = 0 by decide)
  · show (if j = 0 then rgget r else Ring.sSg 8 (rgget r)).tl ≤ 100
    split
    · show r.tl ≤ 100; rw [h.tl]; exact hm
    · rw [e1]; show r.tl ≤ 100; rw [h.tl]; exact hm
  · show RI (Ring.sSg 8 (rgget r)) m i
    rw [e1]; exact ⟨h.pa, rfl, h.tl, h.hd⟩
  · show (Ring.sSg 8 (rgget r)).puts = _
    rw [e1]
theorem rget_seq (k : RGOk 8 r) (h : RI r m i) (him : i < m) (hm : m ≤ 100) : ∃ R : Nat → RGS, R 0 = rgget r ∧ RR R 3 (r.puts i : Nat) ∧ RI (R 3) m (i + 1) ∧ (R 3).puts = r.puts := by
  have g0 : (rgget r).ga = 4 := rfl
  have e1 : Ring.sSg 8 (rgget r) = ⟨r.pa, r.pv, 5, r.gv, r.hd, r.tl, r.pl, r.puts, r.out, r.tl⟩ := sg4n _ rfl (show ¬ r.tl = r.hd by rw [h.tl, h.hd]; omega)
  obtain ⟨r1, f1⟩ : ∃ x, x = Ring.sSg 8 (rgget r) := ⟨_, rfl⟩
  have e2 : Ring.sSg 8 r1 = ⟨r.pa, r.pv, 6, r.pl (r.hd % 8), r.hd, r.tl, r.pl, r.puts, r.out, r.tl⟩ := by
    rw [f1, e1]; exact sg5 _ rfl
  obtain ⟨r2, f2⟩ : ∃ x, x = Ring.sSg 8 r1 := ⟨_, rfl⟩
  have e3 : Ring.sSg 8 r2 = ⟨r.pa, r.pv, 0, r.pl (r.hd % 8), r.hd + 1, r.tl, r.pl, r.puts, r.out, r.tl⟩ := by
    rw [f2, e2]; exact sg6 _ rfl
  have S1 : rit (Ring.sSg 8) (rgget r) 1 = r1 := f1.symm
  have S2 : rit (Ring.sSg 8) (rgget r) 2 = r2 := by rw [f2, ← S1]; rfl
  have S3 : rit (Ring.sSg 8) (rgget r) 3 = Ring.sSg 8 r2 := by rw [← S2]; rfl
  have S0 : rit (Ring.sSg 8) (rgget r) 0 = rgget r := rfl
  have b1 : r1.ga = 5 := by rw [f1, e1]
  have b2 : r2.ga = 6 ∧ r2.gv = r.pl (r.hd % 8) := by rw [f2, e2]; exact ⟨rfl, rfl⟩
  have hv : r.pl (r.hd % 8) = r.puts i := by
    have := k.ok r.hd (Nat.le_refl _) (by rw [h.hd, h.tl]; exact him)
    rw [this, h.hd]
  have c : ∀ j, j < 3 → j = 0 ∨ j = 1 ∨ j = 2 := fun j h => by omega
  have ht : ∀ j, (rit (Ring.sSg 8) (rgget r) j).tl = r.tl := fun j => by
    induction j with
    | zero => rfl
    | succ j ih => show (Ring.sSg 8 _).tl = _; rw [Ring.sSg_tl, ih]
  refine ⟨rit (Ring.sSg 8) (rgget r), rfl, ⟨fun j _ => rfl, fun j hj => ?_, fun j hj => ?_, fun j hj => ?_, fun j => by rw [ht, h.tl]; exact hm⟩, ?_, ?_⟩
  · rcases c j hj with rfl | rfl | rfl
    · rw [S0]; unfold Ring.gD; rw [if_pos g0]; exact decide_eq_false (show ¬ r.tl = r.hd by rw [h.tl, h.hd]; omega)
    · rw [S1]; unfold Ring.gD; rw [b1]; rfl
    · rw [S2]; unfold Ring.gD; rw [b2.1]; rfl
  · rcases c j hj with rfl | rfl | rfl
    · rw [S0]; unfold Ring.gG; rw [if_pos g0, if_neg (show ¬ (rgget r).tl = (rgget r).hd by show ¬ r.tl = r.hd; rw [h.tl, h.hd]; omega)]; rfl
    · rw [S1]; unfold Ring.gG; rw [b1]; rfl
    · rw [S2]; unfold Ring.gG; rw [b2.1, b2.2, hv]; rfl
  · rcases c j hj with rfl | rfl | rfl
    · rw [S0]; exact if_neg (show ¬ (4 : Nat) = 0 by decide)
    · rw [S1]; unfold Ring.gE; rw [b1]; rfl
    · rw [S2]; unfold Ring.gE; rw [b2.1]; rfl
  · rw [S3, e3]; exact ⟨h.pa, rfl, h.tl, by show r.hd + 1 = _; rw [h.hd]⟩
  · rw [S3, e3]
theorem rput_seq (h : RI r m i) (h8 : m < i + 8) (hm : m ≤ 90) (x : Nat) : ∃ R : Nat → RGS, R 0 = rgput r x ∧ RP R ∧ RI (R 3) (m + 1) i ∧ (R 3).puts = gup r.puts m x := by
  have g0 : (rgput r x).pa = 1 := rfl
  have nf : ¬ r.tl = r.hd + 8 := by rw [h.tl, h.hd]; omega
  have e1 : Ring.sSp 8 (rgput r x) = ⟨2, x, r.ga, r.gv, r.hd, r.tl, r.pl, r.puts, r.hd, r.have'⟩ := sp1 _ rfl nf
  obtain ⟨r1, f1⟩ : ∃ x', x' = Ring.sSp 8 (rgput r x) := ⟨_, rfl⟩
  have e2 : Ring.sSp 8 r1 = ⟨3, x, r.ga, r.gv, r.hd, r.tl, gup r.pl (r.tl % 8) x, r.puts, r.hd, r.have'⟩ := by
    rw [f1, e1]; exact sp2 _ rfl
  obtain ⟨r2, f2⟩ : ∃ x', x' = Ring.sSp 8 r1 := ⟨_, rfl⟩
  have e3 : Ring.sSp 8 r2 = ⟨0, x, r.ga, r.gv, r.hd, r.tl + 1, gup r.pl (r.tl % 8) x, gup r.puts r.tl x, r.hd, r.have'⟩ := by
    rw [f2, e2]; exact sp3 _ rfl
  have S0 : rit (Ring.sSp 8) (rgput r x) 0 = rgput r x := rfl
  have S1 : rit (Ring.sSp 8) (rgput r x) 1 = r1 := f1.symm
  have S2 : rit (Ring.sSp 8) (rgput r x) 2 = r2 := by rw [f2, ← S1]; rfl
  have S3 : rit (Ring.sSp 8) (rgput r x) 3 = Ring.sSp 8 r2 := by rw [← S2]; rfl
  have b1 : r1.pa = 2 ∧ r1.tl = r.tl := by rw [f1, e1]; exact ⟨rfl, rfl⟩
  have b2 : r2.pa = 3 ∧ r2.tl = r.tl := by rw [f2, e2]; exact ⟨rfl, rfl⟩
  have c : ∀ j, j < 3 → j = 0 ∨ j = 1 ∨ j = 2 := fun j h => by omega
  refine ⟨rit (Ring.sSp 8) (rgput r x), rfl, ⟨fun j _ => rfl, fun j hj => ?_, fun j hj => ?_, fun j hj => ?_, fun j hj => ?_⟩, ?_, ?_⟩
  · rcases c j hj with rfl | rfl | rfl
    · rw [S0]; unfold Ring.pD; rw [if_pos g0]; exact decide_eq_false nf
    · rw [S1]; unfold Ring.pD; rw [b1.1]; rfl
    · rw [S2]; unfold Ring.pD; rw [b2.1]; rfl
  · rcases c j hj with rfl | rfl | rfl
    · rw [S0]; unfold Ring.pP; rw [g0]
    · rw [S1]; unfold Ring.pP; rw [b1.1]
    · rw [S2]; unfold Ring.pP; rw [b2.1]
  · rcases c j hj with rfl | rfl | rfl
    · rw [S0]; unfold Ring.pE; rw [g0]; rfl
    · rw [S1]; unfold Ring.pE; rw [b1.1]; rfl
    · rw [S2]; unfold Ring.pE; rw [b2.1]; rfl
  · rcases c j hj with rfl | rfl | rfl
    · rw [S0]; show r.tl ≤ 100; rw [h.tl]; omega
    · rw [S1, b1.2, h.tl]; omega
    · rw [S2, b2.2, h.tl]; omega
  · rw [S3, e3]; exact ⟨rfl, h.ga, by show r.tl + 1 = _; rw [h.tl], h.hd⟩
  · rw [S3, e3]; show gup r.puts r.tl x = _; rw [h.tl]
end
/-- The queue in block gq, the ring in block gr. -/
structure TQ (w W : World) (gq gr : Nat) (s : FG) (vl : Nat → Int) (r : RGS) : Prop where
  q : Fif.LkAt w W gq 1 s vl
  r : Ring.LkAt w W gr 8 r r.tl
  ne : gq ≠ gr
section
variable {w W W' : World} {gq gr : Nat} {s s' : FG} {vl vl' : Nat → Int} {r r' : RGS} {a : Nat}
theorem TQ.turnq (h : TQ w W gq gr s vl r) (hq : Fif.LkAt w W' gq 1 s' vl') (ht : Touch (fun k => k = gq) W W') : TQ w W' gq gr s' vl' r :=
  ⟨hq, h.r.touch ht fun k hk => by
    have := h.q.new
    have := h.ne
    omega, h.ne⟩
theorem TQ.turnr (h : TQ w W gq gr s vl r) (hr : Ring.LkAt w W' gr 8 r' a) (ht : Touch (fun k => k = gr) W W') : TQ w W' gq gr s vl r' :=
  ⟨h.q.touch ht fun k hk => by
    have := h.r.new
    have := h.ne
    omega, ⟨hr.new, hr.lk, hr.below, hr.ok, Nat.le_refl _, hr.pos, hr.eight⟩, h.ne⟩
theorem TQ.putq (h : TQ w W gq gr s vl r) (ha : (s.v.h 0).a = 0) (hk : s.v.k ≠ 40) (x : Nat) (hx : x ≤ 1000) :
    Calls Try.prog 12 #[.pointer (some ⟨gq, 0, none⟩), .int .i64 0, .int .i64 (x : Int)] W fun e w' => e = .returned .nilIface ∧ TQ w w' gq gr (fgput s 0) (rput vl s.v.k x) r := by
  have e1 : Fif.sBegE 1 s 0 (x : Int) = 0 := by
    unfold Fif.sBegE
    rw [if_neg (by omega), if_neg (show ¬ (s.v.h (0 : Int).toNat).a ≠ 0 from fun q => q ha), if_neg (by omega), if_neg hk]
  have e2 : Fif.sBegS 1 s 0 (x : Int) = fgput s 0 := by unfold Fif.sBegS; rw [if_pos e1, if_neg (by omega)]; rfl
  have e3 : Fif.sBegV 1 s vl 0 (x : Int) = rput vl s.v.k x := by unfold Fif.sBegV; rw [if_pos e1, if_neg (by omega)]
  exact (Fif.putL h.q 0 (x : Int) (by omega) (by omega)).mono fun _ _ ⟨he, hl, ht⟩ => ⟨by rw [he, e1]; rfl, by rw [← e2, ← e3]; exact h.turnq hl ht⟩
theorem TQ.getq (h : TQ w W gq gr s vl r) (ha : (s.v.h 0).a = 0) :
    Calls Try.prog 14 #[.pointer (some ⟨gq, 0, none⟩), .int .i64 0] W fun e w' => e = .returned .nilIface ∧ TQ w w' gq gr (fgget s 0) vl r := by
  have e1 : Fif.sBegE 1 s 0 (-1) = 0 := by
    unfold Fif.sBegE
    rw [if_neg (by omega), if_neg (show ¬ (s.v.h (0 : Int).toNat).a ≠ 0 from fun q => q ha), if_pos (by omega)]
  have e2 : Fif.sBegS 1 s 0 (-1) = fgget s 0 := by unfold Fif.sBegS; rw [if_pos e1, if_pos (by omega)]; rfl
  have e3 : Fif.sBegV 1 s vl 0 (-1) = vl := by unfold Fif.sBegV; rw [if_pos e1, if_pos (by omega)]
  exact (Fif.getL h.q 0 (-1) (by omega)).mono fun _ _ ⟨he, hl, ht⟩ => ⟨by rw [he, e1]; rfl, by rw [e2, e3] at hl; exact h.turnq hl ht⟩
theorem TQ.stepq {S : Nat → FG} {N j : Nat} {X : Int} (h : TQ w W gq gr (S j) vl r) (fr : FR S N X vl) (hj : j < N) :
    Calls Try.prog 13 #[.pointer (some ⟨gq, 0, none⟩), .int .i64 0] W fun e w' => e = .returned (.tuple #[.bool (decide (j + 1 = N)), .int .i64 (if j + 1 = N then X else 0), .nilIface]) ∧ TQ w w' gq gr (S (j + 1)) vl r := by
  have e1 : Fif.sStpE 1 (S j) 0 = 0 := by
    unfold Fif.sStpE
    rw [if_neg (by omega), if_neg (show ¬ ((S j).v.h (0 : Int).toNat).a = 0 from fr.line j hj)]
  have e2 : Fif.sStpD 1 (S j) 0 = decide (j + 1 = N) := by unfold Fif.sStpD; rw [if_pos e1]; exact fr.fin j hj
  have e3 : Fif.sStpG 1 (S j) vl 0 = if j + 1 = N then X else 0 := by unfold Fif.sStpG; rw [if_pos e1]; exact fr.told j hj
  have e4 : Fif.sStpS 1 (S j) 0 = S (j + 1) := by unfold Fif.sStpS; rw [if_pos e1, fr.next j hj]; rfl
  exact (Fif.stepL h.q 0).mono fun _ _ ⟨he, hl, ht⟩ => ⟨by rw [he, e1, e2, e3]; rfl, by rw [e4] at hl; exact h.turnq hl ht⟩
theorem TQ.putr (h : TQ w W gq gr s vl r) (ha : r.pa = 0) (x : Nat) (hx : x ≤ 1000) :
    Calls Try.prog 8 #[.pointer (some ⟨gr, 0, none⟩), .int .i64 (x : Int)] W fun e w' => e = .returned .nilIface ∧ TQ w w' gq gr s vl (rgput r x) := by
  have e1 : Ring.sPut r x = rgput r x := by unfold Ring.sPut; rw [if_pos ha]
  exact (Ring.putL h.r x hx).mono fun _ _ ⟨he, hl, ht⟩ => ⟨by rw [he, ha]; rfl, by rw [e1] at hl; exact h.turnr hl ht⟩
theorem TQ.getr (h : TQ w W gq gr s vl r) (ha : r.ga = 0) :
    Calls Try.prog 7 #[.pointer (some ⟨gr, 0, none⟩)] W fun e w' => e = .returned .nilIface ∧ TQ w w' gq gr s vl (rgget r) := by
  have e1 : Ring.sGet r = rgget r := by unfold Ring.sGet; rw [if_pos ha]
  exact (Ring.getL h.r).mono fun _ _ ⟨he, hl, ht⟩ => ⟨by rw [he, ha]; rfl, by rw [e1] at hl; exact h.turnr hl ht⟩
theorem TQ.stepp {R : Nat → RGS} {j : Nat} (h : TQ w W gq gr s vl (R j)) (fr : RP R) (hj : j < 3) :
    Calls Try.prog 9 #[.pointer (some ⟨gr, 0, none⟩)] W fun e w' => e = .returned (.tuple #[.bool (decide (j + 1 = 3)), .bool (decide (j + 1 = 3)), .nilIface]) ∧ TQ w w' gq gr s vl (R (j + 1)) :=
  (Ring.spL h.r (by have := fr.tl j hj; omega)).mono fun _ _ ⟨he, hl, ht⟩ => ⟨by rw [he, fr.fin j hj, fr.put j hj, fr.err j hj]; rfl, by rw [← fr.next j hj] at hl; exact h.turnr hl ht⟩
theorem TQ.stepg {R : Nat → RGS} {M j : Nat} {X : Int} (h : TQ w W gq gr s vl (R j)) (fr : RR R M X) (hj : j < M) :
    Calls Try.prog 10 #[.pointer (some ⟨gr, 0, none⟩)] W fun e w' => e = .returned (.tuple #[.bool (decide (j + 1 = M)), .int .i64 (if j + 1 = M then X else 0), .nilIface]) ∧ TQ w w' gq gr s vl (R (j + 1)) :=
  (Ring.sgL h.r (by have := fr.tl j; omega)).mono fun _ _ ⟨he, hl, ht⟩ => ⟨by rw [he, fr.fin j hj, fr.told j hj, fr.err j hj]; rfl, by rw [← fr.next j hj] at hl; exact h.turnr hl ht⟩
end
/-- Nothing is under way in either; they hold the same. -/
structure TI (s : FG) (vl : Nat → Int) (r : RGS) (m i : Nat) : Prop where
  f : FI s.v m i
  g : RI r m i
  same : ∀ y, y < m → vl (y + 1) = ((r.puts y : Nat) : Int)
end Go.Proofs.Ytihidjbepjeceaa.TopQ
