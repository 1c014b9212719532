/-
  Chapter 17 as plain mathematics: one fills, one empties. It imports nothing of the translation.
-/
namespace Go.Proofs.YtihidjbepjeceaaDoor
/-- The line of who puts, and its value; the line of who gets, and what it took; the words; the places; what was put, one by one; how many were got when the put began, how many put when the get began. -/
structure RGS where
  pa : Nat
  pv : Nat
  ga : Nat
  gv : Nat
  hd : Nat
  tl : Nat
  pl : Nat → Nat
  puts : Nat → Nat
  out : Nat
  have' : Nat
def rgnew : RGS := ⟨0, 0, 0, 0, 0, 0, fun _ => 0, fun _ => 0, 0, 0⟩
def rgput (g : RGS) (x : Nat) : RGS := ⟨1, x, g.ga, g.gv, g.hd, g.tl, g.pl, g.puts, g.hd, g.have'⟩
def rgget (g : RGS) : RGS := ⟨g.pa, g.pv, 4, g.gv, g.hd, g.tl, g.pl, g.puts, g.out, g.tl⟩
def gup (f : Nat → Nat) (i x : Nat) : Nat → Nat := fun j => if j = i then x else f j
theorem gup_same (f : Nat → Nat) (i x : Nat) : gup f i x i = x := by simp [gup]
theorem gup_other {f : Nat → Nat} {i j x : Nat} (h : j ≠ i) : gup f i x j = f j := by simp [gup, h]
/-- Who puts does a line. -/
def rgsp (n : Nat) (g : RGS) : RGS :=
  if g.pa = 1 then (if g.tl = g.hd + n then ⟨0, g.pv, g.ga, g.gv, g.hd, g.tl, g.pl, g.puts, g.out, g.have'⟩ else ⟨2, g.pv, g.ga, g.gv, g.hd, g.tl, g.pl, g.puts, g.out, g.have'⟩)
  else if g.pa = 2 then ⟨3, g.pv, g.ga, g.gv, g.hd, g.tl, gup g.pl (g.tl % n) g.pv, g.puts, g.out, g.have'⟩
  else ⟨0, g.pv, g.ga, g.gv, g.hd, g.tl + 1, g.pl, gup g.puts g.tl g.pv, g.out, g.have'⟩
/-- Who gets does a line. -/
def rgsg (n : Nat) (g : RGS) : RGS :=
  if g.ga = 4 then (if g.tl = g.hd then ⟨g.pa, g.pv, 0, g.gv, g.hd, g.tl, g.pl, g.puts, g.out, g.have'⟩ else ⟨g.pa, g.pv, 5, g.gv, g.hd, g.tl, g.pl, g.puts, g.out, g.have'⟩)
  else if g.ga = 5 then ⟨g.pa, g.pv, 6, g.pl (g.hd % n), g.hd, g.tl, g.pl, g.puts, g.out, g.have'⟩
  else ⟨g.pa, g.pv, 0, g.gv, g.hd + 1, g.tl, g.pl, g.puts, g.out, g.have'⟩
structure RGOk (n : Nat) (g : RGS) : Prop where
  pa : g.pa ≤ 3
  ga : g.ga = 0 ∨ g.ga = 4 ∨ g.ga = 5 ∨ g.ga = 6
  lo : g.hd ≤ g.tl
  hi : g.tl ≤ g.hd + n
  room : g.pa = 2 ∨ g.pa = 3 → g.tl < g.hd + n
  put : g.pa = 3 → g.pl (g.tl % n) = g.pv
  one : g.ga = 5 ∨ g.ga = 6 → g.hd < g.tl
  got : g.ga = 6 → g.gv = g.puts g.hd
  ok : ∀ i, g.hd ≤ i → i < g.tl → g.pl (i % n) = g.puts i
  out : g.out ≤ g.hd
  have' : g.have' ≤ g.tl
theorem rgnew_ok (n : Nat) : RGOk n rgnew := by
  refine ⟨Nat.zero_le _, .inl rfl, Nat.le_refl _, Nat.zero_le _, fun h => ?_, fun h => ?_, fun h => ?_, fun h => ?_, fun i _ h => absurd h (Nat.not_lt_zero _), Nat.le_refl _, Nat.le_refl _⟩
  · have : (0 : Nat) = 2 ∨ (0 : Nat) = 3 := h
    omega
  · have : (0 : Nat) = 3 := h
    omega
  · have : (0 : Nat) = 5 ∨ (0 : Nat) = 6 := h
    omega
  · have : (0 : Nat) = 6 := h
    omega
theorem rmod {i t n : Nat} (h : i < t) (h2 : t < i + n) : i % n ≠ t % n := by
  intro e
  have h3 : (t - i) % n = 0 := Nat.sub_mod_eq_zero_of_mod_eq e.symm
  rw [Nat.mod_eq_of_lt (by omega)] at h3
  omega
section
variable {n : Nat} {g : RGS} (k : RGOk n g)
include k
theorem RGOk.beginPut (x : Nat) : RGOk n (rgput g x) := by
  refine ⟨(by omega : 1 ≤ 3), k.ga, k.lo, k.hi, fun h => ?_, fun h => ?_, k.one, k.got, k.ok, Nat.le_refl _, k.have'⟩
  · have : (1 : Nat) = 2 ∨ (1 : Nat) = 3 := h
    omega
  · have : (1 : Nat) = 3 := h
    omega
theorem RGOk.beginGet : RGOk n (rgget g) := by
  refine ⟨k.pa, .inr (.inl rfl), k.lo, k.hi, k.room, k.put, fun h => ?_, fun h => ?_, k.ok, k.out, Nat.le_refl _⟩
  · have : (4 : Nat) = 5 ∨ (4 : Nat) = 6 := h
    omega
  · have : (4 : Nat) = 6 := h
    omega
theorem RGOk.stepPut (h0 : g.pa ≠ 0) : RGOk n (rgsp n g) := by
  have hpa := k.pa
  have hlo := k.lo
  have hhi := k.hi
  unfold rgsp
  by_cases h1 : g.pa = 1
  · rw [if_pos h1]
    split
    · refine ⟨Nat.zero_le _, k.ga, k.lo, k.hi, fun h => ?_, fun h => ?_, k.one, k.got, k.ok, k.out, k.have'⟩
      · have : (0 : Nat) = 2 ∨ (0 : Nat) = 3 := h
        omega
      · have : (0 : Nat) = 3 := h
        omega
    · refine ⟨(by omega : 2 ≤ 3), k.ga, k.lo, k.hi, fun _ => by show g.tl < g.hd + n; omega, fun h => ?_, k.one, k.got, k.ok, k.out, k.have'⟩
      have : (2 : Nat) = 3 := h
      omega
  · rw [if_neg h1]
    by_cases h2 : g.pa = 2
    · rw [if_pos h2]
      have hr := k.room (.inl h2)
      refine ⟨Nat.le_refl _, k.ga, k.lo, k.hi, fun _ => hr, fun _ => gup_same _ _ _, k.one, k.got, fun i hi1 hi2 => ?_, k.out, k.have'⟩
      have hi1 : g.hd ≤ i := hi1
      have hi2 : i < g.tl := hi2
      show gup _ _ _ _ = _
      rw [gup_other (rmod hi2 (by omega))]
      exact k.ok i hi1 hi2
    · rw [if_neg h2]
      have h3 : g.pa = 3 := by omega
      have hr := k.room (.inr h3)
      refine ⟨Nat.zero_le _, k.ga, by show g.hd ≤ g.tl + 1; omega, by show g.tl + 1 ≤ g.hd + n; omega, fun h => ?_, fun h => ?_, fun h => ?_, fun h => ?_, fun i hi1 hi2 => ?_, k.out, by show g.have' ≤ g.tl + 1; have := k.have'; omega⟩
      · have : (0 : Nat) = 2 ∨ (0 : Nat) = 3 := h
        omega
      · have : (0 : Nat) = 3 := h
        omega
      · show g.hd < g.tl + 1
        omega
      · show g.gv = gup g.puts g.tl g.pv g.hd
        have := k.one (.inr h)
        rw [gup_other (by omega)]; exact k.got h
      · have hi2 : i < g.tl + 1 := hi2
        show _ = gup g.puts g.tl g.pv i
        by_cases e : i = g.tl
        · rw [e, gup_same]; exact k.put h3
        · rw [gup_other e]; exact k.ok i hi1 (by omega)
theorem RGOk.stepGet (h0 : g.ga ≠ 0) : RGOk n (rgsg n g) := by
  have hga := k.ga
  have hlo := k.lo
  have hhi := k.hi
  unfold rgsg
  by_cases h1 : g.ga = 4
  · rw [if_pos h1]
    split
    · refine ⟨k.pa, .inl rfl, k.lo, k.hi, k.room, k.put, fun h => ?_, fun h => ?_, k.ok, k.out, k.have'⟩
      · have : (0 : Nat) = 5 ∨ (0 : Nat) = 6 := h
        omega
      · have : (0 : Nat) = 6 := h
        omega
    · refine ⟨k.pa, .inr (.inr (.inl rfl)), k.lo, k.hi, k.room, k.put, fun _ => by show g.hd < g.tl; omega, fun h => ?_, k.ok, k.out, k.have'⟩
      have : (5 : Nat) = 6 := h
      omega
  · rw [if_neg h1]
    by_cases h2 : g.ga = 5
    · rw [if_pos h2]
      have hr := k.one (.inl h2)
      exact ⟨k.pa, .inr (.inr (.inr rfl)), k.lo, k.hi, k.room, k.put, fun _ => hr, fun _ => k.ok g.hd (Nat.le_refl _) hr, k.ok, k.out, k.have'⟩
    · rw [if_neg h2]
      have h3 : g.ga = 6 := by omega
      have hr := k.one (.inr h3)
      refine ⟨k.pa, .inl rfl, hr, by show g.tl ≤ g.hd + 1 + n; omega, fun h => by show g.tl < g.hd + 1 + n; have := k.room h; omega, k.put, fun h => ?_, fun h => ?_, fun i hi1 hi2 => k.ok i (by have : g.hd + 1 ≤ i := hi1; omega) hi2, by show g.out ≤ g.hd + 1; have := k.out; omega, k.have'⟩
      · have : (0 : Nat) = 5 ∨ (0 : Nat) = 6 := h
        omega
      · have : (0 : Nat) = 6 := h
        omega
/-- What is got is what was put, in order. -/
theorem RGOk.gets (h : g.ga = 6) : g.hd < g.tl ∧ g.gv = g.puts g.hd := ⟨k.one (.inr h), k.got h⟩
end
end Go.Proofs.YtihidjbepjeceaaDoor
