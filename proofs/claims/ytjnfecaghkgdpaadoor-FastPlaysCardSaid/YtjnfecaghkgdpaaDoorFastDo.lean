import Derived.Test.YtjnfecaghkgdpaaDoorFast
import Derived.Deep.DeepCutAuto
/-
  Package fast: what a hand's line does.
-/
namespace Go.Proofs.YtjnfecaghkgdpaaDoor.Fast
open Go.RowKit

/-- Where hand p stands when it has done its line. -/
def vat (n : Nat) (s : VS) (p : Nat) : Nat :=
  if (s.s p).a = 1 then 2 else if (s.s p).a = 2 then 3 else if (s.s p).a = 3 then (if s.Y = 0 then 6 else 4) else if (s.s p).a = 4 then 5
  else if (s.s p).a = 5 then (if s.Y = 0 then 1 else 5) else if (s.s p).a = 6 then 7 else if (s.s p).a = 7 then (if s.X = p + 1 then 12 else 8) else if (s.s p).a = 8 then 9
  else if (s.s p).a = 9 then (if (s.s (s.s p).k).b = 0 then (if (s.s p).k + 1 = n then 10 else 9) else 9) else if (s.s p).a = 10 then (if s.Y = p + 1 then 12 else 11)
  else if (s.s p).a = 11 then (if s.Y = 0 then 1 else 11) else if (s.s p).a = 12 then 13 else if (s.s p).a = 13 then 14 else 1
/-- Hand p has done its line, but that it stands where it stood. -/
def vdid (s : VS) (p : Nat) : VS :=
  if (s.s p).a = 1 then putB s p 1 else if (s.s p).a = 2 then putX s (p + 1) else if (s.s p).a = 3 then s else if (s.s p).a = 4 then putB s p 0
  else if (s.s p).a = 5 then (if s.Y = 0 then putK s p 0 else s) else if (s.s p).a = 6 then putY s (p + 1) else if (s.s p).a = 7 then s else if (s.s p).a = 8 then putK (putB s p 0) p 0
  else if (s.s p).a = 9 then (if (s.s (s.s p).k).b = 0 then putK s p ((s.s p).k + 1) else s) else if (s.s p).a = 10 then s
  else if (s.s p).a = 11 then (if s.Y = 0 then putK s p 0 else s) else if (s.s p).a = 12 then s else if (s.s p).a = 13 then putY s 0 else putK (putB s p 0) p 0
set_option maxHeartbeats 4000000 in
theorem do_any {g n : Nat} {s : VS} (w : World) (hk : Lk0 w g n s) (hn : n ≤ 4) {p : Nat} (hp : p < n) (ha : 1 ≤ (s.s p).a ∧ (s.s p).a ≤ 14) (hr : (s.s p).a = 9 → (s.s p).k < n) :
    Calls Tryd.prog 20 #[.pointer (some ⟨g, 0, none⟩), .int .i64 p] w fun e w' =>
      e = .returned (.int .i64 (vat n s p)) ∧ Lk0 w' g n (vdid s p) ∧ Touch (fun k => k = g) w w' := by
  have HL := Lib.hid hk.lt
  have HK := Lib.hid hk
  clear hk
  go_enter Tryd.func20, Tryd.ntmps20
  go_upto_region 2 with (first | (go_at_call 24; (with_reducible refine (pick0_any w HL.out).mono ?_); rintro e w1 ⟨b1, b2, rfl, hp1, hb1⟩; have HP1 := Lib.hid hp1; have H1 := Lib.hid hb1; clear hp1 hb1) | (go_at_call 24; (with_reducible refine (pick2_any _ (Nat.lt_of_lt_of_le HL.out H1.out.size)).mono ?_); rintro e w2 ⟨c1, c2, rfl, hp2, hb2⟩; have HP2 := Lib.hid hp2; have HQ2 := Lib.hid hb2; have H2 := Lib.hid (H1.out.trans (hb2.mono H1.out.size)); clear hp2 hb2))
  have hl2 : Lk0 w2 g n s := HK.out.below0 H2.out HL.out
  have hq1 : Pk w2 g b1 b2 0 := HP1.out.below HQ2.out
  have hq2 : Pk w2 g c1 c2 2 := HP2.out
  have ht2 : Touch (fun k => k = g) w w2 := Touch.of_below H2.out fun i h1 h2 => absurd h2 (Nat.not_lt_of_le h1)
  have hcn := hl2.num
  have hca := hl2.xa hp
  have hck := hl2.xk hp
  have hcX := hl2.xX
  have hcY := hl2.xY
  have hcb := hl2.xb hp
  have fk := hl2.free (7 + p * 2 + 1)
  have fb := hl2.free (1 + (2 + p))
  have fX := hl2.free 1
  have fY := hl2.free 2
  have hp4 : (p : Int) < 4 := by omega
  have hwp : IntKind.i64.wrap ((p : Int) + 1) = ((p + 1 : Nat) : Int) := (IntWalk.i64_in _ (by omega)).trans (by omega)
  have HT := Lib.hid ht2
  have HL2 := Lib.hid hl2
  have HA := Lib.hid hq1
  have HB := Lib.hid hq2
  clear HK HP1 HQ2 HP2 H1 H2 HL ht2 hl2 hq1 hq2
  obtain a1 | a2 | a3 | a4 | a5 | a6 | a7 | a8 | a9 | a10 | a11 | a12 | a13 | a14 : (s.s p).a = 1 ∨ (s.s p).a = 2 ∨ (s.s p).a = 3 ∨ (s.s p).a = 4 ∨ (s.s p).a = 5 ∨ (s.s p).a = 6 ∨ (s.s p).a = 7 ∨ (s.s p).a = 8 ∨ (s.s p).a = 9 ∨ (s.s p).a = 10 ∨ (s.s p).a = 11 ∨ (s.s p).a = 12 ∨ (s.s p).a = 13 ∨ (s.s p).a = 14 := by omega
  · have e1 : vat n s p = 2 := by simp [vat, a1]
    have e2 : vdid s p = putB s p 1 := by simp [vdid, a1]
    have E1 := Lib.hid e1
    have E2 := Lib.hid e2
    rw [a1] at hca
    clear a1 e1 e2 ha hr
    go_wp2_with (first | (go_at_call 29; (with_reducible refine (picked_any (k := p) (f := 2) (d := 2 + p) _ HB.out rfl (by omega)).mono ?_); rintro e w9 ⟨rfl, i9, rfl⟩))
    go_ret
    rw [E1.out, E2.out]
    exact ⟨rfl, (HL2.out.drewN _).setB hn hp 1, (HT.out.drewN _).setCell (Or.inl rfl) _⟩
  · have e1 : vat n s p = 3 := by simp [vat, a2]
    have e2 : vdid s p = putX s (p + 1) := by simp [vdid, a2]
    have E1 := Lib.hid e1
    have E2 := Lib.hid e2
    rw [a2] at hca
    clear a2 e1 e2 ha hr
    go_wp2_with (first | (go_at_call 29; (with_reducible refine (picked0_any _ HA.out).mono ?_); rintro e w9 ⟨rfl, i9, rfl⟩))
    go_ret
    rw [E1.out, E2.out]
    exact ⟨rfl, (HL2.out.drewN _).setX hn (p + 1), (HT.out.drewN _).setCell (Or.inl rfl) _⟩
  · by_cases hb : s.Y = 0
    · have e1 : vat n s p = 6 := by simp [vat, a3, hb]
      have e2 : vdid s p = s := by simp [vdid, a3]
      have hI : ((s.Y : Int) == 0) = true := by simp; omega
      have E1 := Lib.hid e1
      have E2 := Lib.hid e2
      rw [a3] at hca
      clear a3 e1 e2 ha hr hb
      go_wp2_with (first | (go_at_call 29; (with_reducible refine (picked1_any _ HA.out).mono ?_); rintro e w9 ⟨rfl, i9, rfl⟩))
      go_ret
      rw [E1.out, E2.out]
      exact ⟨rfl, HL2.out.drewN _, HT.out.drewN _⟩
    · have e1 : vat n s p = 4 := by simp [vat, a3, hb]
      have e2 : vdid s p = s := by simp [vdid, a3]
      have hI : ((s.Y : Int) == 0) = false := by simp; omega
      have E1 := Lib.hid e1
      have E2 := Lib.hid e2
      rw [a3] at hca
      clear a3 e1 e2 ha hr hb
      go_wp2_with (first | (go_at_call 29; (with_reducible refine (picked1_any _ HA.out).mono ?_); rintro e w9 ⟨rfl, i9, rfl⟩))
      go_ret
      rw [E1.out, E2.out]
      exact ⟨rfl, HL2.out.drewN _, HT.out.drewN _⟩
  · have e1 : vat n s p = 5 := by simp [vat, a4]
    have e2 : vdid s p = putB s p 0 := by simp [vdid, a4]
    have E1 := Lib.hid e1
    have E2 := Lib.hid e2
    rw [a4] at hca
    clear a4 e1 e2 ha hr
    go_wp2_with (first | (go_at_call 29; (with_reducible refine (picked_any (k := p) (f := 2) (d := 2 + p) _ HB.out rfl (by omega)).mono ?_); rintro e w9 ⟨rfl, i9, rfl⟩))
    go_ret
    rw [E1.out, E2.out]
    exact ⟨rfl, (HL2.out.drewN _).setB hn hp 0, (HT.out.drewN _).setCell (Or.inl rfl) _⟩
  · by_cases hb : s.Y = 0
    · have e1 : vat n s p = 1 := by simp [vat, a5, hb]
      have e2 : vdid s p = putK s p 0 := by simp [vdid, a5, hb]
      have hI : ((s.Y : Int) != 0) = false := by simp; omega
      have E1 := Lib.hid e1
      have E2 := Lib.hid e2
      rw [a5] at hca
      clear a5 e1 e2 ha hr hb
      go_wp2_with (first | (go_at_call 29; (with_reducible refine (picked1_any _ HA.out).mono ?_); rintro e w9 ⟨rfl, i9, rfl⟩))
      go_ret
      rw [E1.out, E2.out]
      exact ⟨rfl, (HL2.out.drewN _).setK hn hp 0, (HT.out.drewN _).setCell (Or.inl rfl) _⟩
    · have e1 : vat n s p = 5 := by simp [vat, a5, hb]
      have e2 : vdid s p = s := by simp [vdid, a5, hb]
      have hI : ((s.Y : Int) != 0) = true := by simp; omega
      have E1 := Lib.hid e1
      have E2 := Lib.hid e2
      rw [a5] at hca
      clear a5 e1 e2 ha hr hb
      go_wp2_with (first | (go_at_call 29; (with_reducible refine (picked1_any _ HA.out).mono ?_); rintro e w9 ⟨rfl, i9, rfl⟩))
      go_ret
      rw [E1.out, E2.out]
      exact ⟨rfl, HL2.out.drewN _, HT.out.drewN _⟩
  · have e1 : vat n s p = 7 := by simp [vat, a6]
    have e2 : vdid s p = putY s (p + 1) := by simp [vdid, a6]
    have E1 := Lib.hid e1
    have E2 := Lib.hid e2
    rw [a6] at hca
    clear a6 e1 e2 ha hr
    go_wp2_with (first | (go_at_call 29; (with_reducible refine (picked1_any _ HA.out).mono ?_); rintro e w9 ⟨rfl, i9, rfl⟩))
    go_ret
    rw [E1.out, E2.out]
    exact ⟨rfl, (HL2.out.drewN _).setY hn (p + 1), (HT.out.drewN _).setCell (Or.inl rfl) _⟩
  · by_cases hb : s.X = p + 1
    · have e1 : vat n s p = 12 := by simp [vat, a7, hb]
      have e2 : vdid s p = s := by simp [vdid, a7]
      rw [hb] at hcX
      have E1 := Lib.hid e1
      have E2 := Lib.hid e2
      rw [a7] at hca
      clear a7 e1 e2 ha hr hb
      go_wp2_with (first | (go_at_call 29; (with_reducible refine (picked0_any _ HA.out).mono ?_); rintro e w9 ⟨rfl, i9, rfl⟩))
      go_ret
      rw [E1.out, E2.out]
      exact ⟨rfl, HL2.out.drewN _, HT.out.drewN _⟩
    · have e1 : vat n s p = 8 := by simp [vat, a7, hb]
      have e2 : vdid s p = s := by simp [vdid, a7]
      have hI : ((s.X : Int) == ((p + 1 : Nat) : Int)) = false := by simp; omega
      have E1 := Lib.hid e1
      have E2 := Lib.hid e2
      rw [a7] at hca
      clear a7 e1 e2 ha hr hb
      go_wp2_with (first | (go_at_call 29; (with_reducible refine (picked0_any _ HA.out).mono ?_); rintro e w9 ⟨rfl, i9, rfl⟩))
      go_ret
      rw [E1.out, E2.out]
      exact ⟨rfl, HL2.out.drewN _, HT.out.drewN _⟩
  · have e1 : vat n s p = 9 := by simp [vat, a8]
    have e2 : vdid s p = putK (putB s p 0) p 0 := by simp [vdid, a8]
    have E1 := Lib.hid e1
    have E2 := Lib.hid e2
    rw [a8] at hca
    clear a8 e1 e2 ha hr
    go_wp2_with (first | (go_at_call 29; (with_reducible refine (picked_any (k := p) (f := 2) (d := 2 + p) _ HB.out rfl (by omega)).mono ?_); rintro e w9 ⟨rfl, i9, rfl⟩))
    go_ret
    rw [E1.out, E2.out]
    exact ⟨rfl, ((HL2.out.drewN _).setB hn hp 0).setK hn hp 0, ((HT.out.drewN _).setCell (Or.inl rfl) _).setCell (Or.inl rfl) _⟩
  · by_cases hb : (s.s (s.s p).k).b = 0
    · by_cases hg : (s.s p).k + 1 = n
      · have e1 : vat n s p = 10 := by simp [vat, a9, hb, hg]
        have e2 : vdid s p = putK s p ((s.s p).k + 1) := by simp [vdid, a9, hb]
        obtain ⟨r, hrr⟩ : ∃ r, r = (s.s p).k := ⟨_, rfl⟩
        have hrn := hr a9
        rw [← hrr] at hck hb hrn
        have hcB := HL2.out.xb hrn
        have hr4 : (r : Int) < 4 := by omega
        have hr5 : r < 4 := by omega
        have HR := Lib.hid hrn
        have hwr : IntKind.i64.wrap ((r : Int) + 1) = ((r + 1 : Nat) : Int) := (IntWalk.i64_in _ (by omega)).trans (by omega)
        rw [hb] at hcB
        rw [← hrr] at hg e2
        have hI : ¬ ((r + 1 : Nat) : Int) < (n : Int) := by omega
        have E1 := Lib.hid e1
        have E2 := Lib.hid e2
        rw [a9] at hca
        clear a9 e1 e2 ha hr hrr hrn hb hg
        go_wp2_with (first | (go_at_call 29; (with_reducible refine (picked_any (k := r) (f := 2) (d := 2 + r) _ HB.out rfl (by have := HR.out; omega)).mono ?_); rintro e w9 ⟨rfl, i9, rfl⟩))
        go_quiet (fail)
        go_wp2
        go_ret
        rw [E1.out, E2.out]
        exact ⟨rfl, ((HL2.out.drewN _).setK hn hp (r + 1)).drewN _, ((HT.out.drewN _).setCell (Or.inl rfl) _).drewN _⟩
      · have e1 : vat n s p = 9 := by simp [vat, a9, hb, hg]
        have e2 : vdid s p = putK s p ((s.s p).k + 1) := by simp [vdid, a9, hb]
        obtain ⟨r, hrr⟩ : ∃ r, r = (s.s p).k := ⟨_, rfl⟩
        have hrn := hr a9
        rw [← hrr] at hck hb hrn
        have hcB := HL2.out.xb hrn
        have hr4 : (r : Int) < 4 := by omega
        have hr5 : r < 4 := by omega
        have HR := Lib.hid hrn
        have hwr : IntKind.i64.wrap ((r : Int) + 1) = ((r + 1 : Nat) : Int) := (IntWalk.i64_in _ (by omega)).trans (by omega)
        rw [hb] at hcB
        rw [← hrr] at hg e2
        have hI : ((r + 1 : Nat) : Int) < (n : Int) := by omega
        have E1 := Lib.hid e1
        have E2 := Lib.hid e2
        rw [a9] at hca
        clear a9 e1 e2 ha hr hrr hrn hb hg
        go_wp2_with (first | (go_at_call 29; (with_reducible refine (picked_any (k := r) (f := 2) (d := 2 + r) _ HB.out rfl (by have := HR.out; omega)).mono ?_); rintro e w9 ⟨rfl, i9, rfl⟩))
        go_quiet (fail)
        go_wp2
        go_ret
        rw [E1.out, E2.out]
        exact ⟨rfl, ((HL2.out.drewN _).setK hn hp (r + 1)).drewN _, ((HT.out.drewN _).setCell (Or.inl rfl) _).drewN _⟩
    · have e1 : vat n s p = 9 := by simp [vat, a9, hb]
      have e2 : vdid s p = s := by simp [vdid, a9, hb]
      obtain ⟨r, hrr⟩ : ∃ r, r = (s.s p).k := ⟨_, rfl⟩
      have hrn := hr a9
      rw [← hrr] at hck hb hrn
      have hcB := HL2.out.xb hrn
      have hr4 : (r : Int) < 4 := by omega
      have hr5 : r < 4 := by omega
      have HR := Lib.hid hrn
      have hI : (((s.s r).b : Int) == 0) = false := by simp; omega
      have hI2 : (r : Int) < (n : Int) := by omega
      have E1 := Lib.hid e1
      have E2 := Lib.hid e2
      rw [a9] at hca
      clear a9 e1 e2 ha hr hrr hrn hb
      go_wp2_with (first | (go_at_call 29; (with_reducible refine (picked_any (k := r) (f := 2) (d := 2 + r) _ HB.out rfl (by have := HR.out; omega)).mono ?_); rintro e w9 ⟨rfl, i9, rfl⟩))
      go_quiet (fail)
      go_wp2
      go_ret
      rw [E1.out, E2.out]
      exact ⟨rfl, (HL2.out.drewN _).drewN _, (HT.out.drewN _).drewN _⟩
  · by_cases hb : s.Y = p + 1
    · have e1 : vat n s p = 12 := by simp [vat, a10, hb]
      have e2 : vdid s p = s := by simp [vdid, a10]
      rw [hb] at hcY
      have E1 := Lib.hid e1
      have E2 := Lib.hid e2
      rw [a10] at hca
      clear a10 e1 e2 ha hr hb
      go_wp2_with (first | (go_at_call 29; (with_reducible refine (picked1_any _ HA.out).mono ?_); rintro e w9 ⟨rfl, i9, rfl⟩))
      go_ret
      rw [E1.out, E2.out]
      exact ⟨rfl, HL2.out.drewN _, HT.out.drewN _⟩
    · have e1 : vat n s p = 11 := by simp [vat, a10, hb]
      have e2 : vdid s p = s := by simp [vdid, a10]
      have hI : ((s.Y : Int) == ((p + 1 : Nat) : Int)) = false := by simp; omega
      have E1 := Lib.hid e1
      have E2 := Lib.hid e2
      rw [a10] at hca
      clear a10 e1 e2 ha hr hb
      go_wp2_with (first | (go_at_call 29; (with_reducible refine (picked1_any _ HA.out).mono ?_); rintro e w9 ⟨rfl, i9, rfl⟩))
      go_ret
      rw [E1.out, E2.out]
      exact ⟨rfl, HL2.out.drewN _, HT.out.drewN _⟩
  · by_cases hb : s.Y = 0
    · have e1 : vat n s p = 1 := by simp [vat, a11, hb]
      have e2 : vdid s p = putK s p 0 := by simp [vdid, a11, hb]
      have hI : ((s.Y : Int) != 0) = false := by simp; omega
      have E1 := Lib.hid e1
      have E2 := Lib.hid e2
      rw [a11] at hca
      clear a11 e1 e2 ha hr hb
      go_wp2_with (first | (go_at_call 29; (with_reducible refine (picked1_any _ HA.out).mono ?_); rintro e w9 ⟨rfl, i9, rfl⟩))
      go_ret
      rw [E1.out, E2.out]
      exact ⟨rfl, (HL2.out.drewN _).setK hn hp 0, (HT.out.drewN _).setCell (Or.inl rfl) _⟩
    · have e1 : vat n s p = 11 := by simp [vat, a11, hb]
      have e2 : vdid s p = s := by simp [vdid, a11, hb]
      have hI : ((s.Y : Int) != 0) = true := by simp; omega
      have E1 := Lib.hid e1
      have E2 := Lib.hid e2
      rw [a11] at hca
      clear a11 e1 e2 ha hr hb
      go_wp2_with (first | (go_at_call 29; (with_reducible refine (picked1_any _ HA.out).mono ?_); rintro e w9 ⟨rfl, i9, rfl⟩))
      go_ret
      rw [E1.out, E2.out]
      exact ⟨rfl, HL2.out.drewN _, HT.out.drewN _⟩
  · have e1 : vat n s p = 13 := by simp [vat, a12]
    have e2 : vdid s p = s := by simp [vdid, a12]
    have E1 := Lib.hid e1
    have E2 := Lib.hid e2
    rw [a12] at hca
    clear a12 e1 e2 ha hr
    go_wp2
    go_ret
    rw [E1.out, E2.out]
    exact ⟨rfl, HL2.out, HT.out⟩
  · have e1 : vat n s p = 14 := by simp [vat, a13]
    have e2 : vdid s p = putY s 0 := by simp [vdid, a13]
    have E1 := Lib.hid e1
    have E2 := Lib.hid e2
    rw [a13] at hca
    clear a13 e1 e2 ha hr
    go_wp2_with (first | (go_at_call 29; (with_reducible refine (picked1_any _ HA.out).mono ?_); rintro e w9 ⟨rfl, i9, rfl⟩))
    go_ret
    rw [E1.out, E2.out]
    exact ⟨rfl, (HL2.out.drewN _).setY hn 0, (HT.out.drewN _).setCell (Or.inl rfl) _⟩
  · have e1 : vat n s p = 1 := by simp [vat, a14]
    have e2 : vdid s p = putK (putB s p 0) p 0 := by simp [vdid, a14]
    have E1 := Lib.hid e1
    have E2 := Lib.hid e2
    rw [a14] at hca
    clear a14 e1 e2 ha hr
    go_wp2_with (first | (go_at_call 29; (with_reducible refine (picked_any (k := p) (f := 2) (d := 2 + p) _ HB.out rfl (by omega)).mono ?_); rintro e w9 ⟨rfl, i9, rfl⟩))
    go_ret
    rw [E1.out, E2.out]
    exact ⟨rfl, ((HL2.out.drewN _).setB hn hp 0).setK hn hp 0, ((HT.out.drewN _).setCell (Or.inl rfl) _).setCell (Or.inl rfl) _⟩
end Go.Proofs.YtjnfecaghkgdpaaDoor.Fast
