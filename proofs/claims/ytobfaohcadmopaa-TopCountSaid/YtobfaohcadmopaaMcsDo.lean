import Derived.Test.YtobfaohcadmopaaMcs
/-
  Package mcs: what a hand's line does.
-/
namespace Go.Proofs.Ytobfaohcadmopaa.Mcs
open Go.RowKit

/-- Where hand p stands when it has done its line. -/
def mone (s : QS) (p : Nat) : Nat :=
  if s.a p = 1 then 2 else if s.a p = 2 then (if s.T = 0 then 6 else 3) else if s.a p = 3 then 4 else if s.a p = 4 then 5
  else if s.a p = 5 then (if s.w p = 0 then 6 else 5) else if s.a p = 6 then 7 else if s.a p = 7 then (if s.f p = 0 then 8 else 10)
  else if s.a p = 8 then (if s.T = p + 1 then 1 else 9) else if s.a p = 9 then (if s.f p = 0 then 9 else 10) else 1
/-- Hand p has done its line, but that it stands where it stood. -/
def mdid (s : QS) (p : Nat) : QS :=
  if s.a p = 1 then putF s p 0 else if s.a p = 2 then putT (putO s p s.T) (p + 1) else if s.a p = 3 then putW s p 1 else if s.a p = 4 then putF s (s.o p - 1) (p + 1)
  else if s.a p = 5 then s else if s.a p = 6 then s else if s.a p = 7 then putO s p (s.f p) else if s.a p = 8 then (if s.T = p + 1 then putT s 0 else s)
  else if s.a p = 9 then putO s p (s.f p) else putO (putW s (s.o p - 1) 0) p 0
set_option maxHeartbeats 4000000 in
theorem do_any {g n : Nat} {s : QS} (w : World) (hk : Lk0 w g n s) (hn : n ≤ 4) {p : Nat} (hp : p < n) (ha : 1 ≤ s.a p ∧ s.a p ≤ 10) (ho : s.a p = 4 ∨ s.a p = 10 → 1 ≤ s.o p ∧ s.o p ≤ n) :
    Calls Try.prog 35 #[.pointer (some ⟨g, 0, none⟩), .int .i64 p] w fun e w' =>
      e = .returned (.int .i64 (mone s p)) ∧ Lk0 w' g n (mdid s p) ∧ Touch (fun k => k = g) w w' := by
  have hcn := hk.num
  have HL := Lib.hid (show g < w.drew.heap.size from hk.lt)
  have HK := Lib.hid hk.drew
  have HN := Lib.hid (show w.drew.cell? ⟨g, 0, none⟩ = some (.int .i64 n) from hcn)
  obtain ⟨m, hm⟩ : ∃ m, m = 1 + n := ⟨_, rfl⟩
  have hwn : IntKind.i64.wrap (1 + (n : Int)) = (m : Int) := (IntWalk.i64_in _ (by omega)).trans (by omega)
  have HM := Lib.hid hm
  clear hk hm
  go_enter Try.func35, Try.ntmps35
  go_wp2_with fail
  go_region_held3 (fun W : World => W.cell? ⟨g, 0, none⟩ = some (.int .i64 n)) (first | exact HN.out | exact (H1.out.cell (p := ⟨g, 0, none⟩) HL.out).trans HN.out | exact (H2.out.cell (p := ⟨g, 0, none⟩) HL.out).trans HN.out | exact (H3.out.cell (p := ⟨g, 0, none⟩) HL.out).trans HN.out) ((first | (go_at_call 43; (with_reducible refine (pick0_any w.drew HL.out).mono ?_); rintro e w1 ⟨b1, b2, rfl, hp1, hb1⟩; have HP1 := Lib.hid hp1; have H1 := Lib.hid hb1; clear hp1 hb1) | (go_at_call 43; (with_reducible refine (pick1_any _ (Nat.lt_of_lt_of_le HL.out H1.out.size)).mono ?_); rintro e w2 ⟨c1, c2, rfl, hp2, hb2⟩; have HP2 := Lib.hid hp2; have HQ2 := Lib.hid hb2; have H2 := Lib.hid (H1.out.trans (hb2.mono H1.out.size)); clear hp2 hb2) | (go_at_call 43; (with_reducible refine (pick_any (f := m) _ (Nat.lt_of_lt_of_le HL.out H2.out.size)).mono ?_); rintro e w3 ⟨d1, d2, rfl, hp3, hb3⟩; have HP3 := Lib.hid hp3; have HQ3 := Lib.hid hb3; have H3 := Lib.hid (H2.out.trans (hb3.mono H2.out.size)); clear hp3 hb3)))
  all_goals
    have hl2 : Lk0 w3 g n s := HK.out.below0 H3.out HL.out
    have hq1 : Pk w3 g b1 b2 0 := (HP1.out.below HQ2.out).below HQ3.out
    have hq2 : Pk w3 g c1 c2 1 := HP2.out.below HQ3.out
    have hq3 : Pk w3 g d1 d2 m := HP3.out
    have ht2 : Touch (fun k => k = g) w w3 := Touch.of_below (below_undrew H3.out) fun i h1 h2 => absurd h2 (Nat.not_lt_of_le h1)
    have hca := hl2.xa hp
    have hco := hl2.xo hp
    have hcT := hl2.xT
    have hcw := hl2.xw hp
    have hcf := hl2.xf hp
    rw [← HM.out] at hcf
    have fo := hl2.free (10 + p * 2 + 1)
    have fT := hl2.free 1
    have fw := hl2.free (1 + (1 + p))
    have ff := hl2.free (1 + (m + p))
    have hp4 : (p : Int) < 4 := by omega
    have hm5 : m ≤ 5 := by have := HM.out; omega
    have hwp : IntKind.i64.wrap ((p : Int) + 1) = ((p + 1 : Nat) : Int) := (IntWalk.i64_in _ (by omega)).trans (by omega)
    have HT := Lib.hid ht2
    have HL2 := Lib.hid hl2
    have HA := Lib.hid hq1
    have HB := Lib.hid hq2
    have HC := Lib.hid hq3
    clear HK HP1 HQ2 HP2 HP3 HQ3 HN H1 H2 H3 HL ht2 hl2 hq1 hq2 hq3 hcn hwn
    obtain a1 | a2 | a3 | a4 | a5 | a6 | a7 | a8 | a9 | a10 : s.a p = 1 ∨ s.a p = 2 ∨ s.a p = 3 ∨ s.a p = 4 ∨ s.a p = 5 ∨ s.a p = 6 ∨ s.a p = 7 ∨ s.a p = 8 ∨ s.a p = 9 ∨ s.a p = 10 := by omega
    · have e1 : mone s p = 2 := by simp [mone, a1]
      have e2 : mdid s p = putF s p 0 := by simp [mdid, a1]
      have E1 := Lib.hid e1
      have E2 := Lib.hid e2
      rw [a1] at hca
      clear a1 e1 e2 ha ho
      go_wp2_with (first | (go_at_call 49; (with_reducible refine (picked_any (k := p) (f := m) (d := m + p) _ HC.out rfl (by have := HM.out; omega)).mono ?_); rintro e w9 ⟨rfl, i9, rfl⟩))
      go_ret
      rw [E1.out, E2.out]
      have h3 := (HL2.out.drewN i9).setF hn hp 0
      rw [← HM.out] at h3
      exact ⟨rfl, h3, (HT.out.drewN _).setCell (Or.inl rfl) _⟩
    · by_cases hb : s.T = 0
      · have e1 : mone s p = 6 := by simp [mone, a2, hb]
        have e2 : mdid s p = putT (putO s p s.T) (p + 1) := by simp [mdid, a2]
        have hI : ((s.T : Int) == 0) = true := by simp; omega
        have E1 := Lib.hid e1
        have E2 := Lib.hid e2
        rw [a2] at hca
        clear a2 e1 e2 ha ho hb
        go_wp2_with (first | (go_at_call 49; (with_reducible refine (picked0_any _ HA.out).mono ?_); rintro e w9 ⟨rfl, i9, rfl⟩) | (go_at_call 49; (with_reducible refine (picked0_any _ (HA.out.drewN _)).mono ?_); rintro e w9 ⟨rfl, i9, rfl⟩))
        go_ret
        rw [E1.out, E2.out]
        exact ⟨rfl, ((HL2.out.drewN _).setO hn hp s.T).setT hn (p + 1), ((HT.out.drewN _).setCell (Or.inl rfl) _).setCell (Or.inl rfl) _⟩
      · have e1 : mone s p = 3 := by simp [mone, a2, hb]
        have e2 : mdid s p = putT (putO s p s.T) (p + 1) := by simp [mdid, a2]
        have hI : ((s.T : Int) == 0) = false := by simp; omega
        have E1 := Lib.hid e1
        have E2 := Lib.hid e2
        rw [a2] at hca
        clear a2 e1 e2 ha ho hb
        go_wp2_with (first | (go_at_call 49; (with_reducible refine (picked0_any _ HA.out).mono ?_); rintro e w9 ⟨rfl, i9, rfl⟩) | (go_at_call 49; (with_reducible refine (picked0_any _ (HA.out.drewN _)).mono ?_); rintro e w9 ⟨rfl, i9, rfl⟩))
        go_ret
        rw [E1.out, E2.out]
        exact ⟨rfl, ((HL2.out.drewN _).setO hn hp s.T).setT hn (p + 1), ((HT.out.drewN _).setCell (Or.inl rfl) _).setCell (Or.inl rfl) _⟩
    · have e1 : mone s p = 4 := by simp [mone, a3]
      have e2 : mdid s p = putW s p 1 := by simp [mdid, a3]
      have E1 := Lib.hid e1
      have E2 := Lib.hid e2
      rw [a3] at hca
      clear a3 e1 e2 ha ho
      go_wp2_with (first | (go_at_call 49; (with_reducible refine (picked_any (k := p) (f := 1) (d := 1 + p) _ HB.out rfl (by omega)).mono ?_); rintro e w9 ⟨rfl, i9, rfl⟩))
      go_ret
      rw [E1.out, E2.out]
      exact ⟨rfl, (HL2.out.drewN _).setW hn hp 1, (HT.out.drewN _).setCell (Or.inl rfl) _⟩
    · have e1 : mone s p = 5 := by simp [mone, a4]
      have e2 : mdid s p = putF s (s.o p - 1) (p + 1) := by simp [mdid, a4]
      obtain ⟨r, hr⟩ : ∃ r, s.o p = r + 1 := ⟨s.o p - 1, by omega⟩
      have hrn : r < n := by omega
      have hwr : IntKind.i64.wrap ((s.o p : Int) - 1) = (r : Int) := (IntWalk.i64_in _ (by omega)).trans (by omega)
      have HR := Lib.hid hrn
      have hr4 : r < 4 := by omega
      rw [show s.o p - 1 = r by omega] at e2
      have ffr := HL2.out.free (1 + (m + r))
      have hcfr := HL2.out.xf hrn
      rw [← HM.out] at hcfr
      have E1 := Lib.hid e1
      have E2 := Lib.hid e2
      rw [a4] at hca
      clear a4 e1 e2 ha ho hr hrn
      go_wp2_with (first | (go_at_call 49; (with_reducible refine (picked_any (k := r) (f := m) (d := m + r) _ HC.out rfl (by have := HM.out; have := HR.out; omega)).mono ?_); rintro e w9 ⟨rfl, i9, rfl⟩))
      go_ret
      rw [E1.out, E2.out]
      have h3 := (HL2.out.drewN i9).setF hn HR.out (p + 1)
      rw [← HM.out] at h3
      exact ⟨rfl, h3, (HT.out.drewN _).setCell (Or.inl rfl) _⟩
    · by_cases hb : s.w p = 0
      · have e1 : mone s p = 6 := by simp [mone, a5, hb]
        have e2 : mdid s p = s := by simp [mdid, a5]
        rw [hb] at hcw
        have E1 := Lib.hid e1
        have E2 := Lib.hid e2
        rw [a5] at hca
        clear a5 e1 e2 ha ho hb
        go_wp2_with (first | (go_at_call 49; (with_reducible refine (picked_any (k := p) (f := 1) (d := 1 + p) _ HB.out rfl (by omega)).mono ?_); rintro e w9 ⟨rfl, i9, rfl⟩))
        go_ret
        rw [E1.out, E2.out]
        exact ⟨rfl, HL2.out.drewN _, HT.out.drewN _⟩
      · have e1 : mone s p = 5 := by simp [mone, a5, hb]
        have e2 : mdid s p = s := by simp [mdid, a5]
        have hI : ((s.w p : Int) != 0) = true := by simp; omega
        have E1 := Lib.hid e1
        have E2 := Lib.hid e2
        rw [a5] at hca
        clear a5 e1 e2 ha ho hb
        go_wp2_with (first | (go_at_call 49; (with_reducible refine (picked_any (k := p) (f := 1) (d := 1 + p) _ HB.out rfl (by omega)).mono ?_); rintro e w9 ⟨rfl, i9, rfl⟩))
        go_ret
        rw [E1.out, E2.out]
        exact ⟨rfl, HL2.out.drewN _, HT.out.drewN _⟩
    · have e1 : mone s p = 7 := by simp [mone, a6]
      have e2 : mdid s p = s := by simp [mdid, a6]
      have E1 := Lib.hid e1
      have E2 := Lib.hid e2
      rw [a6] at hca
      clear a6 e1 e2 ha ho
      go_wp2
      go_ret
      rw [E1.out, E2.out]
      exact ⟨rfl, HL2.out, HT.out⟩
    · by_cases hb : s.f p = 0
      · have e1 : mone s p = 8 := by simp [mone, a7, hb]
        have e2 : mdid s p = putO s p (s.f p) := by simp [mdid, a7]
        have hI : ((s.f p : Int) != 0) = false := by simp; omega
        have E1 := Lib.hid e1
        have E2 := Lib.hid e2
        rw [a7] at hca
        clear a7 e1 e2 ha ho hb
        go_wp2_with (first | (go_at_call 49; (with_reducible refine (picked_any (k := p) (f := m) (d := m + p) _ HC.out rfl (by have := HM.out; omega)).mono ?_); rintro e w9 ⟨rfl, i9, rfl⟩))
        go_ret
        rw [E1.out, E2.out]
        exact ⟨rfl, (HL2.out.drewN _).setO hn hp (s.f p), (HT.out.drewN _).setCell (Or.inl rfl) _⟩
      · have e1 : mone s p = 10 := by simp [mone, a7, hb]
        have e2 : mdid s p = putO s p (s.f p) := by simp [mdid, a7]
        have hI : ((s.f p : Int) != 0) = true := by simp; omega
        have E1 := Lib.hid e1
        have E2 := Lib.hid e2
        rw [a7] at hca
        clear a7 e1 e2 ha ho hb
        go_wp2_with (first | (go_at_call 49; (with_reducible refine (picked_any (k := p) (f := m) (d := m + p) _ HC.out rfl (by have := HM.out; omega)).mono ?_); rintro e w9 ⟨rfl, i9, rfl⟩))
        go_ret
        rw [E1.out, E2.out]
        exact ⟨rfl, (HL2.out.drewN _).setO hn hp (s.f p), (HT.out.drewN _).setCell (Or.inl rfl) _⟩
    · by_cases hb : s.T = p + 1
      · have e1 : mone s p = 1 := by simp [mone, a8, hb]
        have e2 : mdid s p = putT s 0 := by simp [mdid, a8, hb]
        rw [hb] at hcT
        have E1 := Lib.hid e1
        have E2 := Lib.hid e2
        rw [a8] at hca
        clear a8 e1 e2 ha ho hb
        go_wp2_with (first | (go_at_call 49; (with_reducible refine (picked0_any _ HA.out).mono ?_); rintro e w9 ⟨rfl, i9, rfl⟩) | (go_at_call 49; (with_reducible refine (picked0_any _ (HA.out.drewN _)).mono ?_); rintro e w9 ⟨rfl, i9, rfl⟩))
        go_ret
        rw [E1.out, E2.out]
        exact ⟨rfl, (HL2.out.drewN _).setT hn 0, (HT.out.drewN _).setCell (Or.inl rfl) _⟩
      · have e1 : mone s p = 9 := by simp [mone, a8, hb]
        have e2 : mdid s p = s := by simp [mdid, a8, hb]
        have hI : ((s.T : Int) == ((p + 1 : Nat) : Int)) = false := by simp; omega
        have E1 := Lib.hid e1
        have E2 := Lib.hid e2
        rw [a8] at hca
        clear a8 e1 e2 ha ho hb
        go_wp2_with (first | (go_at_call 49; (with_reducible refine (picked0_any _ HA.out).mono ?_); rintro e w9 ⟨rfl, i9, rfl⟩) | (go_at_call 49; (with_reducible refine (picked0_any _ (HA.out.drewN _)).mono ?_); rintro e w9 ⟨rfl, i9, rfl⟩))
        go_ret
        rw [E1.out, E2.out]
        exact ⟨rfl, HL2.out.drewN _, HT.out.drewN _⟩
    · by_cases hb : s.f p = 0
      · have e1 : mone s p = 9 := by simp [mone, a9, hb]
        have e2 : mdid s p = putO s p (s.f p) := by simp [mdid, a9]
        have hI : ((s.f p : Int) == 0) = true := by simp; omega
        have E1 := Lib.hid e1
        have E2 := Lib.hid e2
        rw [a9] at hca
        clear a9 e1 e2 ha ho hb
        go_wp2_with (first | (go_at_call 49; (with_reducible refine (picked_any (k := p) (f := m) (d := m + p) _ HC.out rfl (by have := HM.out; omega)).mono ?_); rintro e w9 ⟨rfl, i9, rfl⟩))
        go_ret
        rw [E1.out, E2.out]
        exact ⟨rfl, (HL2.out.drewN _).setO hn hp (s.f p), (HT.out.drewN _).setCell (Or.inl rfl) _⟩
      · have e1 : mone s p = 10 := by simp [mone, a9, hb]
        have e2 : mdid s p = putO s p (s.f p) := by simp [mdid, a9]
        have hI : ((s.f p : Int) == 0) = false := by simp; omega
        have E1 := Lib.hid e1
        have E2 := Lib.hid e2
        rw [a9] at hca
        clear a9 e1 e2 ha ho hb
        go_wp2_with (first | (go_at_call 49; (with_reducible refine (picked_any (k := p) (f := m) (d := m + p) _ HC.out rfl (by have := HM.out; omega)).mono ?_); rintro e w9 ⟨rfl, i9, rfl⟩))
        go_ret
        rw [E1.out, E2.out]
        exact ⟨rfl, (HL2.out.drewN _).setO hn hp (s.f p), (HT.out.drewN _).setCell (Or.inl rfl) _⟩
    · have e1 : mone s p = 1 := by simp [mone, a10]
      have e2 : mdid s p = putO (putW s (s.o p - 1) 0) p 0 := by simp [mdid, a10]
      obtain ⟨r, hr⟩ : ∃ r, s.o p = r + 1 := ⟨s.o p - 1, by omega⟩
      have hrn : r < n := by omega
      have hwr : IntKind.i64.wrap ((s.o p : Int) - 1) = (r : Int) := (IntWalk.i64_in _ (by omega)).trans (by omega)
      have HR := Lib.hid hrn
      have hr4 : r < 4 := by omega
      rw [show s.o p - 1 = r by omega] at e2
      have fwr := HL2.out.free (1 + (1 + r))
      have hcwr := HL2.out.xw hrn
      have E1 := Lib.hid e1
      have E2 := Lib.hid e2
      rw [a10] at hca
      clear a10 e1 e2 ha ho hr hrn
      go_wp2_with (first | (go_at_call 49; (with_reducible refine (picked_any (k := r) (f := 1) (d := 1 + r) _ HB.out rfl (by have := HR.out; omega)).mono ?_); rintro e w9 ⟨rfl, i9, rfl⟩))
      go_ret
      rw [E1.out, E2.out]
      exact ⟨rfl, ((HL2.out.drewN _).setW hn HR.out 0).setO hn hp 0, ((HT.out.drewN _).setCell (Or.inl rfl) _).setCell (Or.inl rfl) _⟩
end Go.Proofs.Ytobfaohcadmopaa.Mcs
