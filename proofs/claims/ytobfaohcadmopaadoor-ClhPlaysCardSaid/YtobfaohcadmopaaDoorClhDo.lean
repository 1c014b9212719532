import Derived.Test.YtobfaohcadmopaaDoorClh
import Derived.Deep.DeepCutAuto
/-
  Package clh: what a hand's line does.
-/
namespace Go.Proofs.YtobfaohcadmopaaDoor.Clh
open Go.RowKit

/-- Where hand p stands when it has done its line. -/
def cone (s : CS) (p : Nat) : Nat :=
  if s.a p = 1 then 2 else if s.a p = 2 then 3 else if s.a p = 3 then (if s.B (s.r p) = 0 then 4 else 3) else if s.a p = 4 then 5 else 1
/-- Hand p has done its line, but that it stands where it stood. -/
def cdid (s : CS) (p : Nat) : CS :=
  if s.a p = 1 then putB s (s.m p) 1 else if s.a p = 2 then putT (putR s p s.T) (s.m p) else if s.a p = 3 then s else if s.a p = 4 then s
  else putR (putM (putB s (s.m p) 0) p (s.r p)) p 0
set_option maxHeartbeats 4000000 in
theorem do_any {g n : Nat} {s : CS} (w : World) (hk : Lk0 w g n s) (hn : n ≤ 4) {p : Nat} (hp : p < n) (ha : 1 ≤ s.a p ∧ s.a p ≤ 5) (hm : s.m p ≤ n) (hr : s.a p = 3 → s.r p ≤ n) :
    Calls Tryd.prog 22 #[.pointer (some ⟨g, 0, none⟩), .int .i64 p] w fun e w' =>
      e = .returned (.int .i64 (cone s p)) ∧ Lk0 w' g n (cdid s p) ∧ Touch (fun k => k = g) w w' := by
  have HL := Lib.hid hk.lt
  have HK := Lib.hid hk
  clear hk
  go_enter Tryd.func22, Tryd.ntmps22
  go_upto_region 2 with (first | (go_at_call 25; (with_reducible refine (pick0_any w HL.out).mono ?_); rintro e w1 ⟨b1, b2, rfl, hp1, hb1⟩; have HP1 := Lib.hid hp1; have H1 := Lib.hid hb1; clear hp1 hb1) | (go_at_call 25; (with_reducible refine (pick1_any _ (Nat.lt_of_lt_of_le HL.out H1.out.size)).mono ?_); rintro e w2 ⟨c1, c2, rfl, hp2, hb2⟩; have HP2 := Lib.hid hp2; have HQ2 := Lib.hid hb2; have H2 := Lib.hid (H1.out.trans (hb2.mono H1.out.size)); clear hp2 hb2))
  have hl2 : Lk0 w2 g n s := HK.out.below0 H2.out HL.out
  have hq1 : Pk w2 g b1 b2 0 := HP1.out.below HQ2.out
  have hq2 : Pk w2 g c1 c2 1 := HP2.out
  have ht2 : Touch (fun k => k = g) w w2 := Touch.of_below H2.out fun i h1 h2 => absurd h2 (Nat.not_lt_of_le h1)
  have hca := hl2.xa hp
  have hcm := hl2.xm hp
  have hcr := hl2.xr hp
  have hcT := hl2.xT
  have fm := hl2.free (7 + p * 3 + 1)
  have fr := hl2.free (7 + p * 3 + 2)
  have fT := hl2.free 1
  have hp4 : (p : Int) < 4 := by omega
  have HT := Lib.hid ht2
  have HL2 := Lib.hid hl2
  have HA := Lib.hid hq1
  have HB := Lib.hid hq2
  clear HK HP1 HQ2 HP2 H1 H2 HL ht2 hl2 hq1 hq2
  obtain a1 | a2 | a3 | a4 | a5 : s.a p = 1 ∨ s.a p = 2 ∨ s.a p = 3 ∨ s.a p = 4 ∨ s.a p = 5 := by omega
  · have e1 : cone s p = 2 := by simp [cone, a1]
    have e2 : cdid s p = putB s (s.m p) 1 := by simp [cdid, a1]
    obtain ⟨m, hmm⟩ : ∃ m, m = s.m p := ⟨_, rfl⟩
    rw [← hmm] at hcm hm e2
    have hcB := HL2.out.xB (show m < n + 1 by omega)
    have fB := HL2.out.free (1 + (1 + m))
    have HM := Lib.hid (show m < n + 1 by omega)
    have hm5 : m < 5 := by omega
    have E1 := Lib.hid e1
    have E2 := Lib.hid e2
    rw [a1] at hca
    clear a1 e1 e2 ha hm hr hmm
    go_wp2_with (first | (go_at_call 30; (with_reducible refine (picked_any (k := m) (f := 1) (d := 1 + m) _ HB.out rfl (by have := HM.out; omega)).mono ?_); rintro e w9 ⟨rfl, i9, rfl⟩))
    go_ret
    rw [E1.out, E2.out]
    exact ⟨rfl, (HL2.out.drewN _).setB hn HM.out 1, (HT.out.drewN _).setCell (Or.inl rfl) _⟩
  · have e1 : cone s p = 3 := by simp [cone, a2]
    have e2 : cdid s p = putT (putR s p s.T) (s.m p) := by simp [cdid, a2]
    have E1 := Lib.hid e1
    have E2 := Lib.hid e2
    rw [a2] at hca
    clear a2 e1 e2 ha hm hr
    go_wp2_with fail
    go_region_with (first | (go_at_call 30; (with_reducible refine (picked0_any _ HA.out.drew).mono ?_); rintro e w9 ⟨rfl, i9, rfl⟩) | (go_at_call 30; (with_reducible refine (picked0_any _ (HA.out.drewN _)).mono ?_); rintro e w9 ⟨rfl, j9, rfl⟩))
    all_goals
      go_wp2
      go_ret
      rw [E1.out, E2.out]
      exact ⟨rfl, ((HL2.out.drewN _).setR hn hp s.T).setT hn (s.m p), ((HT.out.drewN _).setCell (Or.inl rfl) _).setCell (Or.inl rfl) _⟩
  · by_cases hb : s.B (s.r p) = 0
    · have e1 : cone s p = 4 := by simp [cone, a3, hb]
      have e2 : cdid s p = s := by simp [cdid, a3]
      obtain ⟨r, hrr⟩ : ∃ r, r = s.r p := ⟨_, rfl⟩
      rw [← hrr] at hcr hb
      have hrn := hr a3
      rw [← hrr] at hrn
      have hcB := HL2.out.xB (show r < n + 1 by omega)
      have HR := Lib.hid (show r < n + 1 by omega)
      have hr5 : r < 5 := by omega
      rw [hb] at hcB
      have E1 := Lib.hid e1
      have E2 := Lib.hid e2
      rw [a3] at hca
      clear a3 e1 e2 ha hm hr hrr hrn hb
      go_wp2_with (first | (go_at_call 30; (with_reducible refine (picked_any (k := r) (f := 1) (d := 1 + r) _ HB.out rfl (by have := HR.out; omega)).mono ?_); rintro e w9 ⟨rfl, i9, rfl⟩))
      go_ret
      rw [E1.out, E2.out]
      exact ⟨rfl, HL2.out.drewN _, HT.out.drewN _⟩
    · have e1 : cone s p = 3 := by simp [cone, a3, hb]
      have e2 : cdid s p = s := by simp [cdid, a3]
      obtain ⟨r, hrr⟩ : ∃ r, r = s.r p := ⟨_, rfl⟩
      rw [← hrr] at hcr hb
      have hrn := hr a3
      rw [← hrr] at hrn
      have hcB := HL2.out.xB (show r < n + 1 by omega)
      have HR := Lib.hid (show r < n + 1 by omega)
      have hr5 : r < 5 := by omega
      have hI : ((s.B r : Int) != 0) = true := by simp; omega
      have E1 := Lib.hid e1
      have E2 := Lib.hid e2
      rw [a3] at hca
      clear a3 e1 e2 ha hm hr hrr hrn hb
      go_wp2_with (first | (go_at_call 30; (with_reducible refine (picked_any (k := r) (f := 1) (d := 1 + r) _ HB.out rfl (by have := HR.out; omega)).mono ?_); rintro e w9 ⟨rfl, i9, rfl⟩))
      go_ret
      rw [E1.out, E2.out]
      exact ⟨rfl, HL2.out.drewN _, HT.out.drewN _⟩
  · have e1 : cone s p = 5 := by simp [cone, a4]
    have e2 : cdid s p = s := by simp [cdid, a4]
    have E1 := Lib.hid e1
    have E2 := Lib.hid e2
    rw [a4] at hca
    clear a4 e1 e2 ha hm hr
    go_wp2
    go_ret
    rw [E1.out, E2.out]
    exact ⟨rfl, HL2.out, HT.out⟩
  · have e1 : cone s p = 1 := by simp [cone, a5]
    have e2 : cdid s p = putR (putM (putB s (s.m p) 0) p (s.r p)) p 0 := by simp [cdid, a5]
    obtain ⟨m, hmm⟩ : ∃ m, m = s.m p := ⟨_, rfl⟩
    rw [← hmm] at hcm hm e2
    have hcB := HL2.out.xB (show m < n + 1 by omega)
    have fB := HL2.out.free (1 + (1 + m))
    have HM := Lib.hid (show m < n + 1 by omega)
    have hm5 : m < 5 := by omega
    have E1 := Lib.hid e1
    have E2 := Lib.hid e2
    rw [a5] at hca
    clear a5 e1 e2 ha hm hr hmm
    go_wp2_with (first | (go_at_call 30; (with_reducible refine (picked_any (k := m) (f := 1) (d := 1 + m) _ HB.out rfl (by have := HM.out; omega)).mono ?_); rintro e w9 ⟨rfl, i9, rfl⟩))
    go_ret
    rw [E1.out, E2.out]
    exact ⟨rfl, (((HL2.out.drewN _).setB hn HM.out 0).setM hn hp (s.r p)).setR hn hp 0, (((HT.out.drewN _).setCell (Or.inl rfl) _).setCell (Or.inl rfl) _).setCell (Or.inl rfl) _⟩
end Go.Proofs.YtobfaohcadmopaaDoor.Clh
