import Derived.Test.YthainkgpafbjcaaDoorSplit
import Derived.Deep.DeepCutAuto
/-
  Package split: what a hand's line does.
-/
namespace Go.Proofs.YthainkgpafbjcaaDoor.Split
open Go.RowKit

/-- Hand p has done its line, but that it stands where it stood. -/
def sdid (s : SPS) (p : Nat) : SPS :=
  if (s.s p).a = 1 then putX s (s.s p).r (s.s p).c (p + 1) else if (s.s p).a = 2 then (if s.Y (s.s p).r (s.s p).c = 1 then putC s p ((s.s p).c + 1) else s)
  else if (s.s p).a = 3 then putY s (s.s p).r (s.s p).c 1 else if (s.s p).a = 4 then (if s.X (s.s p).r (s.s p).c = p + 1 then s else putR s p ((s.s p).r + 1)) else s
set_option maxHeartbeats 4000000 in
theorem do_any {g n : Nat} {s : SPS} (w : World) (hk : Lk0 w g n s) (hn : n ≤ 4) {p : Nat} (hp : p < n) (ha : 1 ≤ (s.s p).a ∧ (s.s p).a ≤ 5) (hd : (s.s p).r + (s.s p).c < 4) :
    Calls Tryd.prog 19 #[.pointer (some ⟨g, 0, none⟩), .int .i64 p] w fun e w' =>
      e = .returned (.int .i64 (spone s p).a) ∧ Lk0 w' g n (sdid s p) ∧ Touch (fun k => k = g) w w' := by
  have HL := Lib.hid hk.lt
  have HK := Lib.hid hk
  have HN := Lib.hid (fun w0 => number_any (s.s p).a hd w0)
  have hca := hk.xa hp
  have hcr := hk.xr hp
  have hcc := hk.xc hp
  have hp4 : (p : Int) < 4 := by omega
  obtain ⟨d, hdd⟩ : ∃ d, d = pn (s.s p).r (s.s p).c := ⟨_, rfl⟩
  have hd10 : d < 10 := by rw [hdd]; exact pn_lt hd
  have hdI : (d : Int) < 10 := by omega
  rw [← hdd] at HN
  have HDD := Lib.hid hdd
  have HD := Lib.hid hd
  clear hk hdd
  go_enter Tryd.func19, Tryd.ntmps19
  go_upto_region 2 with fail
  go_region_with (go_at_call 20; (with_reducible refine (HN.out _).mono ?_); rintro e w2 ⟨rfl, hb⟩; have H2 := Lib.hid (below_undrew hb); clear hb)
  clear hca hcr hcc
  have hl2 : Lk0 w2 g n s := HK.out.below0 H2.out HL.out
  have ht2 : Touch (fun k => k = g) w w2 := Touch.of_below H2.out fun i h1 h2 => absurd h2 (Nat.not_lt_of_le h1)
  have hca := hl2.xa hp
  have hcr := hl2.xr hp
  have hcc := hl2.xc hp
  have hcX := hl2.xX HD.out
  have hcY := hl2.xY HD.out
  rw [← HDD.out] at hcX hcY
  have fr := hl2.free (21 + p * 3 + 1)
  have fc := hl2.free (21 + p * 3 + 2)
  have fX := hl2.free (1 + d * 2)
  have fY := hl2.free (1 + d * 2 + 1)
  have hwp : IntKind.i64.wrap ((p : Int) + 1) = ((p + 1 : Nat) : Int) := (IntWalk.i64_in _ (by omega)).trans (by omega)
  have hwr : IntKind.i64.wrap (((s.s p).r : Int) + 1) = (((s.s p).r + 1 : Nat) : Int) := (IntWalk.i64_in _ (by omega)).trans (by omega)
  have hwc : IntKind.i64.wrap (((s.s p).c : Int) + 1) = (((s.s p).c + 1 : Nat) : Int) := (IntWalk.i64_in _ (by omega)).trans (by omega)
  have hsX : ∀ z : Nat, Lk0 (w2.setCell ⟨g, 1 + d * 2, none⟩ (.int .i64 z)) g n (putX s (s.s p).r (s.s p).c z) := fun z => by rw [HDD.out]; exact hl2.setX hn HD.out z
  have hsY : ∀ z : Nat, Lk0 (w2.setCell ⟨g, 1 + d * 2 + 1, none⟩ (.int .i64 z)) g n (putY s (s.s p).r (s.s p).c z) := fun z => by rw [HDD.out]; exact hl2.setY hn HD.out z
  have HT := Lib.hid ht2
  have HL2 := Lib.hid hl2
  have HX := Lib.hid (hsX (p + 1))
  have HY := Lib.hid (hsY 1)
  clear HK H2 HL ht2 hl2 hd HN HDD HD hsX hsY
  obtain a1 | a2 | a3 | a4 | a5 : (s.s p).a = 1 ∨ (s.s p).a = 2 ∨ (s.s p).a = 3 ∨ (s.s p).a = 4 ∨ (s.s p).a = 5 := by omega
  · have e1 : (spone s p).a = 2 := by simp [spone, a1]
    have e2 : sdid s p = putX s (s.s p).r (s.s p).c (p + 1) := by simp [sdid, a1]
    have E1 := Lib.hid e1
    have E2 := Lib.hid e2
    rw [a1] at hca
    clear a1 e1 e2 ha
    go_wp2
    go_ret
    rw [E1.out, E2.out]
    exact ⟨rfl, HX.out, HT.out.setCell (Or.inl rfl) _⟩
  · by_cases hb : s.Y (s.s p).r (s.s p).c = 1
    · have e1 : (spone s p).a = 1 := by simp [spone, a2, hb]
      have e2 : sdid s p = putC s p ((s.s p).c + 1) := by simp [sdid, a2, hb]
      have hI : (((s.Y (s.s p).r (s.s p).c : Nat) : Int) == 1) = true := by simp; omega
      have E1 := Lib.hid e1
      have E2 := Lib.hid e2
      rw [a2] at hca
      clear a2 e1 e2 ha hb
      go_wp2
      go_ret
      rw [E1.out, E2.out]
      exact ⟨rfl, HL2.out.setC hn hp _, HT.out.setCell (Or.inl rfl) _⟩
    · have e1 : (spone s p).a = 3 := by simp [spone, a2, hb]
      have e2 : sdid s p = s := by simp [sdid, a2, hb]
      have hI : (((s.Y (s.s p).r (s.s p).c : Nat) : Int) == 1) = false := by simp; omega
      have E1 := Lib.hid e1
      have E2 := Lib.hid e2
      rw [a2] at hca
      clear a2 e1 e2 ha hb
      go_wp2
      go_ret
      rw [E1.out, E2.out]
      exact ⟨rfl, HL2.out, HT.out⟩
  · have e1 : (spone s p).a = 4 := by simp [spone, a3]
    have e2 : sdid s p = putY s (s.s p).r (s.s p).c 1 := by simp [sdid, a3]
    have E1 := Lib.hid e1
    have E2 := Lib.hid e2
    rw [a3] at hca
    clear a3 e1 e2 ha
    go_wp2
    go_ret
    rw [E1.out, E2.out]
    exact ⟨rfl, HY.out, HT.out.setCell (Or.inl rfl) _⟩
  · by_cases hb : s.X (s.s p).r (s.s p).c = p + 1
    · have e1 : (spone s p).a = 5 := by simp [spone, a4, hb]
      have e2 : sdid s p = s := by simp [sdid, a4, hb]
      have hI : (((s.X (s.s p).r (s.s p).c : Nat) : Int) != ((p + 1 : Nat) : Int)) = false := by simp; omega
      have E1 := Lib.hid e1
      have E2 := Lib.hid e2
      rw [a4] at hca
      clear a4 e1 e2 ha hb
      go_wp2
      go_ret
      rw [E1.out, E2.out]
      exact ⟨rfl, HL2.out, HT.out⟩
    · have e1 : (spone s p).a = 1 := by simp [spone, a4, hb]
      have e2 : sdid s p = putR s p ((s.s p).r + 1) := by simp [sdid, a4, hb]
      have hI : (((s.X (s.s p).r (s.s p).c : Nat) : Int) != ((p + 1 : Nat) : Int)) = true := by simp; omega
      have E1 := Lib.hid e1
      have E2 := Lib.hid e2
      rw [a4] at hca
      clear a4 e1 e2 ha hb
      go_wp2
      go_ret
      rw [E1.out, E2.out]
      exact ⟨rfl, HL2.out.setR hn hp _, HT.out.setCell (Or.inl rfl) _⟩
  · have e1 : (spone s p).a = 5 := by simp [spone, a5]
    have e2 : sdid s p = s := by simp [sdid, a5]
    have E1 := Lib.hid e1
    have E2 := Lib.hid e2
    rw [a5] at hca
    clear a5 e1 e2 ha
    go_wp2
    go_ret
    rw [E1.out, E2.out]
    exact ⟨rfl, HL2.out, HT.out⟩
end Go.Proofs.YthainkgpafbjcaaDoor.Split
