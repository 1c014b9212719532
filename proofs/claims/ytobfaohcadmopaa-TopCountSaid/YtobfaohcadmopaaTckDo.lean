import Derived.Test.YtobfaohcadmopaaTck
/-
  Package ticket: what a hand's line does.
-/
namespace Go.Proofs.Ytobfaohcadmopaa.Ticket
open Go.RowKit

/-- Where hand p stands when it has done its line. -/
def pone (s : TS) (p : Nat) : Nat := if s.a p = 1 then 2 else if s.a p = 2 then (if s.nw = s.t p then 3 else 2) else if s.a p = 3 then 4 else 1
/-- Hand p has done its line, but that it stands where it stood. -/
def pdid (s : TS) (p : Nat) : TS := if s.a p = 1 then putX (putT s p s.nx) (s.nx + 1) else if s.a p = 4 then putT (putW s (s.t p + 1)) p 0 else s
set_option maxHeartbeats 4000000 in
theorem do_any {g n : Nat} {s : TS} (w : World) (hk : Lk0 w g n s) (hn : n ≤ 4) {p : Nat} (hp : p < n) (ha : 1 ≤ s.a p ∧ s.a p ≤ 4) (hm : s.nx ≤ 1000000 ∧ s.t p ≤ 1000000) :
    Calls Try.prog 31 #[.pointer (some ⟨g, 0, none⟩), .int .i64 p] w fun e w' =>
      e = .returned (.int .i64 (pone s p)) ∧ Lk0 w' g n (pdid s p) ∧ Touch (fun k => k = g) w w' := by
  have HL := Lib.hid hk.lt
  have HK := Lib.hid hk
  have hp4 : (p : Int) < 4 := by omega
  clear hk
  go_enter Try.func31, Try.ntmps31
  obtain a1 | a2 | a3 | a4 : s.a p = 1 ∨ s.a p = 2 ∨ s.a p = 3 ∨ s.a p = 4 := by omega
  · have e1 : pone s p = 2 := by simp [pone, a1]
    have e2 : pdid s p = putX (putT s p s.nx) (s.nx + 1) := by simp [pdid, a1]
    have E1 := Lib.hid e1
    have E2 := Lib.hid e2
    have hwr : IntKind.i64.wrap ((s.nx : Int) + 1) = (s.nx : Int) + 1 := IntWalk.i64_in _ (by omega)
    have HA := Lib.hid a1
    clear a1 e1 e2 ha
    go_wp2_with (first | (go_at_call 39; (with_reducible refine (pick_any _ HL.out).mono ?_); rintro e w2 ⟨b, rfl, hp1, hb1⟩; have HP := Lib.hid hp1; have HT := Lib.hid (Touch.of_below (O := fun k => k = g) hb1 fun i h1 h2 => absurd h2 (Nat.not_lt_of_le h1)); have HL2 := Lib.hid (HK.out.below0 hb1 HL.out); have xa := HL2.out.xa hp; rw [HA.out] at xa; have xt := HL2.out.xt hp; have xx := HL2.out.xnx; have xw := HL2.out.xnw; have f1 := HL2.out.free (3 + p * 2 + 1); have f2 := HL2.out.free 1; have f3 := HL2.out.free 2; clear hp1 hb1) | (go_at_call 47; (with_reducible refine (picked0_any _ HP.out).mono ?_); rintro e w9 ⟨rfl, rfl⟩) | (go_at_call 47; (with_reducible refine (picked0_any _ (HP.out.set _ _)).mono ?_); rintro e w9 ⟨rfl, rfl⟩))
    go_ret
    rw [E1.out, E2.out]
    exact ⟨rfl, (HL2.out.setT hn hp s.nx).setX hn (s.nx + 1), ((HT.out).setCell (Or.inl rfl) _).setCell (Or.inl rfl) _⟩
  · have HA := Lib.hid a2
    by_cases hb : s.nw = s.t p
    · have e1 : pone s p = 3 := by simp [pone, a2, hb]
      have e2 : pdid s p = s := by simp [pdid, a2]
      have hI : ((s.nw : Int) != (s.t p : Int)) = false := by simp; omega
      have E1 := Lib.hid e1
      have E2 := Lib.hid e2
      clear a2 e1 e2 ha hb
      go_wp2_with (go_at_call 39; (with_reducible refine (pick_any _ HL.out).mono ?_); rintro e w2 ⟨b, rfl, hp1, hb1⟩; have HP := Lib.hid hp1; have HT := Lib.hid (Touch.of_below (O := fun k => k = g) hb1 fun i h1 h2 => absurd h2 (Nat.not_lt_of_le h1)); have HL2 := Lib.hid (HK.out.below0 hb1 HL.out); have xa := HL2.out.xa hp; rw [HA.out] at xa; have xt := HL2.out.xt hp; have xx := HL2.out.xnx; have xw := HL2.out.xnw; have f1 := HL2.out.free (3 + p * 2 + 1); have f2 := HL2.out.free 1; have f3 := HL2.out.free 2; clear hp1 hb1)
      have HS := Lib.hid (show w2.drew.cell? ⟨g, 2, none⟩ = some (.int .i64 s.nw) ∧ w2.drew.cell? ⟨g, 3 + p * 2 + 1, none⟩ = some (.int .i64 (s.t p)) from ⟨xw, xt⟩)
      go_region_held3 (fun W : World => W.cell? ⟨g, 2, none⟩ = some (.int .i64 s.nw) ∧ W.cell? ⟨g, 3 + p * 2 + 1, none⟩ = some (.int .i64 (s.t p))) (exact HS.out) ((go_at_call 47; (with_reducible refine (picked1_any _ HP.out.drew).mono ?_); rintro e w9 ⟨rfl, rfl⟩))
      all_goals
        go_wp2
        go_ret
        rw [E1.out, E2.out]
        exact ⟨rfl, HL2.out.drewN _, HT.out.drewN _⟩
    · have e1 : pone s p = 2 := by simp [pone, a2, hb]
      have e2 : pdid s p = s := by simp [pdid, a2]
      have hI : ((s.nw : Int) != (s.t p : Int)) = true := by simp; omega
      have E1 := Lib.hid e1
      have E2 := Lib.hid e2
      clear a2 e1 e2 ha hb
      go_wp2_with (go_at_call 39; (with_reducible refine (pick_any _ HL.out).mono ?_); rintro e w2 ⟨b, rfl, hp1, hb1⟩; have HP := Lib.hid hp1; have HT := Lib.hid (Touch.of_below (O := fun k => k = g) hb1 fun i h1 h2 => absurd h2 (Nat.not_lt_of_le h1)); have HL2 := Lib.hid (HK.out.below0 hb1 HL.out); have xa := HL2.out.xa hp; rw [HA.out] at xa; have xt := HL2.out.xt hp; have xx := HL2.out.xnx; have xw := HL2.out.xnw; have f1 := HL2.out.free (3 + p * 2 + 1); have f2 := HL2.out.free 1; have f3 := HL2.out.free 2; clear hp1 hb1)
      have HS := Lib.hid (show w2.drew.cell? ⟨g, 2, none⟩ = some (.int .i64 s.nw) ∧ w2.drew.cell? ⟨g, 3 + p * 2 + 1, none⟩ = some (.int .i64 (s.t p)) from ⟨xw, xt⟩)
      go_region_held3 (fun W : World => W.cell? ⟨g, 2, none⟩ = some (.int .i64 s.nw) ∧ W.cell? ⟨g, 3 + p * 2 + 1, none⟩ = some (.int .i64 (s.t p))) (exact HS.out) ((go_at_call 47; (with_reducible refine (picked1_any _ HP.out.drew).mono ?_); rintro e w9 ⟨rfl, rfl⟩))
      all_goals
        go_wp2
        go_ret
        rw [E1.out, E2.out]
        exact ⟨rfl, HL2.out.drewN _, HT.out.drewN _⟩
  · have e1 : pone s p = 4 := by simp [pone, a3]
    have e2 : pdid s p = s := by simp [pdid, a3]
    have E1 := Lib.hid e1
    have E2 := Lib.hid e2
    have HA := Lib.hid a3
    clear a3 e1 e2 ha
    go_wp2_with (go_at_call 39; (with_reducible refine (pick_any _ HL.out).mono ?_); rintro e w2 ⟨b, rfl, hp1, hb1⟩; have HP := Lib.hid hp1; have HT := Lib.hid (Touch.of_below (O := fun k => k = g) hb1 fun i h1 h2 => absurd h2 (Nat.not_lt_of_le h1)); have HL2 := Lib.hid (HK.out.below0 hb1 HL.out); have xa := HL2.out.xa hp; rw [HA.out] at xa; have xt := HL2.out.xt hp; have xx := HL2.out.xnx; have xw := HL2.out.xnw; have f1 := HL2.out.free (3 + p * 2 + 1); have f2 := HL2.out.free 1; have f3 := HL2.out.free 2; clear hp1 hb1)
    go_ret
    rw [E1.out, E2.out]
    exact ⟨rfl, HL2.out, HT.out⟩
  · have e1 : pone s p = 1 := by simp [pone, a4]
    have e2 : pdid s p = putT (putW s (s.t p + 1)) p 0 := by simp [pdid, a4]
    have hwr : IntKind.i64.wrap ((s.t p : Int) + 1) = (s.t p : Int) + 1 := IntWalk.i64_in _ (by omega)
    have E1 := Lib.hid e1
    have E2 := Lib.hid e2
    have HA := Lib.hid a4
    clear a4 e1 e2 ha
    go_wp2_with (go_at_call 39; (with_reducible refine (pick_any _ HL.out).mono ?_); rintro e w2 ⟨b, rfl, hp1, hb1⟩; have HP := Lib.hid hp1; have HT := Lib.hid (Touch.of_below (O := fun k => k = g) hb1 fun i h1 h2 => absurd h2 (Nat.not_lt_of_le h1)); have HL2 := Lib.hid (HK.out.below0 hb1 HL.out); have xa := HL2.out.xa hp; rw [HA.out] at xa; have xt := HL2.out.xt hp; have xx := HL2.out.xnx; have xw := HL2.out.xnw; have f1 := HL2.out.free (3 + p * 2 + 1); have f2 := HL2.out.free 1; have f3 := HL2.out.free 2; clear hp1 hb1)
    have HS := Lib.hid (show w2.drew.cell? ⟨g, 3 + p * 2 + 1, none⟩ = some (.int .i64 (s.t p)) ∧ w2.drew.cell? ⟨g, 3 + p * 2, none⟩ = some (.int .i64 4) from ⟨xt, xa⟩)
    go_region_held3 (fun W : World => W.cell? ⟨g, 3 + p * 2 + 1, none⟩ = some (.int .i64 (s.t p)) ∧ W.cell? ⟨g, 3 + p * 2, none⟩ = some (.int .i64 4)) (first | exact HS.out | exact ⟨(cell_far (by omega)).trans xt, (cell_far (by omega)).trans xa⟩) ((first | (go_at_call 47; (with_reducible refine (picked1_any _ HP.out.drew).mono ?_); rintro e w9 ⟨rfl, rfl⟩) | (go_at_call 47; (with_reducible refine (picked1_any _ (HP.out.drewN _)).mono ?_); rintro e w9 ⟨rfl, rfl⟩)))
    all_goals
      go_wp2
      go_ret
      rw [E1.out, E2.out]
      exact ⟨rfl, ((HL2.out.drewN _).setW hn (s.t p + 1)).setT hn hp 0, ((HT.out.drewN _).setCell (Or.inl rfl) _).setCell (Or.inl rfl) _⟩
end Go.Proofs.Ytobfaohcadmopaa.Ticket
