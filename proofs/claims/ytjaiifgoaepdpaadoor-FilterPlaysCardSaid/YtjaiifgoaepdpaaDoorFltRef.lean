/-
  The reference's step of the lock of several doors.
-/
import Derived.Test.YtjaiifgoaepdpaaDoorMachMs
import Derived.Test.YtjaiifgoaepdpaaDoorFltLk
namespace Go.Proofs.YtjaiifgoaepdpaaDoor.Filter
open Go.RowKit

set_option maxHeartbeats 4000000 in
set_option maxRecDepth 100000 in
theorem passes_any (n : Int) (v : Value) (ws ls : List Int) (os : List (List Int)) (p : Nat) (a : Int) (j k : Nat) (w : World) {P : Nat → Prop} (hP : ∀ b, P b → b < w.heap.size) (h : Mc w P n v ws ls os)
    (h1 : 0 < ws.length) (hl : ls[p]? = some a) (ho : os[p]? = some [(j : Int), (k : Int)]) (hls : ls.length ≤ 1000) (hos : os.length ≤ 1000) (hj : j ≤ 100) (t : Int) (ht : t = if n ≤ ((j + 1 : Nat) : Int) then 5 else 1) :
    Calls Tryd.prog 19 #[v, .int .i64 p] w fun e w' => ∃ v', e = .returned v' ∧ Mc w' (New P w w') n v' ws (ls.set p t) (os.set p [((j + 1 : Nat) : Int), 0]) ∧ Below w.heap.size w w' := by
  have hp2 : p < ls.length := (List.getElem?_eq_some_iff.1 hl).1
  have hp3 : p < os.length := (List.getElem?_eq_some_iff.1 ho).1
  have HM := Lib.hid h
  obtain ⟨b1, o1, c1, b2, o2, c2, b3, o3, c3, bp, op, cp, rfl, hread⟩ := mc_open hP h h1 hl ho (by simp)
  obtain ⟨wv, av, ov, e, k1, k2, k3⟩ := h
  injection e with e
  simp at e
  obtain ⟨rfl, rfl, rfl⟩ := e
  have HF := Lib.hid (MBox.made (x3 := .slice (some ⟨b3, o3, none⟩) os.length c3) (n := n) w _ (k1.nums hP) (k2.nums hP) rfl)
  have HP := Lib.hid hP
  have HRD := Lib.hid hread
  have hp3I : (p : Int) < os.length := by omega
  obtain ⟨j1, hj1⟩ : ∃ j1, j1 = j + 1 := ⟨_, rfl⟩
  have hwr : IntKind.i64.wrap ((j : Int) + 1) = (j1 : Int) := by rw [hj1]; exact IntWalk.i64_in _ (by omega)
  rw [← hj1] at ht ⊢
  have HT := Lib.hid ht
  clear hP hread k1 k2 k3 hj1 ht
  go_enter Tryd.func19, Tryd.ntmps19
  go_upto_region 1 with fail
  obtain ⟨V, hV⟩ : ∃ V, V = (w.alloc (.cells #[.int .i64 n, .slice (some ⟨b1, o1, none⟩) ws.length c1, .slice (some ⟨b2, o2, none⟩) ls.length c2, .slice (some ⟨b3, o3, none⟩) os.length c3] 31)).alloc (.cells #[.int .i64 0, .slice none 0 0, .slice none 0 0, .slice none 0 0] 31) := ⟨_, rfl⟩
  rw [← hV] at HF
  rw [← hV]
  obtain ⟨h, hh⟩ : ∃ h, h = w.heap.size := ⟨_, rfl⟩
  have HB := Lib.hid (show MBox w V h n _ _ _ ws ls by rw [hh]; exact HF.out)
  rw [← hh]
  clear hV hh HF
  have HPV := Lib.hid (show ∀ b, P b → b < V.heap.size from fun b hb => Nat.lt_of_lt_of_le (HP.out b hb) HB.out.below.size)
  have HM0 := Lib.hid (MS.start (HM.out.keep (fun _ h => h) (fun p hp => HB.out.below.cell (HP.out _ hp))))
  obtain ⟨y0, y1, y2, y3⟩ := HB.out.cells
  obtain ⟨-, -, r3, r4⟩ := HRD.out V HB.out.below
  have r40 := r4 0 _ rfl
  have r41 := r4 1 _ rfl
  rw [Nat.add_zero] at r40
  clear r4
  go_upto_region 3 with (first | (go_at_call 16; (with_reducible refine (ms_own20 HPV.out HM0.out p j1 _ _ ho hos).mono ?_); rintro e w1 ⟨v1, rfl, hm⟩; have HM1 := Lib.hid hm; clear hm) | (go_at_call 16; (with_reducible refine (ms_own21 HPV.out HM1.out p 0 _ _ (set_get ho) (by simpa using hos)).mono ?_); rintro e w2 ⟨v2, rfl, hm⟩; have HM2 := Lib.hid hm; clear hm; obtain ⟨B1, m1, d1, B2, m2, d2, B3, m3, d3, rfl⟩ := HM2.out.form; have HG := Lib.hid (HB.out.on HM2.out.below); obtain ⟨x0, x1, x2, x3⟩ := HG.out.cells; obtain ⟨u0, u1, u2, -⟩ := HG.out.frees; have u3 := HG.out.one.free 0))
  have hPn : ∀ b, New P V w2 b → b < w2.heap.size ∧ b ≠ h := fun b hb => ⟨HM2.out.lt HPV.out b hb, fun e => by
    have h0 := HB.out.one.lt
    have h1 := HB.out.low
    rcases hb with hb | hb
    · have := HP.out b hb; omega
    · omega⟩
  obtain ⟨hS, hM3, hs3, hoff⟩ := HG.out.store HM2.out.mc hPn
  obtain ⟨U, hU⟩ : ∃ U, U = ((((w2.setCell ⟨h, 0, none⟩ (.int .i64 n)).setCell ⟨h, 1, none⟩ (.slice B1 m1 d1)).setCell ⟨h, 2, none⟩ (.slice B2 m2 d2)).setCell ⟨h, 3, none⟩ (.slice B3 m3 d3)) := ⟨_, rfl⟩
  rw [← hU] at hS hM3 hs3
  rw [← hU]
  have HS := Lib.hid hS
  have HM3 := Lib.hid (MS.start hM3)
  have HP3 := Lib.hid (show ∀ b, New P V w2 b → b < U.heap.size from fun b hb => hs3 ▸ (hPn b hb).1)
  have HPN := Lib.hid (show ∀ b, New P V w2 b → b ≠ h + 1 ∧ (P b ∨ (w.heap.size ≤ b ∧ b < U.heap.size)) from fun b hb => by
    have h0 := HB.out.two.lt
    have h1 := HB.out.low
    have h2 := HB.out.below.size
    rcases hb with hb | hb
    · have := HP.out b hb
      exact ⟨by omega, Or.inl hb⟩
    · exact ⟨by omega, Or.inr ⟨by omega, by omega⟩⟩)
  clear hS hM3 hs3 hU hPn hoff y0 r3 r40 r41 x0 x1 x2 x3 u0 u1 u2 u3
  obtain ⟨y0, y1, y2, y3⟩ := HS.out.cells
  by_cases hge : n ≤ (j1 : Int)
  all_goals
    have ht := HT.out
    first | rw [if_pos hge] at ht | rw [if_neg hge] at ht
    subst ht
    clear HT
    go_wp2_with (go_at_call 17; (with_reducible refine (ms_to HP3.out HM3.out p _ hp2 hls).mono ?_); rintro e w4 ⟨v4, rfl, hm⟩; have HM4 := Lib.hid hm; clear hm; obtain ⟨E1, n1, e1, E2, n2, e2, E3, n3, e3, rfl⟩ := HM4.out.form; have HG4 := Lib.hid (HS.out.on HM4.out.below); obtain ⟨x0, x1, x2, x3⟩ := HG4.out.room; obtain ⟨-, -, -, u3, u4, u5, u6⟩ := HG4.out.frees)
    obtain ⟨hT, hmc, hbel⟩ := ms_end2 HS.out HPN.out HM4.out
    rw [List.set_set] at hmc
    exact bodyPost_ret (v := .agg #[.int .i64 n, .slice E1 n1 e1, .slice E2 n2 e2, .slice E3 n3 e3]) (results_cell_row rfl _ _ (h + 1) 31 _ (0, 0) _ rfl hT Tryd.underlying31 rfl (by kernel_rfl)) rfl ⟨_, rfl, hmc, hbel⟩
theorem ms_passes {P : Nat → Prop} {V W : World} {n : Int} {v : Value} {ws ls : List Int} {os : List (List Int)} (hP : ∀ b, P b → b < V.heap.size) (h : MS P V W n v ws ls os) (p : Nat) (a : Int) (j k : Nat) (h1 : 0 < ws.length) (hl : ls[p]? = some a) (ho : os[p]? = some [(j : Int), (k : Int)]) (hls : ls.length ≤ 1000) (hos : os.length ≤ 1000) (hj : j ≤ 100) (t : Int) (ht : t = if n ≤ ((j + 1 : Nat) : Int) then 5 else 1) :
    Calls Tryd.prog 19 #[v, .int .i64 p] W fun e W' => ∃ v', e = .returned v' ∧ MS P V W' n v' ws (ls.set p t) (os.set p [((j + 1 : Nat) : Int), 0]) :=
  (passes_any n v ws ls os p a j k W (h.lt hP) h.mc h1 hl ho hls hos hj t ht).mono fun _ _ ⟨v', he, hm, hb⟩ => ⟨v', he, h.step hm hb⟩
end Go.Proofs.YtjaiifgoaepdpaaDoor.Filter
