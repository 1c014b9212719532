/-
  The law's in and good: is a row of numbers good.
-/
import Derived.Test.YtimdhnjkjflbdaaLinGets
namespace Go.Proofs.Ytimdhnjkjflbdaa.Lin
open Go.RowKit

theorem in_any (n lo hi : Int) (w : World) : Calls Try.prog 29 #[.int .i64 n, .int .i64 lo, .int .i64 hi] w fun e w' => e = .returned (.bool (inR n lo hi)) ∧ w = w' := by
  by_cases h1 : lo ≤ n
  · by_cases h2 : n ≤ hi
    · go_enter Try.func29, Try.ntmps29
      go_wp2
      go_ret
      exact ⟨by simp [inR, h1, h2], rfl⟩
    · go_enter Try.func29, Try.ntmps29
      go_wp2
      go_ret
      exact ⟨by simp [inR, h2], rfl⟩
  · go_enter Try.func29, Try.ntmps29
    go_wp2
    go_ret
    exact ⟨by simp [inR]; omega, rfl⟩
theorem in_same (n lo hi : Int) (w : World) : Calls Try.prog 29 #[.int .i64 n, .int .i64 lo, .int .i64 hi] w fun e w' => e = .returned (.bool (inR n lo hi)) ∧ w' = w :=
  (in_any n lo hi w).mono fun _ _ ⟨h1, h2⟩ => ⟨h1, h2.symm⟩
theorem drewN_drewN (w : World) (n m : Nat) : (w.drewN n).drewN m = w.drewN (n + m) := World.drewN_drewN w n m
/-- The op at place x spoils place k, at which op r stands. -/
def Pk (h : List LO) (R : List Int) (k r x : Nat) : Prop :=
  x ≠ k ∧ R.getD x 0 = (r : Int) ∨ k < x ∧ (0 ≤ R.getD x 0 ∧ R.getD x 0 ≤ (h.length : Int) - 1) ∧ (lat h (R.getD x 0).toNat).to ≤ (lat h r).fr
/-- What good answers. -/
def GdT (ob : Nat) (h : List LO) (R : List Int) (e : Ending) : Prop := ∃ D, e = .returned (.bool D) ∧ (D = true ↔ goodI ob h R)
theorem lend_ne {h : LOps} : ∀ {r : List Nat} {has : List Int}, has ≠ [] → lend 0 h has r ≠ []
  | [], _, hh => hh
  | i :: r, has, hh => lend_ne (r := r) (by
      unfold lgets
      rw [if_pos rfl]
      split
      · simp
      · exact hh)
theorem lend_bd {h : List LO} {R : List Int} {ob k : Nat} (hin : ∀ i, i < h.length → (lat h i).inb) (hg : ∀ i, i < k → GAt ob h R i) (hk : k ≤ R.length) : ∀ x, x ∈ (R.map Int.toNat).take k → 0 ≤ (hops h).ar x ∧ (hops h).ar x ≤ 1000 := fun x hx => by
  obtain ⟨i, hi, e⟩ := List.getElem_of_mem hx
  have hi2 : i < k := by simp at hi; omega
  rw [List.getElem_take, List.getElem_map, ← getD_at (by omega)] at e
  have g := hg i hi2
  have h1 := g.lo
  have h2 := g.hi
  have h3 : x < h.length := by omega
  exact (hin x h3).2.2.1
theorem kgets_at {h : List LO} {R : List Int} {ob k r : Nat} (hin : ∀ i, i < h.length → (lat h i).inb) (hg : ∀ i, i < k → GAt ob h R i) (hk : k ≤ R.length) (_hrk : (r : Int) = R.getD k 0) (hr : r < h.length) (hl8 : R.length ≤ 8) (h2 : ob ≤ 2) {hx : Value} (w : World) (hn : NumsC w w.heap.size hx (lhas ob h (R.map Int.toNat) k)) :
    Calls Try.prog 30 #[.int .i64 ob, hx, .agg #[.int .i64 (lat h r).hd, .int .i64 (lat h r).kd, .int .i64 (lat h r).ar, .int .i64 (lat h r).gt, .int .i64 (lat h r).fr, .int .i64 (lat h r).to]] w fun e w' =>
      (∃ u, e = .returned (.tuple #[u, .int .i64 (lgets ob (lat h r).kd.toNat (lat h r).ar (lhas ob h (R.map Int.toNat) k)).2]) ∧ NumsC w' w'.heap.size u (lgets ob (lat h r).kd.toNat (lat h r).ar (lhas ob h (R.map Int.toNat) k)).1) ∧ Below w.heap.size w w' := by
  have h4 : ((R.map Int.toNat).take k).length ≤ k := List.length_take_le _ _
  refine kgets_any ob h2 (lat h r) (hin r hr).2.1 (hin r hr).2.2.1 _ (fun e => by subst e; exact lend_ne (by simp [linit])) (fun z hz => ?_) ?_ hx w hn
  · have h1 := lend_le (h := hops h) (ob := ob) (linit_le ob) (Int.le_refl 0) (lend_bd hin hg hk) z hz
    omega
  · have h1 := lend_len (h := hops h) (ob := ob) (r := (R.map Int.toNat).take k) (has := linit ob)
    have h3 := linit_len ob
    show (lend ob (hops h) (linit ob) ((R.map Int.toNat).take k)).length ≤ 900
    omega
set_option maxHeartbeats 16000000 in
set_option maxRecDepth 100000 in
theorem good_any (ob : Nat) (h2 : ob ≤ 2) (h : List LO) (hin : ∀ i, i < h.length → (lat h i).inb) (hl : h.length ≤ 8) (R : List Int) (v rv : Value) (w : World) (hh : Ops w w.heap.size v h) (hr : Nums w w.heap.size rv R) :
    Calls Try.prog 28 #[.int .i64 ob, v, rv] w fun e w' => GdT ob h R e ∧ Below w.heap.size w w' := by
  obtain ⟨i0, hi0, hz0, hz1, hz2⟩ := info_parts Tint.info
  have HO := Lib.hid (fun (A : Option Addr) (c : Nat) (e : v = .slice A h.length c) (k : Nat) (hk : k < h.length) => (e ▸ hh).at_ hk)
  obtain ⟨A, c, rfl, ⟨hc1, hc2⟩, -⟩ := id hh
  have HO := Lib.hid (HO.out A c rfl)
  obtain ⟨Ra, rc, rfl, hrl, hrf⟩ := hr
  have HIN := Lib.hid hin; clear hin hh
  by_cases hle : R.length = h.length
  · have hl8 : R.length ≤ 8 := by omega
    have dle : ((R.length : Int) != (h.length : Int)) = false := by simp [hle]
    have HLE := Lib.hid hle
    have HRN := Lib.hid (show ∃ lb lo, (0 < R.length → Ra = some ⟨lb, lo, none⟩) ∧ (0 < R.length → lb < w.heap.size) ∧ ∀ j, j < R.length → w.cell? ⟨lb, lo + j, none⟩ = some (.int .i64 (R.getD j 0)) from by
      by_cases h0 : 0 < R.length
      · obtain ⟨b, o, e, hb, hcc⟩ := hrf h0
        exact ⟨b, o, fun _ => e, fun _ => hb, fun j hj => hcc j _ (by rw [getD_at hj]; exact List.getElem?_eq_getElem hj)⟩
      · exact ⟨0, 0, fun h1 => absurd h1 h0, fun h1 => absurd h1 h0, fun j hj => absurd hj (by omega)⟩)
    clear hrf hle hl
    by_cases h0 : ob = 0
    · subst h0
      rw [show ((0 : Nat) : Int) = 0 from rfl]
      go_enter Try.func28, Try.ntmps28
      go_wp2_with (at_builtin; refine wpList_append_lies _ rfl (.tmp 19) (.tmp 20) 23 rfl w.heap.size 3 i0 (.int .i64 0) 1 8 Try.underlying23 hi0 hz0 hz1 hz2 rfl (by omega) (.slice none 0 0) 0 [] rfl (World.ownsRow_nil _ _ _ _) ⟨w.heap.size, 0, none⟩ 1 1 [.int .i64 0] rfl (by rfl) (one_cell (by simp)) (by intro u hu; simp at hu; subst hu; rfl) (by omega) (by unfold maxLen; omega) (by omega) (by simp) (w.heap.size + 1) (by simp) ?_; intro q cap w1 hown hgrow hat hlt; have HN1 := Lib.hid (NumsC.own (zs := [0]) hown); have HB1 := Lib.hid (((Below.refl w.heap.size w).alloc (Nat.le_refl _) _).grown hgrow (by simp) fun k hk => by cases hk); clear hown hgrow hat hlt)
      go_loopw [7, 8] (fun hx y wr => ∃ k : Nat, k ≤ R.length ∧ y = .int .i64 k ∧ (∀ i, i < k → GAt 0 h R i) ∧ NumsC wr wr.heap.size hx (lhas 0 h (R.map Int.toNat) k) ∧ Below w.heap.size w wr) (fun _ y _ => R.length - (intOf y).toNat)
      case atStart => exact ⟨0, Nat.zero_le _, rfl, (fun i hi => absurd hi (Nat.not_lt_zero _)), HN1.out, HB1.out⟩
      case round =>
        obtain ⟨k, hk, rfl, hg, hn, hbr⟩ := hrel
        have HG := Lib.hid hg; have HN := Lib.hid hn; have HBR := Lib.hid hbr
        clear hg hn
        by_cases hlt : k < R.length
        · obtain ⟨lb, lo, hA, hlb, hrc⟩ := HRN.out
          have hA := hA (by omega)
          have hlb := hlb (by omega)
          subst hA
          obtain ⟨rk, hrk⟩ : ∃ rk, rk = R.getD k 0 := ⟨_, rfl⟩
          have HRK := Lib.hid hrk
          have hck := (hbr.cell (p := ⟨lb, lo + k, none⟩) hlb).trans (hrc k hlt)
          rw [← hrk] at hck
          have HRC := Lib.hid (fun j (hj : j < R.length) => (hbr.cell (p := ⟨lb, lo + j, none⟩) hlb).trans (hrc j hj))
          have HI1 := Lib.hid (fun w' => in_any rk 0 ((h.length : Int) - 1) w')
          clear hrk hrc
          by_cases hin : 0 ≤ rk ∧ rk ≤ (h.length : Int) - 1
          · have hinB : inR rk 0 ((h.length : Int) - 1) = true := inR_true.2 hin
            obtain ⟨r, rfl⟩ := Int.eq_ofNat_of_zero_le hin.1
            have hr : r < h.length := by omega
            have hr2 : (r : Int) ≤ (h.length : Int) - 1 := by omega
            obtain ⟨b, off, hv2, hb, c0, c1, c2, c3, c4, c5⟩ := HO.out r hr
            subst hv2
            have g0 := (hbr.cell (p := ⟨b, off + r * 6, none⟩) hb).trans c0
            have g1 := (hbr.cell (p := ⟨b, off + r * 6 + 1, none⟩) hb).trans c1
            have g2 := (hbr.cell (p := ⟨b, off + r * 6 + 2, none⟩) hb).trans c2
            have g3 := (hbr.cell (p := ⟨b, off + r * 6 + 3, none⟩) hb).trans c3
            have g4 := (hbr.cell (p := ⟨b, off + r * 6 + 4, none⟩) hb).trans c4
            have g5 := (hbr.cell (p := ⟨b, off + r * 6 + 5, none⟩) hb).trans c5
            clear c0 c1 c2 c3 c4 c5 hin
            go_wp2_with (go_at_call 29; (with_reducible refine (HI1.out _).mono ?_); rintro e w1 ⟨rfl, rfl⟩)
            obtain ⟨wo, hwo⟩ : ∃ wo : World, wo = wr := ⟨_, rfl⟩
            subst hwo
            go_loopw [9] (fun y wr => ∃ j : Nat, j ≤ R.length ∧ y = .int .i64 j ∧ (∀ x, x < j → ¬ Pk h R k r x) ∧ ∃ n, wr = wo.drewN n) (fun y _ => R.length - (intOf y).toNat)
            case atStart => exact ⟨0, Nat.zero_le _, rfl, (fun x hx => absurd hx (Nat.not_lt_zero _)), 0, rfl⟩
            case round =>
              obtain ⟨j, hj, rfl, hp, n, hwq⟩ := hrel
              have HP := Lib.hid hp; clear hp
              have HBQ := Lib.hid (show Below w.heap.size w wr from hwq ▸ below_drewN HBR.out n)
              have HNQ := Lib.hid (show NumsC wr wr.heap.size u7 (lhas 0 h (R.map Int.toNat) k) from hwq ▸ HN.out.below (below_drewN (Below.refl _ wo) n) (Nat.le_refl _))
              have HWC := Lib.hid (show ∀ p, wr.cell? p = wo.cell? p from fun p => by rw [hwq]; rfl)
              have hsz : wr.heap.size = wo.heap.size := by rw [hwq]; rfl
              have HWQ := Lib.hid hwq; clear hwq
              have k0 := (HWC.out _).trans g0
              have k1 := (HWC.out _).trans g1
              have k2 := (HWC.out _).trans g2
              have k3 := (HWC.out _).trans g3
              have k4 := (HWC.out _).trans g4
              have k5 := (HWC.out _).trans g5
              have kk := (HWC.out _).trans hck
              by_cases hjl : j < R.length
              · obtain ⟨rj, hrj⟩ : ∃ rj, rj = R.getD j 0 := ⟨_, rfl⟩
                have hcj := (HWC.out _).trans (HRC.out j hjl)
                rw [← hrj] at hcj
                have HRJ := Lib.hid hrj; clear hrj
                by_cases c1 : j = k
                · subst c1
                  have HNP := Lib.hid (show ¬ Pk h R j r j from fun c => by
                    rcases c with c | c
                    · exact c.1 rfl
                    · omega)
                  go_wp2_with fail
                  go_quiet (fail)
                  go_wp2
                  go_roundw
                  case rel => exact ⟨j + 1, by omega, by go_num, fun x hx => (if e : x = j then e ▸ HNP.out else HP.out x (by omega)), by rw [HWQ.out]; first | exact ⟨_, rfl⟩ | exact ⟨_, drewN_drewN _ _ _⟩⟩
                  case measure => simp [intOf]; omega
                · have d1 : ((j : Int) != (k : Int)) = true := by simp; omega
                  by_cases c2 : rj = (r : Int)
                  · have d2 : (rj == (r : Int)) = true := beq_iff_eq.2 c2
                    have HNG := Lib.hid (show ¬ goodI 0 h R from fun c => (c.2 k hlt).two j hjl (by rw [← HRK.out, ← HRJ.out]; exact Or.inl ⟨c1, c2⟩))
                    clear c1 c2
                    go_wp2_with fail
                    go_quiet (fail)
                    go_wp2
                    go_ret
                    exact ⟨⟨false, rfl, ⟨(fun c => by cases c), fun c => absurd c HNG.out⟩⟩, below_drewN HBQ.out _⟩
                  · have d2 : (rj == (r : Int)) = false := beq_eq_false_iff_ne.2 c2
                    by_cases c3 : k < j
                    · have d3 : decide ((k : Int) < (j : Int)) = true := decide_eq_true (by omega)
                      have d3' : decide (k < j) = true := decide_eq_true c3
                      have HI2 := Lib.hid (fun w' => in_same rj 0 ((h.length : Int) - 1) w')
                      by_cases c4 : 0 ≤ rj ∧ rj ≤ (h.length : Int) - 1
                      · have d4 : inR rj 0 ((h.length : Int) - 1) = true := inR_true.2 c4
                        obtain ⟨q, rfl⟩ := Int.eq_ofNat_of_zero_le c4.1
                        have hq : q < h.length := by omega
                        have hq2 : (q : Int) ≤ (h.length : Int) - 1 := by omega
                        obtain ⟨b', off', e', _, _, _, _, _, _, f5⟩ := HO.out q hq
                        injection e' with e'
                        injection e' with e1 e2
                        subst e1 e2
                        have q5 := (HWC.out _).trans ((hbr.cell (p := ⟨b, off + q * 6 + 5, none⟩) hb).trans f5)
                        clear f5
                        by_cases c5 : (lat h q).to ≤ (lat h r).fr
                        · have d5 : decide ((lat h q).to ≤ (lat h r).fr) = true := decide_eq_true c5
                          have HNG := Lib.hid (show ¬ goodI 0 h R from fun c => (c.2 k hlt).two j hjl (by rw [← HRK.out, ← HRJ.out]; exact Or.inr ⟨c3, c4, c5⟩))
                          clear c1 c2 c3 c4 c5
                          go_wp2_with fail
                          go_quiet ((go_at_call 29; exact Calls.quiet_of_same (HI2.out _)))
                          go_wp2
                          go_ret
                          exact ⟨⟨false, rfl, ⟨(fun c => by cases c), fun c => absurd c HNG.out⟩⟩, below_drewN HBQ.out _⟩
                        · have d5 : decide ((lat h q).to ≤ (lat h r).fr) = false := decide_eq_false c5
                          have HNP := Lib.hid (show ¬ Pk h R k r j from fun c => by
                            rw [Pk, ← HRJ.out] at c
                            rcases c with c | c
                            · exact c2 c.2
                            · exact c5 c.2.2)
                          clear c1 c2 c3 c4 c5
                          go_wp2_with fail
                          go_quiet ((go_at_call 29; exact Calls.quiet_of_same (HI2.out _)))
                          go_wp2
                          go_roundw
                          case rel => exact ⟨j + 1, by omega, by go_num, fun x hx => (if e : x = j then e ▸ HNP.out else HP.out x (by omega)), by rw [HWQ.out]; first | exact ⟨_, rfl⟩ | exact ⟨_, drewN_drewN _ _ _⟩⟩
                          case measure => simp [intOf]; omega
                      · have d4 : inR rj 0 ((h.length : Int) - 1) = false := inR_false.2 c4
                        have HNP := Lib.hid (show ¬ Pk h R k r j from fun c => by
                          rw [Pk, ← HRJ.out] at c
                          rcases c with c | c
                          · exact c2 c.2
                          · exact c4 c.2.1)
                        clear c1 c2 c3 c4
                        go_wp2_with fail
                        go_quiet ((go_at_call 29; exact Calls.quiet_of_same (HI2.out _)))
                        go_wp2
                        go_roundw
                        case rel => exact ⟨j + 1, by omega, by go_num, fun x hx => (if e : x = j then e ▸ HNP.out else HP.out x (by omega)), by rw [HWQ.out]; first | exact ⟨_, rfl⟩ | exact ⟨_, drewN_drewN _ _ _⟩⟩
                        case measure => simp [intOf]; omega
                    · have d3 : decide ((k : Int) < (j : Int)) = false := decide_eq_false (by omega)
                      have d3' : decide (k < j) = false := decide_eq_false c3
                      have HNP := Lib.hid (show ¬ Pk h R k r j from fun c => by
                        rw [Pk, ← HRJ.out] at c
                        rcases c with c | c
                        · exact c2 c.2
                        · exact c3 c.1)
                      clear c1 c2 c3
                      go_wp2_with fail
                      go_quiet (fail)
                      go_wp2
                      go_roundw
                      case rel => exact ⟨j + 1, by omega, by go_num, fun x hx => (if e : x = j then e ▸ HNP.out else HP.out x (by omega)), by rw [HWQ.out]; first | exact ⟨_, rfl⟩ | exact ⟨_, drewN_drewN _ _ _⟩⟩
                      case measure => simp [intOf]; omega
              · have HTW := Lib.hid (show ∀ x, x < R.length → ¬ Pk h R k r x from fun x hx => HP.out x (by omega))
                have HK := Lib.hid (kgets_at HIN.out HG.out (by omega) HRK.out hr hl8 h2 (hx := u7) wr HNQ.out)
                rw [show ((0 : Nat) : Int) = 0 from rfl] at HK
                obtain ⟨G, hG⟩ : ∃ G, G = (lgets 0 (lat h r).kd.toNat (lat h r).ar (lhas 0 h (R.map Int.toNat) k)).2 := ⟨_, rfl⟩
                rw [← hG] at HK
                have HGG := Lib.hid hG; clear hG
                obtain ⟨M, hM⟩ : ∃ M, M = (lgets 0 (lat h r).kd.toNat (lat h r).ar (lhas 0 h (R.map Int.toNat) k)).1 := ⟨_, rfl⟩
                rw [← hM] at HK
                have HMM := Lib.hid hM; clear hM
                by_cases e : G = (lat h r).gt
                · have d : (G != (lat h r).gt) = false := by simp [e]
                  have HGA := Lib.hid (show GAt 0 h R k from ⟨by rw [← HRK.out]; omega, by rw [← HRK.out]; exact hr2, fun x hx c => HTW.out x hx (by rw [Pk]; rw [← HRK.out] at c; exact c), by rw [← HRK.out, show ((r : Int)).toNat = r from rfl, ← HGG.out]; exact e⟩)
                  have HLS := Lib.hid (show lhas 0 h (R.map Int.toNat) (k + 1) = M by
                    rw [lhas_succ (by simpa using hlt), List.getElem_map, ← getD_at hlt, ← HRK.out, HMM.out]; rfl)
                  clear e
                  go_wp2_with (go_at_call 30; (with_reducible refine HK.out.mono ?_); rintro e w7 ⟨⟨u, rfl, hn7⟩, hb7⟩; have h73 := (hb7.cell (p := ⟨b, off + r * 6 + 3, none⟩) (Nat.lt_of_lt_of_le hb HBQ.out.size)).trans k3; have h7k := (hb7.cell (p := ⟨lb, lo + k, none⟩) (Nat.lt_of_lt_of_le hlb HBQ.out.size)).trans kk; have HN7 := Lib.hid hn7; have HB7 := Lib.hid (HBQ.out.trans (hb7.mono HBQ.out.size)); clear hn7 hb7)
                  go_roundw
                  case rel => exact ⟨k + 1, by omega, by go_num, fun i hi => (if e : i = k then e ▸ HGA.out else HG.out i (by omega)), by rw [HLS.out]; exact HN7.out, HB7.out⟩
                  case measure => simp [intOf]; omega
                · have d : (G != (lat h r).gt) = true := by simp [e]
                  have HNG := Lib.hid (show ¬ goodI 0 h R from fun c => e (by have h9 := (c.2 k hlt).go; rw [← HRK.out, show ((r : Int)).toNat = r from rfl, ← HGG.out] at h9; exact h9))
                  clear e
                  go_wp2_with (go_at_call 30; (with_reducible refine HK.out.mono ?_); rintro e w7 ⟨⟨u, rfl, hn7⟩, hb7⟩; have h73 := (hb7.cell (p := ⟨b, off + r * 6 + 3, none⟩) (Nat.lt_of_lt_of_le hb HBQ.out.size)).trans k3; have h7k := (hb7.cell (p := ⟨lb, lo + k, none⟩) (Nat.lt_of_lt_of_le hlb HBQ.out.size)).trans kk; have HB7 := Lib.hid (HBQ.out.trans (hb7.mono HBQ.out.size)); clear hn7 hb7)
                  go_ret
                  exact ⟨⟨false, rfl, ⟨(fun c => by cases c), fun c => absurd c HNG.out⟩⟩, HB7.out⟩
          · have hinB : inR rk 0 ((h.length : Int) - 1) = false := inR_false.2 hin
            have HNG := Lib.hid (show ¬ goodI 0 h R from fun c => hin (by rw [HRK.out]; exact ⟨(c.2 k hlt).lo, (c.2 k hlt).hi⟩))
            clear hin
            go_wp2_with (go_at_call 29; (with_reducible refine (HI1.out _).mono ?_); rintro e w1 ⟨rfl, rfl⟩)
            go_ret
            exact ⟨⟨false, rfl, ⟨(fun c => by cases c), fun c => absurd c HNG.out⟩⟩, HBR.out⟩
        · have HGD := Lib.hid (show goodI 0 h R from ⟨HLE.out, fun i hi => HG.out i (by omega)⟩)
          go_wp2
          go_ret
          exact ⟨⟨true, rfl, ⟨fun _ => HGD.out, fun _ => rfl⟩⟩, HBR.out⟩
    · have d0 : ((ob : Int) == 0) = false := beq_eq_false_iff_ne.2 (by omega)
      have HOB := Lib.hid h0
      clear h0
      go_enter Try.func28, Try.ntmps28
      go_wp2
      go_loopw [7, 8] (fun hx y wr => ∃ k : Nat, k ≤ R.length ∧ y = .int .i64 k ∧ (∀ i, i < k → GAt ob h R i) ∧ NumsC wr wr.heap.size hx (lhas ob h (R.map Int.toNat) k) ∧ Below w.heap.size w wr) (fun _ y _ => R.length - (intOf y).toNat)
      case atStart => exact ⟨0, Nat.zero_le _, rfl, (fun i hi => absurd hi (Nat.not_lt_zero _)), by rw [lhas_zero, linit, if_neg HOB.out]; exact NumsC.nil _ _ _ _ (by omega), Below.refl _ _⟩
      case round =>
        obtain ⟨k, hk, rfl, hg, hn, hbr⟩ := hrel
        have HG := Lib.hid hg; have HN := Lib.hid hn; have HBR := Lib.hid hbr
        clear hg hn
        by_cases hlt : k < R.length
        · obtain ⟨lb, lo, hA, hlb, hrc⟩ := HRN.out
          have hA := hA (by omega)
          have hlb := hlb (by omega)
          subst hA
          obtain ⟨rk, hrk⟩ : ∃ rk, rk = R.getD k 0 := ⟨_, rfl⟩
          have HRK := Lib.hid hrk
          have hck := (hbr.cell (p := ⟨lb, lo + k, none⟩) hlb).trans (hrc k hlt)
          rw [← hrk] at hck
          have HRC := Lib.hid (fun j (hj : j < R.length) => (hbr.cell (p := ⟨lb, lo + j, none⟩) hlb).trans (hrc j hj))
          have HI1 := Lib.hid (fun w' => in_any rk 0 ((h.length : Int) - 1) w')
          clear hrk hrc
          by_cases hin : 0 ≤ rk ∧ rk ≤ (h.length : Int) - 1
          · have hinB : inR rk 0 ((h.length : Int) - 1) = true := inR_true.2 hin
            obtain ⟨r, rfl⟩ := Int.eq_ofNat_of_zero_le hin.1
            have hr : r < h.length := by omega
            have hr2 : (r : Int) ≤ (h.length : Int) - 1 := by omega
            obtain ⟨b, off, hv2, hb, c0, c1, c2, c3, c4, c5⟩ := HO.out r hr
            subst hv2
            have g0 := (hbr.cell (p := ⟨b, off + r * 6, none⟩) hb).trans c0
            have g1 := (hbr.cell (p := ⟨b, off + r * 6 + 1, none⟩) hb).trans c1
            have g2 := (hbr.cell (p := ⟨b, off + r * 6 + 2, none⟩) hb).trans c2
            have g3 := (hbr.cell (p := ⟨b, off + r * 6 + 3, none⟩) hb).trans c3
            have g4 := (hbr.cell (p := ⟨b, off + r * 6 + 4, none⟩) hb).trans c4
            have g5 := (hbr.cell (p := ⟨b, off + r * 6 + 5, none⟩) hb).trans c5
            clear c0 c1 c2 c3 c4 c5 hin
            go_wp2_with (go_at_call 29; (with_reducible refine (HI1.out _).mono ?_); rintro e w1 ⟨rfl, rfl⟩)
            obtain ⟨wo, hwo⟩ : ∃ wo : World, wo = wr := ⟨_, rfl⟩
            subst hwo
            go_loopw [9] (fun y wr => ∃ j : Nat, j ≤ R.length ∧ y = .int .i64 j ∧ (∀ x, x < j → ¬ Pk h R k r x) ∧ ∃ n, wr = wo.drewN n) (fun y _ => R.length - (intOf y).toNat)
            case atStart => exact ⟨0, Nat.zero_le _, rfl, (fun x hx => absurd hx (Nat.not_lt_zero _)), 0, rfl⟩
            case round =>
              obtain ⟨j, hj, rfl, hp, n, hwq⟩ := hrel
              have HP := Lib.hid hp; clear hp
              have HBQ := Lib.hid (show Below w.heap.size w wr from hwq ▸ below_drewN HBR.out n)
              have HNQ := Lib.hid (show NumsC wr wr.heap.size u7 (lhas ob h (R.map Int.toNat) k) from hwq ▸ HN.out.below (below_drewN (Below.refl _ wo) n) (Nat.le_refl _))
              have HWC := Lib.hid (show ∀ p, wr.cell? p = wo.cell? p from fun p => by rw [hwq]; rfl)
              have hsz : wr.heap.size = wo.heap.size := by rw [hwq]; rfl
              have HWQ := Lib.hid hwq; clear hwq
              have k0 := (HWC.out _).trans g0
              have k1 := (HWC.out _).trans g1
              have k2 := (HWC.out _).trans g2
              have k3 := (HWC.out _).trans g3
              have k4 := (HWC.out _).trans g4
              have k5 := (HWC.out _).trans g5
              have kk := (HWC.out _).trans hck
              by_cases hjl : j < R.length
              · obtain ⟨rj, hrj⟩ : ∃ rj, rj = R.getD j 0 := ⟨_, rfl⟩
                have hcj := (HWC.out _).trans (HRC.out j hjl)
                rw [← hrj] at hcj
                have HRJ := Lib.hid hrj; clear hrj
                by_cases c1 : j = k
                · subst c1
                  have HNP := Lib.hid (show ¬ Pk h R j r j from fun c => by
                    rcases c with c | c
                    · exact c.1 rfl
                    · omega)
                  go_wp2_with fail
                  go_quiet (fail)
                  go_wp2
                  go_roundw
                  case rel => exact ⟨j + 1, by omega, by go_num, fun x hx => (if e : x = j then e ▸ HNP.out else HP.out x (by omega)), by rw [HWQ.out]; first | exact ⟨_, rfl⟩ | exact ⟨_, drewN_drewN _ _ _⟩⟩
                  case measure => simp [intOf]; omega
                · have d1 : ((j : Int) != (k : Int)) = true := by simp; omega
                  by_cases c2 : rj = (r : Int)
                  · have d2 : (rj == (r : Int)) = true := beq_iff_eq.2 c2
                    have HNG := Lib.hid (show ¬ goodI ob h R from fun c => (c.2 k hlt).two j hjl (by rw [← HRK.out, ← HRJ.out]; exact Or.inl ⟨c1, c2⟩))
                    clear c1 c2
                    go_wp2_with fail
                    go_quiet (fail)
                    go_wp2
                    go_ret
                    exact ⟨⟨false, rfl, ⟨(fun c => by cases c), fun c => absurd c HNG.out⟩⟩, below_drewN HBQ.out _⟩
                  · have d2 : (rj == (r : Int)) = false := beq_eq_false_iff_ne.2 c2
                    by_cases c3 : k < j
                    · have d3 : decide ((k : Int) < (j : Int)) = true := decide_eq_true (by omega)
                      have d3' : decide (k < j) = true := decide_eq_true c3
                      have HI2 := Lib.hid (fun w' => in_same rj 0 ((h.length : Int) - 1) w')
                      by_cases c4 : 0 ≤ rj ∧ rj ≤ (h.length : Int) - 1
                      · have d4 : inR rj 0 ((h.length : Int) - 1) = true := inR_true.2 c4
                        obtain ⟨q, rfl⟩ := Int.eq_ofNat_of_zero_le c4.1
                        have hq : q < h.length := by omega
                        have hq2 : (q : Int) ≤ (h.length : Int) - 1 := by omega
                        obtain ⟨b', off', e', _, _, _, _, _, _, f5⟩ := HO.out q hq
                        injection e' with e'
                        injection e' with e1 e2
                        subst e1 e2
                        have q5 := (HWC.out _).trans ((hbr.cell (p := ⟨b, off + q * 6 + 5, none⟩) hb).trans f5)
                        clear f5
                        by_cases c5 : (lat h q).to ≤ (lat h r).fr
                        · have d5 : decide ((lat h q).to ≤ (lat h r).fr) = true := decide_eq_true c5
                          have HNG := Lib.hid (show ¬ goodI ob h R from fun c => (c.2 k hlt).two j hjl (by rw [← HRK.out, ← HRJ.out]; exact Or.inr ⟨c3, c4, c5⟩))
                          clear c1 c2 c3 c4 c5
                          go_wp2_with fail
                          go_quiet ((go_at_call 29; exact Calls.quiet_of_same (HI2.out _)))
                          go_wp2
                          go_ret
                          exact ⟨⟨false, rfl, ⟨(fun c => by cases c), fun c => absurd c HNG.out⟩⟩, below_drewN HBQ.out _⟩
                        · have d5 : decide ((lat h q).to ≤ (lat h r).fr) = false := decide_eq_false c5
                          have HNP := Lib.hid (show ¬ Pk h R k r j from fun c => by
                            rw [Pk, ← HRJ.out] at c
                            rcases c with c | c
                            · exact c2 c.2
                            · exact c5 c.2.2)
                          clear c1 c2 c3 c4 c5
                          go_wp2_with fail
                          go_quiet ((go_at_call 29; exact Calls.quiet_of_same (HI2.out _)))
                          go_wp2
                          go_roundw
                          case rel => exact ⟨j + 1, by omega, by go_num, fun x hx => (if e : x = j then e ▸ HNP.out else HP.out x (by omega)), by rw [HWQ.out]; first | exact ⟨_, rfl⟩ | exact ⟨_, drewN_drewN _ _ _⟩⟩
                          case measure => simp [intOf]; omega
                      · have d4 : inR rj 0 ((h.length : Int) - 1) = false := inR_false.2 c4
                        have HNP := Lib.hid (show ¬ Pk h R k r j from fun c => by
                          rw [Pk, ← HRJ.out] at c
                          rcases c with c | c
                          · exact c2 c.2
                          · exact c4 c.2.1)
                        clear c1 c2 c3 c4
                        go_wp2_with fail
                        go_quiet ((go_at_call 29; exact Calls.quiet_of_same (HI2.out _)))
                        go_wp2
                        go_roundw
                        case rel => exact ⟨j + 1, by omega, by go_num, fun x hx => (if e : x = j then e ▸ HNP.out else HP.out x (by omega)), by rw [HWQ.out]; first | exact ⟨_, rfl⟩ | exact ⟨_, drewN_drewN _ _ _⟩⟩
                        case measure => simp [intOf]; omega
                    · have d3 : decide ((k : Int) < (j : Int)) = false := decide_eq_false (by omega)
                      have d3' : decide (k < j) = false := decide_eq_false c3
                      have HNP := Lib.hid (show ¬ Pk h R k r j from fun c => by
                        rw [Pk, ← HRJ.out] at c
                        rcases c with c | c
                        · exact c2 c.2
                        · exact c3 c.1)
                      clear c1 c2 c3
                      go_wp2_with fail
                      go_quiet (fail)
                      go_wp2
                      go_roundw
                      case rel => exact ⟨j + 1, by omega, by go_num, fun x hx => (if e : x = j then e ▸ HNP.out else HP.out x (by omega)), by rw [HWQ.out]; first | exact ⟨_, rfl⟩ | exact ⟨_, drewN_drewN _ _ _⟩⟩
                      case measure => simp [intOf]; omega
              · have HTW := Lib.hid (show ∀ x, x < R.length → ¬ Pk h R k r x from fun x hx => HP.out x (by omega))
                have HK := Lib.hid (kgets_at HIN.out HG.out (by omega) HRK.out hr hl8 h2 (hx := u7) wr HNQ.out)
                obtain ⟨G, hG⟩ : ∃ G, G = (lgets ob (lat h r).kd.toNat (lat h r).ar (lhas ob h (R.map Int.toNat) k)).2 := ⟨_, rfl⟩
                rw [← hG] at HK
                have HGG := Lib.hid hG; clear hG
                obtain ⟨M, hM⟩ : ∃ M, M = (lgets ob (lat h r).kd.toNat (lat h r).ar (lhas ob h (R.map Int.toNat) k)).1 := ⟨_, rfl⟩
                rw [← hM] at HK
                have HMM := Lib.hid hM; clear hM
                by_cases e : G = (lat h r).gt
                · have d : (G != (lat h r).gt) = false := by simp [e]
                  have HGA := Lib.hid (show GAt ob h R k from ⟨by rw [← HRK.out]; omega, by rw [← HRK.out]; exact hr2, fun x hx c => HTW.out x hx (by rw [Pk]; rw [← HRK.out] at c; exact c), by rw [← HRK.out, show ((r : Int)).toNat = r from rfl, ← HGG.out]; exact e⟩)
                  have HLS := Lib.hid (show lhas ob h (R.map Int.toNat) (k + 1) = M by
                    rw [lhas_succ (by simpa using hlt), List.getElem_map, ← getD_at hlt, ← HRK.out, HMM.out]; rfl)
                  clear e
                  go_wp2_with (go_at_call 30; (with_reducible refine HK.out.mono ?_); rintro e w7 ⟨⟨u, rfl, hn7⟩, hb7⟩; have h73 := (hb7.cell (p := ⟨b, off + r * 6 + 3, none⟩) (Nat.lt_of_lt_of_le hb HBQ.out.size)).trans k3; have h7k := (hb7.cell (p := ⟨lb, lo + k, none⟩) (Nat.lt_of_lt_of_le hlb HBQ.out.size)).trans kk; have HN7 := Lib.hid hn7; have HB7 := Lib.hid (HBQ.out.trans (hb7.mono HBQ.out.size)); clear hn7 hb7)
                  go_roundw
                  case rel => exact ⟨k + 1, by omega, by go_num, fun i hi => (if e : i = k then e ▸ HGA.out else HG.out i (by omega)), by rw [HLS.out]; exact HN7.out, HB7.out⟩
                  case measure => simp [intOf]; omega
                · have d : (G != (lat h r).gt) = true := by simp [e]
                  have HNG := Lib.hid (show ¬ goodI ob h R from fun c => e (by have h9 := (c.2 k hlt).go; rw [← HRK.out, show ((r : Int)).toNat = r from rfl, ← HGG.out] at h9; exact h9))
                  clear e
                  go_wp2_with (go_at_call 30; (with_reducible refine HK.out.mono ?_); rintro e w7 ⟨⟨u, rfl, hn7⟩, hb7⟩; have h73 := (hb7.cell (p := ⟨b, off + r * 6 + 3, none⟩) (Nat.lt_of_lt_of_le hb HBQ.out.size)).trans k3; have h7k := (hb7.cell (p := ⟨lb, lo + k, none⟩) (Nat.lt_of_lt_of_le hlb HBQ.out.size)).trans kk; have HB7 := Lib.hid (HBQ.out.trans (hb7.mono HBQ.out.size)); clear hn7 hb7)
                  go_ret
                  exact ⟨⟨false, rfl, ⟨(fun c => by cases c), fun c => absurd c HNG.out⟩⟩, HB7.out⟩
          · have hinB : inR rk 0 ((h.length : Int) - 1) = false := inR_false.2 hin
            have HNG := Lib.hid (show ¬ goodI ob h R from fun c => hin (by rw [HRK.out]; exact ⟨(c.2 k hlt).lo, (c.2 k hlt).hi⟩))
            clear hin
            go_wp2_with (go_at_call 29; (with_reducible refine (HI1.out _).mono ?_); rintro e w1 ⟨rfl, rfl⟩)
            go_ret
            exact ⟨⟨false, rfl, ⟨(fun c => by cases c), fun c => absurd c HNG.out⟩⟩, HBR.out⟩
        · have HGD := Lib.hid (show goodI ob h R from ⟨HLE.out, fun i hi => HG.out i (by omega)⟩)
          go_wp2
          go_ret
          exact ⟨⟨true, rfl, ⟨fun _ => HGD.out, fun _ => rfl⟩⟩, HBR.out⟩
  · have dle : ((R.length : Int) != (h.length : Int)) = true := by simp; omega
    have HN := Lib.hid (show ¬ goodI ob h R from fun c => hle c.1)
    clear hle hrf
    go_enter Try.func28, Try.ntmps28
    go_wp2
    go_ret
    exact ⟨⟨false, rfl, ⟨(fun c => by cases c), fun c => absurd c HN.out⟩⟩, Below.refl _ _⟩
end Go.Proofs.Ytimdhnjkjflbdaa.Lin
