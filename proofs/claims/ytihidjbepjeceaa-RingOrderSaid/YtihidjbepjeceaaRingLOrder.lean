/-
  The walk of latchgarthlaw3.RingOrder: it answers true, whatever the size and the steps.
-/
import Derived.Test.YtihidjbepjeceaaRingFact
import Derived.Test.YtihidjbepjeceaaRws
import Derived.Deep.DeepCutAuto
import Derived.Deep.CutBlock
import Derived.Deep.RegionLaw
namespace Go.Proofs.Ytihidjbepjeceaa.Ring
open Go.RowKit

/-- What was put, one by one. -/
def lkRow (s : RGS) : List Int := rowOf s.tl fun i => ((s.puts i : Nat) : Int)
theorem lkRow_len (s : RGS) : (lkRow s).length = s.tl := rowOf_len _ _
/-- The ring, and the row that the law writes down, in blocks from base on. -/
structure OG (w W : World) (g n : Nat) (s : RGS) (a base : Nat) (v0 : Value) (x0 : List Int) : Prop where
  lk : LkAt w W g n s a
  rg : RG W base (at4 v0 (.slice none 0 0) (.slice none 0 0) (.slice none 0 0)) (at4 x0 [] [] [])
  gb : g < base
  bs : base ≤ W.heap.size
section
variable {w W W' : World} {g n base a a' : Nat} {s s' : RGS} {v0 : Value} {x0 : List Int}
theorem OG.turn (k : OG w W g n s a base v0 x0) (hl : LkAt w W' g n s' a') (ht : Touch (fun k => k = g) W W') : OG w W' g n s' a' base v0 x0 :=
  ⟨hl, k.rg.touch ht fun i hi => by have := k.gb; omega, k.gb, Nat.le_trans k.bs ht.size⟩
theorem OG.older (k : OG w W g n s a base v0 x0) (h : a ≤ a') : OG w W g n s a' base v0 x0 := ⟨k.lk.older h, k.rg, k.gb, k.bs⟩
theorem OG.app0 (k : OG w W g n s a base v0 x0) {o : Obj} {q m cap : Nat} {z : Int} {ys : List Value} (hown : W'.ownsRow base 3 1 (.slice (some ⟨q, 0, none⟩) m cap) m ys) (hn : m = x0.length + 1) (hy : ys = x0.map (Value.int .i64) ++ [.int .i64 z])
    (hg : (W.alloc o).grownBy W' v0.ownBlock) (hat : v0.ownBlock = some q ∨ q = W.heap.size + 1) : OG w W' g n s a base (.slice (some ⟨q, 0, none⟩) m cap) (x0 ++ [z]) := by
  obtain ⟨h1, h2⟩ := k.rg.app0 hown hn hy hg hat
  have hO : ∀ b, v0.ownBlock = some b → base ≤ b := fun b hb => (k.rg.lt (i := 0) (by omega) hb).1
  exact ⟨k.lk.touch h2 fun b hb => by have := hO b hb; have := k.lk.new; have := k.gb; omega, h1, k.gb, Nat.le_trans k.bs h2.size⟩
theorem OG.own0 (k : OG w W g n s a base v0 x0) (o : Obj) {K : Nat} (hK : x0.length = K) : (W.alloc o).ownsRow base 3 1 v0 K (x0.map (Value.int .i64)) := by
  have := (k.rg.alloc o).own 0 (by omega)
  rw [← hK]; exact this
theorem OG.form0 (k : OG w W g n s a base v0 x0) {K : Nat} (hK : x0.length = K) : ∃ A c, v0 = .slice A K c ∧ (0 < K → ∃ b, A = some ⟨b, 0, none⟩) := by
  subst hK
  obtain ⟨A, c, e, h⟩ := k.rg.form (i := 0) (by omega)
  exact ⟨A, c, e, fun h0 => (h h0).imp fun _ h => h.1⟩
theorem OG.cell {b m c : Nat} (k : OG w W g n s a base (.slice (some ⟨b, 0, none⟩) m c) x0) {j : Nat} {z : Int} (hj : x0[j]? = some z) : W.cell? ⟨b, j, none⟩ = some (.int .i64 z) := k.rg.cell (i := 0) (by omega) rfl hj
end
theorem row_more {s : RGS} {n : Nat} (h : s.pa = 3) : lkRow (rgsp n s) = lkRow s ++ [(s.pv : Int)] := by
  have e : rgsp n s = ⟨0, s.pv, s.ga, s.gv, s.hd, s.tl + 1, s.pl, gup s.puts s.tl s.pv, s.out, s.have'⟩ := by unfold rgsp; rw [if_neg (by omega), if_neg (by omega)]
  rw [e]
  exact rowOf_more (f := fun i => ((s.puts i : Nat) : Int)) (fun i hi => by show ((gup s.puts s.tl s.pv i : Nat) : Int) = _; rw [gup_other (by omega)]) (by show ((gup s.puts s.tl s.pv s.tl : Nat) : Int) = _; rw [gup_same])
theorem row_at {s : RGS} {j : Nat} (h : j < s.tl) : (lkRow s)[j]? = some ((s.puts j : Nat) : Int) := rowOf_get h

set_option maxHeartbeats 8000000 in
set_option maxRecDepth 100000 in
theorem order_law (z : Int) (sv : Value) (steps : List Int) (w : World) (hn : Nums w w.heap.size sv steps) :
    Calls Try.prog 3 #[.int .i64 z, sv] w fun e w' => e = .returned (.bool true) ∧ Below w.heap.size w w' := by
  obtain ⟨A, c, rfl, hlen, -⟩ := id hn
  have HN := Lib.hid hn
  clear hn
  obtain ⟨i0, hi0, hz0, hz1, hz2⟩ := info_parts TintI.info
  by_cases hz : 1 ≤ z ∧ z ≤ 8
  · obtain ⟨n, rfl⟩ := Int.eq_ofNat_of_zero_le (show 0 ≤ z by omega)
    have h1 : 1 ≤ n := by omega
    have h8 : n ≤ 8 := by omega
    clear hz
    go_enter Try.func3, Try.ntmps3
    go_upto_region 7 with (first | (go_at_call 5; refine (fact_any _).mono ?_; rintro e w1 ⟨rfl, hb⟩; have HB := Lib.hid hb; clear hb) | (go_at_call 6; refine (newL HB.out h1 h8).mono ?_; rintro e w2 ⟨g, rfl, hl, -⟩; have HL := Lib.hid hl; clear hl))
    obtain ⟨base, hbase⟩ : ∃ base, base = w2.heap.size := ⟨_, rfl⟩
    have HO0 := Lib.hid (show OG w w2 g n rgnew 0 base (.slice none 0 0) (lkRow rgnew) from ⟨HL.out, RG.nil _ _, by rw [hbase]; exact HL.out.lt, by omega⟩)
    clear HL HB hbase
    go_wp2_with fail
    go_loopw [8, 9, 10, 11, 12, 13] (fun u0 u1 u2 u3 u4 i wr => ∃ (k : Nat) (s : RGS), k ≤ steps.length ∧ i = .int .i64 k ∧ k ≤ 300 ∧ OG w wr g n s k base u0 (lkRow s) ∧ u1 = .int .i64 (s.hd : Nat) ∧ u2 = .int .i64 (s.pv : Nat) ∧ u3 = .int .i64 (s.out : Nat) ∧ u4 = .int .i64 (s.have' : Nat)) (fun _ _ _ _ _ i _ => steps.length - (intOf i).toNat)
    case atStart => exact ⟨0, rgnew, by omega, rfl, by omega, HO0.out, rfl, rfl, rfl, rfl⟩
    case round =>
      clear HO0
      obtain ⟨k, s, hk, rfl, hk2, hog, rfl, rfl, rfl, rfl⟩ := hrel
      have HO := Lib.hid hog
      have ok := hog.lk.ok
      obtain ⟨K, hK⟩ : ∃ K, s.tl = K := ⟨_, rfl⟩
      obtain ⟨hd, hhd⟩ : ∃ h, s.hd = h := ⟨_, rfl⟩
      obtain ⟨ot, hot⟩ : ∃ h, s.out = h := ⟨_, rfl⟩
      obtain ⟨hv, hhv⟩ : ∃ h, s.have' = h := ⟨_, rfl⟩
      have hlenK : (lkRow s).length = K := (lkRow_len s).trans hK
      have HK := Lib.hid hlenK
      obtain ⟨A0, c0, rfl, hA0⟩ := hog.form0 hlenK
      have hKk : K ≤ k := hK ▸ hog.lk.age
      have hlo : hd ≤ K := by have := ok.lo; omega
      have hhi : K ≤ hd + n := by have := ok.hi; omega
      have hout : ot ≤ hd := by have := ok.out; omega
      have hhave : hv ≤ K := by have := ok.have'; omega
      rw [hhd, hot, hhv]
      have HE := Lib.hid (show s.tl = K ∧ s.hd = hd ∧ s.out = ot ∧ s.have' = hv from ⟨hK, hhd, hot, hhv⟩)
      obtain ⟨X, hX⟩ : ∃ X, X = lkRow s := ⟨_, rfl⟩
      rw [← hX] at HO HK
      have HX := Lib.hid hX
      by_cases hgo : k < steps.length ∧ k < 300
      · have hI : (k : Int) < steps.length := by omega
        have h2I : (k : Int) < 300 := by omega
        obtain ⟨hlt, hk300⟩ := hgo
        obtain ⟨x, hx⟩ : ∃ l, steps[k]? = some l := ⟨steps[k], List.getElem?_eq_getElem hlt⟩
        obtain ⟨b, o, rfl, hbw, hxc⟩ := (HN.out.below HO.out.lk.below (Nat.le_refl _)).at_ hx
        clear hx hog
        have hF2 : ¬ (K : Int) < (hd : Int) := by omega
        obtain ⟨D, hD⟩ : ∃ D, D = (K : Int) - (hd : Int) := ⟨_, rfl⟩
        have hwD : IntKind.i64.wrap ((K : Int) - (hd : Int)) = D := (IntWalk.i64_in _ (by omega)).trans hD.symm
        have hF1 : ¬ (n : Int) < D := by omega
        have HR := Lib.hid (show D = (K : Int) - (hd : Int) ∧ K ≤ hd + n ∧ hd ≤ K ∧ ot ≤ hd ∧ hv ≤ K ∧ K ≤ k from ⟨hD, hhi, hlo, hout, hhave, hKk⟩)
        clear hK hhd hot hhv hlenK hX hD hhi hlo hout hhave
        by_cases h1x : x = -1
        · subst h1x
          have HG := Lib.hid (getL HO.out.lk)
          by_cases ha : s.ga = 0
          · have hs : sGet s = rgget s := by unfold sGet; rw [if_pos ha]
            rw [hs, ha, show errV 44 (sE 0) = .nilIface from rfl] at HG
            clear ok ha hs
            go_wp2_with (go_at_call 7; (with_reducible refine HG.out.mono ?_); rintro e w4 ⟨rfl, hl4, ht4⟩; have HO4 := Lib.hid (HO.out.turn hl4 ht4); clear hl4 ht4)
            go_roundw
            case rel => exact ⟨k + 1, rgget s, by omega, by go_num, by omega, HX.out ▸ HO4.out.older (by omega), by rw [← HE.out.2.1]; rfl, rfl, by rw [← HE.out.2.2.1]; rfl, by rw [← HE.out.1]; rfl⟩
            case measure => simp [intOf]; omega
          · have hs : sGet s = s := by unfold sGet; rw [if_neg ha]
            rw [hs, show errV 44 (sE s.ga) = .iface 44 (.int .i64 7) by unfold sE; rw [if_neg ha]; rfl] at HG
            clear ok ha hs
            go_wp2_with (go_at_call 7; (with_reducible refine HG.out.mono ?_); rintro e w4 ⟨rfl, hl4, ht4⟩; have HO4 := Lib.hid (HO.out.turn hl4 ht4); clear hl4 ht4)
            go_roundw
            case rel => exact ⟨k + 1, s, by omega, by go_num, by omega, HX.out ▸ HO4.out.older (by omega), by rw [← HE.out.2.1], rfl, by rw [← HE.out.2.2.1], by rw [← HE.out.2.2.2]⟩
            case measure => simp [intOf]; omega
        by_cases h0x : 0 ≤ x
        · obtain ⟨y, rfl⟩ := Int.eq_ofNat_of_zero_le h0x
          have e1 : ((y : Int) == -1) = false := by simp
          have e2 : ((y : Int) == -2) = false := by simp
          have e3 : ((y : Int) == -3) = false := by simp
          clear h1x
          by_cases hy : y ≤ 1000
          · have HP := Lib.hid (putL HO.out.lk y hy)
            clear hy
            by_cases ha : s.pa = 0
            · have hs : sPut s y = rgput s y := by unfold sPut; rw [if_pos ha]
              rw [hs, ha, show errV 44 (sE 0) = .nilIface from rfl] at HP
              clear ok ha hs
              go_wp2_with (go_at_call 8; (with_reducible refine HP.out.mono ?_); rintro e w4 ⟨rfl, hl4, ht4⟩; have HO4 := Lib.hid (HO.out.turn hl4 ht4); clear hl4 ht4)
              go_roundw
              case rel => exact ⟨k + 1, rgput s y, by omega, by go_num, by omega, HX.out ▸ HO4.out.older (by omega), by rw [← HE.out.2.1]; rfl, rfl, by rw [← HE.out.2.1]; rfl, by rw [← HE.out.2.2.2]; rfl⟩
              case measure => simp [intOf]; omega
            · have hs : sPut s y = s := by unfold sPut; rw [if_neg ha]
              rw [hs, show errV 44 (sE s.pa) = .iface 44 (.int .i64 7) by unfold sE; rw [if_neg ha]; rfl] at HP
              clear ok ha hs
              go_wp2_with (go_at_call 8; (with_reducible refine HP.out.mono ?_); rintro e w4 ⟨rfl, hl4, ht4⟩; have HO4 := Lib.hid (HO.out.turn hl4 ht4); clear hl4 ht4)
              go_roundw
              case rel => exact ⟨k + 1, s, by omega, by go_num, by omega, HX.out ▸ HO4.out.older (by omega), by rw [← HE.out.2.1], rfl, by rw [← HE.out.2.2.1], by rw [← HE.out.2.2.2]⟩
              case measure => simp [intOf]; omega
          · have HP := Lib.hid (putFar HO.out.lk (y : Int) (by omega))
            rw [err1] at HP
            clear ok hy
            go_wp2_with (go_at_call 8; (with_reducible refine HP.out.mono ?_); rintro e w4 ⟨rfl, hl4, ht4⟩; have HO4 := Lib.hid (HO.out.turn hl4 ht4); clear hl4 ht4)
            go_roundw
            case rel => exact ⟨k + 1, s, by omega, by go_num, by omega, HX.out ▸ HO4.out.older (by omega), by rw [← HE.out.2.1], rfl, by rw [← HE.out.2.2.1], by rw [← HE.out.2.2.2]⟩
            case measure => simp [intOf]; omega
        by_cases h2x : x = -2
        · subst h2x
          clear h1x h0x
          have HS := Lib.hid (spL HO.out.lk (by omega))
          obtain ha | ha | ha | ha : s.pa = 0 ∨ s.pa = 1 ∨ s.pa = 2 ∨ s.pa = 3 := by have := ok.pa; omega
          · have q1 : pD n s = false := by unfold pD; rw [if_neg (by omega), if_neg (by omega)]
            have q2 : pP s = false := decide_eq_false (by omega)
            have q3 : pE s = 7 := by unfold pE; rw [if_pos ha]
            have q4 : sSp n s = s := by unfold sSp; rw [if_pos ha]
            rw [q1, q2, q3, q4, err7] at HS
            clear ok ha q1 q2 q3 q4
            go_wp2_with (go_at_call 9; (with_reducible refine HS.out.mono ?_); rintro e w4 ⟨rfl, hl4, ht4⟩; have HO4 := Lib.hid (HO.out.turn hl4 ht4); clear hl4 ht4)
            go_roundw
            case rel => exact ⟨k + 1, s, by omega, by go_num, by omega, HX.out ▸ HO4.out.older (by omega), by rw [← HE.out.2.1], rfl, by rw [← HE.out.2.2.1], by rw [← HE.out.2.2.2]⟩
            case measure => simp [intOf]; omega
          · have q2 : pP s = false := decide_eq_false (by omega)
            have q3 : pE s = 0 := by unfold pE; rw [if_neg (by omega)]
            by_cases hf : s.tl = s.hd + n
            · have q1 : pD n s = true := by unfold pD; rw [if_pos ha]; exact decide_eq_true hf
              have q4 : sSp n s = ⟨0, s.pv, s.ga, s.gv, s.hd, s.tl, s.pl, s.puts, s.out, s.have'⟩ := by unfold sSp rgsp; rw [if_neg (by omega), if_pos ha, if_pos hf]
              have HQ := Lib.hid (show lkRow (sSp n s) = X ∧ (sSp n s).hd = hd ∧ (sSp n s).pv = s.pv ∧ (sSp n s).out = ot ∧ (sSp n s).have' = hv from by rw [q4, HX.out]; exact ⟨rfl, HE.out.2.1, rfl, HE.out.2.2.1, HE.out.2.2.2⟩)
              rw [q1, q2, q3, err0] at HS
              obtain ⟨E, hE⟩ : ∃ E, E = (K : Int) - (ot : Int) := ⟨_, rfl⟩
              have hwE : IntKind.i64.wrap ((K : Int) - (ot : Int)) = E := (IntWalk.i64_in _ (by have := HR.out; omega)).trans hE.symm
              have hE2 : ¬ E < (n : Int) := by have := HR.out; have := HE.out; omega
              clear ok ha q1 q2 q3 q4 hf hE
              go_wp2_with (go_at_call 9; (with_reducible refine HS.out.mono ?_); rintro e w4 ⟨rfl, hl4, ht4⟩; have HO4 := Lib.hid (HO.out.turn hl4 ht4); clear hl4 ht4)
              go_roundw
              case rel => exact ⟨k + 1, sSp n s, by omega, by go_num, by omega, by rw [HQ.out.1]; exact HO4.out.older (by omega), by rw [HQ.out.2.1], by rw [HQ.out.2.2.1], by rw [HQ.out.2.2.2.1], by rw [HQ.out.2.2.2.2]⟩
              case measure => simp [intOf]; omega
            · have q1 : pD n s = false := by unfold pD; rw [if_pos ha]; exact decide_eq_false hf
              have q4 : sSp n s = ⟨2, s.pv, s.ga, s.gv, s.hd, s.tl, s.pl, s.puts, s.out, s.have'⟩ := by unfold sSp rgsp; rw [if_neg (by omega), if_pos ha, if_neg hf]
              have HQ := Lib.hid (show lkRow (sSp n s) = X ∧ (sSp n s).hd = hd ∧ (sSp n s).pv = s.pv ∧ (sSp n s).out = ot ∧ (sSp n s).have' = hv from by rw [q4, HX.out]; exact ⟨rfl, HE.out.2.1, rfl, HE.out.2.2.1, HE.out.2.2.2⟩)
              rw [q1, q2, q3, err0] at HS
              clear ok ha q1 q2 q3 q4 hf
              go_wp2_with (go_at_call 9; (with_reducible refine HS.out.mono ?_); rintro e w4 ⟨rfl, hl4, ht4⟩; have HO4 := Lib.hid (HO.out.turn hl4 ht4); clear hl4 ht4)
              go_roundw
              case rel => exact ⟨k + 1, sSp n s, by omega, by go_num, by omega, by rw [HQ.out.1]; exact HO4.out.older (by omega), by rw [HQ.out.2.1], by rw [HQ.out.2.2.1], by rw [HQ.out.2.2.2.1], by rw [HQ.out.2.2.2.2]⟩
              case measure => simp [intOf]; omega
          · have q1 : pD n s = false := by unfold pD; rw [if_neg (by omega), if_neg (by omega)]
            have q2 : pP s = false := decide_eq_false (by omega)
            have q3 : pE s = 0 := by unfold pE; rw [if_neg (by omega)]
            have q4 : sSp n s = ⟨3, s.pv, s.ga, s.gv, s.hd, s.tl, gup s.pl (s.tl % n) s.pv, s.puts, s.out, s.have'⟩ := by unfold sSp rgsp; rw [if_neg (by omega), if_neg (by omega), if_pos ha]
            have HQ := Lib.hid (show lkRow (sSp n s) = X ∧ (sSp n s).hd = hd ∧ (sSp n s).pv = s.pv ∧ (sSp n s).out = ot ∧ (sSp n s).have' = hv from by rw [q4, HX.out]; exact ⟨rfl, HE.out.2.1, rfl, HE.out.2.2.1, HE.out.2.2.2⟩)
            rw [q1, q2, q3, err0] at HS
            clear ok ha q1 q2 q3 q4
            go_wp2_with (go_at_call 9; (with_reducible refine HS.out.mono ?_); rintro e w4 ⟨rfl, hl4, ht4⟩; have HO4 := Lib.hid (HO.out.turn hl4 ht4); clear hl4 ht4)
            go_roundw
            case rel => exact ⟨k + 1, sSp n s, by omega, by go_num, by omega, by rw [HQ.out.1]; exact HO4.out.older (by omega), by rw [HQ.out.2.1], by rw [HQ.out.2.2.1], by rw [HQ.out.2.2.2.1], by rw [HQ.out.2.2.2.2]⟩
            case measure => simp [intOf]; omega
          · have q1 : pD n s = true := by unfold pD; rw [if_neg (by omega), if_pos (by omega)]
            have q2 : pP s = true := decide_eq_true ha
            have q3 : pE s = 0 := by unfold pE; rw [if_neg (by omega)]
            have q4 : sSp n s = rgsp n s := by unfold sSp; rw [if_neg (by omega)]
            have q5 : lkRow (rgsp n s) = X ++ [(s.pv : Int)] := by rw [HX.out]; exact row_more ha
            have q6 : rgsp n s = ⟨0, s.pv, s.ga, s.gv, s.hd, s.tl + 1, s.pl, gup s.puts s.tl s.pv, s.out, s.have'⟩ := by unfold rgsp; rw [if_neg (by omega), if_neg (by omega)]
            rw [q1, q2, q3, q4, err0] at HS
            have hr := ok.room (.inr ha)
            obtain ⟨K1, hK1⟩ : ∃ K1, K1 = K + 1 := ⟨_, rfl⟩
            have hF2 : ¬ (K1 : Int) < (hd : Int) := by omega
            obtain ⟨D1, hD1⟩ : ∃ D, D = (K1 : Int) - (hd : Int) := ⟨_, rfl⟩
            have hwD1 : IntKind.i64.wrap ((K1 : Int) - (hd : Int)) = D1 := (IntWalk.i64_in _ (by omega)).trans hD1.symm
            have hF1 : ¬ (n : Int) < D1 := by have := HR.out; have := HE.out; omega
            have HQ := Lib.hid (show lkRow (rgsp n s) = X ++ [(s.pv : Int)] ∧ rgsp n s = ⟨0, s.pv, s.ga, s.gv, s.hd, s.tl + 1, s.pl, gup s.puts s.tl s.pv, s.out, s.have'⟩ ∧ K1 = K + 1 from ⟨q5, q6, hK1⟩)
            have hK300 : K < 300 := by have := HR.out; omega
            clear ok ha q1 q2 q3 q4 q5 q6 hr hD1 hK1
            obtain ⟨PV, hPV⟩ : ∃ P, P = (s.pv : Int) := ⟨_, rfl⟩
            rw [← hPV]
            have HPV := Lib.hid hPV
            clear hPV
            go_wp2_with (first | (go_at_call 9; (with_reducible refine HS.out.mono ?_); rintro e w4 ⟨rfl, hl4, ht4⟩; have HO4 := Lib.hid (HO.out.turn hl4 ht4); clear hl4 ht4) | (at_builtin; refine wpList_append_lies _ rfl (.tmp 84) (.tmp 86) 22 rfl base 3 i0 (.int .i64 0) 1 8 Try.underlying22 hi0 hz0 hz1 hz2 rfl (by omega) (.slice A0 K c0) K (X.map (Value.int .i64)) rfl (HO4.out.own0 _ HK.out) ⟨w4.heap.size, 0, none⟩ 1 1 [.int .i64 PV] rfl (by rfl) (one_cell (by simp)) (by intro u hu; simp at hu; subst hu; rfl) (by omega) (by unfold maxLen; omega) (by omega) (by have := HO4.out.bs; simp; omega) (w4.heap.size + 1) (by simp) ?_; intro q0 d0 w5 hown hgrow hat hlt; have HO5 := Lib.hid (HO4.out.app0 hown (congrArg (· + 1) HK.out.symm) rfl hgrow hat); rw [show K + 1 = K1 from HQ.out.2.2.symm]; clear hown hgrow hat hlt))
            go_roundw
            case rel => exact ⟨k + 1, rgsp n s, by omega, by go_num, by omega, by rw [HQ.out.1, ← HPV.out]; have h := HO5.out; rw [show K + 1 = K1 from HQ.out.2.2.symm] at h; exact h, by rw [HQ.out.2.1, ← HE.out.2.1], by rw [HQ.out.2.1, HPV.out], by rw [HQ.out.2.1, ← HE.out.2.2.1], by rw [HQ.out.2.1, ← HE.out.2.2.2]⟩
            case measure => simp [intOf]; omega
        by_cases h3x : x = -3
        · subst h3x
          clear h1x h0x h2x
          have HS := Lib.hid (sgL HO.out.lk (by omega))
          rcases ok.ga with ha | ha | ha | ha
          · have q1 : gD s = false := by unfold gD; rw [if_neg (by omega), if_neg (by omega)]
            have q2 : gG s = 0 := by unfold gG; rw [if_neg (by omega), if_neg (by omega)]
            have q3 : gE s = 7 := by unfold gE; rw [if_pos ha]
            have q4 : sSg n s = s := by unfold sSg; rw [if_pos ha]
            rw [q1, q2, q3, q4, err7] at HS
            clear ok ha q1 q2 q3 q4
            go_wp2_with (go_at_call 10; (with_reducible refine HS.out.mono ?_); rintro e w4 ⟨rfl, hl4, ht4⟩; have HO4 := Lib.hid (HO.out.turn hl4 ht4); clear hl4 ht4)
            go_roundw
            case rel => exact ⟨k + 1, s, by omega, by go_num, by omega, HX.out ▸ HO4.out.older (by omega), by rw [← HE.out.2.1], rfl, by rw [← HE.out.2.2.1], by rw [← HE.out.2.2.2]⟩
            case measure => simp [intOf]; omega
          · have q3 : gE s = 0 := by unfold gE; rw [if_neg (by omega)]
            by_cases hf : s.tl = s.hd
            · have q1 : gD s = true := by unfold gD; rw [if_pos ha]; exact decide_eq_true hf
              have q2 : gG s = -1 := by unfold gG; rw [if_pos ha, if_pos hf]
              have q4 : sSg n s = ⟨s.pa, s.pv, 0, s.gv, s.hd, s.tl, s.pl, s.puts, s.out, s.have'⟩ := by unfold sSg rgsg; rw [if_neg (by omega), if_pos ha, if_pos hf]
              have HQ := Lib.hid (show lkRow (sSg n s) = X ∧ (sSg n s).hd = hd ∧ (sSg n s).pv = s.pv ∧ (sSg n s).out = ot ∧ (sSg n s).have' = hv from by rw [q4, HX.out]; exact ⟨rfl, HE.out.2.1, rfl, HE.out.2.2.1, HE.out.2.2.2⟩)
              rw [q1, q2, q3, err0] at HS
              have hH2 : ¬ (hd : Int) < (hv : Int) := by have := HR.out; have := HE.out; omega
              clear ok ha q1 q2 q3 q4 hf
              go_wp2_with (go_at_call 10; (with_reducible refine HS.out.mono ?_); rintro e w4 ⟨rfl, hl4, ht4⟩; have HO4 := Lib.hid (HO.out.turn hl4 ht4); clear hl4 ht4)
              go_roundw
              case rel => exact ⟨k + 1, sSg n s, by omega, by go_num, by omega, by rw [HQ.out.1]; exact HO4.out.older (by omega), by rw [HQ.out.2.1], by rw [HQ.out.2.2.1], by rw [HQ.out.2.2.2.1], by rw [HQ.out.2.2.2.2]⟩
              case measure => simp [intOf]; omega
            · have q1 : gD s = false := by unfold gD; rw [if_pos ha]; exact decide_eq_false hf
              have q2 : gG s = 0 := by unfold gG; rw [if_pos ha, if_neg hf]
              have q4 : sSg n s = ⟨s.pa, s.pv, 5, s.gv, s.hd, s.tl, s.pl, s.puts, s.out, s.have'⟩ := by unfold sSg rgsg; rw [if_neg (by omega), if_pos ha, if_neg hf]
              have HQ := Lib.hid (show lkRow (sSg n s) = X ∧ (sSg n s).hd = hd ∧ (sSg n s).pv = s.pv ∧ (sSg n s).out = ot ∧ (sSg n s).have' = hv from by rw [q4, HX.out]; exact ⟨rfl, HE.out.2.1, rfl, HE.out.2.2.1, HE.out.2.2.2⟩)
              rw [q1, q2, q3, err0] at HS
              clear ok ha q1 q2 q3 q4 hf
              go_wp2_with (go_at_call 10; (with_reducible refine HS.out.mono ?_); rintro e w4 ⟨rfl, hl4, ht4⟩; have HO4 := Lib.hid (HO.out.turn hl4 ht4); clear hl4 ht4)
              go_roundw
              case rel => exact ⟨k + 1, sSg n s, by omega, by go_num, by omega, by rw [HQ.out.1]; exact HO4.out.older (by omega), by rw [HQ.out.2.1], by rw [HQ.out.2.2.1], by rw [HQ.out.2.2.2.1], by rw [HQ.out.2.2.2.2]⟩
              case measure => simp [intOf]; omega
          · have q1 : gD s = false := by unfold gD; rw [if_neg (by omega), if_neg (by omega)]
            have q2 : gG s = 0 := by unfold gG; rw [if_neg (by omega), if_neg (by omega)]
            have q3 : gE s = 0 := by unfold gE; rw [if_neg (by omega)]
            have q4 : sSg n s = ⟨s.pa, s.pv, 6, s.pl (s.hd % n), s.hd, s.tl, s.pl, s.puts, s.out, s.have'⟩ := by unfold sSg rgsg; rw [if_neg (by omega), if_neg (by omega), if_pos ha]
            have HQ := Lib.hid (show lkRow (sSg n s) = X ∧ (sSg n s).hd = hd ∧ (sSg n s).pv = s.pv ∧ (sSg n s).out = ot ∧ (sSg n s).have' = hv from by rw [q4, HX.out]; exact ⟨rfl, HE.out.2.1, rfl, HE.out.2.2.1, HE.out.2.2.2⟩)
            rw [q1, q2, q3, err0] at HS
            clear ok ha q1 q2 q3 q4
            go_wp2_with (go_at_call 10; (with_reducible refine HS.out.mono ?_); rintro e w4 ⟨rfl, hl4, ht4⟩; have HO4 := Lib.hid (HO.out.turn hl4 ht4); clear hl4 ht4)
            go_roundw
            case rel => exact ⟨k + 1, sSg n s, by omega, by go_num, by omega, by rw [HQ.out.1]; exact HO4.out.older (by omega), by rw [HQ.out.2.1], by rw [HQ.out.2.2.1], by rw [HQ.out.2.2.2.1], by rw [HQ.out.2.2.2.2]⟩
            case measure => simp [intOf]; omega
          · have q1 : gD s = true := by unfold gD; rw [if_neg (by omega), if_pos (by omega)]
            have q2 : gG s = (s.gv : Int) := by unfold gG; rw [if_neg (by omega), if_pos ha]
            have q3 : gE s = 0 := by unfold gE; rw [if_neg (by omega)]
            have q4 : sSg n s = ⟨s.pa, s.pv, 0, s.gv, s.hd + 1, s.tl, s.pl, s.puts, s.out, s.have'⟩ := by unfold sSg rgsg; rw [if_neg (by omega), if_neg (by omega), if_neg (by omega)]
            rw [q1, q2, q3, err0] at HS
            obtain ⟨hone, hgv⟩ := ok.gets ha
            have hat : X[hd]? = some ((s.gv : Nat) : Int) := by rw [HX.out, hgv, ← HE.out.2.1]; exact row_at hone
            have hdK : hd < K := by have := HE.out; omega
            obtain ⟨bA, rfl⟩ := hA0 (by omega)
            obtain ⟨GV, hGV⟩ : ∃ G, G = s.gv := ⟨_, rfl⟩
            rw [← hGV] at HS hat
            have HAT := Lib.hid hat
            have hdKI : (hd : Int) < (K : Int) := by omega
            have hdK2 : ¬ (K : Int) ≤ (hd : Int) := by omega
            have hgv0 : (0 : Int) ≤ (GV : Int) := by omega
            have hgv1 : ¬ (GV : Int) < 0 := by omega
            have hne : ((GV : Int) != (GV : Int)) = false := by simp
            obtain ⟨H1, hH1⟩ : ∃ H1, H1 = hd + 1 := ⟨_, rfl⟩
            have hwH : IntKind.i64.wrap ((hd : Int) + 1) = (H1 : Int) := (IntWalk.i64_in _ (by omega)).trans (by omega)
            have hF2 : ¬ (K : Int) < (H1 : Int) := by omega
            obtain ⟨D1, hD1⟩ : ∃ D, D = (K : Int) - (H1 : Int) := ⟨_, rfl⟩
            have hwD1 : IntKind.i64.wrap ((K : Int) - (H1 : Int)) = D1 := (IntWalk.i64_in _ (by omega)).trans hD1.symm
            have hF1 : ¬ (n : Int) < D1 := by have := HR.out; have := HE.out; omega
            have HQ := Lib.hid (show lkRow (sSg n s) = X ∧ (sSg n s).hd = H1 ∧ (sSg n s).pv = s.pv ∧ (sSg n s).out = ot ∧ (sSg n s).have' = hv from by rw [q4, HX.out]; exact ⟨rfl, by rw [HE.out.2.1]; exact hH1.symm, rfl, HE.out.2.2.1, HE.out.2.2.2⟩)
            clear ok ha q1 q2 q3 q4 hone hgv hat hdK hD1 hH1 hGV
            go_wp2_with (go_at_call 10; (with_reducible refine HS.out.mono ?_); rintro e w4 ⟨rfl, hl4, ht4⟩; have HO4 := Lib.hid (HO.out.turn hl4 ht4); have hd0 := HO4.out.cell HAT.out; clear hl4 ht4)
            go_roundw
            case rel => exact ⟨k + 1, sSg n s, by omega, by go_num, by omega, by rw [HQ.out.1]; exact HO4.out.older (by omega), by rw [HQ.out.2.1], by rw [HQ.out.2.2.1], by rw [HQ.out.2.2.2.1], by rw [HQ.out.2.2.2.2]⟩
            case measure => simp [intOf]; omega
        · have e1 : (x == -1) = false := by simp; omega
          have e2 : (x == -2) = false := by simp; omega
          have e3 : (x == -3) = false := by simp; omega
          clear ok h1x h2x h3x
          go_wp2
          go_roundw
          case rel => exact ⟨k + 1, s, by omega, by go_num, by omega, HX.out ▸ HO.out.older (by omega), by rw [← HE.out.2.1], rfl, by rw [← HE.out.2.2.1], by rw [← HE.out.2.2.2]⟩
          case measure => simp [intOf]; omega
      · have hh : (k : Int) < steps.length ∧ ¬ (k : Int) < 300 ∨ ¬ (k : Int) < steps.length := by omega
        clear hgo
        have HBE := Lib.hid hog.lk.below
        clear hog ok
        rcases hh with ⟨hI, hJ⟩ | hI
        all_goals
          go_wp2
          go_ret
          exact ⟨rfl, HBE.out⟩
  · have HZ := Lib.hid hz
    by_cases hz1 : z < 1
    all_goals
      clear hz
      go_enter Try.func3, Try.ntmps3
      go_wp2_with (first | (go_at_call 5; refine (fact_any _).mono ?_; rintro e w1 ⟨rfl, hb⟩; have HB := Lib.hid hb; clear hb) | (go_at_call 6; refine (newBad HB.out z HZ.out).mono ?_; rw [err1]; rintro e w2 ⟨rfl, hb⟩; have HB2 := Lib.hid hb; clear hb))
      go_ret
      first | exact ⟨rfl, HB2.out⟩ | exact ⟨congrArg (fun b => Ending.returned (.bool b)) (bad_true HZ.out), HB2.out⟩
end Go.Proofs.Ytihidjbepjeceaa.Ring
