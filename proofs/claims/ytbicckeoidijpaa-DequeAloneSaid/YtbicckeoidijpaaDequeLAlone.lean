/-
  The walk of latchgarthlaw4.DequeAlone: it answers true, whatever the kinds.
-/
import Derived.Test.YtbicckeoidijpaaDequeFact
import Derived.Test.YtbicckeoidijpaaRws
import Derived.Deep.CutBlock
import Derived.Deep.RegionLaw
namespace Go.Proofs.Ytbicckeoidijpaa.Dq
open Go.RowKit

theorem Tint.info : (Try.prog.info? 3).map (fun i => (i.zero, i.size, i.bytes)) = some (some (.int .i64 0), 1, 8) := by kernel_rfl
/-- A row without its last number, where it lies. -/
theorem RG_pop {W : World} {base b c m : Nat} {l : List Int} {z : Int} (h : RG W base (at4 (.slice (some ⟨b, 0, none⟩) m c) (.slice none 0 0) (.slice none 0 0) (.slice none 0 0)) (at4 (l ++ [z]) [] [] [])) :
    RG W base (at4 (.slice (some ⟨b, 0, none⟩) l.length c) (.slice none 0 0) (.slice none 0 0) (.slice none 0 0)) (at4 l [] [] []) ∧ l.length + 1 ≤ c := by
  obtain ⟨e0, h2⟩ := h.own 0 (by omega)
  have h2' := h2
  rcases h2 with ⟨h0, _⟩ | ⟨g', cap', cur, hv, hg, hh, hn, hcap, hsz, htake⟩
  · cases h0
  · have hv : Value.slice (some ⟨b, 0, none⟩) m c = .slice (some ⟨g', 0, none⟩) (l ++ [z]).length cap' := hv
    cases hv
    have hn : (l ++ [z]).length ≤ c := hn
    have hn2 : l.length + 1 ≤ c := by simpa using hn
    have htake : cur.toList.take ((l ++ [z]).length * 1) = (l ++ [z]).map (Value.int .i64) := htake
    have hown : W.ownsRow base 3 1 (.slice (some ⟨b, 0, none⟩) l.length c) l.length (l.map (Value.int .i64)) := by
      refine ⟨by simp, .inr ⟨b, c, cur, rfl, hg, hh, by omega, hcap, hsz, ?_⟩⟩
      have h3 : (cur.toList.take ((l ++ [z]).length * 1)).take (l.length * 1) = ((l ++ [z]).map (Value.int .i64)).take (l.length * 1) := by rw [htake]
      rw [List.take_take, Nat.min_eq_left (by simp)] at h3
      rw [h3]; simp
    refine ⟨⟨fun i hi => ?_, fun i j hi hj hne k hk => ?_⟩, hn2⟩
    · match i, hi with
      | 0, _ => exact hown
      | 1, hi => exact h.own 1 hi
      | 2, hi => exact h.own 2 hi
      | 3, hi => exact h.own 3 hi
    · match i, hi with
      | 0, _ =>
        match j, hj with
        | 0, _ => exact absurd rfl hne
        | 1, _ => intro e; cases e
        | 2, _ => intro e; cases e
        | 3, _ => intro e; cases e
      | 1, _ => cases hk
      | 2, _ => cases hk
      | 3, _ => cases hk
/-- The deque, and the row that the law writes down, in blocks from base on. -/
structure AG (w W : World) (g : Nat) (s : DV) (a base : Nat) (v0 : Value) (x0 : List Int) : Prop where
  lk : LkAt w W g 1 s a
  rg : RG W base (at4 v0 (.slice none 0 0) (.slice none 0 0) (.slice none 0 0)) (at4 x0 [] [] [])
  gb : g < base
  bs : base ≤ W.heap.size
section
variable {w W W' : World} {g base a a' : Nat} {s s' : DV} {v0 : Value} {x0 : List Int}
theorem AG.turn (k : AG w W g s a base v0 x0) (hl : LkAt w W' g 1 s' a') (ht : Touch (fun k => k = g) W W') : AG w W' g s' a' base v0 x0 :=
  ⟨hl, k.rg.touch ht fun i hi => by have := k.gb; omega, k.gb, Nat.le_trans k.bs ht.size⟩
theorem AG.older (k : AG w W g s a base v0 x0) (h : a ≤ a') : AG w W g s a' base v0 x0 := ⟨k.lk.older h, k.rg, k.gb, k.bs⟩
theorem AG.app0 (k : AG w W g s a base v0 x0) {o : Obj} {q m cap : Nat} {z : Int} {ys : List Value} (hown : W'.ownsRow base 3 1 (.slice (some ⟨q, 0, none⟩) m cap) m ys) (hn : m = x0.length + 1) (hy : ys = x0.map (Value.int .i64) ++ [.int .i64 z])
    (hg : (W.alloc o).grownBy W' v0.ownBlock) (hat : v0.ownBlock = some q ∨ q = W.heap.size + 1) : AG w W' g s a base (.slice (some ⟨q, 0, none⟩) m cap) (x0 ++ [z]) := by
  obtain ⟨h1, h2⟩ := k.rg.app0 hown hn hy hg hat
  have hO : ∀ b, v0.ownBlock = some b → base ≤ b := fun b hb => (k.rg.lt (i := 0) (by omega) hb).1
  exact ⟨k.lk.touch h2 fun b hb => by have := hO b hb; have := k.lk.new; have := k.gb; omega, h1, k.gb, Nat.le_trans k.bs h2.size⟩
theorem AG.own0 (k : AG w W g s a base v0 x0) (o : Obj) {K : Nat} (hK : x0.length = K) : (W.alloc o).ownsRow base 3 1 v0 K (x0.map (Value.int .i64)) := by
  have := (k.rg.alloc o).own 0 (by omega)
  rw [← hK]; exact this
theorem AG.form0 (k : AG w W g s a base v0 x0) {K : Nat} (hK : x0.length = K) : ∃ A c, v0 = .slice A K c ∧ (0 < K → ∃ b, A = some ⟨b, 0, none⟩) := by
  subst hK
  obtain ⟨A, c, e, h⟩ := k.rg.form (i := 0) (by omega)
  exact ⟨A, c, e, fun h0 => (h h0).imp fun _ h => h.1⟩
theorem AG.cell {b m c : Nat} (k : AG w W g s a base (.slice (some ⟨b, 0, none⟩) m c) x0) {j : Nat} {z : Int} (hj : x0[j]? = some z) : W.cell? ⟨b, j, none⟩ = some (.int .i64 z) := k.rg.cell (i := 0) (by omega) rfl hj
theorem AG.pop {b m c : Nat} {l : List Int} {z : Int} (k : AG w W g s a base (.slice (some ⟨b, 0, none⟩) m c) (l ++ [z])) : AG w W g s a base (.slice (some ⟨b, 0, none⟩) l.length c) l ∧ l.length + 1 ≤ c :=
  ⟨⟨k.lk, (RG_pop k.rg).1, k.gb, k.bs⟩, (RG_pop k.rg).2⟩
end
/-- What is in, and is no less than 0. -/
def AJ (s : DV) (l : List Int) : Prop := AI s l ∧ ∀ z, z ∈ l → 0 ≤ z
theorem AJ.push {s : DV} {l : List Int} (h : AJ s l) (x : Nat) : ∃ (S : Nat → DV) (N : Nat) (X : Int) (l' : List Int), S 0 = dvbeg s 0 1 (x : Int) ∧ VR S N X ∧ AJ (S N) l' ∧ 1 ≤ N ∧ N ≤ 4 ∧ -2 ≤ X ∧
    (l.length = 8 ∧ X = -2 ∧ l' = l ∨ l.length < 8 ∧ X = -1 ∧ l' = l ++ [(x : Int)]) := by
  have hle := h.1.le
  by_cases h8 : l.length = 8
  · obtain ⟨S, h0, hr, hi⟩ := alone_full h.1 h8 (x : Int)
    exact ⟨S, 1, -2, l, h0, hr, ⟨hi, h.2⟩, by omega, by omega, by omega, .inl ⟨h8, rfl, rfl⟩⟩
  · obtain ⟨S, h0, hr, hi⟩ := alone_push h.1 (by omega) (x : Int)
    refine ⟨S, 3, -1, _, h0, hr, ⟨hi, fun z hz => ?_⟩, by omega, by omega, by omega, .inr ⟨by omega, rfl, rfl⟩⟩
    rcases List.mem_append.1 hz with hz | hz
    · exact h.2 z hz
    · rw [List.mem_singleton.1 hz]; omega
theorem AJ.pop {s : DV} {l : List Int} (h : AJ s l) : ∃ (S : Nat → DV) (N : Nat) (X : Int) (l' : List Int), S 0 = dvbeg s 0 4 0 ∧ VR S N X ∧ AJ (S N) l' ∧ 1 ≤ N ∧ N ≤ 4 ∧ -2 ≤ X ∧
    (l = [] ∧ X = -1 ∧ l' = [] ∨ l = l' ++ [X]) := by
  rcases List.eq_nil_or_concat l with rfl | ⟨l', z, rfl⟩
  · obtain ⟨S, h0, hr, hi⟩ := alone_none h.1 0
    exact ⟨S, _, -1, [], h0, hr, ⟨hi, h.2⟩, by omega, by omega, by omega, .inl ⟨rfl, rfl, rfl⟩⟩
  · have hz : 0 ≤ z := h.2 z (by simp)
    have h' : ∀ y, y ∈ l' → 0 ≤ y := fun y hy => h.2 y (by simp [hy])
    have h1 : AI s (l' ++ [z]) := by simpa using h.1
    by_cases e : l' = []
    · subst e
      obtain ⟨S, h0, hr, hi⟩ := alone_last h1 0
      exact ⟨S, 4, z, [], h0, hr, ⟨hi, h'⟩, by omega, by omega, by omega, .inr (by simp)⟩
    · obtain ⟨S, h0, hr, hi⟩ := alone_pop h1 e 0
      exact ⟨S, 2, z, l', h0, hr, ⟨hi, h'⟩, by omega, by omega, by omega, .inr (by simp)⟩
theorem get_last {l : List Int} {z : Int} : (l ++ [z])[l.length]? = some z := by simp

set_option maxHeartbeats 8000000 in
set_option maxRecDepth 100000 in
theorem alone_law (sv : Value) (kinds : List Int) (w : World) (hn : Nums w w.heap.size sv kinds) :
    Calls Try.prog 4 #[sv] w fun e w' => e = .returned (.bool true) ∧ Below w.heap.size w w' := by
  obtain ⟨A, c, rfl, hlen, -⟩ := id hn
  have HN := Lib.hid hn
  clear hn
  obtain ⟨i0, hi0, hz0, hz1, hz2⟩ := info_parts Tint.info
  go_enter Try.func4, Try.ntmps4
  go_upto_region 7 with (first | (go_at_call 6; refine (fact_any _).mono ?_; rintro e w1 ⟨rfl, hb⟩; have HB := Lib.hid hb; clear hb) | (go_at_call 7; refine (newL (n := 1) HB.out (by omega) (by omega)).mono ?_; rintro e w2 ⟨g, rfl, hl⟩; have HL := Lib.hid hl; clear hl))
  obtain ⟨base, hbase⟩ : ∃ base, base = w2.heap.size := ⟨_, rfl⟩
  have HO0 := Lib.hid (show AG w w2 g dvnew 0 base (.slice none 0 0) [] from ⟨HL.out, RG.nil _ _, by rw [hbase]; exact HL.out.lt, by omega⟩)
  have HJ0 := Lib.hid (show AJ dvnew [] from ⟨AI.new, fun z hz => by cases hz⟩)
  clear HL HB hbase
  go_wp2_with fail
  go_loopw [6, 7] (fun hs i wr => ∃ (k : Nat) (s : DV) (l : List Int), k ≤ kinds.length ∧ i = .int .i64 k ∧ k ≤ 100 ∧ AG w wr g s (6 * k) base hs l ∧ AJ s l) (fun _ i _ => kinds.length - (intOf i).toNat)
  case atStart => exact ⟨0, dvnew, [], by omega, rfl, by omega, HO0.out, HJ0.out⟩
  case round =>
    clear HO0 HJ0
    obtain ⟨k, s, l, hk, rfl, hk2, hog, hj⟩ := hrel
    have HO := Lib.hid hog
    have HJ := Lib.hid hj
    by_cases hgo : k < kinds.length ∧ k < 100
    · have hI : (k : Int) < kinds.length := by omega
      have h2I : (k : Int) < 100 := by omega
      obtain ⟨hlt, hk100⟩ := hgo
      obtain ⟨x, hx⟩ : ∃ l, kinds[k]? = some l := ⟨kinds[k], List.getElem?_eq_getElem hlt⟩
      obtain ⟨b, o, rfl, hbw, hxc⟩ := (HN.out.below HO.out.lk.below (Nat.le_refl _)).at_ hx
      have HX := Lib.hid (show ∀ W, Below w.heap.size w W → W.cell? ⟨b, o + k, none⟩ = some (.int .i64 x) from fun W hb => (hb.cell (p := ⟨b, o + k, none⟩) hbw).trans ((hog.lk.below.cell (p := ⟨b, o + k, none⟩) hbw).symm.trans hxc))
      have ha0 : s.a 0 = 0 := hj.1.a
      obtain ⟨K, hK⟩ : ∃ K, l.length = K := ⟨_, rfl⟩
      obtain ⟨A0, c0, rfl, hA0⟩ := hog.form0 hK
      have hK8 : K ≤ 8 := by have := hj.1.le; omega
      clear hx hog hj
      by_cases h0x : 0 ≤ x
      · obtain ⟨S, N, X, l', hS0, hr, hJ', hN1, hN4, hX2, hcs⟩ := HJ.out.push k
        have HP := Lib.hid (pushV HO.out.lk ha0 k (by omega))
        rw [← hS0] at HP
        have HR := Lib.hid hr
        have HJN := Lib.hid hJ'
        have HC := Lib.hid hcs
        have HK := Lib.hid hK
        have HA := Lib.hid hA0
        have HM := Lib.hid (show 1 ≤ N ∧ N ≤ 4 ∧ -2 ≤ X from ⟨hN1, hN4, hX2⟩)
        clear hS0 hr hJ' hcs hK hA0 hN1 hN4 hX2 HJ ha0
        go_upto_region 15 with (go_at_call 11; (with_reducible refine HP.out.mono ?_); rintro e w4 ⟨rfl, hl4, ht4⟩; have HO4 := Lib.hid (HO.out.turn hl4 ht4); clear hl4 ht4)
        clear HP hxc HO
        go_wp2_with fail
        go_loopw [9, 10] (fun got kk wr => ∃ j : Nat, j ≤ N ∧ kk = .int .i64 j ∧ got = .int .i64 (if j = N then X else -3) ∧ AG w wr g (S j) (6 * k + j) base (.slice A0 K c0) l) (fun _ kk _ => 4 - (intOf kk).toNat)
        case atStart => exact ⟨0, by omega, rfl, by rw [if_neg (by have := HM.out; omega)], HO4.out⟩
        case round =>
          clear HO4
          obtain ⟨j, hj, rfl, rfl, ht⟩ := hrel
          have HT := Lib.hid ht
          have hxc := HX.out _ ht.lk.below
          clear ht
          have hM := HM.out
          by_cases h4 : j < N
          · have hj6 : (j : Int) < 6 := by omega
            have HST := Lib.hid (stepV HR.out HT.out.lk (by omega) h4)
            rw [if_neg (show ¬ j = N by omega)]
            by_cases hl : j + 1 = N
            · rw [decide_eq_true hl, if_pos hl] at HST
              have HLL := Lib.hid hl
              clear hl hM
              go_wp2_with (go_at_call 13; (with_reducible refine HST.out.mono ?_); rintro e w5 ⟨rfl, hl4, ht4⟩; have HT3 := Lib.hid (HT.out.turn hl4 ht4); clear hl4 ht4)
              go_roundw
              case rel => exact ⟨j + 1, by omega, by go_num, by rw [if_pos HLL.out], HT3.out⟩
              case measure => have := HM.out; simp [intOf]; omega
            · rw [decide_eq_false hl, if_neg hl] at HST
              have HLL := Lib.hid hl
              clear hl hM
              go_wp2_with (go_at_call 13; (with_reducible refine HST.out.mono ?_); rintro e w5 ⟨rfl, hl4, ht4⟩; have HT3 := Lib.hid (HT.out.turn hl4 ht4); clear hl4 ht4)
              go_roundw
              case rel => exact ⟨j + 1, by omega, by go_num, by rw [if_neg HLL.out], HT3.out⟩
              case measure => have := HM.out; simp [intOf]; omega
          · obtain rfl : j = N := by omega
            rw [if_pos rfl]
            have hXb : (X == -3) = false := by simp; omega
            have hj6 : (j : Int) < 6 := by omega
            clear hM h4 hj
            by_cases h8 : K = 8
            · obtain ⟨rfl, rfl⟩ : X = -2 ∧ l' = l := by
                rcases HC.out with ⟨_, h⟩ | ⟨h, _⟩
                · exact h
                · have := HK.out; omega
              have hB : ((K : Int) == 8) = true := by simp; omega
              clear h8
              go_wp2
              go_roundw
              case rel => exact ⟨k + 1, S j, l', by omega, by go_num, by omega, HT.out.older (by omega), HJN.out⟩
              case measure => simp [intOf]; omega
            · obtain ⟨rfl, rfl⟩ : X = -1 ∧ l' = l ++ [(k : Int)] := by
                rcases HC.out with ⟨h, _⟩ | ⟨_, h⟩
                · have := HK.out; omega
                · exact h
              have hB : ((K : Int) == 8) = false := by simp; omega
              have HK8 := Lib.hid (show K < 8 by omega)
              obtain ⟨K1, hK1⟩ : ∃ K1, K1 = K + 1 := ⟨_, rfl⟩
              have HK1 := Lib.hid hK1
              clear h8 hK1
              go_wp2_with (at_builtin; refine wpList_append_lies _ rfl (.tmp 72) (.tmp 74) 29 rfl base 3 i0 (.int .i64 0) 1 8 Try.underlying29 hi0 hz0 hz1 hz2 rfl (by omega) (.slice A0 K c0) K (l.map (Value.int .i64)) rfl (HT.out.own0 _ HK.out) ⟨wr.heap.size, 0, none⟩ 1 1 [.int .i64 (k : Int)] rfl (by rfl) (one_cell (by simp)) (by intro u hu; simp at hu; subst hu; rfl) (by omega) (by unfold maxLen; omega) (by omega) (by have := HT.out.bs; simp; omega) (wr.heap.size + 1) (by simp) ?_; intro q0 d0 w6 hown hgrow hat hlt6; have HO5 := Lib.hid (HT.out.app0 hown (congrArg (· + 1) HK.out.symm) rfl hgrow hat); rw [show K + 1 = K1 from HK1.out.symm] at HO5 ⊢; clear hown hgrow hat hlt6)
              go_roundw
              case rel => exact ⟨k + 1, S j, l ++ [(k : Int)], by omega, by go_num, by omega, HO5.out.older (by omega), HJN.out⟩
              case measure => simp [intOf]; omega
      · obtain ⟨S, N, X, l', hS0, hr, hJ', hN1, hN4, hX2, hcs⟩ := HJ.out.pop
        have HP := Lib.hid (popV HO.out.lk ha0)
        rw [← hS0] at HP
        have HR := Lib.hid hr
        have HJN := Lib.hid hJ'
        have HC := Lib.hid hcs
        have HK := Lib.hid hK
        have HA := Lib.hid hA0
        have HM := Lib.hid (show 1 ≤ N ∧ N ≤ 4 ∧ -2 ≤ X from ⟨hN1, hN4, hX2⟩)
        clear hS0 hr hJ' hcs hK hA0 hN1 hN4 hX2 HJ ha0
        go_upto_region 15 with (go_at_call 12; (with_reducible refine HP.out.mono ?_); rintro e w4 ⟨rfl, hl4, ht4⟩; have HO4 := Lib.hid (HO.out.turn hl4 ht4); clear hl4 ht4)
        clear HP hxc HO
        go_wp2_with fail
        go_loopw [9, 10] (fun got kk wr => ∃ j : Nat, j ≤ N ∧ kk = .int .i64 j ∧ got = .int .i64 (if j = N then X else -3) ∧ AG w wr g (S j) (6 * k + j) base (.slice A0 K c0) l) (fun _ kk _ => 4 - (intOf kk).toNat)
        case atStart => exact ⟨0, by omega, rfl, by rw [if_neg (by have := HM.out; omega)], HO4.out⟩
        case round =>
          clear HO4
          obtain ⟨j, hj, rfl, rfl, ht⟩ := hrel
          have HT := Lib.hid ht
          have hxc := HX.out _ ht.lk.below
          clear ht
          have hM := HM.out
          by_cases h4 : j < N
          · have hj6 : (j : Int) < 6 := by omega
            have HST := Lib.hid (stepV HR.out HT.out.lk (by omega) h4)
            rw [if_neg (show ¬ j = N by omega)]
            by_cases hl : j + 1 = N
            · rw [decide_eq_true hl, if_pos hl] at HST
              have HLL := Lib.hid hl
              clear hl hM
              go_wp2_with (go_at_call 13; (with_reducible refine HST.out.mono ?_); rintro e w5 ⟨rfl, hl4, ht4⟩; have HT3 := Lib.hid (HT.out.turn hl4 ht4); clear hl4 ht4)
              go_roundw
              case rel => exact ⟨j + 1, by omega, by go_num, by rw [if_pos HLL.out], HT3.out⟩
              case measure => have := HM.out; simp [intOf]; omega
            · rw [decide_eq_false hl, if_neg hl] at HST
              have HLL := Lib.hid hl
              clear hl hM
              go_wp2_with (go_at_call 13; (with_reducible refine HST.out.mono ?_); rintro e w5 ⟨rfl, hl4, ht4⟩; have HT3 := Lib.hid (HT.out.turn hl4 ht4); clear hl4 ht4)
              go_roundw
              case rel => exact ⟨j + 1, by omega, by go_num, by rw [if_neg HLL.out], HT3.out⟩
              case measure => have := HM.out; simp [intOf]; omega
          · obtain rfl : j = N := by omega
            rw [if_pos rfl]
            have hXb : (X == -3) = false := by simp; omega
            have hj6 : (j : Int) < 6 := by omega
            clear hM h4 hj
            rcases HC.out with ⟨h1, h2, h3⟩ | h1
            · subst h1 h2 h3
              obtain rfl : K = 0 := HK.out.symm
              go_wp2
              go_roundw
              case rel => exact ⟨k + 1, S j, [], by omega, by go_num, by omega, HT.out.older (by omega), HJN.out⟩
              case measure => simp [intOf]; omega
            · subst h1
              obtain ⟨K1, hK1⟩ : ∃ K1, K1 = l'.length := ⟨_, rfl⟩
              obtain rfl : K = K1 + 1 := by have := HK.out; simp at this; omega
              obtain ⟨b0, rfl⟩ := HA.out (by omega)
              have hB : (((K1 + 1 : Nat) : Int) == 0) = false := by simp; omega
              have hw1 : IntKind.i64.wrap (((K1 + 1 : Nat) : Int) - 1) = (K1 : Int) := (IntWalk.i64_in _ (by omega)).trans (by omega)
              have q1 := HT.out.cell (j := l'.length) (z := X) get_last
              rw [← hK1] at q1
              obtain ⟨hp1, hp2⟩ := HT.out.pop
              rw [← hK1] at hp1 hp2
              have HP1 := Lib.hid hp1
              have hlt1 : (K1 : Int) < ((K1 + 1 : Nat) : Int) := by omega
              have hc1 : ¬ (c0 : Int) < (K1 : Int) := by omega
              have hc2 : (K1 : Int) ≤ (c0 : Int) := by omega
              have hXX : (X != X) = false := by simp
              clear hp1 hK1
              go_wp2
              go_roundw
              case rel => exact ⟨k + 1, S j, l', by omega, by go_num, by omega, HP1.out.older (by omega), HJN.out⟩
              case measure => simp [intOf]; omega
    · have hh : (k : Int) < kinds.length ∧ ¬ (k : Int) < 100 ∨ ¬ (k : Int) < kinds.length := by omega
      clear hgo
      have HBE := Lib.hid hog.lk.below
      clear hog hj
      rcases hh with ⟨hI, hJ⟩ | hI
      all_goals
        go_wp2
        go_ret
        exact ⟨rfl, HBE.out⟩
end Go.Proofs.Ytbicckeoidijpaa.Dq
