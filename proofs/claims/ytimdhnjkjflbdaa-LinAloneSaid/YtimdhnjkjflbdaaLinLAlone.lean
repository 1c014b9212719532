/-
  LinAlone: what one does alone happens az it does.
-/
import Derived.Test.YtimdhnjkjflbdaaLinGetsP
import Derived.Test.YtimdhnjkjflbdaaLinApp
import Derived.Test.YtimdhnjkjflbdaaLinIn
import Derived.Test.YtimdhnjkjflbdaaLinFact
import Derived.Test.YtimdhnjkjflbdaaLinAlone
namespace Go.Proofs.Ytimdhnjkjflbdaa.Lin
open Go.RowKit

/-- The law's three slices: what is in, the history, the row that is wanted. -/
structure AL (w W : World) (base o : Nat) (ks az : Nat → Int) (m : Nat) (x8 x9 x10 : Value) : Prop where
  h : HG 34 W base x9 (lah o (fun _ => 0) ks az m)
  wn : W.ownsRow base 3 1 x10 m (((List.range m).map Int.ofNat).map (Value.int .i64))
  far : ∀ k, x9.ownBlock = some k → x10.ownBlock ≠ some k
  has : NumsP (fun b => x9.ownBlock ≠ some b ∧ x10.ownBlock ≠ some b) W W.heap.size x8 (las o ks az m)
  bs : base ≤ W.heap.size
  bel : Below w.heap.size w W
  lo : w.heap.size ≤ base
theorem NumsP.imp {P P' : Nat → Prop} {W : World} {B : Nat} {v : Value} {zs : List Int} (h : NumsP P W B v zs) (hp : ∀ b, b < B → P b → P' b) : NumsP P' W B v zs := by
  obtain ⟨A, c, e, hl, hf⟩ := h
  refine ⟨A, c, e, hl, fun h0 => ?_⟩
  obtain ⟨b, o, e1, hb, hc⟩ := hf h0
  exact ⟨b, o, e1, ⟨hb.1, hp b hb.1 hb.2⟩, hc⟩
theorem NumsP.keep {P P' : Nat → Prop} {W W' : World} {B B' : Nat} {v : Value} {zs : List Int} (h : NumsP P W B v zs) (hp : ∀ b, b < B → P b → b < B' ∧ P' b) (hk : ∀ p : Addr, p.block < B → P p.block → W'.cell? p = W.cell? p) : NumsP P' W' B' v zs := by
  obtain ⟨A, c, e, hl, hf⟩ := h
  refine ⟨A, c, e, hl, fun h0 => ?_⟩
  obtain ⟨b, o, e1, hb, hc⟩ := hf h0
  exact ⟨b, o, e1, hp b hb.1 hb.2, fun i z hz => (hk _ hb.1 hb.2).trans (hc i z hz)⟩
theorem AL.wnums {w W : World} {base o m : Nat} {ks az : Nat → Int} {x8 x9 x10 : Value} (h : AL w W base o ks az m x8 x9 x10) : Nums W W.heap.size x10 ((List.range m).map Int.ofNat) := by
  obtain ⟨A, c, e, hl, hf⟩ := NumsC.own (zs := (List.range m).map Int.ofNat) (by rw [List.length_map, List.length_range]; exact h.wn)
  exact ⟨A, c, e, by omega, hf⟩
theorem size_put0 (W : World) (p : Addr) (u : Value) : (W.setCell p u).heap.size = W.heap.size := by simp only [World.setCell, Array.size_modify]
theorem las_ne {ks az : Nat → Int} : ∀ m, las 0 ks az m ≠ []
  | 0 => by simp [las, linit]
  | m + 1 => by
    show (lgets 0 _ _ _).1 ≠ []
    unfold lgets
    rw [if_pos rfl]
    split
    · simp
    · exact las_ne m
theorem las_len (o : Nat) (ks az : Nat → Int) : ∀ m, (las o ks az m).length ≤ m + 1
  | 0 => by show (linit o).length ≤ 1; exact linit_len o
  | m + 1 => by
    have ih := las_len o ks az m
    show (lgets o (ks m).toNat (az m) (las o ks az m)).1.length ≤ m + 2
    unfold lgets
    split
    · split
      · show 1 ≤ _; omega
      · show (las o ks az m).length ≤ _; omega
    · split
      · simp; omega
      · split
        · show (las o ks az m).length ≤ _; omega
        · split
          · simp; omega
          · simp; omega
/-- What stands behind a round. -/
theorem al_next {w wr wq w7 w8 wa wb : World} {base o m : Nat} {ks az : Nat → Int} {x8 x9 x10 u7 : Value} {km am G : Int} {q cap q2 cap2 : Nat} (h : AL w wr base o ks az m x8 x9 x10) (hz : lao o (fun _ => 0) ks az m = ⟨0, km, am, G, 2 * (m : Int), 2 * (m : Int) + 1⟩)
    (ht8 : Touch (fun k => wr.heap.size ≤ k) wr w8) (hs8 : w8.heap.size = w7.heap.size) (h78 : wq.heap.size ≤ w7.heap.size) (hxq : wr.heap.size < wq.heap.size) (hn7 : NumsP (fun b => (x9.ownBlock ≠ some b ∧ x10.ownBlock ≠ some b) ∧ b ≠ wr.heap.size) w7 w7.heap.size u7 (las o ks az (m + 1))) (ht7 : Touch (fun k => k = wr.heap.size) w7 w8)
    (hqh : wa.ownsRow base 34 6 (.slice (some ⟨q, 0, none⟩) (m + 1) cap) (m + 1) (lcells (lah o (fun _ => 0) ks az m) ++ LO.cells ⟨0, km, am, G, 2 * (m : Int), 2 * (m : Int) + 1⟩)) (hta : Touch (fun k => x9.ownBlock = some k) w8 wa) (hata : x9.ownBlock = some q ∨ q = w8.heap.size + 1) (hla : q < wa.heap.size)
    (hqw : wb.ownsRow base 3 1 (.slice (some ⟨q2, 0, none⟩) (m + 1) cap2) (m + 1) (((List.range m).map Int.ofNat).map (Value.int .i64) ++ [.int .i64 (m : Int)])) (htb : Touch (fun k => x10.ownBlock = some k) wa wb) (hatb : x10.ownBlock = some q2 ∨ q2 = wa.heap.size + 1) :
    AL w wb base o ks az (m + 1) u7 (.slice (some ⟨q, 0, none⟩) (m + 1) cap) (.slice (some ⟨q2, 0, none⟩) (m + 1) cap2) := by
  have hs1 := ht8.size
  have hs2 := hta.size
  have hs3 := htb.size
  have hbs := h.bs
  have hlo := h.lo
  have l9 : ∀ k, x9.ownBlock = some k → base ≤ k ∧ k < wr.heap.size := fun k hk => h.h.lt hk
  have l10 : ∀ k, x10.ownBlock = some k → base ≤ k ∧ k < wr.heap.size := fun k hk => h.wn.lt k hk
  have f1 : x10.ownBlock ≠ some q := fun e => hata.elim (fun e9 => h.far q e9 e) fun e9 => by have := l10 q e; omega
  refine ⟨⟨?_⟩, ?_, ?_, ?_, by omega, ?_, hlo⟩
  · rw [lah_len, lah_succ, hz, lcells_app, show ∀ z : LO, lcells [z] = z.cells from fun z => by simp [lcells]]
    exact own_touch hqh htb fun k hk e => by
      have hk : some q = some k := hk
      injection hk with hk
      subst hk
      exact f1 e
  · rw [List.range_succ, List.map_append, List.map_append]
    exact hqw
  · intro k hk e
    have hk : some q = some k := hk
    have e : some q2 = some k := e
    injection hk with hk
    injection e with e
    subst hk
    subst e
    rcases hatb with e10 | e10
    · exact f1 e10
    · omega
  · refine hn7.keep (fun b hb hp => ⟨by omega, fun e => ?_, fun e => ?_⟩) fun p hb hp => ?_
    · have e : some q = some b := e
      injection e with e
      subst e
      exact hata.elim (fun e9 => hp.1.1 e9) fun e9 => by omega
    · have e : some q2 = some b := e
      injection e with e
      subst e
      exact hatb.elim (fun e9 => hp.1.2 e9) fun e9 => by omega
    · rw [htb.cell (by omega) hp.1.2, hta.cell (by omega) hp.1.1, ht7.cell hb hp.2]
  · have t8 : Touch (fun k => base ≤ k) wr w8 := ht8.mono fun k hk => Nat.le_trans hbs hk
    have ta : Touch (fun k => base ≤ k) w8 wa := hta.mono fun k hk => (l9 k hk).1
    have tb : Touch (fun k => base ≤ k) wa wb := htb.mono fun k hk => (l10 k hk).1
    have tt := (t8.trans ta fun _ e => Or.inl e).trans tb fun _ e => Or.inl e
    exact h.bel.trans (tt.below (B := w.heap.size) h.bel.size fun i hi => Nat.le_trans hlo hi)
theorem nums_at' {w : World} {B : Nat} {A : Option Addr} {n c : Nat} {zs : List Int} (h : Nums w B (.slice A n c) zs) {k : Nat} (hk : k < zs.length) : ∃ b o, A = some ⟨b, o, none⟩ ∧ b < B ∧ w.cell? ⟨b, o + k, none⟩ = some (.int .i64 (zs.getD k 0)) := by
  obtain ⟨A', c', e, _, hf⟩ := h
  injection e with e1 _ _
  subst e1
  obtain ⟨b, o, e2, hb, hc⟩ := hf (by omega)
  exact ⟨b, o, e2, hb, hc k _ (by rw [getD_at hk]; exact List.getElem?_eq_getElem hk)⟩
set_option maxHeartbeats 16000000 in
set_option maxRecDepth 100000 in
theorem linalone_law (ob : Int) (kv : Value) (kinds : List Int) (av : Value) (args : List Int) (w : World) (hkn : Nums w w.heap.size kv kinds) (han : Nums w w.heap.size av args) :
    Calls Try.prog 8 #[.int .i64 ob, kv, av] w fun e w' => e = .returned (.bool true) ∧ Below w.heap.size w w' := by
  obtain ⟨i0, hi0, hz0, hz1, hz2⟩ := info_parts Tint.info
  obtain ⟨i6, hj0, hy0, hy1, hy2⟩ := info_parts Top.info
  have HF := Lib.hid (linFact_any w)
  have HI := Lib.hid in_any
  obtain ⟨KA, kc, rfl, hkl⟩ := nums_form hkn
  obtain ⟨AA, ac, rfl, hal⟩ := nums_form han
  obtain ⟨ks, hks⟩ : ∃ ks : Nat → Int, ks = fun i => kinds.getD i 0 := ⟨_, rfl⟩
  obtain ⟨az, has⟩ : ∃ az : Nat → Int, az = fun i => args.getD i 0 := ⟨_, rfl⟩
  have HKN := Lib.hid (show ∀ k, k < kinds.length → ∃ b o, KA = some ⟨b, o, none⟩ ∧ b < w.heap.size ∧ w.cell? ⟨b, o + k, none⟩ = some (.int .i64 (ks k)) from fun k hk => by rw [hks]; exact nums_at' hkn hk)
  have HAN := Lib.hid (show ∀ k, k < args.length → ∃ b o, AA = some ⟨b, o, none⟩ ∧ b < w.heap.size ∧ w.cell? ⟨b, o + k, none⟩ = some (.int .i64 (az k)) from fun k hk => by rw [has]; exact nums_at' han hk)
  clear hks has hkn han
  by_cases hob : 0 ≤ ob ∧ ob ≤ 2
  · have dob : inR ob 0 2 = true := inR_true.2 hob
    obtain ⟨o, rfl⟩ := Int.eq_ofNat_of_zero_le hob.1
    have ho2 : o ≤ 2 := by omega
    clear hob
    by_cases h0 : o = 0
    · have d0 : ((o : Int) == 0) = true := by rw [h0]; rfl
      have HI0 := Lib.hid (show linit o = [0] from if_pos h0)
      clear h0
      go_enter Try.func8, Try.ntmps8
      go_wp2_with (first | (go_at_call 26; (with_reducible refine HF.out.mono ?_); rintro e w1 ⟨rfl, hb1⟩; have HB1 := Lib.hid hb1; clear hb1) | (at_builtin; (refine wpList_append_lies _ rfl (.tmp 26) (.tmp 27) 23 rfl w1.heap.size 3 i0 (.int .i64 0) 1 8 Try.underlying23 hi0 hz0 hz1 hz2 rfl (by omega) (.slice none 0 0) 0 [] rfl (World.ownsRow_nil _ _ _ _) ⟨w1.heap.size, 0, none⟩ 1 1 [.int .i64 0] rfl (by rfl) (one_cell (by simp)) (by intro u hu; simp at hu; subst hu; rfl) (by omega) (by unfold maxLen; omega) (by simp) (by simp) (w1.heap.size + 1) (by simp) ?_); intro q0 cap0 w2 hown hgrow hat hlt6; have HQ0 := Lib.hid hown; have HT0 := Lib.hid (((Touch.refl (fun _ => False) w1).alloc _).grown hgrow fun k hk => by cases hk); clear hown hgrow hat hlt6) | (go_at_call 29; (with_reducible refine (HI.out _ _ _ _).mono ?_); rintro e w9 ⟨rfl, rfl⟩))
      obtain ⟨base, hbase⟩ : ∃ base, base = w2.heap.size := ⟨_, rfl⟩
      have HB2 := Lib.hid (HB1.out.trans (HT0.out.below (B := w.heap.size) HB1.out.size fun _ e => e.elim))
      have HA0 := Lib.hid (show AL w w2 base o ks az 0 (.slice (some ⟨q0, 0, none⟩) 1 cap0) (.slice none 0 0) (.slice none 0 0) from ⟨HG.nil _ _ _, World.ownsRow_nil _ _ _ _, (fun k hk => by cases hk), (by show NumsP _ _ _ _ (linit o); rw [HI0.out]; exact NumsP.own (base := w1.heap.size) (fun b _ => ⟨(fun e => by cases e), fun e => by cases e⟩) HQ0.out), Nat.le_of_eq hbase, HB2.out, (by rw [hbase]; exact HB2.out.size)⟩)
      clear hbase
      go_loopw [8, 9, 10, 11] (fun x8 x9 x10 y wr => ∃ m : Nat, y = .int .i64 m ∧ m ≤ kinds.length ∧ m ≤ args.length ∧ m ≤ 8 ∧ (∀ j, j < m → (0 ≤ ks j ∧ ks j ≤ 1) ∧ (0 ≤ az j ∧ az j ≤ 1000)) ∧ AL w wr base o ks az m x8 x9 x10) (fun _ _ _ y _ => 8 - (intOf y).toNat)
      case atStart => exact ⟨0, rfl, Nat.zero_le _, Nat.zero_le _, Nat.zero_le _, (fun j hj => absurd hj (Nat.not_lt_zero _)), HA0.out⟩
      case round =>
        clear HA0
        obtain ⟨m, rfl, hm1, hm2, hm8, hok, hal⟩ := hrel
        have HOK := Lib.hid hok
        have HA := Lib.hid hal
        clear hok hal
        by_cases hgo : m < kinds.length ∧ m < args.length ∧ m < 8
        · obtain ⟨hk1, ha1, h8⟩ := hgo
          have d1 : decide ((m : Int) < (kinds.length : Int)) = true := decide_eq_true (by omega)
          have d2 : decide ((m : Int) < (args.length : Int)) = true := decide_eq_true (by omega)
          have d3 : decide ((m : Int) < 8) = true := decide_eq_true (by omega)
          obtain ⟨kb, ko, rfl, hkb, hkc⟩ := HKN.out m hk1
          obtain ⟨ab, ao, rfl, hab, hac⟩ := HAN.out m ha1
          have q1 := (HA.out.bel.cell (p := ⟨kb, ko + m, none⟩) hkb).trans hkc
          have q2 := (HA.out.bel.cell (p := ⟨ab, ao + m, none⟩) hab).trans hac
          obtain ⟨km, hkm⟩ : ∃ km, km = ks m := ⟨_, rfl⟩
          obtain ⟨am, ham⟩ : ∃ am, am = az m := ⟨_, rfl⟩
          rw [← hkm] at q1
          rw [← ham] at q2
          have HKM := Lib.hid hkm; have HAM := Lib.hid ham
          have hkb2 : kb < wr.heap.size := lt_of_cell q1
          have hab2 : ab < wr.heap.size := lt_of_cell q2
          clear hkm ham hkc hac
          by_cases ck : 0 ≤ km ∧ km ≤ 1
          · have e1 : inR km 0 1 = true := inR_true.2 ck
            by_cases ca : 0 ≤ am ∧ am ≤ 1000
            · have e2 : inR am 0 1000 = true := inR_true.2 ca
              have HCK := Lib.hid ck; have HCA := Lib.hid ca
              go_wp2_with (go_at_call 29; (with_reducible refine (HI.out _ _ _ _).mono ?_); rintro e w9 ⟨rfl, rfl⟩)
              go_region
              all_goals
                obtain ⟨wq, hwq⟩ : ∃ wq, wq = (wr.alloc (.cells #[.int .i64 0, .int .i64 km, .int .i64 am, .int .i64 0, .int .i64 (2 * (m : Int)), .int .i64 (2 * (m : Int) + 1)] 34)).drew := ⟨_, rfl⟩
                rw [← hwq]
                have hbl : Below wr.heap.size wr wq := hwq ▸ below_drewN ((Below.refl wr.heap.size wr).alloc (Nat.le_refl _) _) 1
                have x0 : wq.cell? ⟨wr.heap.size, 0, none⟩ = some (.int .i64 0) := by rw [hwq]; show (wr.alloc _).cell? _ = _; simp
                have x1 : wq.cell? ⟨wr.heap.size, 1, none⟩ = some (.int .i64 km) := by rw [hwq]; show (wr.alloc _).cell? _ = _; simp
                have x2 : wq.cell? ⟨wr.heap.size, 2, none⟩ = some (.int .i64 am) := by rw [hwq]; show (wr.alloc _).cell? _ = _; simp
                have x3 : wq.cell? ⟨wr.heap.size, 3, none⟩ = some (.int .i64 0) := by rw [hwq]; show (wr.alloc _).cell? _ = _; simp
                have x4 : wq.cell? ⟨wr.heap.size, 4, none⟩ = some (.int .i64 (2 * (m : Int))) := by rw [hwq]; show (wr.alloc _).cell? _ = _; simp
                have x5 : wq.cell? ⟨wr.heap.size, 5, none⟩ = some (.int .i64 (2 * (m : Int) + 1)) := by rw [hwq]; show (wr.alloc _).cell? _ = _; simp
                have xf : wq.frozen? ⟨wr.heap.size, 3, none⟩ = false := by rw [hwq]; show (wr.alloc _).frozen? _ = _; simp
                have hxq : wr.heap.size < wq.heap.size := lt_of_cell x0
                have hP : ∀ b, wq.heap.size ≤ b → (u9.ownBlock ≠ some b ∧ u10.ownBlock ≠ some b) ∧ b ≠ wr.heap.size := fun b hb => ⟨⟨fun e => by have := (HA.out.h.lt e).2; omega, fun e => by have := (HA.out.wn.lt b e).2; omega⟩, by omega⟩
                obtain ⟨G, hG⟩ : ∃ G, G = (lgets o (ks m).toNat (az m) (las o ks az m)).2 := ⟨_, rfl⟩
                have HZ := Lib.hid (show lao o (fun _ => 0) ks az m = ⟨0, km, am, G, 2 * (m : Int), 2 * (m : Int) + 1⟩ by rw [hG, HKM.out, HAM.out]; rfl)
                have HK := Lib.hid (kgets_anyP (P := fun b => (u9.ownBlock ≠ some b ∧ u10.ownBlock ≠ some b) ∧ b ≠ wr.heap.size) o ho2 (⟨0, km, am, 0, 2 * (m : Int), 2 * (m : Int) + 1⟩ : LO) ck ca (las o ks az m) (fun e => by subst e; exact las_ne m) (fun z hz => by have := las_le (fun j hj => (HOK.out j hj).2) z hz; omega) (by have := las_len o ks az m; omega) u8 wq hP (((HA.out.has.imp (P' := fun b => (u9.ownBlock ≠ some b ∧ u10.ownBlock ≠ some b) ∧ b ≠ wr.heap.size) fun b hb hp => ⟨hp, by omega⟩).below hbl (Nat.le_refl _)).more hbl.size))
                have HK := Lib.hid (show Calls Try.prog 30 #[.int .i64 o, u8, .agg #[.int .i64 0, .int .i64 km, .int .i64 am, .int .i64 0, .int .i64 (2 * (m : Int)), .int .i64 (2 * (m : Int) + 1)]] wq fun e w' => (∃ u, e = .returned (.tuple #[u, .int .i64 G]) ∧ NumsP (fun b => (u9.ownBlock ≠ some b ∧ u10.ownBlock ≠ some b) ∧ b ≠ wr.heap.size) w' w'.heap.size u (las o ks az (m + 1))) ∧ Below wq.heap.size wq w' from by
                  rw [show las o ks az (m + 1) = (lgets o (ks m).toNat (az m) (las o ks az m)).1 from rfl, hG, ← HKM.out, ← HAM.out]
                  exact HK.out)
                have HOH := Lib.hid (show ∀ W, Touch (fun k => wr.heap.size ≤ k) wr W → W.ownsRow base 34 6 u9 m (lcells (lah o (fun _ => 0) ks az m)) from fun W ht => by
                  have h5 := HA.out.h.own
                  rw [lah_len] at h5
                  exact own_touch h5 ht fun k hk e => by have := (h5.lt k hk).2; omega)
                have HOW := Lib.hid (show ∀ W, Touch (fun k => wr.heap.size ≤ k) wr W → W.ownsRow base 3 1 u10 m (((List.range m).map Int.ofNat).map (Value.int .i64)) from fun W ht => own_touch HA.out.wn ht fun k hk e => by have := (HA.out.wn.lt k hk).2; omega)
                have HTQ := Lib.hid (show Touch (fun k => wr.heap.size ≤ k) wr wq from Touch.of_below hbl fun _ h _ => h)
                have hbs := HA.out.bs
                clear hwq hG ck ca hP
                go_upto_region 20 with (go_at_call 30; (with_reducible refine HK.out.mono ?_); rintro e w7 ⟨⟨u7, rfl, hn7⟩, hb7⟩; have y0 := (hb7.cell (p := ⟨wr.heap.size, 0, none⟩) hxq).trans x0; have y1 := (hb7.cell (p := ⟨wr.heap.size, 1, none⟩) hxq).trans x1; have y2 := (hb7.cell (p := ⟨wr.heap.size, 2, none⟩) hxq).trans x2; have y3 := (hb7.cell (p := ⟨wr.heap.size, 3, none⟩) hxq).trans x3; have y4 := (hb7.cell (p := ⟨wr.heap.size, 4, none⟩) hxq).trans x4; have y5 := (hb7.cell (p := ⟨wr.heap.size, 5, none⟩) hxq).trans x5; have yf := (World.frozen?_of_block (w := wq) (a := ⟨wr.heap.size, 3, none⟩) (hb7.block wr.heap.size hxq)).trans xf; have HN7 := Lib.hid hn7; have HB7 := Lib.hid hb7; clear hn7 hb7)
                obtain ⟨w8, hw8⟩ : ∃ w8, w8 = w7.setCell ⟨wr.heap.size, 3, none⟩ (.int .i64 G) := ⟨_, rfl⟩
                rw [← hw8]
                have HS8 := Lib.hid (show w8.heap.size = w7.heap.size by rw [hw8]; exact size_put0 _ _ _)
                have z0 : w8.cell? ⟨wr.heap.size, 0, none⟩ = some (.int .i64 0) := by rw [hw8, World.cell?_setCell_other _ _ _ _ (fun c => by injection c with _ c; cases c)]; exact y0
                have z1 : w8.cell? ⟨wr.heap.size, 1, none⟩ = some (.int .i64 km) := by rw [hw8, World.cell?_setCell_other _ _ _ _ (fun c => by injection c with _ c; cases c)]; exact y1
                have z2 : w8.cell? ⟨wr.heap.size, 2, none⟩ = some (.int .i64 am) := by rw [hw8, World.cell?_setCell_other _ _ _ _ (fun c => by injection c with _ c; cases c)]; exact y2
                have z3 : w8.cell? ⟨wr.heap.size, 3, none⟩ = some (.int .i64 G) := by rw [hw8]; exact World.cell?_setCell_same _ _ _ y3
                have z4 : w8.cell? ⟨wr.heap.size, 4, none⟩ = some (.int .i64 (2 * (m : Int))) := by rw [hw8, World.cell?_setCell_other _ _ _ _ (fun c => by injection c with _ c; cases c)]; exact y4
                have z5 : w8.cell? ⟨wr.heap.size, 5, none⟩ = some (.int .i64 (2 * (m : Int) + 1)) := by rw [hw8, World.cell?_setCell_other _ _ _ _ (fun c => by injection c with _ c; cases c)]; exact y5
                have HT7 := Lib.hid (show Touch (fun k => k = wr.heap.size) w7 w8 by rw [hw8]; exact (Touch.refl (fun k => k = wr.heap.size) w7).setCell (p := ⟨wr.heap.size, 3, none⟩) (Or.inl rfl) _)
                have HT8 := Lib.hid ((HTQ.out.calls HB7.out (Nat.le_of_lt hxq)).trans HT7.out fun i e => Or.inl (by rw [e]; exact Nat.le_refl _))
                have h78 := HB7.out.size
                clear hw8 y0 y1 y2 y3 y4 y5 yf x0 x1 x2 x3 x4 x5 xf
                go_wp2_with (first | (at_builtin; refine wpList_append_lies _ rfl (.tmp 83) (.tmp 85) 31 rfl base 34 i6 _ 6 48 Try.underlying31 hj0 hy0 hy1 hy2 rfl (by omega) u9 m (lcells (lah o (fun _ => 0) ks az m)) rfl (HOH.out _ (HT8.out.alloc _)) ⟨w8.heap.size, 0, none⟩ 1 1 (LO.cells ⟨0, km, am, G, 2 * (m : Int), 2 * (m : Int) + 1⟩) rfl (by rfl) (six_cells w8 ⟨0, km, am, G, 2 * (m : Int), 2 * (m : Int) + 1⟩) (by intro u hu; simp [LO.cells] at hu; rcases hu with e | e | e | e | e | e <;> subst e <;> rfl) (by have := HS8.out; omega) (by unfold maxLen; omega) (by have := HS8.out; omega) (by have := HS8.out; simp; omega) (w8.heap.size + 1) (by simp) ?_; intro q cap wa hown hgrow hat hlt6; have HQH := Lib.hid hown; have HTA := Lib.hid (((Touch.refl (fun k => u9.ownBlock = some k) w8).alloc _).grown hgrow fun k hk => Or.inl hk); have HATA := Lib.hid hat; have hsa := HTA.out.size; have HLA := Lib.hid hlt6; clear hown hgrow hat hlt6) | (at_builtin; refine wpList_append_lies _ rfl (.tmp 87) (.tmp 89) 23 rfl base 3 i0 (.int .i64 0) 1 8 Try.underlying23 hi0 hz0 hz1 hz2 rfl (by omega) u10 m (((List.range m).map Int.ofNat).map (Value.int .i64)) rfl (own_touch (HOW.out w8 HT8.out) (HTA.out.alloc _) fun k hk e => HA.out.far k e hk) ⟨wa.heap.size, 0, none⟩ 1 1 [.int .i64 (m : Int)] rfl (by rfl) (one_cell (by simp)) (by intro u hu; simp at hu; subst hu; rfl) (by have := HS8.out; omega) (by unfold maxLen; omega) (by have := HS8.out; omega) (by have := HS8.out; simp; omega) (wa.heap.size + 1) (by simp) ?_; intro q2 cap2 wb hown hgrow hat hlt6; have HQW := Lib.hid hown; have HTB := Lib.hid (((Touch.refl (fun k => u10.ownBlock = some k) wa).alloc _).grown hgrow fun k hk => Or.inl hk); have HATB := Lib.hid hat; clear hown hgrow hat hlt6))
                go_roundw
                case rel => exact ⟨m + 1, by go_num, by omega, by omega, by omega, (fun j hj => (if e : j = m then (by rw [e, ← HKM.out, ← HAM.out]; exact ⟨HCK.out, HCA.out⟩) else HOK.out j (by omega))), al_next HA.out HZ.out HT8.out HS8.out h78 hxq HN7.out HT7.out HQH.out HTA.out HATA.out HLA.out HQW.out HTB.out HATB.out⟩
                case measure => simp [intOf]; omega
            · have e2 : inR am 0 1000 = false := inR_false.2 ca
              clear ca ck
              go_wp2_with (go_at_call 29; (with_reducible refine (HI.out _ _ _ _).mono ?_); rintro e w9 ⟨rfl, rfl⟩)
              go_ret
              exact ⟨rfl, HA.out.bel⟩
          · have e1 : inR km 0 1 = false := inR_false.2 ck
            clear ck
            go_wp2_with (go_at_call 29; (with_reducible refine (HI.out _ _ _ _).mono ?_); rintro e w9 ⟨rfl, rfl⟩)
            go_ret
            exact ⟨rfl, HA.out.bel⟩
        · have hh : ((m : Int) < (kinds.length : Int)) ∧ ((m : Int) < (args.length : Int)) ∧ ¬ (m : Int) < 8 ∨ ((m : Int) < (kinds.length : Int)) ∧ ¬ ((m : Int) < (args.length : Int)) ∨ ¬ ((m : Int) < (kinds.length : Int)) := by omega
          clear hgo
          have HRW := Lib.hid (lah_row (hs := fun _ => 0) ho2 hm8 (fun j _ => ⟨Int.le_refl _, by decide⟩) (fun j hj => (HOK.out j hj).1) (fun j hj => (HOK.out j hj).2))
          have HFN := Lib.hid (lah_fine (hs := fun _ => 0) ho2 hm8 (fun j _ => ⟨Int.le_refl _, by decide⟩) (fun j hj => (HOK.out j hj).1) (fun j hj => (HOK.out j hj).2))
          have HR := Lib.hid (row_any (o : Int) _ _ wr HA.out.h.ops)
          rw [HRW.out, lchk_zero.2 HFN.out, show errV 55 ((0 : Nat) : Int) = .nilIface from rfl, show (some (List.range m)).isSome = true from rfl, lrowI_some HRW.out] at HR
          have HWN := Lib.hid HA.out.wnums
          have HII := Lib.hid (fun (u1 u2 : Value) (W : World) (h1 : Nums W W.heap.size u1 ((List.range m).map Int.ofNat)) (h3 : Nums W W.heap.size u2 ((List.range m).map Int.ofNat)) => ints_any ((List.range m).map Int.ofNat) ((List.range m).map Int.ofNat) u1 u2 _ _ W h1 h3)
          rw [show decide (((List.range m).map Int.ofNat) = ((List.range m).map Int.ofNat)) = true from decide_eq_true rfl] at HII
          rcases hh with ⟨d1, d2, d3⟩ | ⟨d1, d2⟩ | d1
          all_goals
            go_wp2_with (first | (go_at_call 27; (with_reducible refine HR.out.mono ?_); rintro e w5 ⟨⟨u5, rfl, hn5⟩, hb5⟩; have HN5 := Lib.hid hn5; have HN6 := Lib.hid ((HWN.out.below hb5 (Nat.le_refl _)).more hb5.size); have HB5 := Lib.hid (HA.out.bel.trans (hb5.mono HA.out.bel.size)); clear hn5 hb5) | (go_at_call 10; (with_reducible refine (HII.out _ _ w5 HN5.out HN6.out).mono ?_); rintro e w6 ⟨rfl, n6, rfl⟩; have HB6 := Lib.hid (below_drewN HB5.out n6)))
            go_ret
            exact ⟨rfl, HB6.out⟩
    · have d0 : ((o : Int) == 0) = false := beq_eq_false_iff_ne.2 (by omega)
      have HI0 := Lib.hid (show linit o = [] from if_neg h0)
      clear h0
      go_enter Try.func8, Try.ntmps8
      go_wp2_with (first | (go_at_call 26; (with_reducible refine HF.out.mono ?_); rintro e w1 ⟨rfl, hb1⟩; have HB1 := Lib.hid hb1; clear hb1) | (go_at_call 29; (with_reducible refine (HI.out _ _ _ _).mono ?_); rintro e w9 ⟨rfl, rfl⟩))
      obtain ⟨base, hbase⟩ : ∃ base, base = w1.heap.size := ⟨_, rfl⟩
      have HA0 := Lib.hid (show AL w w1 base o ks az 0 (.slice none 0 0) (.slice none 0 0) (.slice none 0 0) from ⟨HG.nil _ _ _, World.ownsRow_nil _ _ _ _, (fun k hk => by cases hk), (by show NumsP _ _ _ _ (linit o); rw [HI0.out]; exact NumsP.nil _ _ _ _ _ (by omega)), Nat.le_of_eq hbase, HB1.out, (by rw [hbase]; exact HB1.out.size)⟩)
      clear hbase
      go_loopw [8, 9, 10, 11] (fun x8 x9 x10 y wr => ∃ m : Nat, y = .int .i64 m ∧ m ≤ kinds.length ∧ m ≤ args.length ∧ m ≤ 8 ∧ (∀ j, j < m → (0 ≤ ks j ∧ ks j ≤ 1) ∧ (0 ≤ az j ∧ az j ≤ 1000)) ∧ AL w wr base o ks az m x8 x9 x10) (fun _ _ _ y _ => 8 - (intOf y).toNat)
      case atStart => exact ⟨0, rfl, Nat.zero_le _, Nat.zero_le _, Nat.zero_le _, (fun j hj => absurd hj (Nat.not_lt_zero _)), HA0.out⟩
      case round =>
        clear HA0
        obtain ⟨m, rfl, hm1, hm2, hm8, hok, hal⟩ := hrel
        have HOK := Lib.hid hok
        have HA := Lib.hid hal
        clear hok hal
        by_cases hgo : m < kinds.length ∧ m < args.length ∧ m < 8
        · obtain ⟨hk1, ha1, h8⟩ := hgo
          have d1 : decide ((m : Int) < (kinds.length : Int)) = true := decide_eq_true (by omega)
          have d2 : decide ((m : Int) < (args.length : Int)) = true := decide_eq_true (by omega)
          have d3 : decide ((m : Int) < 8) = true := decide_eq_true (by omega)
          obtain ⟨kb, ko, rfl, hkb, hkc⟩ := HKN.out m hk1
          obtain ⟨ab, ao, rfl, hab, hac⟩ := HAN.out m ha1
          have q1 := (HA.out.bel.cell (p := ⟨kb, ko + m, none⟩) hkb).trans hkc
          have q2 := (HA.out.bel.cell (p := ⟨ab, ao + m, none⟩) hab).trans hac
          obtain ⟨km, hkm⟩ : ∃ km, km = ks m := ⟨_, rfl⟩
          obtain ⟨am, ham⟩ : ∃ am, am = az m := ⟨_, rfl⟩
          rw [← hkm] at q1
          rw [← ham] at q2
          have HKM := Lib.hid hkm; have HAM := Lib.hid ham
          have hkb2 : kb < wr.heap.size := lt_of_cell q1
          have hab2 : ab < wr.heap.size := lt_of_cell q2
          clear hkm ham hkc hac
          by_cases ck : 0 ≤ km ∧ km ≤ 1
          · have e1 : inR km 0 1 = true := inR_true.2 ck
            by_cases ca : 0 ≤ am ∧ am ≤ 1000
            · have e2 : inR am 0 1000 = true := inR_true.2 ca
              have HCK := Lib.hid ck; have HCA := Lib.hid ca
              go_wp2_with (go_at_call 29; (with_reducible refine (HI.out _ _ _ _).mono ?_); rintro e w9 ⟨rfl, rfl⟩)
              go_region
              all_goals
                obtain ⟨wq, hwq⟩ : ∃ wq, wq = (wr.alloc (.cells #[.int .i64 0, .int .i64 km, .int .i64 am, .int .i64 0, .int .i64 (2 * (m : Int)), .int .i64 (2 * (m : Int) + 1)] 34)).drew := ⟨_, rfl⟩
                rw [← hwq]
                have hbl : Below wr.heap.size wr wq := hwq ▸ below_drewN ((Below.refl wr.heap.size wr).alloc (Nat.le_refl _) _) 1
                have x0 : wq.cell? ⟨wr.heap.size, 0, none⟩ = some (.int .i64 0) := by rw [hwq]; show (wr.alloc _).cell? _ = _; simp
                have x1 : wq.cell? ⟨wr.heap.size, 1, none⟩ = some (.int .i64 km) := by rw [hwq]; show (wr.alloc _).cell? _ = _; simp
                have x2 : wq.cell? ⟨wr.heap.size, 2, none⟩ = some (.int .i64 am) := by rw [hwq]; show (wr.alloc _).cell? _ = _; simp
                have x3 : wq.cell? ⟨wr.heap.size, 3, none⟩ = some (.int .i64 0) := by rw [hwq]; show (wr.alloc _).cell? _ = _; simp
                have x4 : wq.cell? ⟨wr.heap.size, 4, none⟩ = some (.int .i64 (2 * (m : Int))) := by rw [hwq]; show (wr.alloc _).cell? _ = _; simp
                have x5 : wq.cell? ⟨wr.heap.size, 5, none⟩ = some (.int .i64 (2 * (m : Int) + 1)) := by rw [hwq]; show (wr.alloc _).cell? _ = _; simp
                have xf : wq.frozen? ⟨wr.heap.size, 3, none⟩ = false := by rw [hwq]; show (wr.alloc _).frozen? _ = _; simp
                have hxq : wr.heap.size < wq.heap.size := lt_of_cell x0
                have hP : ∀ b, wq.heap.size ≤ b → (u9.ownBlock ≠ some b ∧ u10.ownBlock ≠ some b) ∧ b ≠ wr.heap.size := fun b hb => ⟨⟨fun e => by have := (HA.out.h.lt e).2; omega, fun e => by have := (HA.out.wn.lt b e).2; omega⟩, by omega⟩
                obtain ⟨G, hG⟩ : ∃ G, G = (lgets o (ks m).toNat (az m) (las o ks az m)).2 := ⟨_, rfl⟩
                have HZ := Lib.hid (show lao o (fun _ => 0) ks az m = ⟨0, km, am, G, 2 * (m : Int), 2 * (m : Int) + 1⟩ by rw [hG, HKM.out, HAM.out]; rfl)
                have HK := Lib.hid (kgets_anyP (P := fun b => (u9.ownBlock ≠ some b ∧ u10.ownBlock ≠ some b) ∧ b ≠ wr.heap.size) o ho2 (⟨0, km, am, 0, 2 * (m : Int), 2 * (m : Int) + 1⟩ : LO) ck ca (las o ks az m) (fun e => by subst e; exact las_ne m) (fun z hz => by have := las_le (fun j hj => (HOK.out j hj).2) z hz; omega) (by have := las_len o ks az m; omega) u8 wq hP (((HA.out.has.imp (P' := fun b => (u9.ownBlock ≠ some b ∧ u10.ownBlock ≠ some b) ∧ b ≠ wr.heap.size) fun b hb hp => ⟨hp, by omega⟩).below hbl (Nat.le_refl _)).more hbl.size))
                have HK := Lib.hid (show Calls Try.prog 30 #[.int .i64 o, u8, .agg #[.int .i64 0, .int .i64 km, .int .i64 am, .int .i64 0, .int .i64 (2 * (m : Int)), .int .i64 (2 * (m : Int) + 1)]] wq fun e w' => (∃ u, e = .returned (.tuple #[u, .int .i64 G]) ∧ NumsP (fun b => (u9.ownBlock ≠ some b ∧ u10.ownBlock ≠ some b) ∧ b ≠ wr.heap.size) w' w'.heap.size u (las o ks az (m + 1))) ∧ Below wq.heap.size wq w' from by
                  rw [show las o ks az (m + 1) = (lgets o (ks m).toNat (az m) (las o ks az m)).1 from rfl, hG, ← HKM.out, ← HAM.out]
                  exact HK.out)
                have HOH := Lib.hid (show ∀ W, Touch (fun k => wr.heap.size ≤ k) wr W → W.ownsRow base 34 6 u9 m (lcells (lah o (fun _ => 0) ks az m)) from fun W ht => by
                  have h5 := HA.out.h.own
                  rw [lah_len] at h5
                  exact own_touch h5 ht fun k hk e => by have := (h5.lt k hk).2; omega)
                have HOW := Lib.hid (show ∀ W, Touch (fun k => wr.heap.size ≤ k) wr W → W.ownsRow base 3 1 u10 m (((List.range m).map Int.ofNat).map (Value.int .i64)) from fun W ht => own_touch HA.out.wn ht fun k hk e => by have := (HA.out.wn.lt k hk).2; omega)
                have HTQ := Lib.hid (show Touch (fun k => wr.heap.size ≤ k) wr wq from Touch.of_below hbl fun _ h _ => h)
                have hbs := HA.out.bs
                clear hwq hG ck ca hP
                go_upto_region 20 with (go_at_call 30; (with_reducible refine HK.out.mono ?_); rintro e w7 ⟨⟨u7, rfl, hn7⟩, hb7⟩; have y0 := (hb7.cell (p := ⟨wr.heap.size, 0, none⟩) hxq).trans x0; have y1 := (hb7.cell (p := ⟨wr.heap.size, 1, none⟩) hxq).trans x1; have y2 := (hb7.cell (p := ⟨wr.heap.size, 2, none⟩) hxq).trans x2; have y3 := (hb7.cell (p := ⟨wr.heap.size, 3, none⟩) hxq).trans x3; have y4 := (hb7.cell (p := ⟨wr.heap.size, 4, none⟩) hxq).trans x4; have y5 := (hb7.cell (p := ⟨wr.heap.size, 5, none⟩) hxq).trans x5; have yf := (World.frozen?_of_block (w := wq) (a := ⟨wr.heap.size, 3, none⟩) (hb7.block wr.heap.size hxq)).trans xf; have HN7 := Lib.hid hn7; have HB7 := Lib.hid hb7; clear hn7 hb7)
                obtain ⟨w8, hw8⟩ : ∃ w8, w8 = w7.setCell ⟨wr.heap.size, 3, none⟩ (.int .i64 G) := ⟨_, rfl⟩
                rw [← hw8]
                have HS8 := Lib.hid (show w8.heap.size = w7.heap.size by rw [hw8]; exact size_put0 _ _ _)
                have z0 : w8.cell? ⟨wr.heap.size, 0, none⟩ = some (.int .i64 0) := by rw [hw8, World.cell?_setCell_other _ _ _ _ (fun c => by injection c with _ c; cases c)]; exact y0
                have z1 : w8.cell? ⟨wr.heap.size, 1, none⟩ = some (.int .i64 km) := by rw [hw8, World.cell?_setCell_other _ _ _ _ (fun c => by injection c with _ c; cases c)]; exact y1
                have z2 : w8.cell? ⟨wr.heap.size, 2, none⟩ = some (.int .i64 am) := by rw [hw8, World.cell?_setCell_other _ _ _ _ (fun c => by injection c with _ c; cases c)]; exact y2
                have z3 : w8.cell? ⟨wr.heap.size, 3, none⟩ = some (.int .i64 G) := by rw [hw8]; exact World.cell?_setCell_same _ _ _ y3
                have z4 : w8.cell? ⟨wr.heap.size, 4, none⟩ = some (.int .i64 (2 * (m : Int))) := by rw [hw8, World.cell?_setCell_other _ _ _ _ (fun c => by injection c with _ c; cases c)]; exact y4
                have z5 : w8.cell? ⟨wr.heap.size, 5, none⟩ = some (.int .i64 (2 * (m : Int) + 1)) := by rw [hw8, World.cell?_setCell_other _ _ _ _ (fun c => by injection c with _ c; cases c)]; exact y5
                have HT7 := Lib.hid (show Touch (fun k => k = wr.heap.size) w7 w8 by rw [hw8]; exact (Touch.refl (fun k => k = wr.heap.size) w7).setCell (p := ⟨wr.heap.size, 3, none⟩) (Or.inl rfl) _)
                have HT8 := Lib.hid ((HTQ.out.calls HB7.out (Nat.le_of_lt hxq)).trans HT7.out fun i e => Or.inl (by rw [e]; exact Nat.le_refl _))
                have h78 := HB7.out.size
                clear hw8 y0 y1 y2 y3 y4 y5 yf x0 x1 x2 x3 x4 x5 xf
                go_wp2_with (first | (at_builtin; refine wpList_append_lies _ rfl (.tmp 83) (.tmp 85) 31 rfl base 34 i6 _ 6 48 Try.underlying31 hj0 hy0 hy1 hy2 rfl (by omega) u9 m (lcells (lah o (fun _ => 0) ks az m)) rfl (HOH.out _ (HT8.out.alloc _)) ⟨w8.heap.size, 0, none⟩ 1 1 (LO.cells ⟨0, km, am, G, 2 * (m : Int), 2 * (m : Int) + 1⟩) rfl (by rfl) (six_cells w8 ⟨0, km, am, G, 2 * (m : Int), 2 * (m : Int) + 1⟩) (by intro u hu; simp [LO.cells] at hu; rcases hu with e | e | e | e | e | e <;> subst e <;> rfl) (by have := HS8.out; omega) (by unfold maxLen; omega) (by have := HS8.out; omega) (by have := HS8.out; simp; omega) (w8.heap.size + 1) (by simp) ?_; intro q cap wa hown hgrow hat hlt6; have HQH := Lib.hid hown; have HTA := Lib.hid (((Touch.refl (fun k => u9.ownBlock = some k) w8).alloc _).grown hgrow fun k hk => Or.inl hk); have HATA := Lib.hid hat; have hsa := HTA.out.size; have HLA := Lib.hid hlt6; clear hown hgrow hat hlt6) | (at_builtin; refine wpList_append_lies _ rfl (.tmp 87) (.tmp 89) 23 rfl base 3 i0 (.int .i64 0) 1 8 Try.underlying23 hi0 hz0 hz1 hz2 rfl (by omega) u10 m (((List.range m).map Int.ofNat).map (Value.int .i64)) rfl (own_touch (HOW.out w8 HT8.out) (HTA.out.alloc _) fun k hk e => HA.out.far k e hk) ⟨wa.heap.size, 0, none⟩ 1 1 [.int .i64 (m : Int)] rfl (by rfl) (one_cell (by simp)) (by intro u hu; simp at hu; subst hu; rfl) (by have := HS8.out; omega) (by unfold maxLen; omega) (by have := HS8.out; omega) (by have := HS8.out; simp; omega) (wa.heap.size + 1) (by simp) ?_; intro q2 cap2 wb hown hgrow hat hlt6; have HQW := Lib.hid hown; have HTB := Lib.hid (((Touch.refl (fun k => u10.ownBlock = some k) wa).alloc _).grown hgrow fun k hk => Or.inl hk); have HATB := Lib.hid hat; clear hown hgrow hat hlt6))
                go_roundw
                case rel => exact ⟨m + 1, by go_num, by omega, by omega, by omega, (fun j hj => (if e : j = m then (by rw [e, ← HKM.out, ← HAM.out]; exact ⟨HCK.out, HCA.out⟩) else HOK.out j (by omega))), al_next HA.out HZ.out HT8.out HS8.out h78 hxq HN7.out HT7.out HQH.out HTA.out HATA.out HLA.out HQW.out HTB.out HATB.out⟩
                case measure => simp [intOf]; omega
            · have e2 : inR am 0 1000 = false := inR_false.2 ca
              clear ca ck
              go_wp2_with (go_at_call 29; (with_reducible refine (HI.out _ _ _ _).mono ?_); rintro e w9 ⟨rfl, rfl⟩)
              go_ret
              exact ⟨rfl, HA.out.bel⟩
          · have e1 : inR km 0 1 = false := inR_false.2 ck
            clear ck
            go_wp2_with (go_at_call 29; (with_reducible refine (HI.out _ _ _ _).mono ?_); rintro e w9 ⟨rfl, rfl⟩)
            go_ret
            exact ⟨rfl, HA.out.bel⟩
        · have hh : ((m : Int) < (kinds.length : Int)) ∧ ((m : Int) < (args.length : Int)) ∧ ¬ (m : Int) < 8 ∨ ((m : Int) < (kinds.length : Int)) ∧ ¬ ((m : Int) < (args.length : Int)) ∨ ¬ ((m : Int) < (kinds.length : Int)) := by omega
          clear hgo
          have HRW := Lib.hid (lah_row (hs := fun _ => 0) ho2 hm8 (fun j _ => ⟨Int.le_refl _, by decide⟩) (fun j hj => (HOK.out j hj).1) (fun j hj => (HOK.out j hj).2))
          have HFN := Lib.hid (lah_fine (hs := fun _ => 0) ho2 hm8 (fun j _ => ⟨Int.le_refl _, by decide⟩) (fun j hj => (HOK.out j hj).1) (fun j hj => (HOK.out j hj).2))
          have HR := Lib.hid (row_any (o : Int) _ _ wr HA.out.h.ops)
          rw [HRW.out, lchk_zero.2 HFN.out, show errV 55 ((0 : Nat) : Int) = .nilIface from rfl, show (some (List.range m)).isSome = true from rfl, lrowI_some HRW.out] at HR
          have HWN := Lib.hid HA.out.wnums
          have HII := Lib.hid (fun (u1 u2 : Value) (W : World) (h1 : Nums W W.heap.size u1 ((List.range m).map Int.ofNat)) (h3 : Nums W W.heap.size u2 ((List.range m).map Int.ofNat)) => ints_any ((List.range m).map Int.ofNat) ((List.range m).map Int.ofNat) u1 u2 _ _ W h1 h3)
          rw [show decide (((List.range m).map Int.ofNat) = ((List.range m).map Int.ofNat)) = true from decide_eq_true rfl] at HII
          rcases hh with ⟨d1, d2, d3⟩ | ⟨d1, d2⟩ | d1
          all_goals
            go_wp2_with (first | (go_at_call 27; (with_reducible refine HR.out.mono ?_); rintro e w5 ⟨⟨u5, rfl, hn5⟩, hb5⟩; have HN5 := Lib.hid hn5; have HN6 := Lib.hid ((HWN.out.below hb5 (Nat.le_refl _)).more hb5.size); have HB5 := Lib.hid (HA.out.bel.trans (hb5.mono HA.out.bel.size)); clear hn5 hb5) | (go_at_call 10; (with_reducible refine (HII.out _ _ w5 HN5.out HN6.out).mono ?_); rintro e w6 ⟨rfl, n6, rfl⟩; have HB6 := Lib.hid (below_drewN HB5.out n6)))
            go_ret
            exact ⟨rfl, HB6.out⟩
  · have dob : inR ob 0 2 = false := inR_false.2 hob
    clear hob
    go_enter Try.func8, Try.ntmps8
    go_wp2_with (first | (go_at_call 26; (with_reducible refine HF.out.mono ?_); rintro e w1 ⟨rfl, hb1⟩; have HB1 := Lib.hid hb1; clear hb1) | (go_at_call 29; (with_reducible refine (HI.out _ _ _ _).mono ?_); rintro e w9 ⟨rfl, rfl⟩))
    go_ret
    exact ⟨rfl, HB1.out⟩
end Go.Proofs.Ytimdhnjkjflbdaa.Lin
