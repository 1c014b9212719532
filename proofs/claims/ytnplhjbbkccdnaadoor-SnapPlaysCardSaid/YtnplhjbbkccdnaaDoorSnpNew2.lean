/-
  The reference of package snap: NewBoard.
-/
import Derived.Test.YtnplhjbbkccdnaaDoorSnpBK
import Derived.Test.YtnplhjbbkccdnaaDoorSnpNew
import Derived.Deep.RegionLaw
import Derived.Deep.OwnRows
namespace Go.Proofs.YtnplhjbbkccdnaaDoor.Snap
open Go.RowKit

/-- The words that are there so far: a row of one's own in memory from block base on; what they saw lies apart from it. -/
structure NI (F : Nat → Prop) (w W : World) (n b bx base j : Nat) (v0 : Value) (us : List Value) (A1 A2 A3 A4 A5 A6 A7 : Option Addr) (c1 c2 c3 c4 c5 c6 c7 : Nat) : Prop where
  box : Block W bx 34 #[v0, .slice A1 n c1, .slice A2 n c2, .slice A3 n c3, .slice A4 n c4, .slice A5 n c5, .slice A6 n c6, .slice A7 n c7]
  res : Block W b 34 #[.slice none 0 0, .slice none 0 0, .slice none 0 0, .slice none 0 0, .slice none 0 0, .slice none 0 0, .slice none 0 0, .slice none 0 0]
  bel : Below w.heap.size w W
  own : W.ownsRow base 48 3 v0 j us
  len : us.length = j * 3
  cells : ∀ (i : Nat) P, (wl n j (fun _ => sw0))[i]? = some P → ∃ u, us[i]? = some u ∧ P (fun z => (F z ∨ z = b ∨ z = bx) ∨ v0.ownBlock = some z) W u
  lo : w.heap.size ≤ b ∧ w.heap.size ≤ bx ∧ bx ≠ b
  bs : b < base ∧ bx < base ∧ base ≤ W.heap.size
  p1 : sl n (fun _ => isInt 0) (fun z => (F z ∨ z = b ∨ z = bx) ∨ base ≤ z) W (.slice A1 n c1)
  p2 : sl n (fun _ => isInt 0) (fun z => (F z ∨ z = b ∨ z = bx) ∨ base ≤ z) W (.slice A2 n c2)
  p3 : sl n (fun _ => isBool false) (fun z => (F z ∨ z = b ∨ z = bx) ∨ base ≤ z) W (.slice A3 n c3)
  p4 : sl n (fun _ => SL 0 []) (fun z => (F z ∨ z = b ∨ z = bx) ∨ base ≤ z) W (.slice A4 n c4)
  p5 : sl n (fun _ => SL 0 []) (fun z => (F z ∨ z = b ∨ z = bx) ∨ base ≤ z) W (.slice A5 n c5)
  p6 : sl n (fun _ => SL 0 []) (fun z => (F z ∨ z = b ∨ z = bx) ∨ base ≤ z) W (.slice A6 n c6)
  p7 : sl n (fun _ => SL 0 []) (fun z => (F z ∨ z = b ∨ z = bx) ∨ base ≤ z) W (.slice A7 n c7)
theorem nil_stb : Stb (SL 0 []) := SL_stb fun _ h => by cases h
section
variable {F : Nat → Prop} {w W W1 W2 W3 : World} {n b bx base j : Nat} {v0 : Value} {us : List Value} {A1 A2 A3 A4 A5 A6 A7 : Option Addr} {c1 c2 c3 c4 c5 c6 c7 : Nat}
theorem NI.drew (h : NI F w W n b bx base j v0 us A1 A2 A3 A4 A5 A6 A7 c1 c2 c3 c4 c5 c6 c7) : NI F w W.drew n b bx base j v0 us A1 A2 A3 A4 A5 A6 A7 c1 c2 c3 c4 c5 c6 c7 :=
  have hb : Below W.heap.size W W.drew := (Below.refl _ W).drew
  ⟨h.box.drew, h.res.drew, h.bel.drew, h.own.drew, h.len, fun i P hP => by
    obtain ⟨u, h1, h2⟩ := h.cells i P hP
    exact ⟨u, h1, (wl_stb n j _ P (List.mem_of_getElem? hP)).below hb h2⟩, h.lo, h.bs, (sl_stb fun _ _ => isInt_stb _).below hb h.p1, (sl_stb fun _ _ => isInt_stb _).below hb h.p2, (sl_stb fun _ _ => isBool_stb _).below hb h.p3, (sl_stb fun _ _ => nil_stb).below hb h.p4, (sl_stb fun _ _ => nil_stb).below hb h.p5, (sl_stb fun _ _ => nil_stb).below hb h.p6, (sl_stb fun _ _ => nil_stb).below hb h.p7⟩
/-- One word more. -/
theorem NI.more (h : NI F w W n b bx base j v0 us A1 A2 A3 A4 A5 A6 A7 c1 c2 c3 c4 c5 c6 c7) (hn1 : 1 ≤ n) (hF : ∀ x, F x → x < w.heap.size) {q cap : Nat} (h1 : W1 = W.alloc (.cells (madeCells #[.int .i64 0] n) 3))
    (hown : W3.ownsRow base 48 3 (.slice (some ⟨q, 0, none⟩) (j + 1) cap) (j + 1) (us ++ [.int .i64 0, .int .i64 0, .slice (some ⟨W.heap.size, 0, none⟩) n n]))
    (hg : (W1.alloc (.cells #[.int .i64 0, .int .i64 0, .slice (some ⟨W.heap.size, 0, none⟩) n n] 48)).grownBy W3 v0.ownBlock) (hat : v0.ownBlock = some q ∨ q = W.heap.size + 2) :
    NI F w (W3.setCell ⟨bx, 0, none⟩ (.slice (some ⟨q, 0, none⟩) (j + 1) cap)) n b bx base (j + 1) (.slice (some ⟨q, 0, none⟩) (j + 1) cap) (us ++ [.int .i64 0, .int .i64 0, .slice (some ⟨W.heap.size, 0, none⟩) n n]) A1 A2 A3 A4 A5 A6 A7 c1 c2 c3 c4 c5 c6 c7 := by
  have hs1 : W1.heap.size = W.heap.size + 1 := by rw [h1]; simp
  have hlt := fun k hk => h.own.lt k hk
  have hbs := h.bs
  have hlo := h.lo
  -- what turned: the row's own block, and new memory
  have ht1 : Touch (fun k => v0.ownBlock = some k) W W1 := by rw [h1]; exact (Touch.refl _ W).alloc _
  have ht3 : Touch (fun k => v0.ownBlock = some k) W W3 := (ht1.alloc _).grown hg fun k hk => Or.inl hk
  have htq : Touch (fun k => v0.ownBlock = some k ∨ k = bx) W (W3.setCell ⟨bx, 0, none⟩ (.slice (some ⟨q, 0, none⟩) (j + 1) cap)) :=
    Touch.setCell (O := fun k => v0.ownBlock = some k ∨ k = bx) (ht3.mono fun k hk => Or.inl hk) (p := ⟨bx, 0, none⟩) (Or.inl (Or.inr rfl)) _
  have hO : ∀ k, v0.ownBlock = some k → base ≤ k := fun k hk => (hlt k hk).1
  have hnb : ∀ k, k < base → ¬ v0.ownBlock = some k := fun k hk e => by have := hO k e; omega
  have hF7 : ∀ z, z < W.heap.size → (v0.ownBlock = some z ∨ z = bx) → (F z ∨ z = b ∨ z = bx) ∨ base ≤ z := fun z _ e => e.elim (fun e => Or.inr (hO z e)) fun e => Or.inl (Or.inr (Or.inr e))
  refine ⟨?_, ?_, ?_, ?_, ?_, fun i P hP => ?_, hlo, ⟨hbs.1, hbs.2.1, ?_⟩, (sl_stb fun _ _ => isInt_stb _).touch htq hF7 h.p1, (sl_stb fun _ _ => isInt_stb _).touch htq hF7 h.p2, (sl_stb fun _ _ => isBool_stb _).touch htq hF7 h.p3, (sl_stb fun _ _ => nil_stb).touch htq hF7 h.p4, (sl_stb fun _ _ => nil_stb).touch htq hF7 h.p5, (sl_stb fun _ _ => nil_stb).touch htq hF7 h.p6, (sl_stb fun _ _ => nil_stb).touch htq hF7 h.p7⟩
  · have := (h.box.touch ht3 (hnb bx hbs.2.1)).put 0 (.slice (some ⟨q, 0, none⟩) (j + 1) cap)
    simpa using this
  · exact (h.res.touch ht3 (hnb b hbs.1)).far (p := ⟨bx, 0, none⟩) (fun e => hlo.2.2 e.symm) _
  · exact (h.bel.trans (ht3.below h.bel.size fun k hk => by have := hO k hk; have := hbs.1; have := hlo.1; omega)).setCell hlo.2.1 _
  · exact own_touch hown ((Touch.refl (fun k => k = bx) W3).setCell (p := ⟨bx, 0, none⟩) (Or.inl rfl) _) fun k hk e => by
      have := (hown.lt k hk).1
      have := hbs.2.1
      omega
  · rw [List.length_append, h.len]; show j * 3 + 3 = _; omega
  · have hq2 : v0.ownBlock = some q ∨ W.heap.size + 2 ≤ q := hat.imp id fun e => by omega
    -- apart from the old row, too, and from the new one
    have hFa : ∀ z, z < W.heap.size → (((F z ∨ z = b ∨ z = bx) ∨ v0.ownBlock = some z) ∨ z = q) → ((F z ∨ z = b ∨ z = bx) ∨ v0.ownBlock = some z) := fun z hz e => e.elim id fun e => Or.inr (by subst e; exact hq2.elim id fun e => by omega)
    have hFb : ∀ z, z < W.heap.size → (v0.ownBlock = some z ∨ z = bx) → (((F z ∨ z = b ∨ z = bx) ∨ v0.ownBlock = some z) ∨ z = q) := fun z _ e => Or.inl (e.elim Or.inr fun e => Or.inl (Or.inr (Or.inr e)))
    have hFc : ∀ X : World, ∀ z, z < X.heap.size → ((F z ∨ z = b ∨ z = bx) ∨ (Value.slice (some ⟨q, 0, none⟩) (j + 1) cap).ownBlock = some z) → (((F z ∨ z = b ∨ z = bx) ∨ v0.ownBlock = some z) ∨ z = q) := fun _ z _ e => e.elim (fun e => Or.inl (Or.inl e)) fun e => Or.inr (Option.some.inj e).symm
    rw [wl_succ] at hP
    have hwl := wl_len n j (fun _ => sw0)
    have hul := h.len
    rcases Nat.lt_or_ge i (j * 3) with hi | hi
    · rw [List.getElem?_append_left (by omega)] at hP
      obtain ⟨u, hu, hp⟩ := h.cells i P hP
      have hst := wl_stb n j _ P (List.mem_of_getElem? hP)
      exact ⟨u, by rw [List.getElem?_append_left (by omega)]; exact hu, hst.more (hFc _) (hst.touch htq hFb (hst.more hFa hp))⟩
    · rw [List.getElem?_append_right (by omega), hwl] at hP
      rw [List.getElem?_append_right (by omega), hul]
      match hk : i - j * 3, hP with
      | 0, hP => exact ⟨_, rfl, by rw [← Option.some.inj hP]; rfl⟩
      | 1, hP => exact ⟨_, rfl, by rw [← Option.some.inj hP]; rfl⟩
      | 2, hP =>
        refine ⟨_, rfl, ?_⟩
        rw [← Option.some.inj hP]
        have ht2 : Touch (fun k => v0.ownBlock = some k ∨ k = bx) W1 (W3.setCell ⟨bx, 0, none⟩ (.slice (some ⟨q, 0, none⟩) (j + 1) cap)) :=
          Touch.setCell (O := fun k => v0.ownBlock = some k ∨ k = bx) ((((Touch.refl (fun k => v0.ownBlock = some k) W1).alloc _).grown hg fun k hk => Or.inl hk).mono fun k hk => Or.inl hk) (p := ⟨bx, 0, none⟩) (Or.inl (Or.inr rfl)) _
        have hz : nm n (fun _ => 0) (fun z => ((F z ∨ z = b ∨ z = bx) ∨ v0.ownBlock = some z) ∨ z = q) W1 (.slice (some ⟨W.heap.size, 0, none⟩) n n) := by
          rw [h1]
          refine zeros_nm (IRow.made W n) (fun e => ?_) hn1
          rcases e with ((e | e | e) | e) | e
          · have := hF _ e; have := h.bel.size; omega
          · omega
          · omega
          · have := (hlt _ e).2; omega
          · rcases hq2 with e2 | e2
            · have := (hlt _ e2).2; omega
            · omega
        exact (nm_stb _ _).more (hFc _) ((nm_stb _ _).touch ht2 (fun z hz e => Or.inl (e.elim Or.inr fun e => Or.inl (Or.inr (Or.inr e)))) hz)
      | m + 3, hP => exact absurd hP (by simp [wp3])
  · have := ht3.size
    have e : (W3.setCell ⟨bx, 0, none⟩ (.slice (some ⟨q, 0, none⟩) (j + 1) cap)).heap.size = W3.heap.size := by simp [World.setCell]
    rw [e]; omega
end
set_option maxRecDepth 1000000 in
set_option maxHeartbeats 8000000 in
theorem new_ref {F : Nat → Prop} (n : Nat) (h1 : 1 ≤ n) (h4 : n ≤ 4) (w : World) (hF : ∀ b, F b → b < w.heap.size) :
    Calls Tryd.prog 7 #[.int .i64 n] w fun e w' => ∃ u0 u1 u2 u3 u4 u5 u6 u7, e = .returned (.agg #[u0, u1, u2, u3, u4, u5, u6, u7]) ∧ BK F w' n ssnew u0 u1 u2 u3 u4 u5 u6 u7 (fun _ => 0) (fun _ => false) (fun _ => SL 0 []) (fun _ => SL 0 []) (fun _ => SL 0 []) (fun _ => SL 0 []) ∧ Below w.heap.size w w' := by
  obtain ⟨i0, hi0, hz0, hz1, hz2⟩ := info_parts Tword_info
  obtain ⟨b, hb⟩ : ∃ b, b = w.heap.size := ⟨_, rfl⟩
  obtain ⟨W0, hW0⟩ : ∃ W0, W0 = w.alloc (.cells #[.slice none 0 0, .slice none 0 0, .slice none 0 0, .slice none 0 0, .slice none 0 0, .slice none 0 0, .slice none 0 0, .slice none 0 0] 34) := ⟨_, rfl⟩
  have hB0 : Below w.heap.size w W0 := by rw [hW0]; exact (Below.refl _ w).alloc (Nat.le_refl _) _
  have hK0 : Block W0 b 34 #[.slice none 0 0, .slice none 0 0, .slice none 0 0, .slice none 0 0, .slice none 0 0, .slice none 0 0, .slice none 0 0, .slice none 0 0] := by rw [hW0, hb]; exact Block.made _ _ _
  have hbl : w.heap.size ≤ b := by omega
  have HBW := Lib.hid hb
  go_enter Tryd.func7, Tryd.ntmps7
  go_upto_region 1 with fail
  rw [← hb, ← hW0]
  clear hW0 hb
  refine nreg1_any h1 h4 hF hbl hB0 hK0 _ _ _ _ _ _ _ _ _ _ _ _ _ _ _ _ _ _ _ _ _ _ _ _ _ _ _ _ _ _ _ _ _ ?_
  intro x5 x7 x9 x11 x13 x15 x17 x19 W bx hbx hne A1 A2 A3 A4 A5 A6 A7 c1 c2 c3 c4 c5 c6 c7 hbox hbel hres g1 g2 g3 g4 g5 g6 g7
  obtain ⟨base, hbase⟩ : ∃ base, base = W.heap.size := ⟨_, rfl⟩
  have hni : NI F w W n b bx base 0 (.slice none 0 0) [] A1 A2 A3 A4 A5 A6 A7 c1 c2 c3 c4 c5 c6 c7 := by
    have hm : ∀ z, z < W.heap.size → ((F z ∨ z = b ∨ z = bx) ∨ base ≤ z) → ((F z ∨ z = b) ∨ z = bx) := fun z hz e => by
      rcases e with (e | e | e) | e
      · exact Or.inl (Or.inl e)
      · exact Or.inl (Or.inr e)
      · exact Or.inr e
      · omega
    exact ⟨hbox, hres, hbel, World.ownsRow_nil _ _ _ _, rfl, fun i P hP => by simp [wl] at hP, ⟨hbl, hbx, hne⟩, ⟨by have := hres.lt; omega, by have := hbox.lt; omega, by omega⟩,
      (sl_stb fun _ _ => isInt_stb _).more hm g1, (sl_stb fun _ _ => isInt_stb _).more hm g2, (sl_stb fun _ _ => isBool_stb _).more hm g3, (sl_stb fun _ _ => nil_stb).more hm g4, (sl_stb fun _ _ => nil_stb).more hm g5, (sl_stb fun _ _ => nil_stb).more hm g6, (sl_stb fun _ _ => nil_stb).more hm g7⟩
  have HN0 := Lib.hid hni
  clear hni hbox hbel hres g1 g2 g3 g4 g5 g6 g7 hB0 hK0 hbase
  go_wp2_with fail
  go_loopw [4] (fun i wr => ∃ (j : Nat) (v0 : Value) (us : List Value), j ≤ n ∧ i = .int .i64 j ∧ NI F w wr n b bx base j v0 us A1 A2 A3 A4 A5 A6 A7 c1 c2 c3 c4 c5 c6 c7) (fun i _ => n - (intOf i).toNat)
  case atStart => exact ⟨0, _, _, by omega, rfl, HN0.out⟩
  case round =>
    clear HN0
    obtain ⟨j, v0, us, hj, rfl, hni⟩ := hrel
    obtain ⟨A0, c0, rfl⟩ : ∃ A c, v0 = .slice A j c := by
      rcases hni.own.2 with ⟨rfl, h0⟩ | ⟨g, cap, cur, rfl, _⟩
      · exact ⟨none, 0, by rw [h0]⟩
      · exact ⟨_, _, rfl⟩
    by_cases hjn : j < n
    · have hjI : (j : Int) < n := by omega
      have HN := Lib.hid (show NI F w wr.drew n b bx base j (.slice A0 j c0) us A1 A2 A3 A4 A5 A6 A7 c1 c2 c3 c4 c5 c6 c7 from hni.drew)
      have hmk := make_i n (by omega) wr.drew
      have e1 := hni.box.cell 0
      have f1 := hni.box.free 0
      simp at e1
      have hbxl := hni.box.lt
      have e2 : (wr.alloc (.cells (madeCells #[.int .i64 0] n) 3)).cell? ⟨bx, 0, none⟩ = some (.slice A0 j c0) := (World.cell?_alloc_lt _ _ _ hbxl).trans e1
      have e3 : ((wr.alloc (.cells (madeCells #[.int .i64 0] n) 3)).alloc (.cells #[.int .i64 0, .int .i64 0, .slice (some ⟨wr.heap.size, 0, none⟩) n n] 48)).cell? ⟨bx, 0, none⟩ = some (.slice A0 j c0) := (World.cell?_alloc_lt _ _ _ (by simp; omega)).trans e2
      have HOW := Lib.hid (show ((wr.drew.alloc (.cells (madeCells #[.int .i64 0] n) 3)).alloc (.cells #[.int .i64 0, .int .i64 0, .slice (some ⟨wr.heap.size, 0, none⟩) n n] 48)).ownsRow base 48 3 (.slice A0 j c0) j us from World.ownsRow.alloc (World.ownsRow.alloc HN.out.own _) _)
      have HCE := Lib.hid (show ∀ (i : Nat) u, [Value.int .i64 0, Value.int .i64 0, Value.slice (some ⟨wr.heap.size, 0, none⟩) n n][i]? = some u → ((wr.drew.alloc (.cells (madeCells #[.int .i64 0] n) 3)).alloc (.cells #[.int .i64 0, .int .i64 0, .slice (some ⟨wr.heap.size, 0, none⟩) n n] 48)).cell? ((⟨wr.heap.size + 1, 0, none⟩ : Addr).add i) = some u from three_cells (t := 48) (by
        have hb := Block.made (wr.drew.alloc (.cells (madeCells #[.int .i64 0] n) 3)) 48 #[.int .i64 0, .int .i64 0, .slice (some ⟨wr.heap.size, 0, none⟩) n n]
        rw [World.size_alloc] at hb
        exact hb))
      have HON := Lib.hid (show ∀ u ∈ [Value.int .i64 0, Value.int .i64 0, Value.slice (some ⟨wr.heap.size, 0, none⟩) n n], u.oneCell' = true from fun u hu => by
        simp only [List.mem_cons, List.not_mem_nil, or_false] at hu
        rcases hu with rfl | rfl | rfl <;> rfl)
      have HBA := Lib.hid (show base ≤ wr.heap.size from hni.bs.2.2)
      clear hni hjn
      go_wp2_with fail
      go_region_law ((refine step_append_lies _ (by rfl) (.tmp 26) (.tmp 30) 29 (by rfl) base 48 i0 (.agg #[.int .i64 0, .int .i64 0, .slice none 0 0]) 3 40 Tryd.underlying29 hi0 hz0 hz1 hz2 rfl (by omega) (.slice A0 j c0) j us (by rfl) HOW.out ⟨wr.heap.size + 1, 0, none⟩ 1 1 [.int .i64 0, .int .i64 0, .slice (some ⟨wr.heap.size, 0, none⟩) n n] (by rfl) (by rfl) HCE.out HON.out (by omega) (by unfold maxLen; omega) (by omega) (by have := HBA.out; simp; omega) (wr.heap.size + 2) (by simp) ?_; intro q2 cap2 w4 hown hgrow hat hlt; have hb4 := HN.out.box.touch ((((Touch.refl (fun k => (Value.slice A0 j c0).ownBlock = some k) wr.drew).alloc _).alloc _).grown hgrow fun k hk => Or.inl hk) (fun e => by have := (HN.out.own.lt _ e).1; have := HN.out.bs; omega); have q1 := (hb4.cell 0).trans rfl; have q3 := hb4.free 0; have HO2 := Lib.hid hown; have HG2 := Lib.hid hgrow; have HA2 := Lib.hid hat; clear hb4 hown hgrow hat hlt))
      all_goals
        go_wp2
        go_roundw
        case rel => exact ⟨j + 1, _, _, by omega, by go_num, NI.more HN.out h1 hF rfl HO2.out HG2.out HA2.out⟩
        case measure => simp [intOf]; omega
    · obtain rfl : j = n := by omega
      have hjI : ¬ (j : Int) < j := by omega
      obtain ⟨e0, e1, e2, e3, e4, e5, e6, e7⟩ : wr.cell? ⟨bx, 0, none⟩ = some (.slice A0 j c0) ∧ wr.cell? ⟨bx, 1, none⟩ = some (.slice A1 j c1) ∧ wr.cell? ⟨bx, 2, none⟩ = some (.slice A2 j c2) ∧ wr.cell? ⟨bx, 3, none⟩ = some (.slice A3 j c3) ∧ wr.cell? ⟨bx, 4, none⟩ = some (.slice A4 j c4) ∧ wr.cell? ⟨bx, 5, none⟩ = some (.slice A5 j c5) ∧ wr.cell? ⟨bx, 6, none⟩ = some (.slice A6 j c6) ∧ wr.cell? ⟨bx, 7, none⟩ = some (.slice A7 j c7) := ⟨hni.box.cell 0, hni.box.cell 1, hni.box.cell 2, hni.box.cell 3, hni.box.cell 4, hni.box.cell 5, hni.box.cell 6, hni.box.cell 7⟩
      have r0 := hni.res.cell 0
      have r1 := hni.res.cell 1
      have r2 := hni.res.cell 2
      have r3 := hni.res.cell 3
      have r4 := hni.res.cell 4
      have r5 := hni.res.cell 5
      have r6 := hni.res.cell 6
      have r7 := hni.res.cell 7
      simp at r0 r1 r2 r3 r4 r5 r6 r7
      have fr0 := hni.res.free 0
      have fr1 := hni.res.free 1
      have fr2 := hni.res.free 2
      have fr3 := hni.res.free 3
      have fr4 := hni.res.free 4
      have fr5 := hni.res.free 5
      have fr6 := hni.res.free 6
      have fr7 := hni.res.free 7
      have hblk := ((((((((hni.res.put 0 (.slice A0 j c0)).put 1 (.slice A1 j c1)).put 2 (.slice A2 j c2)).put 3 (.slice A3 j c3)).put 4 (.slice A4 j c4)).put 5 (.slice A5 j c5)).put 6 (.slice A6 j c6)).put 7 (.slice A7 j c7))
      simp at hblk
      have HBLK := Lib.hid hblk
      have hbel := ((((((((hni.bel.setCell (p := ⟨b, 0, none⟩) hni.lo.1 (.slice A0 j c0)).setCell (p := ⟨b, 1, none⟩) hni.lo.1 (.slice A1 j c1)).setCell (p := ⟨b, 2, none⟩) hni.lo.1 (.slice A2 j c2)).setCell (p := ⟨b, 3, none⟩) hni.lo.1 (.slice A3 j c3)).setCell (p := ⟨b, 4, none⟩) hni.lo.1 (.slice A4 j c4)).setCell (p := ⟨b, 5, none⟩) hni.lo.1 (.slice A5 j c5)).setCell (p := ⟨b, 6, none⟩) hni.lo.1 (.slice A6 j c6)).setCell (p := ⟨b, 7, none⟩) hni.lo.1 (.slice A7 j c7))
      have HBEL := Lib.hid hbel
      have ht : Touch (fun z => z = b) wr ((((((((wr.setCell ⟨b, 0, none⟩ (.slice A0 j c0)).setCell ⟨b, 1, none⟩ (.slice A1 j c1)).setCell ⟨b, 2, none⟩ (.slice A2 j c2)).setCell ⟨b, 3, none⟩ (.slice A3 j c3)).setCell ⟨b, 4, none⟩ (.slice A4 j c4)).setCell ⟨b, 5, none⟩ (.slice A5 j c5)).setCell ⟨b, 6, none⟩ (.slice A6 j c6)).setCell ⟨b, 7, none⟩ (.slice A7 j c7)) := (((((((((Touch.refl (fun z => z = b) wr).setCell (p := ⟨b, 0, none⟩) (Or.inl rfl) (.slice A0 j c0)).setCell (p := ⟨b, 1, none⟩) (Or.inl rfl) (.slice A1 j c1)).setCell (p := ⟨b, 2, none⟩) (Or.inl rfl) (.slice A2 j c2)).setCell (p := ⟨b, 3, none⟩) (Or.inl rfl) (.slice A3 j c3)).setCell (p := ⟨b, 4, none⟩) (Or.inl rfl) (.slice A4 j c4)).setCell (p := ⟨b, 5, none⟩) (Or.inl rfl) (.slice A5 j c5)).setCell (p := ⟨b, 6, none⟩) (Or.inl rfl) (.slice A6 j c6)).setCell (p := ⟨b, 7, none⟩) (Or.inl rfl) (.slice A7 j c7))
      have hz0 : wds j j ssnew.wd (fun z => F z ∨ z = b ∨ z = bx) wr (.slice A0 j c0) := by
        have hl := wl_len j j ssnew.wd
        have hul := hni.len
        refine SL.own (base := base) (us := us) (size := 3) hni.own (fun z e => ?_) (by rw [hl, hul]) (by rw [hl]; omega) fun i P hP => ?_
        · have := hni.bs
          rcases e with e | e | e
          · have := hF z e; have := hni.lo; omega
          · omega
          · omega
        · obtain ⟨u, hu, hp⟩ := hni.cells i P hP
          exact ⟨u, hu, (wl_stb j j _ P (List.mem_of_getElem? hP)).more (fun z _ e => Or.inl e) hp⟩
      have hrv : BK F ((((((((wr.setCell ⟨b, 0, none⟩ (.slice A0 j c0)).setCell ⟨b, 1, none⟩ (.slice A1 j c1)).setCell ⟨b, 2, none⟩ (.slice A2 j c2)).setCell ⟨b, 3, none⟩ (.slice A3 j c3)).setCell ⟨b, 4, none⟩ (.slice A4 j c4)).setCell ⟨b, 5, none⟩ (.slice A5 j c5)).setCell ⟨b, 6, none⟩ (.slice A6 j c6)).setCell ⟨b, 7, none⟩ (.slice A7 j c7)) j ssnew (.slice A0 j c0) (.slice A1 j c1) (.slice A2 j c2) (.slice A3 j c3) (.slice A4 j c4) (.slice A5 j c5) (.slice A6 j c6) (.slice A7 j c7) (fun _ => 0) (fun _ => false) (fun _ => SL 0 []) (fun _ => SL 0 []) (fun _ => SL 0 []) (fun _ => SL 0 []) := by
        have hm : ∀ {P : Pd} {u : Value}, Stb P → P (fun z => (F z ∨ z = b ∨ z = bx) ∨ base ≤ z) wr u → P F ((((((((wr.setCell ⟨b, 0, none⟩ (.slice A0 j c0)).setCell ⟨b, 1, none⟩ (.slice A1 j c1)).setCell ⟨b, 2, none⟩ (.slice A2 j c2)).setCell ⟨b, 3, none⟩ (.slice A3 j c3)).setCell ⟨b, 4, none⟩ (.slice A4 j c4)).setCell ⟨b, 5, none⟩ (.slice A5 j c5)).setCell ⟨b, 6, none⟩ (.slice A6 j c6)).setCell ⟨b, 7, none⟩ (.slice A7 j c7)) u := fun hP h => hP.more (fun z _ e => Or.inl (Or.inl e)) (hP.touch ht (fun z _ e => Or.inl (Or.inr (Or.inl e))) h)
        exact ⟨⟨(wds_stb _ _ _).more (fun z _ e => Or.inl e) ((wds_stb _ _ _).touch ht (fun z _ e => Or.inr (Or.inl e)) hz0), hm (sl_stb fun _ _ => isInt_stb _) hni.p1, hm (sl_stb fun _ _ => isInt_stb _) hni.p2, hm (sl_stb fun _ _ => isBool_stb _) hni.p3, hm (sl_stb fun _ _ => nil_stb) hni.p4, hm (sl_stb fun _ _ => nil_stb) hni.p5, hm (sl_stb fun _ _ => nil_stb) hni.p6, hm (sl_stb fun _ _ => nil_stb) hni.p7,
          wds_stb _ _ _, nm_stb _ _, nm_stb _ _, bl_stb _ _, sl_stb fun _ _ => nil_stb, sl_stb fun _ _ => nil_stb, sl_stb fun _ _ => nil_stb, sl_stb fun _ _ => nil_stb⟩, fun _ _ => nil_stb, fun _ _ => nil_stb, fun _ _ => nil_stb, fun _ _ => nil_stb, fun p _ => HKp.zero rfl⟩
      have HRV := Lib.hid hrv
      clear hblk hbel ht hz0 hrv hni
      go_wp2
      exact bodyPost_ret (v := .agg _) (results_cell_row rfl _ _ b 34 _ (0, 0) _ rfl HBLK.out Tryd.underlying34 rfl (by kernel_rfl)) rfl ⟨_, _, _, _, _, _, _, _, rfl, HRV.out, HBEL.out⟩
end Go.Proofs.YtnplhjbbkccdnaaDoor.Snap
