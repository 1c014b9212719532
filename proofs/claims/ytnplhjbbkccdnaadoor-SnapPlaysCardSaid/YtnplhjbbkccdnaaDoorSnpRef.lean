/-
  The reference's copies: a slice with one place anew (set, rows, reads), a slice of words with one more (behind).
-/
import Derived.Test.YtnplhjbbkccdnaaDoorSL
import Derived.Test.YtnplhjbbkccdnaaDoorRowsG
import Derived.Deep.QuietTactic
import Derived.BigQuiet
import Derived.LoopTactic
import Derived.IntWalk
import Derived.Deep.DeepCutAuto
import Derived.Laws.AppendOwnNone
namespace Go.Proofs.YtnplhjbbkccdnaaDoor
open Go.RowKit

theorem Tnums_info : (Tryd.prog.info? 30).map (fun i => (i.zero, i.size, i.bytes)) = some (some (.slice none 0 0), 1, 24) := by kernel_rfl
theorem Tword_info : (Tryd.prog.info? 48).map (fun i => (i.zero, i.size, i.bytes)) = some (some (.agg #[.int .i64 0, .int .i64 0, .slice none 0 0]), 3, 40) := by kernel_rfl
theorem Twords_info : (Tryd.prog.info? 29).map (fun i => (i.zero, i.size, i.bytes)) = some (some (.slice none 0 0), 1, 24) := by kernel_rfl
theorem inW_any (z lo hi : Int) (b : Bool) (hb : decide (lo ≤ z ∧ z ≤ hi) = b) (w : World) : Calls Tryd.prog 26 #[.int .i64 z, .int .i64 lo, .int .i64 hi] w fun e w' => e = .returned (.bool b) ∧ w = w' := by
  rw [← hb]
  by_cases h0 : lo ≤ z
  · by_cases h1 : z ≤ hi
    · rw [decide_eq_true (show lo ≤ z ∧ z ≤ hi from ⟨h0, h1⟩)]
      go_enter Tryd.func26, Tryd.ntmps26
      go_wp2
      go_ret
      exact ⟨rfl, rfl⟩
    · rw [decide_eq_false (show ¬ (lo ≤ z ∧ z ≤ hi) from fun h => h1 h.2)]
      go_enter Tryd.func26, Tryd.ntmps26
      go_wp2
      go_ret
      exact ⟨rfl, rfl⟩
  · rw [decide_eq_false (show ¬ (lo ≤ z ∧ z ≤ hi) from fun h => h0 h.1)]
    go_enter Tryd.func26, Tryd.ntmps26
    go_wp2
    go_ret
    exact ⟨rfl, rfl⟩
set_option maxHeartbeats 4000000 in
theorem set_sl {F : Nat → Prop} {v : Value} {n i : Nat} {Ps : List Pd} {P : Pd} {z : Int} (w : World) (hF : ∀ b, F b → b < w.heap.size) (hst : ∀ Q ∈ Ps, Stb Q) (hP : Stb P) (h : SL n Ps F w v) (hn : Ps.length = n) (hi : i < n) (h8 : n ≤ 1000) (hx : P F w (.int .i64 z)) :
    Calls Tryd.prog 27 #[v, .int .i64 i, .int .i64 z] w fun e w' => ∃ A c, e = .returned (.slice A n c) ∧ SL n (Ps.set i P) F w' (.slice A n c) ∧ Below w.heap.size w w' := by
  obtain ⟨i0, hi0, hz0, hz1, hz2⟩ := info_parts Tint_info
  obtain ⟨A, c, rfl⟩ := h.form
  obtain ⟨b, o, rfl, hb, hnf, us, hul, hcell, hus⟩ := h.vals (by omega)
  have huone : ∀ u ∈ us, u.oneCell' = true := fun u hu => by
    obtain ⟨j, hj⟩ := List.mem_iff_getElem?.1 hu
    have hjl : j < Ps.length := by have := (List.getElem?_eq_some_iff.1 hj).1; omega
    obtain ⟨u2, h2, h3⟩ := hus j Ps[j] (List.getElem?_eq_getElem hjl)
    rw [hj] at h2
    rw [Option.some.inj h2]
    exact (hst _ (List.getElem_mem hjl)).one h3
  have hiI : (i : Int) < n := by omega
  have hn0 : 0 < n := by omega
  have HC := Lib.hid hcell
  have HU := Lib.hid (show us.length = n by omega)
  have HO1 := Lib.hid huone
  have HI := Lib.hid hi
  have HFIN := Lib.hid (show ∀ w2 (q cap : Nat), w2.ownsRow w.heap.size 3 1 (.slice (some ⟨q, 0, none⟩) n cap) n (us.set i (.int .i64 z)) → Below w.heap.size w w2 → SL n (Ps.set i P) F w2 (.slice (some ⟨q, 0, none⟩) n cap) from fun w2 q cap ho hb2 => by
    refine SL.own ho hF (by rw [List.length_set, List.length_set, hul]) (by rw [List.length_set]; omega) fun j Q hQ => ?_
    by_cases e : i = j
    · subst e
      rw [List.getElem?_set_self (by omega)] at hQ
      rw [← Option.some.inj hQ]
      exact ⟨_, List.getElem?_set_self (by omega), hP.below hb2 hx⟩
    · rw [List.getElem?_set_ne e] at hQ
      obtain ⟨u, h1, h2⟩ := hus j Q hQ
      exact ⟨u, by rw [List.getElem?_set_ne e]; exact h1, (hst Q (List.mem_of_getElem? hQ)).below hb2 h2⟩)
  clear hcell huone hus hul h hx hst hP hF hnf hb hn hi
  go_enter Tryd.func27, Tryd.ntmps27
  go_upto_region 3 with (at_builtin; refine wpList_append_lies _ rfl (.tmp 8) (.tmp 9) 30 rfl w.heap.size 3 i0 (.int .i64 0) 1 8 Tryd.underlying30 hi0 hz0 hz1 hz2 rfl (by omega) (.slice none 0 0) 0 [] rfl (World.ownsRow_nil _ _ _ _) ⟨b, o, none⟩ n c us rfl (by rw [HU.out]; omega) HC.out HO1.out hn0 (by unfold maxLen; omega) (by omega) (Nat.le_refl _) w.heap.size rfl ?_; intro q cap w1 hown hgrow hat hlt; have HO := Lib.hid hown; have HG := Lib.hid hgrow; clear hown hgrow hat hlt)
  have ho : w1.ownsRow w.heap.size 3 1 (.slice (some ⟨q, 0, none⟩) n cap) n us := by have := HO.out; rwa [Nat.zero_add, List.nil_append] at this
  have hb1 : Below w.heap.size w w1 := (Below.refl w.heap.size w).grown HG.out (Nat.le_refl _) fun k hk => by cases hk
  have hq : w.heap.size ≤ q := (ho.lt q rfl).1
  obtain ⟨y, hy⟩ : ∃ y, us[i]? = some y := ⟨us[i]'(by have := HI.out; have := HU.out; omega), List.getElem?_eq_getElem _⟩
  have hqc : w1.cell? ⟨q, i, none⟩ = some y := by
    rw [ho.cellAt i (by have := HI.out; omega)]; exact hy
  have hqf : w1.frozen? ⟨q, i, none⟩ = false := ho.frozenAt i
  have HB := Lib.hid (hb1.setCell (p := ⟨q, i, none⟩) hq (.int .i64 z))
  have HS := Lib.hid (HFIN.out _ q cap (ho.stored i (.int .i64 z)).1 HB.out)
  clear ho hb1 hq hy HO HG HC
  go_wp2
  go_ret
  exact ⟨_, _, rfl, HS.out, HB.out⟩
set_option maxHeartbeats 4000000 in
theorem rows_sl {F : Nat → Prop} {v : Value} {n i : Nat} {Ps : List Pd} {P : Pd} {Ax : Option Addr} {mx cx : Nat} (w : World) (hF : ∀ b, F b → b < w.heap.size) (hst : ∀ Q ∈ Ps, Stb Q) (hP : Stb P) (h : SL n Ps F w v) (hn : Ps.length = n) (hi : i < n) (h8 : n ≤ 1000) (hx : P F w (.slice Ax mx cx)) :
    Calls Tryd.prog 29 #[v, .int .i64 i, .slice Ax mx cx] w fun e w' => ∃ A c, e = .returned (.slice A n c) ∧ SL n (Ps.set i P) F w' (.slice A n c) ∧ Below w.heap.size w w' := by
  obtain ⟨i0, hi0, hz0, hz1, hz2⟩ := info_parts Tnums_info
  obtain ⟨A, c, rfl⟩ := h.form
  obtain ⟨b, o, rfl, hb, hnf, us, hul, hcell, hus⟩ := h.vals (by omega)
  have huone : ∀ u ∈ us, u.oneCell' = true := fun u hu => by
    obtain ⟨j, hj⟩ := List.mem_iff_getElem?.1 hu
    have hjl : j < Ps.length := by have := (List.getElem?_eq_some_iff.1 hj).1; omega
    obtain ⟨u2, h2, h3⟩ := hus j Ps[j] (List.getElem?_eq_getElem hjl)
    rw [hj] at h2
    rw [Option.some.inj h2]
    exact (hst _ (List.getElem_mem hjl)).one h3
  have hiI : (i : Int) < n := by omega
  have hn0 : 0 < n := by omega
  have HC := Lib.hid hcell
  have HU := Lib.hid (show us.length = n by omega)
  have HO1 := Lib.hid huone
  have HI := Lib.hid hi
  have HFIN := Lib.hid (show ∀ w2 (q cap : Nat), w2.ownsRow w.heap.size 30 1 (.slice (some ⟨q, 0, none⟩) n cap) n (us.set i (.slice Ax mx cx)) → Below w.heap.size w w2 → SL n (Ps.set i P) F w2 (.slice (some ⟨q, 0, none⟩) n cap) from fun w2 q cap ho hb2 => by
    refine SL.own ho hF (by rw [List.length_set, List.length_set, hul]) (by rw [List.length_set]; omega) fun j Q hQ => ?_
    by_cases e : i = j
    · subst e
      rw [List.getElem?_set_self (by omega)] at hQ
      rw [← Option.some.inj hQ]
      exact ⟨_, List.getElem?_set_self (by omega), hP.below hb2 hx⟩
    · rw [List.getElem?_set_ne e] at hQ
      obtain ⟨u, h1, h2⟩ := hus j Q hQ
      exact ⟨u, by rw [List.getElem?_set_ne e]; exact h1, (hst Q (List.mem_of_getElem? hQ)).below hb2 h2⟩)
  clear hcell huone hus hul h hx hst hP hF hnf hb hn hi
  go_enter Tryd.func29, Tryd.ntmps29
  go_upto_region 3 with (at_builtin; refine wpList_append_lies _ rfl (.tmp 8) (.tmp 9) 22 rfl w.heap.size 30 i0 (.slice none 0 0) 1 24 Tryd.underlying22 hi0 hz0 hz1 hz2 rfl (by omega) (.slice none 0 0) 0 [] rfl (World.ownsRow_nil _ _ _ _) ⟨b, o, none⟩ n c us rfl (by rw [HU.out]; omega) HC.out HO1.out hn0 (by unfold maxLen; omega) (by omega) (Nat.le_refl _) w.heap.size rfl ?_; intro q cap w1 hown hgrow hat hlt; have HO := Lib.hid hown; have HG := Lib.hid hgrow; clear hown hgrow hat hlt)
  have ho : w1.ownsRow w.heap.size 30 1 (.slice (some ⟨q, 0, none⟩) n cap) n us := by have := HO.out; rwa [Nat.zero_add, List.nil_append] at this
  have hb1 : Below w.heap.size w w1 := (Below.refl w.heap.size w).grown HG.out (Nat.le_refl _) fun k hk => by cases hk
  have hq : w.heap.size ≤ q := (ho.lt q rfl).1
  obtain ⟨y, hy⟩ : ∃ y, us[i]? = some y := ⟨us[i]'(by have := HI.out; have := HU.out; omega), List.getElem?_eq_getElem _⟩
  have hqc : w1.cell? ⟨q, i, none⟩ = some y := by
    rw [ho.cellAt i (by have := HI.out; omega)]; exact hy
  have hqf : w1.frozen? ⟨q, i, none⟩ = false := ho.frozenAt i
  have HB := Lib.hid (hb1.setCell (p := ⟨q, i, none⟩) hq (.slice Ax mx cx))
  have HS := Lib.hid (HFIN.out _ q cap (ho.stored i (.slice Ax mx cx)).1 HB.out)
  clear ho hb1 hq hy HO HG HC
  go_wp2
  go_ret
  exact ⟨_, _, rfl, HS.out, HB.out⟩
set_option maxHeartbeats 4000000 in
theorem reads_sl {F : Nat → Prop} {v : Value} {n i : Nat} {Ps : List Pd} {P : Pd} {Ax : Option Addr} {mx cx : Nat} (w : World) (hF : ∀ b, F b → b < w.heap.size) (hst : ∀ Q ∈ Ps, Stb Q) (hP : Stb P) (h : SL n Ps F w v) (hn : Ps.length = n) (hi : i < n) (h8 : n ≤ 1000) (hx : P F w (.slice Ax mx cx)) :
    Calls Tryd.prog 28 #[v, .int .i64 i, .slice Ax mx cx] w fun e w' => ∃ A c, e = .returned (.slice A n c) ∧ SL n (Ps.set i P) F w' (.slice A n c) ∧ Below w.heap.size w w' := by
  obtain ⟨i0, hi0, hz0, hz1, hz2⟩ := info_parts Twords_info
  obtain ⟨A, c, rfl⟩ := h.form
  obtain ⟨b, o, rfl, hb, hnf, us, hul, hcell, hus⟩ := h.vals (by omega)
  have huone : ∀ u ∈ us, u.oneCell' = true := fun u hu => by
    obtain ⟨j, hj⟩ := List.mem_iff_getElem?.1 hu
    have hjl : j < Ps.length := by have := (List.getElem?_eq_some_iff.1 hj).1; omega
    obtain ⟨u2, h2, h3⟩ := hus j Ps[j] (List.getElem?_eq_getElem hjl)
    rw [hj] at h2
    rw [Option.some.inj h2]
    exact (hst _ (List.getElem_mem hjl)).one h3
  have hiI : (i : Int) < n := by omega
  have hn0 : 0 < n := by omega
  have HC := Lib.hid hcell
  have HU := Lib.hid (show us.length = n by omega)
  have HO1 := Lib.hid huone
  have HI := Lib.hid hi
  have HFIN := Lib.hid (show ∀ w2 (q cap : Nat), w2.ownsRow w.heap.size 29 1 (.slice (some ⟨q, 0, none⟩) n cap) n (us.set i (.slice Ax mx cx)) → Below w.heap.size w w2 → SL n (Ps.set i P) F w2 (.slice (some ⟨q, 0, none⟩) n cap) from fun w2 q cap ho hb2 => by
    refine SL.own ho hF (by rw [List.length_set, List.length_set, hul]) (by rw [List.length_set]; omega) fun j Q hQ => ?_
    by_cases e : i = j
    · subst e
      rw [List.getElem?_set_self (by omega)] at hQ
      rw [← Option.some.inj hQ]
      exact ⟨_, List.getElem?_set_self (by omega), hP.below hb2 hx⟩
    · rw [List.getElem?_set_ne e] at hQ
      obtain ⟨u, h1, h2⟩ := hus j Q hQ
      exact ⟨u, by rw [List.getElem?_set_ne e]; exact h1, (hst Q (List.mem_of_getElem? hQ)).below hb2 h2⟩)
  clear hcell huone hus hul h hx hst hP hF hnf hb hn hi
  go_enter Tryd.func28, Tryd.ntmps28
  go_upto_region 3 with (at_builtin; refine wpList_append_lies _ rfl (.tmp 8) (.tmp 9) 32 rfl w.heap.size 29 i0 (.slice none 0 0) 1 24 Tryd.underlying32 hi0 hz0 hz1 hz2 rfl (by omega) (.slice none 0 0) 0 [] rfl (World.ownsRow_nil _ _ _ _) ⟨b, o, none⟩ n c us rfl (by rw [HU.out]; omega) HC.out HO1.out hn0 (by unfold maxLen; omega) (by omega) (Nat.le_refl _) w.heap.size rfl ?_; intro q cap w1 hown hgrow hat hlt; have HO := Lib.hid hown; have HG := Lib.hid hgrow; clear hown hgrow hat hlt)
  have ho : w1.ownsRow w.heap.size 29 1 (.slice (some ⟨q, 0, none⟩) n cap) n us := by have := HO.out; rwa [Nat.zero_add, List.nil_append] at this
  have hb1 : Below w.heap.size w w1 := (Below.refl w.heap.size w).grown HG.out (Nat.le_refl _) fun k hk => by cases hk
  have hq : w.heap.size ≤ q := (ho.lt q rfl).1
  obtain ⟨y, hy⟩ : ∃ y, us[i]? = some y := ⟨us[i]'(by have := HI.out; have := HU.out; omega), List.getElem?_eq_getElem _⟩
  have hqc : w1.cell? ⟨q, i, none⟩ = some y := by
    rw [ho.cellAt i (by have := HI.out; omega)]; exact hy
  have hqf : w1.frozen? ⟨q, i, none⟩ = false := ho.frozenAt i
  have HB := Lib.hid (hb1.setCell (p := ⟨q, i, none⟩) hq (.slice Ax mx cx))
  have HS := Lib.hid (HFIN.out _ q cap (ho.stored i (.slice Ax mx cx)).1 HB.out)
  clear ho hb1 hq hy HO HG HC
  go_wp2
  go_ret
  exact ⟨_, _, rfl, HS.out, HB.out⟩
theorem three_cells {w : World} {g : Nat} {t : TypeId} {a b c : Value} (h : Block w g t #[a, b, c]) : ∀ j u, [a, b, c][j]? = some u → w.cell? ((⟨g, 0, none⟩ : Addr).add j) = some u := by
  intro j u hu
  rw [Addr.add_lit, h.cell, Nat.zero_add]
  match j, hu with
  | 0, hu => simpa using hu
  | 1, hu => simpa using hu
  | 2, hu => simpa using hu
set_option maxHeartbeats 4000000 in
theorem behind_sl {F : Nat → Prop} {v : Value} {n : Nat} {Ps : List Pd} {Q : Pd} {x y : Int} {Ax : Option Addr} {mx cx : Nat} (w : World) (hF : ∀ b, F b → b < w.heap.size) (hst : ∀ R ∈ Ps, Stb R) (hQ : Stb Q) (h : SL n Ps F w v) (hn : Ps.length = n * 3) (h8 : n ≤ 1000) (hx : Q F w (.slice Ax mx cx)) (hv : n = 0 → v = .slice none 0 0) :
    Calls Tryd.prog 31 #[v, .agg #[.int .i64 x, .int .i64 y, .slice Ax mx cx]] w fun e w' => ∃ A c, e = .returned (.slice A (n + 1) c) ∧ SL (n + 1) (Ps ++ [isInt x, isInt y, Q]) F w' (.slice A (n + 1) c) ∧ Below w.heap.size w w' := by
  obtain ⟨i0, hi0, hz0, hz1, hz2⟩ := info_parts Tword_info
  obtain ⟨W, hW⟩ : ∃ W, W = w.alloc (.cells #[.int .i64 x, .int .i64 y, .slice Ax mx cx] 48) := ⟨_, rfl⟩
  have hbW : Below w.heap.size w W := by rw [hW]; exact (Below.refl _ w).alloc (Nat.le_refl _) _
  have hbx : Block W w.heap.size 48 #[.int .i64 x, .int .i64 y, .slice Ax mx cx] := by rw [hW]; exact Block.made _ _ _
  have hfin : ∀ (us : List Value), us.length = Ps.length → (∀ (i : Nat) R, Ps[i]? = some R → ∃ u, us[i]? = some u ∧ R F w u) → ∀ w2 (q cap : Nat), w2.ownsRow w.heap.size 48 3 (.slice (some ⟨q, 0, none⟩) (n + 1) cap) (n + 1) (us ++ [.int .i64 x, .int .i64 y, .slice Ax mx cx]) → Below w.heap.size w w2 → SL (n + 1) (Ps ++ [isInt x, isInt y, Q]) F w2 (.slice (some ⟨q, 0, none⟩) (n + 1) cap) := fun us hul hus w2 q cap ho hb2 => by
    refine SL.own ho hF (by simp [hul]) (by simp) fun j R hR => ?_
    by_cases hj : j < Ps.length
    · rw [List.getElem?_append_left hj] at hR
      obtain ⟨u, h1, h2⟩ := hus j R hR
      exact ⟨u, by rw [List.getElem?_append_left (by omega)]; exact h1, (hst R (List.mem_of_getElem? hR)).below hb2 h2⟩
    · rw [List.getElem?_append_right (by omega)] at hR
      rw [List.getElem?_append_right (by omega), hul]
      match hk : j - Ps.length, hR with
      | 0, hR => simp at hR; subst hR; exact ⟨_, rfl, rfl⟩
      | 1, hR => simp at hR; subst hR; exact ⟨_, rfl, rfl⟩
      | 2, hR => simp at hR; subst hR; exact ⟨_, rfl, hQ.below hb2 hx⟩
  have q0 := hbx.cell 0
  have q1 := hbx.cell 1
  have q2 := hbx.cell 2
  simp at q0 q1 q2
  have HBW := Lib.hid hbW
  have HFIN := Lib.hid hfin
  have hsW := hbW.size
  clear hfin hbx hbW
  by_cases hn0 : n = 0
  · subst hn0
    obtain rfl := hv rfl
    have HUS := Lib.hid (HFIN.out [] (by simp; omega) (fun i R hR => by have := (List.getElem?_eq_some_iff.1 hR).1; omega))
    clear HFIN hst hQ h hn hx hv hF
    go_enter Tryd.func31, Tryd.ntmps31
    go_upto_region 1 with fail
    rw [← hW]
    clear hW
    go_wp2_with (first | (at_builtin; refine wpList_append_own_none rfl (.tmp 6) (.tmp 7) 29 rfl w.heap.size 48 i0 3 Tryd.underlying29 hi0 (.slice none 0 0) 0 [] rfl (World.ownsRow_nil _ _ _ _) rfl ?_) | (at_builtin; refine wpList_append_lies _ rfl (.tmp 9) (.tmp 11) 29 rfl w.heap.size 48 i0 (.agg #[.int .i64 0, .int .i64 0, .slice none 0 0]) 3 40 Tryd.underlying29 hi0 hz0 hz1 hz2 rfl (by omega) (.slice none 0 0) 0 [] rfl (World.ownsRow_nil _ _ _ _) ⟨W.heap.size, 0, none⟩ 1 1 [.int .i64 x, .int .i64 y, .slice Ax mx cx] rfl (by rfl) (three_cells (Block.made W _ _)) (by intro u hu; simp at hu; rcases hu with rfl | rfl | rfl <;> rfl) (by omega) (by unfold maxLen; omega) (by omega) (by simp; omega) (W.heap.size + 1) (by simp) ?_; intro q cap w2 hown hgrow hat hlt; have HO := Lib.hid hown; have HG := Lib.hid hgrow; clear hown hgrow hat hlt))
    have HB2 := Lib.hid ((HBW.out.alloc hsW _).grown HG.out (by simp; omega) fun k hk => by cases hk)
    go_ret
    exact ⟨_, _, rfl, HUS.out _ q cap HO.out HB2.out, HB2.out⟩
  · obtain ⟨A, c, rfl⟩ := h.form
    obtain ⟨b, o, rfl, hb, hnf, us, hul, hcell, hus⟩ := h.vals (by omega)
    have huone : ∀ u ∈ us, u.oneCell' = true := fun u hu => by
      obtain ⟨j, hj⟩ := List.mem_iff_getElem?.1 hu
      have hjl : j < Ps.length := by have := (List.getElem?_eq_some_iff.1 hj).1; omega
      obtain ⟨u2, h2, h3⟩ := hus j Ps[j] (List.getElem?_eq_getElem hjl)
      rw [hj] at h2
      rw [Option.some.inj h2]
      exact (hst _ (List.getElem_mem hjl)).one h3
    have hnp : 0 < n := by omega
    have HC := Lib.hid (show ∀ j u, us[j]? = some u → W.cell? ((⟨b, o, none⟩ : Addr).add j) = some u from fun j u hu => by
      have h1 := hcell j u hu
      rw [Addr.add_lit] at h1 ⊢
      exact (HBW.out.cell (p := ⟨b, o + j, none⟩) hb).trans h1)
    have HU := Lib.hid (show us.length = n * 3 by omega)
    have HO1 := Lib.hid huone
    have HUS := Lib.hid (HFIN.out us hul hus)
    clear hcell huone hus hul h hx hst hQ hF hnf hb hn hn0 HFIN hv
    go_enter Tryd.func31, Tryd.ntmps31
    go_upto_region 1 with fail
    rw [← hW]
    clear hW
    go_upto_region 3 with (at_builtin; refine wpList_append_lies _ rfl (.tmp 6) (.tmp 7) 29 rfl w.heap.size 48 i0 (.agg #[.int .i64 0, .int .i64 0, .slice none 0 0]) 3 40 Tryd.underlying29 hi0 hz0 hz1 hz2 rfl (by omega) (.slice none 0 0) 0 [] rfl (World.ownsRow_nil _ _ _ _) ⟨b, o, none⟩ n c us rfl (by rw [HU.out]) HC.out HO1.out hnp (by unfold maxLen; omega) (by omega) hsW W.heap.size rfl ?_; intro q cap w1 hown hgrow hat hlt; have HO := Lib.hid hown; have HG := Lib.hid hgrow; clear hown hgrow hat hlt)
    have ho : w1.ownsRow w.heap.size 48 3 (.slice (some ⟨q, 0, none⟩) n cap) n us := by have := HO.out; rwa [Nat.zero_add, List.nil_append] at this
    have hb1 : Below w.heap.size w w1 := HBW.out.grown HG.out hsW fun k hk => by cases hk
    have hWW : Below W.heap.size W w1 := (Below.refl W.heap.size W).grown HG.out (Nat.le_refl _) fun k hk => by cases hk
    have hlt := lt_of_cell q0
    have p0 := (hWW.cell (p := ⟨w.heap.size, 0, none⟩) hlt).trans q0
    have p1 := (hWW.cell (p := ⟨w.heap.size, 1, none⟩) hlt).trans q1
    have p2 := (hWW.cell (p := ⟨w.heap.size, 2, none⟩) hlt).trans q2
    have HO2 := Lib.hid ho
    have HB1 := Lib.hid hb1
    have hs1 := hb1.size
    clear ho hb1 hWW HO HG HC q0 q1 q2 hlt
    go_wp2_with (at_builtin; refine wpList_append_lies _ rfl (.tmp 9) (.tmp 11) 29 rfl w.heap.size 48 i0 (.agg #[.int .i64 0, .int .i64 0, .slice none 0 0]) 3 40 Tryd.underlying29 hi0 hz0 hz1 hz2 rfl (by omega) (.slice (some ⟨q, 0, none⟩) n cap) n us rfl (HO2.out.alloc _) ⟨w1.heap.size, 0, none⟩ 1 1 [.int .i64 x, .int .i64 y, .slice Ax mx cx] rfl (by rfl) (three_cells (Block.made w1 _ _)) (by intro u hu; simp at hu; rcases hu with rfl | rfl | rfl <;> rfl) (by omega) (by unfold maxLen; omega) (by omega) (by simp; omega) (w1.heap.size + 1) (by simp) ?_; intro q2 cap2 w2 hown hgrow hat hlt; have HO := Lib.hid hown; have HG := Lib.hid hgrow; clear hown hgrow hat hlt)
    have HB2 := Lib.hid ((HB1.out.alloc hs1 _).grown HG.out (by simp; omega) fun k hk => (HO2.out.lt k hk).1)
    go_ret
    exact ⟨_, _, rfl, HUS.out _ q2 cap2 HO.out HB2.out, HB2.out⟩
end Go.Proofs.YtnplhjbbkccdnaaDoor
