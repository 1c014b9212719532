/-
  Package univ: what Begin, Step, At and Order answer.
-/
import Derived.Test.YtegplglokaoemaaDoorUniv
import Derived.Laws.OwnMore
import Derived.Laws.MakeOwn
import Derived.StillTailTactics
import Derived.Lib.SliceRun
namespace Go.Proofs.YtegplglokaoemaaDoor.Univ
open Go.RowKit

theorem TintI.info : (Tryd.prog.info? 3).map (fun i => (i.zero, i.size, i.bytes)) = some (some (.int .i64 0), 1, 8) := by kernel_rfl
theorem nums_of_lk {w : World} {base : Nat} {v : Value} {zs : List Int} (h : w.ownsRow base 3 1 v zs.length (zs.map (Value.int .i64))) (hm : zs.length ≤ 9223372036854775807) : Nums w w.heap.size v zs := by
  rcases h.2 with ⟨rfl, h0⟩ | ⟨g, cap, cur, rfl, hb, hh, hc, _, hsz, htk⟩
  · exact ⟨none, 0, by rw [h0], by omega, fun hlt => by omega⟩
  · refine ⟨_, _, rfl, hm, fun h0 => ⟨g, 0, rfl, (h.lt g rfl).2, fun i z hz => ?_⟩⟩
    have hB : Block w g 3 cur := hh
    rw [hB.cell]
    have hi : i < zs.length := (List.getElem?_eq_some_iff.1 hz).1
    have h2 : (cur.toList.take (zs.length * 1))[i]? = some (.int .i64 z) := by rw [htk, List.getElem?_map, hz]; rfl
    rw [List.getElem?_take, if_pos (by omega)] at h2
    simpa using h2
set_option maxHeartbeats 4000000 in
set_option maxRecDepth 100000 in
theorem clone_any {g o c : Nat} {zs : List Int} (w : World) (h0 : 0 < zs.length) (h8 : zs.length ≤ 1000) (hg : g < w.heap.size)
    (hc : ∀ j u, (zs.map (Value.int .i64))[j]? = some u → w.cell? ((⟨g, o, none⟩ : Addr).add j) = some u) :
    Calls Tryd.prog 22 #[.slice (some ⟨g, o, none⟩) zs.length c] w fun e w' => ∃ v, e = .returned v ∧ Nums w' w'.heap.size v zs ∧ Below w.heap.size w w' := by
  obtain ⟨i0, hi0, hz0, hz1, hz2⟩ := info_parts TintI.info
  have heq : ∀ W : World, (binOp .eql 29 (.slice (some ⟨g, o, none⟩) zs.length c) (.slice none 0 0)).run Tryd.prog W = .ok (.bool false) W := fun W => Lib.run_eql_slice_nil W 29 3 _ _ _ _ _ Tryd.underlying29
  have hcells : ∀ j u, (zs.map (Value.int .i64))[j]? = some u → (w.alloc (.cells #[] 3)).cell? ((⟨g, o, none⟩ : Addr).add j) = some u := fun j u hu =>
    (((Below.refl w.heap.size w).alloc (Nat.le_refl _) (.cells #[] 3)).cell (p := (⟨g, o, none⟩ : Addr).add j) (by unfold Addr.add; split <;> exact hg)).trans (hc j u hu)
  have HC := Lib.hid hcells
  have HB := Lib.hid ((Below.refl w.heap.size w).alloc (Nat.le_refl _) (.cells #[] 3))
  have HA := Lib.hid (World.ownsRow_made (base := w.heap.size) (e := 3) (size := 1) w #[] 0 (Nat.le_refl _) (Nat.zero_le _) rfl)
  clear hc hcells hg
  go_enter Tryd.func22, Tryd.ntmps22
  go_wp2_with (at_builtin; refine wpList_append_own _ rfl _ _ 29 rfl w.heap.size 3 i0 (.int .i64 0) 1 8 Tryd.underlying29 hi0 hz0 hz1 hz2 rfl (by decide) _ _ _ rfl HA.out ⟨g, o, none⟩ zs.length c (zs.map (Value.int .i64)) rfl (by simp) HC.out (by intro u hu; obtain ⟨z, _, rfl⟩ := List.mem_map.1 hu; rfl) (by unfold maxLen; omega) (by omega) (by simp) ?_; intro v w1 hown hgr hnn)
  go_ret
  refine ⟨v, rfl, nums_of_lk (zs := zs) (by simpa using hown) (by omega), ?_⟩
  exact HB.out.grown hgr (by simp) (fun q hq => (by have := Option.some.inj (show some w.heap.size = some q from hq); omega))


/-- What holds of the numbers of a row. -/
structure Loc (n : Nat) (v : US) : Prop where
  m : v.m ≤ 40
  k : v.k ≤ 40
  ln : ∀ p, p < n → (v.h p).a ≤ 2
  c : ∀ p, p < n → (v.h p).a ≠ 0 → (v.h p).c < 40
  d : ∀ p, p < n → (v.h p).a = 2 → v.cell (v.h p).c < 40
  s : ∀ p, p < n → (v.h p).a ≠ 0 → (v.h p).s ≤ 100000
  x : ∀ i, v.add i ≤ 1000
theorem dec_step {v : US} {p : Nat} (h : (v.h p).a = 1) : udec v p = ustep v p := by
  by_cases hb : (v.h p).c = v.m
  · have hu : unew1 v p := ⟨h, hb⟩
    refine us_ext (funext fun q => ?_) ?_ ?_ ?_ ?_
    · by_cases e : q = p
      · subst e; simp [udec, hb, ustep, putA, putM, putCell, uput, uone, h]
      · simp [udec, hb, ustep, putA, putM, putCell, uput, e]
    all_goals simp [udec, hb, ustep, hu, putA, putM, putCell]
  · have hu : ¬ unew1 v p := fun h => hb h.2
    refine us_ext (funext fun q => ?_) ?_ ?_ ?_ ?_
    · by_cases e : q = p
      · subst e; simp [udec, hb, ustep, putA, uput, uone, h]
      · simp [udec, hb, ustep, putA, uput, e]
    all_goals simp [udec, hb, ustep, hu, putA]
theorem pas_step {v : US} {p : Nat} (h : (v.h p).a = 2) (hb : v.cell (v.h p).c ≠ (v.h p).e) : upas v p = ustep v p := by
  have hu : ¬ unew1 v p := fun h2 => by have := h2.1; omega
  refine us_ext (funext fun q => ?_) ?_ ?_ ?_ ?_
  · by_cases e : q = p
    · subst e; simp [upas, ustep, putA, putC, putS, uput, uone, h, hb]
    · simp [upas, ustep, putA, putC, putS, uput, e]
  all_goals simp [upas, ustep, hu, putA, putC, putS]
theorem end_step {v : US} {p : Nat} (h : (v.h p).a = 2) (hb : v.cell (v.h p).c = (v.h p).e) : putS (putC (putE (putA v p 0) p 0) p 0) p 0 = ustep v p := by
  have hu : ¬ unew1 v p := fun h2 => by have := h2.1; omega
  refine us_ext (funext fun q => ?_) ?_ ?_ ?_ ?_
  · by_cases e : q = p
    · subst e; simp [ustep, putA, putC, putS, putE, uput, uone, h, hb]
    · simp [ustep, putA, putC, putS, putE, uput, e]
  all_goals simp [ustep, hu, putA, putC, putS, putE]
theorem beg_step (v : US) (p x : Nat) : putK (putAdd (putS (putC (putE (putA v p 1) p v.k) p 0) p 0) v.k x) (v.k + 1) = ubeg v p x := by
  refine us_ext (funext fun q => ?_) ?_ ?_ ?_ ?_
  · by_cases e : q = p
    · subst e; simp [ubeg, putA, putC, putS, putE, putK, putAdd, uput]
    · simp [ubeg, putA, putC, putS, putE, putK, putAdd, uput, e]
  all_goals simp [ubeg, putA, putC, putS, putE, putK, putAdd]

/-- The error of Begin; the row behind it. -/
def begE (n : Nat) (v : US) (p x : Int) : Int :=
  if ¬ (0 ≤ p ∧ p < n) ∨ x < 0 ∨ 1000 < x then 1 else if (v.h p.toNat).a ≠ 0 then 7 else if v.k = 40 then 4 else 0
def begS (n : Nat) (v : US) (p x : Int) : US := if begE n v p x = 0 then ubeg v p.toNat x.toNat else v
set_option maxHeartbeats 4000000 in
theorem begin_any {g n : Nat} {v : US} (w : World) (hk : Lk w g n v) (hn : n ≤ 4) (hl : Loc n v) (p x : Int) :
    Calls Tryd.prog 8 #[.pointer (some ⟨g, 0, none⟩), .int .i64 p, .int .i64 x] w fun e w' =>
      e = .returned (errV 44 (begE n v p x)) ∧ Lk w' g n (begS n v p x) ∧ Touch (fun k => k = g) w w' := by
  have HI := Lib.hid (isHand_any p w hk.num)
  by_cases hp : 0 ≤ p ∧ p < n
  · rw [decide_eq_true hp] at HI
    by_cases hx0 : x < 0
    · have he : begE n v p x = 1 := by unfold begE; rw [if_pos (by omega)]
      rw [begS, he, if_neg (by omega)]
      clear hp he hl
      go_enter Tryd.func8, Tryd.ntmps8
      go_wp2_with (go_at_call 18; refine HI.out.mono ?_; rintro e w' ⟨rfl, rfl⟩)
      go_ret
      exact ⟨rfl, hk, Touch.refl _ _⟩
    by_cases hx1 : 1000 < x
    · have he : begE n v p x = 1 := by unfold begE; rw [if_pos (by omega)]
      rw [begS, he, if_neg (by omega)]
      clear hp he hl
      go_enter Tryd.func8, Tryd.ntmps8
      go_wp2_with (go_at_call 18; refine HI.out.mono ?_; rintro e w' ⟨rfl, rfl⟩)
      go_ret
      exact ⟨rfl, hk, Touch.refl _ _⟩
    obtain ⟨q, rfl⟩ := Int.eq_ofNat_of_zero_le hp.1
    obtain ⟨y, rfl⟩ := Int.eq_ofNat_of_zero_le (show 0 ≤ x by omega)
    have hq : q < n := by omega
    have hq4 : q < 4 := by omega
    have hp4 : (q : Int) < 4 := by omega
    have hca := hk.xa hq4
    have he : begE n v q y = if (v.h q).a ≠ 0 then 7 else if v.k = 40 then 4 else 0 := by unfold begE; rw [if_neg (by omega)]; rfl
    by_cases ha : (v.h q).a = 0
    · rw [if_neg (by omega)] at he
      have hck := hk.xk
      rw [ha] at hca
      by_cases h40 : v.k = 40
      · rw [if_pos h40] at he
        rw [begS, he, if_neg (by omega)]
        rw [h40] at hck
        have HK := Lib.hid hk
        clear hp he hl ha hk
        go_enter Tryd.func8, Tryd.ntmps8
        go_wp2_with (go_at_call 18; refine HI.out.mono ?_; rintro e w' ⟨rfl, rfl⟩)
        go_ret
        exact ⟨rfl, HK.out, Touch.refl _ _⟩
      · rw [if_neg h40] at he
        rw [begS, he, if_pos rfl]
        have hk40 : v.k < 40 := by have := hl.k; omega
        have hkI : (v.k : Int) < 40 := by omega
        have hb40 : ((v.k : Int) == 40) = false := by simp; omega
        have hcx := hk.xadd hk40
        have hce := hk.xe hq4
        have hcc := hk.xc hq4
        have hcs := hk.xs hq4
        have hw : IntKind.i64.wrap ((v.k : Int) + 1) = ((v.k + 1 : Nat) : Int) := (IntWalk.i64_in _ (by omega)).trans (by omega)
        have f1 := hk.free 1
        have f2 := hk.free (2 + v.k)
        have f3 := hk.free (83 + q * 4)
        have f4 := hk.free (83 + q * 4 + 1)
        have f5 := hk.free (83 + q * 4 + 2)
        have f6 := hk.free (83 + q * 4 + 3)
        have h1 := ((((hk.setA hq4 1).setE hq4 v.k).setC hq4 0).setS hq4 0)
        have H3 := Lib.hid ((h1.setAdd (i := v.k) hk40 y).setK (v.k + 1))
        have HV := Lib.hid (beg_step v q y)
        clear hp he hl ha h40 hk40 hk h1
        go_enter Tryd.func8, Tryd.ntmps8
        go_wp2_with (go_at_call 18; refine HI.out.mono ?_; rintro e w' ⟨rfl, rfl⟩)
        go_region_with fail
        all_goals
          go_wp2_with fail
          go_region_with fail
        all_goals
          go_wp2
          go_ret
          refine ⟨rfl, ?_, ((((((((Touch.refl (fun k => k = g) w).setCell (Or.inl rfl) _).setCell (Or.inl rfl) _).setCell (Or.inl rfl) _).setCell (Or.inl rfl) _).setCell (Or.inl rfl) _).setCell (Or.inl rfl) _).drew).drew⟩
          have h := H3.out
          rw [HV.out] at h
          exact h.drew.drew
    · rw [if_pos ha] at he
      rw [begS, he, if_neg (by omega)]
      have hI : (((v.h q).a : Int) != 0) = true := by simp; omega
      have HK := Lib.hid hk
      clear hp he hl ha hk
      go_enter Tryd.func8, Tryd.ntmps8
      go_wp2_with (go_at_call 18; refine HI.out.mono ?_; rintro e w' ⟨rfl, rfl⟩)
      go_ret
      exact ⟨rfl, HK.out, Touch.refl _ _⟩
  · rw [decide_eq_false hp] at HI
    have he : begE n v p x = 1 := by unfold begE; rw [if_pos (by omega)]
    rw [begS, he, if_neg (by omega)]
    clear hp he hl
    go_enter Tryd.func8, Tryd.ntmps8
    go_wp2_with (go_at_call 18; refine HI.out.mono ?_; rintro e w' ⟨rfl, rfl⟩)
    go_ret
    exact ⟨rfl, hk, Touch.refl _ _⟩

theorem beg_none {n : Nat} {v : US} {p x : Int} (h : begE n v p x ≠ 0) : begS n v p x = v := by rw [begS, if_neg h]
theorem beg_some {n : Nat} {v : US} {p x : Int} (h : begE n v p x = 0) : ∃ q y : Nat, p = (q : Int) ∧ x = (y : Int) ∧ q < n ∧ y ≤ 1000 ∧ (v.h q).a = 0 ∧ v.k ≠ 40 ∧ begS n v p x = ubeg v q y := by
  rw [begS, if_pos h]
  unfold begE at h
  split at h
  · omega
  · rename_i h1
    split at h
    · omega
    · rename_i h2
      split at h
      · omega
      · rename_i h3
        refine ⟨p.toNat, x.toNat, by omega, by omega, by omega, by omega, by omega, h3, rfl⟩
theorem beg_err {n : Nat} {v : US} {p x : Int} : begE n v p x = 0 ∨ begE n v p x = 1 ∨ begE n v p x = 7 ∨ begE n v p x = 4 := by
  unfold begE; split
  · omega
  · split
    · omega
    · split <;> omega

/-- The error of Step; whether the deed is done; what it gets; the row behind it. -/
def stpE (n : Nat) (v : US) (p : Int) : Int := if ¬ (0 ≤ p ∧ p < n) then 1 else if (v.h p.toNat).a = 0 then 7 else 0
def stpD (n : Nat) (v : US) (p : Int) : Bool := decide ((0 ≤ p ∧ p < n) ∧ (v.h p.toNat).a ≠ 0 ∧ ulast v p.toNat)
def stpG (n : Nat) (v : US) (p : Int) : Nat := if stpD n v p = true then (v.h p.toNat).s else 0
def stpS (n : Nat) (v : US) (p : Int) : US := if stpE n v p = 0 then ustep v p.toNat else v
set_option maxHeartbeats 4000000 in
theorem step_any {g n : Nat} {v : US} (w : World) (hk : Lk w g n v) (hn : n ≤ 4) (hl : Loc n v) (p : Int) :
    Calls Tryd.prog 10 #[.pointer (some ⟨g, 0, none⟩), .int .i64 p] w fun e w' =>
      e = .returned (.tuple #[.bool (stpD n v p), .int .i64 (stpG n v p), errV 44 (stpE n v p)]) ∧ Lk w' g n (stpS n v p) ∧ Touch (fun k => k = g) w w' := by
  have HI := Lib.hid (isHand_any p w hk.num)
  by_cases hp : 0 ≤ p ∧ p < n
  · obtain ⟨q, rfl⟩ := Int.eq_ofNat_of_zero_le hp.1
    rw [decide_eq_true hp] at HI
    have hq : q < n := by omega
    have hq4 : q < 4 := by omega
    have hp4 : (q : Int) < 4 := by omega
    have hca := hk.xa hq4
    have ha2 := hl.ln q hq
    obtain ha | ha | ha : (v.h q).a = 0 ∨ (v.h q).a = 1 ∨ (v.h q).a = 2 := by omega
    · have he : stpE n v q = 7 := by unfold stpE; rw [if_neg (by omega), if_pos (by simpa using ha)]
      have hd : stpD n v q = false := decide_eq_false fun h => h.2.1 (by simpa using ha)
      have hg : stpG n v q = 0 := by rw [stpG, hd]; rfl
      rw [hg, hd, stpS, he, if_neg (by omega)]
      rw [ha] at hca
      have HK := Lib.hid hk
      clear hp hl ha ha2 he hd hg hk
      go_enter Tryd.func10, Tryd.ntmps10
      go_wp2_with (go_at_call 18; refine HI.out.mono ?_; rintro e w' ⟨rfl, rfl⟩)
      go_ret3
      exact ⟨rfl, HK.out, Touch.refl _ _⟩
    · have he : stpE n v q = 0 := by unfold stpE; rw [if_neg (by omega), if_neg (show ¬ (v.h (q : Int).toNat).a = 0 by simpa using (by omega : ¬ (v.h q).a = 0))]
      have hd : stpD n v q = false := decide_eq_false fun h => h.2.2.1 (by simpa using ha)
      have hg : stpG n v q = 0 := by rw [stpG, hd]; rfl
      rw [hg, hd, stpS, he, if_pos rfl]
      have HD := Lib.hid (decide_any w hk hq4 hl.m (hl.c q hq (by omega)))
      rw [dec_step ha] at HD
      rw [ha] at hca
      clear hp hl ha ha2 he hd hg hk
      go_enter Tryd.func10, Tryd.ntmps10
      go_wp2_with (first | (go_at_call 18; refine HI.out.mono ?_; rintro e w' ⟨rfl, rfl⟩) | (go_at_call 20; refine HD.out.mono ?_; rintro e w2 ⟨rfl, hk2, ht2⟩; have HK2 := Lib.hid hk2; have HT2 := Lib.hid ht2; clear hk2 ht2))
      go_ret3
      exact ⟨rfl, HK2.out, HT2.out⟩
    · have he : stpE n v q = 0 := by unfold stpE; rw [if_neg (by omega), if_neg (show ¬ (v.h (q : Int).toNat).a = 0 by simpa using (by omega : ¬ (v.h q).a = 0))]
      have hc := hl.c q hq (by omega)
      have hcI : ((v.h q).c : Int) < 40 := by omega
      have hcc := hk.xc hq4
      have hce := hk.xe hq4
      have hcs := hk.xs hq4
      have hcl := hk.xcell hc
      by_cases hb : v.cell (v.h q).c = (v.h q).e
      · have hd : stpD n v q = true := decide_eq_true ⟨hp, (show (v.h q).a ≠ 0 by omega), (show (v.h q).a ≠ 1 by omega), hb⟩
        have hg : stpG n v q = (v.h q).s := by rw [stpG, hd]; rfl
        rw [hg, hd, stpS, he, if_pos rfl]
        have hI : (((v.cell (v.h q).c : Nat) : Int) == ((v.h q).e : Int)) = true := by simp; omega
        have f3 := hk.free (83 + q * 4)
        have f4 := hk.free (83 + q * 4 + 1)
        have f5 := hk.free (83 + q * 4 + 2)
        have f6 := hk.free (83 + q * 4 + 3)
        have H3 := Lib.hid ((((hk.setA hq4 0).setE hq4 0).setC hq4 0).setS hq4 0)
        have HV := Lib.hid (end_step ha hb)
        rw [ha] at hca
        clear hp hl ha ha2 he hd hg hk hb hc
        go_enter Tryd.func10, Tryd.ntmps10
        go_wp2_with (first | (go_at_call 18; refine HI.out.mono ?_; rintro e w' ⟨rfl, rfl⟩))
        go_quiet (fail)
        go_wp2
        go_ret3
        refine ⟨rfl, ?_, (((((Touch.refl (fun k => k = g) w).drewN _).setCell (Or.inl rfl) _).setCell (Or.inl rfl) _).setCell (Or.inl rfl) _).setCell (Or.inl rfl) _⟩
        have h := H3.out
        rw [HV.out] at h
        exact h.drewN _
      · have hd : stpD n v q = false := decide_eq_false fun h => hb h.2.2.2
        have hg : stpG n v q = 0 := by rw [stpG, hd]; rfl
        rw [hg, hd, stpS, he, if_pos rfl]
        have hI : (((v.cell (v.h q).c : Nat) : Int) == ((v.h q).e : Int)) = false := by simp; omega
        have HD := Lib.hid (fun i => pass_any (w.drewN i) (hk.drewN i) hq4 hc (hl.d q hq ha) (hl.s q hq (by omega)) (hl.x _))
        rw [pas_step ha hb] at HD
        rw [ha] at hca
        clear hp hl ha ha2 he hd hg hk hb hc
        go_enter Tryd.func10, Tryd.ntmps10
        go_wp2_with (first | (go_at_call 18; refine HI.out.mono ?_; rintro e w' ⟨rfl, rfl⟩))
        go_quiet (fail)
        go_wp2_with (go_at_call 21; refine (HD.out _).mono ?_; rintro e w2 ⟨rfl, hk2, ht2⟩; have HK2 := Lib.hid hk2; have HT2 := Lib.hid ht2; clear hk2 ht2)
        go_ret3
        exact ⟨rfl, HK2.out, (Touch.refl (fun k => k = g) w).drewN _ |>.trans HT2.out fun _ h => Or.inl h⟩
  · rw [decide_eq_false hp] at HI
    have he : stpE n v p = 1 := by unfold stpE; rw [if_pos hp]
    have hd : stpD n v p = false := decide_eq_false fun h => hp h.1
    have hg : stpG n v p = 0 := by rw [stpG, hd]; rfl
    rw [hg, hd, stpS, he, if_neg (by omega)]
    have HK := Lib.hid hk
    clear hp hl he hd hg hk
    go_enter Tryd.func10, Tryd.ntmps10
    go_wp2_with (go_at_call 18; refine HI.out.mono ?_; rintro e w' ⟨rfl, rfl⟩)
    go_ret3
    exact ⟨rfl, HK.out, Touch.refl _ _⟩

/-- At which line a hand is; 0, if it is none. -/
def lkAt (n : Nat) (v : US) (p : Int) : Nat := if 0 ≤ p ∧ p < n then (v.h p.toNat).a else 0
theorem lkAt_in {n : Nat} {v : US} {p : Nat} (h : p < n) : lkAt n v p = (v.h p).a := by
  rw [lkAt, if_pos (by omega)]; rfl
set_option maxHeartbeats 4000000 in
theorem at_any {g n : Nat} {v : US} (w : World) (hk : Lk w g n v) (hn : n ≤ 4) (p : Int) :
    Calls Tryd.prog 11 #[.pointer (some ⟨g, 0, none⟩), .int .i64 p] w fun e w' => e = .returned (.int .i64 (lkAt n v p)) ∧ w = w' := by
  have HI := Lib.hid (isHand_any p w hk.num)
  by_cases hp : 0 ≤ p ∧ p < n
  · obtain ⟨q, rfl⟩ := Int.eq_ofNat_of_zero_le hp.1
    have hq : q < n := by omega
    have hp4 : (q : Int) < 4 := by omega
    rw [decide_eq_true hp] at HI
    have hca := hk.xa (show q < 4 by omega)
    rw [lkAt_in hq]
    clear hk hp
    go_enter Tryd.func11, Tryd.ntmps11
    go_wp2_with (go_at_call 18; refine HI.out.mono ?_; rintro e w' ⟨rfl, rfl⟩)
    go_ret
    exact ⟨rfl, rfl⟩
  · rw [decide_eq_false hp] at HI
    rw [lkAt, if_neg hp]
    clear hk hp
    go_enter Tryd.func11, Tryd.ntmps11
    go_wp2_with (go_at_call 18; refine HI.out.mono ?_; rintro e w' ⟨rfl, rfl⟩)
    go_ret
    exact ⟨rfl, rfl⟩

/-- The deeds of the cells that are decided. -/
def lkOrder (v : US) : List Int := (List.range v.m).map (fun i => ((v.cell i : Nat) : Int))
theorem lkOrder_len (v : US) : (lkOrder v).length = v.m := by simp [lkOrder]
theorem lkOrder_get {v : US} {i : Nat} (h : i < v.m) : (lkOrder v)[i]? = some ((v.cell i : Nat) : Int) := by
  simp [lkOrder, h]
theorem order_cells {w : World} {g n : Nat} {v : US} (h : Lk w g n v) (hm : v.m ≤ 40) :
    ∀ j u, ((lkOrder v).map (Value.int .i64))[j]? = some u → w.cell? ((⟨g, 43, none⟩ : Addr).add j) = some u := by
  intro j u hu
  have e : (⟨g, 43, none⟩ : Addr).add j = ⟨g, 43 + j, none⟩ := by
    unfold Addr.add
    split
    · rename_i e; subst e; rfl
    · rfl
  rw [e]
  rw [List.getElem?_map] at hu
  by_cases h1 : j < v.m
  · rw [lkOrder_get h1] at hu
    cases hu
    exact h.xcell (by omega)
  · rw [List.getElem?_eq_none (by rw [lkOrder_len]; omega)] at hu
    cases hu
set_option maxHeartbeats 4000000 in
set_option maxRecDepth 100000 in
/-- Of no cells at all. -/
theorem clone_none {g o c : Nat} (w : World) :
    Calls Tryd.prog 22 #[.slice (some ⟨g, o, none⟩) 0 c] w fun e w' => ∃ v, e = .returned v ∧ Nums w' w'.heap.size v [] ∧ Below w.heap.size w w' := by
  obtain ⟨i0, hi0, hz0, hz1, hz2⟩ := info_parts TintI.info
  have heq : ∀ W : World, (binOp .eql 29 (.slice (some ⟨g, o, none⟩) 0 c) (.slice none 0 0)).run Tryd.prog W = .ok (.bool false) W := fun W => Lib.run_eql_slice_nil W 29 3 _ _ _ _ _ Tryd.underlying29
  have HB := Lib.hid ((Below.refl w.heap.size w).alloc (Nat.le_refl _) (.cells #[] 3))
  have HA := Lib.hid (World.ownsRow_made (base := w.heap.size) (e := 3) (size := 1) w #[] 0 (Nat.le_refl _) (Nat.zero_le _) rfl)
  go_enter Tryd.func22, Tryd.ntmps22
  go_wp2_with (at_builtin; refine wpList_append_own _ rfl _ _ 29 rfl w.heap.size 3 i0 (.int .i64 0) 1 8 Tryd.underlying29 hi0 hz0 hz1 hz2 rfl (by decide) _ _ _ rfl HA.out ⟨g, o, none⟩ 0 c ([] : List Value) rfl (by simp) (by intro j u hu; simp at hu) (by simp) (by unfold maxLen; omega) (by omega) (by simp) ?_; intro v w1 hown hgr hnn)
  go_ret
  refine ⟨v, rfl, nums_of_lk (zs := []) (by simpa using hown) (by simp), ?_⟩
  exact HB.out.grown hgr (by simp) (fun q hq => (by have := Option.some.inj (show some w.heap.size = some q from hq); omega))
set_option maxHeartbeats 4000000 in
theorem order_any {g n : Nat} {v : US} (w : World) (hk : Lk w g n v) (hm : v.m ≤ 40) :
    Calls Tryd.prog 13 #[.pointer (some ⟨g, 0, none⟩)] w fun e w' => ∃ u, e = .returned u ∧ Nums w' w'.heap.size u (lkOrder v) ∧ Below w.heap.size w w' := by
  have hcm := hk.xm
  have hcl : ∀ w0 : World, Lk w0 g n v → Calls Tryd.prog 22 #[.slice (some ⟨g, 43, none⟩) v.m 40] w0 fun e w' => ∃ u, e = .returned u ∧ Nums w' w'.heap.size u (lkOrder v) ∧ Below w0.heap.size w0 w' := fun w0 h0 => by
    rcases Nat.eq_zero_or_pos v.m with hz | hz
    · have e : lkOrder v = [] := by rw [lkOrder, hz]; rfl
      rw [hz, e]; exact clone_none w0
    · have hlen := lkOrder_len v
      have := clone_any (o := 43) (c := 40) (zs := lkOrder v) w0 (by rw [hlen]; omega) (by rw [hlen]; omega) h0.lt (order_cells h0 hm)
      rwa [hlen] at this
  have HCL := Lib.hid hcl
  have HK := Lib.hid hk
  obtain ⟨N, hN⟩ : ∃ N, N = v.m := ⟨_, rfl⟩
  rw [← hN] at hcm
  rw [← hN] at HCL
  have hN40 : (N : Int) ≤ 40 := by omega
  clear hcl hk hN hm
  go_enter Tryd.func13, Tryd.ntmps13
  go_wp2_with fail
  go_region_with (go_at_call 22; refine (HCL.out _ HK.out.drew).mono ?_; rintro e w1 ⟨u, rfl, hv, hb⟩; have HV := Lib.hid hv; have HB := Lib.hid (below_undrew hb); clear hv hb)
  all_goals
    go_wp2
    go_ret
    exact ⟨u, rfl, HV.out, HB.out⟩
end Go.Proofs.YtegplglokaoemaaDoor.Univ
