/-
  latchgarthref4.Row; LinSays: what is wrong with any history, and whether it may have happened one by one.
-/
import Derived.Test.YtimdhnjkjflbdaaDoorLinKRest
import Derived.Test.YtimdhnjkjflbdaaDoorLinOps
import Derived.Test.YtimdhnjkjflbdaaDoorInts
import Derived.Test.YtimdhnjkjflbdaaDoorAs2
namespace Go.Proofs.YtimdhnjkjflbdaaDoor.Lin
open Go.RowKit

theorem lrst_lans {o : Nat} {h : List LO} (hf : LFine (o : Int) h) : (lrst o h.length (hops h) h.length [] (linit o)).length = h.length ∧ lrst o h.length (hops h) h.length [] (linit o) = (lans (o : Int) h).getD [] ∧ (lans (o : Int) h).isSome = true ∨
    (lrst o h.length (hops h) h.length [] (linit o)).length < h.length ∧ lans (o : Int) h = none := by
  rw [lans_fine hf]
  have e0 : lrow ((o : Int).toNat) h.length (hops h) = lsr o h.length (hops h) h.length [] (linit o) := rfl
  rw [e0]
  cases hr : lsr o h.length (hops h) h.length [] (linit o) with
  | none =>
    right
    have h1 := lrst_le (ob := o) (n := h.length) (h := hops h) (k := h.length) (told := []) (has := linit o) (by simp)
    have h3 : ¬ (lrst o h.length (hops h) h.length [] (linit o)).length = h.length := fun c => (lrst_len (by simp)).1 c hr
    exact ⟨by omega, rfl⟩
  | some r =>
    left
    refine ⟨(lrst_len (by simp)).2 (by rw [hr]; exact fun c => by cases c), ?_, rfl⟩
    unfold lrst
    rw [hr]
    rfl
/-- What latchgarthref4.Row answers. -/
def KRowT (o : Nat) (h : List LO) (e : Ending) (w' : World) : Prop := ∃ u, e = .returned (.tuple #[u, .bool (lans (o : Int) h).isSome]) ∧ Nums w' w'.heap.size u (lrowI (o : Int) h)
theorem krow_put {o : Nat} {h : List LO} (hf : LFine (o : Int) h) {u : Value} {w' : World} (hn : NumsC w' w'.heap.size u ((lrst o h.length (hops h) h.length [] (linit o)).map Int.ofNat)) (hl : (lrst o h.length (hops h) h.length [] (linit o)).length = h.length) :
    KRowT o h (.returned (.tuple #[u, .bool true])) w' := by
  rcases lrst_lans hf with ⟨_, h2, h3⟩ | ⟨h1, _⟩
  · refine ⟨u, by rw [h3], ?_⟩
    unfold lrowI
    rw [← h2]
    exact hn.nums
  · omega
theorem krow_not {o : Nat} {h : List LO} (hf : LFine (o : Int) h) {w' : World} (hl : (lrst o h.length (hops h) h.length [] (linit o)).length < h.length) :
    KRowT o h (.returned (.tuple #[.slice none 0 0, .bool false])) w' := by
  rcases lrst_lans hf with ⟨h1, _⟩ | ⟨_, h2⟩
  · omega
  · refine ⟨_, by rw [h2]; rfl, ?_⟩
    rw [lrowI_none h2]
    exact ⟨none, 0, rfl, by simp, fun c => by simp at c⟩
set_option maxHeartbeats 8000000 in
set_option maxRecDepth 100000 in
theorem krow_any (o : Nat) (h : List LO) (hf : LFine (o : Int) h) (v : Value) (w : World) (hh : Ops w w.heap.size v h) :
    Calls Tryd.prog 8 #[.int .i64 o, v] w fun e w' => KRowT o h e w' ∧ Below w.heap.size w w' := by
  obtain ⟨i0, hi0, hz0, hz1, hz2⟩ := info_parts Tint.info
  have ho2 : o ≤ 2 := by have := hf.o2; omega
  have hl8 := hf.len
  have HRS := Lib.hid (fun (W : World) (hb : Below w.heap.size w W) (hv : Value) (hn : NumsC W W.heap.size hv (linit o)) => rest_any o ho2 h hf v h.length [] (.slice none 0 0) hv W (by simp) List.nodup_nil (fun x hx => by cases hx) ((hh.below hb (Nat.le_refl _)).more hb.size) (NumsC.nil _ _ _ _ (by omega)) hn)
  have HFF := Lib.hid hf
  obtain ⟨LL, hLL⟩ : ∃ LL, LL = lrst o h.length (hops h) h.length [] (linit o) := ⟨_, rfl⟩
  have HRS := Lib.hid (show ∀ (W : World) (hb : Below w.heap.size w W) (hv : Value) (hn : NumsC W W.heap.size hv (linit o)), Calls Tryd.prog 17 #[.int .i64 o, v, .slice none 0 0, hv] W fun e w' => (∃ u, e = .returned u ∧ NumsC w' w'.heap.size u (LL.map Int.ofNat)) ∧ Below W.heap.size W w' from fun W hb hv hn => by rw [hLL]; exact HRS.out W hb hv hn)
  have HLL := Lib.hid hLL; clear hLL
  have HLE := Lib.hid (show LL.length ≤ h.length by rw [HLL.out]; exact lrst_le (by simp))
  obtain ⟨A, c, rfl, -, -⟩ := id hh
  clear hf hh
  by_cases h0 : o = 0
  · subst h0
    have HI0 := Lib.hid (show linit 0 = [0] from rfl)
    by_cases hl : LL.length = h.length
    · have d : decide ((LL.length : Int) < (h.length : Int)) = false := decide_eq_false (by omega)
      have d' : decide (LL.length < h.length) = false := decide_eq_false (by omega)
      have HL2 := Lib.hid hl
      clear hl
      rw [show ((0 : Nat) : Int) = 0 from rfl] at HRS ⊢
      go_enter Tryd.func8, Tryd.ntmps8
      go_wp2_with (first | (at_builtin; refine wpList_append_lies _ rfl (.tmp 10) (.tmp 11) 28 rfl w.heap.size 3 i0 (.int .i64 0) 1 8 Tryd.underlying28 hi0 hz0 hz1 hz2 rfl (by omega) (.slice none 0 0) 0 [] rfl (World.ownsRow_nil _ _ _ _) ⟨w.heap.size, 0, none⟩ 1 1 [.int .i64 0] rfl (by rfl) (one_cell (by simp)) (by intro u hu; simp at hu; subst hu; rfl) (by omega) (by unfold maxLen; omega) (by omega) (by simp) (w.heap.size + 1) (by simp) ?_; intro q cap w1 hown hgrow hat hlt; have HN1 := Lib.hid (HI0.out ▸ NumsC.own (zs := [0]) hown); have HB1 := Lib.hid (((Below.refl w.heap.size w).alloc (Nat.le_refl _) _).grown hgrow (by simp) fun k hk => by cases hk); clear hown hgrow hat hlt) | (go_at_call 17; (with_reducible refine (HRS.out _ HB1.out _ HN1.out).mono ?_); rintro e w7 ⟨⟨u7, rfl, hn7⟩, hb7⟩; have HN7 := Lib.hid hn7; have HB7 := Lib.hid (HB1.out.trans (hb7.mono HB1.out.size)); obtain ⟨A7, c7, rfl, -, -⟩ := id HN7.out; rw [List.length_map] at HN7 ⊢; clear hn7 hb7))
      go_ret2
      exact ⟨krow_put HFF.out (by rw [← HLL.out]; exact HN7.out) (by rw [← HLL.out]; exact HL2.out), HB7.out⟩
    · have d : decide ((LL.length : Int) < (h.length : Int)) = true := decide_eq_true (by have := HLE.out; omega)
      have d' : decide (LL.length < h.length) = true := decide_eq_true (by have := HLE.out; omega)
      have HL2 := Lib.hid (show LL.length < h.length by have := HLE.out; omega)
      clear hl
      rw [show ((0 : Nat) : Int) = 0 from rfl] at HRS ⊢
      go_enter Tryd.func8, Tryd.ntmps8
      go_wp2_with (first | (at_builtin; refine wpList_append_lies _ rfl (.tmp 10) (.tmp 11) 28 rfl w.heap.size 3 i0 (.int .i64 0) 1 8 Tryd.underlying28 hi0 hz0 hz1 hz2 rfl (by omega) (.slice none 0 0) 0 [] rfl (World.ownsRow_nil _ _ _ _) ⟨w.heap.size, 0, none⟩ 1 1 [.int .i64 0] rfl (by rfl) (one_cell (by simp)) (by intro u hu; simp at hu; subst hu; rfl) (by omega) (by unfold maxLen; omega) (by omega) (by simp) (w.heap.size + 1) (by simp) ?_; intro q cap w1 hown hgrow hat hlt; have HN1 := Lib.hid (HI0.out ▸ NumsC.own (zs := [0]) hown); have HB1 := Lib.hid (((Below.refl w.heap.size w).alloc (Nat.le_refl _) _).grown hgrow (by simp) fun k hk => by cases hk); clear hown hgrow hat hlt) | (go_at_call 17; (with_reducible refine (HRS.out _ HB1.out _ HN1.out).mono ?_); rintro e w7 ⟨⟨u7, rfl, hn7⟩, hb7⟩; have HN7 := Lib.hid hn7; have HB7 := Lib.hid (HB1.out.trans (hb7.mono HB1.out.size)); obtain ⟨A7, c7, rfl, -, -⟩ := id HN7.out; rw [List.length_map] at HN7 ⊢; clear hn7 hb7))
      go_ret2
      exact ⟨krow_not HFF.out (by rw [← HLL.out]; exact HL2.out), HB7.out⟩
  · have d0 : ((o : Int) == 0) = false := beq_eq_false_iff_ne.2 (by omega)
    have HI0 := Lib.hid (show linit o = [] from if_neg h0)
    clear h0
    by_cases hl : LL.length = h.length
    · have d : decide ((LL.length : Int) < (h.length : Int)) = false := decide_eq_false (by omega)
      have d' : decide (LL.length < h.length) = false := decide_eq_false (by omega)
      have HL2 := Lib.hid hl
      clear hl
      go_enter Tryd.func8, Tryd.ntmps8
      go_wp2_with (go_at_call 17; (with_reducible refine (HRS.out _ (Below.refl _ w) _ (HI0.out ▸ NumsC.nil _ _ _ _ (by omega))).mono ?_); rintro e w7 ⟨⟨u7, rfl, hn7⟩, hb7⟩; have HN7 := Lib.hid hn7; have HB7 := Lib.hid (hb7); obtain ⟨A7, c7, rfl, -, -⟩ := id HN7.out; rw [List.length_map] at HN7 ⊢; clear hn7 hb7)
      go_ret2
      exact ⟨krow_put HFF.out (by rw [← HLL.out]; exact HN7.out) (by rw [← HLL.out]; exact HL2.out), HB7.out⟩
    · have d : decide ((LL.length : Int) < (h.length : Int)) = true := decide_eq_true (by have := HLE.out; omega)
      have d' : decide (LL.length < h.length) = true := decide_eq_true (by have := HLE.out; omega)
      have HL2 := Lib.hid (show LL.length < h.length by have := HLE.out; omega)
      clear hl
      go_enter Tryd.func8, Tryd.ntmps8
      go_wp2_with (go_at_call 17; (with_reducible refine (HRS.out _ (Below.refl _ w) _ (HI0.out ▸ NumsC.nil _ _ _ _ (by omega))).mono ?_); rintro e w7 ⟨⟨u7, rfl, hn7⟩, hb7⟩; have HN7 := Lib.hid hn7; have HB7 := Lib.hid (hb7); obtain ⟨A7, c7, rfl, -, -⟩ := id HN7.out; rw [List.length_map] at HN7 ⊢; clear hn7 hb7)
      go_ret2
      exact ⟨krow_not HFF.out (by rw [← HLL.out]; exact HL2.out), HB7.out⟩
theorem nums_zero {zs : List Int} (e : zs = []) (W : World) : Nums W W.heap.size (.slice none 0 0) zs := by
  rw [e]
  exact ⟨none, 0, rfl, by simp, fun c => by simp at c⟩
set_option maxHeartbeats 8000000 in
set_option maxRecDepth 100000 in
theorem linsays_law (ob : Int) (v : Value) (h : List LO) (w : World) (hh : Ops w w.heap.size v h) (hg : ErrVar w) :
    Calls Tryd.prog 3 #[.int .i64 ob, v] w fun e w' => e = .returned (.bool true) ∧ Below w.heap.size w w' := by
  have hg2 := hg.lt
  have HOW := Lib.hid (fun (W : World) (hb : Below w.heap.size w W) => (hh.below hb (Nat.le_refl _)).more hb.size)
  have HH := Lib.hid (hist_any ob h v w hh)
  have HC := Lib.hid (fun (W : World) (hb : Below w.heap.size w W) => check_any ob h v W (HOW.out W hb))
  have HR := Lib.hid (fun (W : World) (hb : Below w.heap.size w W) => row_any ob h v W (HOW.out W hb))
  have HE := Lib.hid (fun (W : World) (hb : Below w.heap.size w W) => errorIs_any (lchk ob h) (lchk ob h) W (hg.below hb hg2))
  rw [show decide ((lchk ob h : Int) = (lchk ob h : Int)) = true from decide_eq_true rfl] at HE
  have HRK := Lib.hid (fun (o : Nat) (e : ob = (o : Int)) (hf : LFine ob h) (W : World) (hb : Below w.heap.size w W) => krow_any o h (e ▸ hf) v W (HOW.out W hb))
  have HII := Lib.hid (fun (u1 u2 : Value) (W : World) (h1 : Nums W W.heap.size u1 (lrowI ob h)) (h3 : Nums W W.heap.size u2 (lrowI ob h)) => ints_any (lrowI ob h) (lrowI ob h) u1 u2 _ _ W h1 h3)
  rw [show decide (lrowI ob h = lrowI ob h) = true from decide_eq_true rfl] at HII
  obtain ⟨A, c, rfl, -, -⟩ := id hh
  by_cases h0 : lchk ob h = 0
  · have hf := lchk_zero.1 h0
    obtain ⟨o, rfl⟩ := Int.eq_ofNat_of_zero_le hf.o1
    have HRK := Lib.hid (HRK.out o rfl hf)
    rw [h0, show errV 40 ((0 : Nat) : Int) = .nilIface from rfl] at HR HC HE
    rw [h0] at HH
    rw [show ((0 : Nat) : Int) = 0 from rfl] at HH HE
    obtain ⟨B, hb⟩ : ∃ B, B = (lans (o : Int) h).isSome := ⟨_, rfl⟩
    rw [← hb] at HR
    have HRK2 := Lib.hid (show ∀ (W : World) (hb : Below w.heap.size w W), Calls Tryd.prog 8 #[.int .i64 o, .slice A h.length c] W fun e w' => (∃ u, e = .returned (.tuple #[u, .bool B]) ∧ Nums w' w'.heap.size u (lrowI (o : Int) h)) ∧ Below W.heap.size W w' from fun W hb' => (HRK.out W hb').mono fun e w' ⟨⟨u, he, hn⟩, hbb⟩ => ⟨⟨u, by rw [he, hb], hn⟩, hbb⟩)
    have hBB : (B == B) = true := by cases B <;> rfl
    clear HRK hf h0 hh hg hb
    go_enter Tryd.func3, Tryd.ntmps3
    go_wp2_with (first | (go_at_call 5; (with_reducible refine HH.out.mono ?_); rintro e w1 ⟨rfl, hb1⟩; have HB1 := Lib.hid hb1; clear hb1) | (go_at_call 7; (with_reducible refine (HC.out _ HB1.out).mono ?_); rintro e w2 ⟨rfl, hb2⟩; have HB2 := Lib.hid (HB1.out.trans (hb2.mono HB1.out.size)); clear hb2) | (go_at_call 6; (with_reducible refine (HE.out w2 HB2.out).mono ?_); rintro e w3 ⟨rfl, hb3⟩; have HB3 := Lib.hid (HB2.out.trans (hb3.mono HB2.out.size)); clear hb3) | (go_at_call 8; (with_reducible refine (HRK2.out w3 HB3.out).mono ?_); rintro e w4 ⟨⟨u4, rfl, hn4⟩, hb4⟩; have HN4 := Lib.hid hn4; have HB4 := Lib.hid (HB3.out.trans (hb4.mono HB3.out.size)); clear hn4 hb4) | (go_at_call 9; (with_reducible refine (HR.out w4 HB4.out).mono ?_); rintro e w5 ⟨⟨u5, rfl, hn5⟩, hb5⟩; have HN5 := Lib.hid hn5; have HN4 := Lib.hid ((HN4.out.below hb5 (Nat.le_refl _)).more hb5.size); have HB5 := Lib.hid (HB4.out.trans (hb5.mono HB4.out.size)); clear hn5 hb5) | (go_at_call 6; (with_reducible refine (HE.out w5 HB5.out).mono ?_); rintro e w6 ⟨rfl, hb6⟩; have HN5b := Lib.hid ((HN5.out.below hb6 (Nat.le_refl _)).more hb6.size); have HN4b := Lib.hid ((HN4.out.below hb6 (Nat.le_refl _)).more hb6.size); have HB6 := Lib.hid (HB5.out.trans (hb6.mono HB5.out.size)); clear hb6) | (go_at_call 10; (with_reducible refine (HII.out _ _ w6 HN5b.out HN4b.out).mono ?_); rintro e w7 ⟨rfl, n7, rfl⟩; have HB6 := Lib.hid (below_drewN HB6.out n7)))
    go_ret
    exact ⟨rfl, HB6.out⟩
  · have HN := Lib.hid (lans_bad h0)
    have HZ0 := Lib.hid (nums_zero (lrowI_none HN.out))
    have hne : ((lchk ob h : Int) == 0) = false := beq_eq_false_iff_ne.2 (by omega)
    rw [errV_bad h0] at HR HC HE
    rw [HN.out, show (none : Option (List Nat)).isSome = false from rfl] at HR
    clear h0 hh hg HRK
    go_enter Tryd.func3, Tryd.ntmps3
    go_wp2_with (first | (go_at_call 5; (with_reducible refine HH.out.mono ?_); rintro e w1 ⟨rfl, hb1⟩; have HB1 := Lib.hid hb1; clear hb1) | (go_at_call 7; (with_reducible refine (HC.out _ HB1.out).mono ?_); rintro e w2 ⟨rfl, hb2⟩; have HB2 := Lib.hid (HB1.out.trans (hb2.mono HB1.out.size)); clear hb2) | (go_at_call 6; (with_reducible refine (HE.out w2 HB2.out).mono ?_); rintro e w3 ⟨rfl, hb3⟩; have HB3 := Lib.hid (HB2.out.trans (hb3.mono HB2.out.size)); clear hb3) | (go_at_call 9; (with_reducible refine (HR.out w3 HB3.out).mono ?_); rintro e w5 ⟨⟨u5, rfl, hn5⟩, hb5⟩; have HN5 := Lib.hid hn5; have HB5 := Lib.hid (HB3.out.trans (hb5.mono HB3.out.size)); clear hn5 hb5) | (go_at_call 6; (with_reducible refine (HE.out w5 HB5.out).mono ?_); rintro e w6 ⟨rfl, hb6⟩; have HN5b := Lib.hid ((HN5.out.below hb6 (Nat.le_refl _)).more hb6.size); have HB6 := Lib.hid (HB5.out.trans (hb6.mono HB5.out.size)); clear hb6) | (go_at_call 10; (with_reducible refine (HII.out _ (.slice none 0 0) w6 HN5b.out (HZ0.out w6)).mono ?_); rintro e w7 ⟨rfl, n7, rfl⟩; have HB6 := Lib.hid (below_drewN HB6.out n7)))
    go_ret
    exact ⟨rfl, HB6.out⟩
end Go.Proofs.YtimdhnjkjflbdaaDoor.Lin
