/-
  The reference's copies: a slice with one thing more.
-/
import Derived.Test.YtnplhjbbkccdnaaDoorRefSetN
namespace Go.Proofs.YtnplhjbbkccdnaaDoor.Rf
open Go.RowKit

set_option maxHeartbeats 4000000 in
theorem more_sl {F : Nat → Prop} {v : Value} {n : Nat} {Ps : List Pd} {P : Pd} {z : Int} (w : World) (hF : ∀ b, F b → b < w.heap.size) (hst : ∀ Q ∈ Ps, Stb Q) (hP : Stb P) (h : SL n Ps F w v) (hn : Ps.length = n) (hn0 : 0 < n) (h8 : n ≤ 1000) (hx : P F w (.int .i64 z)) :
    Calls Tryd.prog 39 #[v, .int .i64 z] w fun e w' => ∃ A c, e = .returned (.slice A (n + 1 : Nat) c) ∧ SL (n + 1) (Ps ++ [P]) F w' (.slice A (n + 1 : Nat) c) ∧ Below w.heap.size w w' := by
  obtain ⟨i0, hi0, hz0, hz1, hz2⟩ := info_parts Tint_info
  obtain ⟨A, c, rfl⟩ := h.form
  obtain ⟨b, o, rfl, hb, hnf, us, hul, hcell, hus⟩ := h.vals (by omega)
  have huone : ∀ u ∈ us, u.oneCell' = true := fun u hu => by
    obtain ⟨j, hj⟩ := List.mem_iff_getElem?.1 hu
    have hjl : j < Ps.length := by have := (List.getElem?_eq_some_iff.1 hj).1; omega
    obtain ⟨u2, h2, h3⟩ := hus j Ps[j] (List.getElem?_eq_getElem hjl)
    rw [hj] at h2
    rw [Option.some.inj h2]
    exact (hst _ (List.getElem_mem hjl)).one h3
  have HC := Lib.hid hcell
  have HU := Lib.hid (show us.length = n by omega)
  have HO1 := Lib.hid huone
  have HFIN := Lib.hid (show ∀ w2 (q cap : Nat), w2.ownsRow w.heap.size 3 1 (.slice (some ⟨q, 0, none⟩) (n + 1) cap) (n + 1) (us ++ [.int .i64 z]) → Below w.heap.size w w2 → SL (n + 1) (Ps ++ [P]) F w2 (.slice (some ⟨q, 0, none⟩) (n + 1) cap) from fun w2 q cap ho hb2 => by
    refine SL.own ho hF (by simp [hul]) (by simp) fun j Q hQ => ?_
    rcases Nat.lt_or_ge j Ps.length with e | e
    · rw [List.getElem?_append_left e] at hQ
      obtain ⟨u, h1, h2⟩ := hus j Q hQ
      exact ⟨u, by rw [List.getElem?_append_left (by omega)]; exact h1, (hst Q (List.mem_of_getElem? hQ)).below hb2 h2⟩
    · rw [List.getElem?_append_right e] at hQ
      have hj : j - Ps.length = 0 := by
        have := (List.getElem?_eq_some_iff.1 hQ).1
        simp at this; omega
      rw [hj] at hQ
      have hQ : P = Q := Option.some.inj hQ
      refine ⟨.int .i64 z, ?_, hQ ▸ hP.below hb2 hx⟩
      rw [List.getElem?_append_right (by omega), hul, hj]; rfl)
  clear hcell huone hus hul h hx hst hP hF hnf hb hn
  go_enter Tryd.func39, Tryd.ntmps39
  go_upto_region 3 with (at_builtin; refine wpList_append_lies _ rfl (.tmp 6) (.tmp 7) 30 rfl w.heap.size 3 i0 (.int .i64 0) 1 8 Tryd.underlying30 hi0 hz0 hz1 hz2 rfl (by omega) (.slice none 0 0) 0 [] rfl (World.ownsRow_nil _ _ _ _) ⟨b, o, none⟩ n c us rfl (by rw [HU.out]; omega) HC.out HO1.out hn0 (by unfold maxLen; omega) (by omega) (Nat.le_refl _) w.heap.size rfl ?_; intro q cap w1 hown hgrow hat hlt; have HO := Lib.hid hown; have HG := Lib.hid hgrow; clear hown hgrow hat hlt)
  have ho : w1.ownsRow w.heap.size 3 1 (.slice (some ⟨q, 0, none⟩) n cap) n us := by have := HO.out; rwa [Nat.zero_add, List.nil_append] at this
  have hb1 : Below w.heap.size w w1 := (Below.refl w.heap.size w).grown HG.out (Nat.le_refl _) fun k hk => by cases hk
  have hq : w.heap.size ≤ q := (ho.lt q rfl).1
  have HO2 := Lib.hid ho
  have HB1 := Lib.hid hb1
  have HQ := Lib.hid hq
  clear ho hb1 hq HO HG HC
  go_wp2_with (at_builtin; refine wpList_append_lies _ rfl (.tmp 9) (.tmp 11) 30 rfl w.heap.size 3 i0 (.int .i64 0) 1 8 Tryd.underlying30 hi0 hz0 hz1 hz2 rfl (by omega) (.slice (some ⟨q, 0, none⟩) n cap) n us rfl (HO2.out.alloc _) ⟨w1.heap.size, 0, none⟩ 1 1 [.int .i64 z] rfl (by rfl) (one_cell (by simp)) (by intro u hu; simp at hu; subst hu; rfl) (by omega) (by unfold maxLen; omega) (by omega) (by have := HB1.out.size; simp; omega) (w1.heap.size + 1) (by simp) ?_; intro q2 cap2 w2 hown hgrow hat hlt; have HO3 := Lib.hid hown; have HG3 := Lib.hid hgrow; clear hown hgrow hat hlt)
  have hb2 : Below w.heap.size w w2 := (HB1.out.alloc HB1.out.size _).grown HG3.out (by have := HB1.out.size; simp; omega) fun k hk => by
    have : q = k := Option.some.inj hk
    have := HQ.out; omega
  have HS := Lib.hid (HFIN.out _ q2 cap2 HO3.out hb2)
  have HB2 := Lib.hid hb2
  clear hb2
  go_ret
  exact ⟨_, _, rfl, HS.out, HB2.out⟩
theorem more_nm {F : Nat → Prop} {w : World} {v : Value} {n : Nat} {f : Nat → Int} (z : Int) (hF : ∀ b, F b → b < w.heap.size) (h : nm n f F w v) (h0 : 0 < n) (h8 : n ≤ 1000) :
    Calls Tryd.prog 39 #[v, .int .i64 z] w fun e w' => ∃ A c, e = .returned (.slice A (n + 1 : Nat) c) ∧ nm (n + 1) (rput f n z) F w' (.slice A (n + 1 : Nat) c) ∧ Below w.heap.size w w' :=
  (more_sl (P := isInt z) w hF (mem_stb fun _ _ => isInt_stb _) (isInt_stb z) h (sl_len _ _) h0 h8 rfl).mono fun _ _ ⟨A, c, he, hn, hb⟩ => ⟨A, c, he, by
    have e : (List.range n).map (fun i => isInt (f i)) ++ [isInt z] = (List.range (n + 1)).map fun i => isInt (rput f n z i) := by
      rw [List.range_succ, List.map_append]
      congr 1
      · exact List.map_congr_left fun i hi => by rw [rput_other (by have := List.mem_range.1 hi; omega)]
      · simp [rput_same]
    rw [e] at hn
    exact hn, hb⟩
end Go.Proofs.YtnplhjbbkccdnaaDoor.Rf
