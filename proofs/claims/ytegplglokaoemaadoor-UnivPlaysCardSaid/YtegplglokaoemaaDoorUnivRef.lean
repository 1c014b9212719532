/-
  The reference of package univ: set, more, in, Before.
-/
import Derived.Test.YtegplglokaoemaaDoorUnivLkN
import Derived.Test.YtegplglokaoemaaDoorNF
import Derived.Deep.DeepCutAuto
import Derived.Laws.AppendOwnNone
namespace Go.Proofs.YtegplglokaoemaaDoor.Univ
open Go.RowKit

theorem inR_any (z lo hi : Int) (w : World) : Calls Tryd.prog 15 #[.int .i64 z, .int .i64 lo, .int .i64 hi] w fun e w' => e = .returned (.bool (decide (lo ≤ z ∧ z ≤ hi))) ∧ w = w' := by
  by_cases h0 : lo ≤ z
  · by_cases h1 : z ≤ hi
    · rw [decide_eq_true (show lo ≤ z ∧ z ≤ hi from ⟨h0, h1⟩)]
      go_enter Tryd.func15, Tryd.ntmps15
      go_wp2
      go_ret
      exact ⟨rfl, rfl⟩
    · rw [decide_eq_false (show ¬ (lo ≤ z ∧ z ≤ hi) from fun h => h1 h.2)]
      go_enter Tryd.func15, Tryd.ntmps15
      go_wp2
      go_ret
      exact ⟨rfl, rfl⟩
  · rw [decide_eq_false (show ¬ (lo ≤ z ∧ z ≤ hi) from fun h => h0 h.1)]
    go_enter Tryd.func15, Tryd.ntmps15
    go_wp2
    go_ret
    exact ⟨rfl, rfl⟩
theorem inR_yes (z lo hi : Int) (h0 : lo ≤ z) (h1 : z ≤ hi) (w : World) : Calls Tryd.prog 15 #[.int .i64 z, .int .i64 lo, .int .i64 hi] w fun e w' => e = .returned (.bool true) ∧ w = w' := by
  have := inR_any z lo hi w
  rwa [decide_eq_true (show lo ≤ z ∧ z ≤ hi from ⟨h0, h1⟩)] at this
theorem inR_no (z lo hi : Int) (h : ¬ (lo ≤ z ∧ z ≤ hi)) (w : World) : Calls Tryd.prog 15 #[.int .i64 z, .int .i64 lo, .int .i64 hi] w fun e w' => e = .returned (.bool false) ∧ w = w' := by
  have := inR_any z lo hi w
  rwa [decide_eq_false h] at this

set_option maxHeartbeats 4000000 in
theorem set_any {F : Nat → Prop} {v : Value} {l : List Int} {i : Nat} (z : Int) (w : World) (hF : ∀ b, F b → b < w.heap.size) (h : NF F w v l) (hi : i < l.length) (h8 : l.length ≤ 1000) :
    Calls Tryd.prog 16 #[v, .int .i64 i, .int .i64 z] w fun e w' => ∃ A c, e = .returned (.slice A l.length c) ∧ NF F w' (.slice A l.length c) (l.set i z) ∧ Below w.heap.size w w' := by
  obtain ⟨i0, hi0, hz0, hz1, hz2⟩ := info_parts TintI.info
  obtain ⟨A, c, rfl, hlen, _, hc⟩ := h
  obtain ⟨b, o, rfl, hb, hnf, hcc⟩ := hc (by omega)
  have hcell : ∀ j u, (l.map (Value.int .i64))[j]? = some u → w.cell? ((⟨b, o, none⟩ : Addr).add j) = some u := fun j u hj => by
    rw [Addr.add_lit]
    rw [List.getElem?_map] at hj
    rcases hx : l[j]? with _ | x
    · rw [hx] at hj; cases hj
    · rw [hx] at hj; cases hj; exact hcc j x hx
  obtain ⟨n, hn⟩ : ∃ n, n = l.length := ⟨_, rfl⟩
  have hiI : (i : Int) < n := by omega
  rw [← hn]
  have hn0 : 0 < n := by omega
  have hn8 : n ≤ 1000 := by omega
  have HC := Lib.hid hcell
  have HN := Lib.hid hn
  have HFF := Lib.hid hF
  have HI := Lib.hid hi
  clear hcell hc hcc hnf hb hlen hn hi h8 hF
  go_enter Tryd.func16, Tryd.ntmps16
  go_upto_region 3 with (at_builtin; refine wpList_append_lies _ rfl (.tmp 8) (.tmp 9) 29 rfl w.heap.size 3 i0 (.int .i64 0) 1 8 Tryd.underlying29 hi0 hz0 hz1 hz2 rfl (by omega) (.slice none 0 0) 0 [] rfl (World.ownsRow_nil _ _ _ _) ⟨b, o, none⟩ n c (l.map (Value.int .i64)) rfl (by simp [HN.out]) HC.out (by intro u hu; obtain ⟨z, _, rfl⟩ := List.mem_map.1 hu; rfl) hn0 (by unfold maxLen; omega) (by omega) (Nat.le_refl _) w.heap.size rfl ?_; intro q cap w1 hown hgrow hat hlt; have HO := Lib.hid hown; have HG := Lib.hid hgrow; clear hown hgrow hat hlt)
  have ho : w1.ownsRow w.heap.size 3 1 (.slice (some ⟨q, 0, none⟩) n cap) n (l.map (Value.int .i64)) := by have := HO.out; rwa [Nat.zero_add, List.nil_append] at this
  have hb1 : Below w.heap.size w w1 := (Below.refl w.heap.size w).grown HG.out (Nat.le_refl _) fun k hk => by cases hk
  have hq : w.heap.size ≤ q := (ho.lt q rfl).1
  obtain ⟨x, hx⟩ : ∃ x, l[i]? = some x := ⟨l[i]'HI.out, List.getElem?_eq_getElem HI.out⟩
  have hqc : w1.cell? ⟨q, i, none⟩ = some (.int .i64 x) := by
    rw [ho.cellAt i (by have := HI.out; have := HN.out; omega), List.getElem?_map, hx]; rfl
  have hqf : w1.frozen? ⟨q, i, none⟩ = false := ho.frozenAt i
  have hs := (ho.stored i (.int .i64 z)).1
  have HS := Lib.hid (show NF F (w1.setCell ⟨q, i, none⟩ (.int .i64 z)) (.slice (some ⟨q, 0, none⟩) n cap) (l.set i z) from NF.own (base := w.heap.size) (by rw [List.length_set, List.map_set, ← HN.out]; exact hs) HFF.out (by rw [List.length_set, ← HN.out]; omega) (fun e => by have h1 := congrArg List.length e; rw [List.length_set, ← HN.out] at h1; simp at h1; omega))
  have HB := Lib.hid (show Below w.heap.size w (w1.setCell ⟨q, i, none⟩ (.int .i64 z)) from hb1.setCell hq _)
  clear ho hb1 hq hs hx HO HG HC
  go_wp2
  go_ret
  exact ⟨_, _, rfl, HS.out, HB.out⟩
set_option maxHeartbeats 4000000 in
theorem more_any {F : Nat → Prop} {v : Value} {l : List Int} (z : Int) (w : World) (hF : ∀ b, F b → b < w.heap.size) (h : NF F w v l) (h8 : l.length ≤ 1000) :
    Calls Tryd.prog 17 #[v, .int .i64 z] w fun e w' => ∃ A c, e = .returned (.slice A (l.length + 1) c) ∧ NF F w' (.slice A (l.length + 1) c) (l ++ [z]) ∧ Below w.heap.size w w' := by
  obtain ⟨i0, hi0, hz0, hz1, hz2⟩ := info_parts TintI.info
  have HFF := Lib.hid hF
  clear hF
  have hfin : ∀ (w2 : World) (q cap : Nat) (ys : List Value), w2.ownsRow w.heap.size 3 1 (.slice (some ⟨q, 0, none⟩) (l.length + 1) cap) (l.length + 1) ys → ys = (l ++ [z]).map (Value.int .i64) → NF F w2 (.slice (some ⟨q, 0, none⟩) (l.length + 1) cap) (l ++ [z]) := fun w2 q cap ys ho hy =>
    NF.own (base := w.heap.size) (by rw [List.length_append, ← hy]; exact ho) HFF.out (by simp; omega) (by simp)
  by_cases hl : l = []
  · subst hl
    obtain ⟨A, c, rfl, _, h0, _⟩ := h
    obtain ⟨rfl, rfl⟩ := h0 rfl
    have HFI := Lib.hid hfin
    clear hfin h0
    go_enter Tryd.func17, Tryd.ntmps17
    go_wp2_with (first | (at_builtin; refine wpList_append_own_none rfl (.tmp 6) (.tmp 7) 29 rfl w.heap.size 3 i0 1 Tryd.underlying29 hi0 (.slice none 0 0) 0 [] rfl (World.ownsRow_nil _ _ _ _) rfl ?_) | (at_builtin; refine wpList_append_lies _ rfl (.tmp 9) (.tmp 11) 29 rfl w.heap.size 3 i0 (.int .i64 0) 1 8 Tryd.underlying29 hi0 hz0 hz1 hz2 rfl (by omega) (.slice none 0 0) 0 [] rfl (World.ownsRow_nil _ _ _ _) ⟨w.heap.size, 0, none⟩ 1 1 [.int .i64 z] rfl (by rfl) (one_cell (by simp)) (by intro u hu; simp at hu; subst hu; rfl) (by omega) (by unfold maxLen; omega) (by omega) (by simp) (w.heap.size + 1) (by simp) ?_; intro q cap w2 hown hgrow hat hlt; have HO := Lib.hid hown; have HG := Lib.hid hgrow; clear hown hgrow hat hlt))
    go_ret
    exact ⟨_, _, rfl, HFI.out _ q cap _ HO.out (by simp), ((Below.refl w.heap.size w).alloc (Nat.le_refl _) _).grown HG.out (by simp) fun k hk => by cases hk⟩
  · obtain ⟨A, c, rfl, hlen, _, hc⟩ := h
    have hpos : 0 < l.length := by cases l with
      | nil => exact absurd rfl hl
      | cons => simp
    obtain ⟨b, o, rfl, hb, hnf, hcc⟩ := hc hpos
    have hcell : ∀ j u, (l.map (Value.int .i64))[j]? = some u → w.cell? ((⟨b, o, none⟩ : Addr).add j) = some u := fun j u hj => by
      rw [Addr.add_lit]
      rw [List.getElem?_map] at hj
      rcases hx : l[j]? with _ | x
      · rw [hx] at hj; cases hj
      · rw [hx] at hj; cases hj; exact hcc j x hx
    obtain ⟨n, hn⟩ : ∃ n, n = l.length := ⟨_, rfl⟩
    rw [← hn] at hfin ⊢
    have hn0 : 0 < n := by omega
    have hn8 : n ≤ 1000 := by omega
    have HFI := Lib.hid hfin
    have HC := Lib.hid hcell
    have HN := Lib.hid hn
    clear hcell hc hcc hnf hb hlen hn h8 hfin hpos hl
    go_enter Tryd.func17, Tryd.ntmps17
    go_upto_region 3 with (at_builtin; refine wpList_append_lies _ rfl (.tmp 6) (.tmp 7) 29 rfl w.heap.size 3 i0 (.int .i64 0) 1 8 Tryd.underlying29 hi0 hz0 hz1 hz2 rfl (by omega) (.slice none 0 0) 0 [] rfl (World.ownsRow_nil _ _ _ _) ⟨b, o, none⟩ n c (l.map (Value.int .i64)) rfl (by simp [HN.out]) HC.out (by intro u hu; obtain ⟨z, _, rfl⟩ := List.mem_map.1 hu; rfl) hn0 (by unfold maxLen; omega) (by omega) (Nat.le_refl _) w.heap.size rfl ?_; intro q cap w1 hown hgrow hat hlt; have HO := Lib.hid hown; have HG := Lib.hid hgrow; clear hown hgrow hat hlt)
    have ho : w1.ownsRow w.heap.size 3 1 (.slice (some ⟨q, 0, none⟩) n cap) n (l.map (Value.int .i64)) := by have := HO.out; rwa [Nat.zero_add, List.nil_append] at this
    have hb1 : Below w.heap.size w w1 := (Below.refl w.heap.size w).grown HG.out (Nat.le_refl _) fun k hk => by cases hk
    have HO1 := Lib.hid ho
    have HB1 := Lib.hid hb1
    have hs1 := hb1.size
    clear ho hb1 HO HG HC
    go_wp2_with (at_builtin; refine wpList_append_lies _ rfl (.tmp 9) (.tmp 11) 29 rfl w.heap.size 3 i0 (.int .i64 0) 1 8 Tryd.underlying29 hi0 hz0 hz1 hz2 rfl (by omega) (.slice (some ⟨q, 0, none⟩) n cap) n (l.map (Value.int .i64)) rfl (HO1.out.alloc _) ⟨w1.heap.size, 0, none⟩ 1 1 [.int .i64 z] rfl (by rfl) (one_cell (by simp)) (by intro u hu; simp at hu; subst hu; rfl) (by omega) (by unfold maxLen; omega) (by omega) (by simp; omega) (w1.heap.size + 1) (by simp) ?_; intro q2 cap2 w2 hown hgrow hat hlt; have HO := Lib.hid hown; have HG := Lib.hid hgrow; clear hown hgrow hat hlt)
    go_ret
    exact ⟨_, _, rfl, HFI.out _ q2 cap2 _ HO.out (by simp), ((HB1.out.alloc hs1 _).grown HG.out (by simp; omega) fun k hk => by have := (HO1.out.lt k hk).1; omega)⟩
end Go.Proofs.YtegplglokaoemaaDoor.Univ
