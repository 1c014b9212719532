/-
  Texts merged: RefAdd, RefPut.
-/
import Derived.Test.YthpnnmkpbkbanaaDoorRefMm
import Derived.Test.YthpnnmkpbkbanaaDoorRefLists
import Derived.Deep.RegionLaw
import Derived.Test.YthpnnmkpbkbanaaDoorLnCells
import Derived.Test.YthpnnmkpbkbanaaDoorResMem
/-
  What latchgarthref1's add does.
-/
namespace Go.Proofs.YthpnnmkpbkbanaaDoor
open Go.RowKit

theorem Tstt.info : (Tryd.prog.info? 48).map (fun i => (i.zero, i.size, i.bytes)) = some (some (.slice none 0 0), 1, 24) := by kernel_rfl
theorem own_form {w : World} {base e size : Nat} {v : Value} {n : Nat} {xs : List Value} (h : w.ownsRow base e size v n xs) : ∃ A c, v = .slice A n c ∧ (0 < n → ∃ g, A = some ⟨g, 0, none⟩) := by
  rcases h.2 with ⟨rfl, h0⟩ | ⟨g, cap, cur, rfl, _⟩
  · exact ⟨none, 0, by rw [h0], fun h1 => by omega⟩
  · exact ⟨_, _, rfl, fun _ => ⟨g, rfl⟩⟩
theorem own_at {w : World} {base e g n c : Nat} {xs : List Value} (h : w.ownsRow base e 1 (.slice (some ⟨g, 0, none⟩) n c) n xs) {i : Nat} {u : Value} (hu : xs[i]? = some u) : w.cell? ⟨g, i, none⟩ = some u := by
  have := h.cells (g := g) rfl i u hu
  unfold Addr.add at this
  split at this
  · rename_i h3; subst h3; simpa using this
  · simpa using this

theorem FAt.grow {base : Nat} {W w4 : World} {F R : Nat} {lv : Value} {cs : Array Value} {us : List Value} {bs : Nat → List Value} {L : List (List Int)} {bl : Nat → List (List Int)} (h : FAt base W F R lv cs us bs L bl) {K : Nat} {bv : Value} (hk : cs[K]? = some bv) {o : Obj} (hg : (W.drew.alloc o).grownBy w4 bv.ownBlock) :
    w4.cell? ⟨F, 0, none⟩ = some (.slice (some ⟨R, 0, none⟩) 1009 1009) ∧ w4.frozen? ⟨R, K, none⟩ = false ∧ w4.cell? ⟨R, K, none⟩ = some bv := by
  have h1 := h.bb
  have h2 := h.fb
  have h3 := h.rb
  have hb : ∀ b, b < base → w4.heap[b]? = W.heap[b]? := fun b hb => (hg.block b (by simp; omega) (fun e => by have := (own_lt (h.bown K bv hk) e.symm).1; omega)).trans (Below.heap_alloc W.drew o b (by show b < W.heap.size; omega))
  have kF : Block w4 F _ _ := (hb F h2).trans h.fblk
  have kR : Block w4 R _ cs := (hb R h3).trans h.rblk
  exact ⟨(kF.cell 0).trans rfl, kR.free K, (kR.cell K).trans hk⟩
theorem FAt.growL {base : Nat} {W w4 : World} {F R : Nat} {lv : Value} {cs : Array Value} {us : List Value} {bs : Nat → List Value} {L : List (List Int)} {bl : Nat → List (List Int)} (h : FAt base W F R lv cs us bs L bl) {o : Obj} (hg : (W.alloc o).grownBy w4 lv.ownBlock) :
    w4.cell? ⟨F, 1, none⟩ = some lv ∧ w4.frozen? ⟨F, 1, none⟩ = false := by
  have h1 := h.bb
  have h2 := h.fb
  have kF : Block w4 F _ _ := ((hg.block F (by simp; omega) (fun e => by have := (own_lt h.own e.symm).1; omega)).trans (Below.heap_alloc W o F (by omega))).trans h.fblk
  exact ⟨(kF.cell 1).trans rfl, kF.free 1⟩
theorem Fix.turn {W Y : World} {F R : Nat} {lv lv' : Value} {cs cs' : Array Value} (ht : Touch (Mine F R lv cs) W Y) (hm : ∀ b, Mine F R lv' cs' b → Mine F R lv cs b ∨ W.heap.size ≤ b) : ∀ b, Fix W F R lv cs b → Fix Y F R lv' cs' b :=
  fun b hb => ⟨Nat.lt_of_lt_of_le hb.1 ht.size, fun h => (hm b h).elim hb.2 fun h1 => by have := hb.1; omega⟩
theorem Fix.cell {W Y : World} {F R : Nat} {lv : Value} {cs : Array Value} (ht : Touch (Mine F R lv cs) W Y) {p : Addr} (hp : Fix W F R lv cs p.block) : Y.cell? p = W.cell? p := ht.cell hp.1 hp.2
def AddPost (base : Nat) (W : World) (F R : Nat) (lv : Value) (cs : Array Value) (L : List (List Int)) (y : List Int) (e : Ending) (w' : World) : Prop :=
  e = .returned (.tuple #[]) ∧ ∃ lv' cs' us' bs', FAt base w' F R lv' cs' us' bs' (ins1 L y) (fun k => buck (ins1 L y) k) ∧ Touch (Mine F R lv cs) W w' ∧ ∀ b, Mine F R lv' cs' b → Mine F R lv cs b ∨ W.heap.size ≤ b

set_option maxRecDepth 100000 in
set_option maxHeartbeats 4000000 in
theorem add_any (base : Nat) (W : World) (F R : Nat) (lv : Value) (cs : Array Value) (us : List Value) (bs : Nat → List Value) (L : List (List Int)) (h : FAt base W F R lv cs us bs L (fun k => buck L k)) (sv : Value) (y : List Int) (hs : NumsP W (Fix W F R lv cs) sv y) (hcap : Capd sv) (hy : y.length = 46) (hsm : ∀ x ∈ y, 0 ≤ x ∧ x ≤ 1000) (hL : ∀ z ∈ L, z.length = 46) (hfew : L.length ≤ 4459118884992) :
    Calls Tryd.prog 15 #[.pointer (some ⟨F, 0, none⟩), sv] W (AddPost base W F R lv cs L y) := by
  have HF := Lib.hid h
  have HS := Lib.hid hs
  have HCAP := Lib.hid hcap
  have HY := Lib.hid hy
  obtain ⟨A, c, rfl, _, hs⟩ := hs
  obtain ⟨b, o, rfl, hbf, hc⟩ := hs (by omega)
  rw [hy]
  have HC := Lib.hid hc
  obtain ⟨i0, hi, hz0, hz1, hz2⟩ := info_parts Tstt.info
  obtain ⟨Al, cl_, rfl, hAl⟩ := own_form h.own
  rw [hy] at HCAP
  clear hs hc h hbf hcap
  go_enter Tryd.func15, Tryd.ntmps15
  go_wp2
  go_loopw [4, 5] (fun kv iv wr => ∃ n : Nat, n ≤ 46 ∧ iv = .int .i64 n ∧ kv = .int .i64 (hsh (y.take n)) ∧ ∃ m, wr = W.drewN m) (fun _ iv _ => 46 - (intOf iv).toNat)
  case atStart => exact ⟨0, by omega, rfl, rfl, 0, rfl⟩
  case round =>
    obtain ⟨n, hn, rfl, rfl, m, rfl⟩ := hrel
    by_cases hlt : n < 46
    · have hnI : (n : Int) < 46 := by omega
      obtain ⟨x, hx⟩ : ∃ x, y[n]? = some x := ⟨_, List.getElem?_eq_getElem (by omega)⟩
      have hxr := hsm x (List.mem_of_getElem? hx)
      have hxc := HC.out n x hx
      have HE := Lib.hid (show hsh (y.take (n + 1)) = (hsh (y.take n) * 31 + x + 7) % 1009 by rw [take_succ_at hx, hsh_snoc])
      have hk := hsh_rng (y.take n)
      obtain ⟨kk, hkk⟩ : ∃ kk, kk = hsh (y.take n) := ⟨_, rfl⟩
      rw [← hkk] at hk HE
      rw [← hkk]
      have w1 : IntKind.i64.wrap (kk * 31) = kk * 31 := IntWalk.i64_in _ (by omega)
      have w2 : IntKind.i64.wrap (kk * 31 + x) = kk * 31 + x := IntWalk.i64_in _ (by omega)
      have w3 : IntKind.i64.wrap (kk * 31 + x + 7) = kk * 31 + x + 7 := IntWalk.i64_in _ (by omega)
      have w4 : (kk * 31 + x + 7).tmod 1009 = (kk * 31 + x + 7) % 1009 := Int.tmod_eq_emod_of_nonneg (by omega)
      clear hx hkk
      go_wp2
      go_roundw
      case rel => exact ⟨n + 1, by omega, by go_num, by rw [HE.out], m, rfl⟩
      case measure => simp [intOf]; omega
    · obtain rfl : n = 46 := by omega
      rw [show (((46 : Nat) : Int)) = 46 from rfl]
      have hKr := hsh_rng y
      obtain ⟨K, hK⟩ : ∃ K : Nat, hsh y = K := ⟨(hsh y).toNat, by omega⟩
      have hKl : K < 1009 := by omega
      have HK := Lib.hid hK
      rw [show hsh (y.take 46) = (K : Int) by rw [List.take_of_length_le (by omega), hK]]
      obtain ⟨V, hV⟩ : ∃ V, V = W.drewN m := ⟨_, rfl⟩
      have HFV := Lib.hid (show FAt base V F R (.slice Al us.length cl_) cs us bs L (fun k => buck L k) by rw [hV]; exact HF.out.drewN m)
      have HSV := Lib.hid (show NumsP V (Fix V F R (.slice Al us.length cl_) cs) (.slice (some ⟨b, o, none⟩) 46 c) y by rw [hV, ← hy]; exact HS.out)
      have HVW := Lib.hid (show Touch (Mine F R (.slice Al us.length cl_) cs) W V ∧ V.heap.size = W.heap.size by rw [hV]; exact ⟨(Touch.refl _ _).drewN m, rfl⟩)
      rw [← hV]
      clear hV HF HS HC hKr hn hlt
      go_wp2
      obtain ⟨bv, hbv⟩ : ∃ bv, cs[K]? = some bv := ⟨_, Array.getElem?_eq_getElem (by rw [HFV.out.csz]; exact hKl)⟩
      have HBO := Lib.hid (HFV.out.bown K bv hbv)
      have HBR := Lib.hid (HFV.out.brow K hKl)
      have HBV := Lib.hid hbv
      obtain ⟨Ab, cb, rfl, hAb⟩ := own_form HBO.out
      have f0 := (HFV.out.fblk.cell 0).trans rfl
      have f1 := (HFV.out.fblk.cell 1).trans rfl
      have r0 := (HFV.out.rblk.cell K).trans hbv
      have hKI : (K : Int) < 1009 := by omega
      have hbl : (bs K).length ≤ 4459118884992 := by rw [HBR.out.1]; exact Nat.le_trans (buck_length L K) hfew
      clear hK hbv
      go_loopw [6] (fun iv wr => ∃ i : Nat, i ≤ (bs K).length ∧ iv = .int .i64 i ∧ (∀ z ∈ (buck L K).take i, z ≠ y) ∧ ∃ p, wr = V.drewN p) (fun iv _ => (bs K).length - (intOf iv).toNat)
      case atStart => exact ⟨0, by omega, rfl, fun z hz => by simp at hz, 0, rfl⟩
      case round =>
        obtain ⟨i, hi_, rfl, hne, p, rfl⟩ := hrel
        have HNE := Lib.hid hne
        have g0 : (V.drewN p).cell? ⟨F, 0, none⟩ = some (.slice (some ⟨R, 0, none⟩) 1009 1009) := f0
        have g1 : (V.drewN p).cell? ⟨F, 1, none⟩ = some (.slice Al us.length cl_) := f1
        have g2 : (V.drewN p).cell? ⟨R, K, none⟩ = some (.slice Ab (bs K).length cb) := r0
        clear hne
        by_cases hlt : i < (bs K).length
        · have hiI : (i : Int) < (bs K).length := by omega
          obtain ⟨gb, rfl⟩ := hAb (by omega)
          obtain ⟨u, hu⟩ : ∃ u, (bs K)[i]? = some u := ⟨_, List.getElem?_eq_getElem hlt⟩
          obtain ⟨z, hz⟩ : ∃ z, (buck L K)[i]? = some z := ⟨_, List.getElem?_eq_getElem (by rw [← HBR.out.1]; exact hlt)⟩
          have g3 : (V.drewN p).cell? ⟨gb, i, none⟩ = some u := own_at HBO.out hu
          have hzl : z.length = 46 := hL z (List.mem_filter.1 (List.mem_of_getElem? hz)).1
          have hnu := (HBR.out.2 i u z hu hz).nums (B := V.heap.size) fun _ hb => hb.1
          have HNU := Lib.hid (show Nums (V.drewN p) V.heap.size u z from hnu)
          have HNS := Lib.hid (show Nums (V.drewN p) V.heap.size (.slice (some ⟨b, o, none⟩) 46 c) y from HSV.out.nums fun _ hb => hb.1)
          have HZ := Lib.hid hz
          have HZL := Lib.hid hzl
          obtain ⟨Au, cu, rfl, _, _⟩ := hnu
          rw [hzl] at g3
          clear hz hzl hu
          by_cases hzy : z = y
          · have HZY := Lib.hid hzy
            clear hzy
            go_wp2_with (go_at_call 38; (with_reducible refine (refsame_any z y _ _ _ _ _ (by have := HNU.out; rw [HZL.out] at this; exact this) HNS.out (by rw [HZL.out, HY.out])).mono ?_); rw [decide_eq_true HZY.out]; rintro e w5 ⟨rfl, q, rfl⟩)
            have hmem : y ∈ L := by rw [← HZY.out]; exact (List.mem_filter.1 (List.mem_of_getElem? HZ.out)).1
            have e1 : ins1 L y = L := by rw [ins1, if_pos hmem]
            refine bodyPost_ret (results_none rfl _ _ _) rfl ⟨rfl, _, _, _, _, by rw [e1]; exact HFV.out.drewN (p + q), HVW.out.1.drewN (p + q), fun _ hb => Or.inl hb⟩
          · have HZY := Lib.hid hzy
            clear hzy
            go_wp2_with (go_at_call 38; (with_reducible refine (refsame_any z y _ _ _ _ _ (by have := HNU.out; rw [HZL.out] at this; exact this) HNS.out (by rw [HZL.out, HY.out])).mono ?_); rw [decide_eq_false HZY.out]; rintro e w5 ⟨rfl, q, rfl⟩)
            go_roundw
            case rel =>
              refine ⟨i + 1, by omega, by go_num, fun z' hz' => ?_, p + q, rfl⟩
              rw [take_succ_at HZ.out] at hz'
              rcases List.mem_append.1 hz' with h1 | h1
              · exact HNE.out z' h1
              · rw [List.mem_singleton.1 h1]; exact HZY.out
            case measure => simp [intOf]; omega
        · have hiI : ¬ (i : Int) < (bs K).length := by omega
          have hnL : y ∉ L := fun hm => by
            have := HNE.out
            rw [List.take_of_length_le (by rw [← HBR.out.1]; omega)] at this
            exact this y ((mem_buck HK.out).2 hm) rfl
          have HNL := Lib.hid hnL
          clear hnL
          go_wp2
          obtain ⟨X, hX⟩ : ∃ X, X = V.drewN p := ⟨_, rfl⟩
          have HFX := Lib.hid (show FAt base X F R (.slice Al us.length cl_) cs us bs L (fun k => buck L k) by rw [hX]; exact HFV.out.drewN p)
          have HSX := Lib.hid (show NumsP X (Fix X F R (.slice Al us.length cl_) cs) (.slice (some ⟨b, o, none⟩) 46 c) y by rw [hX]; exact HSV.out)
          have HXW := Lib.hid (show Touch (Mine F R (.slice Al us.length cl_) cs) W X ∧ X.heap.size = W.heap.size by rw [hX]; exact ⟨HVW.out.1.drewN p, HVW.out.2⟩)
          have HOX := Lib.hid (show X.ownsRow base 48 1 (.slice Ab (bs K).length cb) (bs K).length (bs K) by rw [hX]; exact HBO.out)
          rw [← hX] at g0 g1 g2
          rw [← hX]
          clear hX HFV HSV HVW HBO f0 f1 r0
          have e1 : (X.alloc (.cells #[.slice (some ⟨b, o, none⟩) 46 c] 48)).cell? ⟨F, 0, none⟩ = some (.slice (some ⟨R, 0, none⟩) 1009 1009) := (World.cell?_alloc_lt _ _ _ HFX.out.fblk.lt).trans g0
          have e2 : (X.alloc (.cells #[.slice (some ⟨b, o, none⟩) 46 c] 48)).cell? ⟨R, K, none⟩ = some (.slice Ab (bs K).length cb) := (World.cell?_alloc_lt _ _ _ HFX.out.rblk.lt).trans g2
          have HBB := Lib.hid HFX.out.bb
          go_region_law ((refine step_append_lies _ (by rfl) (.tmp 57) (.tmp 59) 43 (by rfl) base 48 i0 (.slice none 0 0) 1 24 Tryd.underlying43 hi hz0 hz1 hz2 rfl (by omega) (.slice Ab (bs K).length cb) (bs K).length (bs K) (by rfl) (World.ownsRow.alloc (show X.drew.ownsRow base 48 1 (.slice Ab (bs K).length cb) (bs K).length (bs K) from HOX.out) _) ⟨X.heap.size, 0, none⟩ 1 1 [.slice (some ⟨b, o, none⟩) 46 c] (by rfl) (by rfl) (one_cell (by simp)) (by intro u hu; simp at hu; subst hu; rfl) (by omega) (by unfold maxLen; omega) (by omega) (by have := HBB.out; simp; omega) (X.heap.size + 1) (by simp) ?_; intro ga capa w4 hown hgrow hat _; have HO4 := Lib.hid hown; have HG4 := Lib.hid hgrow; have HA4 := Lib.hid hat; obtain ⟨q0, q1, q2⟩ := HFX.out.grow HBV.out hgrow; clear hown hgrow hat))
          all_goals
            obtain ⟨hf5, ht5, hm5⟩ := HFX.out.bucket (o := .cells #[.slice (some ⟨b, o, none⟩) 46 c] 48) HBV.out HSX.out HO4.out ⟨HG4.out.os, HG4.out.tape, HG4.out.output, HG4.out.size, HG4.out.block⟩ HA4.out
            obtain ⟨Y, hYY⟩ : ∃ Y, Y = w4.setCell ⟨R, K, none⟩ (.slice (some ⟨ga, 0, none⟩) ((bs K).length + 1) capa) := ⟨_, rfl⟩
            rw [← hYY] at hf5 ht5
            rw [← hYY]
            have HF5 := Lib.hid hf5
            have HT5 := Lib.hid ht5
            have HM5 := Lib.hid hm5
            have HS5 := Lib.hid (HSX.out.keep (Fix.turn ht5 hm5) fun p hp => Fix.cell ht5 hp)
            have y1 : Y.cell? ⟨F, 1, none⟩ = some (.slice Al us.length cl_) := (hf5.fblk.cell 1).trans rfl
            clear hYY hf5 ht5 hm5 q0 q1 q2 HO4 HG4 HA4 e1 e2 g0 g1 g2
            go_wp2_with (at_builtin; refine wpList_append_lies _ rfl (.tmp 66) (.tmp 68) 43 rfl base 48 i0 (.slice none 0 0) 1 24 Tryd.underlying43 hi hz0 hz1 hz2 rfl (by omega) (.slice Al us.length cl_) us.length us rfl (HF5.out.own.alloc _) ⟨Y.heap.size, 0, none⟩ 1 1 [.slice (some ⟨b, o, none⟩) 46 c] rfl rfl (one_cell (by simp)) (by intro u hu; simp at hu; subst hu; rfl) (by omega) (by have := HF5.out.row.1; unfold maxLen; omega) (by have := HF5.out.row.1; omega) (by have := HF5.out.bb; simp; omega) (Y.heap.size + 1) (by simp) ?_; intro gl capl w6 hown hgrow hat _; have HO6 := Lib.hid hown; have HG6 := Lib.hid hgrow; have HA6 := Lib.hid hat; obtain ⟨q0, q1⟩ := HF5.out.growL hgrow; clear hown hgrow hat)
            obtain ⟨hf7, ht7, hm7⟩ := HF5.out.list (HS5.out) HCAP.out HO6.out HG6.out HA6.out
            have e1 : ins1 L y = L ++ [y] := by rw [ins1, if_neg HNL.out]
            have e2 : (fun k => buck (ins1 L y) k) = upd (fun k => buck L k) K (buck L K ++ [y]) := by rw [e1]; exact buck_snoc L K y HK.out
            refine bodyPost_end (results_none rfl _ _ _) rfl ⟨rfl, _, _, _, _, by rw [e2, e1]; exact hf7, (HXW.out.1.trans HT5.out fun b hb => Or.inl hb).trans ht7 fun b hb => (HM5.out b hb).imp id fun h1 => by have := HXW.out.2; omega, fun b hb => ?_⟩
            rcases hm7 b hb with h1 | h1
            · rcases HM5.out b h1 with h2 | h2
              · exact Or.inl h2
              · right; have := HXW.out.2; omega
            · right; have := HXW.out.2; have := HT5.out.size; omega
end Go.Proofs.YthpnnmkpbkbanaaDoor

/-
  What latchgarthref1.put answers.
-/
namespace Go.Proofs.YthpnnmkpbkbanaaDoor
open Go.RowKit

theorem filter_succ {ls : List (List Int)} {k : Nat} {z : List Int} (f : List Int → Bool) (h : ls[k]? = some z) : (ls.take (k + 1)).filter f = (ls.take k).filter f ++ (if f z = true then [z] else []) := by
  rw [take_succ_at h, List.filter_append]
  congr 1
  cases hf : f z <;> simp [hf]

theorem disj_len (f g : List Int → Bool) (hd : ∀ z, f z = true → g z = false) : ∀ l : List (List Int), (l.filter f).length + (l.filter g).length ≤ l.length
  | [] => by simp
  | z :: r => by
    have := disj_len f g hd r
    cases hf : f z with
    | true => have := hd z hf; simp [hf, this]; omega
    | false =>
      cases hg : g z <;> simp [hf, hg] <;> omega
theorem put_len {ls : List (List Int)} {x : List Int} (i : Nat) : (ls.filter (fun z => lessL z x) ++ [x] ++ (ls.take i).filter fun z => lessL x z).length ≤ ls.length + 1 := by
  have h1 := disj_len (fun z => lessL z x) (fun z => lessL x z) (fun z h => lessL_asymm h) ls
  have h2 : ((ls.take i).filter fun z => lessL x z).length ≤ (ls.filter fun z => lessL x z).length := (List.Sublist.filter _ (List.take_sublist i ls)).length_le
  simp only [List.length_append, List.length_singleton]
  omega
theorem Trow1.info : (Tryd.prog.info? 47).map (fun i => (i.zero, i.size, i.bytes)) = some (some (.slice none 0 0), 1, 24) := by kernel_rfl
/-- The new list so far: rows that were there, in a slice of its own. -/
structure PutI (w wr : World) (P : Nat → Prop) (ov : Value) (us : List Value) (rs : List (List Int)) : Prop where
  own : wr.ownsRow w.heap.size 47 1 ov us.length us
  row : RowsP w P us rs
  below : Below w.heap.size w wr
theorem PutI.more {w wr w2 : World} {P : Nat → Prop} {ov nv : Value} {us : List Value} {rs : List (List Int)} (h : PutI w wr P ov us rs) {u : Value} {z : List Int} (hu : NumsP w P u z) {q : Nat} {o : Obj} (hown : w2.ownsRow w.heap.size 47 1 nv (us.length + 1) (us ++ [u])) (hg : ((wr.drewN q).alloc o).grownBy w2 ov.ownBlock) : PutI w w2 P nv (us ++ [u]) (rs ++ [z]) := by
  refine ⟨by rw [List.length_append]; exact hown, h.row.snoc hu, ?_⟩
  have h1 : Below w.heap.size w (wr.drewN q) := below_drewN h.below q
  exact (h1.alloc h1.size o).grown hg (by have := h.below.size; simp; omega) fun k hk => (own_lt h.own hk).1
theorem PutI.fin {w wr : World} {P : Nat → Prop} {ov : Value} {us : List Value} {rs : List (List Int)} (h : PutI w wr P ov us rs) (hP : ∀ b, P b → b < w.heap.size) (hm : us.length ≤ 9223372036854775807) : RwsP wr (New P w wr) ov rs := by
  have hl := h.row.1
  rcases h.own.2 with ⟨rfl, h0⟩ | ⟨g, cp, cur, rfl, hg, hgh, hnc, hcm, hsz, htk⟩
  · exact ⟨none, 0, by rw [← hl, h0], by omega, fun h => by omega⟩
  · refine ⟨_, cp, by rw [hl], by omega, fun _ => ⟨g, 0, rfl, Or.inr ⟨hg, (Array.getElem?_eq_some_iff.1 hgh).1⟩, fun i y hy => ?_⟩⟩
    have hi : i < us.length := by rw [hl]; exact (List.getElem?_eq_some_iff.1 hy).1
    have hu : us[i]? = some us[i] := List.getElem?_eq_getElem hi
    refine ⟨us[i], ?_, (h.row.2 i _ y hu hy).keep (fun _ => Or.inl) fun p hp => h.below.cell (hP _ hp)⟩
    rw [Nat.zero_add]
    exact own_at h.own hu
set_option maxRecDepth 100000 in
set_option maxHeartbeats 4000000 in
theorem refput_any (ls : List (List Int)) (x : List Int) (lv xv : Value) (w : World) {P : Nat → Prop} (hP : ∀ b, P b → b < w.heap.size) (hl : RwsP w P lv ls) (hx : NumsP w P xv x) (hlen : ∀ z ∈ ls, z.length = x.length) (hfew : ls.length ≤ 4459118884992) :
    Calls Tryd.prog 20 #[lv, xv] w fun e w' => ∃ v, e = .returned v ∧ RwsP w' (New P w w') v (putL ls x) ∧ Below w.heap.size w w' := by
  have HX := Lib.hid hx
  have HP := Lib.hid hP
  have HLEN := Lib.hid hlen
  obtain ⟨A1, c1, rfl, _, hl⟩ := hl
  obtain ⟨A2, c2, rfl, _, _⟩ := hx
  have HL := Lib.hid hl
  obtain ⟨i0, hi, hz0, hz1, hz2⟩ := info_parts Trow1.info
  clear hl hP hlen
  go_enter Tryd.func20, Tryd.ntmps20
  go_wp2
  go_loopw [5, 6] (fun ov iv wr => ∃ (i : Nat) (us : List Value), i ≤ ls.length ∧ iv = .int .i64 i ∧ us.length ≤ i ∧ PutI w wr P ov us ((ls.take i).filter fun z => lessL z x)) (fun _ iv _ => ls.length - (intOf iv).toNat)
  case atStart => exact ⟨0, [], by omega, rfl, by simp, World.ownsRow_nil _ _ _ _, RowsP.nil _ _, Below.refl _ _⟩
  case round =>
    obtain ⟨i, us, hi_, rfl, hul, hpi⟩ := hrel
    have HPI := Lib.hid hpi
    obtain ⟨Ao, co, rfl, _⟩ := own_form hpi.own
    clear hpi
    by_cases hlt : i < ls.length
    · have hiI : (i : Int) < ls.length := by omega
      obtain ⟨b, o, rfl, hpb, hc⟩ := HL.out (by omega)
      obtain ⟨z, hz⟩ : ∃ z, ls[i]? = some z := ⟨_, List.getElem?_eq_getElem hlt⟩
      obtain ⟨u, hu, hnu⟩ := hc i z hz
      have g1 := (HPI.out.below.cell (p := ⟨b, o + i, none⟩) (HP.out b hpb)).trans hu
      have HNU := Lib.hid hnu
      have HZL := Lib.hid (HLEN.out z (List.mem_of_getElem? hz))
      have HW1 := Lib.hid ((hnu.nums HP.out).below HPI.out.below (Nat.le_refl _))
      have HW2 := Lib.hid ((HX.out.nums HP.out).below HPI.out.below (Nat.le_refl _))
      have HZ := Lib.hid hz
      obtain ⟨Au, cu, rfl, _, _⟩ := hnu
      clear hc hz hu
      by_cases hzx : lessL z x = true
      · skip
        have HE := Lib.hid (show (ls.take (i + 1)).filter (fun z => lessL z x) = (ls.take i).filter (fun z => lessL z x) ++ [z] by rw [filter_succ _ HZ.out, if_pos hzx])
        go_wp2_with (first | (go_at_call 40; (with_reducible refine (refless_any z x _ _ _ _ _ HW1.out HW2.out HZL.out).mono ?_); rw [hzx]; rintro e w5 ⟨rfl, q, rfl⟩; have g2 : (wr.drewN q).cell? ⟨b, o + i, none⟩ = some (.slice Au z.length cu) := g1) | (at_builtin; refine wpList_append_lies _ rfl (.tmp 20) (.tmp 25) 26 rfl w.heap.size 47 i0 (.slice none 0 0) 1 24 Tryd.underlying26 hi hz0 hz1 hz2 rfl (by omega) (.slice Ao us.length co) us.length us rfl (World.ownsRow.alloc (show (wr.drewN q).ownsRow w.heap.size 47 1 (.slice Ao us.length co) us.length us from HPI.out.own) _) ⟨wr.heap.size, 0, none⟩ 1 1 [.slice Au z.length cu] rfl rfl (one_cell (by simp [World.drewN])) (by intro u hu; simp at hu; subst hu; rfl) (by omega) (by unfold maxLen; omega) (by omega) (by have := HPI.out.below.size; simp [World.drewN]; omega) (wr.heap.size + 1) (by simp [World.drewN]) ?_; intro ga capa w4 hown hgrow _ _; have HPN := Lib.hid (HPI.out.more (q := q) HNU.out hown hgrow); clear hown hgrow))
        go_roundw
        case rel => exact ⟨i + 1, us ++ [_], by omega, by go_num, by simp; omega, by rw [HE.out]; exact HPN.out⟩
        case measure => simp [intOf]; omega
      · have hzx' : lessL z x = false := by simpa using hzx
        have HE := Lib.hid (show (ls.take (i + 1)).filter (fun z => lessL z x) = (ls.take i).filter (fun z => lessL z x) by rw [filter_succ _ HZ.out, if_neg hzx, List.append_nil])
        go_wp2_with (go_at_call 40; (with_reducible refine (refless_any z x _ _ _ _ _ HW1.out HW2.out HZL.out).mono ?_); rw [hzx']; rintro e w5 ⟨rfl, q, rfl⟩)
        go_roundw
        case rel => exact ⟨i + 1, us, by omega, by go_num, by omega, by rw [HE.out]; exact ⟨HPI.out.own, HPI.out.row, below_drewN HPI.out.below q⟩⟩
        case measure => simp [intOf]; omega
    · have hiI : ¬ (i : Int) < ls.length := by omega
      have HE0 := Lib.hid (show ls.take i = ls from List.take_of_length_le (by omega))
      have HXN := Lib.hid (show NumsP w P (.slice A2 x.length c2) x from HX.out)
      have q : Nat := 0
      go_wp2_with (at_builtin; refine wpList_append_lies _ rfl (.tmp 27) (.tmp 29) 26 rfl w.heap.size 47 i0 (.slice none 0 0) 1 24 Tryd.underlying26 hi hz0 hz1 hz2 rfl (by omega) (.slice Ao us.length co) us.length us rfl (World.ownsRow.alloc (show wr.ownsRow w.heap.size 47 1 (.slice Ao us.length co) us.length us from HPI.out.own) _) ⟨wr.heap.size, 0, none⟩ 1 1 [.slice A2 x.length c2] rfl rfl (one_cell (by simp)) (by intro u hu; simp at hu; subst hu; rfl) (by omega) (by unfold maxLen; omega) (by omega) (by have := HPI.out.below.size; simp; omega) (wr.heap.size + 1) (by simp) ?_; intro ga capa w4 hown hgrow _ _; have HPN := Lib.hid (HPI.out.more (q := 0) HXN.out hown hgrow); clear hown hgrow)
      rw [HE0.out] at HPN
      obtain ⟨us1, hus1⟩ : ∃ us1, us1 = us ++ [.slice A2 x.length c2] := ⟨_, rfl⟩
      obtain ⟨nv, hnv⟩ : ∃ nv : Value, nv = .slice (some ⟨ga, 0, none⟩) (us.length + 1) capa := ⟨_, rfl⟩
      rw [← hus1, ← hnv] at HPN
      have hul1 : us1.length ≤ ls.length + 1 := by rw [hus1]; simp; omega
      rw [← hnv]
      clear hus1 hnv hiI HPI hul
      go_loopw [5, 7] (fun ov iv wr => ∃ (i : Nat) (us : List Value), i ≤ ls.length ∧ iv = .int .i64 i ∧ PutI w wr P ov us (ls.filter (fun z => lessL z x) ++ [x] ++ (ls.take i).filter fun z => lessL x z)) (fun _ iv _ => ls.length - (intOf iv).toNat)
      case atStart => exact ⟨0, us1, by omega, rfl, by simpa using HPN.out⟩
      case round =>
        clear HPN
        obtain ⟨i, us, hi_, rfl, hpi⟩ := hrel
        have hul : us.length ≤ ls.length + 1 := by rw [hpi.row.1]; exact put_len i
        have HPI := Lib.hid hpi
        obtain ⟨Ao, co, rfl, _⟩ := own_form hpi.own
        clear hpi
        by_cases hlt : i < ls.length
        · have hiI : (i : Int) < ls.length := by omega
          obtain ⟨b, o, rfl, hpb, hc⟩ := HL.out (by omega)
          obtain ⟨z, hz⟩ : ∃ z, ls[i]? = some z := ⟨_, List.getElem?_eq_getElem hlt⟩
          obtain ⟨u, hu, hnu⟩ := hc i z hz
          have g1 := (HPI.out.below.cell (p := ⟨b, o + i, none⟩) (HP.out b hpb)).trans hu
          have HNU := Lib.hid hnu
          have HZL := Lib.hid (HLEN.out z (List.mem_of_getElem? hz))
          have HW1 := Lib.hid ((hnu.nums HP.out).below HPI.out.below (Nat.le_refl _))
          have HW2 := Lib.hid ((HX.out.nums HP.out).below HPI.out.below (Nat.le_refl _))
          have HZ := Lib.hid hz
          obtain ⟨Au, cu, rfl, _, _⟩ := hnu
          clear hc hz hu
          by_cases hzx : lessL x z = true
          · skip
            have HE := Lib.hid (show (ls.take (i + 1)).filter (fun z => lessL x z) = (ls.take i).filter (fun z => lessL x z) ++ [z] by rw [filter_succ _ HZ.out, if_pos hzx])
            go_wp2_with (first | (go_at_call 40; (with_reducible refine (refless_any x z _ _ _ _ _ HW2.out HW1.out HZL.out.symm).mono ?_); rw [hzx]; rintro e w5 ⟨rfl, q, rfl⟩; have g2 : (wr.drewN q).cell? ⟨b, o + i, none⟩ = some (.slice Au z.length cu) := g1) | (at_builtin; refine wpList_append_lies _ rfl (.tmp 43) (.tmp 48) 26 rfl w.heap.size 47 i0 (.slice none 0 0) 1 24 Tryd.underlying26 hi hz0 hz1 hz2 rfl (by omega) (.slice Ao us.length co) us.length us rfl (World.ownsRow.alloc (show (wr.drewN q).ownsRow w.heap.size 47 1 (.slice Ao us.length co) us.length us from HPI.out.own) _) ⟨wr.heap.size, 0, none⟩ 1 1 [.slice Au z.length cu] rfl rfl (one_cell (by simp [World.drewN])) (by intro u hu; simp at hu; subst hu; rfl) (by omega) (by unfold maxLen; omega) (by omega) (by have := HPI.out.below.size; simp [World.drewN]; omega) (wr.heap.size + 1) (by simp [World.drewN]) ?_; intro ga capa w4 hown hgrow _ _; have HPN := Lib.hid (HPI.out.more (q := q) HNU.out hown hgrow); clear hown hgrow))
            go_roundw
            case rel => exact ⟨i + 1, us ++ [_], by omega, by go_num, by rw [HE.out, ← List.append_assoc]; exact HPN.out⟩
            case measure => simp [intOf]; omega
          · have hzx' : lessL x z = false := by simpa using hzx
            have HE := Lib.hid (show (ls.take (i + 1)).filter (fun z => lessL x z) = (ls.take i).filter (fun z => lessL x z) by rw [filter_succ _ HZ.out, if_neg hzx, List.append_nil])
            go_wp2_with (go_at_call 40; (with_reducible refine (refless_any x z _ _ _ _ _ HW2.out HW1.out HZL.out.symm).mono ?_); rw [hzx']; rintro e w5 ⟨rfl, q, rfl⟩)
            go_roundw
            case rel => exact ⟨i + 1, us, by omega, by go_num, by rw [HE.out]; exact ⟨HPI.out.own, HPI.out.row, below_drewN HPI.out.below q⟩⟩
            case measure => simp [intOf]; omega
        · have hiI : ¬ (i : Int) < ls.length := by omega
          go_wp2
          go_ret
          have hfin := HPI.out.fin HP.out (by omega)
          rw [List.take_of_length_le (by omega)] at hfin
          exact ⟨_, rfl, by rw [putL]; simpa using hfin, HPI.out.below⟩
end Go.Proofs.YthpnnmkpbkbanaaDoor
