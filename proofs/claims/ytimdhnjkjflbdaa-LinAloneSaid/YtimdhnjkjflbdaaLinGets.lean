/-
  latchgarthref4.Gets.
-/
import Derived.Test.YtimdhnjkjflbdaaLinRow
namespace Go.Proofs.Ytimdhnjkjflbdaa.Lin
open Go.RowKit

/-- Numbers as read, with room as slices have it. -/
def NumsC (w : World) (B : Nat) (v : Value) (zs : List Int) : Prop :=
  ∃ A c, v = .slice A zs.length c ∧ (zs.length ≤ c ∧ c ≤ 9223372036854775807) ∧
    (0 < zs.length → ∃ b o, A = some ⟨b, o, none⟩ ∧ b < B ∧ ∀ (i : Nat) z, zs[i]? = some z → w.cell? ⟨b, o + i, none⟩ = some (.int .i64 z))
section
variable {w w' : World} {B B' : Nat} {v : Value} {zs : List Int}
theorem NumsC.below (h : NumsC w B v zs) (hb : Below B' w w') (hB : B ≤ B') : NumsC w' B v zs := by
  obtain ⟨A, c, e, hl, hf⟩ := h
  refine ⟨A, c, e, hl, fun h0 => ?_⟩
  obtain ⟨b, o, e1, hb1, hc⟩ := hf h0
  exact ⟨b, o, e1, hb1, fun i z hz => (hb.cell (p := ⟨b, o + i, none⟩) (Nat.lt_of_lt_of_le hb1 hB)).trans (hc i z hz)⟩
theorem NumsC.more (h : NumsC w B v zs) (hB : B ≤ B') : NumsC w B' v zs := by
  obtain ⟨A, c, e, hl, hf⟩ := h
  refine ⟨A, c, e, hl, fun h0 => ?_⟩
  obtain ⟨b, o, e1, hb1, hc⟩ := hf h0
  exact ⟨b, o, e1, Nat.lt_of_lt_of_le hb1 hB, hc⟩
theorem NumsC.nil (w : World) (B : Nat) (A : Option Addr) (c : Nat) (hc : c ≤ 9223372036854775807) : NumsC w B (.slice A 0 c) [] := ⟨A, c, rfl, ⟨Nat.zero_le _, hc⟩, fun h => by simp at h⟩
theorem NumsC.own {base : Nat} (h : w.ownsRow base 3 1 v zs.length (zs.map (Value.int .i64))) : NumsC w w.heap.size v zs := by
  rcases h.2 with ⟨e, h0⟩ | ⟨g, cap, cur, e, h1, h2, h3, h4, _⟩
  · exact ⟨none, 0, by rw [e, h0], by omega, fun h => by omega⟩
  · unfold maxLen at h4
    refine ⟨_, cap, e, ⟨h3, by omega⟩, fun _ => ⟨g, 0, rfl, (Array.getElem?_eq_some_iff.1 h2).1, fun i z hz => ?_⟩⟩
    have h5 := h.cells (show v.ownBlock = some g by rw [e]; rfl) i (.int .i64 z) (by rw [List.getElem?_map, hz]; rfl)
    rw [Addr.add_lit] at h5
    exact h5
end
section
variable {P : Program}
theorem run_append_zero (w : World) (t ty e : TypeId) (i : TypeInfo) (ht : P.underlying t = some (.slice e)) (hi : P.info? e = some i) (a : Option Addr) (c : Nat) :
    (Builtin.append_ #[t, t] ty #[.slice none 0 0, .slice a 0 c]).run P w = .ok (.slice none 0 0) w := by
  cases a <;> simp [Builtin.append_, run_underlying ht, sizeOf, typeInfo, hi, Builtin.lenOf, Builtin.firstCells, loadCells, loadCellsFrom]
theorem wpList_append_zero {w : World} {ops : Array Oper} {rest : List Oper} {o : Oper} {a : Act} {Q : Exit → Act → World → Prop} (hg : o.guard = none) (s x : Operand) (t : TypeId)
    (hop : o.op = Op.call { callee := Callee.builtin Builtin.append, args := #[s, x], argTypes := #[t, t] }) (e : TypeId) (i : TypeInfo) (ht : P.underlying t = some (.slice e)) (hi : P.info? e = some i)
    (hs : a.eval s = .slice none 0 0) (A : Option Addr) (c : Nat) (hx : a.eval x = .slice A 0 c) (h : wpList P ops Q rest (a.put o.dst (.slice none 0 0)) w) : wpList P ops Q (o :: rest) a w := by
  refine wpList_plain hg fun K hK' => ?_
  have hrun := run_append_zero (P := P) w t o.type e i ht hi A c
  unfold Oper.wp
  simp [execOp, hop, resolve, invoke, builtin, hs, hx, hrun, Result.andThen]
  exact hK' _ _ h
end
theorem NumsC.made (W : World) (z : Int) : NumsC (W.alloc (.cells #[.int .i64 z] 3)).drew (W.alloc (.cells #[.int .i64 z] 3)).drew.heap.size (.slice (some ⟨W.heap.size, 0, none⟩) 1 1) [z] := by
  refine ⟨some ⟨W.heap.size, 0, none⟩, 1, rfl, ⟨by simp, by simp⟩, fun _ => ⟨W.heap.size, 0, rfl, by simp, fun i u hu => ?_⟩⟩
  have hi : i = 0 := by have := (List.getElem?_eq_some_iff.1 hu).1; simp at this; exact this
  subst hi
  have : z = u := by simpa using hu
  rw [← this]
  show (W.alloc _).cell? _ = _
  simp
set_option maxHeartbeats 8000000 in
set_option maxRecDepth 100000 in
theorem kgets_add (hd gt fr tz x : Int) (s : Int) (l : List Int) (v : Value) (w : World) (h : NumsC w w.heap.size v (s :: l)) (hs : -1000000000 ≤ s ∧ s ≤ 1000000000) (hx : 0 ≤ x ∧ x ≤ 1000) :
    Calls Try.prog 30 #[.int .i64 0, v, .agg #[.int .i64 hd, .int .i64 0, .int .i64 x, .int .i64 gt, .int .i64 fr, .int .i64 tz]] w fun e w' =>
      (∃ u, e = .returned (.tuple #[u, .int .i64 s]) ∧ NumsC w' w'.heap.size u [s + x]) ∧ Below w.heap.size w w' := by
  obtain ⟨A, c, rfl, ⟨hl1, hl2⟩, hf⟩ := h
  obtain ⟨b, o, rfl, hb, hc⟩ := hf (by simp)
  have h0 := hc 0 s rfl
  rw [Nat.add_zero] at h0
  have hp : 0 < (s :: l).length := by simp
  generalize (s :: l).length = n at hp hl1 ⊢
  obtain ⟨hs1, hs2⟩ := hs
  obtain ⟨hx1, hx2⟩ := hx
  have h0a := (World.cell?_alloc_lt w (.cells #[.int .i64 hd, .int .i64 0, .int .i64 x, .int .i64 gt, .int .i64 fr, .int .i64 tz] 34) ⟨b, o, none⟩ hb).trans h0
  have hbo := (Below.refl w.heap.size w).alloc (Nat.le_refl _) (.cells #[.int .i64 hd, .int .i64 0, .int .i64 x, .int .i64 gt, .int .i64 fr, .int .i64 tz] 34)
  have HM := Lib.hid (NumsC.made (w.alloc (.cells #[.int .i64 hd, .int .i64 0, .int .i64 x, .int .i64 gt, .int .i64 fr, .int .i64 tz] 34)) (s + x))
  rw [show (w.alloc (.cells #[.int .i64 hd, .int .i64 0, .int .i64 x, .int .i64 gt, .int .i64 fr, .int .i64 tz] 34)).heap.size = w.heap.size + 1 by simp] at HM
  clear hf hc
  go_enter Try.func30, Try.ntmps30
  go_wp2_with fail
  go_region
  all_goals
    go_wp2
    go_ret2
    exact ⟨⟨.slice (some ⟨w.heap.size + 1, 0, none⟩) 1 1, rfl, HM.out⟩, below_drewN (hbo.alloc (by simp) _) 1⟩
set_option maxHeartbeats 8000000 in
set_option maxRecDepth 100000 in
theorem kgets_see (hd gt fr tz x : Int) (s : Int) (l : List Int) (v : Value) (w : World) (h : NumsC w w.heap.size v (s :: l))  :
    Calls Try.prog 30 #[.int .i64 0, v, .agg #[.int .i64 hd, .int .i64 1, .int .i64 x, .int .i64 gt, .int .i64 fr, .int .i64 tz]] w fun e w' =>
      (∃ u, e = .returned (.tuple #[u, .int .i64 s]) ∧ NumsC w' w'.heap.size u (s :: l)) ∧ Below w.heap.size w w' := by
  have HN := Lib.hid (fun (w' : World) (hb : Below w.heap.size w w') => (h.below hb (Nat.le_refl _)).more hb.size)
  obtain ⟨A, c, rfl, ⟨hl1, hl2⟩, hf⟩ := h
  obtain ⟨b, o, rfl, hb, hc⟩ := hf (by simp)
  have h0 := hc 0 s rfl
  rw [Nat.add_zero] at h0
  have hp : 0 < (s :: l).length := by simp
  generalize (s :: l).length = n at hp hl1 HN ⊢
  have h0a := (World.cell?_alloc_lt w (.cells #[.int .i64 hd, .int .i64 1, .int .i64 x, .int .i64 gt, .int .i64 fr, .int .i64 tz] 34) ⟨b, o, none⟩ hb).trans h0
  have hbo := (Below.refl w.heap.size w).alloc (Nat.le_refl _) (.cells #[.int .i64 hd, .int .i64 1, .int .i64 x, .int .i64 gt, .int .i64 fr, .int .i64 tz] 34)
  clear hf hc
  go_enter Try.func30, Try.ntmps30
  go_wp2_with fail
  go_region
  all_goals
    go_wp2
    go_ret2
    exact ⟨⟨_, rfl, HN.out _ (below_drewN hbo 1)⟩, below_drewN hbo 1⟩
set_option maxHeartbeats 8000000 in
set_option maxRecDepth 100000 in
theorem kgets_none (hd gt fr tz x : Int) (ob : Int) (v : Value) (w : World) (h : NumsC w w.heap.size v []) (ho : ob ≠ 0) :
    Calls Try.prog 30 #[.int .i64 ob, v, .agg #[.int .i64 hd, .int .i64 1, .int .i64 x, .int .i64 gt, .int .i64 fr, .int .i64 tz]] w fun e w' =>
      (∃ u, e = .returned (.tuple #[u, .int .i64 (-1)]) ∧ NumsC w' w'.heap.size u []) ∧ Below w.heap.size w w' := by
  have ho0 : (ob == 0) = false := beq_eq_false_iff_ne.2 ho
  obtain ⟨A, c, rfl, ⟨hl1, hl2⟩, -⟩ := h
  have hbo := (Below.refl w.heap.size w).alloc (Nat.le_refl _) (.cells #[.int .i64 hd, .int .i64 1, .int .i64 x, .int .i64 gt, .int .i64 fr, .int .i64 tz] 34)
  clear ho
  go_enter Try.func30, Try.ntmps30
  go_wp2
  go_ret2
  exact ⟨⟨_, rfl, NumsC.nil _ _ _ _ hl2⟩, hbo⟩
set_option maxHeartbeats 8000000 in
set_option maxRecDepth 100000 in
theorem kgets_last (hd gt fr tz x : Int) (l : List Int) (z : Int) (v : Value) (w : World) (h : NumsC w w.heap.size v (l ++ [z])) (hl : l.length ≤ 1000) :
    Calls Try.prog 30 #[.int .i64 1, v, .agg #[.int .i64 hd, .int .i64 1, .int .i64 x, .int .i64 gt, .int .i64 fr, .int .i64 tz]] w fun e w' =>
      (∃ u, e = .returned (.tuple #[u, .int .i64 z]) ∧ NumsC w' w'.heap.size u l) ∧ Below w.heap.size w w' := by
  obtain ⟨A, c, rfl, ⟨hl1, hl2⟩, hf⟩ := h
  obtain ⟨b, o, rfl, hb, hc⟩ := hf (by simp)
  have h0 := hc l.length z (by simp)
  have h0a := (World.cell?_alloc_lt w (.cells #[.int .i64 hd, .int .i64 1, .int .i64 x, .int .i64 gt, .int .i64 fr, .int .i64 tz] 34) ⟨b, o + l.length, none⟩ hb).trans h0
  have hbo := (Below.refl w.heap.size w).alloc (Nat.le_refl _) (.cells #[.int .i64 hd, .int .i64 1, .int .i64 x, .int .i64 gt, .int .i64 fr, .int .i64 tz] 34)
  have HC := Lib.hid (fun (w' : World) (hb' : Below w.heap.size w w') (i : Nat) (u : Int) (hu : l[i]? = some u) => (hb'.cell (p := ⟨b, o + i, none⟩) hb).trans (hc i u (by rw [List.getElem?_append_left (List.getElem?_eq_some_iff.1 hu).1]; exact hu)))
  have hn : (l ++ [z]).length = l.length + 1 := by simp
  rw [hn] at hl1 ⊢
  have hcl : l.length ≤ c := by omega
  clear hf hc hn
  go_enter Try.func30, Try.ntmps30
  go_wp2_with fail
  go_region
  all_goals
    go_wp2
    go_ret2
    exact ⟨⟨.slice (some ⟨b, o, none⟩) l.length c, rfl, ⟨_, c, rfl, ⟨hcl, hl2⟩, fun _ => ⟨b, o, rfl, Nat.lt_of_lt_of_le hb (below_drewN hbo 1).size, HC.out _ (below_drewN hbo 1)⟩⟩⟩, below_drewN hbo 1⟩
set_option maxHeartbeats 8000000 in
set_option maxRecDepth 100000 in
theorem kgets_first (hd gt fr tz x : Int) (l : List Int) (z : Int) (v : Value) (w : World) (h : NumsC w w.heap.size v (z :: l)) (hl : l.length ≤ 1000) :
    Calls Try.prog 30 #[.int .i64 2, v, .agg #[.int .i64 hd, .int .i64 1, .int .i64 x, .int .i64 gt, .int .i64 fr, .int .i64 tz]] w fun e w' =>
      (∃ u, e = .returned (.tuple #[u, .int .i64 z]) ∧ NumsC w' w'.heap.size u l) ∧ Below w.heap.size w w' := by
  obtain ⟨A, c, rfl, ⟨hl1, hl2⟩, hf⟩ := h
  obtain ⟨b, o, rfl, hb, hc⟩ := hf (by simp)
  have h0 := hc 0 z rfl
  rw [Nat.add_zero] at h0
  have h0a := (World.cell?_alloc_lt w (.cells #[.int .i64 hd, .int .i64 1, .int .i64 x, .int .i64 gt, .int .i64 fr, .int .i64 tz] 34) ⟨b, o, none⟩ hb).trans h0
  have hbo := (Below.refl w.heap.size w).alloc (Nat.le_refl _) (.cells #[.int .i64 hd, .int .i64 1, .int .i64 x, .int .i64 gt, .int .i64 fr, .int .i64 tz] 34)
  have HC := Lib.hid (fun (w' : World) (hb' : Below w.heap.size w w') (i : Nat) (u : Int) (hu : l[i]? = some u) => show w'.cell? ⟨b, o + 1 + i, none⟩ = some (.int .i64 u) from (hb'.cell (p := ⟨b, o + 1 + i, none⟩) hb).trans (by rw [show o + 1 + i = o + (i + 1) by omega]; exact hc (i + 1) u hu))
  have hn : (z :: l).length = l.length + 1 := rfl
  rw [hn] at hl1 ⊢
  have hcl : l.length ≤ c - 1 := by omega
  clear hf hc hn
  go_enter Try.func30, Try.ntmps30
  go_wp2_with fail
  go_region
  all_goals go_wp2
  all_goals go_ret2
  all_goals first
    | exact ⟨⟨.slice (some ⟨b, o + 1, none⟩) l.length (c - 1), rfl, ⟨_, c - 1, rfl, ⟨hcl, by omega⟩, fun _ => ⟨b, o + 1, rfl, Nat.lt_of_lt_of_le hb (below_drewN hbo 1).size, HC.out _ (below_drewN hbo 1)⟩⟩⟩, below_drewN hbo 1⟩
    | exact ⟨⟨.slice (some ⟨b, o, none⟩) l.length 0, rfl, ⟨_, 0, rfl, ⟨by omega, by omega⟩, fun h0 => by omega⟩⟩, below_drewN hbo 1⟩
set_option maxHeartbeats 8000000 in
set_option maxRecDepth 100000 in
/-- In, of a stack or a queue. -/
theorem kgets_in (ob : Int) (hd gt fr tz x : Int) (l : List Int) (v : Value) (w : World) (h : NumsC w w.heap.size v l) (ho : ob ≠ 0) (hl : l.length ≤ 1000) :
    Calls Try.prog 30 #[.int .i64 ob, v, .agg #[.int .i64 hd, .int .i64 0, .int .i64 x, .int .i64 gt, .int .i64 fr, .int .i64 tz]] w fun e w' =>
      (∃ u, e = .returned (.tuple #[u, .int .i64 (-1)]) ∧ NumsC w' w'.heap.size u (l ++ [x])) ∧ Below w.heap.size w w' := by
  have ho0 : (ob == 0) = false := beq_eq_false_iff_ne.2 ho
  clear ho
  obtain ⟨i0, hi0, hz0, hz1, hz2⟩ := info_parts Tint.info
  have hbo := (Below.refl w.heap.size w).alloc (Nat.le_refl _) (.cells #[.int .i64 hd, .int .i64 0, .int .i64 x, .int .i64 gt, .int .i64 fr, .int .i64 tz] 34)
  have HBO := Lib.hid hbo; clear hbo
  have hfin : ∀ (w2 : World) (q cap : Nat) (ys : List Value), w2.ownsRow w.heap.size 3 1 (.slice (some ⟨q, 0, none⟩) (l.length + 1) cap) (l.length + 1) ys → ys = (l ++ [x]).map (Value.int .i64) → NumsC w2 w2.heap.size (.slice (some ⟨q, 0, none⟩) (l.length + 1) cap) (l ++ [x]) := fun w2 q cap ys ho hy =>
    NumsC.own (base := w.heap.size) (by rw [List.length_append, ← hy]; exact ho)
  obtain ⟨A, c, rfl, ⟨hl1, hl2⟩, hf⟩ := h
  by_cases h0 : l = []
  · subst h0
    have HFI := Lib.hid hfin
    clear hfin hf
    rw [show ([] : List Int).length = 0 from rfl]
    go_enter Try.func30, Try.ntmps30
    go_wp2_with (first | (at_builtin; refine wpList_append_zero rfl (.tmp 31) (.tmp 32) 23 rfl 3 i0 Try.underlying23 hi0 rfl A c rfl ?_) | (at_builtin; refine wpList_append_lies _ rfl (.tmp 34) (.tmp 37) 23 rfl w.heap.size 3 i0 (.int .i64 0) 1 8 Try.underlying23 hi0 hz0 hz1 hz2 rfl (by omega) (.slice none 0 0) 0 [] rfl (World.ownsRow_nil _ _ _ _) ⟨w.heap.size + 1, 0, none⟩ 1 1 [.int .i64 x] rfl (by rfl) (one_cell (by simp)) (by intro u hu; simp at hu; subst hu; rfl) (by omega) (by unfold maxLen; omega) (by omega) (by simp; omega) (w.heap.size + 2) (by simp) ?_; intro q cap w2 hown hgrow hat hlt; have HO := Lib.hid hown; have HG := Lib.hid hgrow; clear hown hgrow hat hlt))
    go_ret2
    exact ⟨⟨.slice (some ⟨q, 0, none⟩) 1 cap, rfl, HFI.out _ q cap _ HO.out (by simp)⟩, (HBO.out.alloc (by simp) _).grown HG.out (by simp; omega) fun k hk => by cases hk⟩
  · have hpos : 0 < l.length := by cases l with
      | nil => exact absurd rfl h0
      | cons => simp
    obtain ⟨b, o, rfl, hb, hcc⟩ := hf hpos
    have hcell : ∀ j u, (l.map (Value.int .i64))[j]? = some u → (w.alloc (.cells #[.int .i64 hd, .int .i64 0, .int .i64 x, .int .i64 gt, .int .i64 fr, .int .i64 tz] 34)).cell? ((⟨b, o, none⟩ : Addr).add j) = some u := fun j u hj => by
      rw [Addr.add_lit, World.cell?_alloc_lt _ _ ⟨b, o + j, none⟩ hb]
      rw [List.getElem?_map] at hj
      rcases hx : l[j]? with _ | x
      · rw [hx] at hj; cases hj
      · rw [hx] at hj; cases hj; exact hcc j x hx
    obtain ⟨n, hn⟩ : ∃ n, n = l.length := ⟨_, rfl⟩
    rw [← hn] at hfin hl1 ⊢
    have hn0 : 0 < n := by omega
    have hn8 : n ≤ 1000 := by omega
    have HFI := Lib.hid hfin
    have HC := Lib.hid hcell
    have HN := Lib.hid hn
    clear hcell hcc hb hn hl hfin hpos h0 hf
    go_enter Try.func30, Try.ntmps30
    go_upto_region 8 with (at_builtin; refine wpList_append_lies _ rfl (.tmp 31) (.tmp 32) 23 rfl w.heap.size 3 i0 (.int .i64 0) 1 8 Try.underlying23 hi0 hz0 hz1 hz2 rfl (by omega) (.slice none 0 0) 0 [] rfl (World.ownsRow_nil _ _ _ _) ⟨b, o, none⟩ n c (l.map (Value.int .i64)) rfl (by simp [HN.out]) HC.out (by intro u hu; obtain ⟨z, _, rfl⟩ := List.mem_map.1 hu; rfl) hn0 (by unfold maxLen; omega) (by omega) (by simp) (w.heap.size + 1) (by simp) ?_; intro q cap w1 hown hgrow hat hlt; have HO := Lib.hid hown; have HG := Lib.hid hgrow; clear hown hgrow hat hlt)
    have ho : w1.ownsRow w.heap.size 3 1 (.slice (some ⟨q, 0, none⟩) n cap) n (l.map (Value.int .i64)) := by have := HO.out; rwa [Nat.zero_add, List.nil_append] at this
    have hb1 : Below w.heap.size w w1 := HBO.out.grown HG.out (by simp) fun k hk => by cases hk
    have hx1 : w1.cell? ⟨w.heap.size, 2, none⟩ = some (.int .i64 x) := by
      have ht := (Touch.refl (fun _ => False) (w.alloc (.cells #[.int .i64 hd, .int .i64 0, .int .i64 x, .int .i64 gt, .int .i64 fr, .int .i64 tz] 34))).grown HG.out (fun k hk => by cases hk)
      rw [ht.cell (p := ⟨w.heap.size, 2, none⟩) (by simp) (fun e => e)]
      simp
    have HO1 := Lib.hid ho
    have HB1 := Lib.hid hb1
    have hs1 := hb1.size
    have hs2 : w.heap.size < w1.heap.size := lt_of_cell hx1
    clear ho hb1 HO HG HC
    go_wp2_with (at_builtin; refine wpList_append_lies _ rfl (.tmp 34) (.tmp 37) 23 rfl w.heap.size 3 i0 (.int .i64 0) 1 8 Try.underlying23 hi0 hz0 hz1 hz2 rfl (by omega) (.slice (some ⟨q, 0, none⟩) n cap) n (l.map (Value.int .i64)) rfl (own_touch HO1.out ((Touch.refl (fun _ => False) w1).alloc _) fun _ _ e => e) ⟨w1.heap.size, 0, none⟩ 1 1 [.int .i64 x] rfl (by rfl) (one_cell (by simp)) (by intro u hu; simp at hu; subst hu; rfl) (by omega) (by unfold maxLen; omega) (by omega) (by simp; omega) (w1.heap.size + 1) (by simp) ?_; intro q2 cap2 w2 hown hgrow hat hlt; have HO := Lib.hid hown; have HG := Lib.hid hgrow; clear hown hgrow hat hlt)
    go_ret2
    exact ⟨⟨.slice (some ⟨q2, 0, none⟩) (n + 1) cap2, rfl, HFI.out _ q2 cap2 _ HO.out (by simp)⟩, ((HB1.out.alloc hs1 _).grown HG.out (by simp; omega) fun k hk => by have := (HO1.out.lt k hk).1; omega)⟩
/-- What Gets answers. -/
theorem kgets_any (ob : Nat) (h2 : ob ≤ 2) (o : LO) (hk : 0 ≤ o.kd ∧ o.kd ≤ 1) (ha : 0 ≤ o.ar ∧ o.ar ≤ 1000) (has : List Int) (hc : ob = 0 → has ≠ []) (hs : ∀ z, z ∈ has → -1000000000 ≤ z ∧ z ≤ 1000000000) (hl : has.length ≤ 900) (v : Value) (w : World) (h : NumsC w w.heap.size v has) :
    Calls Try.prog 30 #[.int .i64 ob, v, .agg #[.int .i64 o.hd, .int .i64 o.kd, .int .i64 o.ar, .int .i64 o.gt, .int .i64 o.fr, .int .i64 o.to]] w fun e w' =>
      (∃ u, e = .returned (.tuple #[u, .int .i64 (lgets ob o.kd.toNat o.ar has).2]) ∧ NumsC w' w'.heap.size u (lgets ob o.kd.toNat o.ar has).1) ∧ Below w.heap.size w w' := by
  rcases (show o.kd = 0 ∨ o.kd = 1 by omega) with e | e
  · rw [e]
    match ob, h2 with
    | 0, _ =>
      cases has with
      | nil => exact absurd rfl (hc rfl)
      | cons s l => exact kgets_add o.hd o.gt o.fr o.to o.ar s l v w h (hs s (by simp)) ha
    | 1, _ => exact kgets_in 1 o.hd o.gt o.fr o.to o.ar has v w h (by decide) (by omega)
    | 2, _ => exact kgets_in 2 o.hd o.gt o.fr o.to o.ar has v w h (by decide) (by omega)
  · rw [e]
    match ob, h2 with
    | 0, _ =>
      cases has with
      | nil => exact absurd rfl (hc rfl)
      | cons s l => exact kgets_see o.hd o.gt o.fr o.to o.ar s l v w h
    | 1, _ =>
      rcases List.eq_nil_or_concat has with rfl | ⟨l, z, rfl⟩
      · exact kgets_none o.hd o.gt o.fr o.to o.ar 1 v w h (by decide)
      · rw [List.concat_eq_append] at h hl ⊢
        have e1 : lgets 1 ((1 : Int).toNat) o.ar (l ++ [z]) = (l, z) := by
          unfold lgets
          rw [if_neg (by decide), if_neg (by decide), if_neg (by simp), if_pos rfl]
          simp
        rw [e1]
        exact kgets_last o.hd o.gt o.fr o.to o.ar l z v w h (by simp at hl; omega)
    | 2, _ =>
      cases has with
      | nil => exact kgets_none o.hd o.gt o.fr o.to o.ar 2 v w h (by decide)
      | cons z l => exact kgets_first o.hd o.gt o.fr o.to o.ar l z v w h (by simp at hl; omega)
end Go.Proofs.Ytimdhnjkjflbdaa.Lin
