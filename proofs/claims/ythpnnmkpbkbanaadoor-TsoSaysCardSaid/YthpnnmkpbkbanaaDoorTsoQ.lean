/-
  Texts merged: TsoQ1, TsoQ2, TsoQ3, TsoQ4, TsoQ5.
-/
import Derived.Test.YthpnnmkpbkbanaaDoorTsoSt
import Derived.Test.YthpnnmkpbkbanaaDoorQueues
import Derived.Great.BuildSlice
import Derived.Deep.DeepCutAuto
/-
  The queue of states where what is stored waits: rows of forty-nine, their set, their slice.
-/
namespace Go.Proofs.YthpnnmkpbkbanaaDoor
open Go.RowKit Go.Maps
attribute [local go_sem ↓] Go.wp_at_zero Go.wp_at_succ

theorem flat64' : FlatI (201 + 1) 80 := by
  rw [show 201 + 1 = (201 - 5) + 6 by omega]
  exact flat64 _
theorem key64 (z : List Int) (hz : z.length = 49) (hw : Wf z) : keyOf Tryd.prog 80 (.agg (row z)) = some (.string (keyBytes (z.map (Lit.int .i64)))) := by
  have hl : z.length = Tryd.prog.cellsOf 80 := hz.trans T64.c.symm
  exact key_of Tryd.underlying80 (by rfl) T64.type flat64' z hl hw
theorem flatT_length {zss : List (List Int)} (h : ∀ zs ∈ zss, zs.length = 49) : (flat zss).length = zss.length * 49 := by
  induction zss with
  | nil => rfl
  | cons x r ih =>
    have h1 := h x (by simp)
    have h2 := ih fun zs hz => h zs (by simp [hz])
    show ((x.map (Value.int .i64)) ++ flat r).length = _
    rw [List.length_append, List.length_map, h1, h2, List.length_cons]
    omega
theorem flatT_get {zss : List (List Int)} (h : ∀ zs ∈ zss, zs.length = 49) : ∀ (i : Nat) (zs : List Int) (j : Nat) (z : Int), zss[i]? = some zs → zs[j]? = some z → (flat zss)[i * 49 + j]? = some (.int .i64 z) := by
  induction zss with
  | nil => intro i zs j z hi; simp at hi
  | cons x r ih =>
    intro i zs j z hi hj
    have h1 := h x (by simp)
    show ((x.map (Value.int .i64)) ++ flat r)[i * 49 + j]? = _
    cases i with
    | zero =>
      simp at hi
      subst hi
      have : j < 49 := by rw [← h1]; exact (List.getElem?_eq_some_iff.1 hj).1
      rw [List.getElem?_append_left (by simp; omega), List.getElem?_map, show 0 * 49 + j = j by omega, hj]; rfl
    | succ i =>
      rw [List.getElem?_append_right (by simp; omega), List.length_map, h1, show (i + 1) * 49 + j - 49 = i * 49 + j by omega]
      exact ih (fun zs hz => h zs (by simp [hz])) i zs j z (by simpa using hi) hj
/-- The slice value v has the rows zss, in block lb (if it has room for any). -/
def LeftT (w : World) (T lb : Nat) (v : Value) (zss : List (List Int)) : Prop :=
  ∃ A cap, v = .slice A zss.length cap ∧ zss.length ≤ cap ∧ cap ≤ maxLen ∧ (A = none → cap = 0) ∧ (∀ a, A = some a → ∃ o, a = ⟨lb, o, none⟩ ∧ lb < w.heap.size ∧
    (0 < cap → ∃ cs, Block w lb T cs ∧ o + cap * 49 ≤ cs.size ∧ ∀ j u, (flat zss)[j]? = some u → cs[o + j]? = some u))
theorem LeftT.form {w : World} {T lb : Nat} {v : Value} {zss : List (List Int)} (h : LeftT w T lb v zss) : ∃ A c, v = .slice A zss.length c := by
  obtain ⟨A, c, e, _⟩ := h
  exact ⟨A, c, e⟩
theorem LeftT.own {w : World} {T lb : Nat} {v : Value} {zss : List (List Int)} (h : LeftT w T lb v zss) {k : Nat} (hk : v.ownBlock = some k) : k = lb := by
  obtain ⟨A, c, rfl, _, _, _, h4⟩ := h
  cases A with
  | none => cases hk
  | some a =>
    obtain ⟨o, rfl, _⟩ := h4 a rfl
    exact (Option.some.inj hk).symm
theorem LeftT.nil (w : World) (T lb : Nat) : LeftT w T lb (.slice none 0 0) [] := ⟨none, 0, rfl, Nat.zero_le _, Nat.zero_le _, fun _ => rfl, fun a h => by cases h⟩
theorem LeftT.keep {w w' : World} {T lb : Nat} {v : Value} {zss : List (List Int)} (h : LeftT w T lb v zss) (hs : w.heap.size ≤ w'.heap.size) (hb : lb < w.heap.size → w'.heap[lb]? = w.heap[lb]?) : LeftT w' T lb v zss := by
  obtain ⟨A, cap, e, h1, h2, h3, h4⟩ := h
  refine ⟨A, cap, e, h1, h2, h3, fun a ha => ?_⟩
  obtain ⟨o, ea, hl, hc⟩ := h4 a ha
  refine ⟨o, ea, by omega, fun h0 => ?_⟩
  obtain ⟨cs, hB, hc2⟩ := hc h0
  exact ⟨cs, (hb hl).trans hB, hc2⟩
theorem LeftT.touch {O : Nat → Prop} {w w' : World} {T lb : Nat} {v : Value} {zss : List (List Int)} (h : LeftT w T lb v zss) (k : Touch O w w') (hn : ¬ O lb) : LeftT w' T lb v zss := h.keep k.size fun hl => k.block lb hl hn

theorem leftT_of_own {w : World} {base e : Nat} {v : Value} {zss : List (List Int)} (h : w.ownsRow base e 49 v zss.length (flat zss)) (h0 : 0 < zss.length) : ∃ lb, base ≤ lb ∧ lb < w.heap.size ∧ LeftT w e lb v zss ∧ (∃ a, v.ownBlock = some a ∧ a = lb) := by
  rcases h.2 with ⟨rfl, hn⟩ | ⟨g, cap, cur, rfl, hb, hh, hnc, hcm, hsz, htk⟩
  · omega
  · have hlt : g < w.heap.size := (Array.getElem?_eq_some_iff.1 hh).1
    refine ⟨g, hb, hlt, ⟨_, cap, rfl, hnc, hcm, (fun h => by cases h), fun a ha => ⟨0, (Option.some.inj ha).symm, hlt, fun _ => ⟨cur, hh, by omega, fun j u hj => ?_⟩⟩⟩, g, rfl, rfl⟩
    rw [← htk] at hj
    have hjl := (List.getElem?_eq_some_iff.1 hj).1
    simp at hjl
    rw [List.getElem?_take, if_pos (by omega)] at hj
    rw [Nat.zero_add]
    simpa using hj

section
variable {P : Program}
theorem run_appendT_left (w : World) (t ty e : TypeId) (i : TypeInfo) (zv : Value) (ht : P.underlying t = some (.slice e)) (hi : P.info? e = some i) (hz : i.zero = some zv)
    (hsize : i.size = 49) (hby : i.bytes = 392) (hzs : zv.cells.size = 49)
    (lb : Nat) (v : Value) (zss : List (List Int)) (hL : LeftT w e lb v zss) (h16x : ∀ zs ∈ zss, zs.length = 49) (z : List Int) (hz49 : z.length = 49)
    (ad : Addr) (c : Nat) (hnews : ∀ j u, (z.map (Value.int .i64))[j]? = some u → w.cell? (ad.add j) = some u) (hN : zss.length < 20644068914) :
    ∃ v' w' lb', (Builtin.append_ #[t, t] ty #[v, .slice (some ad) 1 c]).run P w = .ok v' w' ∧ LeftT w' e lb' v' (zss ++ [z]) ∧ (lb' = lb ∧ v.ownBlock = some lb ∨ w.heap.size ≤ lb') ∧ Touch (fun k => v.ownBlock = some k) w w' ∧ lb' < w'.heap.size := by
  obtain ⟨A, cap, rfl, hnc, hcm, hnone, hsome⟩ := hL
  have hl49 : (z.map (Value.int .i64)).length = 1 * 49 := by simp [hz49]
  have h1c : ∀ u ∈ z.map (Value.int .i64), u.oneCell' = true := by
    intro u hu
    obtain ⟨x, _, rfl⟩ := List.mem_map.1 hu
    rfl
  have hfl := flatT_length h16x
  have happ : flat zss ++ z.map (Value.int .i64) = flat (zss ++ [z]) := by rw [flat_append, flat_one]
  have hmx : zss.length + 1 ≤ maxLen := by unfold maxLen; omega
  cases A with
  | none =>
    have hc0 := hnone rfl
    have hz0 : zss = [] := List.eq_nil_of_length_eq_zero (by omega)
    subst hz0
    subst hc0
    obtain ⟨v', w', hrun, hown, hg, _⟩ := run_append_own (P := P) w w.heap.size t ty e i zv 49 392 ht hi hz hsize hby hzs (by omega) (.slice none 0 0) 0 [] (World.ownsRow_nil w _ e 49) ad 1 c (z.map (Value.int .i64)) hl49 hnews h1c (by unfold maxLen; omega) (by omega) (Nat.le_refl _)
    have hown' : w'.ownsRow w.heap.size e 49 v' ([z] : List (List Int)).length (flat [z]) := by rw [flat_one]; exact hown
    obtain ⟨lb', h1, h2, h3, _⟩ := leftT_of_own hown' (by simp)
    exact ⟨v', w', lb', hrun, h3, Or.inr h1, (Touch.refl _ w).grown hg (fun k hk => by cases hk), h2⟩
  | some a =>
    obtain ⟨o, rfl, hlt, hrow⟩ := hsome a rfl
    by_cases hroom : zss.length + 1 ≤ cap
    · obtain ⟨cs, hB, hsz, hcs⟩ := hrow (by omega)
      have hcell : ∀ j, j < 49 → (w.cell? ⟨lb, o + zss.length * i.size + j, none⟩).isSome = true := fun j hj => by
        rw [hB.cell, hsize, Array.getElem?_eq_getElem (by omega)]; rfl
      have hrun := run_append_room_cells (P := P) w t ty e i ht hi lb o zss.length cap ad 1 c (z.map (Value.int .i64)) (by rw [hl49, hsize]) hnews h1c hroom (fun j hj => hcell j (by simp [hz49] at hj; exact hj)) (fun j _ => hB.free _)
      rw [hsize] at hrun
      obtain ⟨cs', e1, e2, e3, e4⟩ := setCells_block (z.map (Value.int .i64)) (o + zss.length * 49) w cs hB (by rw [hl49]; omega)
      obtain ⟨p1, p2, p3, p4⟩ := setCells_parts lb (z.map (Value.int .i64)) (o + zss.length * 49) w
      refine ⟨_, _, lb, hrun, ⟨_, cap, by simp, by simp; omega, hcm, (fun h => by cases h), fun a ha => ⟨o, (Option.some.inj ha).symm, by rw [p4]; exact hlt, fun _ => ⟨cs', e1, by omega, fun j u hj => ?_⟩⟩⟩, Or.inl ⟨rfl, rfl⟩, ⟨p1, p2, p3, by omega, fun k _ hk => setCells_heap lb _ _ _ _ (fun e => hk (by rw [e]; rfl))⟩, by rw [p4]; exact hlt⟩
      rw [← happ] at hj
      rcases Nat.lt_or_ge j (zss.length * 49) with h1 | h1
      · rw [List.getElem?_append_left (by omega)] at hj
        rw [e3 _ (by omega)]
        exact hcs j u hj
      · rw [List.getElem?_append_right (by omega), hfl] at hj
        have := e4 _ u hj
        rwa [show o + zss.length * 49 + (j - zss.length * 49) = o + j by omega] at this
    · obtain ⟨v', w', hrun, hown, hg⟩ := run_append_arg_grows (P := P) w t ty e i zv 49 392 ht hi hz hsize hby hzs (by omega) ⟨lb, o, none⟩ zss.length cap (flat zss) hfl (fun j u hj => by
          have hj' := (List.getElem?_eq_some_iff.1 hj).1
          obtain ⟨cs, hB, hsz, hcs⟩ := hrow (by omega)
          rw [Addr.add_lit, hB.cell]
          exact hcs j u hj) ad 1 c (z.map (Value.int .i64)) hl49 hnews (by omega) hmx (by omega)
      have hown' : w'.ownsRow w.heap.size e 49 v' (zss ++ [z]).length (flat (zss ++ [z])) := by rw [← happ]; simpa using hown
      obtain ⟨lb', h1, h2, h3, _⟩ := leftT_of_own hown' (by simp)
      exact ⟨v', w', lb', hrun, h3, Or.inr h1, (Touch.refl _ w).grown hg (fun k hk => by cases hk), h2⟩
/-- append of one state, as one step of a region that draws. -/
theorem step_appendT_left {ops : Array Oper} {o : Oper} {a : Act} {w : World} {K : Act → World → Prop} {Q : Exit → Act → World → Prop} {E : Prop}
    (hg : o.guard = none) (s x : Operand) (t : TypeId) (hop : o.op = Op.call { callee := Callee.builtin Builtin.append, args := #[s, x], argTypes := #[t, t] })
    (e : TypeId) (i : TypeInfo) (zv : Value) (ht : P.underlying t = some (.slice e)) (hi : P.info? e = some i) (hz : i.zero = some zv)
    (hsize : i.size = 49) (hby : i.bytes = 392) (hzs : zv.cells.size = 49)
    (lb : Nat) (v : Value) (hs : a.eval s = v) (zss : List (List Int)) (hL : LeftT w e lb v zss) (h16x : ∀ zs ∈ zss, zs.length = 49) (z : List Int) (hz49 : z.length = 49)
    (ad : Addr) (c : Nat) (hx : a.eval x = .slice (some ad) 1 c) (hnews : ∀ j u, (z.map (Value.int .i64))[j]? = some u → w.cell? (ad.add j) = some u) (hN : zss.length < 20644068914)
    (hK : ∀ v' w' lb', LeftT w' e lb' v' (zss ++ [z]) → (lb' = lb ∧ v.ownBlock = some lb ∨ w.heap.size ≤ lb') → Touch (fun k => v.ownBlock = some k) w w' → lb' < w'.heap.size → K (a.put o.dst v') w') :
    if Region.wanted o (yielded ops a.tmps) = true then Oper.wp P o a w K Q else E := by
  have hw : Region.wanted o (yielded ops a.tmps) = true := by simp [Region.wanted, hg]
  rw [if_pos hw]
  obtain ⟨v', w', lb', hrun, h1, h2, h3, h4⟩ := run_appendT_left (P := P) w t o.type e i zv ht hi hz hsize hby hzs lb v zss hL h16x z hz49 ad c hnews hN
  unfold Oper.wp
  simp [execOp, hop, resolve, invoke, builtin, hs, hx, hrun, Result.andThen]
  exact hK v' w' lb' h1 h2 h3 h4
end
/-- Block m is the set of the states ks. -/
def KnownT (w : World) (m : Nat) (ks : List (List Int)) : Prop :=
  ∃ D : DataW Unit, w.ownsMap Tryd.prog 80 unitElem m ks.length D ∧ ∀ z kl, z.length = 49 → keyOf Tryd.prog 80 (.agg (row z)) = some kl → Maps.has D kl = decide (z ∈ ks)
theorem KnownT.made (w : World) : KnownT (w.alloc (.map #[] 0)) w.heap.size [] := ⟨.map [], World.ownsMap_made _ _ _ _, fun z kl _ _ => by simp [Maps.has]⟩
theorem KnownT.lt {w : World} {m : Nat} {ks : List (List Int)} (h : KnownT w m ks) : m < w.heap.size := by
  obtain ⟨D, h, _⟩ := h
  exact h.lt
theorem KnownT.touch {O : Nat → Prop} {w w' : World} {m : Nat} {ks : List (List Int)} (h : KnownT w m ks) (k : Touch O w w') (hn : ¬ O m) : KnownT w' m ks := by
  obtain ⟨D, ⟨es, clock, hb, r⟩, h2⟩ := h
  exact ⟨D, ⟨es, clock, (k.block m (Array.getElem?_eq_some_iff.1 hb).1 hn).trans hb, r⟩, h2⟩
/-- The queue at block g: the set at block m, what is left in block lb. -/
structure QT (w : World) (g m lb : Nat) (known left : List (List Int)) : Prop where
  blk : ∃ v, Block w g 108 #[.map (some m), v] ∧ LeftT w 80 lb v left ∧ (v = .slice none 0 0 ∧ lb = g ∨ lb ≠ g ∧ lb ≠ m ∧ lb < w.heap.size)
  set : KnownT w m known
  gm : g ≠ m
  len : ∀ z ∈ known, z.length = 49 ∧ Wf z
  sub : ∀ z ∈ left, z ∈ known
theorem QT.touch {O : Nat → Prop} {w w' : World} {g m lb : Nat} {known left : List (List Int)} (h : QT w g m lb known left) (k : Touch O w w') (hg : ¬ O g) (hm : ¬ O m) (hl : ¬ O lb) : QT w' g m lb known left := by
  obtain ⟨⟨v, h1, h2, h3⟩, h4, h5, h6, h7⟩ := h
  refine ⟨⟨v, h1.touch k hg, h2.touch k hl, ?_⟩, h4.touch k hm, h5, h6, h7⟩
  have := k.size
  rcases h3 with h3 | ⟨a, b, c⟩
  · exact Or.inl h3
  · exact Or.inr ⟨a, b, by omega⟩

theorem lookT_run {w : World} {m : Nat} {ks : List (List Int)} (h : KnownT w m ks) (z : List Int) (hz : z.length = 49) (hr : Wf z) :
    (Instr.lookup 106 (.map (some m)) (.agg (row z)) true).run Tryd.prog w = .ok (.tuple #[.agg #[], .bool (decide (z ∈ ks))]) w := by
  obtain ⟨D, hown, hD⟩ := h
  have hkl := key64 z hz hr
  obtain ⟨v, ps, hrun, hv⟩ := hown.look_ok T64.law Tryd.underlying106 (Tq.unit w) unitElem_mk hkl
  obtain ⟨rfl, _⟩ := unitElem_inv hv
  rw [hrun, hD z _ hz hkl]

set_option maxRecDepth 100000 in
theorem knownT_put {X2 : World} {m : Nat} {ks : List (List Int)} {D : DataW Unit} {kl : Lit} {Z : List Int} (hZl : Z.length = 49) (hm : IsMap D) (hD : ∀ z kl, z.length = 49 → keyOf Tryd.prog 80 (.agg (row z)) = some kl → Maps.has D kl = decide (z ∈ ks))
    (hkl : keyOf Tryd.prog 80 (.agg (row Z)) = some kl) (hown : X2.ownsMap Tryd.prog 80 unitElem m (ks.length + 1) (D.put kl (.agg []))) : KnownT X2 m (ks ++ [Z]) := by
  refine ⟨_, by rw [List.length_append]; exact hown, fun z kl' hz hk => ?_⟩
  by_cases e : kl' = kl
  · subst e
    have h1 := T64.law.inj hk hkl
    injection h1 with h1
    have h2 := row_inj h1
    subst h2
    rw [Maps.has_put_same hm (T64.law.key hkl)]
    simp
  · rw [Maps.has_put_other e, hD z kl' hz hk]
    have hne : z ≠ Z := fun h => by
      subst h
      rw [hk] at hkl
      exact e (Option.some.inj hkl)
    simp [hne]


end Go.Proofs.YthpnnmkpbkbanaaDoor

/-
  Operations of a region that draws its order, one by one: rows, a map's update, a slice of one row.
-/
namespace Go.Proofs.YthpnnmkpbkbanaaDoor
open Go.RowKit Go.Maps

theorem foldl_fill (cs : List Value) : ∀ (k : Nat) (a : Array Value), k + cs.length ≤ a.size →
    ((cs.zipIdx k).foldl (fun b p => b.setIfInBounds (0 + p.2) p.1) a).size = a.size ∧ ∀ i, ((cs.zipIdx k).foldl (fun b p => b.setIfInBounds (0 + p.2) p.1) a)[i]? = if k ≤ i ∧ i < k + cs.length then cs[i - k]? else a[i]? := by
  induction cs with
  | nil =>
    intro k a _
    refine ⟨rfl, fun i => ?_⟩
    rw [if_neg (by simp)]
    rfl
  | cons c r ih =>
    intro k a h
    simp only [List.length_cons] at h
    obtain ⟨h1, h2⟩ := ih (k + 1) (a.setIfInBounds (0 + k) c) (by simp; omega)
    refine ⟨by rw [List.zipIdx_cons, List.foldl_cons, h1]; simp, fun i => ?_⟩
    rw [List.zipIdx_cons, List.foldl_cons, h2 i]
    simp only [List.length_cons]
    by_cases e : k = i
    · subst e
      rw [if_neg (by omega), if_pos (by omega), Nat.sub_self, Nat.zero_add, Array.getElem?_setIfInBounds_self, if_pos (by omega)]
      rfl
    · by_cases e2 : k + 1 ≤ i ∧ i < k + 1 + r.length
      · rw [if_pos e2, if_pos (by omega), show i - k = (i - (k + 1)) + 1 by omega, List.getElem?_cons_succ]
      · rw [if_neg e2, if_neg (by omega), Nat.zero_add, Array.getElem?_setIfInBounds_ne e]
theorem fill_row (n : Nat) (cells0 : Array Value) (h0 : cells0.size = n) (z : List Int) (hz : z.length = n) : Instr.fill (fun i => some (i * n, n)) cells0 [(0, .agg (row z))] = some (row z) := by
  have hs : (Value.agg (row z)).cells.size = n := (row_size z).trans hz
  have hc : (Value.agg (row z)).cells = row z := rfl
  simp only [Instr.fill, Nat.zero_mul]
  rw [if_neg (by simp [hs, h0])]
  congr 1
  obtain ⟨a1, a2⟩ := foldl_fill (z.map (Value.int .i64)) 0 cells0 (by rw [List.length_map]; omega)
  have e1 : (row z).zipIdx.foldl (fun cs (x : Value × Nat) => cs.setIfInBounds (0 + x.2) x.1) cells0 = ((z.map (Value.int .i64)).zipIdx 0).foldl (fun b p => b.setIfInBounds (0 + p.2) p.1) cells0 := by
    rw [← Array.foldl_toList]
    simp [row]
  rw [hc, e1]
  apply Array.ext_getElem?
  intro i
  rw [a2 i]
  by_cases e : 0 ≤ i ∧ i < 0 + (z.map (Value.int .i64)).length
  · rw [if_pos e, Nat.sub_zero]
    simp [row]
  · rw [if_neg e]
    rw [List.length_map] at e
    rw [Array.getElem?_eq_none (by omega), Array.getElem?_eq_none (by rw [row_size]; omega)]

section
variable {P : Program} {ops : Array Oper} {o : Oper} {a : Act} {w : World} {K : Act → World → Prop} {Q : Exit → Act → World → Prop} {E : Prop}
theorem opR_load_row (hg : o.guard = none) (ty : TypeId) (x : Operand) (ho : o.op = .load ty x) (g : Nat) (hx : a.eval x = .pointer (some ⟨g, 0, none⟩)) (t : TypeId) (cs : Array Value) (fr : Nat × Nat) (d : TypeDesc) (hgd : w.heap[g]? = some (.cells cs t fr))
    (hu : P.underlying ty = some d) (hd : (match d with | .struct _ | .array _ _ => true | _ => false) = true) (hi : (P.info? ty).map (·.size) = some cs.size) (h : K (a.put o.dst (.agg cs)) w) :
    if Region.wanted o (yielded ops a.tmps) = true then Oper.wp P o a w K Q else E := by
  rw [if_pos (by simp [Region.wanted, hg])]
  exact wp_load_row ty x ho g hx t cs fr d hgd hu hd hi h
theorem opR_buildRow (hg : o.guard = none) (t e : TypeId) (x : Operand) (ho : o.op = .buildSlice t 1 #[(0, x)]) (z : List Int) (n : Nat) (hx : a.eval x = .agg (row z)) (ie : TypeInfo) (zv : Value)
    (hu : P.underlying t = some (.slice e)) (hie : P.info? e = some ie) (hz : ie.zero = some zv) (hs : ie.size = n) (hn : z.length = n) (h0 : 0 < n) (h24 : n ≤ 2 ^ 24)
    (h : K (a.put o.dst (.slice (some ⟨w.heap.size, 0, none⟩) 1 1)) (w.alloc (.cells (row z) e))) :
    if Region.wanted o (yielded ops a.tmps) = true then Oper.wp P o a w K Q else E := by
  rw [if_pos (by simp [Region.wanted, hg])]
  subst hs
  have hrun := run_buildSlice (P := P) w t e 1 (#[(0, x)].map fun (i, x) => (i, a.eval x)) (row z) ie zv hu hie hz (by omega) (by omega) (by
    have e1 : ((#[(0, x)] : Array (Nat × Operand)).map fun (i, x) => (i, a.eval x)).toList = [(0, a.eval x)] := by simp
    rw [e1, hx]
    exact fill_row ie.size _ (by simp) z hn)
  unfold Oper.wp
  simp only [execOp, ho, Sem.run_bind, hrun, Result.andThen_ok]
  exact h
theorem opR_mapUpdate {H : Type} (hg : o.guard = none) (m x v : Operand) (t : TypeId) (hop : o.op = Op.mapUpdate t m x v)
    (k e : TypeId) (KK : Keyed P k) (ht : P.underlying t = some (.map k e)) (R : Value → Option (DataW H × List MemPlace)) (b n : Nat) (D : DataW H)
    (hm : a.eval m = .map (some b)) (hown : w.ownsMap P k R b n D) (hn : n < maxLen) (key val : Value) (kl : Lit) (hx : a.eval x = key) (hv : a.eval v = val) (hkey : keyOf P k key = some kl)
    (d : DataW H) (ps : List MemPlace) (hval : R val = some (d, ps))
    (hK : ∀ w', w'.ownsMap P k R b (n + 1) (D.put kl d) → w.grownBy w' (some b) → K (a.put o.dst undef) w') :
    if Region.wanted o (yielded ops a.tmps) = true then Oper.wp P o a w K Q else E := by
  rw [if_pos (by simp [Region.wanted, hg])]
  obtain ⟨w', hrun, r1, r2⟩ := hown.update KK ht hn hkey hval
  unfold Oper.wp
  simp [execOp, hop, hm, hx, hv, hrun, Result.andThen]
  exact hK w' r1 r2
end
end Go.Proofs.YthpnnmkpbkbanaaDoor

/-
  The queue of states where what is stored waits: Put.
-/
namespace Go.Proofs.YthpnnmkpbkbanaaDoor
open Go.RowKit Go.Maps
attribute [local go_sem ↓] Go.wp_at_zero Go.wp_at_succ

theorem TqT.info : (Tryd.prog.info? 80).map (fun i => (i.zero, i.size, i.bytes)) = some (some (.agg #[.int .i64 0, .int .i64 0, .int .i64 0, .int .i64 0, .int .i64 0, .int .i64 0, .int .i64 0, .int .i64 0, .int .i64 0, .int .i64 0, .int .i64 0, .int .i64 0, .int .i64 0, .int .i64 0, .int .i64 0, .int .i64 0, .int .i64 0, .int .i64 0, .int .i64 0, .int .i64 0, .int .i64 0, .int .i64 0, .int .i64 0, .int .i64 0, .int .i64 0, .int .i64 0, .int .i64 0, .int .i64 0, .int .i64 0, .int .i64 0, .int .i64 0, .int .i64 0, .int .i64 0, .int .i64 0, .int .i64 0, .int .i64 0, .int .i64 0, .int .i64 0, .int .i64 0, .int .i64 0, .int .i64 0, .int .i64 0, .int .i64 0, .int .i64 0, .int .i64 0, .int .i64 0, .int .i64 0, .int .i64 0, .int .i64 0]), 49, 392) := by kernel_rfl
theorem news_row {w : World} {b T : Nat} {z : List Int} (h : Block w b T (row z)) : ∀ j u, (z.map (Value.int .i64))[j]? = some u → w.cell? ((⟨b, 0, none⟩ : Addr).add j) = some u := by
  intro j u hj
  rw [Addr.add_lit, Nat.zero_add, h.cell j]
  simpa [row] using hj
def PutPostT (g m lb : Nat) (known left : List (List Int)) (z : List Int) (w : World) (e : Ending) (w' : World) : Prop :=
  e = .returned (.tuple #[]) ∧ Touch (fun k => k = g ∨ k = m ∨ k = lb) w w' ∧ ∃ lb', QT w' g m lb' (ins1 known z) (if z ∈ known then left else left ++ [z]) ∧ (lb' = lb ∨ w.heap.size ≤ lb')
theorem ownsMap_touch {O : Nat → Prop} {w w' : World} {m n : Nat} {D : DataW Unit} (h : w.ownsMap Tryd.prog 80 unitElem m n D) (k : Touch O w w') (hn : ¬ O m) : w'.ownsMap Tryd.prog 80 unitElem m n D := by
  obtain ⟨es, clock, hb, r⟩ := h
  exact ⟨es, clock, (k.block m (Array.getElem?_eq_some_iff.1 hb).1 hn).trans hb, r⟩

set_option maxRecDepth 100000 in
set_option maxHeartbeats 4000000 in
theorem putT_any (g m lb : Nat) (known left : List (List Int)) (z : List Int) (w : World) (hq : QT w g m lb known left) (hz : z.length = 49) (hr : Wf z) (hN : known.length < 20644068914) (hN2 : left.length < 20644068914) :
    Calls Tryd.prog 35 #[.pointer (some ⟨g, 0, none⟩), .agg (row z)] w (PutPostT g m lb known left z w) := by
  obtain ⟨b, hbm⟩ : ∃ b, b = decide (z ∈ known) := ⟨_, rfl⟩
  have HQ := Lib.hid hq
  obtain ⟨⟨v, hb, hL, hlb⟩, hk, hgm, hlen, hsub⟩ := hq
  have hLK : ∀ x, KnownT x m known → (Instr.lookup 106 (.map (some m)) (.agg (row z)) true).run Tryd.prog x = .ok (.tuple #[.agg #[], .bool b]) x := fun x hx => by
    rw [lookT_run hx z hz hr, hbm]
  have hgl := hb.lt
  have HBM := Lib.hid hbm
  have HLK := Lib.hid hLK
  have HK := Lib.hid hk
  have HLT := Lib.hid hL
  have HBK := Lib.hid hb
  have HLB := Lib.hid hlb
  have HSUB := Lib.hid hsub
  have HLEN := Lib.hid hlen
  have HR := Lib.hid hr
  have HZ := Lib.hid hz
  have HSZ := Lib.hid (show (row z).size = 49 by rw [row_size, hz])
  clear hlb hsub hlen hL hb hr hLK hk hbm hz
  go_enter Tryd.func35, Tryd.ntmps35
  go_wp2_with fail
  obtain ⟨W, hW⟩ : ∃ W, W = w.alloc (.cells (row z) 80) := ⟨_, rfl⟩
  have hB : Block W w.heap.size 80 (row z) := by rw [hW]; exact Block.made _ _ _
  have hT : Touch (fun _ => False) w W := by rw [hW]; exact (Touch.refl _ w).alloc _
  rw [← hW]
  have hbW : w.heap.size < W.heap.size := hB.lt
  have HT := Lib.hid hT
  have HB := Lib.hid hB
  clear hW hB hT
  go_cut [5] (fun t5 wx => t5 = .bool b ∧ Touch (fun _ => False) w wx ∧ Block wx w.heap.size 80 (row z))
  case first =>
    have hM : ∀ x, Touch (fun _ => False) W x → x.cell? ⟨g, 0, none⟩ = some (.map (some m)) := fun x hx => ((HBK.out.touch HT.out (fun h => h)).touch hx (fun h => h)).cell 0
    have hR : ∀ x, Touch (fun _ => False) W x → Block x w.heap.size 80 (row z) := fun x hx => HB.out.touch hx (fun h => h)
    have hL : ∀ x, Touch (fun _ => False) W x → (Instr.lookup 106 (.map (some m)) (.agg (row z)) true).run Tryd.prog x = .ok (.tuple #[.agg #[], .bool b]) x := fun x hx => HLK.out x ((HK.out.touch HT.out (fun h => h)).touch hx (fun h => h))
    have hb0 : Touch (fun _ => False) W W.drew := (Touch.refl _ W).drew
    refine wp_region_any (by kernel_rfl) ?_
    refine node_intro (F := wpAny Tryd.prog .any _ _) (fun G hG => ?_)
    have nd_3_4_5_6_7_8_9_10 : ∀ (bb : Nat) (x : World), Touch (fun _ => False) W x → G 1 #[true, true, true, true, true, true, true, true, true, true, true, false] ⟨#[.pointer (some ⟨g, 0, none⟩), .agg (row z), undef, .pointer (some ⟨w.heap.size, 0, none⟩), .pointer (some ⟨bb, 0, none⟩), undef, .tuple #[.agg #[], .bool b], .pointer (some ⟨g, 0, none⟩), .pointer (some ⟨g, 0, none⟩), .pointer (some ⟨g, 0, none⟩), .map (some m), .agg (row z), .tuple #[.agg #[], .bool b], .agg #[], .bool b, undef, undef, undef, undef, undef, undef, undef, undef, undef, undef, undef, undef, undef, undef, undef, undef, undef], []⟩ x := by
      intro bb x hb
      rw [hG]
      refine wpAny_ready (rs := [11]) (by kernel_rfl) (by simp) ?_
      refine AllReady.cons rfl (fun K hK => ?_) ?_
      · go_simp
        refine hK _ _ ?_
        refine wpAny_done (by kernel_rfl) ?_ _
        go_wp2_with fail
        go_meet
        exact ⟨rfl, HT.out.trans hb (fun i h => h.elim), hR _ hb⟩
      exact AllReady.nil
    have nd_3_4_5_6_7_9_10 : ∀ (bb : Nat) (x : World), Touch (fun _ => False) W x → G 2 #[true, true, true, true, true, true, true, true, false, true, true, false] ⟨#[.pointer (some ⟨g, 0, none⟩), .agg (row z), undef, .pointer (some ⟨w.heap.size, 0, none⟩), .pointer (some ⟨bb, 0, none⟩), undef, .tuple #[.agg #[], .bool b], .pointer (some ⟨g, 0, none⟩), .pointer (some ⟨g, 0, none⟩), .pointer (some ⟨g, 0, none⟩), .map (some m), .agg (row z), .tuple #[.agg #[], .bool b], .agg #[], undef, undef, undef, undef, undef, undef, undef, undef, undef, undef, undef, undef, undef, undef, undef, undef, undef, undef], []⟩ x := by
      intro bb x hb
      rw [hG]
      refine wpAny_ready (rs := [8]) (by kernel_rfl) (by simp) ?_
      refine AllReady.cons rfl (fun K hK => ?_) ?_
      · go_simp
        refine hK _ _ ?_
        rw [← hG]
        exact nd_3_4_5_6_7_8_9_10 bb _ hb
      exact AllReady.nil
    have nd_3_4_5_6_7_8_9 : ∀ (bb : Nat) (x : World), Touch (fun _ => False) W x → G 2 #[true, true, true, true, true, true, true, true, true, true, false, false] ⟨#[.pointer (some ⟨g, 0, none⟩), .agg (row z), undef, .pointer (some ⟨w.heap.size, 0, none⟩), .pointer (some ⟨bb, 0, none⟩), undef, .tuple #[.agg #[], .bool b], .pointer (some ⟨g, 0, none⟩), .pointer (some ⟨g, 0, none⟩), .pointer (some ⟨g, 0, none⟩), .map (some m), .agg (row z), .tuple #[.agg #[], .bool b], .agg #[], .bool b, undef, undef, undef, undef, undef, undef, undef, undef, undef, undef, undef, undef, undef, undef, undef, undef, undef], []⟩ x := by
      intro bb x hb
      rw [hG]
      refine wpAny_ready (rs := [10]) (by kernel_rfl) (by simp) ?_
      refine AllReady.cons rfl (fun K hK => ?_) ?_
      · go_simp
        refine hK _ _ ?_
        rw [← hG]
        exact nd_3_4_5_6_7_8_9_10 bb _ hb
      exact AllReady.nil
    have nd_3_4_5_6_7_9 : ∀ (bb : Nat) (x : World), Touch (fun _ => False) W x → G 3 #[true, true, true, true, true, true, true, true, false, true, false, false] ⟨#[.pointer (some ⟨g, 0, none⟩), .agg (row z), undef, .pointer (some ⟨w.heap.size, 0, none⟩), .pointer (some ⟨bb, 0, none⟩), undef, .tuple #[.agg #[], .bool b], .pointer (some ⟨g, 0, none⟩), .pointer (some ⟨g, 0, none⟩), .pointer (some ⟨g, 0, none⟩), .map (some m), .agg (row z), .tuple #[.agg #[], .bool b], .agg #[], undef, undef, undef, undef, undef, undef, undef, undef, undef, undef, undef, undef, undef, undef, undef, undef, undef, undef], []⟩ x := by
      intro bb x hb
      rw [hG]
      refine wpAny_ready (rs := [8, 10]) (by kernel_rfl) (by simp) ?_
      refine AllReady.cons rfl (fun K hK => ?_) ?_
      · go_simp
        refine hK _ _ ?_
        rw [← hG]
        exact nd_3_4_5_6_7_8_9 bb _ hb
      refine AllReady.cons rfl (fun K hK => ?_) ?_
      · go_simp
        refine hK _ _ ?_
        rw [← hG]
        exact nd_3_4_5_6_7_9_10 bb _ hb
      exact AllReady.nil
    have nd_3_4_5_6_7_8 : ∀ (bb : Nat) (x : World), Touch (fun _ => False) W x → G 3 #[true, true, true, true, true, true, true, true, true, false, false, false] ⟨#[.pointer (some ⟨g, 0, none⟩), .agg (row z), undef, .pointer (some ⟨w.heap.size, 0, none⟩), undef, undef, .tuple #[.agg #[], .bool b], .pointer (some ⟨g, 0, none⟩), .pointer (some ⟨g, 0, none⟩), .pointer (some ⟨g, 0, none⟩), .map (some m), .agg (row z), .tuple #[.agg #[], .bool b], .agg #[], .bool b, undef, undef, undef, undef, undef, undef, undef, undef, undef, undef, undef, undef, undef, undef, undef, undef, undef], []⟩ x := by
      intro bb x hb
      rw [hG]
      refine wpAny_ready (rs := [9]) (by kernel_rfl) (by simp) ?_
      refine AllReady.cons rfl (fun K hK => ?_) ?_
      · go_simp
        have hb := hb.alloc (.cells #[] 109)
        refine hK _ _ ?_
        rw [← hG]
        exact nd_3_4_5_6_7_8_9 _ _ hb
      exact AllReady.nil
    have nd_3_4_5_6_8_9 : ∀ (bb : Nat) (x : World), Touch (fun _ => False) W x → G 3 #[true, true, true, true, true, true, true, false, true, true, false, false] ⟨#[.pointer (some ⟨g, 0, none⟩), .agg (row z), undef, .pointer (some ⟨w.heap.size, 0, none⟩), .pointer (some ⟨bb, 0, none⟩), undef, .tuple #[.agg #[], .bool b], .pointer (some ⟨g, 0, none⟩), .pointer (some ⟨g, 0, none⟩), .pointer (some ⟨g, 0, none⟩), .map (some m), .agg (row z), .tuple #[.agg #[], .bool b], undef, .bool b, undef, undef, undef, undef, undef, undef, undef, undef, undef, undef, undef, undef, undef, undef, undef, undef, undef], []⟩ x := by
      intro bb x hb
      rw [hG]
      refine wpAny_ready (rs := [7]) (by kernel_rfl) (by simp) ?_
      refine AllReady.cons rfl (fun K hK => ?_) ?_
      · go_simp
        refine hK _ _ ?_
        rw [← hG]
        exact nd_3_4_5_6_7_8_9 bb _ hb
      exact AllReady.nil
    have nd_3_4_5_6_8 : ∀ (bb : Nat) (x : World), Touch (fun _ => False) W x → G 4 #[true, true, true, true, true, true, true, false, true, false, false, false] ⟨#[.pointer (some ⟨g, 0, none⟩), .agg (row z), undef, .pointer (some ⟨w.heap.size, 0, none⟩), undef, undef, .tuple #[.agg #[], .bool b], .pointer (some ⟨g, 0, none⟩), .pointer (some ⟨g, 0, none⟩), .pointer (some ⟨g, 0, none⟩), .map (some m), .agg (row z), .tuple #[.agg #[], .bool b], undef, .bool b, undef, undef, undef, undef, undef, undef, undef, undef, undef, undef, undef, undef, undef, undef, undef, undef, undef], []⟩ x := by
      intro bb x hb
      rw [hG]
      refine wpAny_ready (rs := [7, 9]) (by kernel_rfl) (by simp) ?_
      refine AllReady.cons rfl (fun K hK => ?_) ?_
      · go_simp
        refine hK _ _ ?_
        rw [← hG]
        exact nd_3_4_5_6_7_8 bb _ hb
      refine AllReady.cons rfl (fun K hK => ?_) ?_
      · go_simp
        have hb := hb.alloc (.cells #[] 109)
        refine hK _ _ ?_
        rw [← hG]
        exact nd_3_4_5_6_8_9 _ _ hb
      exact AllReady.nil
    have nd_3_4_5_6_7 : ∀ (bb : Nat) (x : World), Touch (fun _ => False) W x → G 4 #[true, true, true, true, true, true, true, true, false, false, false, false] ⟨#[.pointer (some ⟨g, 0, none⟩), .agg (row z), undef, .pointer (some ⟨w.heap.size, 0, none⟩), undef, undef, .tuple #[.agg #[], .bool b], .pointer (some ⟨g, 0, none⟩), .pointer (some ⟨g, 0, none⟩), .pointer (some ⟨g, 0, none⟩), .map (some m), .agg (row z), .tuple #[.agg #[], .bool b], .agg #[], undef, undef, undef, undef, undef, undef, undef, undef, undef, undef, undef, undef, undef, undef, undef, undef, undef, undef], []⟩ x := by
      intro bb x hb
      rw [hG]
      refine wpAny_ready (rs := [8, 9]) (by kernel_rfl) (by simp) ?_
      refine AllReady.cons rfl (fun K hK => ?_) ?_
      · go_simp
        refine hK _ _ ?_
        rw [← hG]
        exact nd_3_4_5_6_7_8 bb _ hb
      refine AllReady.cons rfl (fun K hK => ?_) ?_
      · go_simp
        have hb := hb.alloc (.cells #[] 109)
        refine hK _ _ ?_
        rw [← hG]
        exact nd_3_4_5_6_7_9 _ _ hb
      exact AllReady.nil
    have nd_3_4_5_6_9 : ∀ (bb : Nat) (x : World), Touch (fun _ => False) W x → G 4 #[true, true, true, true, true, true, true, false, false, true, false, false] ⟨#[.pointer (some ⟨g, 0, none⟩), .agg (row z), undef, .pointer (some ⟨w.heap.size, 0, none⟩), .pointer (some ⟨bb, 0, none⟩), undef, .tuple #[.agg #[], .bool b], .pointer (some ⟨g, 0, none⟩), .pointer (some ⟨g, 0, none⟩), .pointer (some ⟨g, 0, none⟩), .map (some m), .agg (row z), .tuple #[.agg #[], .bool b], undef, undef, undef, undef, undef, undef, undef, undef, undef, undef, undef, undef, undef, undef, undef, undef, undef, undef, undef], []⟩ x := by
      intro bb x hb
      rw [hG]
      refine wpAny_ready (rs := [7, 8]) (by kernel_rfl) (by simp) ?_
      refine AllReady.cons rfl (fun K hK => ?_) ?_
      · go_simp
        refine hK _ _ ?_
        rw [← hG]
        exact nd_3_4_5_6_7_9 bb _ hb
      refine AllReady.cons rfl (fun K hK => ?_) ?_
      · go_simp
        refine hK _ _ ?_
        rw [← hG]
        exact nd_3_4_5_6_8_9 bb _ hb
      exact AllReady.nil
    have nd_3_4_5_9 : ∀ (bb : Nat) (x : World), Touch (fun _ => False) W x → G 5 #[true, true, true, true, true, true, false, false, false, true, false, false] ⟨#[.pointer (some ⟨g, 0, none⟩), .agg (row z), undef, .pointer (some ⟨w.heap.size, 0, none⟩), .pointer (some ⟨bb, 0, none⟩), undef, undef, .pointer (some ⟨g, 0, none⟩), .pointer (some ⟨g, 0, none⟩), .pointer (some ⟨g, 0, none⟩), .map (some m), .agg (row z), .tuple #[.agg #[], .bool b], undef, undef, undef, undef, undef, undef, undef, undef, undef, undef, undef, undef, undef, undef, undef, undef, undef, undef, undef], []⟩ x := by
      intro bb x hb
      rw [hG]
      refine wpAny_ready (rs := [6]) (by kernel_rfl) (by simp) ?_
      refine AllReady.cons rfl (fun K hK => ?_) ?_
      · go_simp
        refine hK _ _ ?_
        rw [← hG]
        exact nd_3_4_5_6_9 bb _ hb
      exact AllReady.nil
    have nd_3_4_5_6 : ∀ (bb : Nat) (x : World), Touch (fun _ => False) W x → G 5 #[true, true, true, true, true, true, true, false, false, false, false, false] ⟨#[.pointer (some ⟨g, 0, none⟩), .agg (row z), undef, .pointer (some ⟨w.heap.size, 0, none⟩), undef, undef, .tuple #[.agg #[], .bool b], .pointer (some ⟨g, 0, none⟩), .pointer (some ⟨g, 0, none⟩), .pointer (some ⟨g, 0, none⟩), .map (some m), .agg (row z), .tuple #[.agg #[], .bool b], undef, undef, undef, undef, undef, undef, undef, undef, undef, undef, undef, undef, undef, undef, undef, undef, undef, undef, undef], []⟩ x := by
      intro bb x hb
      rw [hG]
      refine wpAny_ready (rs := [7, 8, 9]) (by kernel_rfl) (by simp) ?_
      refine AllReady.cons rfl (fun K hK => ?_) ?_
      · go_simp
        refine hK _ _ ?_
        rw [← hG]
        exact nd_3_4_5_6_7 bb _ hb
      refine AllReady.cons rfl (fun K hK => ?_) ?_
      · go_simp
        refine hK _ _ ?_
        rw [← hG]
        exact nd_3_4_5_6_8 bb _ hb
      refine AllReady.cons rfl (fun K hK => ?_) ?_
      · go_simp
        have hb := hb.alloc (.cells #[] 109)
        refine hK _ _ ?_
        rw [← hG]
        exact nd_3_4_5_6_9 _ _ hb
      exact AllReady.nil
    have nd_3_4_9 : ∀ (bb : Nat) (x : World), Touch (fun _ => False) W x → G 6 #[true, true, true, true, true, false, false, false, false, true, false, false] ⟨#[.pointer (some ⟨g, 0, none⟩), .agg (row z), undef, .pointer (some ⟨w.heap.size, 0, none⟩), .pointer (some ⟨bb, 0, none⟩), undef, undef, .pointer (some ⟨g, 0, none⟩), .pointer (some ⟨g, 0, none⟩), .pointer (some ⟨g, 0, none⟩), .map (some m), .agg (row z), undef, undef, undef, undef, undef, undef, undef, undef, undef, undef, undef, undef, undef, undef, undef, undef, undef, undef, undef, undef], []⟩ x := by
      intro bb x hb
      rw [hG]
      refine wpAny_ready (rs := [5]) (by kernel_rfl) (by simp) ?_
      refine AllReady.cons rfl (fun K hK => ?_) ?_
      · have hl := hL x hb
        go_simp
        refine hK _ _ ?_
        rw [← hG]
        exact nd_3_4_5_9 bb _ hb
      exact AllReady.nil
    have nd_3_4_5 : ∀ (bb : Nat) (x : World), Touch (fun _ => False) W x → G 6 #[true, true, true, true, true, true, false, false, false, false, false, false] ⟨#[.pointer (some ⟨g, 0, none⟩), .agg (row z), undef, .pointer (some ⟨w.heap.size, 0, none⟩), undef, undef, undef, .pointer (some ⟨g, 0, none⟩), .pointer (some ⟨g, 0, none⟩), .pointer (some ⟨g, 0, none⟩), .map (some m), .agg (row z), .tuple #[.agg #[], .bool b], undef, undef, undef, undef, undef, undef, undef, undef, undef, undef, undef, undef, undef, undef, undef, undef, undef, undef, undef], []⟩ x := by
      intro bb x hb
      rw [hG]
      refine wpAny_ready (rs := [6, 9]) (by kernel_rfl) (by simp) ?_
      refine AllReady.cons rfl (fun K hK => ?_) ?_
      · go_simp
        refine hK _ _ ?_
        rw [← hG]
        exact nd_3_4_5_6 bb _ hb
      refine AllReady.cons rfl (fun K hK => ?_) ?_
      · go_simp
        have hb := hb.alloc (.cells #[] 109)
        refine hK _ _ ?_
        rw [← hG]
        exact nd_3_4_5_9 _ _ hb
      exact AllReady.nil
    have nd_3_9 : ∀ (bb : Nat) (x : World), Touch (fun _ => False) W x → G 7 #[true, true, true, true, false, false, false, false, false, true, false, false] ⟨#[.pointer (some ⟨g, 0, none⟩), .agg (row z), undef, .pointer (some ⟨w.heap.size, 0, none⟩), .pointer (some ⟨bb, 0, none⟩), undef, undef, .pointer (some ⟨g, 0, none⟩), .pointer (some ⟨g, 0, none⟩), .pointer (some ⟨g, 0, none⟩), .map (some m), undef, undef, undef, undef, undef, undef, undef, undef, undef, undef, undef, undef, undef, undef, undef, undef, undef, undef, undef, undef, undef], []⟩ x := by
      intro bb x hb
      rw [hG]
      refine wpAny_ready (rs := [4]) (by kernel_rfl) (by simp) ?_
      refine AllReady.cons rfl (fun K hK => ?_) ?_
      · refine opR_load_row rfl 80 (.tmp 3) rfl w.heap.size rfl _ (row z) _ _ (hR _ hb) Tryd.underlying80 rfl (by rw [HSZ.out]; exact T64.info) ?_
        refine hK _ _ ?_
        rw [← hG]
        exact nd_3_4_9 bb _ hb
      exact AllReady.nil
    have nd_4_9 : ∀ (bb : Nat) (x : World), Touch (fun _ => False) W x → G 7 #[true, true, true, false, true, false, false, false, false, true, false, false] ⟨#[.pointer (some ⟨g, 0, none⟩), .agg (row z), undef, .pointer (some ⟨w.heap.size, 0, none⟩), .pointer (some ⟨bb, 0, none⟩), undef, undef, .pointer (some ⟨g, 0, none⟩), .pointer (some ⟨g, 0, none⟩), .pointer (some ⟨g, 0, none⟩), undef, .agg (row z), undef, undef, undef, undef, undef, undef, undef, undef, undef, undef, undef, undef, undef, undef, undef, undef, undef, undef, undef, undef], []⟩ x := by
      intro bb x hb
      rw [hG]
      refine wpAny_ready (rs := [3]) (by kernel_rfl) (by simp) ?_
      refine AllReady.cons rfl (fun K hK => ?_) ?_
      · have hc := hM x hb
        go_simp
        refine hK _ _ ?_
        rw [← hG]
        exact nd_3_4_9 bb _ hb
      exact AllReady.nil
    have nd_3_4 : ∀ (bb : Nat) (x : World), Touch (fun _ => False) W x → G 7 #[true, true, true, true, true, false, false, false, false, false, false, false] ⟨#[.pointer (some ⟨g, 0, none⟩), .agg (row z), undef, .pointer (some ⟨w.heap.size, 0, none⟩), undef, undef, undef, .pointer (some ⟨g, 0, none⟩), .pointer (some ⟨g, 0, none⟩), .pointer (some ⟨g, 0, none⟩), .map (some m), .agg (row z), undef, undef, undef, undef, undef, undef, undef, undef, undef, undef, undef, undef, undef, undef, undef, undef, undef, undef, undef, undef], []⟩ x := by
      intro bb x hb
      rw [hG]
      refine wpAny_ready (rs := [5, 9]) (by kernel_rfl) (by simp) ?_
      refine AllReady.cons rfl (fun K hK => ?_) ?_
      · have hl := hL x hb
        go_simp
        refine hK _ _ ?_
        rw [← hG]
        exact nd_3_4_5 bb _ hb
      refine AllReady.cons rfl (fun K hK => ?_) ?_
      · go_simp
        have hb := hb.alloc (.cells #[] 109)
        refine hK _ _ ?_
        rw [← hG]
        exact nd_3_4_9 _ _ hb
      exact AllReady.nil
    have nd_9 : ∀ (bb : Nat) (x : World), Touch (fun _ => False) W x → G 8 #[true, true, true, false, false, false, false, false, false, true, false, false] ⟨#[.pointer (some ⟨g, 0, none⟩), .agg (row z), undef, .pointer (some ⟨w.heap.size, 0, none⟩), .pointer (some ⟨bb, 0, none⟩), undef, undef, .pointer (some ⟨g, 0, none⟩), .pointer (some ⟨g, 0, none⟩), .pointer (some ⟨g, 0, none⟩), undef, undef, undef, undef, undef, undef, undef, undef, undef, undef, undef, undef, undef, undef, undef, undef, undef, undef, undef, undef, undef, undef], []⟩ x := by
      intro bb x hb
      rw [hG]
      refine wpAny_ready (rs := [3, 4]) (by kernel_rfl) (by simp) ?_
      refine AllReady.cons rfl (fun K hK => ?_) ?_
      · have hc := hM x hb
        go_simp
        refine hK _ _ ?_
        rw [← hG]
        exact nd_3_9 bb _ hb
      refine AllReady.cons rfl (fun K hK => ?_) ?_
      · refine opR_load_row rfl 80 (.tmp 3) rfl w.heap.size rfl _ (row z) _ _ (hR _ hb) Tryd.underlying80 rfl (by rw [HSZ.out]; exact T64.info) ?_
        refine hK _ _ ?_
        rw [← hG]
        exact nd_4_9 bb _ hb
      exact AllReady.nil
    have nd_4 : ∀ (bb : Nat) (x : World), Touch (fun _ => False) W x → G 8 #[true, true, true, false, true, false, false, false, false, false, false, false] ⟨#[.pointer (some ⟨g, 0, none⟩), .agg (row z), undef, .pointer (some ⟨w.heap.size, 0, none⟩), undef, undef, undef, .pointer (some ⟨g, 0, none⟩), .pointer (some ⟨g, 0, none⟩), .pointer (some ⟨g, 0, none⟩), undef, .agg (row z), undef, undef, undef, undef, undef, undef, undef, undef, undef, undef, undef, undef, undef, undef, undef, undef, undef, undef, undef, undef], []⟩ x := by
      intro bb x hb
      rw [hG]
      refine wpAny_ready (rs := [3, 9]) (by kernel_rfl) (by simp) ?_
      refine AllReady.cons rfl (fun K hK => ?_) ?_
      · have hc := hM x hb
        go_simp
        refine hK _ _ ?_
        rw [← hG]
        exact nd_3_4 bb _ hb
      refine AllReady.cons rfl (fun K hK => ?_) ?_
      · go_simp
        have hb := hb.alloc (.cells #[] 109)
        refine hK _ _ ?_
        rw [← hG]
        exact nd_4_9 _ _ hb
      exact AllReady.nil
    have nd_3 : ∀ (bb : Nat) (x : World), Touch (fun _ => False) W x → G 8 #[true, true, true, true, false, false, false, false, false, false, false, false] ⟨#[.pointer (some ⟨g, 0, none⟩), .agg (row z), undef, .pointer (some ⟨w.heap.size, 0, none⟩), undef, undef, undef, .pointer (some ⟨g, 0, none⟩), .pointer (some ⟨g, 0, none⟩), .pointer (some ⟨g, 0, none⟩), .map (some m), undef, undef, undef, undef, undef, undef, undef, undef, undef, undef, undef, undef, undef, undef, undef, undef, undef, undef, undef, undef, undef], []⟩ x := by
      intro bb x hb
      rw [hG]
      refine wpAny_ready (rs := [4, 9]) (by kernel_rfl) (by simp) ?_
      refine AllReady.cons rfl (fun K hK => ?_) ?_
      · refine opR_load_row rfl 80 (.tmp 3) rfl w.heap.size rfl _ (row z) _ _ (hR _ hb) Tryd.underlying80 rfl (by rw [HSZ.out]; exact T64.info) ?_
        refine hK _ _ ?_
        rw [← hG]
        exact nd_3_4 bb _ hb
      refine AllReady.cons rfl (fun K hK => ?_) ?_
      · go_simp
        have hb := hb.alloc (.cells #[] 109)
        refine hK _ _ ?_
        rw [← hG]
        exact nd_3_9 _ _ hb
      exact AllReady.nil
    have nd : ∀ (bb : Nat) (x : World), Touch (fun _ => False) W x → G 9 #[true, true, true, false, false, false, false, false, false, false, false, false] ⟨#[.pointer (some ⟨g, 0, none⟩), .agg (row z), undef, .pointer (some ⟨w.heap.size, 0, none⟩), undef, undef, undef, .pointer (some ⟨g, 0, none⟩), .pointer (some ⟨g, 0, none⟩), .pointer (some ⟨g, 0, none⟩), undef, undef, undef, undef, undef, undef, undef, undef, undef, undef, undef, undef, undef, undef, undef, undef, undef, undef, undef, undef, undef, undef], []⟩ x := by
      intro bb x hb
      rw [hG]
      refine wpAny_ready (rs := [3, 4, 9]) (by kernel_rfl) (by simp) ?_
      refine AllReady.cons rfl (fun K hK => ?_) ?_
      · have hc := hM x hb
        go_simp
        refine hK _ _ ?_
        rw [← hG]
        exact nd_3 bb _ hb
      refine AllReady.cons rfl (fun K hK => ?_) ?_
      · refine opR_load_row rfl 80 (.tmp 3) rfl w.heap.size rfl _ (row z) _ _ (hR _ hb) Tryd.underlying80 rfl (by rw [HSZ.out]; exact T64.info) ?_
        refine hK _ _ ?_
        rw [← hG]
        exact nd_4 bb _ hb
      refine AllReady.cons rfl (fun K hK => ?_) ?_
      · go_simp
        have hb := hb.alloc (.cells #[] 109)
        refine hK _ _ ?_
        rw [← hG]
        exact nd_9 _ _ hb
      exact AllReady.nil
    rw [hG]
    change wpAny _ _ _ _ _ _ _ W.drew
    refine wpAny_take (i := 0) (v := .pointer (some ⟨g, 0, none⟩)) rfl (by kernel_rfl) (by kernel_rfl) (by kernel_rfl) (fun _ _ _ h => h) (Or.inl ⟨by rfl, fun x => by go_simp⟩) ?_
    try dsimp only [Act.put]
    refine wpAny_take (i := 1) (v := .pointer (some ⟨g, 0, none⟩)) rfl (by kernel_rfl) (by kernel_rfl) (by kernel_rfl) (fun _ _ _ h => h) (Or.inl ⟨by rfl, fun x => by go_simp⟩) ?_
    try dsimp only [Act.put]
    refine wpAny_take (i := 2) (v := .pointer (some ⟨g, 0, none⟩)) rfl (by kernel_rfl) (by kernel_rfl) (by kernel_rfl) (fun _ _ _ h => h) (Or.inl ⟨by rfl, fun x => by go_simp⟩) ?_
    try dsimp only [Act.put]
    rw [← hG]
    exact nd 0 _ hb0
  case rest =>
    obtain ⟨rfl, hTX, hBX⟩ := hcut
    obtain ⟨X, rfl⟩ : ∃ X : World, X = wc := ⟨_, rfl⟩
    clear hbW HT HB
    cases b with
    | true =>
      have hmem : z ∈ known := of_decide_eq_true HBM.out.symm
      have HMEM := Lib.hid hmem
      clear hmem
      go_wp2_with fail
      refine bodyPost_ret (results_none rfl _ _ _) rfl ⟨rfl, hTX.mono fun _ h => h.elim, lb, ?_, Or.inl rfl⟩
      rw [if_pos HMEM.out, show ins1 known z = known from if_pos HMEM.out]
      exact HQ.out.touch hTX (fun h => h) (fun h => h) (fun h => h)
    | false =>
      have hmem : ¬ z ∈ known := of_decide_eq_false HBM.out.symm
      have HMEM := Lib.hid hmem
      obtain ⟨D, hown, hD⟩ := HK.out.touch hTX (fun h => h)
      have hkl := key64 z HZ.out HR.out
      have HOWN := Lib.hid hown
      have HD := Lib.hid hD
      have HKL := Lib.hid hkl
      have HTX := Lib.hid hTX
      have HBX := Lib.hid hBX
      have hxs := hTX.size
      clear hD hkl hown hTX hBX hmem
      go_upto_region 3 with fail
      go_cut [] (fun wx => ∃ X1, Touch (fun _ => False) X X1 ∧ wx.ownsMap Tryd.prog 80 unitElem m (known.length + 1) (D.put (.string (keyBytes (z.map (Lit.int .i64)))) (.agg [])) ∧ Touch (fun k => k = m) X1 wx)
      case first =>
          have hM : ∀ x, Touch (fun _ => False) X x → x.cell? ⟨g, 0, none⟩ = some (.map (some m)) := fun x hx => ((HBK.out.touch HTX.out (fun h => h)).touch hx (fun h => h)).cell 0
          have hR : ∀ x, Touch (fun _ => False) X x → Block x w.heap.size 80 (row z) := fun x hx => HBX.out.touch hx (fun h => h)
          have hO : ∀ x, Touch (fun _ => False) X x → x.ownsMap Tryd.prog 80 unitElem m known.length D := fun x hx => ownsMap_touch HOWN.out hx (fun h => h)
          have hfin3 : ∀ x x', Touch (fun _ => False) X x → x'.ownsMap Tryd.prog 80 unitElem m (known.length + 1) (D.put (.string (keyBytes (z.map (Lit.int .i64)))) (.agg [])) → x.grownBy x' (some m) → ∃ X1, Touch (fun _ => False) X X1 ∧ x'.ownsMap Tryd.prog 80 unitElem m (known.length + 1) (D.put (.string (keyBytes (z.map (Lit.int .i64)))) (.agg [])) ∧ Touch (fun k => k = m) X1 x' := fun x x' hx ho hg => ⟨x, hx, ho, (Touch.refl _ x).grown hg fun k hk => Or.inl (Option.some.inj hk).symm⟩
          have hb0 : Touch (fun _ => False) X X.drew := (Touch.refl _ X).drew
          refine wp_region_any (by kernel_rfl) ?_
          refine node_intro (F := wpAny Tryd.prog .any _ _) (fun G hG => ?_)
          have nd_3_4 : ∀ x, Touch (fun _ => False) X x → G 1 #[true, true, true, true, true, true, false] ⟨#[.pointer (some ⟨g, 0, none⟩), .agg (row z), undef, .pointer (some ⟨w.heap.size, 0, none⟩), u4, .bool false, u6, u7, u8, u9, u10, u11, u12, u13, u14, .bool false, .pointer (some ⟨g, 0, none⟩), .pointer (some ⟨g, 0, none⟩), .pointer (some ⟨g, 0, none⟩), .map (some m), .agg (row z), .agg #[], u22, u23, u24, u25, u26, u27, u28, u29, u30, u31], []⟩ x := by
            intro x hb
            rw [hG]
            refine wpAny_ready (rs := [6]) (by kernel_rfl) (by simp) ?_
            refine AllReady.cons rfl (fun K hK => ?_) ?_
            · refine opR_mapUpdate rfl _ _ _ 106 rfl 80 109 T64.law Tryd.underlying106 unitElem m known.length D rfl (hO x hb) (by unfold maxLen; omega) _ _ _ rfl rfl HKL.out _ [] unitElem_mk ?_
              intro X2 hown2 hgr
              refine hK _ _ ?_
              refine wpAny_done (by kernel_rfl) ?_ _
              go_wp2_with fail
              go_meet
              exact hfin3 x X2 hb hown2 hgr
            exact AllReady.nil
          have nd_3 : ∀ x, Touch (fun _ => False) X x → G 2 #[true, true, true, true, false, true, false] ⟨#[.pointer (some ⟨g, 0, none⟩), .agg (row z), undef, .pointer (some ⟨w.heap.size, 0, none⟩), u4, .bool false, u6, u7, u8, u9, u10, u11, u12, u13, u14, .bool false, .pointer (some ⟨g, 0, none⟩), .pointer (some ⟨g, 0, none⟩), .pointer (some ⟨g, 0, none⟩), .map (some m), u20, .agg #[], u22, u23, u24, u25, u26, u27, u28, u29, u30, u31], []⟩ x := by
            intro x hb
            rw [hG]
            refine wpAny_ready (rs := [4]) (by kernel_rfl) (by simp) ?_
            refine AllReady.cons rfl (fun K hK => ?_) ?_
            · refine opR_load_row rfl 80 (.tmp 3) rfl w.heap.size rfl _ (row z) _ _ (hR _ hb) Tryd.underlying80 rfl (by rw [HSZ.out]; exact T64.info) ?_
              refine hK _ _ ?_
              rw [← hG]
              exact nd_3_4 _ hb
            exact AllReady.nil
          have nd_4 : ∀ x, Touch (fun _ => False) X x → G 2 #[true, true, true, false, true, true, false] ⟨#[.pointer (some ⟨g, 0, none⟩), .agg (row z), undef, .pointer (some ⟨w.heap.size, 0, none⟩), u4, .bool false, u6, u7, u8, u9, u10, u11, u12, u13, u14, .bool false, .pointer (some ⟨g, 0, none⟩), .pointer (some ⟨g, 0, none⟩), .pointer (some ⟨g, 0, none⟩), u19, .agg (row z), .agg #[], u22, u23, u24, u25, u26, u27, u28, u29, u30, u31], []⟩ x := by
            intro x hb
            rw [hG]
            refine wpAny_ready (rs := [3]) (by kernel_rfl) (by simp) ?_
            refine AllReady.cons rfl (fun K hK => ?_) ?_
            · have hc := hM x hb
              go_simp
              refine hK _ _ ?_
              rw [← hG]
              exact nd_3_4 _ hb
            exact AllReady.nil
          have nd : ∀ x, Touch (fun _ => False) X x → G 3 #[true, true, true, false, false, true, false] ⟨#[.pointer (some ⟨g, 0, none⟩), .agg (row z), undef, .pointer (some ⟨w.heap.size, 0, none⟩), u4, .bool false, u6, u7, u8, u9, u10, u11, u12, u13, u14, .bool false, .pointer (some ⟨g, 0, none⟩), .pointer (some ⟨g, 0, none⟩), .pointer (some ⟨g, 0, none⟩), u19, u20, .agg #[], u22, u23, u24, u25, u26, u27, u28, u29, u30, u31], []⟩ x := by
            intro x hb
            rw [hG]
            refine wpAny_ready (rs := [3, 4]) (by kernel_rfl) (by simp) ?_
            refine AllReady.cons rfl (fun K hK => ?_) ?_
            · have hc := hM x hb
              go_simp
              refine hK _ _ ?_
              rw [← hG]
              exact nd_3 _ hb
            refine AllReady.cons rfl (fun K hK => ?_) ?_
            · refine opR_load_row rfl 80 (.tmp 3) rfl w.heap.size rfl _ (row z) _ _ (hR _ hb) Tryd.underlying80 rfl (by rw [HSZ.out]; exact T64.info) ?_
              refine hK _ _ ?_
              rw [← hG]
              exact nd_4 _ hb
            exact AllReady.nil
          rw [hG]
          change wpAny _ _ _ _ _ _ _ X.drew
          refine wpAny_take (i := 0) (v := .pointer (some ⟨g, 0, none⟩)) rfl (by kernel_rfl) (by kernel_rfl) (by kernel_rfl) (fun _ _ _ h => h) (Or.inl ⟨by rfl, fun x => by go_simp⟩) ?_
          try dsimp only [Act.put]
          refine wpAny_take (i := 1) (v := .pointer (some ⟨g, 0, none⟩)) rfl (by kernel_rfl) (by kernel_rfl) (by kernel_rfl) (fun _ _ _ h => h) (Or.inl ⟨by rfl, fun x => by go_simp⟩) ?_
          try dsimp only [Act.put]
          refine wpAny_take (i := 2) (v := .pointer (some ⟨g, 0, none⟩)) rfl (by kernel_rfl) (by kernel_rfl) (by kernel_rfl) (fun _ _ _ h => h) (Or.inl ⟨by rfl, fun x => by go_simp⟩) ?_
          try dsimp only [Act.put]
          refine wpAny_take (i := 5) (v := .agg #[]) rfl (by kernel_rfl) (by kernel_rfl) (by kernel_rfl) (fun _ _ _ h => h) (Or.inl ⟨by rfl, fun x => by go_simp⟩) ?_
          try dsimp only [Act.put]
          rw [← hG]
          exact nd _ hb0
      case rest =>
      obtain ⟨X1, hX1, hown2, hX2⟩ := hcut
      obtain ⟨X2, rfl⟩ : ∃ X2 : World, X2 = wc := ⟨_, rfl⟩
      have hT2 : Touch (fun k => k = m) X X2 := (hX1.mono (fun _ h => h.elim)).trans hX2 (fun i h => Or.inl h)
      have HOWN2 := Lib.hid hown2
      have HT2 := Lib.hid hT2
      have hlm : lb ≠ m := by
        rcases HLB.out with ⟨_, h⟩ | ⟨_, h, _⟩
        · rw [h]; exact hgm
        · exact h
      have hXg : Block X2 g 108 #[.map (some m), v] := (HBK.out.touch HTX.out (fun h => h)).touch HT2.out hgm
      have hXL : LeftT X2 80 lb v left := (HLT.out.touch HTX.out (fun h => h)).touch HT2.out hlm
      have hXB : Block X2 w.heap.size 80 (row z) := HBX.out.touch HT2.out (by have := HK.out.lt; omega)
      have e1 : X2.cell? ⟨g, 1, none⟩ = some v := (hXg.cell 1).trans rfl
      have e2 : X2.frozen? ⟨g, 1, none⟩ = false := hXg.free 1
      have HXG := Lib.hid hXg
      have HXL := Lib.hid hXL
      have HXB := Lib.hid hXB
      clear hXg hXL hXB hX1 hX2 hown2 hT2
      obtain ⟨i0, hi, hz0, hz1, hz2⟩ := info_parts TqT.info
      have HLL := Lib.hid (fun zs hz => (HLEN.out zs (HSUB.out zs hz)).1)
      have hgX : g < X2.heap.size := HXG.out.lt
      have hog : v.ownBlock ≠ some g := fun h => by
        rcases HLB.out with ⟨rfl, _⟩ | ⟨h1, _⟩
        · cases h
        · exact h1 (HXL.out.own h).symm
      have hom : v.ownBlock ≠ some m := fun h => hlm (HXL.out.own h).symm
      have HOG := Lib.hid hog
      have HOM := Lib.hid hom
      clear hog hom
      have hV : ∀ x, Touch (fun _ => False) X2 x → x.cell? ⟨g, 1, none⟩ = some v := fun x hx => (hx.cell (p := ⟨g, 1, none⟩) hgX (fun h => h)).trans e1
      have hR2 : ∀ x, Touch (fun _ => False) X2 x → Block x w.heap.size 80 (row z) := fun x hx => HXB.out.touch hx (fun h => h)
      have hend : ∀ (x : World) (bb : Nat) (v' : Value) (w3 : World) (lb' : Nat), (Touch (fun _ => False) X2 x ∧ Block x bb 80 (row z) ∧ X2.heap.size ≤ bb) → LeftT w3 80 lb' v' (left ++ [z]) → (lb' = lb ∧ v.ownBlock = some lb ∨ x.heap.size ≤ lb') → Touch (fun k => v.ownBlock = some k) x w3 → lb' < w3.heap.size →
          PutPostT g m lb known left z w (.returned (.tuple #[])) (w3.setCell ⟨g, 1, none⟩ v') := by
        intro x bb v' w3 lb' hb hL3 hlb3 hT3 hlt3
        have hmX : m < X2.heap.size := HOWN2.out.lt
        have hsz := hb.1.size
        have hlb : lb' ≠ g ∧ lb' ≠ m := by
          rcases hlb3 with ⟨h1, h2⟩ | h1
          · rw [h1]
            exact ⟨fun h => HOG.out (by rw [h2, h]), fun h => HOM.out (by rw [h2, h])⟩
          · exact ⟨by omega, by omega⟩
        have hgm' : m ≠ g := fun h => hgm h.symm
        have hTT : Touch (fun k => v.ownBlock = some k) X2 w3 := (hb.1.mono (fun _ h => h.elim)).trans hT3 fun i h => Or.inl h
        have hT4 : Touch (fun k => k = g ∨ k = m ∨ k = lb) w w3 := ((HTX.out.mono (fun _ h => h.elim)).trans HT2.out (fun i h => Or.inl (Or.inr (Or.inl h)))).trans hTT (fun i h => Or.inl (Or.inr (Or.inr (HXL.out.own h))))
        refine ⟨rfl, hT4.setCell (Or.inl (Or.inl rfl)) _, lb', ⟨⟨v', ?_, ?_, Or.inr ⟨hlb.1, hlb.2, ?_⟩⟩, ?_, hgm, ?_, ?_⟩, ?_⟩
        · exact (HXG.out.touch hTT HOG.out).put 1 _
        · rw [if_neg HMEM.out]
          exact hL3.touch ((Touch.refl (fun k => k = g) w3).setCell (p := ⟨g, 1, none⟩) (Or.inl rfl) _) hlb.1
        · simpa [World.setCell] using hlt3
        · rw [show ins1 known z = known ++ [z] from if_neg HMEM.out]
          exact ((knownT_put HZ.out HOWN.out.isMap HD.out HKL.out HOWN2.out).touch hTT HOM.out).touch ((Touch.refl (fun k => k = g) w3).setCell (p := ⟨g, 1, none⟩) (Or.inl rfl) _) hgm'
        · intro y hy
          rcases mem_ins1.1 hy with h | h
          · exact HLEN.out y h
          · rw [h]; exact ⟨HZ.out, HR.out⟩
        · intro y hy
          rw [if_neg HMEM.out] at hy
          rcases List.mem_append.1 hy with h | h
          · exact mem_ins1.2 (Or.inl (HSUB.out y h))
          · exact mem_ins1.2 (Or.inr (List.mem_singleton.1 h))
        · rcases hlb3 with ⟨h1, _⟩ | h1
          · exact Or.inl h1
          · have := HT2.out.size
            exact Or.inr (by omega)
      have hb0 : Touch (fun _ => False) X2 X2.drew := (Touch.refl _ X2).drew
      go_upto_region 4 with fail
      refine wp_region_any (by kernel_rfl) ?_
      refine node_intro (F := wpAny Tryd.prog .any _ _) (fun G hG => ?_)
      have nd_4_5_6 : ∀ (bb : Nat) (x : World), Touch (fun _ => False) X2 x ∧ Block x bb 80 (row z) ∧ X2.heap.size ≤ bb → G 4 #[true, true, true, true, true, true, true, false, false, false, false] ⟨#[.pointer (some ⟨g, 0, none⟩), .agg (row z), undef, .pointer (some ⟨w.heap.size, 0, none⟩), u4, .bool false, u6, u7, u8, u9, u10, u11, u12, u13, u14, u15, u16, u17, u18, u19, u20, u21, .pointer (some ⟨g, 0, none⟩), .pointer (some ⟨g, 0, none⟩), .pointer (some ⟨g, 0, none⟩), .pointer (some ⟨g, 1, none⟩), v, .agg (row z), .slice (some ⟨bb, 0, none⟩) 1 1, u29, u30, u31], []⟩ x := by
        intro bb x hb
        rw [hG]
        refine wpAny_ready (rs := [7]) (by kernel_rfl) (by simp) ?_
        refine AllReady.cons rfl (fun K hK => ?_) ?_
        · refine step_appendT_left rfl _ _ 105 rfl 80 i0 _ Tryd.underlying105 hi hz0 hz1 hz2 rfl lb v rfl left (HXL.out.touch hb.1 (fun h => h)) HLL.out z HZ.out ⟨bb, 0, none⟩ 1 rfl (news_row hb.2.1) (by omega) ?_
          intro v2 w3 lb2 hL3 hlb3 hT3 hlt3
          have hfin := hend x bb v2 w3 lb2 hb hL3 hlb3 hT3 hlt3
          have e3 := (hT3.cell (p := ⟨g, 1, none⟩) (Nat.lt_of_lt_of_le hgX hb.1.size) HOG.out).trans ((hb.1.cell (p := ⟨g, 1, none⟩) hgX (fun h => h)).trans e1)
          have e4 := (hT3.frozen (p := ⟨g, 1, none⟩) (Nat.lt_of_lt_of_le hgX hb.1.size) HOG.out).trans ((hb.1.frozen (p := ⟨g, 1, none⟩) hgX (fun h => h)).trans e2)
          obtain ⟨A3, c3, rfl⟩ := hL3.form
          have HFIN := Lib.hid hfin
          clear hfin hL3 hlb3 hT3 hlt3
          refine hK _ _ ?_
          clear hK K
          refine wpAny_ready (rs := [8]) (by kernel_rfl) (by simp) ?_
          refine AllReady.cons rfl (fun K hK => ?_) AllReady.nil
          go_simp
          refine hK _ _ ?_
          clear hK K
          refine wpAny_ready (rs := [9]) (by kernel_rfl) (by simp) ?_
          refine AllReady.cons rfl (fun K hK => ?_) AllReady.nil
          go_simp
          refine hK _ _ ?_
          clear hK K
          refine wpAny_ready (rs := [10]) (by kernel_rfl) (by simp) ?_
          refine AllReady.cons rfl (fun K hK => ?_) AllReady.nil
          go_simp
          refine hK _ _ ?_
          clear hK K
          refine wpAny_done (by kernel_rfl) ?_ _
          go_wp2_with fail
          exact bodyPost_end (results_none rfl _ _ _) rfl (by have h := HFIN.out; rw [List.length_append] at h; exact h)
        exact AllReady.nil
      have nd_4_5 : ∀ (bb : Nat) (x : World), Touch (fun _ => False) X2 x → G 5 #[true, true, true, true, true, true, false, false, false, false, false] ⟨#[.pointer (some ⟨g, 0, none⟩), .agg (row z), undef, .pointer (some ⟨w.heap.size, 0, none⟩), u4, .bool false, u6, u7, u8, u9, u10, u11, u12, u13, u14, u15, u16, u17, u18, u19, u20, u21, .pointer (some ⟨g, 0, none⟩), .pointer (some ⟨g, 0, none⟩), .pointer (some ⟨g, 0, none⟩), .pointer (some ⟨g, 1, none⟩), v, .agg (row z), u28, u29, u30, u31], []⟩ x := by
        intro bb x hb
        rw [hG]
        refine wpAny_ready (rs := [6]) (by kernel_rfl) (by simp) ?_
        refine AllReady.cons rfl (fun K hK => ?_) ?_
        · refine opR_buildRow rfl 105 80 (.tmp 27) rfl z 49 rfl i0 _ Tryd.underlying105 hi hz0 hz1 HZ.out (by decide) (by decide) ?_
          have hb := And.intro (hb.alloc (.cells (row z) 80)) (And.intro (Block.made x 80 (row z)) hb.size)
          refine hK _ _ ?_
          rw [← hG]
          exact nd_4_5_6 _ _ hb
        exact AllReady.nil
      have nd_5_6 : ∀ (bb : Nat) (x : World), Touch (fun _ => False) X2 x ∧ Block x bb 80 (row z) ∧ X2.heap.size ≤ bb → G 5 #[true, true, true, true, false, true, true, false, false, false, false] ⟨#[.pointer (some ⟨g, 0, none⟩), .agg (row z), undef, .pointer (some ⟨w.heap.size, 0, none⟩), u4, .bool false, u6, u7, u8, u9, u10, u11, u12, u13, u14, u15, u16, u17, u18, u19, u20, u21, .pointer (some ⟨g, 0, none⟩), .pointer (some ⟨g, 0, none⟩), .pointer (some ⟨g, 0, none⟩), .pointer (some ⟨g, 1, none⟩), u26, .agg (row z), .slice (some ⟨bb, 0, none⟩) 1 1, u29, u30, u31], []⟩ x := by
        intro bb x hb
        rw [hG]
        refine wpAny_ready (rs := [4]) (by kernel_rfl) (by simp) ?_
        refine AllReady.cons rfl (fun K hK => ?_) ?_
        · have hc := hV x hb.1
          go_simp
          refine hK _ _ ?_
          rw [← hG]
          exact nd_4_5_6 bb _ hb
        exact AllReady.nil
      have nd_4 : ∀ (bb : Nat) (x : World), Touch (fun _ => False) X2 x → G 6 #[true, true, true, true, true, false, false, false, false, false, false] ⟨#[.pointer (some ⟨g, 0, none⟩), .agg (row z), undef, .pointer (some ⟨w.heap.size, 0, none⟩), u4, .bool false, u6, u7, u8, u9, u10, u11, u12, u13, u14, u15, u16, u17, u18, u19, u20, u21, .pointer (some ⟨g, 0, none⟩), .pointer (some ⟨g, 0, none⟩), .pointer (some ⟨g, 0, none⟩), .pointer (some ⟨g, 1, none⟩), v, u27, u28, u29, u30, u31], []⟩ x := by
        intro bb x hb
        rw [hG]
        refine wpAny_ready (rs := [5]) (by kernel_rfl) (by simp) ?_
        refine AllReady.cons rfl (fun K hK => ?_) ?_
        · refine opR_load_row rfl 80 (.tmp 3) rfl w.heap.size rfl _ (row z) _ _ (hR2 _ hb) Tryd.underlying80 rfl (by rw [HSZ.out]; exact T64.info) ?_
          refine hK _ _ ?_
          rw [← hG]
          exact nd_4_5 bb _ hb
        exact AllReady.nil
      have nd_5 : ∀ (bb : Nat) (x : World), Touch (fun _ => False) X2 x → G 6 #[true, true, true, true, false, true, false, false, false, false, false] ⟨#[.pointer (some ⟨g, 0, none⟩), .agg (row z), undef, .pointer (some ⟨w.heap.size, 0, none⟩), u4, .bool false, u6, u7, u8, u9, u10, u11, u12, u13, u14, u15, u16, u17, u18, u19, u20, u21, .pointer (some ⟨g, 0, none⟩), .pointer (some ⟨g, 0, none⟩), .pointer (some ⟨g, 0, none⟩), .pointer (some ⟨g, 1, none⟩), u26, .agg (row z), u28, u29, u30, u31], []⟩ x := by
        intro bb x hb
        rw [hG]
        refine wpAny_ready (rs := [4, 6]) (by kernel_rfl) (by simp) ?_
        refine AllReady.cons rfl (fun K hK => ?_) ?_
        · have hc := hV x hb
          go_simp
          refine hK _ _ ?_
          rw [← hG]
          exact nd_4_5 bb _ hb
        refine AllReady.cons rfl (fun K hK => ?_) ?_
        · refine opR_buildRow rfl 105 80 (.tmp 27) rfl z 49 rfl i0 _ Tryd.underlying105 hi hz0 hz1 HZ.out (by decide) (by decide) ?_
          have hb := And.intro (hb.alloc (.cells (row z) 80)) (And.intro (Block.made x 80 (row z)) hb.size)
          refine hK _ _ ?_
          rw [← hG]
          exact nd_5_6 _ _ hb
        exact AllReady.nil
      have nd : ∀ (bb : Nat) (x : World), Touch (fun _ => False) X2 x → G 7 #[true, true, true, true, false, false, false, false, false, false, false] ⟨#[.pointer (some ⟨g, 0, none⟩), .agg (row z), undef, .pointer (some ⟨w.heap.size, 0, none⟩), u4, .bool false, u6, u7, u8, u9, u10, u11, u12, u13, u14, u15, u16, u17, u18, u19, u20, u21, .pointer (some ⟨g, 0, none⟩), .pointer (some ⟨g, 0, none⟩), .pointer (some ⟨g, 0, none⟩), .pointer (some ⟨g, 1, none⟩), u26, u27, u28, u29, u30, u31], []⟩ x := by
        intro bb x hb
        rw [hG]
        refine wpAny_ready (rs := [4, 5]) (by kernel_rfl) (by simp) ?_
        refine AllReady.cons rfl (fun K hK => ?_) ?_
        · have hc := hV x hb
          go_simp
          refine hK _ _ ?_
          rw [← hG]
          exact nd_4 bb _ hb
        refine AllReady.cons rfl (fun K hK => ?_) ?_
        · refine opR_load_row rfl 80 (.tmp 3) rfl w.heap.size rfl _ (row z) _ _ (hR2 _ hb) Tryd.underlying80 rfl (by rw [HSZ.out]; exact T64.info) ?_
          refine hK _ _ ?_
          rw [← hG]
          exact nd_5 bb _ hb
        exact AllReady.nil
      rw [hG]
      change wpAny _ _ _ _ _ _ _ X2.drew
      refine wpAny_take (i := 0) (v := .pointer (some ⟨g, 0, none⟩)) rfl (by kernel_rfl) (by kernel_rfl) (by kernel_rfl) (fun _ _ _ h => h) (Or.inl ⟨by rfl, fun x => by go_simp⟩) ?_
      try dsimp only [Act.put]
      refine wpAny_take (i := 1) (v := .pointer (some ⟨g, 0, none⟩)) rfl (by kernel_rfl) (by kernel_rfl) (by kernel_rfl) (fun _ _ _ h => h) (Or.inl ⟨by rfl, fun x => by go_simp⟩) ?_
      try dsimp only [Act.put]
      refine wpAny_take (i := 2) (v := .pointer (some ⟨g, 0, none⟩)) rfl (by kernel_rfl) (by kernel_rfl) (by kernel_rfl) (fun _ _ _ h => h) (Or.inl ⟨by rfl, fun x => by go_simp⟩) ?_
      try dsimp only [Act.put]
      refine wpAny_take (i := 3) (v := .pointer (some ⟨g, 1, none⟩)) rfl (by kernel_rfl) (by kernel_rfl) (by kernel_rfl) (fun _ _ _ h => h) (Or.inl ⟨by rfl, fun x => by go_simp⟩) ?_
      try dsimp only [Act.put]
      rw [← hG]
      exact nd 0 _ hb0
end Go.Proofs.YthpnnmkpbkbanaaDoor

/-
  The queue of states where what is stored waits: Take.
-/
namespace Go.Proofs.YthpnnmkpbkbanaaDoor
open Go.RowKit Go.Maps
attribute [local go_sem ↓] Go.wp_at_zero Go.wp_at_succ

def zero49 : List Int := List.replicate 49 0
theorem zero49_row : row zero49 = #[.int .i64 0, .int .i64 0, .int .i64 0, .int .i64 0, .int .i64 0, .int .i64 0, .int .i64 0, .int .i64 0, .int .i64 0, .int .i64 0, .int .i64 0, .int .i64 0, .int .i64 0, .int .i64 0, .int .i64 0, .int .i64 0, .int .i64 0, .int .i64 0, .int .i64 0, .int .i64 0, .int .i64 0, .int .i64 0, .int .i64 0, .int .i64 0, .int .i64 0, .int .i64 0, .int .i64 0, .int .i64 0, .int .i64 0, .int .i64 0, .int .i64 0, .int .i64 0, .int .i64 0, .int .i64 0, .int .i64 0, .int .i64 0, .int .i64 0, .int .i64 0, .int .i64 0, .int .i64 0, .int .i64 0, .int .i64 0, .int .i64 0, .int .i64 0, .int .i64 0, .int .i64 0, .int .i64 0, .int .i64 0, .int .i64 0] := rfl
section
variable {P : Program} {ops : Array Oper} {o : Oper} {a : Act} {w : World} {K : Act → World → Prop} {Q : Exit → Act → World → Prop} {E : Prop}
theorem opR_value (hg : o.guard = none) {v : Value} (hrun : (execOp a.eval o).run P w = .ok (.value v) w) (h : K (a.put o.dst v) w) : if Region.wanted o (yielded ops a.tmps) = true then Oper.wp P o a w K Q else E := by
  rw [if_pos (by simp [Region.wanted, hg])]
  unfold Oper.wp
  rw [hrun]
  exact h
theorem opR_store_row (hg : o.guard = none) (ty : TypeId) (x y : Operand) (ho : o.op = .store ty x y) (g : Nat) (cells : Array Value) (hx : a.eval x = .pointer (some ⟨g, 0, none⟩)) (hy : a.eval y = .agg cells)
    (t : TypeId) (old : Array Value) (hgd : w.heap[g]? = some (.cells old t (0, 0))) (hi : (P.info? ty).map (·.size) = some cells.size) (hold : old.size = cells.size) (h1 : cells.all (·.oneCell') = true)
    (h : K (a.put o.dst undef) (w.setRow g cells)) : if Region.wanted o (yielded ops a.tmps) = true then Oper.wp P o a w K Q else E := by
  rw [if_pos (by simp [Region.wanted, hg])]
  exact wp_store_row ty x y ho g cells hx hy t old hgd hi hold h1 h
theorem results_cell_row_slot {fn : Func} {p q : Tmp} {ty : TypeId} (h : fn.results = #[.cell p ty, .tmp q]) (tmps : Array Value) (w : World) (g : Nat) (t : TypeId) (cs : Array Value) (fr : Nat × Nat) (d : TypeDesc) (v : Value)
    (hp : tmps.getD p undef = .pointer (some ⟨g, 0, none⟩)) (hv : tmps.getD q undef = v) (hg : w.heap[g]? = some (.cells cs t fr))
    (hu : P.underlying ty = some d) (hd : (match d with | .struct _ | .array _ _ => true | _ => false) = true) (hi : (P.info? ty).map (·.size) = some cs.size) :
    (results fn tmps).run P w = .ok (.tuple #[.agg cs, v]) w := by
  have hp' : tmps[p]?.getD undef = .pointer (some ⟨g, 0, none⟩) := by simpa using hp
  have hv' : tmps[q]?.getD undef = v := by simpa using hv
  simp [results, h, hp', hv', asAddr, run_loadVar_row w g t ty cs fr d hg hu hd hi]
end
/-- Where the rest of the slice begins. -/
def nextA (lb o cap : Nat) : Addr := if cap = 1 then ⟨lb, o, none⟩ else ⟨lb, o + 49, none⟩
theorem slice_one (lb o n cap : Nat) (hn : n + 1 ≤ cap) (w : World) : (Instr.slice 105 (.slice (some ⟨lb, o, none⟩) (n + 1) cap) (some (.int .i64 1)) none none).run Tryd.prog w = .ok (.slice (some (nextA lb o cap)) n (cap - 1)) w := by
  by_cases hc : cap = 1
  · subst hc
    simp [Instr.slice, Instr.sliceBounds, Instr.sliceBound, asIntOf, run_underlying Tryd.underlying105, go_sem, nextA]
    intro h; omega
  · simp [Instr.slice, Instr.sliceBounds, Instr.sliceBound, asIntOf, run_underlying Tryd.underlying105, go_sem, nextA, hc]
    intro h; omega

set_option maxRecDepth 100000 in
set_option maxHeartbeats 1000000 in
theorem takeT_none (g m lb : Nat) (known : List (List Int)) (w : World) (hq : QT w g m lb known []) :
    Calls Tryd.prog 33 #[.pointer (some ⟨g, 0, none⟩)] w fun e w' => e = .returned (.tuple #[.agg (row zero49), .bool false]) ∧ Touch (fun _ => False) w w' := by
  obtain ⟨⟨v, hb, hL, hlb⟩, hk, hgm, hlen, hsub⟩ := hq
  obtain ⟨A, c, rfl⟩ := hL.form
  have c1 := hb.cell 1
  simp at c1
  have hgl := hb.lt
  have HB := Lib.hid (Block.made w 80 #[.int .i64 0, .int .i64 0, .int .i64 0, .int .i64 0, .int .i64 0, .int .i64 0, .int .i64 0, .int .i64 0, .int .i64 0, .int .i64 0, .int .i64 0, .int .i64 0, .int .i64 0, .int .i64 0, .int .i64 0, .int .i64 0, .int .i64 0, .int .i64 0, .int .i64 0, .int .i64 0, .int .i64 0, .int .i64 0, .int .i64 0, .int .i64 0, .int .i64 0, .int .i64 0, .int .i64 0, .int .i64 0, .int .i64 0, .int .i64 0, .int .i64 0, .int .i64 0, .int .i64 0, .int .i64 0, .int .i64 0, .int .i64 0, .int .i64 0, .int .i64 0, .int .i64 0, .int .i64 0, .int .i64 0, .int .i64 0, .int .i64 0, .int .i64 0, .int .i64 0, .int .i64 0, .int .i64 0, .int .i64 0, .int .i64 0])
  have HB2 := Lib.hid (setRow_heap _ w.heap.size _ (row zero49) 80 _ (Block.made w 80 #[.int .i64 0, .int .i64 0, .int .i64 0, .int .i64 0, .int .i64 0, .int .i64 0, .int .i64 0, .int .i64 0, .int .i64 0, .int .i64 0, .int .i64 0, .int .i64 0, .int .i64 0, .int .i64 0, .int .i64 0, .int .i64 0, .int .i64 0, .int .i64 0, .int .i64 0, .int .i64 0, .int .i64 0, .int .i64 0, .int .i64 0, .int .i64 0, .int .i64 0, .int .i64 0, .int .i64 0, .int .i64 0, .int .i64 0, .int .i64 0, .int .i64 0, .int .i64 0, .int .i64 0, .int .i64 0, .int .i64 0, .int .i64 0, .int .i64 0, .int .i64 0, .int .i64 0, .int .i64 0, .int .i64 0, .int .i64 0, .int .i64 0, .int .i64 0, .int .i64 0, .int .i64 0, .int .i64 0, .int .i64 0, .int .i64 0]))
  clear hlb hsub hlen hL hb hk
  go_enter Tryd.func33, Tryd.ntmps33
  go_wp2_with (first | (refine wpList_load_row rfl 80 (.tmp 2) rfl w.heap.size rfl _ (row zero49) _ _ HB.out Tryd.underlying80 rfl (by exact T64.info) ?_) | (refine wpList_store_row rfl 80 (.tmp 2) (.tmp 10) rfl w.heap.size (row zero49) rfl rfl _ _ HB.out (by exact T64.info) rfl (row_one _) ?_))
  exact bodyPost_ret (v := .tuple #[.agg (row zero49), .bool false]) (results_cell_row_slot rfl _ _ w.heap.size _ _ _ _ _ rfl rfl HB2.out Tryd.underlying80 rfl (by exact T64.info)) rfl ⟨rfl, ((Touch.refl _ w).alloc _).setRow (Or.inr (Nat.le_refl _)) _⟩

def TakePostT (g m lb : Nat) (known rest : List (List Int)) (z : List Int) (w : World) (e : Ending) (w' : World) : Prop :=
  e = .returned (.tuple #[.agg (row z), .bool true]) ∧ Touch (fun k => k = g) w w' ∧ QT w' g m lb known rest
set_option maxRecDepth 100000 in
set_option maxHeartbeats 4000000 in
theorem takeT_some (g m lb : Nat) (known rest : List (List Int)) (z : List Int) (w : World) (hq : QT w g m lb known (z :: rest)) :
    Calls Tryd.prog 33 #[.pointer (some ⟨g, 0, none⟩)] w (TakePostT g m lb known rest z w) := by
  have hz : z.length = 49 := (hq.len z (hq.sub z (by simp))).1
  have HQ := Lib.hid hq
  obtain ⟨⟨v, hb, hL, hlb⟩, hk, hgm, hlen, hsub⟩ := hq
  have HL := Lib.hid hL
  obtain ⟨A, cap, rfl, hn, hcm, hnone, hsome⟩ := hL
  have HB := Lib.hid hb
  have hgl := hb.lt
  simp only [List.length_cons] at hn
  cases A with
  | none =>
    have := hnone rfl
    omega
  | some ad =>
    obtain ⟨o, rfl, hll, hrow⟩ := hsome ad rfl
    obtain ⟨cs, hcb, hsz, hcs⟩ := hrow (by omega)
    have hfl : flat (z :: rest) = z.map (Value.int .i64) ++ flat rest := flat_cons z rest
    have hra : World.rangeAt w lb o (z.map (Value.int .i64)) := fun j u hj => by
      refine (hcb.cell (o + j)).trans (hcs j u ?_)
      rw [hfl, List.getElem?_append_left (List.getElem?_eq_some_iff.1 hj).1]
      exact hj
    have hlg : lb ≠ g ∧ lb ≠ m ∧ lb < w.heap.size := by
      rcases hlb with ⟨h, _⟩ | h
      · cases h
      · exact h
    have c1 := hb.cell 1
    have f1 := hb.free 1
    simp at c1
    have i1 : ¬ ((rest.length : Int) + 1 = 0) := by omega
    have i2 : (0 : Int) < (rest.length : Int) + 1 := by omega
    have HZ := Lib.hid (show (z.map (Value.int .i64)).length = 49 by rw [List.length_map, hz])
    have HZR := Lib.hid (show (row z).size = 49 by rw [row_size, hz])
    have HRA := Lib.hid hra
    have HCB := Lib.hid hcb
    have HCS := Lib.hid hcs
    have HSZ := Lib.hid hsz
    have HK := Lib.hid hk
    have HLEN := Lib.hid hlen
    have HSUB := Lib.hid hsub
    have HN := Lib.hid hn
    have HCM := Lib.hid hcm
    have HZ49 := Lib.hid hz
    have HSL := Lib.hid (slice_one lb o rest.length cap hn)
    obtain ⟨nx, hnx⟩ : ∃ nx, nx = nextA lb o cap := ⟨_, rfl⟩
    rw [← hnx] at HSL
    have HNX := Lib.hid hnx
    clear hlb hsub hlen hk hb hcs hcb hsz hnone hsome hrow hra hfl hn hcm hz hnx
    go_enter Tryd.func33, Tryd.ntmps33
    go_upto_region 3 with fail
    obtain ⟨W, hW⟩ : ∃ W, W = w.alloc (.cells #[.int .i64 0, .int .i64 0, .int .i64 0, .int .i64 0, .int .i64 0, .int .i64 0, .int .i64 0, .int .i64 0, .int .i64 0, .int .i64 0, .int .i64 0, .int .i64 0, .int .i64 0, .int .i64 0, .int .i64 0, .int .i64 0, .int .i64 0, .int .i64 0, .int .i64 0, .int .i64 0, .int .i64 0, .int .i64 0, .int .i64 0, .int .i64 0, .int .i64 0, .int .i64 0, .int .i64 0, .int .i64 0, .int .i64 0, .int .i64 0, .int .i64 0, .int .i64 0, .int .i64 0, .int .i64 0, .int .i64 0, .int .i64 0, .int .i64 0, .int .i64 0, .int .i64 0, .int .i64 0, .int .i64 0, .int .i64 0, .int .i64 0, .int .i64 0, .int .i64 0, .int .i64 0, .int .i64 0, .int .i64 0, .int .i64 0] 80) := ⟨_, rfl⟩
    have bW : Block W w.heap.size 80 #[.int .i64 0, .int .i64 0, .int .i64 0, .int .i64 0, .int .i64 0, .int .i64 0, .int .i64 0, .int .i64 0, .int .i64 0, .int .i64 0, .int .i64 0, .int .i64 0, .int .i64 0, .int .i64 0, .int .i64 0, .int .i64 0, .int .i64 0, .int .i64 0, .int .i64 0, .int .i64 0, .int .i64 0, .int .i64 0, .int .i64 0, .int .i64 0, .int .i64 0, .int .i64 0, .int .i64 0, .int .i64 0, .int .i64 0, .int .i64 0, .int .i64 0, .int .i64 0, .int .i64 0, .int .i64 0, .int .i64 0, .int .i64 0, .int .i64 0, .int .i64 0, .int .i64 0, .int .i64 0, .int .i64 0, .int .i64 0, .int .i64 0, .int .i64 0, .int .i64 0, .int .i64 0, .int .i64 0, .int .i64 0, .int .i64 0] := by rw [hW]; exact Block.made _ _ _
    have tW : Touch (fun _ => False) w W := by rw [hW]; exact (Touch.refl _ w).alloc _
    rw [← hW]
    have BW := Lib.hid bW
    have TW := Lib.hid tW
    clear hW bW tW
    go_cut [] (fun wx => Block wx w.heap.size 80 (row z) ∧ Touch (fun k => k = g) w wx ∧ QT wx g m lb known rest)
    case first =>
      have d1 := (TW.out.cell (p := ⟨g, 1, none⟩) hgl (fun h => h)).trans c1
      have d2 := (TW.out.frozen (p := ⟨g, 1, none⟩) hgl (fun h => h)).trans f1
      have hR : World.rangeAt W.drew lb o (z.map (Value.int .i64)) := fun j u hj => (TW.out.cell (p := ⟨lb, o + j, none⟩) hlg.2.2 (fun h => h)).trans (HRA.out j u hj)
      obtain ⟨V, hV⟩ : ∃ V, V = W.drew.setRow w.heap.size (row z) := ⟨_, rfl⟩
      have bV : Block V w.heap.size 80 (row z) := by rw [hV]; exact setRow_heap _ _ _ _ _ _ BW.out.drew
      have tV : Touch (fun _ => False) w V := by rw [hV]; exact (TW.out.drew).setRow (Or.inr (Nat.le_refl _)) _
      have v1 := (tV.cell (p := ⟨g, 1, none⟩) hgl (fun h => h)).trans c1
      have v2 := (tV.frozen (p := ⟨g, 1, none⟩) hgl (fun h => h)).trans f1
      have hfin : Block (V.setCell ⟨g, 1, none⟩ (.slice (some nx) rest.length (cap - 1))) w.heap.size 80 (row z) ∧ Touch (fun k => k = g) w (V.setCell ⟨g, 1, none⟩ (.slice (some nx) rest.length (cap - 1))) ∧ QT (V.setCell ⟨g, 1, none⟩ (.slice (some nx) rest.length (cap - 1))) g m lb known rest := by
        have hgv := (HB.out.touch tV (fun h => h))
        have ts : Touch (fun k => k = g) V (V.setCell ⟨g, 1, none⟩ (.slice (some nx) rest.length (cap - 1))) := (Touch.refl (fun k => k = g) V).setCell (p := ⟨g, 1, none⟩) (Or.inl rfl) _
        refine ⟨bV.touch ts (by omega), (tV.mono (fun _ h => h.elim)).trans ts (fun i h => Or.inl h), ⟨⟨.slice (some nx) rest.length (cap - 1), hgv.put 1 _, ?_, Or.inr ⟨hlg.1, hlg.2.1, ?_⟩⟩, (HK.out.touch tV (fun h => h)).touch ts (fun h => hgm h.symm), hgm, HLEN.out, fun y hy => HSUB.out y (List.mem_cons_of_mem _ hy)⟩⟩
        · have hn := HN.out
          have hcm := HCM.out
          refine ⟨some nx, cap - 1, rfl, by omega, by omega, (fun h => by cases h), fun a ha => ?_⟩
          obtain rfl := Option.some.inj ha
          have hcb : Block (V.setCell ⟨g, 1, none⟩ (.slice (some nx) rest.length (cap - 1))) lb 80 cs := (HCB.out.touch tV (fun h => h)).touch ts (fun h => hlg.1 h)
          by_cases hc : cap = 1
          · refine ⟨o, by rw [HNX.out, nextA, if_pos hc], hcb.lt, fun h => by omega⟩
          · refine ⟨o + 49, by rw [HNX.out, nextA, if_neg hc], hcb.lt, fun h => ⟨cs, hcb, by have := HSZ.out; omega, fun j u hj => ?_⟩⟩
            have := HCS.out (49 + j) u (by rw [flat_cons, List.getElem?_append_right (by rw [HZ.out]; omega), HZ.out, Nat.add_sub_cancel_left]; exact hj)
            rwa [← Nat.add_assoc] at this
        · have := tV.size
          have := ts.size
          omega
      have HV := Lib.hid hV
      clear hV
      refine wp_region_any (by kernel_rfl) ?_
      refine node_intro (F := wpAny Tryd.prog .any _ _) (fun G hG => ?_)
      have nd_4_5_6_10_11_12_13_14 : ∀ (x : World), x = V → G 1 #[true, true, true, true, true, true, true, true, true, true, true, true, true, true, true, false] ⟨#[.pointer (some ⟨g, 0, none⟩), undef, .pointer (some ⟨w.heap.size, 0, none⟩), .bool false, .pointer (some ⟨g, 0, none⟩), .pointer (some ⟨g, 0, none⟩), .pointer (some ⟨g, 1, none⟩), .slice (some ⟨lb, o, none⟩) (rest.length + 1) cap, .int .i64 ((rest.length : Int) + 1), .bool false, undef, .pointer (some ⟨g, 0, none⟩), .pointer (some ⟨g, 0, none⟩), .pointer (some ⟨g, 0, none⟩), .pointer (some ⟨g, 1, none⟩), .slice (some ⟨lb, o, none⟩) (rest.length + 1) cap, .pointer (some ⟨lb, o, none⟩), .agg (z.map (Value.int .i64)).toArray, .pointer (some ⟨g, 0, none⟩), .pointer (some ⟨g, 0, none⟩), .pointer (some ⟨g, 1, none⟩), .slice (some ⟨lb, o, none⟩) (rest.length + 1) cap, .slice (some nx) rest.length (cap - 1), .pointer (some ⟨g, 0, none⟩), .pointer (some ⟨g, 1, none⟩), undef], []⟩ x := by
        intro x hb
        rw [hG]
        refine wpAny_ready (rs := [15]) (by kernel_rfl) (by simp) ?_
        refine AllReady.cons rfl (fun K hK => ?_) ?_
        · obtain rfl : V = x := hb.symm
          go_simp
          have hb : V = V := rfl
          refine hK _ _ ?_
          refine wpAny_done (by kernel_rfl) ?_ _
          go_wp2_with fail
          go_meet
          exact hfin
        exact AllReady.nil
      have nd_4_5_6_10_11_12_13 : ∀ (x : World), x = V → G 2 #[true, true, true, true, true, true, true, true, true, true, true, true, true, true, false, false] ⟨#[.pointer (some ⟨g, 0, none⟩), undef, .pointer (some ⟨w.heap.size, 0, none⟩), .bool false, .pointer (some ⟨g, 0, none⟩), .pointer (some ⟨g, 0, none⟩), .pointer (some ⟨g, 1, none⟩), .slice (some ⟨lb, o, none⟩) (rest.length + 1) cap, .int .i64 ((rest.length : Int) + 1), .bool false, undef, .pointer (some ⟨g, 0, none⟩), .pointer (some ⟨g, 0, none⟩), .pointer (some ⟨g, 0, none⟩), .pointer (some ⟨g, 1, none⟩), .slice (some ⟨lb, o, none⟩) (rest.length + 1) cap, .pointer (some ⟨lb, o, none⟩), .agg (z.map (Value.int .i64)).toArray, .pointer (some ⟨g, 0, none⟩), .pointer (some ⟨g, 0, none⟩), .pointer (some ⟨g, 1, none⟩), .slice (some ⟨lb, o, none⟩) (rest.length + 1) cap, .slice (some nx) rest.length (cap - 1), .pointer (some ⟨g, 0, none⟩), undef, undef], []⟩ x := by
        intro x hb
        rw [hG]
        refine wpAny_ready (rs := [14]) (by kernel_rfl) (by simp) ?_
        refine AllReady.cons rfl (fun K hK => ?_) ?_
        · obtain rfl : V = x := hb.symm
          go_simp
          have hb : V = V := rfl
          refine hK _ _ ?_
          rw [← hG]
          exact nd_4_5_6_10_11_12_13_14 _ hb
        exact AllReady.nil
      have nd_4_5_6_10_11_12 : ∀ (x : World), x = V → G 3 #[true, true, true, true, true, true, true, true, true, true, true, true, true, false, false, false] ⟨#[.pointer (some ⟨g, 0, none⟩), undef, .pointer (some ⟨w.heap.size, 0, none⟩), .bool false, .pointer (some ⟨g, 0, none⟩), .pointer (some ⟨g, 0, none⟩), .pointer (some ⟨g, 1, none⟩), .slice (some ⟨lb, o, none⟩) (rest.length + 1) cap, .int .i64 ((rest.length : Int) + 1), .bool false, undef, .pointer (some ⟨g, 0, none⟩), .pointer (some ⟨g, 0, none⟩), .pointer (some ⟨g, 0, none⟩), .pointer (some ⟨g, 1, none⟩), .slice (some ⟨lb, o, none⟩) (rest.length + 1) cap, .pointer (some ⟨lb, o, none⟩), .agg (z.map (Value.int .i64)).toArray, .pointer (some ⟨g, 0, none⟩), .pointer (some ⟨g, 0, none⟩), .pointer (some ⟨g, 1, none⟩), .slice (some ⟨lb, o, none⟩) (rest.length + 1) cap, .slice (some nx) rest.length (cap - 1), undef, undef, undef], []⟩ x := by
        intro x hb
        rw [hG]
        refine wpAny_ready (rs := [13]) (by kernel_rfl) (by simp) ?_
        refine AllReady.cons rfl (fun K hK => ?_) ?_
        · obtain rfl : V = x := hb.symm
          go_simp
          have hb : V = V := rfl
          refine hK _ _ ?_
          rw [← hG]
          exact nd_4_5_6_10_11_12_13 _ hb
        exact AllReady.nil
      have nd_4_5_6_10_12 : ∀ (x : World), x = V → G 4 #[true, true, true, true, true, true, true, true, true, true, true, false, true, false, false, false] ⟨#[.pointer (some ⟨g, 0, none⟩), undef, .pointer (some ⟨w.heap.size, 0, none⟩), .bool false, .pointer (some ⟨g, 0, none⟩), .pointer (some ⟨g, 0, none⟩), .pointer (some ⟨g, 1, none⟩), .slice (some ⟨lb, o, none⟩) (rest.length + 1) cap, .int .i64 ((rest.length : Int) + 1), .bool false, undef, .pointer (some ⟨g, 0, none⟩), .pointer (some ⟨g, 0, none⟩), .pointer (some ⟨g, 0, none⟩), .pointer (some ⟨g, 1, none⟩), .slice (some ⟨lb, o, none⟩) (rest.length + 1) cap, .pointer (some ⟨lb, o, none⟩), .agg (z.map (Value.int .i64)).toArray, .pointer (some ⟨g, 0, none⟩), .pointer (some ⟨g, 0, none⟩), .pointer (some ⟨g, 1, none⟩), .slice (some ⟨lb, o, none⟩) (rest.length + 1) cap, undef, undef, undef, undef], []⟩ x := by
        intro x hb
        rw [hG]
        refine wpAny_ready (rs := [11]) (by kernel_rfl) (by simp) ?_
        refine AllReady.cons rfl (fun K hK => ?_) ?_
        · obtain rfl : V = x := hb.symm
          refine opR_value rfl (v := .slice (some nx) rest.length (cap - 1)) (by have h := HSL.out; simp only [execOp]; simp [Instr.sliceAt, go_sem, h]) ?_
          have hb : V = V := rfl
          refine hK _ _ ?_
          rw [← hG]
          exact nd_4_5_6_10_11_12 _ hb
        exact AllReady.nil
      have nd_4_5_6_10_11 : ∀ (x : World), x = W.drew → G 4 #[true, true, true, true, true, true, true, true, true, true, true, true, false, false, false, false] ⟨#[.pointer (some ⟨g, 0, none⟩), undef, .pointer (some ⟨w.heap.size, 0, none⟩), .bool false, .pointer (some ⟨g, 0, none⟩), .pointer (some ⟨g, 0, none⟩), .pointer (some ⟨g, 1, none⟩), .slice (some ⟨lb, o, none⟩) (rest.length + 1) cap, .int .i64 ((rest.length : Int) + 1), .bool false, undef, .pointer (some ⟨g, 0, none⟩), .pointer (some ⟨g, 0, none⟩), .pointer (some ⟨g, 0, none⟩), .pointer (some ⟨g, 1, none⟩), .slice (some ⟨lb, o, none⟩) (rest.length + 1) cap, .pointer (some ⟨lb, o, none⟩), .agg (z.map (Value.int .i64)).toArray, .pointer (some ⟨g, 0, none⟩), .pointer (some ⟨g, 0, none⟩), .pointer (some ⟨g, 1, none⟩), .slice (some ⟨lb, o, none⟩) (rest.length + 1) cap, .slice (some nx) rest.length (cap - 1), undef, undef, undef], []⟩ x := by
        intro x hb
        rw [hG]
        refine wpAny_ready (rs := [12]) (by kernel_rfl) (by simp) ?_
        refine AllReady.cons rfl (fun K hK => ?_) ?_
        · subst hb
          refine opR_store_row rfl 80 (.tmp 2) (.tmp 17) rfl w.heap.size (row z) rfl rfl 80 _ BW.out.drew (by rw [HZR.out]; exact T64.info) (by rw [HZR.out]; rfl) (row_one _) ?_
          have hb := HV.out.symm
          refine hK _ _ ?_
          rw [← hG]
          exact nd_4_5_6_10_11_12 _ hb
        exact AllReady.nil
      have nd_4_5_6_10 : ∀ (x : World), x = W.drew → G 5 #[true, true, true, true, true, true, true, true, true, true, true, false, false, false, false, false] ⟨#[.pointer (some ⟨g, 0, none⟩), undef, .pointer (some ⟨w.heap.size, 0, none⟩), .bool false, .pointer (some ⟨g, 0, none⟩), .pointer (some ⟨g, 0, none⟩), .pointer (some ⟨g, 1, none⟩), .slice (some ⟨lb, o, none⟩) (rest.length + 1) cap, .int .i64 ((rest.length : Int) + 1), .bool false, undef, .pointer (some ⟨g, 0, none⟩), .pointer (some ⟨g, 0, none⟩), .pointer (some ⟨g, 0, none⟩), .pointer (some ⟨g, 1, none⟩), .slice (some ⟨lb, o, none⟩) (rest.length + 1) cap, .pointer (some ⟨lb, o, none⟩), .agg (z.map (Value.int .i64)).toArray, .pointer (some ⟨g, 0, none⟩), .pointer (some ⟨g, 0, none⟩), .pointer (some ⟨g, 1, none⟩), .slice (some ⟨lb, o, none⟩) (rest.length + 1) cap, undef, undef, undef, undef], []⟩ x := by
        intro x hb
        rw [hG]
        refine wpAny_ready (rs := [11, 12]) (by kernel_rfl) (by simp) ?_
        refine AllReady.cons rfl (fun K hK => ?_) ?_
        · subst hb
          refine opR_value rfl (v := .slice (some nx) rest.length (cap - 1)) (by have h := HSL.out; simp only [execOp]; simp [Instr.sliceAt, go_sem, h]) ?_
          have hb : W.drew = W.drew := rfl
          refine hK _ _ ?_
          rw [← hG]
          exact nd_4_5_6_10_11 _ hb
        refine AllReady.cons rfl (fun K hK => ?_) ?_
        · subst hb
          refine opR_store_row rfl 80 (.tmp 2) (.tmp 17) rfl w.heap.size (row z) rfl rfl 80 _ BW.out.drew (by rw [HZR.out]; exact T64.info) (by rw [HZR.out]; rfl) (row_one _) ?_
          have hb := HV.out.symm
          refine hK _ _ ?_
          rw [← hG]
          exact nd_4_5_6_10_12 _ hb
        exact AllReady.nil
      have nd_4_5_6_12 : ∀ (x : World), x = V → G 5 #[true, true, true, true, true, true, true, true, true, true, false, false, true, false, false, false] ⟨#[.pointer (some ⟨g, 0, none⟩), undef, .pointer (some ⟨w.heap.size, 0, none⟩), .bool false, .pointer (some ⟨g, 0, none⟩), .pointer (some ⟨g, 0, none⟩), .pointer (some ⟨g, 1, none⟩), .slice (some ⟨lb, o, none⟩) (rest.length + 1) cap, .int .i64 ((rest.length : Int) + 1), .bool false, undef, .pointer (some ⟨g, 0, none⟩), .pointer (some ⟨g, 0, none⟩), .pointer (some ⟨g, 0, none⟩), .pointer (some ⟨g, 1, none⟩), .slice (some ⟨lb, o, none⟩) (rest.length + 1) cap, .pointer (some ⟨lb, o, none⟩), .agg (z.map (Value.int .i64)).toArray, .pointer (some ⟨g, 0, none⟩), .pointer (some ⟨g, 0, none⟩), .pointer (some ⟨g, 1, none⟩), undef, undef, undef, undef, undef], []⟩ x := by
        intro x hb
        rw [hG]
        refine wpAny_ready (rs := [10]) (by kernel_rfl) (by simp) ?_
        refine AllReady.cons rfl (fun K hK => ?_) ?_
        · obtain rfl : V = x := hb.symm
          go_simp
          have hb : V = V := rfl
          refine hK _ _ ?_
          rw [← hG]
          exact nd_4_5_6_10_12 _ hb
        exact AllReady.nil
      have nd_4_5_10_11 : ∀ (x : World), x = W.drew → G 5 #[true, true, true, true, true, true, false, true, true, true, true, true, false, false, false, false] ⟨#[.pointer (some ⟨g, 0, none⟩), undef, .pointer (some ⟨w.heap.size, 0, none⟩), .bool false, .pointer (some ⟨g, 0, none⟩), .pointer (some ⟨g, 0, none⟩), .pointer (some ⟨g, 1, none⟩), .slice (some ⟨lb, o, none⟩) (rest.length + 1) cap, .int .i64 ((rest.length : Int) + 1), .bool false, undef, .pointer (some ⟨g, 0, none⟩), .pointer (some ⟨g, 0, none⟩), .pointer (some ⟨g, 0, none⟩), .pointer (some ⟨g, 1, none⟩), .slice (some ⟨lb, o, none⟩) (rest.length + 1) cap, .pointer (some ⟨lb, o, none⟩), undef, .pointer (some ⟨g, 0, none⟩), .pointer (some ⟨g, 0, none⟩), .pointer (some ⟨g, 1, none⟩), .slice (some ⟨lb, o, none⟩) (rest.length + 1) cap, .slice (some nx) rest.length (cap - 1), undef, undef, undef], []⟩ x := by
        intro x hb
        rw [hG]
        refine wpAny_ready (rs := [6]) (by kernel_rfl) (by simp) ?_
        refine AllReady.cons rfl (fun K hK => ?_) ?_
        · subst hb
          rw [if_pos (by rfl)]
          refine wp_load_mid 80 (.tmp 16) rfl lb o rfl (z.map (Value.int .i64)) _ hR Tryd.underlying80 rfl (by rw [HZ.out]; exact T64.info) ?_
          have hb : W.drew = W.drew := rfl
          refine hK _ _ ?_
          rw [← hG]
          exact nd_4_5_6_10_11 _ hb
        exact AllReady.nil
      have nd_4_10_11 : ∀ (x : World), x = W.drew → G 6 #[true, true, true, true, true, false, false, true, true, true, true, true, false, false, false, false] ⟨#[.pointer (some ⟨g, 0, none⟩), undef, .pointer (some ⟨w.heap.size, 0, none⟩), .bool false, .pointer (some ⟨g, 0, none⟩), .pointer (some ⟨g, 0, none⟩), .pointer (some ⟨g, 1, none⟩), .slice (some ⟨lb, o, none⟩) (rest.length + 1) cap, .int .i64 ((rest.length : Int) + 1), .bool false, undef, .pointer (some ⟨g, 0, none⟩), .pointer (some ⟨g, 0, none⟩), .pointer (some ⟨g, 0, none⟩), .pointer (some ⟨g, 1, none⟩), .slice (some ⟨lb, o, none⟩) (rest.length + 1) cap, undef, undef, .pointer (some ⟨g, 0, none⟩), .pointer (some ⟨g, 0, none⟩), .pointer (some ⟨g, 1, none⟩), .slice (some ⟨lb, o, none⟩) (rest.length + 1) cap, .slice (some nx) rest.length (cap - 1), undef, undef, undef], []⟩ x := by
        intro x hb
        rw [hG]
        refine wpAny_ready (rs := [5]) (by kernel_rfl) (by simp) ?_
        refine AllReady.cons rfl (fun K hK => ?_) ?_
        · subst hb
          go_simp
          have hb : W.drew = W.drew := rfl
          refine hK _ _ ?_
          rw [← hG]
          exact nd_4_5_10_11 _ hb
        exact AllReady.nil
      have nd_4_5_10 : ∀ (x : World), x = W.drew → G 6 #[true, true, true, true, true, true, false, true, true, true, true, false, false, false, false, false] ⟨#[.pointer (some ⟨g, 0, none⟩), undef, .pointer (some ⟨w.heap.size, 0, none⟩), .bool false, .pointer (some ⟨g, 0, none⟩), .pointer (some ⟨g, 0, none⟩), .pointer (some ⟨g, 1, none⟩), .slice (some ⟨lb, o, none⟩) (rest.length + 1) cap, .int .i64 ((rest.length : Int) + 1), .bool false, undef, .pointer (some ⟨g, 0, none⟩), .pointer (some ⟨g, 0, none⟩), .pointer (some ⟨g, 0, none⟩), .pointer (some ⟨g, 1, none⟩), .slice (some ⟨lb, o, none⟩) (rest.length + 1) cap, .pointer (some ⟨lb, o, none⟩), undef, .pointer (some ⟨g, 0, none⟩), .pointer (some ⟨g, 0, none⟩), .pointer (some ⟨g, 1, none⟩), .slice (some ⟨lb, o, none⟩) (rest.length + 1) cap, undef, undef, undef, undef], []⟩ x := by
        intro x hb
        rw [hG]
        refine wpAny_ready (rs := [6, 11]) (by kernel_rfl) (by simp) ?_
        refine AllReady.cons rfl (fun K hK => ?_) ?_
        · subst hb
          rw [if_pos (by rfl)]
          refine wp_load_mid 80 (.tmp 16) rfl lb o rfl (z.map (Value.int .i64)) _ hR Tryd.underlying80 rfl (by rw [HZ.out]; exact T64.info) ?_
          have hb : W.drew = W.drew := rfl
          refine hK _ _ ?_
          rw [← hG]
          exact nd_4_5_6_10 _ hb
        refine AllReady.cons rfl (fun K hK => ?_) ?_
        · subst hb
          refine opR_value rfl (v := .slice (some nx) rest.length (cap - 1)) (by have h := HSL.out; simp only [execOp]; simp [Instr.sliceAt, go_sem, h]) ?_
          have hb : W.drew = W.drew := rfl
          refine hK _ _ ?_
          rw [← hG]
          exact nd_4_5_10_11 _ hb
        exact AllReady.nil
      have nd_4_5_6 : ∀ (x : World), x = W.drew → G 6 #[true, true, true, true, true, true, true, true, true, true, false, false, false, false, false, false] ⟨#[.pointer (some ⟨g, 0, none⟩), undef, .pointer (some ⟨w.heap.size, 0, none⟩), .bool false, .pointer (some ⟨g, 0, none⟩), .pointer (some ⟨g, 0, none⟩), .pointer (some ⟨g, 1, none⟩), .slice (some ⟨lb, o, none⟩) (rest.length + 1) cap, .int .i64 ((rest.length : Int) + 1), .bool false, undef, .pointer (some ⟨g, 0, none⟩), .pointer (some ⟨g, 0, none⟩), .pointer (some ⟨g, 0, none⟩), .pointer (some ⟨g, 1, none⟩), .slice (some ⟨lb, o, none⟩) (rest.length + 1) cap, .pointer (some ⟨lb, o, none⟩), .agg (z.map (Value.int .i64)).toArray, .pointer (some ⟨g, 0, none⟩), .pointer (some ⟨g, 0, none⟩), .pointer (some ⟨g, 1, none⟩), undef, undef, undef, undef, undef], []⟩ x := by
        intro x hb
        rw [hG]
        refine wpAny_ready (rs := [10, 12]) (by kernel_rfl) (by simp) ?_
        refine AllReady.cons rfl (fun K hK => ?_) ?_
        · subst hb
          go_simp
          have hb : W.drew = W.drew := rfl
          refine hK _ _ ?_
          rw [← hG]
          exact nd_4_5_6_10 _ hb
        refine AllReady.cons rfl (fun K hK => ?_) ?_
        · subst hb
          refine opR_store_row rfl 80 (.tmp 2) (.tmp 17) rfl w.heap.size (row z) rfl rfl 80 _ BW.out.drew (by rw [HZR.out]; exact T64.info) (by rw [HZR.out]; rfl) (row_one _) ?_
          have hb := HV.out.symm
          refine hK _ _ ?_
          rw [← hG]
          exact nd_4_5_6_12 _ hb
        exact AllReady.nil
      have nd_4_10 : ∀ (x : World), x = W.drew → G 7 #[true, true, true, true, true, false, false, true, true, true, true, false, false, false, false, false] ⟨#[.pointer (some ⟨g, 0, none⟩), undef, .pointer (some ⟨w.heap.size, 0, none⟩), .bool false, .pointer (some ⟨g, 0, none⟩), .pointer (some ⟨g, 0, none⟩), .pointer (some ⟨g, 1, none⟩), .slice (some ⟨lb, o, none⟩) (rest.length + 1) cap, .int .i64 ((rest.length : Int) + 1), .bool false, undef, .pointer (some ⟨g, 0, none⟩), .pointer (some ⟨g, 0, none⟩), .pointer (some ⟨g, 0, none⟩), .pointer (some ⟨g, 1, none⟩), .slice (some ⟨lb, o, none⟩) (rest.length + 1) cap, undef, undef, .pointer (some ⟨g, 0, none⟩), .pointer (some ⟨g, 0, none⟩), .pointer (some ⟨g, 1, none⟩), .slice (some ⟨lb, o, none⟩) (rest.length + 1) cap, undef, undef, undef, undef], []⟩ x := by
        intro x hb
        rw [hG]
        refine wpAny_ready (rs := [5, 11]) (by kernel_rfl) (by simp) ?_
        refine AllReady.cons rfl (fun K hK => ?_) ?_
        · subst hb
          go_simp
          have hb : W.drew = W.drew := rfl
          refine hK _ _ ?_
          rw [← hG]
          exact nd_4_5_10 _ hb
        refine AllReady.cons rfl (fun K hK => ?_) ?_
        · subst hb
          refine opR_value rfl (v := .slice (some nx) rest.length (cap - 1)) (by have h := HSL.out; simp only [execOp]; simp [Instr.sliceAt, go_sem, h]) ?_
          have hb : W.drew = W.drew := rfl
          refine hK _ _ ?_
          rw [← hG]
          exact nd_4_10_11 _ hb
        exact AllReady.nil
      have nd_4_5 : ∀ (x : World), x = W.drew → G 7 #[true, true, true, true, true, true, false, true, true, true, false, false, false, false, false, false] ⟨#[.pointer (some ⟨g, 0, none⟩), undef, .pointer (some ⟨w.heap.size, 0, none⟩), .bool false, .pointer (some ⟨g, 0, none⟩), .pointer (some ⟨g, 0, none⟩), .pointer (some ⟨g, 1, none⟩), .slice (some ⟨lb, o, none⟩) (rest.length + 1) cap, .int .i64 ((rest.length : Int) + 1), .bool false, undef, .pointer (some ⟨g, 0, none⟩), .pointer (some ⟨g, 0, none⟩), .pointer (some ⟨g, 0, none⟩), .pointer (some ⟨g, 1, none⟩), .slice (some ⟨lb, o, none⟩) (rest.length + 1) cap, .pointer (some ⟨lb, o, none⟩), undef, .pointer (some ⟨g, 0, none⟩), .pointer (some ⟨g, 0, none⟩), .pointer (some ⟨g, 1, none⟩), undef, undef, undef, undef, undef], []⟩ x := by
        intro x hb
        rw [hG]
        refine wpAny_ready (rs := [6, 10]) (by kernel_rfl) (by simp) ?_
        refine AllReady.cons rfl (fun K hK => ?_) ?_
        · subst hb
          rw [if_pos (by rfl)]
          refine wp_load_mid 80 (.tmp 16) rfl lb o rfl (z.map (Value.int .i64)) _ hR Tryd.underlying80 rfl (by rw [HZ.out]; exact T64.info) ?_
          have hb : W.drew = W.drew := rfl
          refine hK _ _ ?_
          rw [← hG]
          exact nd_4_5_6 _ hb
        refine AllReady.cons rfl (fun K hK => ?_) ?_
        · subst hb
          go_simp
          have hb : W.drew = W.drew := rfl
          refine hK _ _ ?_
          rw [← hG]
          exact nd_4_5_10 _ hb
        exact AllReady.nil
      have nd_10_11 : ∀ (x : World), x = W.drew → G 7 #[true, true, true, true, false, false, false, true, true, true, true, true, false, false, false, false] ⟨#[.pointer (some ⟨g, 0, none⟩), undef, .pointer (some ⟨w.heap.size, 0, none⟩), .bool false, .pointer (some ⟨g, 0, none⟩), .pointer (some ⟨g, 0, none⟩), .pointer (some ⟨g, 1, none⟩), .slice (some ⟨lb, o, none⟩) (rest.length + 1) cap, .int .i64 ((rest.length : Int) + 1), .bool false, undef, .pointer (some ⟨g, 0, none⟩), .pointer (some ⟨g, 0, none⟩), .pointer (some ⟨g, 0, none⟩), .pointer (some ⟨g, 1, none⟩), undef, undef, undef, .pointer (some ⟨g, 0, none⟩), .pointer (some ⟨g, 0, none⟩), .pointer (some ⟨g, 1, none⟩), .slice (some ⟨lb, o, none⟩) (rest.length + 1) cap, .slice (some nx) rest.length (cap - 1), undef, undef, undef], []⟩ x := by
        intro x hb
        rw [hG]
        refine wpAny_ready (rs := [4]) (by kernel_rfl) (by simp) ?_
        refine AllReady.cons rfl (fun K hK => ?_) ?_
        · subst hb
          go_simp
          have hb : W.drew = W.drew := rfl
          refine hK _ _ ?_
          rw [← hG]
          exact nd_4_10_11 _ hb
        exact AllReady.nil
      have nd_10 : ∀ (x : World), x = W.drew → G 8 #[true, true, true, true, false, false, false, true, true, true, true, false, false, false, false, false] ⟨#[.pointer (some ⟨g, 0, none⟩), undef, .pointer (some ⟨w.heap.size, 0, none⟩), .bool false, .pointer (some ⟨g, 0, none⟩), .pointer (some ⟨g, 0, none⟩), .pointer (some ⟨g, 1, none⟩), .slice (some ⟨lb, o, none⟩) (rest.length + 1) cap, .int .i64 ((rest.length : Int) + 1), .bool false, undef, .pointer (some ⟨g, 0, none⟩), .pointer (some ⟨g, 0, none⟩), .pointer (some ⟨g, 0, none⟩), .pointer (some ⟨g, 1, none⟩), undef, undef, undef, .pointer (some ⟨g, 0, none⟩), .pointer (some ⟨g, 0, none⟩), .pointer (some ⟨g, 1, none⟩), .slice (some ⟨lb, o, none⟩) (rest.length + 1) cap, undef, undef, undef, undef], []⟩ x := by
        intro x hb
        rw [hG]
        refine wpAny_ready (rs := [4, 11]) (by kernel_rfl) (by simp) ?_
        refine AllReady.cons rfl (fun K hK => ?_) ?_
        · subst hb
          go_simp
          have hb : W.drew = W.drew := rfl
          refine hK _ _ ?_
          rw [← hG]
          exact nd_4_10 _ hb
        refine AllReady.cons rfl (fun K hK => ?_) ?_
        · subst hb
          refine opR_value rfl (v := .slice (some nx) rest.length (cap - 1)) (by have h := HSL.out; simp only [execOp]; simp [Instr.sliceAt, go_sem, h]) ?_
          have hb : W.drew = W.drew := rfl
          refine hK _ _ ?_
          rw [← hG]
          exact nd_10_11 _ hb
        exact AllReady.nil
      have nd_4 : ∀ (x : World), x = W.drew → G 8 #[true, true, true, true, true, false, false, true, true, true, false, false, false, false, false, false] ⟨#[.pointer (some ⟨g, 0, none⟩), undef, .pointer (some ⟨w.heap.size, 0, none⟩), .bool false, .pointer (some ⟨g, 0, none⟩), .pointer (some ⟨g, 0, none⟩), .pointer (some ⟨g, 1, none⟩), .slice (some ⟨lb, o, none⟩) (rest.length + 1) cap, .int .i64 ((rest.length : Int) + 1), .bool false, undef, .pointer (some ⟨g, 0, none⟩), .pointer (some ⟨g, 0, none⟩), .pointer (some ⟨g, 0, none⟩), .pointer (some ⟨g, 1, none⟩), .slice (some ⟨lb, o, none⟩) (rest.length + 1) cap, undef, undef, .pointer (some ⟨g, 0, none⟩), .pointer (some ⟨g, 0, none⟩), .pointer (some ⟨g, 1, none⟩), undef, undef, undef, undef, undef], []⟩ x := by
        intro x hb
        rw [hG]
        refine wpAny_ready (rs := [5, 10]) (by kernel_rfl) (by simp) ?_
        refine AllReady.cons rfl (fun K hK => ?_) ?_
        · subst hb
          go_simp
          have hb : W.drew = W.drew := rfl
          refine hK _ _ ?_
          rw [← hG]
          exact nd_4_5 _ hb
        refine AllReady.cons rfl (fun K hK => ?_) ?_
        · subst hb
          go_simp
          have hb : W.drew = W.drew := rfl
          refine hK _ _ ?_
          rw [← hG]
          exact nd_4_10 _ hb
        exact AllReady.nil
      have nd : ∀ (x : World), x = W.drew → G 9 #[true, true, true, true, false, false, false, true, true, true, false, false, false, false, false, false] ⟨#[.pointer (some ⟨g, 0, none⟩), undef, .pointer (some ⟨w.heap.size, 0, none⟩), .bool false, .pointer (some ⟨g, 0, none⟩), .pointer (some ⟨g, 0, none⟩), .pointer (some ⟨g, 1, none⟩), .slice (some ⟨lb, o, none⟩) (rest.length + 1) cap, .int .i64 ((rest.length : Int) + 1), .bool false, undef, .pointer (some ⟨g, 0, none⟩), .pointer (some ⟨g, 0, none⟩), .pointer (some ⟨g, 0, none⟩), .pointer (some ⟨g, 1, none⟩), undef, undef, undef, .pointer (some ⟨g, 0, none⟩), .pointer (some ⟨g, 0, none⟩), .pointer (some ⟨g, 1, none⟩), undef, undef, undef, undef, undef], []⟩ x := by
        intro x hb
        rw [hG]
        refine wpAny_ready (rs := [4, 10]) (by kernel_rfl) (by simp) ?_
        refine AllReady.cons rfl (fun K hK => ?_) ?_
        · subst hb
          go_simp
          have hb : W.drew = W.drew := rfl
          refine hK _ _ ?_
          rw [← hG]
          exact nd_4 _ hb
        refine AllReady.cons rfl (fun K hK => ?_) ?_
        · subst hb
          go_simp
          have hb : W.drew = W.drew := rfl
          refine hK _ _ ?_
          rw [← hG]
          exact nd_10 _ hb
        exact AllReady.nil
      rw [hG]
      change wpAny _ _ _ _ _ _ _ W.drew
      refine wpAny_take (i := 0) (v := .pointer (some ⟨g, 0, none⟩)) rfl (by kernel_rfl) (by kernel_rfl) (by kernel_rfl) (fun _ _ _ h => h) (Or.inl ⟨by rfl, fun x => by go_simp⟩) ?_
      try dsimp only [Act.put]
      refine wpAny_take (i := 1) (v := .pointer (some ⟨g, 0, none⟩)) rfl (by kernel_rfl) (by kernel_rfl) (by kernel_rfl) (fun _ _ _ h => h) (Or.inl ⟨by rfl, fun x => by go_simp⟩) ?_
      try dsimp only [Act.put]
      refine wpAny_take (i := 2) (v := .pointer (some ⟨g, 0, none⟩)) rfl (by kernel_rfl) (by kernel_rfl) (by kernel_rfl) (fun _ _ _ h => h) (Or.inl ⟨by rfl, fun x => by go_simp⟩) ?_
      try dsimp only [Act.put]
      refine wpAny_take (i := 3) (v := .pointer (some ⟨g, 1, none⟩)) rfl (by kernel_rfl) (by kernel_rfl) (by kernel_rfl) (fun _ _ _ h => h) (Or.inl ⟨by rfl, fun x => by go_simp⟩) ?_
      try dsimp only [Act.put]
      refine wpAny_take (i := 7) (v := .pointer (some ⟨g, 0, none⟩)) rfl (by kernel_rfl) (by kernel_rfl) (by kernel_rfl) (fun _ _ _ h => h) (Or.inl ⟨by rfl, fun x => by go_simp⟩) ?_
      try dsimp only [Act.put]
      refine wpAny_take (i := 8) (v := .pointer (some ⟨g, 0, none⟩)) rfl (by kernel_rfl) (by kernel_rfl) (by kernel_rfl) (fun _ _ _ h => h) (Or.inl ⟨by rfl, fun x => by go_simp⟩) ?_
      try dsimp only [Act.put]
      refine wpAny_take (i := 9) (v := .pointer (some ⟨g, 1, none⟩)) rfl (by kernel_rfl) (by kernel_rfl) (by kernel_rfl) (fun _ _ _ h => h) (Or.inl ⟨by rfl, fun x => by go_simp⟩) ?_
      try dsimp only [Act.put]
      rw [← hG]
      exact nd _ rfl
    case rest =>
      obtain ⟨hB, hT, hQ⟩ := hcut
      obtain ⟨X, rfl⟩ : ∃ X : World, X = wc := ⟨_, rfl⟩
      have B1 := Lib.hid hB
      have T1' := Lib.hid hT
      have Q1 := Lib.hid hQ
      have B2 := Lib.hid (setRow_heap X w.heap.size _ (row z) 80 _ hB)
      clear hB hT hQ c1 f1
      go_wp2_with (first | (refine wpList_load_row rfl 80 (.tmp 2) rfl w.heap.size rfl _ (row z) _ _ B1.out Tryd.underlying80 rfl (by rw [HZR.out]; exact T64.info) ?_) | (refine wpList_store_row rfl 80 (.tmp 2) (.tmp 25) rfl w.heap.size (row z) rfl rfl _ _ B1.out (by rw [HZR.out]; exact T64.info) rfl (row_one _) ?_))
      have hts : Touch (fun k => k = w.heap.size) X (X.setRow w.heap.size (row z)) := (Touch.refl (fun k => k = w.heap.size) X).setRow (Or.inl rfl) _
      have hmw := HK.out.lt
      exact bodyPost_ret (v := .tuple #[.agg (row z), .bool true]) (results_cell_row_slot rfl _ _ w.heap.size _ _ _ _ _ rfl rfl B2.out Tryd.underlying80 rfl (by rw [HZR.out]; exact T64.info)) rfl ⟨rfl, T1'.out.trans hts (fun i h => Or.inr (by omega)), Q1.out.touch hts (by omega) (by omega) (by have := hlg.2.2; omega)⟩
end Go.Proofs.YthpnnmkpbkbanaaDoor

/-
  The queue of states: New.
-/
namespace Go.Proofs.YthpnnmkpbkbanaaDoor
open Go.RowKit Go.Maps

def NewPostT (z : List Int) (w : World) (e : Ending) (w' : World) : Prop :=
  ∃ g m lb, e = .returned (.pointer (some ⟨g, 0, none⟩)) ∧ Touch (fun _ => False) w w' ∧ QT w' g m lb [z] [z] ∧ w.heap.size ≤ g ∧ w.heap.size ≤ m ∧ w.heap.size ≤ lb

set_option maxRecDepth 100000 in
set_option maxHeartbeats 2000000 in
theorem newT_any (ab : Nat) (z : List Int) (w : World) (hb : Block w ab 80 (row z)) (hz : z.length = 49) (hr : Wf z) :
    Calls Tryd.prog 32 #[.slice (some ⟨ab, 0, none⟩) 1 1] w (NewPostT z w) := by
  have hmm := @run_makeMap Tryd.prog
  have hab := hb.lt
  have hQ0 : QT ((w.alloc (.map #[] 0)).alloc (.cells #[.map (some w.heap.size), .slice none 0 0] 108)) (w.heap.size + 1) w.heap.size (w.heap.size + 1) [] [] :=
    ⟨⟨.slice none 0 0, by simpa using Block.made (w.alloc (.map #[] 0)) 108 #[.map (some w.heap.size), .slice none 0 0], LeftT.nil _ _ _, Or.inl ⟨rfl, rfl⟩⟩, (KnownT.made w).touch ((Touch.refl (fun _ => False) _).alloc _) (fun h => h), by omega, by simp, by simp⟩
  have hB0 : Block ((w.alloc (.map #[] 0)).alloc (.cells #[.map (some w.heap.size), .slice none 0 0] 108)) ab 80 (row z) := (hb.alloc _).alloc _
  have hT0 : Touch (fun _ => False) w ((w.alloc (.map #[] 0)).alloc (.cells #[.map (some w.heap.size), .slice none 0 0] 108)) := ((Touch.refl _ w).alloc _).alloc _
  have HQ0 := Lib.hid hQ0
  have HB0 := Lib.hid hB0
  have HT0 := Lib.hid hT0
  have HSZ := Lib.hid ((row_size z).trans hz)
  have HR := Lib.hid hr
  have HZ := Lib.hid hz
  clear hQ0 hB0 hT0 hb hr hz
  go_enter Tryd.func32, Tryd.ntmps32
  go_wp2_with fail
  obtain ⟨W, hW⟩ : ∃ W, W = (w.alloc (.map #[] 0)).alloc (.cells #[.map (some w.heap.size), .slice none 0 0] 108) := ⟨_, rfl⟩
  rw [← hW] at HQ0 HB0 HT0 ⊢
  clear hW
  refine wp_loop_rounds 2 ?_
  rw [rounds_succ]
  have HA := Lib.hid (Block.made W 80 #[.int .i64 0, .int .i64 0, .int .i64 0, .int .i64 0, .int .i64 0, .int .i64 0, .int .i64 0, .int .i64 0, .int .i64 0, .int .i64 0, .int .i64 0, .int .i64 0, .int .i64 0, .int .i64 0, .int .i64 0, .int .i64 0, .int .i64 0, .int .i64 0, .int .i64 0, .int .i64 0, .int .i64 0, .int .i64 0, .int .i64 0, .int .i64 0, .int .i64 0, .int .i64 0, .int .i64 0, .int .i64 0, .int .i64 0, .int .i64 0, .int .i64 0, .int .i64 0, .int .i64 0, .int .i64 0, .int .i64 0, .int .i64 0, .int .i64 0, .int .i64 0, .int .i64 0, .int .i64 0, .int .i64 0, .int .i64 0, .int .i64 0, .int .i64 0, .int .i64 0, .int .i64 0, .int .i64 0, .int .i64 0, .int .i64 0])
  have hV : Block ((W.alloc (.cells #[.int .i64 0, .int .i64 0, .int .i64 0, .int .i64 0, .int .i64 0, .int .i64 0, .int .i64 0, .int .i64 0, .int .i64 0, .int .i64 0, .int .i64 0, .int .i64 0, .int .i64 0, .int .i64 0, .int .i64 0, .int .i64 0, .int .i64 0, .int .i64 0, .int .i64 0, .int .i64 0, .int .i64 0, .int .i64 0, .int .i64 0, .int .i64 0, .int .i64 0, .int .i64 0, .int .i64 0, .int .i64 0, .int .i64 0, .int .i64 0, .int .i64 0, .int .i64 0, .int .i64 0, .int .i64 0, .int .i64 0, .int .i64 0, .int .i64 0, .int .i64 0, .int .i64 0, .int .i64 0, .int .i64 0, .int .i64 0, .int .i64 0, .int .i64 0, .int .i64 0, .int .i64 0, .int .i64 0, .int .i64 0, .int .i64 0] 80)).setRow W.heap.size (row z)) W.heap.size 80 (row z) := setRow_heap _ _ _ _ _ _ HA.out
  have hTV : Touch (fun _ => False) W ((W.alloc (.cells #[.int .i64 0, .int .i64 0, .int .i64 0, .int .i64 0, .int .i64 0, .int .i64 0, .int .i64 0, .int .i64 0, .int .i64 0, .int .i64 0, .int .i64 0, .int .i64 0, .int .i64 0, .int .i64 0, .int .i64 0, .int .i64 0, .int .i64 0, .int .i64 0, .int .i64 0, .int .i64 0, .int .i64 0, .int .i64 0, .int .i64 0, .int .i64 0, .int .i64 0, .int .i64 0, .int .i64 0, .int .i64 0, .int .i64 0, .int .i64 0, .int .i64 0, .int .i64 0, .int .i64 0, .int .i64 0, .int .i64 0, .int .i64 0, .int .i64 0, .int .i64 0, .int .i64 0, .int .i64 0, .int .i64 0, .int .i64 0, .int .i64 0, .int .i64 0, .int .i64 0, .int .i64 0, .int .i64 0, .int .i64 0, .int .i64 0] 80)).setRow W.heap.size (row z)) := ((Touch.refl _ W).alloc _).setRow (Or.inr (Nat.le_refl _)) _
  have HV := Lib.hid hV
  have HQV := Lib.hid (HQ0.out.touch hTV (fun h => h) (fun h => h) (fun h => h))
  have HTV := Lib.hid hTV
  clear hV hTV
  go_wp2_with (first | (refine wpList_load_row rfl 80 (.tmp 13) rfl ab rfl _ (row z) _ _ HB0.out Tryd.underlying80 rfl (by rw [HSZ.out]; exact T64.info) ?_) | (refine wpList_store_row rfl 80 (.tmp 5) (.tmp 14) rfl W.heap.size (row z) rfl rfl _ _ HA.out (by rw [HSZ.out]; exact T64.info) (by rw [HSZ.out]; rfl) (row_one _) ?_) | (refine wpList_load_row rfl 80 (.tmp 5) rfl W.heap.size rfl _ (row z) _ _ HV.out Tryd.underlying80 rfl (by rw [HSZ.out]; exact T64.info) ?_) | (go_at_call 35; refine (putT_any _ _ _ _ _ z _ HQV.out HZ.out HR.out (by simp) (by simp)).mono ?_; rintro e w2 ⟨rfl, hT2, lb', hQ2, hlb2⟩; have HT2 := Lib.hid hT2; have HQ2 := Lib.hid hQ2; have HLB2 := Lib.hid hlb2; clear hT2 hQ2 hlb2))
  rw [rounds_succ]
  go_wp2_with fail
  go_ret
  have hn : ins1 ([] : List (List Int)) z = [z] := by simp [ins1]
  have hl : (if z ∈ ([] : List (List Int)) then [] else [] ++ [z]) = [z] := by simp
  have h2 := HQ2.out
  rw [hn, hl] at h2
  have hs := HT0.out.size
  have hs2 := HTV.out.size
  refine ⟨_, _, lb', rfl, ?_, h2, by omega, Nat.le_refl _, ?_⟩
  · exact ((HT0.out.trans HTV.out fun _ h => h.elim).trans HT2.out) fun i h => Or.inr (by rcases h with h | h | h <;> omega)
  · rcases HLB2.out with h | h <;> omega
end Go.Proofs.YthpnnmkpbkbanaaDoor
