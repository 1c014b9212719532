/-
  Texts merged: RowIn, Append.
-/
import Derived.OwnWalkIn
import Derived.Laws.Tables
import Derived.Laws.Rows
import Derived.Test.YthpnnmkpbkbanaaDoorState
import Derived.Test.YthpnnmkpbkbanaaDoorTouch
import Derived.Deep.RegionLaw
/-
  A whole row loaded, or stored, inside a fence.
-/
namespace Go.Proofs.YthpnnmkpbkbanaaDoor
open Go.RowKit
section
variable {F : Fence} {n : Nat} {P : Program}
theorem wpListIn_load_row {ops : Array Oper} {rest : List Oper} {o : Oper} {a : Act} {w : World} {Q : Exit → Act → World → Prop} (hgd : o.guard = none) (ty : TypeId) (x : Operand) (ho : o.op = .load ty x)
    (g : Nat) (hx : a.eval x = .pointer (some ⟨g, 0, none⟩)) (t : TypeId) (cs : Array Value) (fr : Nat × Nat) (d : TypeDesc) (hg : w.heap[g]? = some (.cells cs t fr))
    (hu : P.underlying ty = some d) (hd : (match d with | .struct _ | .array _ _ => true | _ => false) = true) (hi : (P.info? ty).map (·.size) = some cs.size)
    (h : wpListIn F n P ops Q rest (a.put o.dst (.agg cs)) w) : wpListIn F n P ops Q (o :: rest) a w := by
  refine wpListIn_plain hgd fun K hK' => ?_
  unfold Oper.wpIn
  refine ⟨?_, ?_⟩
  · simp [Oper.about, ho]
  · rw [Oper.semAt_plain F _ _ (by rw [ho]; intro c hc'; cases hc')]
    unfold execOp
    simp only [ho, hx, Instr.loadAt, Instr.sureAddr, Sem.run_bind, Sem.run_pure, Result.andThen_ok, run_loadVar_row w g t ty cs fr d hg hu hd hi]
    exact hK' _ _ h
theorem wpListIn_store_row {ops : Array Oper} {rest : List Oper} {o : Oper} {a : Act} {w : World} {Q : Exit → Act → World → Prop} (hgd : o.guard = none) (ty : TypeId) (x y : Operand) (ho : o.op = .store ty x y)
    (g : Nat) (cells : Array Value) (hx : a.eval x = .pointer (some ⟨g, 0, none⟩)) (hy : a.eval y = .agg cells)
    (t : TypeId) (old : Array Value) (hg : w.heap[g]? = some (.cells old t (0, 0))) (hi : (P.info? ty).map (·.size) = some cells.size)
    (hold : old.size = cells.size) (h1 : cells.all (·.oneCell') = true)
    (h : wpListIn F n P ops Q rest (a.put o.dst undef) (w.setRow g cells)) : wpListIn F n P ops Q (o :: rest) a w := by
  refine wpListIn_plain hgd fun K hK' => ?_
  unfold Oper.wpIn
  refine ⟨?_, ?_⟩
  · simp [Oper.about, ho]
  · rw [Oper.semAt_plain F _ _ (by rw [ho]; intro c hc'; cases hc')]
    unfold execOp
    simp only [ho, hx, hy, Instr.storeAt, Instr.sureAddr, Sem.run_bind, Sem.run_pure, Result.andThen_ok, run_storeVar_row w g t ty old cells hg hi hold h1]
    exact hK' _ _ h
end
end Go.Proofs.YthpnnmkpbkbanaaDoor

/-
  append of one state to such a slice.
-/
namespace Go.Proofs.YthpnnmkpbkbanaaDoor
open Go.RowKit

theorem left_of_own {w : World} {base e : Nat} {v : Value} {zss : List (List Int)} (h : w.ownsRow base e 16 v zss.length (flat zss)) (h0 : 0 < zss.length) : ∃ lb, base ≤ lb ∧ lb < w.heap.size ∧ Left w e lb v zss ∧ (∃ a, v.ownBlock = some a ∧ a = lb) := by
  rcases h.2 with ⟨rfl, hn⟩ | ⟨g, cap, cur, rfl, hb, hh, hnc, hcm, hsz, htk⟩
  · omega
  · have hlt : g < w.heap.size := (Array.getElem?_eq_some_iff.1 hh).1
    refine ⟨g, hb, hlt, ⟨_, cap, rfl, hnc, hcm, (fun h => by cases h), fun a ha => ⟨0, (Option.some.inj ha).symm, hlt, fun _ => ⟨cur, hh, by omega, fun j u hj => ?_⟩⟩⟩, g, rfl, rfl⟩
    rw [← htk] at hj
    have hjl := (List.getElem?_eq_some_iff.1 hj).1
    simp at hjl
    rw [List.getElem?_take, if_pos (by omega)] at hj
    rw [Nat.zero_add]
    simpa using hj

section
variable {P : Program}
theorem run_append_left (w : World) (t ty e : TypeId) (i : TypeInfo) (zv : Value) (ht : P.underlying t = some (.slice e)) (hi : P.info? e = some i) (hz : i.zero = some zv)
    (hsize : i.size = 16) (hby : i.bytes = 128) (hzs : zv.cells.size = 16)
    (lb : Nat) (v : Value) (zss : List (List Int)) (hL : Left w e lb v zss) (h16 : ∀ zs ∈ zss, zs.length = 16) (z : List Int) (hz16 : z.length = 16)
    (ad : Addr) (c : Nat) (hnews : ∀ j u, (z.map (Value.int .i64))[j]? = some u → w.cell? (ad.add j) = some u) (hN : zss.length < 1073741825) :
    ∃ v' w' lb', (Builtin.append_ #[t, t] ty #[v, .slice (some ad) 1 c]).run P w = .ok v' w' ∧ Left w' e lb' v' (zss ++ [z]) ∧ (lb' = lb ∧ v.ownBlock = some lb ∨ w.heap.size ≤ lb') ∧ Touch (fun k => v.ownBlock = some k) w w' ∧ lb' < w'.heap.size := by
  obtain ⟨A, cap, rfl, hnc, hcm, hnone, hsome⟩ := hL
  have hl16 : (z.map (Value.int .i64)).length = 1 * 16 := by simp [hz16]
  have h1c : ∀ u ∈ z.map (Value.int .i64), u.oneCell' = true := by
    intro u hu
    obtain ⟨x, _, rfl⟩ := List.mem_map.1 hu
    rfl
  have hfl := flat_length h16
  have happ : flat zss ++ z.map (Value.int .i64) = flat (zss ++ [z]) := by rw [flat_append, flat_one]
  have hmx : zss.length + 1 ≤ maxLen := by unfold maxLen; omega
  cases A with
  | none =>
    have hc0 := hnone rfl
    have hz0 : zss = [] := List.eq_nil_of_length_eq_zero (by omega)
    subst hz0
    subst hc0
    obtain ⟨v', w', hrun, hown, hg, _⟩ := run_append_own (P := P) w w.heap.size t ty e i zv 16 128 ht hi hz hsize hby hzs (by omega) (.slice none 0 0) 0 [] (World.ownsRow_nil w _ e 16) ad 1 c (z.map (Value.int .i64)) hl16 hnews h1c (by unfold maxLen; omega) (by omega) (Nat.le_refl _)
    have hown' : w'.ownsRow w.heap.size e 16 v' ([z] : List (List Int)).length (flat [z]) := by rw [flat_one]; exact hown
    obtain ⟨lb', h1, h2, h3, _⟩ := left_of_own hown' (by simp)
    exact ⟨v', w', lb', hrun, h3, Or.inr h1, (Touch.refl _ w).grown hg (fun k hk => by cases hk), h2⟩
  | some a =>
    obtain ⟨o, rfl, hlt, hrow⟩ := hsome a rfl
    by_cases hroom : zss.length + 1 ≤ cap
    · obtain ⟨cs, hB, hsz, hcs⟩ := hrow (by omega)
      have hcell : ∀ j, j < 16 → (w.cell? ⟨lb, o + zss.length * i.size + j, none⟩).isSome = true := fun j hj => by
        rw [hB.cell, hsize, Array.getElem?_eq_getElem (by omega)]; rfl
      have hrun := run_append_room_cells (P := P) w t ty e i ht hi lb o zss.length cap ad 1 c (z.map (Value.int .i64)) (by rw [hl16, hsize]) hnews h1c hroom (fun j hj => hcell j (by simp [hz16] at hj; exact hj)) (fun j _ => hB.free _)
      rw [hsize] at hrun
      obtain ⟨cs', e1, e2, e3, e4⟩ := setCells_block (z.map (Value.int .i64)) (o + zss.length * 16) w cs hB (by rw [hl16]; omega)
      obtain ⟨p1, p2, p3, p4⟩ := setCells_parts lb (z.map (Value.int .i64)) (o + zss.length * 16) w
      refine ⟨_, _, lb, hrun, ⟨_, cap, by simp, by simp; omega, hcm, (fun h => by cases h), fun a ha => ⟨o, (Option.some.inj ha).symm, by rw [p4]; exact hlt, fun _ => ⟨cs', e1, by omega, fun j u hj => ?_⟩⟩⟩, Or.inl ⟨rfl, rfl⟩, ⟨p1, p2, p3, by omega, fun k _ hk => setCells_heap lb _ _ _ _ (fun e => hk (by rw [e]; rfl))⟩, by rw [p4]; exact hlt⟩
      rw [← happ] at hj
      rcases Nat.lt_or_ge j (zss.length * 16) with h1 | h1
      · rw [List.getElem?_append_left (by omega)] at hj
        rw [e3 _ (by omega)]
        exact hcs j u hj
      · rw [List.getElem?_append_right (by omega), hfl] at hj
        have := e4 _ u hj
        rwa [show o + zss.length * 16 + (j - zss.length * 16) = o + j by omega] at this
    · obtain ⟨v', w', hrun, hown, hg⟩ := run_append_arg_grows (P := P) w t ty e i zv 16 128 ht hi hz hsize hby hzs (by omega) ⟨lb, o, none⟩ zss.length cap (flat zss) hfl (fun j u hj => by
          have hj' := (List.getElem?_eq_some_iff.1 hj).1
          obtain ⟨cs, hB, hsz, hcs⟩ := hrow (by omega)
          rw [Addr.add_lit, hB.cell]
          exact hcs j u hj) ad 1 c (z.map (Value.int .i64)) hl16 hnews (by omega) hmx (by omega)
      have hown' : w'.ownsRow w.heap.size e 16 v' (zss ++ [z]).length (flat (zss ++ [z])) := by rw [← happ]; simpa using hown
      obtain ⟨lb', h1, h2, h3, _⟩ := left_of_own hown' (by simp)
      exact ⟨v', w', lb', hrun, h3, Or.inr h1, (Touch.refl _ w).grown hg (fun k hk => by cases hk), h2⟩
/-- append of one state, as one step of a region that draws. -/
theorem step_append_left {ops : Array Oper} {o : Oper} {a : Act} {w : World} {K : Act → World → Prop} {Q : Exit → Act → World → Prop} {E : Prop}
    (hg : o.guard = none) (s x : Operand) (t : TypeId) (hop : o.op = Op.call { callee := Callee.builtin Builtin.append, args := #[s, x], argTypes := #[t, t] })
    (e : TypeId) (i : TypeInfo) (zv : Value) (ht : P.underlying t = some (.slice e)) (hi : P.info? e = some i) (hz : i.zero = some zv)
    (hsize : i.size = 16) (hby : i.bytes = 128) (hzs : zv.cells.size = 16)
    (lb : Nat) (v : Value) (hs : a.eval s = v) (zss : List (List Int)) (hL : Left w e lb v zss) (h16 : ∀ zs ∈ zss, zs.length = 16) (z : List Int) (hz16 : z.length = 16)
    (ad : Addr) (c : Nat) (hx : a.eval x = .slice (some ad) 1 c) (hnews : ∀ j u, (z.map (Value.int .i64))[j]? = some u → w.cell? (ad.add j) = some u) (hN : zss.length < 1073741825)
    (hK : ∀ v' w' lb', Left w' e lb' v' (zss ++ [z]) → (lb' = lb ∧ v.ownBlock = some lb ∨ w.heap.size ≤ lb') → Touch (fun k => v.ownBlock = some k) w w' → lb' < w'.heap.size → K (a.put o.dst v') w') :
    if Region.wanted o (yielded ops a.tmps) = true then Oper.wp P o a w K Q else E := by
  have hw : Region.wanted o (yielded ops a.tmps) = true := by simp [Region.wanted, hg]
  rw [if_pos hw]
  obtain ⟨v', w', lb', hrun, h1, h2, h3, h4⟩ := run_append_left (P := P) w t o.type e i zv ht hi hz hsize hby hzs lb v zss hL h16 z hz16 ad c hnews hN
  unfold Oper.wp
  simp [execOp, hop, resolve, invoke, builtin, hs, hx, hrun, Result.andThen]
  exact hK v' w' lb' h1 h2 h3 h4
end
end Go.Proofs.YthpnnmkpbkbanaaDoor
