/-
  A row of numbers of one's own that begins anywhere in its block: append(row, z), row[1:].
-/
import Derived.Test.YtobfaohcadmopaaTch
import Derived.OwnWalk
import Derived.ArgAppend
import Derived.Deep.RegionLaw
namespace Go.Proofs.Ytobfaohcadmopaa
open Go.RowKit

/-- The slice value v has the numbers zs, in block lb (if it has room for any). -/
def NRow (w : World) (T lb : Nat) (v : Value) (zs : List Int) : Prop :=
  ∃ A cap, v = .slice A zs.length cap ∧ zs.length ≤ cap ∧ cap ≤ maxLen ∧ (A = none → cap = 0) ∧ (∀ a, A = some a → ∃ o, a = ⟨lb, o, none⟩ ∧ lb < w.heap.size ∧
    (0 < cap → ∃ cs, Block w lb T cs ∧ o + cap ≤ cs.size ∧ ∀ j u, (zs.map (Value.int .i64))[j]? = some u → cs[o + j]? = some u))
theorem NRow.nil (w : World) (T lb : Nat) : NRow w T lb (.slice none 0 0) [] := ⟨none, 0, rfl, Nat.le_refl _, Nat.zero_le _, fun _ => rfl, fun a h => by cases h⟩
theorem NRow.form {w : World} {T lb : Nat} {v : Value} {zs : List Int} (h : NRow w T lb v zs) : ∃ A c, v = .slice A zs.length c := by
  obtain ⟨A, c, e, _⟩ := h
  exact ⟨A, c, e⟩
theorem NRow.own {w : World} {T lb : Nat} {v : Value} {zs : List Int} (h : NRow w T lb v zs) {k : Nat} (hk : v.ownBlock = some k) : k = lb := by
  obtain ⟨A, c, rfl, _, _, _, h4⟩ := h
  cases A with
  | none => cases hk
  | some a =>
    obtain ⟨o, rfl, _⟩ := h4 a rfl
    exact (Option.some.inj hk).symm
theorem NRow.touch {O : Nat → Prop} {w w' : World} {T lb : Nat} {v : Value} {zs : List Int} (h : NRow w T lb v zs) (k : Touch O w w') (hn : ¬ O lb) : NRow w' T lb v zs := by
  obtain ⟨A, c, e, h1, h2, h3, h4⟩ := h
  refine ⟨A, c, e, h1, h2, h3, fun a ha => ?_⟩
  obtain ⟨o, e2, hlt, hc⟩ := h4 a ha
  refine ⟨o, e2, Nat.lt_of_lt_of_le hlt k.size, fun h0 => ?_⟩
  obtain ⟨cs, hB, h5, h6⟩ := hc h0
  exact ⟨cs, hB.touch k hn, h5, h6⟩
theorem NRow.cell {w : World} {T lb c : Nat} {A : Option Addr} {n : Nat} {z : Int} {zs : List Int} (h : NRow w T lb (.slice A n c) (z :: zs)) : ∃ o, A = some ⟨lb, o, none⟩ ∧ w.cell? ⟨lb, o, none⟩ = some (.int .i64 z) ∧ zs.length + 1 ≤ c := by
  obtain ⟨A', c', e, h1, h2, h3, h4⟩ := h
  injection e with e1 e2 e3
  subst e1 e3
  simp at h1
  cases A with
  | none => have := h3 rfl; omega
  | some a =>
    obtain ⟨o, rfl, _, hc⟩ := h4 a rfl
    obtain ⟨cs, hB, _, h6⟩ := hc (by omega)
    have := h6 0 _ rfl
    exact ⟨o, rfl, by rw [hB.cell]; exact this, h1⟩
/-- Where the rest of the slice begins. -/
def nextN (lb o cap : Nat) : Addr := if cap = 1 then ⟨lb, o, none⟩ else ⟨lb, o + 1, none⟩
theorem NRow.tail {w : World} {T lb o c : Nat} {n : Nat} {z : Int} {zs : List Int} (h : NRow w T lb (.slice (some ⟨lb, o, none⟩) n c) (z :: zs)) : NRow w T lb (.slice (some (nextN lb o c)) zs.length (c - 1)) zs := by
  obtain ⟨A', c', e, h1, h2, h3, h4⟩ := h
  injection e with e1 e2 e3
  subst e1 e3
  simp at h1
  obtain ⟨o', e4, hlt, hc⟩ := h4 _ rfl
  injection e4 with _ e4
  subst e4
  obtain ⟨cs, hB, h5, h6⟩ := hc (by omega)
  refine ⟨_, _, rfl, by omega, by omega, fun h => absurd h (by simp), fun a ha => ?_⟩
  injection ha with ha
  subst ha
  by_cases hc1 : c = 1
  · exact ⟨o, by rw [nextN, if_pos hc1], hlt, fun h => by omega⟩
  · refine ⟨o + 1, by rw [nextN, if_neg hc1], hlt, fun _ => ⟨cs, hB, by omega, fun j u hj => ?_⟩⟩
    have := h6 (j + 1) u (by simpa using hj)
    rwa [show o + 1 + j = o + (j + 1) by omega]
theorem nslice_one (lb o n cap : Nat) (hn : n + 1 ≤ cap) (w : World) : (Instr.slice 22 (.slice (some ⟨lb, o, none⟩) (n + 1) cap) (some (.int .i64 1)) none none).run Try.prog w = .ok (.slice (some (nextN lb o cap)) n (cap - 1)) w := by
  by_cases hc : cap = 1
  · subst hc
    simp [Instr.slice, Instr.sliceBounds, Instr.sliceBound, asIntOf, run_underlying Try.underlying22, go_sem, nextN]
    intro h; omega
  · simp [Instr.slice, Instr.sliceBounds, Instr.sliceBound, asIntOf, run_underlying Try.underlying22, go_sem, nextN, hc]
    intro h; omega

theorem nrow_of_own {w : World} {base e : Nat} {v : Value} {zs : List Int} (h : w.ownsRow base e 1 v zs.length (zs.map (Value.int .i64))) (h0 : 0 < zs.length) : ∃ lb, base ≤ lb ∧ lb < w.heap.size ∧ NRow w e lb v zs := by
  rcases h.2 with ⟨rfl, hn⟩ | ⟨g, cap, cur, rfl, hb, hh, hnc, hcm, hsz, htk⟩
  · omega
  · have hlt : g < w.heap.size := (Array.getElem?_eq_some_iff.1 hh).1
    refine ⟨g, hb, hlt, ⟨_, cap, rfl, hnc, hcm, (fun h => by cases h), fun a ha => ⟨0, (Option.some.inj ha).symm, hlt, fun _ => ⟨cur, hh, by omega, fun j u hj => ?_⟩⟩⟩⟩
    rw [← htk] at hj
    have hjl := (List.getElem?_eq_some_iff.1 hj).1
    simp at hjl
    rw [List.getElem?_take, if_pos (by omega)] at hj
    rw [Nat.zero_add]
    simpa using hj

section
variable {P : Program}
theorem run_append_num (w : World) (t ty e : TypeId) (i : TypeInfo) (zv : Value) (ht : P.underlying t = some (.slice e)) (hi : P.info? e = some i) (hz : i.zero = some zv)
    (hsize : i.size = 1) (hby : i.bytes = 8) (hzs : zv.cells.size = 1)
    (lb : Nat) (v : Value) (zs : List Int) (hL : NRow w e lb v zs) (z : Int)
    (ad : Addr) (c : Nat) (hnews : ∀ j u, ([Value.int .i64 z])[j]? = some u → w.cell? (ad.add j) = some u) (hN : zs.length ≤ 1000) :
    ∃ v' w' lb', (Builtin.append_ #[t, t] ty #[v, .slice (some ad) 1 c]).run P w = .ok v' w' ∧ NRow w' e lb' v' (zs ++ [z]) ∧ (lb' = lb ∨ w.heap.size ≤ lb') ∧ Touch (fun k => v.ownBlock = some k) w w' ∧ lb' < w'.heap.size := by
  obtain ⟨A, cap, rfl, hnc, hcm, hnone, hsome⟩ := hL
  have h1c : ∀ u ∈ [Value.int .i64 z], u.oneCell' = true := by
    intro u hu
    rw [List.mem_singleton.1 hu]
    rfl
  have happ : zs.map (Value.int .i64) ++ [Value.int .i64 z] = (zs ++ [z]).map (Value.int .i64) := by simp
  have hmx : zs.length + 1 ≤ maxLen := by unfold maxLen; omega
  cases A with
  | none =>
    have hc0 := hnone rfl
    have hz0 : zs = [] := List.eq_nil_of_length_eq_zero (by omega)
    subst hz0
    subst hc0
    obtain ⟨v', w', hrun, hown, hg, _⟩ := run_append_own (P := P) w w.heap.size t ty e i zv 1 8 ht hi hz hsize hby hzs (by omega) (.slice none 0 0) 0 [] (World.ownsRow_nil w _ e 1) ad 1 c [Value.int .i64 z] rfl hnews h1c (by unfold maxLen; omega) (by omega) (Nat.le_refl _)
    have hown' : w'.ownsRow w.heap.size e 1 v' ([z] : List Int).length ([z].map (Value.int .i64)) := hown
    obtain ⟨lb', h1, h2, h3⟩ := nrow_of_own hown' (by simp)
    exact ⟨v', w', lb', hrun, h3, Or.inr h1, (Touch.refl _ w).grown hg (fun k hk => by cases hk), h2⟩
  | some a =>
    obtain ⟨o, rfl, hlt, hrow⟩ := hsome a rfl
    by_cases hroom : zs.length + 1 ≤ cap
    · obtain ⟨cs, hB, hsz, hcs⟩ := hrow (by omega)
      have hrun := run_append_room_cells (P := P) w t ty e i ht hi lb o zs.length cap ad 1 c [Value.int .i64 z] (by rw [hsize]; rfl) hnews h1c hroom (fun j hj => by
        rw [hB.cell, hsize, Array.getElem?_eq_getElem (by simp at hj; omega)]; rfl) (fun j _ => hB.free _)
      rw [hsize, Nat.mul_one] at hrun
      have hB' := hB.put (o + zs.length) (.int .i64 z)
      refine ⟨_, _, lb, hrun, ⟨_, cap, by simp, by simp; omega, hcm, (fun h => by cases h), fun a ha => ⟨o, (Option.some.inj ha).symm, hB'.lt, fun _ => ⟨_, hB', by simpa using hsz, fun j u hj => ?_⟩⟩⟩, Or.inl rfl, (Touch.refl (fun k => (Value.slice (some ⟨lb, o, none⟩) zs.length cap).ownBlock = some k) w).setCell (p := ⟨lb, o + zs.length, none⟩) (Or.inl rfl) (.int .i64 z), hB'.lt⟩
      rw [← happ] at hj
      rcases Nat.lt_or_ge j zs.length with h1 | h1
      · rw [List.getElem?_append_left (by simpa using h1)] at hj
        rw [Array.getElem?_setIfInBounds_ne (by omega)]
        exact hcs j u hj
      · rw [List.getElem?_append_right (by simpa using h1)] at hj
        have h2 : j = zs.length := by
          have := (List.getElem?_eq_some_iff.1 hj).1
          simp at this; omega
        subst h2
        simp at hj
        subst hj
        rw [Array.getElem?_setIfInBounds_self, if_pos (by omega)]
    · obtain ⟨v', w', hrun, hown, hg⟩ := run_append_arg_grows (P := P) w t ty e i zv 1 8 ht hi hz hsize hby hzs (by omega) ⟨lb, o, none⟩ zs.length cap (zs.map (Value.int .i64)) (by simp) (fun j u hj => by
          have hj' := (List.getElem?_eq_some_iff.1 hj).1
          obtain ⟨cs, hB, hsz, hcs⟩ := hrow (by simp at hj'; omega)
          rw [Addr.add_lit, hB.cell]
          exact hcs j u hj) ad 1 c [Value.int .i64 z] rfl hnews (by omega) hmx (by omega)
      have hown' : w'.ownsRow w.heap.size e 1 v' (zs ++ [z]).length ((zs ++ [z]).map (Value.int .i64)) := by rw [← happ]; simpa using hown
      obtain ⟨lb', h1, h2, h3⟩ := nrow_of_own hown' (by simp)
      exact ⟨v', w', lb', hrun, h3, Or.inr h1, (Touch.refl _ w).grown hg (fun k hk => by cases hk), h2⟩
/-- For the walk. -/
theorem wpList_append_num (w : World) {ops : Array Oper} {rest : List Oper} {o : Oper} {a : Act} {Q : Exit → Act → World → Prop} (hgd : o.guard = none) (s x : Operand) (t : TypeId)
    (ho : o.op = .call { callee := .builtin .append, args := #[s, x], argTypes := #[t, t] })
    (e : TypeId) (i : TypeInfo) (zv : Value) (ht : P.underlying t = some (.slice e)) (hi : P.info? e = some i) (hz : i.zero = some zv)
    (hsize : i.size = 1) (hby : i.bytes = 8) (hzs : zv.cells.size = 1)
    (lb : Nat) (v : Value) (hs : a.eval s = v) (zs : List Int) (hL : NRow w e lb v zs) (z : Int)
    (ad : Addr) (c : Nat) (hx : a.eval x = .slice (some ad) 1 c) (hnews : ∀ j u, ([Value.int .i64 z])[j]? = some u → w.cell? (ad.add j) = some u) (hN : zs.length ≤ 1000)
    (hK : ∀ v' w' lb', NRow w' e lb' v' (zs ++ [z]) → (lb' = lb ∨ w.heap.size ≤ lb') → Touch (fun k => k = lb) w w' → lb' < w'.heap.size → wpList P ops Q rest (a.put o.dst v') w') : wpList P ops Q (o :: rest) a w := by
  refine wpList_plain hgd fun K hK' => ?_
  obtain ⟨v', w', lb', hrun, h1, h2, h3, h4⟩ := run_append_num (P := P) w t o.type e i zv ht hi hz hsize hby hzs lb v zs hL z ad c hnews hN
  unfold Oper.wp
  simp [execOp, ho, resolve, invoke, builtin, hs, hx, hrun, Result.andThen]
  exact hK' _ _ (hK v' w' lb' h1 h2 (h3.mono fun k hk => hL.own hk) h4)
end
end Go.Proofs.Ytobfaohcadmopaa
