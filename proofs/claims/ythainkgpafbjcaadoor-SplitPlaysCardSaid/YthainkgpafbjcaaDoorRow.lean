/-
  A row of numbers of the call's own, that is written into, cell by cell.
-/
import Derived.Test.YthainkgpafbjcaaDoorBase
import Derived.Deep.MidRow
namespace Go.Proofs.YthainkgpafbjcaaDoor
open Go.RowKit

/-- Block g begins with the numbers ys, which may be written. -/
def RowAt (w : World) (g : Nat) (ys : List Int) : Prop := ∀ (i : Nat) z, ys[i]? = some z → w.cell? ⟨g, i, none⟩ = some (.int .i64 z) ∧ w.frozen? ⟨g, i, none⟩ = false
theorem RowAt.below {w w' : World} {g B : Nat} {ys : List Int} (h : RowAt w g ys) (hb : Below B w w') (hg : g < B) : RowAt w' g ys :=
  fun i z hz => ⟨(hb.cell (p := ⟨g, i, none⟩) hg).trans (h i z hz).1, (hb.frozen (p := ⟨g, i, none⟩) hg).trans (h i z hz).2⟩
theorem RowAt.put {w : World} {g : Nat} {ys : List Int} (h : RowAt w g ys) (i : Nat) (z : Int) : RowAt (w.setCell ⟨g, i, none⟩ (.int .i64 z)) g (ys.set i z) := fun j x hx => by
  have hj : j < ys.length := by have := (List.getElem?_eq_some_iff.1 hx).1; simpa using this
  obtain ⟨h1, h2⟩ := h j ys[j] (List.getElem?_eq_getElem hj)
  have hf : (w.setCell ⟨g, i, none⟩ (.int .i64 z)).frozen? ⟨g, j, none⟩ = false := by rw [World.frozen?_setCell]; exact h2
  by_cases e : i = j
  · subst e
    rw [List.getElem?_set_self hj] at hx
    rw [← Option.some.inj hx]
    exact ⟨World.cell?_setCell_same _ _ _ h1, hf⟩
  · rw [List.getElem?_set_ne e, List.getElem?_eq_getElem hj] at hx
    rw [← Option.some.inj hx]
    exact ⟨(World.cell?_setCell_other _ _ _ _ (fun q => e (by injection q))).trans h1, hf⟩
theorem RowAt.nums {w : World} {g c n : Nat} {ys : List Int} (h : RowAt w g ys) (hn : ys.length = n) (hm : n ≤ 9223372036854775807) (hg : g < w.heap.size) : Nums w w.heap.size (.slice (some ⟨g, 0, none⟩) n c) ys := by
  subst hn
  exact ⟨_, _, rfl, hm, fun _ => ⟨g, 0, rfl, hg, fun i z hz => by rw [Nat.zero_add]; exact (h i z hz).1⟩⟩
theorem RowAt.get {w : World} {g : Nat} {ys : List Int} (h : RowAt w g ys) {i : Nat} (hi : i < ys.length) : w.cell? ⟨g, i, none⟩ = some (.int .i64 (ys.getD i 0)) ∧ w.frozen? ⟨g, i, none⟩ = false := by
  have := h i ys[i] (List.getElem?_eq_getElem hi)
  simpa [List.getD_eq_getElem?_getD, List.getElem?_eq_getElem hi] using this

section
variable {P : Program}
theorem run_storeVar_num (w : World) (g i : Nat) (ty : TypeId) (z : Int) (hi : (P.info? ty).map (·.size) = some 1) {old : Value} (hc : w.cell? ⟨g, i, none⟩ = some old) (hf : w.frozen? ⟨g, i, none⟩ = false) :
    (storeVar ty ⟨g, i, none⟩ (.int .i64 z)).run P w = .ok () (w.setCell ⟨g, i, none⟩ (.int .i64 z)) := by
  cases hq : P.info? ty with
  | none => simp [hq] at hi
  | some x =>
    have hs : x.size = 1 := by simpa [hq] using hi
    simp [storeVar, sizeOf, typeInfo, hq, hs, Value.cells, storeCells, Addr.add]
    rw [run_store P w _ _ _ (by rfl)]
    simp [hc, hf]
/-- A store of a number into such a row: what is behind it is a new world of which only that is known. -/
theorem wpList_store_num {ops : Array Oper} {rest : List Oper} {o : Oper} {a : Act} {w : World} {Q : Exit → Act → World → Prop} (hgd : o.guard = none) (ty : TypeId) (x y : Operand) (ho : o.op = .store ty x y)
    (g i : Nat) (hx : a.eval x = .pointer (some ⟨g, i, none⟩)) (z : Int) (hy : a.eval y = .int .i64 z) (hs : (P.info? ty).map (·.size) = some 1) (ys : List Int) (hr : RowAt w g ys) (hi : i < ys.length)
    (h : ∀ w', RowAt w' g (ys.set i z) → (∀ B, B ≤ g → Below B w w') → w'.heap.size = w.heap.size → (∀ p : Addr, p.block ≠ g → w'.cell? p = w.cell? p) → wpList P ops Q rest (a.put o.dst undef) w') : wpList P ops Q (o :: rest) a w := by
  refine wpList_plain hgd fun K hK => ?_
  obtain ⟨h1, h2⟩ := hr.get hi
  unfold Oper.wp execOp
  simp only [ho, hx, hy, Instr.storeAt, Instr.sureAddr, Sem.run_bind, Sem.run_pure, Result.andThen_ok, run_storeVar_num w g i ty z hs h1 h2]
  refine hK _ _ (h _ (hr.put i z) (fun B hB => (Below.refl _ _).setCell hB _) (by simp [World.setCell]) (fun p hp => World.cell?_setCell_other _ _ _ _ (fun e => hp (by rw [← e]))))
/-- append where the two slices are of two types with one element type. -/
theorem wpList_append_two {ops : Array Oper} {rest : List Oper} {o : Oper} {a : Act} {w : World} {Q : Exit → Act → World → Prop} (hgd : o.guard = none) (s x : Operand) (t t2 : TypeId)
    (ho : o.op = .call { callee := .builtin .append, args := #[s, x], argTypes := #[t, t2] })
    (same : ∀ (ty : TypeId) (A1 A2 : Option Addr) (n1 c1 n2 c2 : Nat) (w : World), (Builtin.append_ #[t, t2] ty #[.slice A1 n1 c1, .slice A2 n2 c2]).run P w = (Builtin.append_ #[t, t] ty #[.slice A1 n1 c1, .slice A2 n2 c2]).run P w)
    (base : Nat) (e : TypeId) (i : TypeInfo) (z : Value) (size bytes : Nat) (ht : P.underlying t = some (.slice e)) (hi : P.info? e = some i) (hz : i.zero = some z)
    (hsize : i.size = size) (hby : i.bytes = bytes) (hzs : z.cells.size = size) (hsz : 0 < size)
    (v : Value) (n : Nat) (xs : List Value) (hs : a.eval s = v) (hown : w.ownsRow base e size v n xs)
    (ad : Addr) (m c : Nat) (news : List Value) (hx : a.eval x = .slice (some ad) m c) (hl : news.length = m * size) (hnews : ∀ j u, news[j]? = some u → w.cell? (ad.add j) = some u) (h1 : ∀ u ∈ news, u.oneCell' = true)
    (h63 : n + m ≤ maxLen) (hbytes : (n + m) * bytes ≤ 140737488355328) (hbase : base ≤ w.heap.size)
    (h : ∀ v' w', w'.ownsRow base e size v' (n + m) (xs ++ news) → w.grownBy w' v.ownBlock → wpList P ops Q rest (a.put o.dst v') w') : wpList P ops Q (o :: rest) a w := by
  refine wpList_plain hgd fun K hK => ?_
  obtain ⟨v', w', hrun, h2, h3, _⟩ := run_append_own (P := P) w base t o.type e i z size bytes ht hi hz hsize hby hzs hsz v n xs hown ad m c news hl hnews h1 h63 hbytes hbase
  obtain ⟨A1, n1, c1, rfl⟩ : ∃ A1 n1 c1, v = .slice A1 n1 c1 := by
    rcases hown.2 with ⟨rfl, _⟩ | ⟨g, cap, cur, rfl, _⟩
    · exact ⟨_, _, _, rfl⟩
    · exact ⟨_, _, _, rfl⟩
  rw [← same] at hrun
  unfold Oper.wp execOp
  simp only [ho, resolve, invoke, builtin, Sem.run_bind, Sem.run_pure, Result.andThen_ok, List.map_toArray, List.map_cons, List.map_nil, hs, hx, hrun]
  exact hK _ _ (h v' w' h2 h3)
end
end Go.Proofs.YthainkgpafbjcaaDoor
