/-
  The reference's machine, deed by deed: what word, to, own answer, one behind the other; what is told in the end.
-/
import Derived.Test.YthainkgpafbjcaaDoorMachOwn
namespace Go.Proofs.YthainkgpafbjcaaDoor
open Go.RowKit

/-- Since V: a machine out of new blocks, or of those that were. -/
structure MS (P : Nat → Prop) (V W : World) (n : Int) (v : Value) (ws ls : List Int) (os : List (List Int)) : Prop where
  mc : Mc W (New P V W) n v ws ls os
  below : Below V.heap.size V W
section
variable {P : Nat → Prop} {w V W : World} {n : Int} {v : Value} {ws ls : List Int} {os : List (List Int)}
theorem MS.start (h : Mc V P n v ws ls os) : MS P V V n v ws ls os := ⟨h.keep (fun _ => Or.inl) fun _ _ => rfl, Below.refl _ _⟩
theorem New.twice {a b c : World} (h1 : a.heap.size ≤ b.heap.size) (h2 : b.heap.size ≤ c.heap.size) : ∀ x, New (New P a b) b c x → New P a c x :=
  fun _ hx => hx.elim (fun hx => hx.elim Or.inl fun hx => Or.inr ⟨hx.1, Nat.lt_of_lt_of_le hx.2 h2⟩) fun hx => Or.inr ⟨Nat.le_trans h1 hx.1, hx.2⟩
theorem MS.step (h : MS P V W n v ws ls os) {W' : World} {v' : Value} {ws' ls' : List Int} {os' : List (List Int)} (hm : Mc W' (New (New P V W) W W') n v' ws' ls' os') (hb : Below W.heap.size W W') : MS P V W' n v' ws' ls' os' :=
  ⟨hm.keep (New.twice h.below.size hb.size) fun _ _ => rfl, h.below.trans (hb.mono h.below.size)⟩
theorem MS.form (h : MS P V W n v ws ls os) : ∃ A1 m1 c1 A2 m2 c2 A3 m3 c3, v = .agg #[.int .i64 n, .slice A1 m1 c1, .slice A2 m2 c2, .slice A3 m3 c3] := by
  obtain ⟨wv, av, ov, rfl, ⟨A1, c1, rfl, _⟩, ⟨A2, c2, rfl, _⟩, ⟨A3, c3, rfl, _⟩⟩ := h.mc
  exact ⟨_, _, _, _, _, _, _, _, _, rfl⟩
theorem MS.lt (hP : ∀ b, P b → b < V.heap.size) (h : MS P V W n v ws ls os) : ∀ b, New P V W b → b < W.heap.size := New.lt hP h.below.size
theorem ms_word (hP : ∀ b, P b → b < V.heap.size) (h : MS P V W n v ws ls os) (i : Nat) (z : Int) (hi : i < ws.length) (hl : ws.length ≤ 1000) :
    Calls Tryd.prog 16 #[v, .int .i64 i, .int .i64 z] W fun e W' => ∃ v', e = .returned v' ∧ MS P V W' n v' (ws.set i z) ls os :=
  (word_any n v ws ls os i z W (h.lt hP) h.mc hi hl).mono fun _ _ ⟨v', he, hm, hb⟩ => ⟨v', he, h.step hm hb⟩
theorem ms_to (hP : ∀ b, P b → b < V.heap.size) (h : MS P V W n v ws ls os) (i : Nat) (z : Int) (hi : i < ls.length) (hl : ls.length ≤ 1000) :
    Calls Tryd.prog 15 #[v, .int .i64 i, .int .i64 z] W fun e W' => ∃ v', e = .returned v' ∧ MS P V W' n v' ws (ls.set i z) os :=
  (to_any n v ws ls os i z W (h.lt hP) h.mc hi hl).mono fun _ _ ⟨v', he, hm, hb⟩ => ⟨v', he, h.step hm hb⟩
theorem ms_own (hP : ∀ b, P b → b < V.heap.size) (h : MS P V W n v ws ls os) (p i : Nat) (z : Int) (l : List Int) (hl : os[p]? = some l) (hi : i < l.length) (hll : l.length ≤ 1000) (hol : os.length ≤ 1000) :
    Calls Tryd.prog 17 #[v, .int .i64 p, .int .i64 i, .int .i64 z] W fun e W' => ∃ v', e = .returned v' ∧ MS P V W' n v' ws ls (os.set p (l.set i z)) :=
  (own_any n v ws ls os p i z l W (h.lt hP) h.mc hl hi hll hol).mono fun _ _ ⟨v', he, hm, hb⟩ => ⟨v', he, h.step hm hb⟩
theorem ms_own20 (hP : ∀ b, P b → b < V.heap.size) (h : MS P V W n v ws ls os) (p : Nat) (z a b : Int) (ho : os[p]? = some [a, b]) (hol : os.length ≤ 1000) :
    Calls Tryd.prog 17 #[v, .int .i64 p, .int .i64 0, .int .i64 z] W fun e W' => ∃ v', e = .returned v' ∧ MS P V W' n v' ws ls (os.set p [z, b]) := ms_own hP h p 0 z [a, b] ho (by simp) (by simp) hol
theorem ms_own21 (hP : ∀ b, P b → b < V.heap.size) (h : MS P V W n v ws ls os) (p : Nat) (z a b : Int) (ho : os[p]? = some [a, b]) (hol : os.length ≤ 1000) :
    Calls Tryd.prog 17 #[v, .int .i64 p, .int .i64 1, .int .i64 z] W fun e W' => ∃ v', e = .returned v' ∧ MS P V W' n v' ws ls (os.set p [a, z]) := ms_own hP h p 1 z [a, b] ho (by simp) (by simp) hol
theorem ms_own10 (hP : ∀ b, P b → b < V.heap.size) (h : MS P V W n v ws ls os) (p : Nat) (z a : Int) (ho : os[p]? = some [a]) (hol : os.length ≤ 1000) :
    Calls Tryd.prog 17 #[v, .int .i64 p, .int .i64 0, .int .i64 z] W fun e W' => ∃ v', e = .returned v' ∧ MS P V W' n v' ws ls (os.set p [z]) := ms_own hP h p 0 z [a] ho (by simp) (by simp) hol
theorem set_get {α : Type} {os : List α} {p : Nat} {l x : α} (h : os[p]? = some l) : (os.set p x)[p]? = some x := by
  rw [List.getElem?_set_self (List.getElem?_eq_some_iff.1 h).1]
theorem MBox.mcs {w V W : World} {h : Nat} {n : Int} {x1 x2 x3 : Value} {ws ls : List Int} {P P' : Nat → Prop} (hP : ∀ b, P b → b < w.heap.size) (m : MBox w V h n x1 x2 x3 ws ls) (hP' : ∀ b, P' b → P b ∨ (V.heap.size ≤ b ∧ b < W.heap.size)) {v : Value} {ws' ls' : List Int} {os' : List (List Int)} (h' : Mc W P' n v ws' ls' os') (z : Int) (y1 y2 y3 : Value) :
    Mc ((((W.setCell ⟨h + 1, 0, none⟩ (.int .i64 z)).setCell ⟨h + 1, 1, none⟩ y1).setCell ⟨h + 1, 2, none⟩ y2).setCell ⟨h + 1, 3, none⟩ y3) (New P w ((((W.setCell ⟨h + 1, 0, none⟩ (.int .i64 z)).setCell ⟨h + 1, 1, none⟩ y1).setCell ⟨h + 1, 2, none⟩ y2).setCell ⟨h + 1, 3, none⟩ y3)) n v ws' ls' os' :=
  m.mc hP (h'.keep (P' := New P V W) (fun b hb => hP' b hb) fun _ _ => rfl) z y1 y2 y3
/-- What is told in the end, at block h + 1. -/
theorem ms_end {h : Nat} {x1 x2 x3 y1 y2 y3 : Value} {ws0 ls0 : List Int} (hP : ∀ b, P b → b < w.heap.size) (m : MBox w V h n x1 x2 x3 ws0 ls0) (k : MS P V W n (.agg #[.int .i64 n, y1, y2, y3]) ws ls os) :
    let U := ((((W.setCell ⟨h + 1, 0, none⟩ (.int .i64 n)).setCell ⟨h + 1, 1, none⟩ y1).setCell ⟨h + 1, 2, none⟩ y2).setCell ⟨h + 1, 3, none⟩ y3)
    Block U (h + 1) 31 #[.int .i64 n, y1, y2, y3] ∧ Mc U (New P w U) n (.agg #[.int .i64 n, y1, y2, y3]) ws ls os ∧ Below w.heap.size w U :=
  ⟨((m.on k.below).told0 y1 y2 y3).1, m.mcs hP (fun _ hb => hb) k.mc n y1 y2 y3, ((m.on k.below).told0 y1 y2 y3).2⟩
/-- How great all is that a step reads. -/
structure RefAt (n p : Nat) (ws ls : List Int) (os : List (List Int)) : Prop where
  hn : n ≤ 4
  hp : p < n
  h1 : 0 < ws.length
  hwl : ws.length ≤ 1000
  hls : ls.length ≤ 1000
  hos : os.length ≤ 1000
/-- What a step reads of a machine, in whatever later world. -/
theorem mc_open {p : Nat} {a : Int} {l : List Int} (hP : ∀ b, P b → b < w.heap.size) (h : Mc w P n v ws ls os) (h1 : 0 < ws.length) (hl : ls[p]? = some a) (ho : os[p]? = some l) (hl0 : 0 < l.length) :
    ∃ b1 o1 c1 b2 o2 c2 b3 o3 c3 bp op cp, v = .agg #[.int .i64 n, .slice (some ⟨b1, o1, none⟩) ws.length c1, .slice (some ⟨b2, o2, none⟩) ls.length c2, .slice (some ⟨b3, o3, none⟩) os.length c3] ∧
      ∀ V, Below w.heap.size w V → (∀ (i : Nat) z, ws[i]? = some z → V.cell? ⟨b1, o1 + i, none⟩ = some (.int .i64 z)) ∧ V.cell? ⟨b2, o2 + p, none⟩ = some (.int .i64 a) ∧
        V.cell? ⟨b3, o3 + p, none⟩ = some (.slice (some ⟨bp, op, none⟩) l.length cp) ∧ ∀ (i : Nat) z, l[i]? = some z → V.cell? ⟨bp, op + i, none⟩ = some (.int .i64 z) := by
  obtain ⟨wv, av, ov, rfl, k1, k2, k3⟩ := h
  have hp2 : p < ls.length := (List.getElem?_eq_some_iff.1 hl).1
  have hp3 : p < os.length := (List.getElem?_eq_some_iff.1 ho).1
  obtain ⟨A1, c1, rfl, _, k1⟩ := k1
  obtain ⟨A2, c2, rfl, _, k2⟩ := k2
  obtain ⟨A3, c3, rfl, _, k3⟩ := k3
  obtain ⟨b1, o1, rfl, hp1, hc1⟩ := k1 h1
  obtain ⟨b2, o2, rfl, hpb2, hc2⟩ := k2 (by omega)
  obtain ⟨b3, o3, rfl, hpb3, hc3⟩ := k3 (by omega)
  obtain ⟨u, hu, A4, c4, rfl, _, k4⟩ := hc3 p l ho
  obtain ⟨bp, op, rfl, hpp, hcp⟩ := k4 hl0
  exact ⟨b1, o1, c1, b2, o2, c2, b3, o3, c3, bp, op, c4, rfl, fun V hb => ⟨fun i z hz => (hb.cell (p := ⟨b1, o1 + i, none⟩) (hP _ hp1)).trans (hc1 i z hz),
    (hb.cell (p := ⟨b2, o2 + p, none⟩) (hP _ hpb2)).trans (hc2 p a hl), (hb.cell (p := ⟨b3, o3 + p, none⟩) (hP _ hpb3)).trans hu, fun i z hz => (hb.cell (p := ⟨bp, op + i, none⟩) (hP _ hpp)).trans (hcp i z hz)⟩⟩
/-- A machine is laid in the box where another one was. -/
theorem MBox.store {h : Nat} {x1 x2 x3 y1 y2 y3 : Value} {ws0 ls0 : List Int} {P' : Nat → Prop} (m : MBox w W h n x1 x2 x3 ws0 ls0) (k : Mc W P' n (.agg #[.int .i64 n, y1, y2, y3]) ws ls os) (hP' : ∀ b, P' b → b < W.heap.size ∧ b ≠ h) :
    let U := ((((W.setCell ⟨h, 0, none⟩ (.int .i64 n)).setCell ⟨h, 1, none⟩ y1).setCell ⟨h, 2, none⟩ y2).setCell ⟨h, 3, none⟩ y3)
    MBox w U h n y1 y2 y3 ws ls ∧ Mc U P' n (.agg #[.int .i64 n, y1, y2, y3]) ws ls os ∧ U.heap.size = W.heap.size ∧ ∀ p : Addr, p.block ≠ h → U.cell? p = W.cell? p := by
  intro U
  have hs : U.heap.size = W.heap.size := by simp [U, World.setCell]
  have hoff : ∀ p : Addr, p.block ≠ h → U.cell? p = W.cell? p := fun p hp => four_off W h _ _ _ _ p hp
  have hk : Mc U P' n (.agg #[.int .i64 n, y1, y2, y3]) ws ls os := k.keep (fun _ h => h) fun p hp => hoff p (hP' _ hp).2
  have hlt : ∀ b, P' b → b < U.heap.size := fun b hb => hs ▸ (hP' b hb).1
  have hm : ∃ wv av ov, (.agg #[.int .i64 n, y1, y2, y3] : Value) = .agg #[.int .i64 n, wv, av, ov] ∧ NumsP U P' wv ws ∧ NumsP U P' av ls ∧ RwsP U P' ov os := hk
  obtain ⟨wv, av, ov, e, h1, h2, _⟩ := hm
  injection e with e
  simp at e
  obtain ⟨rfl, rfl, rfl⟩ := e
  refine ⟨⟨(((m.one.put 0 _).put 1 _).put 2 _).put 3 _, ((((m.two.far (p := ⟨h, 0, none⟩) (by simp) _).far (p := ⟨h, 1, none⟩) (by simp) _).far (p := ⟨h, 2, none⟩) (by simp) _).far (p := ⟨h, 3, none⟩) (by simp) _), m.low, ?_, h1.nums hlt, h2.nums hlt⟩, hk, hs, hoff⟩
  exact (((m.below.setCell m.low _).setCell m.low _).setCell m.low _).setCell m.low _
/-- What is told in the end, where a machine was laid in the box meanwhile. -/
theorem ms_end2 {U : World} {h : Nat} {P1 : Nat → Prop} {x1 x2 x3 y1 y2 y3 : Value} {ws0 ls0 : List Int} (m : MBox w U h n x1 x2 x3 ws0 ls0) (hP1 : ∀ b, P1 b → b ≠ h + 1 ∧ (P b ∨ (w.heap.size ≤ b ∧ b < U.heap.size))) (k : MS P1 U W n (.agg #[.int .i64 n, y1, y2, y3]) ws ls os) :
    let Z := ((((W.setCell ⟨h + 1, 0, none⟩ (.int .i64 n)).setCell ⟨h + 1, 1, none⟩ y1).setCell ⟨h + 1, 2, none⟩ y2).setCell ⟨h + 1, 3, none⟩ y3)
    Block Z (h + 1) 31 #[.int .i64 n, y1, y2, y3] ∧ Mc Z (New P w Z) n (.agg #[.int .i64 n, y1, y2, y3]) ws ls os ∧ Below w.heap.size w Z := by
  intro Z
  have hs : Z.heap.size = W.heap.size := by simp [Z, World.setCell]
  have hk := k.below.size
  have hw := m.below.size
  have h2 := m.two.lt
  refine ⟨((m.on k.below).told0 y1 y2 y3).1, k.mc.keep (fun b hb => ?_) (fun p hp => four_off W (h + 1) _ _ _ _ p ?_), ((m.on k.below).told0 y1 y2 y3).2⟩
  · rcases hb with hb | hb
    · rcases (hP1 b hb).2 with h3 | h3
      · exact Or.inl h3
      · exact Or.inr ⟨h3.1, by omega⟩
    · exact Or.inr ⟨by omega, by omega⟩
  · rcases hp with hp | hp
    · exact (hP1 _ hp).1
    · omega
end
end Go.Proofs.YthainkgpafbjcaaDoor
