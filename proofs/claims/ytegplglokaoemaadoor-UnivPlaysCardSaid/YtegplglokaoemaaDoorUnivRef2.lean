/-
  The reference of package univ: what NewUniv, Before, BeginUniv and StepUniv answer.
-/
import Derived.Test.YtegplglokaoemaaDoorUnivRef
namespace Go.Proofs.YtegplglokaoemaaDoor.Univ
open Go.RowKit

theorem set_row {F : Nat → Prop} {v : Value} {n i : Nat} {f : Nat → Int} (z : Int) (w : World) (hF : ∀ b, F b → b < w.heap.size) (h : NF F w v (rowOf n f)) (hi : i < n) (h8 : n ≤ 1000) :
    Calls Tryd.prog 16 #[v, .int .i64 i, .int .i64 z] w fun e w' => ∃ A c, e = .returned (.slice A n c) ∧ NF F w' (.slice A n c) (rowOf n (rput f i z)) ∧ Below w.heap.size w w' :=
  (set_any z w hF h (by rw [rowOf_len]; exact hi) (by rw [rowOf_len]; exact h8)).mono fun _ _ ⟨A, c, he, hn, hb⟩ => ⟨A, c, by rw [he, rowOf_len], by
    rw [rowOf_len] at hn
    rw [rowOf_set (m := n) (j := i) (f := f) (f' := rput f i z) (z := z) (fun j _ hj => rput_other hj) (rput_same _ _ _)]
    exact hn, hb⟩
theorem more_row {F : Nat → Prop} {v : Value} {n : Nat} {f : Nat → Int} (z : Int) (w : World) (hF : ∀ b, F b → b < w.heap.size) (h : NF F w v (rowOf n f)) (h8 : n ≤ 1000) :
    Calls Tryd.prog 17 #[v, .int .i64 z] w fun e w' => ∃ A c, e = .returned (.slice A (n + 1) c) ∧ NF F w' (.slice A (n + 1) c) (rowOf (n + 1) (rput f n z)) ∧ Below w.heap.size w w' :=
  (more_any z w hF h (by rw [rowOf_len]; exact h8)).mono fun _ _ ⟨A, c, he, hn, hb⟩ => ⟨A, c, by rw [he, rowOf_len], by
    rw [rowOf_len] at hn
    rw [rowOf_more (m := n) (f := f) (f' := rput f n z) (z := z) (fun j hj => rput_other (by omega)) (rput_same _ _ _)]
    exact hn, hb⟩

/-- The five slices of the reference's row. -/
structure RU (F : Nat → Prop) (W : World) (n : Nat) (v : US) (va vc vt vd vl : Value) (fd fc : Nat → Int) : Prop where
  a : NF F W va (rowOf v.k fun i => ((v.add i : Nat) : Int))
  c : NF F W vc (rowOf v.m fun i => ((v.cell i : Nat) : Int))
  t : NF F W vt (rowOf n fun p => (((v.h p).a : Nat) : Int))
  d : NF F W vd (rowOf n fd)
  l : NF F W vl (rowOf n fc)
  f : ∀ p, p < n → (v.h p).a ≠ 0 → fd p = (((v.h p).e : Nat) : Int) ∧ fc p = (((v.h p).c : Nat) : Int)
section
variable {F F' O : Nat → Prop} {W W' : World} {n : Nat} {v : US} {va vc vt vd vl : Value} {fd fc : Nat → Int}
theorem RU.touch (h : RU F W n v va vc vt vd vl fd fc) (ht : Touch O W W') (hO : ∀ b, b < W.heap.size → O b → F b) : RU F W' n v va vc vt vd vl fd fc :=
  ⟨h.a.touch ht hO, h.c.touch ht hO, h.t.touch ht hO, h.d.touch ht hO, h.l.touch ht hO, h.f⟩
theorem RU.below (h : RU F W n v va vc vt vd vl fd fc) (hb : Below W.heap.size W W') : RU F W' n v va vc vt vd vl fd fc :=
  ⟨h.a.below hb, h.c.below hb, h.t.below hb, h.d.below hb, h.l.below hb, h.f⟩
theorem RU.more (h : RU F W n v va vc vt vd vl fd fc) (hF : ∀ b, b < W.heap.size → F' b → F b) : RU F' W n v va vc vt vd vl fd fc :=
  ⟨h.a.more hF, h.c.more hF, h.t.more hF, h.d.more hF, h.l.more hF, h.f⟩
theorem RU.forms (h : RU F W n v va vc vt vd vl fd fc) : ∃ A0 c0 A1 c1 A2 c2 A3 c3 A4 c4, va = .slice A0 v.k c0 ∧ vc = .slice A1 v.m c1 ∧ vt = .slice A2 n c2 ∧ vd = .slice A3 n c3 ∧ vl = .slice A4 n c4 := by
  obtain ⟨A0, c0, e0⟩ := h.a.formN
  obtain ⟨A1, c1, e1⟩ := h.c.formN
  obtain ⟨A2, c2, e2⟩ := h.t.formN
  obtain ⟨A3, c3, e3⟩ := h.d.formN
  obtain ⟨A4, c4, e4⟩ := h.l.formN
  exact ⟨A0, c0, A1, c1, A2, c2, A3, c3, A4, c4, e0, e1, e2, e3, e4⟩
end
/-- In block b the row that a call has, in block b + 1 what it hands back. -/
def FB (F : Nat → Prop) (b : Nat) (x : Nat) : Prop := F x ∨ x = b ∨ x = b + 1
structure RS (F : Nat → Prop) (w W : World) (b k m n : Nat) (va vc vt vd vl : Value) (fa fc ft fd fl : Nat → Int) : Prop where
  box : Block W b 31 #[va, vc, vt, vd, vl]
  res : Block W (b + 1) 31 #[.slice none 0 0, .slice none 0 0, .slice none 0 0, .slice none 0 0, .slice none 0 0]
  lo : w.heap.size ≤ b
  bel : Below w.heap.size w W
  frb : ∀ x, F x → x < w.heap.size
  a : NF (FB F b) W va (rowOf k fa)
  c : NF (FB F b) W vc (rowOf m fc)
  t : NF (FB F b) W vt (rowOf n ft)
  d : NF (FB F b) W vd (rowOf n fd)
  l : NF (FB F b) W vl (rowOf n fl)
section
variable {F : Nat → Prop} {w W W' : World} {b k m n : Nat} {va vc vt vd vl u : Value} {fa fc ft fd fl g : Nat → Int}
theorem RS.hF (h : RS F w W b k m n va vc vt vd vl fa fc ft fd fl) : ∀ x, FB F b x → x < W.heap.size := fun x hx => by
  have h1 := h.res.lt
  have h2 := h.lo
  rcases hx with hx | hx | hx
  · have := h.frb x hx; omega
  · omega
  · omega
theorem RS.call (h : RS F w W b k m n va vc vt vd vl fa fc ft fd fl) (hb : Below W.heap.size W W') : RS F w W' b k m n va vc vt vd vl fa fc ft fd fl :=
  ⟨h.box.below hb h.box.lt, h.res.below hb h.res.lt, h.lo, h.bel.trans (hb.mono h.bel.size), h.frb, h.a.below hb, h.c.below hb, h.t.below hb, h.d.below hb, h.l.below hb⟩
theorem RS.q (h : RS F w W b k m n va vc vt vd vl fa fc ft fd fl) : W.cell? ⟨b, 0, none⟩ = some va ∧ W.cell? ⟨b, 1, none⟩ = some vc ∧ W.cell? ⟨b, 2, none⟩ = some vt ∧ W.cell? ⟨b, 3, none⟩ = some vd ∧ W.cell? ⟨b, 4, none⟩ = some vl :=
  ⟨h.box.cell 0, h.box.cell 1, h.box.cell 2, h.box.cell 3, h.box.cell 4⟩
theorem RS.r (h : RS F w W b k m n va vc vt vd vl fa fc ft fd fl) : W.cell? ⟨b + 1, 0, none⟩ = some (.slice none 0 0) ∧ W.cell? ⟨b + 1, 1, none⟩ = some (.slice none 0 0) ∧ W.cell? ⟨b + 1, 2, none⟩ = some (.slice none 0 0) ∧ W.cell? ⟨b + 1, 3, none⟩ = some (.slice none 0 0) ∧ W.cell? ⟨b + 1, 4, none⟩ = some (.slice none 0 0) :=
  ⟨h.res.cell 0, h.res.cell 1, h.res.cell 2, h.res.cell 3, h.res.cell 4⟩
theorem RS.put0 {k1 : Nat} (h : RS F w W b k m n va vc vt vd vl fa fc ft fd fl) (hu : NF (FB F b) W u (rowOf k1 g)) : RS F w (W.setCell ⟨b, 0, none⟩ u) b k1 m n u vc vt vd vl g fc ft fd fl :=
  ⟨by have := h.box.put 0 u; simpa using this, h.res.far (by show b + 1 ≠ b; omega) _, h.lo, h.bel.setCell h.lo _, h.frb, hu.put (Or.inr (Or.inl rfl)) _, h.c.put (Or.inr (Or.inl rfl)) _, h.t.put (Or.inr (Or.inl rfl)) _, h.d.put (Or.inr (Or.inl rfl)) _, h.l.put (Or.inr (Or.inl rfl)) _⟩
theorem RS.put1 {m1 : Nat} (h : RS F w W b k m n va vc vt vd vl fa fc ft fd fl) (hu : NF (FB F b) W u (rowOf m1 g)) : RS F w (W.setCell ⟨b, 1, none⟩ u) b k m1 n va u vt vd vl fa g ft fd fl :=
  ⟨by have := h.box.put 1 u; simpa using this, h.res.far (by show b + 1 ≠ b; omega) _, h.lo, h.bel.setCell h.lo _, h.frb, h.a.put (Or.inr (Or.inl rfl)) _, hu.put (Or.inr (Or.inl rfl)) _, h.t.put (Or.inr (Or.inl rfl)) _, h.d.put (Or.inr (Or.inl rfl)) _, h.l.put (Or.inr (Or.inl rfl)) _⟩
theorem RS.put2 (h : RS F w W b k m n va vc vt vd vl fa fc ft fd fl) (hu : NF (FB F b) W u (rowOf n g)) : RS F w (W.setCell ⟨b, 2, none⟩ u) b k m n va vc u vd vl fa fc g fd fl :=
  ⟨by have := h.box.put 2 u; simpa using this, h.res.far (by show b + 1 ≠ b; omega) _, h.lo, h.bel.setCell h.lo _, h.frb, h.a.put (Or.inr (Or.inl rfl)) _, h.c.put (Or.inr (Or.inl rfl)) _, hu.put (Or.inr (Or.inl rfl)) _, h.d.put (Or.inr (Or.inl rfl)) _, h.l.put (Or.inr (Or.inl rfl)) _⟩
theorem RS.put3 (h : RS F w W b k m n va vc vt vd vl fa fc ft fd fl) (hu : NF (FB F b) W u (rowOf n g)) : RS F w (W.setCell ⟨b, 3, none⟩ u) b k m n va vc vt u vl fa fc ft g fl :=
  ⟨by have := h.box.put 3 u; simpa using this, h.res.far (by show b + 1 ≠ b; omega) _, h.lo, h.bel.setCell h.lo _, h.frb, h.a.put (Or.inr (Or.inl rfl)) _, h.c.put (Or.inr (Or.inl rfl)) _, h.t.put (Or.inr (Or.inl rfl)) _, hu.put (Or.inr (Or.inl rfl)) _, h.l.put (Or.inr (Or.inl rfl)) _⟩
theorem RS.put4 (h : RS F w W b k m n va vc vt vd vl fa fc ft fd fl) (hu : NF (FB F b) W u (rowOf n g)) : RS F w (W.setCell ⟨b, 4, none⟩ u) b k m n va vc vt vd u fa fc ft fd g :=
  ⟨by have := h.box.put 4 u; simpa using this, h.res.far (by show b + 1 ≠ b; omega) _, h.lo, h.bel.setCell h.lo _, h.frb, h.a.put (Or.inr (Or.inl rfl)) _, h.c.put (Or.inr (Or.inl rfl)) _, h.t.put (Or.inr (Or.inl rfl)) _, h.d.put (Or.inr (Or.inl rfl)) _, hu.put (Or.inr (Or.inl rfl)) _⟩
theorem RS.done (h : RS F w W b k m n va vc vt vd vl fa fc ft fd fl) {v : US} (hk : v.k = k) (hm : v.m = m) (h1 : ∀ i, i < k → ((v.add i : Nat) : Int) = fa i) (h2 : ∀ i, i < m → ((v.cell i : Nat) : Int) = fc i) (h3 : ∀ p, p < n → (((v.h p).a : Nat) : Int) = ft p)
    (h4 : ∀ p, p < n → (v.h p).a ≠ 0 → fd p = (((v.h p).e : Nat) : Int) ∧ fl p = (((v.h p).c : Nat) : Int)) : RU (FB F b) W n v va vc vt vd vl fd fl := by
  subst hk hm
  exact ⟨NF.congr h.a h1, NF.congr h.c h2, NF.congr h.t h3, h.d, h.l, h4⟩
theorem RS.start {v : US} {fd fc : Nat → Int} (h : RU F w n v va vc vt vd vl fd fc) (hF : ∀ x, F x → x < w.heap.size) :
    RS F w ((w.alloc (.cells #[va, vc, vt, vd, vl] 31)).alloc (.cells #[.slice none 0 0, .slice none 0 0, .slice none 0 0, .slice none 0 0, .slice none 0 0] 31)) w.heap.size v.k v.m n va vc vt vd vl (fun i => ((v.add i : Nat) : Int)) (fun i => ((v.cell i : Nat) : Int)) (fun p => (((v.h p).a : Nat) : Int)) fd fc := by
  have hb : Below w.heap.size w ((w.alloc (.cells #[va, vc, vt, vd, vl] 31)).alloc (.cells #[.slice none 0 0, .slice none 0 0, .slice none 0 0, .slice none 0 0, .slice none 0 0] 31)) := ((Below.refl _ w).alloc (Nat.le_refl _) _).alloc (by simp) _
  have hf : ∀ x, x < w.heap.size → FB F w.heap.size x → F x := fun x h1 h2 => by
    rcases h2 with h2 | h2 | h2
    · exact h2
    · omega
    · omega
  refine ⟨(Block.made w _ _).alloc _, ?_, Nat.le_refl _, hb, hF, (h.a.more hf).below hb, (h.c.more hf).below hb, (h.t.more hf).below hb, (h.d.more hf).below hb, (h.l.more hf).below hb⟩
  have := Block.made (w.alloc (.cells #[va, vc, vt, vd, vl] 31)) 31 #[.slice none 0 0, .slice none 0 0, .slice none 0 0, .slice none 0 0, .slice none 0 0]
  rwa [World.size_alloc] at this
end

section
variable {P : Program}
theorem results_cell2 {fn : Func} {p u : Tmp} {ty : TypeId} (h : fn.results = #[.cell p ty, .tmp u]) (tmps : Array Value) (w : World) (g : Nat) (t : TypeId) (cs : Array Value) (fr : Nat × Nat) (d : TypeDesc)
    (hp : tmps.getD p undef = .pointer (some ⟨g, 0, none⟩)) (hg : w.heap[g]? = some (.cells cs t fr))
    (hu : P.underlying ty = some d) (hd : (match d with | .struct _ | .array _ _ => true | _ => false) = true) (hi : (P.info? ty).map (·.size) = some cs.size) :
    (results fn tmps).run P w = .ok (.tuple #[.agg cs, tmps.getD u undef]) w := by
  have hp' : tmps[p]?.getD undef = .pointer (some ⟨g, 0, none⟩) := by simpa using hp
  simp [results, h, hp', asAddr, run_loadVar_row w g t ty cs fr d hg hu hd hi]
theorem results_cell4 {fn : Func} {p a b c : Tmp} {ty : TypeId} (h : fn.results = #[.cell p ty, .tmp a, .tmp b, .tmp c]) (tmps : Array Value) (w : World) (g : Nat) (t : TypeId) (cs : Array Value) (fr : Nat × Nat) (d : TypeDesc)
    (hp : tmps.getD p undef = .pointer (some ⟨g, 0, none⟩)) (hg : w.heap[g]? = some (.cells cs t fr))
    (hu : P.underlying ty = some d) (hd : (match d with | .struct _ | .array _ _ => true | _ => false) = true) (hi : (P.info? ty).map (·.size) = some cs.size) :
    (results fn tmps).run P w = .ok (.tuple #[.agg cs, tmps.getD a undef, tmps.getD b undef, tmps.getD c undef]) w := by
  have hp' : tmps[p]?.getD undef = .pointer (some ⟨g, 0, none⟩) := by simpa using hp
  simp [results, h, hp', asAddr, run_loadVar_row w g t ty cs fr d hg hu hd hi]
end
theorem three_rows (w : World) (n : Nat) (o : Obj) :
    IRow ((((w.alloc o).alloc (.cells (madeCells #[.int .i64 0] n) 3)).alloc (.cells (madeCells #[.int .i64 0] n) 3)).alloc (.cells (madeCells #[.int .i64 0] n) 3)) (w.heap.size + 1) n (fun _ => 0) ∧
    IRow ((((w.alloc o).alloc (.cells (madeCells #[.int .i64 0] n) 3)).alloc (.cells (madeCells #[.int .i64 0] n) 3)).alloc (.cells (madeCells #[.int .i64 0] n) 3)) (w.heap.size + 1 + 1) n (fun _ => 0) ∧
    IRow ((((w.alloc o).alloc (.cells (madeCells #[.int .i64 0] n) 3)).alloc (.cells (madeCells #[.int .i64 0] n) 3)).alloc (.cells (madeCells #[.int .i64 0] n) 3)) (w.heap.size + 1 + 1 + 1) n (fun _ => 0) := by
  have h1 := IRow.made (w.alloc o) n
  have h2 := IRow.made ((w.alloc o).alloc (.cells (madeCells #[.int .i64 0] n) 3)) n
  have h3 := IRow.made (((w.alloc o).alloc (.cells (madeCells #[.int .i64 0] n) 3)).alloc (.cells (madeCells #[.int .i64 0] n) 3)) n
  simp only [World.size_alloc] at h1 h2 h3
  exact ⟨(h1.alloc _).alloc _, h2.alloc _, h3⟩
theorem RS.told {F : Nat → Prop} {w W : World} {b k m n : Nat} {va vc vt vd vl : Value} {fa fc ft fd fl : Nat → Int} (h : RS F w W b k m n va vc vt vd vl fa fc ft fd fl) :
    Block (((((W.setCell ⟨b + 1, 0, none⟩ va).setCell ⟨b + 1, 1, none⟩ vc).setCell ⟨b + 1, 2, none⟩ vt).setCell ⟨b + 1, 3, none⟩ vd).setCell ⟨b + 1, 4, none⟩ vl) (b + 1) 31 #[va, vc, vt, vd, vl] ∧
    Below w.heap.size w (((((W.setCell ⟨b + 1, 0, none⟩ va).setCell ⟨b + 1, 1, none⟩ vc).setCell ⟨b + 1, 2, none⟩ vt).setCell ⟨b + 1, 3, none⟩ vd).setCell ⟨b + 1, 4, none⟩ vl) ∧
    ∀ v : US, RU (FB F b) W n v va vc vt vd vl fd fl → RU F (((((W.setCell ⟨b + 1, 0, none⟩ va).setCell ⟨b + 1, 1, none⟩ vc).setCell ⟨b + 1, 2, none⟩ vt).setCell ⟨b + 1, 3, none⟩ vd).setCell ⟨b + 1, 4, none⟩ vl) n v va vc vt vd vl fd fl := by
  have hlo := h.lo
  have hb : w.heap.size ≤ b + 1 := by omega
  refine ⟨?_, ((((h.bel.setCell hb _).setCell hb _).setCell hb _).setCell hb _).setCell hb _, fun v hv => ?_⟩
  · have := ((((h.res.put 0 va).put 1 vc).put 2 vt).put 3 vd).put 4 vl
    simpa using this
  · have hp : FB F b (b + 1) := Or.inr (Or.inr rfl)
    have g : ∀ {u : Value} {zs : List Int}, NF (FB F b) W u zs → NF F (((((W.setCell ⟨b + 1, 0, none⟩ va).setCell ⟨b + 1, 1, none⟩ vc).setCell ⟨b + 1, 2, none⟩ vt).setCell ⟨b + 1, 3, none⟩ vd).setCell ⟨b + 1, 4, none⟩ vl) u zs := fun hu =>
      (((((hu.put (p := ⟨b + 1, 0, none⟩) hp va).put (p := ⟨b + 1, 1, none⟩) hp vc).put (p := ⟨b + 1, 2, none⟩) hp vt).put (p := ⟨b + 1, 3, none⟩) hp vd).put (p := ⟨b + 1, 4, none⟩) hp vl).more fun _ _ h => Or.inl h
    exact ⟨g hv.a, g hv.c, g hv.t, g hv.d, g hv.l, hv.f⟩

set_option maxHeartbeats 4000000 in
theorem before_any {F : Nat → Prop} {n : Nat} {v : US} {va vc vt vd vl : Value} {fd fc : Nat → Int} (w : World) (h : RU F w n v va vc vt vd vl fd fc) (hl : Loc n v) (hck : ∀ i, i < v.m → v.cell i < v.k) {c : Nat} (hc : c ≤ v.m) :
    Calls Tryd.prog 19 #[.agg #[va, vc, vt, vd, vl], .int .i64 c] w fun e w' => e = .returned (.int .i64 (usum v.add v.cell c : Nat)) ∧ Below w.heap.size w w' := by
  obtain ⟨A0, c0, A1, c1, A2, c2, A3, c3, A4, c4, rfl, rfl, rfl, rfl, rfl⟩ := h.forms
  have HRU := Lib.hid h
  have HL := Lib.hid hl
  have HCK := Lib.hid hck
  have hm40 := hl.m
  obtain ⟨K, hK⟩ : ∃ K, K = v.k := ⟨_, rfl⟩
  obtain ⟨m, hm⟩ : ∃ m, m = v.m := ⟨_, rfl⟩
  rw [← hm] at hc hm40
  have HK := Lib.hid hK
  have HM := Lib.hid hm
  rw [← hK, ← hm]
  obtain ⟨W0, hW0⟩ : ∃ W0, W0 = w.alloc (.cells #[.slice A0 K c0, .slice A1 m c1, .slice A2 n c2, .slice A3 n c3, .slice A4 n c4] 31) := ⟨_, rfl⟩
  have hb0 : Below w.heap.size w W0 := by rw [hW0]; exact (Below.refl _ w).alloc (Nat.le_refl _) _
  have hbx : Block W0 w.heap.size 31 #[.slice A0 K c0, .slice A1 m c1, .slice A2 n c2, .slice A3 n c3, .slice A4 n c4] := by rw [hW0]; exact Block.made _ _ _
  have q0 := hbx.cell 0
  have q1 := hbx.cell 1
  simp at q0 q1
  have HB := Lib.hid hb0
  have HAR := Lib.hid (show ∀ j, j < m → v.cell j < K ∧ ∃ b1 o1, A1 = some ⟨b1, o1, none⟩ ∧ W0.cell? ⟨b1, o1 + j, none⟩ = some (.int .i64 (v.cell j : Nat)) ∧ ∃ b0 o0, A0 = some ⟨b0, o0, none⟩ ∧ W0.cell? ⟨b0, o0 + v.cell j, none⟩ = some (.int .i64 (v.add (v.cell j) : Nat)) from fun j hj => by
    have hj2 : j < v.m := by rw [← hm]; exact hj
    have h1 := hck j hj2
    obtain ⟨b1, o1, e1, hb1, _, hc1⟩ := h.c.at_ hj2
    obtain ⟨b2, o2, e2, hb2, _, hc2⟩ := h.a.at_ h1
    exact ⟨by rw [hK]; exact h1, b1, o1, e1, (hb0.cell (p := ⟨b1, _, none⟩) hb1).trans hc1, b2, o2, e2, (hb0.cell (p := ⟨b2, _, none⟩) hb2).trans hc2⟩)
  clear h hl hck hK hm hb0 hbx
  go_enter Tryd.func19, Tryd.ntmps19
  go_upto_region 1 with fail
  rw [← hW0]
  clear hW0
  go_wp2
  go_loopw [5, 6] (fun s i wr => ∃ j : Nat, j ≤ c ∧ i = .int .i64 j ∧ s = .int .i64 ((usum v.add v.cell j : Nat) : Int) ∧ ∃ q, wr = W0.drewN q) (fun _ i _ => c - (intOf i).toNat)
  case atStart => exact ⟨0, by omega, rfl, rfl, 0, rfl⟩
  case round =>
    obtain ⟨j, hj, rfl, rfl, q, rfl⟩ := hrel
    by_cases hjc : j < c
    · have hjI : (j : Int) < c := by omega
      have hjm : (j : Int) < m := by omega
      obtain ⟨hcK, b1, o1, rfl, hc1, b0, o0, rfl, hc0⟩ := HAR.out j (by omega)
      have hS1 := usum_le (cell := v.cell) HL.out.x j
      have ha1 := HL.out.x (v.cell j)
      have HSS := Lib.hid (show usum v.add v.cell (j + 1) = usum v.add v.cell j + v.add (v.cell j) from rfl)
      obtain ⟨S, hS⟩ : ∃ S, S = usum v.add v.cell j := ⟨_, rfl⟩
      obtain ⟨D, hD⟩ : ∃ D, D = v.cell j := ⟨_, rfl⟩
      rw [← hS] at hS1 HSS
      rw [← hS]
      rw [← hD] at hcK hc1 hc0 ha1 HSS
      obtain ⟨ad, had⟩ : ∃ ad, ad = v.add D := ⟨_, rfl⟩
      rw [← had] at hc0 ha1 HSS
      have hDI : (D : Int) < K := by omega
      have hws : IntKind.i64.wrap ((S : Int) + (ad : Int)) = (S : Int) + (ad : Int) := IntWalk.i64_in _ (by omega)
      clear hS hD had hcK hS1 ha1
      go_wp2_with fail
      go_quiet (fail)
      go_wp2
      go_roundw
      case rel => exact ⟨j + 1, by omega, by go_num, by rw [HSS.out]; go_num, q + nq, rfl⟩
      case measure => simp [intOf]; omega
    · obtain rfl : j = c := by omega
      have hjI : ¬ (j : Int) < j := by omega
      go_wp2
      go_ret
      exact ⟨rfl, below_drewN HB.out _⟩

set_option maxHeartbeats 4000000 in
theorem refnew_any {F : Nat → Prop} (n : Nat) (h1 : 1 ≤ n) (h4 : n ≤ 4) (w : World) (hF : ∀ b, F b → b < w.heap.size) :
    Calls Tryd.prog 6 #[.int .i64 n] w fun e w' => ∃ A2 A3 A4, e = .returned (.agg #[.slice none 0 0, .slice none 0 0, .slice A2 n n, .slice A3 n n, .slice A4 n n]) ∧ RU F w' n unew (.slice none 0 0) (.slice none 0 0) (.slice A2 n n) (.slice A3 n n) (.slice A4 n n) (fun _ => 0) (fun _ => 0) ∧ Below w.heap.size w w' := by
  have hmk := make_ints n (by omega)
  have hfin : ∀ (V : World) (i j k : Nat), IRow V i n (fun _ => 0) → IRow V j n (fun _ => 0) → IRow V k n (fun _ => 0) → w.heap.size ≤ i → w.heap.size ≤ j → w.heap.size ≤ k → RU F V n unew (.slice none 0 0) (.slice none 0 0) (.slice (some ⟨i, 0, none⟩) n n) (.slice (some ⟨j, 0, none⟩) n n) (.slice (some ⟨k, 0, none⟩) n n) (fun _ => 0) (fun _ => 0) := fun V i j k hi hj hk a b c =>
    ⟨NF.nil F V, NF.nil F V, NF.row hi (fun e => by have := hF _ e; omega) h1 (by omega), NF.row hj (fun e => by have := hF _ e; omega) h1 (by omega), NF.row hk (fun e => by have := hF _ e; omega) h1 (by omega), fun p _ ha => absurd rfl ha⟩
  have HFI := Lib.hid hfin
  clear hfin hF
  go_enter Tryd.func6, Tryd.ntmps6
  go_wp2_with fail
  go_region_with fail
  all_goals
    go_wp2
    refine bodyPost_ret (v := .agg _) (results_cell_row rfl _ _ w.heap.size 31 _ (0, 0) _ rfl ((((Block.made w 31 _).alloc _).alloc _).alloc _) Tryd.underlying31 rfl (by kernel_rfl)) rfl ⟨_, _, _, rfl, HFI.out _ _ _ _ ?_ ?_ ?_ (by omega) (by omega) (by omega), ?_⟩
    · first | exact (three_rows w n _).1 | exact (three_rows w n _).2.1 | exact (three_rows w n _).2.2
    · first | exact (three_rows w n _).1 | exact (three_rows w n _).2.1 | exact (three_rows w n _).2.2
    · first | exact (three_rows w n _).1 | exact (three_rows w n _).2.1 | exact (three_rows w n _).2.2
    · exact (((((Below.refl _ w).alloc (Nat.le_refl _) _).alloc (by simp) _).alloc (by simp; omega) _).alloc (by simp; omega) _).drew
end Go.Proofs.YtegplglokaoemaaDoor.Univ
