/-
  The memory of latchgarthlaw3.SnapRow: five rows of n things, and three rows that grow.
-/
import Derived.Test.YtoaakonfofjamaaRowsG
namespace Go.Proofs.Ytoaakonfofjamaa.Snap
open Go.RowKit

/-- A row of so many truths in block h. -/
def BRow (W : World) (h n : Nat) (f : Nat → Bool) : Prop := ∃ cs, Block W h 4 cs ∧ cs.size = n ∧ ∀ i, i < n → cs[i]? = some (.bool (f i))
section
variable {W W' : World} {h n : Nat} {f : Nat → Bool}
theorem BRow.cell (k : BRow W h n f) {i : Nat} (hi : i < n) : W.cell? ⟨h, i, none⟩ = some (.bool (f i)) := by
  obtain ⟨cs, h1, h2, h3⟩ := k
  rw [h1.cell]; exact h3 i hi
theorem BRow.free (k : BRow W h n f) (i : Nat) : W.frozen? ⟨h, i, none⟩ = false := by
  obtain ⟨cs, h1, h2, h3⟩ := k
  exact h1.free i
theorem BRow.touch {O : Nat → Prop} (k : BRow W h n f) (ht : Touch O W W') (hO : ¬ O h) : BRow W' h n f := by
  obtain ⟨cs, h1, h2, h3⟩ := k
  exact ⟨cs, h1.touch ht hO, h2, h3⟩
theorem BRow.put (k : BRow W h n f) {i : Nat} (hi : i < n) (z : Bool) : BRow (W.setCell ⟨h, i, none⟩ (.bool z)) h n (rput f i z) := by
  obtain ⟨cs, h1, h2, h3⟩ := k
  refine ⟨_, h1.put i _, by simpa using h2, fun j hj => ?_⟩
  by_cases e : j = i
  · subst e; rw [Array.getElem?_setIfInBounds_self, if_pos (by omega), rput_same]
  · rw [Array.getElem?_setIfInBounds_ne (by omega), h3 j hj, rput_other e]
end
theorem BRow.made (w : World) (n : Nat) : BRow (w.alloc (.cells (madeCells #[.bool false] n) 4)) w.heap.size n (fun _ => false) := by
  refine ⟨_, Block.made w _ _, by simp [madeCells], fun i hi => ?_⟩
  have h1 : (#[Value.bool false] : Array Value)[i % (#[Value.bool false] : Array Value).size]! = .bool false := by simp [Nat.mod_one]
  rw [madeCells, Array.getElem?_map, Array.getElem?_range, if_pos hi, Option.map_some, h1]
/-- What may not be written: no row of the law's own. -/
def Lone (H : Nat) (v : Nat → Value) (vL : Value) (b : Nat) : Prop := H + 5 ≤ b ∧ vL.ownBlock ≠ some b ∧ ∀ i, i < 4 → (v i).ownBlock ≠ some b
/-- A slice of n numbers that is never written again. -/
def Dt (W : World) (H n : Nat) (v : Nat → Value) (vL : Value) (u : Value) (f : Nat → Nat) : Prop :=
  ∃ b o c, u = .slice (some ⟨b, o, none⟩) n c ∧ Lone H v vL b ∧ b < W.heap.size ∧ ∀ q, q < n → W.cell? ⟨b, o + q, none⟩ = some (.int .i64 (f q))
structure MR (W : World) (H n : Nat) (v : Nat → Value) (vL : Value) (B Wt Sn : Nat → Int) (bl : Nat → Bool) (hd : Nat → Option (Nat → Nat)) (L : List (Nat → Nat)) (x : Nat → List Int) : Prop where
  r1 : IRow W H n B
  r2 : IRow W (H + 1) n Wt
  r3 : BRow W (H + 2) n bl
  r4 : IRow W (H + 3) n Sn
  r5 : ∃ cs, Block W (H + 4) 29 cs ∧ cs.size = n ∧ ∀ (p : Nat) (f : Nat → Nat), p < n → hd p = some f → ∃ u, cs[p]? = some u ∧ Dt W H n v vL u f
  rg : RG W (H + 5) v x
  lk : ∃ us, W.ownsRow (H + 5) 29 1 vL L.length us ∧ ∀ (i : Nat) (f : Nat → Nat), L[i]? = some f → ∃ u, us[i]? = some u ∧ Dt W H n v vL u f
  lf : ∀ k, vL.ownBlock = some k → ∀ i, i < 4 → (v i).ownBlock ≠ some k
section
variable {W W' : World} {H n : Nat} {v : Nat → Value} {vL : Value} {B Wt Sn : Nat → Int} {bl : Nat → Bool} {hd : Nat → Option (Nat → Nat)} {L : List (Nat → Nat)} {x : Nat → List Int} {u : Value} {f : Nat → Nat}
theorem Dt.touch {O : Nat → Prop} (h : Dt W H n v vL u f) (ht : Touch O W W') {v' : Nat → Value} {vL' : Value} (hO : ∀ b, b < W.heap.size → Lone H v vL b → ¬ O b ∧ Lone H v' vL' b) : Dt W' H n v' vL' u f := by
  obtain ⟨b, o, c, e, h1, h2, h3⟩ := h
  obtain ⟨h4, h5⟩ := hO b h2 h1
  exact ⟨b, o, c, e, h5, Nat.lt_of_lt_of_le h2 ht.size, fun q hq => (ht.cell (p := ⟨b, o + q, none⟩) h2 h4).trans (h3 q hq)⟩
theorem MR.lt (m : MR W H n v vL B Wt Sn bl hd L x) : H + 4 < W.heap.size := by
  obtain ⟨cs, h, _⟩ := m.r5
  exact h.lt
theorem MR.lklt (m : MR W H n v vL B Wt Sn bl hd L x) {k : Nat} (hk : vL.ownBlock = some k) : H + 5 ≤ k ∧ k < W.heap.size := by
  obtain ⟨us, h, _⟩ := m.lk
  exact h.lt k hk
/-- Other memory turns. -/
theorem MR.touch {O : Nat → Prop} (m : MR W H n v vL B Wt Sn bl hd L x) (ht : Touch O W W') (hO : ∀ k, O k → k < H ∨ W.heap.size ≤ k) : MR W' H n v vL B Wt Sn bl hd L x := by
  have hlt := m.lt
  have no : ∀ k, H ≤ k → k < W.heap.size → ¬ O k := fun k h1 h2 h3 => by have := hO k h3; omega
  have dt : ∀ b, b < W.heap.size → Lone H v vL b → ¬ O b ∧ Lone H v vL b := fun b hb hl => ⟨no b (by have := hl.1; omega) hb, hl⟩
  refine ⟨m.r1.touch ht (no _ (by omega) (by omega)), m.r2.touch ht (no _ (by omega) (by omega)), m.r3.touch ht (no _ (by omega) (by omega)), m.r4.touch ht (no _ (by omega) (by omega)), ?_, m.rg.touch ht fun k hk => by have := hO k hk; omega, ?_, m.lf⟩
  · obtain ⟨cs, h1, h2, h3⟩ := m.r5
    refine ⟨cs, h1.touch ht (no _ (by omega) (by omega)), h2, fun p f hp hf => ?_⟩
    obtain ⟨u, h4, h5⟩ := h3 p f hp hf
    exact ⟨u, h4, h5.touch ht dt⟩
  · obtain ⟨us, h1, h3⟩ := m.lk
    refine ⟨us, own_touch h1 ht fun k hk => no k (by have := (m.lklt hk).1; omega) (m.lklt hk).2, fun i f hf => ?_⟩
    obtain ⟨u, h4, h5⟩ := h3 i f hf
    exact ⟨u, h4, h5.touch ht dt⟩
theorem MR.drew (m : MR W H n v vL B Wt Sn bl hd L x) (i : Nat) : MR (W.drewN i) H n v vL B Wt Sn bl hd L x := m.touch (O := fun _ => False) ((Touch.refl _ W).drewN i) fun _ h => h.elim
theorem MR.alloc (m : MR W H n v vL B Wt Sn bl hd L x) (o : Obj) : MR (W.alloc o) H n v vL B Wt Sn bl hd L x := m.touch (O := fun _ => False) ((Touch.refl _ W).alloc o) fun _ h => h.elim
/-- One of the five rows is written: all else. -/
theorem MR.rest (m : MR W H n v vL B Wt Sn bl hd L x) {j i : Nat} (hj : j < 5) (z : Value) :
    (j ≠ 0 → IRow (W.setCell ⟨H + j, i, none⟩ z) H n B) ∧ (j ≠ 1 → IRow (W.setCell ⟨H + j, i, none⟩ z) (H + 1) n Wt) ∧ (j ≠ 2 → BRow (W.setCell ⟨H + j, i, none⟩ z) (H + 2) n bl) ∧ (j ≠ 3 → IRow (W.setCell ⟨H + j, i, none⟩ z) (H + 3) n Sn) ∧
    (j ≠ 4 → ∃ cs, Block (W.setCell ⟨H + j, i, none⟩ z) (H + 4) 29 cs ∧ cs.size = n ∧ ∀ (p : Nat) (f : Nat → Nat), p < n → hd p = some f → ∃ u, cs[p]? = some u ∧ Dt (W.setCell ⟨H + j, i, none⟩ z) H n v vL u f) ∧
    RG (W.setCell ⟨H + j, i, none⟩ z) (H + 5) v x ∧
    (∃ us, (W.setCell ⟨H + j, i, none⟩ z).ownsRow (H + 5) 29 1 vL L.length us ∧ ∀ (i' : Nat) (f : Nat → Nat), L[i']? = some f → ∃ u, us[i']? = some u ∧ Dt (W.setCell ⟨H + j, i, none⟩ z) H n v vL u f) ∧ ∀ u f, Dt W H n v vL u f → Dt (W.setCell ⟨H + j, i, none⟩ z) H n v vL u f := by
  have ht : Touch (fun k => k = H + j) W (W.setCell ⟨H + j, i, none⟩ z) := (Touch.refl (fun k => k = H + j) W).setCell (p := ⟨H + j, i, none⟩) (Or.inl rfl) z
  have dt : ∀ b, b < W.heap.size → Lone H v vL b → ¬ b = H + j ∧ Lone H v vL b := fun b hb hl => ⟨by have := hl.1; omega, hl⟩
  refine ⟨fun h => m.r1.touch ht (by omega), fun h => m.r2.touch ht (by omega), fun h => m.r3.touch ht (by omega), fun h => m.r4.touch ht (by omega), fun h => ?_, ?_, ?_, fun u f hd => hd.touch ht dt⟩
  · obtain ⟨cs, h1, h2, h3⟩ := m.r5
    refine ⟨cs, h1.touch ht (by omega), h2, fun p f hp hf => ?_⟩
    obtain ⟨u, h4, h5⟩ := h3 p f hp hf
    exact ⟨u, h4, h5.touch ht dt⟩
  · exact m.rg.touch ht fun k hk => by have : k = H + j := hk; omega
  · obtain ⟨us, h1, h3⟩ := m.lk
    refine ⟨us, own_touch h1 ht fun k hk e => by have := (m.lklt hk).1; have : k = H + j := e; omega, fun i f hf => ?_⟩
    obtain ⟨u, h4, h5⟩ := h3 i f hf
    exact ⟨u, h4, h5.touch ht dt⟩
theorem MR.put1 (m : MR W H n v vL B Wt Sn bl hd L x) {p : Nat} (hp : p < n) (z : Int) : MR (W.setCell ⟨H, p, none⟩ (.int .i64 z)) H n v vL (rput B p z) Wt Sn bl hd L x := by
  obtain ⟨a1, a2, a3, a4, a5, a6, a7, _⟩ := m.rest (j := 0) (i := p) (by omega) (.int .i64 z)
  exact ⟨m.r1.put hp (fun j hj => rput_other hj) (rput_same _ _ _), a2 (by omega), a3 (by omega), a4 (by omega), a5 (by omega), a6, a7, m.lf⟩
theorem MR.put2 (m : MR W H n v vL B Wt Sn bl hd L x) {p : Nat} (hp : p < n) (z : Int) : MR (W.setCell ⟨H + 1, p, none⟩ (.int .i64 z)) H n v vL B (rput Wt p z) Sn bl hd L x := by
  obtain ⟨a1, a2, a3, a4, a5, a6, a7, _⟩ := m.rest (j := 1) (i := p) (by omega) (.int .i64 z)
  exact ⟨a1 (by omega), m.r2.put hp (fun j hj => rput_other hj) (rput_same _ _ _), a3 (by omega), a4 (by omega), a5 (by omega), a6, a7, m.lf⟩
theorem MR.put3 (m : MR W H n v vL B Wt Sn bl hd L x) {p : Nat} (hp : p < n) (z : Bool) : MR (W.setCell ⟨H + 2, p, none⟩ (.bool z)) H n v vL B Wt Sn (rput bl p z) hd L x := by
  obtain ⟨a1, a2, a3, a4, a5, a6, a7, _⟩ := m.rest (j := 2) (i := p) (by omega) (.bool z)
  exact ⟨a1 (by omega), a2 (by omega), m.r3.put hp z, a4 (by omega), a5 (by omega), a6, a7, m.lf⟩
theorem MR.put4 (m : MR W H n v vL B Wt Sn bl hd L x) {p : Nat} (hp : p < n) (z : Int) : MR (W.setCell ⟨H + 3, p, none⟩ (.int .i64 z)) H n v vL B Wt (rput Sn p z) bl hd L x := by
  obtain ⟨a1, a2, a3, a4, a5, a6, a7, _⟩ := m.rest (j := 3) (i := p) (by omega) (.int .i64 z)
  exact ⟨a1 (by omega), a2 (by omega), a3 (by omega), m.r4.put hp (fun j hj => rput_other hj) (rput_same _ _ _), a5 (by omega), a6, a7, m.lf⟩
theorem MR.put5 (m : MR W H n v vL B Wt Sn bl hd L x) {p : Nat} (hp : p < n) {u : Value} {f : Nat → Nat} (hu : Dt W H n v vL u f) : MR (W.setCell ⟨H + 4, p, none⟩ u) H n v vL B Wt Sn bl (rput hd p (some f)) L x := by
  obtain ⟨a1, a2, a3, a4, _, a6, a7, a8⟩ := m.rest (j := 4) (i := p) (by omega) u
  refine ⟨a1 (by omega), a2 (by omega), a3 (by omega), a4 (by omega), ?_, a6, a7, m.lf⟩
  obtain ⟨cs, h1, h2, h3⟩ := m.r5
  refine ⟨_, h1.put p u, by simpa using h2, fun q f' hq hf => ?_⟩
  by_cases e : q = p
  · subst e
    rw [rput_same] at hf
    cases hf
    exact ⟨u, by rw [Array.getElem?_setIfInBounds_self, if_pos (by omega)], a8 u f hu⟩
  · rw [rput_other e] at hf
    obtain ⟨u', h4, h5⟩ := h3 q f' hq hf
    exact ⟨u', by rw [Array.getElem?_setIfInBounds_ne (by omega)]; exact h4, a8 _ _ h5⟩
/-- What was so of a hand's numbers need not be known any more. -/
theorem MR.forget (m : MR W H n v vL B Wt Sn bl hd L x) {hd' : Nat → Option (Nat → Nat)} (h : ∀ p f, p < n → hd' p = some f → hd p = some f) : MR W H n v vL B Wt Sn bl hd' L x := by
  refine ⟨m.r1, m.r2, m.r3, m.r4, ?_, m.rg, m.lk, m.lf⟩
  obtain ⟨cs, h1, h2, h3⟩ := m.r5
  exact ⟨cs, h1, h2, fun p f hp hf => h3 p f hp (h p f hp hf)⟩
theorem MR.had (m : MR W H n v vL B Wt Sn bl hd L x) {p : Nat} (hp : p < n) {f : Nat → Nat} (hf : hd p = some f) : ∃ b o c, W.cell? ⟨H + 4, p, none⟩ = some (.slice (some ⟨b, o, none⟩) n c) ∧ Lone H v vL b ∧ b < W.heap.size ∧ ∀ q, q < n → W.cell? ⟨b, o + q, none⟩ = some (.int .i64 (f q)) := by
  obtain ⟨cs, h1, h2, h3⟩ := m.r5
  obtain ⟨u, h4, b, o, c, rfl, h5⟩ := h3 p f hp hf
  exact ⟨b, o, c, by rw [h1.cell]; exact h4, h5⟩
theorem MR.hfree (m : MR W H n v vL B Wt Sn bl hd L x) {p : Nat} (hp : p < n) : W.frozen? ⟨H + 4, p, none⟩ = false ∧ ∃ u, W.cell? ⟨H + 4, p, none⟩ = some u := by
  obtain ⟨cs, h1, h2, h3⟩ := m.r5
  refine ⟨h1.free p, cs[p]'(by omega), ?_⟩
  rw [h1.cell, Array.getElem?_eq_getElem]
/-- Of a look that was told. -/
theorem MR.look (m : MR W H n v vL B Wt Sn bl hd L x) {i : Nat} {f : Nat → Nat} (hf : L[i]? = some f) : ∃ g c, vL = .slice (some ⟨g, 0, none⟩) L.length c ∧ ∃ b o c', W.cell? ⟨g, i, none⟩ = some (.slice (some ⟨b, o, none⟩) n c') ∧ ∀ q, q < n → W.cell? ⟨b, o + q, none⟩ = some (.int .i64 (f q)) := by
  obtain ⟨us, h1, h3⟩ := m.lk
  obtain ⟨u, h4, b, o, c, rfl, _, _, h5⟩ := h3 i f hf
  have hi : i < L.length := (List.getElem?_eq_some_iff.1 hf).1
  rcases h1.2 with ⟨rfl, h0⟩ | ⟨g, cap, cur, rfl, _⟩
  · omega
  · refine ⟨g, cap, rfl, b, o, c, ?_, h5⟩
    have := h1.cells rfl i _ h4
    unfold Addr.add at this
    split at this
    · rename_i h6; subst h6; exact this
    · simpa using this
theorem MR.lform (m : MR W H n v vL B Wt Sn bl hd L x) : ∃ A c, vL = .slice A L.length c := by
  obtain ⟨us, h1, _⟩ := m.lk
  rcases h1.2 with ⟨rfl, h0⟩ | ⟨g, cap, cur, rfl, _⟩
  · exact ⟨none, 0, by rw [h0]⟩
  · exact ⟨_, _, rfl⟩
/-- One of the rows of numbers that grow has one more. -/
theorem MR.app (m : MR W H n v vL B Wt Sn bl hd L x) {i : Nat} (hi : i < 4) {o : Obj} {g cap k : Nat} {z : Int} {ys : List Value} (hown : W'.ownsRow (H + 5) 3 1 (.slice (some ⟨g, 0, none⟩) k cap) k ys) (hk : k = (x i).length + 1)
    (hy : ys = (x i).map (Value.int .i64) ++ [.int .i64 z]) (hg : (W.alloc o).grownBy W' (v i).ownBlock) (hat : (v i).ownBlock = some g ∨ g = W.heap.size + 1) :
    MR W' H n (rput v i (.slice (some ⟨g, 0, none⟩) k cap)) vL B Wt Sn bl hd L (rput x i (x i ++ [z])) ∧ Touch (fun k => (v i).ownBlock = some k) W W' := by
  obtain ⟨h1, ht⟩ := m.rg.app hi hown hk hy hg hat
  have hlt := m.lt
  have no : ∀ k, k < H + 5 → ¬ (v i).ownBlock = some k := fun k h1 h2 => by have := m.rg.lt hi h2; omega
  have dt : ∀ b, b < W.heap.size → Lone H v vL b → ¬ (v i).ownBlock = some b ∧ Lone H (rput v i (.slice (some ⟨g, 0, none⟩) k cap)) vL b := fun b hb hl => by
    refine ⟨hl.2.2 i hi, hl.1, hl.2.1, fun j hj => ?_⟩
    by_cases e : j = i
    · rw [e, rput_same]
      intro e2
      obtain rfl : g = b := Option.some.inj e2
      rcases hat with e3 | e3
      · exact hl.2.2 i hi e3
      · omega
    · rw [rput_other e]; exact hl.2.2 j hj
  refine ⟨⟨m.r1.touch ht (no _ (by omega)), m.r2.touch ht (no _ (by omega)), m.r3.touch ht (no _ (by omega)), m.r4.touch ht (no _ (by omega)), ?_, h1, ?_, fun k' hk' j hj => ?_⟩, ht⟩
  · obtain ⟨cs, h1, h2, h3⟩ := m.r5
    refine ⟨cs, h1.touch ht (no _ (by omega)), h2, fun p f hp hf => ?_⟩
    obtain ⟨u, h4, h5⟩ := h3 p f hp hf
    exact ⟨u, h4, h5.touch ht dt⟩
  · obtain ⟨us, h1, h3⟩ := m.lk
    refine ⟨us, own_touch h1 ht fun k hk => m.lf k hk i hi, fun i f hf => ?_⟩
    obtain ⟨u, h4, h5⟩ := h3 i f hf
    exact ⟨u, h4, h5.touch ht dt⟩
  · by_cases e : j = i
    · rw [e, rput_same]
      intro e2
      obtain rfl : g = k' := Option.some.inj e2
      rcases hat with e3 | e3
      · exact m.lf _ hk' i hi e3
      · have := (m.lklt hk').2; omega
    · rw [rput_other e]; exact m.lf _ hk' j hj
/-- One look more. -/
theorem MR.appL (m : MR W H n v vL B Wt Sn bl hd L x) {o : Obj} {g cap k : Nat} {u : Value} {f : Nat → Nat} {us ys : List Value} (hus : W.ownsRow (H + 5) 29 1 vL L.length us ∧ ∀ (i : Nat) (f : Nat → Nat), L[i]? = some f → ∃ u, us[i]? = some u ∧ Dt W H n v vL u f)
    (hown : W'.ownsRow (H + 5) 29 1 (.slice (some ⟨g, 0, none⟩) k cap) k ys) (hk : k = L.length + 1) (hy : ys = us ++ [u]) (hl : us.length = L.length) (hu : Dt W H n v vL u f) (hg : (W.alloc o).grownBy W' vL.ownBlock) (hat : vL.ownBlock = some g ∨ g = W.heap.size + 1) :
    MR W' H n v (.slice (some ⟨g, 0, none⟩) k cap) B Wt Sn bl hd (L ++ [f]) x := by
  have ht : Touch (fun k => vL.ownBlock = some k) W W' := ((Touch.refl _ W).alloc o).grown hg fun k hk => Or.inl hk
  have hlt := m.lt
  have no : ∀ k, k < H + 5 → ¬ vL.ownBlock = some k := fun k h1 h2 => by have := m.lklt h2; omega
  have dt : ∀ b, b < W.heap.size → Lone H v vL b → ¬ vL.ownBlock = some b ∧ Lone H v (.slice (some ⟨g, 0, none⟩) k cap) b := fun b hb hl => by
    refine ⟨hl.2.1, hl.1, fun e2 => ?_, hl.2.2⟩
    obtain rfl : g = b := Option.some.inj e2
    rcases hat with e3 | e3
    · exact hl.2.1 e3
    · omega
  refine ⟨m.r1.touch ht (no _ (by omega)), m.r2.touch ht (no _ (by omega)), m.r3.touch ht (no _ (by omega)), m.r4.touch ht (no _ (by omega)), ?_, ?_, ?_, fun k' hk' j hj e => ?_⟩
  · obtain ⟨cs, h1, h2, h3⟩ := m.r5
    refine ⟨cs, h1.touch ht (no _ (by omega)), h2, fun p f hp hf => ?_⟩
    obtain ⟨u, h4, h5⟩ := h3 p f hp hf
    exact ⟨u, h4, h5.touch ht dt⟩
  · exact ⟨fun i hi => own_touch (m.rg.own i hi) ht fun k hk e => m.lf k e i hi hk, m.rg.far⟩
  · refine ⟨ys, by rw [List.length_append, List.length_singleton, ← hk]; exact hown, fun i f' hf => ?_⟩
    rw [hy]
    by_cases e : i < L.length
    · rw [List.getElem?_append_left e] at hf
      obtain ⟨u', h4, h5⟩ := hus.2 i f' hf
      exact ⟨u', by rw [List.getElem?_append_left (by omega)]; exact h4, h5.touch ht dt⟩
    · rw [List.getElem?_append_right (by omega)] at hf ⊢
      obtain rfl : i = L.length := by
        have := (List.getElem?_eq_some_iff.1 hf).1
        simp at this
        omega
      rw [Nat.sub_self] at hf
      rw [hl, Nat.sub_self]
      cases hf
      exact ⟨u, rfl, hu.touch ht dt⟩
  · obtain rfl : g = k' := Option.some.inj hk'
    rcases hat with e3 | e3
    · exact m.lf _ e3 j hj e
    · have := m.rg.lt hj e; omega
end
end Go.Proofs.Ytoaakonfofjamaa.Snap
