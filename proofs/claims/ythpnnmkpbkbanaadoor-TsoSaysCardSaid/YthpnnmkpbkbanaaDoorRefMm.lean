/-
  Texts merged: NumsP, RefMem.
-/
import Derived.Test.YthpnnmkpbkbanaaDoorRow
import Derived.Test.YthpnnmkpbkbanaaDoorTouch
import Derived.Test.YthpnnmkpbkbanaaDoorRefM
import Derived.Test.YthpnnmkpbkbanaaDoorTold
import Derived.Laws.OwnMore
import Derived.Deep.AppendLies
/-
  Rows of numbers in blocks of which something holds.
-/
namespace Go.Proofs.YthpnnmkpbkbanaaDoor
open Go.RowKit

/-- The slice value v has the numbers zs, in blocks of which P holds. -/
def NumsP (w : World) (P : Nat → Prop) (v : Value) (zs : List Int) : Prop :=
  ∃ A c, v = .slice A zs.length c ∧ zs.length ≤ 9223372036854775807 ∧
    (0 < zs.length → ∃ b o, A = some ⟨b, o, none⟩ ∧ P b ∧ ∀ (i : Nat) z, zs[i]? = some z → w.cell? ⟨b, o + i, none⟩ = some (.int .i64 z))
/-- The slice value v has the rows ls, in blocks of which P holds. -/
def RwsP (w : World) (P : Nat → Prop) (v : Value) (ls : List (List Int)) : Prop :=
  ∃ A c, v = .slice A ls.length c ∧ ls.length ≤ 9223372036854775807 ∧
    (0 < ls.length → ∃ b o, A = some ⟨b, o, none⟩ ∧ P b ∧ ∀ (i : Nat) l, ls[i]? = some l → ∃ u, w.cell? ⟨b, o + i, none⟩ = some u ∧ NumsP w P u l)
theorem NumsP.keep {w w' : World} {P P' : Nat → Prop} {v : Value} {zs : List Int} (h : NumsP w P v zs) (hP : ∀ b, P b → P' b) (hk : ∀ p : Addr, P p.block → w'.cell? p = w.cell? p) : NumsP w' P' v zs := by
  obtain ⟨A, c, e, hl, h⟩ := h
  refine ⟨A, c, e, hl, fun h0 => ?_⟩
  obtain ⟨b, o, e1, hb, hc⟩ := h h0
  exact ⟨b, o, e1, hP b hb, fun i z hz => (hk _ hb).trans (hc i z hz)⟩
theorem RwsP.keep {w w' : World} {P P' : Nat → Prop} {v : Value} {ls : List (List Int)} (h : RwsP w P v ls) (hP : ∀ b, P b → P' b) (hk : ∀ p : Addr, P p.block → w'.cell? p = w.cell? p) : RwsP w' P' v ls := by
  obtain ⟨A, c, e, hl, h⟩ := h
  refine ⟨A, c, e, hl, fun h0 => ?_⟩
  obtain ⟨b, o, e1, hb, hc⟩ := h h0
  refine ⟨b, o, e1, hP b hb, fun i l hi => ?_⟩
  obtain ⟨u, h1, h2⟩ := hc i l hi
  exact ⟨u, (hk _ hb).trans h1, h2.keep hP hk⟩
theorem NumsP.nums {w : World} {P : Nat → Prop} {B : Nat} {v : Value} {zs : List Int} (h : NumsP w P v zs) (hP : ∀ b, P b → b < B) : Nums w B v zs := h.keep (P' := (· < B)) hP fun _ _ => rfl
theorem Nums.numsP {w : World} {P : Nat → Prop} {B : Nat} {v : Value} {zs : List Int} (h : Nums w B v zs) (hP : ∀ b, b < B → P b) : NumsP w P v zs := NumsP.keep (P := (· < B)) h hP fun _ _ => rfl
theorem RowAt.numsP {w : World} {P : Nat → Prop} {g c n : Nat} {ys : List Int} (h : RowAt w g ys) (hn : ys.length = n) (hm : n ≤ 9223372036854775807) (hg : P g) : NumsP w P (.slice (some ⟨g, 0, none⟩) n c) ys := by
  subst hn
  exact ⟨_, _, rfl, hm, fun _ => ⟨g, 0, rfl, hg, fun i z hz => by rw [Nat.zero_add]; exact (h i z hz).1⟩⟩

theorem RowAt.far {w : World} {g : Nat} {ys : List Int} (h : RowAt w g ys) {p : Addr} (hp : p.block ≠ g) (u : Value) : RowAt (w.setCell p u) g ys :=
  fun i z hz => ⟨(World.cell?_setCell_other _ _ _ _ (fun e => hp (by rw [e]))).trans (h i z hz).1, by rw [World.frozen?_setCell]; exact (h i z hz).2⟩
theorem nums_cells {w : World} {b o : Nat} {xs : List Int} (h : ∀ (i : Nat) z, xs[i]? = some z → w.cell? ⟨b, o + i, none⟩ = some (.int .i64 z)) :
    ∀ (j : Nat) u, (xs.map (Value.int .i64))[j]? = some u → w.cell? ((⟨b, o, none⟩ : Addr).add j) = some u := fun j u hu => by
  rw [List.getElem?_map] at hu
  cases hx : xs[j]? with
  | none => rw [hx] at hu; cases hu
  | some z =>
    rw [hx] at hu
    have hu : Value.int .i64 z = u := Option.some.inj hu
    subst hu
    have := h j z hx
    unfold Addr.add
    by_cases h0 : j = 0
    · subst h0; simpa using this
    · simpa [h0] using this

end Go.Proofs.YthpnnmkpbkbanaaDoor

/-
  The document's answer's found states in memory: all in a list, and by their sums in lists of their own.
-/
namespace Go.Proofs.YthpnnmkpbkbanaaDoor
open Go.RowKit

def New (P : Nat → Prop) (w w' : World) (b : Nat) : Prop := P b ∨ (w.heap.size ≤ b ∧ b < w'.heap.size)

/-- The sum of a row. -/
def hsh (ys : List Int) : Int := ys.foldl (fun k x => (k * 31 + x + 7) % 1009) 0
theorem hsh_snoc (ys : List Int) (x : Int) : hsh (ys ++ [x]) = (hsh ys * 31 + x + 7) % 1009 := by simp [hsh, List.foldl_append]
theorem hsh_rng : ∀ ys : List Int, 0 ≤ hsh ys ∧ hsh ys < 1009 := by
  intro ys
  rcases List.eq_nil_or_concat ys with rfl | ⟨l, x, rfl⟩
  · exact ⟨by simp [hsh], by simp [hsh]⟩
  · rw [List.concat_eq_append, hsh_snoc]
    exact ⟨Int.emod_nonneg _ (by omega), Int.emod_lt_of_pos _ (by omega)⟩
def buck (L : List (List Int)) (k : Nat) : List (List Int) := L.filter fun y => decide (hsh y = k)
theorem mem_buck {L : List (List Int)} {k : Nat} {y : List Int} (h : hsh y = k) : y ∈ buck L k ↔ y ∈ L := by
  unfold buck
  rw [List.mem_filter]
  simp [h]
theorem buck_length (L : List (List Int)) (k : Nat) : (buck L k).length ≤ L.length := List.length_filter_le ..
theorem buck_snoc (L : List (List Int)) (k : Nat) (y : List Int) (h : hsh y = k) : (fun j => buck (L ++ [y]) j) = upd (fun j => buck L j) k (buck L k ++ [y]) := by
  funext j
  unfold upd buck
  rw [List.filter_append]
  split
  · rename_i e; subst e; simp [h]
  · rename_i e
    have : ¬ hsh y = (j : Int) := fun h2 => e (by omega)
    simp [this]

/-- Its own blocks. -/
def Mine (F R : Nat) (lv : Value) (cs : Array Value) (b : Nat) : Prop := b = F ∨ b = R ∨ lv.ownBlock = some b ∨ ∃ (k : Nat) (bv : Value), cs[k]? = some bv ∧ bv.ownBlock = some b
def Fix (W : World) (F R : Nat) (lv : Value) (cs : Array Value) (b : Nat) : Prop := b < W.heap.size ∧ ¬ Mine F R lv cs b
def RowsP (W : World) (P : Nat → Prop) (us : List Value) (L : List (List Int)) : Prop := us.length = L.length ∧ ∀ (i : Nat) u y, us[i]? = some u → L[i]? = some y → NumsP W P u y
theorem RowsP.keep {w w' : World} {P P' : Nat → Prop} {us : List Value} {L : List (List Int)} (h : RowsP w P us L) (hP : ∀ b, P b → P' b) (hk : ∀ p : Addr, P p.block → w'.cell? p = w.cell? p) : RowsP w' P' us L :=
  ⟨h.1, fun i u y hu hy => (h.2 i u y hu hy).keep hP hk⟩
theorem RowsP.nil (W : World) (P : Nat → Prop) : RowsP W P [] [] := ⟨rfl, fun i u y hu => by simp at hu⟩
theorem RowsP.snoc {W : World} {P : Nat → Prop} {us : List Value} {L : List (List Int)} (h : RowsP W P us L) {u : Value} {y : List Int} (hu : NumsP W P u y) : RowsP W P (us ++ [u]) (L ++ [y]) := by
  refine ⟨by simp [h.1], fun i u' y' hu' hy' => ?_⟩
  rcases Nat.lt_or_ge i us.length with hi | hi
  · rw [List.getElem?_append_left hi] at hu'
    rw [List.getElem?_append_left (by rw [← h.1]; exact hi)] at hy'
    exact h.2 i u' y' hu' hy'
  · rw [List.getElem?_append_right hi] at hu'
    rw [List.getElem?_append_right (by rw [← h.1]; exact hi), ← h.1] at hy'
    have hi0 : i - us.length = 0 := by
      rcases Nat.eq_zero_or_pos (i - us.length) with h1 | h1
      · exact h1
      · rw [List.getElem?_eq_none (by simp; omega)] at hu'; cases hu'
    rw [hi0] at hu' hy'
    obtain rfl : u = u' := by simpa using hu'
    obtain rfl : y = y' := by simpa using hy'
    exact hu

structure FAt (base : Nat) (W : World) (F R : Nat) (lv : Value) (cs : Array Value) (us : List Value) (bs : Nat → List Value) (L : List (List Int)) (bl : Nat → List (List Int)) : Prop where
  fblk : Block W F 45 #[.slice (some ⟨R, 0, none⟩) 1009 1009, lv]
  rblk : Block W R 43 cs
  csz : cs.size = 1009
  fb : F < base
  rb : R < base
  fr : F ≠ R
  bb : base ≤ W.heap.size
  own : W.ownsRow base 48 1 lv us.length us
  row : RowsP W (Fix W F R lv cs) us L
  cap : ∀ u ∈ us, Capd u
  bown : ∀ (k : Nat) (bv : Value), cs[k]? = some bv → W.ownsRow base 48 1 bv (bs k).length (bs k)
  brow : ∀ k, k < 1009 → RowsP W (Fix W F R lv cs) (bs k) (bl k)
  apart : ∀ (k : Nat) (bv : Value), cs[k]? = some bv → ∀ a, bv.ownBlock = some a → lv.ownBlock ≠ some a ∧ ∀ (k' : Nat) (bv' : Value), k' ≠ k → cs[k']? = some bv' → bv'.ownBlock ≠ some a
section
variable {base : Nat} {W w2 : World} {F R : Nat} {lv : Value} {cs : Array Value} {us : List Value} {bs : Nat → List Value} {L : List (List Int)} {bl : Nat → List (List Int)} {o : Obj} {g cap : Nat}
theorem own_lt {w : World} {base e size : Nat} {v : Value} {n : Nat} {xs : List Value} (h : w.ownsRow base e size v n xs) {k : Nat} (hk : v.ownBlock = some k) : base ≤ k ∧ k < w.heap.size := h.lt k hk
theorem own_keep {w w' : World} {base e size : Nat} {v : Value} {n : Nat} {xs : List Value} (h : w.ownsRow base e size v n xs) (hk : ∀ k, v.ownBlock = some k → w'.heap[k]? = w.heap[k]?) : w'.ownsRow base e size v n xs := by
  refine ⟨h.1, ?_⟩
  rcases h.2 with h0 | ⟨g, cap, cur, rfl, r2, r3, r4⟩
  · exact Or.inl h0
  · exact Or.inr ⟨g, cap, cur, rfl, r2, (hk g rfl).trans r3, r4⟩
theorem FAt.drewN (h : FAt base W F R lv cs us bs L bl) (n : Nat) : FAt base (W.drewN n) F R lv cs us bs L bl :=
  ⟨h.fblk, h.rblk, h.csz, h.fb, h.rb, h.fr, h.bb, h.own, h.row, h.cap, h.bown, h.brow, h.apart⟩
theorem FAt.mine_lt (h : FAt base W F R lv cs us bs L bl) {b : Nat} (hb : Mine F R lv cs b) : b < W.heap.size := by
  have := h.bb
  have := h.fb
  have := h.rb
  rcases hb with rfl | rfl | hb | ⟨k, bv, hk, hb⟩
  · omega
  · omega
  · exact (own_lt h.own hb).2
  · exact (own_lt (h.bown k bv hk) hb).2
/-- What turns nothing of its own leaves it. -/
theorem FAt.keep (h : FAt base W F R lv cs us bs L bl) {w' : World} (hs : W.heap.size ≤ w'.heap.size) (hk : ∀ b, b < W.heap.size → w'.heap[b]? = W.heap[b]?) : FAt base w' F R lv cs us bs L bl := by
  have hm : ∀ b, Mine F R lv cs b → w'.heap[b]? = W.heap[b]? := fun b hb => hk b (h.mine_lt hb)
  have hfix : ∀ b, Fix W F R lv cs b → Fix w' F R lv cs b := fun b hb => ⟨Nat.lt_of_lt_of_le hb.1 hs, hb.2⟩
  have hc : ∀ p : Addr, Fix W F R lv cs p.block → w'.cell? p = W.cell? p := fun p hp => World.cell?_of_block (hk _ hp.1)
  refine ⟨(hm F (Or.inl rfl)).trans h.fblk, (hm R (Or.inr (Or.inl rfl))).trans h.rblk, h.csz, h.fb, h.rb, h.fr, Nat.le_trans h.bb hs, own_keep h.own fun b hb => hm b (Or.inr (Or.inr (Or.inl hb))), h.row.keep hfix hc, h.cap, fun k bv hk' => own_keep (h.bown k bv hk') fun b hb => hm b (Or.inr (Or.inr (Or.inr ⟨k, bv, hk', hb⟩))), fun k hk' => (h.brow k hk').keep hfix hc, h.apart⟩
theorem FAt.below (h : FAt base W F R lv cs us bs L bl) {w' : World} (hb : Below W.heap.size W w') : FAt base w' F R lv cs us bs L bl :=
  h.keep hb.size fun b hb' => hb.block b hb'

/-- One row more in a list of its own. -/
theorem FAt.bucket (h : FAt base W F R lv cs us bs L bl) {k : Nat} {bv : Value} (hk : cs[k]? = some bv) {u : Value} {y : List Int} (hu : NumsP W (Fix W F R lv cs) u y)
    (hown : w2.ownsRow base 48 1 (.slice (some ⟨g, 0, none⟩) ((bs k).length + 1) cap) ((bs k).length + 1) (bs k ++ [u]))
    (hg : (W.alloc o).grownBy w2 bv.ownBlock) (hat : bv.ownBlock = some g ∨ g = W.heap.size + 1) :
    FAt base (w2.setCell ⟨R, k, none⟩ (.slice (some ⟨g, 0, none⟩) ((bs k).length + 1) cap)) F R lv (cs.setIfInBounds k (.slice (some ⟨g, 0, none⟩) ((bs k).length + 1) cap)) us (upd bs k (bs k ++ [u])) L (upd bl k (bl k ++ [y]))
    ∧ Touch (Mine F R lv cs) W (w2.setCell ⟨R, k, none⟩ (.slice (some ⟨g, 0, none⟩) ((bs k).length + 1) cap))
    ∧ ∀ b, Mine F R lv (cs.setIfInBounds k (.slice (some ⟨g, 0, none⟩) ((bs k).length + 1) cap)) b → Mine F R lv cs b ∨ W.heap.size ≤ b := by
  have hbb := h.bb
  have hfb := h.fb
  have hrb := h.rb
  have hkl : k < cs.size := (Array.getElem?_eq_some_iff.1 hk).1
  have hs : W.heap.size + 1 ≤ w2.heap.size := by have := hg.size; simpa using this
  obtain ⟨W2, hW2⟩ : ∃ W2, W2 = w2.setCell ⟨R, k, none⟩ (.slice (some ⟨g, 0, none⟩) ((bs k).length + 1) cap) := ⟨_, rfl⟩
  have hs2 : W2.heap.size = w2.heap.size := by rw [hW2]; simp [World.setCell]
  rw [← hW2]
  have hbv : ∀ a, bv.ownBlock = some a → base ≤ a ∧ a < W.heap.size := fun a ha => own_lt (h.bown k bv hk) ha
  -- what other blocks are
  have hb2 : ∀ b, b < W.heap.size → bv.ownBlock ≠ some b → w2.heap[b]? = W.heap[b]? := fun b hb hn => (hg.block b (by simp; omega) (fun e => hn e.symm)).trans (Below.heap_alloc W o b hb)
  have hb3 : ∀ b, b < W.heap.size → bv.ownBlock ≠ some b → b ≠ R → W2.heap[b]? = W.heap[b]? := fun b hb hn hne => by
    rw [hW2]; exact (Below.heap_setCell w2 ⟨R, k, none⟩ _ b hne).trans (hb2 b hb hn)
  have hgR : g ≠ R := by
    rcases hat with e | e
    · have := (hbv g e).1; omega
    · omega
  have hgb : base ≤ g := by
    rcases hat with e | e
    · exact (hbv g e).1
    · omega
  have hcs : ∀ (j : Nat) (v : Value), (cs.setIfInBounds k (.slice (some ⟨g, 0, none⟩) ((bs k).length + 1) cap))[j]? = some v → (j = k ∧ v = .slice (some ⟨g, 0, none⟩) ((bs k).length + 1) cap) ∨ (j ≠ k ∧ cs[j]? = some v) := fun j v hv => by
    rw [Array.getElem?_setIfInBounds] at hv
    split at hv
    · rename_i e
      subst e
      exact Or.inl ⟨rfl, (Option.some.inj hv).symm⟩
    · rename_i e
      exact Or.inr ⟨fun e2 => e e2.symm, hv⟩
  have hmine : ∀ b, Mine F R lv (cs.setIfInBounds k (.slice (some ⟨g, 0, none⟩) ((bs k).length + 1) cap)) b → Mine F R lv cs b ∨ W.heap.size ≤ b := fun b hb => by
    rcases hb with rfl | rfl | hb | ⟨j, v, hj, hb⟩
    · exact Or.inl (Or.inl rfl)
    · exact Or.inl (Or.inr (Or.inl rfl))
    · exact Or.inl (Or.inr (Or.inr (Or.inl hb)))
    · rcases hcs j v hj with ⟨rfl, rfl⟩ | ⟨_, hj'⟩
      · obtain rfl : g = b := Option.some.inj hb
        rcases hat with e | e
        · exact Or.inl (Or.inr (Or.inr (Or.inr ⟨_, bv, hk, e⟩)))
        · right; omega
      · exact Or.inl (Or.inr (Or.inr (Or.inr ⟨j, v, hj', hb⟩)))
  have hfix : ∀ b, Fix W F R lv cs b → Fix W2 F R lv (cs.setIfInBounds k (.slice (some ⟨g, 0, none⟩) ((bs k).length + 1) cap)) b := fun b hb =>
    ⟨by have := hb.1; omega, fun hm => (hmine b hm).elim hb.2 fun h1 => by have := hb.1; omega⟩
  have hcell : ∀ p : Addr, Fix W F R lv cs p.block → W2.cell? p = W.cell? p := fun p hp => World.cell?_of_block (hb3 _ hp.1 (fun e => hp.2 (Or.inr (Or.inr (Or.inr ⟨k, bv, hk, e⟩)))) (fun e => hp.2 (Or.inr (Or.inl e))))
  refine ⟨⟨?_, ?_, ?_, hfb, hrb, h.fr, by omega, ?_, h.row.keep hfix hcell, h.cap, fun j v hj => ?_, fun j hj => ?_, fun j v hj a ha => ?_⟩, ?_, hmine⟩
  · exact (hb3 F (by omega) (fun e => by have := (hbv F e).1; omega) h.fr).trans h.fblk
  · rw [hW2]
    exact Block.put (cs := cs) ((hb2 R (by omega) (fun e => by have := (hbv R e).1; omega)).trans h.rblk) k _
  · simp [h.csz]
  · exact own_keep h.own fun b hb => hb3 b (own_lt h.own hb).2 (fun e => (h.apart k bv hk b e).1 hb) (by have := (own_lt h.own hb).1; omega)
  · rcases hcs j v hj with ⟨rfl, rfl⟩ | ⟨hne, hj'⟩
    · rw [upd_same, List.length_append]
      exact own_keep hown fun b hb => by
        obtain rfl : g = b := Option.some.inj hb
        rw [hW2]; exact Below.heap_setCell w2 ⟨R, j, none⟩ _ g hgR
    · rw [upd_other hne]
      refine own_keep (h.bown j v hj') fun b hb => hb3 b (own_lt (h.bown j v hj') hb).2 (fun e => (h.apart k bv hk b e).2 j v hne hj' hb) (by have := (own_lt (h.bown j v hj') hb).1; omega)
  · by_cases e : j = k
    · subst e
      rw [upd_same, upd_same]
      exact ((h.brow j hj).snoc hu).keep hfix hcell
    · rw [upd_other e, upd_other e]
      exact (h.brow j hj).keep hfix hcell
  · rcases hcs j v hj with ⟨rfl, rfl⟩ | ⟨hne, hj'⟩
    · obtain rfl : g = a := Option.some.inj ha
      rcases hat with e | e
      · have := h.apart j bv hk g e
        refine ⟨this.1, fun k' bv' hk' hc' => ?_⟩
        rcases hcs k' bv' hc' with ⟨e2, _⟩ | ⟨_, hc2⟩
        · exact absurd e2 hk'
        · exact this.2 k' bv' hk' hc2
      · refine ⟨fun e2 => by have := (own_lt h.own e2).2; omega, fun k' bv' hk' hc' e2 => ?_⟩
        rcases hcs k' bv' hc' with ⟨e3, _⟩ | ⟨_, hc2⟩
        · exact absurd e3 hk'
        · have := (own_lt (h.bown k' bv' hc2) e2).2; omega
    · have := h.apart j v hj' a ha
      refine ⟨this.1, fun k' bv' hk' hc' e2 => ?_⟩
      rcases hcs k' bv' hc' with ⟨rfl, rfl⟩ | ⟨_, hc2⟩
      · obtain rfl : g = a := Option.some.inj e2
        rcases hat with e | e
        · exact this.2 _ bv (fun e3 => hne e3.symm) hk e
        · have := (own_lt (h.bown j v hj') ha).2; omega
      · exact this.2 k' bv' hk' hc2 e2
  · have ht : Touch (fun b => bv.ownBlock = some b ∨ b = R) W W2 := by
      rw [hW2]
      exact Touch.setCell (O := fun b => bv.ownBlock = some b ∨ b = R) (p := ⟨R, k, none⟩) (((Touch.refl _ W).alloc o).grown hg fun b hb => Or.inl (Or.inl hb)) (Or.inl (Or.inr rfl)) _
    refine ht.mono fun b hb => ?_
    rcases hb with hb | rfl
    · exact Or.inr (Or.inr (Or.inr ⟨k, bv, hk, hb⟩))
    · exact Or.inr (Or.inl rfl)

/-- One row more in the list. -/
theorem FAt.list (h : FAt base W F R lv cs us bs L bl) {u : Value} {y : List Int} (hu : NumsP W (Fix W F R lv cs) u y) (hcu : Capd u)
    (hown : w2.ownsRow base 48 1 (.slice (some ⟨g, 0, none⟩) (us.length + 1) cap) (us.length + 1) (us ++ [u]))
    (hg : (W.alloc o).grownBy w2 lv.ownBlock) (hat : lv.ownBlock = some g ∨ g = W.heap.size + 1) :
    FAt base (w2.setCell ⟨F, 1, none⟩ (.slice (some ⟨g, 0, none⟩) (us.length + 1) cap)) F R (.slice (some ⟨g, 0, none⟩) (us.length + 1) cap) cs (us ++ [u]) bs (L ++ [y]) bl
    ∧ Touch (Mine F R lv cs) W (w2.setCell ⟨F, 1, none⟩ (.slice (some ⟨g, 0, none⟩) (us.length + 1) cap))
    ∧ ∀ b, Mine F R (.slice (some ⟨g, 0, none⟩) (us.length + 1) cap) cs b → Mine F R lv cs b ∨ W.heap.size ≤ b := by
  have hbb := h.bb
  have hfb := h.fb
  have hrb := h.rb
  have hs : W.heap.size + 1 ≤ w2.heap.size := by have := hg.size; simpa using this
  obtain ⟨W2, hW2⟩ : ∃ W2, W2 = w2.setCell ⟨F, 1, none⟩ (.slice (some ⟨g, 0, none⟩) (us.length + 1) cap) := ⟨_, rfl⟩
  have hs2 : W2.heap.size = w2.heap.size := by rw [hW2]; simp [World.setCell]
  rw [← hW2]
  have hlv : ∀ a, lv.ownBlock = some a → base ≤ a ∧ a < W.heap.size := fun a ha => own_lt h.own ha
  have hb2 : ∀ b, b < W.heap.size → lv.ownBlock ≠ some b → w2.heap[b]? = W.heap[b]? := fun b hb hn => (hg.block b (by simp; omega) (fun e => hn e.symm)).trans (Below.heap_alloc W o b hb)
  have hb3 : ∀ b, b < W.heap.size → lv.ownBlock ≠ some b → b ≠ F → W2.heap[b]? = W.heap[b]? := fun b hb hn hne => by
    rw [hW2]; exact (Below.heap_setCell w2 ⟨F, 1, none⟩ _ b hne).trans (hb2 b hb hn)
  have hgF : g ≠ F := by
    rcases hat with e | e
    · have := (hlv g e).1; omega
    · omega
  have hmine : ∀ b, Mine F R (.slice (some ⟨g, 0, none⟩) (us.length + 1) cap) cs b → Mine F R lv cs b ∨ W.heap.size ≤ b := fun b hb => by
    rcases hb with rfl | rfl | hb | hb
    · exact Or.inl (Or.inl rfl)
    · exact Or.inl (Or.inr (Or.inl rfl))
    · obtain rfl : g = b := Option.some.inj hb
      rcases hat with e | e
      · exact Or.inl (Or.inr (Or.inr (Or.inl e)))
      · right; omega
    · exact Or.inl (Or.inr (Or.inr (Or.inr hb)))
  have hfix : ∀ b, Fix W F R lv cs b → Fix W2 F R (.slice (some ⟨g, 0, none⟩) (us.length + 1) cap) cs b := fun b hb =>
    ⟨by have := hb.1; omega, fun hm => (hmine b hm).elim hb.2 fun h1 => by have := hb.1; omega⟩
  have hcell : ∀ p : Addr, Fix W F R lv cs p.block → W2.cell? p = W.cell? p := fun p hp => World.cell?_of_block (hb3 _ hp.1 (fun e => hp.2 (Or.inr (Or.inr (Or.inl e)))) (fun e => hp.2 (Or.inl e)))
  refine ⟨⟨?_, ?_, h.csz, hfb, hrb, h.fr, by omega, ?_, (h.row.snoc hu).keep hfix hcell, fun u' hu' => (List.mem_append.1 hu').elim (h.cap u') fun h1 => by rw [List.mem_singleton.1 h1]; exact hcu, fun j v hj => ?_, fun j hj => (h.brow j hj).keep hfix hcell, fun j v hj a ha => ?_⟩, ?_, hmine⟩
  · rw [hW2]
    exact Block.put (cs := #[.slice (some ⟨R, 0, none⟩) 1009 1009, lv]) ((hb2 F (by omega) (fun e => by have := (hlv F e).1; omega)).trans h.fblk) 1 _
  · exact (hb3 R (by omega) (fun e => by have := (hlv R e).1; omega) (fun e => h.fr e.symm)).trans h.rblk
  · rw [List.length_append]
    exact own_keep hown fun b hb => by
      obtain rfl : g = b := Option.some.inj hb
      rw [hW2]; exact Below.heap_setCell w2 ⟨F, 1, none⟩ _ g hgF
  · exact own_keep (h.bown j v hj) fun b hb => hb3 b (own_lt (h.bown j v hj) hb).2 (fun e => (h.apart j v hj b hb).1 e) (by have := (own_lt (h.bown j v hj) hb).1; omega)
  · have := h.apart j v hj a ha
    refine ⟨fun e => ?_, this.2⟩
    obtain rfl : g = a := Option.some.inj e
    rcases hat with e2 | e2
    · exact this.1 e2
    · have := (own_lt (h.bown j v hj) ha).2; omega
  · have ht : Touch (fun b => lv.ownBlock = some b ∨ b = F) W W2 := by
      rw [hW2]
      exact Touch.setCell (O := fun b => lv.ownBlock = some b ∨ b = F) (p := ⟨F, 1, none⟩) (((Touch.refl _ W).alloc o).grown hg fun b hb => Or.inl (Or.inl hb)) (Or.inl (Or.inr rfl)) _
    refine ht.mono fun b hb => ?_
    rcases hb with hb | rfl
    · exact Or.inr (Or.inr (Or.inl hb))
    · exact Or.inl rfl
end
end Go.Proofs.YthpnnmkpbkbanaaDoor
