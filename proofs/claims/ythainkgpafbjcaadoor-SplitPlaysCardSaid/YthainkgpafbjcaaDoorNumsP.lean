/-
  Rows of numbers in blocks of which something holds.
-/
import Derived.Test.YthainkgpafbjcaaDoorRow
namespace Go.Proofs.YthainkgpafbjcaaDoor
open Go.RowKit

/-- The slice value v has the numbers zs, in blocks of which P holds. -/
def NumsP (w : World) (P : Nat → Prop) (v : Value) (zs : List Int) : Prop :=
  ∃ A c, v = .slice A zs.length c ∧ zs.length ≤ 9223372036854775807 ∧
    (0 < zs.length → ∃ b o, A = some ⟨b, o, none⟩ ∧ P b ∧ ∀ (i : Nat) z, zs[i]? = some z → w.cell? ⟨b, o + i, none⟩ = some (.int .i64 z))
/-- The slice value v has the rows ls, in blocks of which P holds. -/
def RwsP (w : World) (P : Nat → Prop) (v : Value) (ls : List (List Int)) : Prop :=
  ∃ A c, v = .slice A ls.length c ∧ ls.length ≤ 9223372036854775807 ∧
    (0 < ls.length → ∃ b o, A = some ⟨b, o, none⟩ ∧ P b ∧ ∀ (i : Nat) l, ls[i]? = some l → ∃ u, w.cell? ⟨b, o + i, none⟩ = some u ∧ NumsP w P u l)
theorem NumsP.keep {w w' : World} {P P' : Nat → Prop} {v : Value} {zs : List Int} (h : NumsP w P v zs) (hP : ∀ b, P b → P' b) (hk : ∀ p : Addr, P p.block → w'.cell? p = w.cell? p) : NumsP w' P' v zs := by
  obtain ⟨A, c, e, hl, h⟩ := h
  refine ⟨A, c, e, hl, fun h0 => ?_⟩
  obtain ⟨b, o, e1, hb, hc⟩ := h h0
  exact ⟨b, o, e1, hP b hb, fun i z hz => (hk _ hb).trans (hc i z hz)⟩
theorem RwsP.keep {w w' : World} {P P' : Nat → Prop} {v : Value} {ls : List (List Int)} (h : RwsP w P v ls) (hP : ∀ b, P b → P' b) (hk : ∀ p : Addr, P p.block → w'.cell? p = w.cell? p) : RwsP w' P' v ls := by
  obtain ⟨A, c, e, hl, h⟩ := h
  refine ⟨A, c, e, hl, fun h0 => ?_⟩
  obtain ⟨b, o, e1, hb, hc⟩ := h h0
  refine ⟨b, o, e1, hP b hb, fun i l hi => ?_⟩
  obtain ⟨u, h1, h2⟩ := hc i l hi
  exact ⟨u, (hk _ hb).trans h1, h2.keep hP hk⟩
theorem NumsP.nums {w : World} {P : Nat → Prop} {B : Nat} {v : Value} {zs : List Int} (h : NumsP w P v zs) (hP : ∀ b, P b → b < B) : Nums w B v zs := h.keep (P' := (· < B)) hP fun _ _ => rfl
theorem Nums.numsP {w : World} {P : Nat → Prop} {B : Nat} {v : Value} {zs : List Int} (h : Nums w B v zs) (hP : ∀ b, b < B → P b) : NumsP w P v zs := NumsP.keep (P := (· < B)) h hP fun _ _ => rfl
theorem RowAt.numsP {w : World} {P : Nat → Prop} {g c n : Nat} {ys : List Int} (h : RowAt w g ys) (hn : ys.length = n) (hm : n ≤ 9223372036854775807) (hg : P g) : NumsP w P (.slice (some ⟨g, 0, none⟩) n c) ys := by
  subst hn
  exact ⟨_, _, rfl, hm, fun _ => ⟨g, 0, rfl, hg, fun i z hz => by rw [Nat.zero_add]; exact (h i z hz).1⟩⟩

theorem RowAt.far {w : World} {g : Nat} {ys : List Int} (h : RowAt w g ys) {p : Addr} (hp : p.block ≠ g) (u : Value) : RowAt (w.setCell p u) g ys :=
  fun i z hz => ⟨(World.cell?_setCell_other _ _ _ _ (fun e => hp (by rw [e]))).trans (h i z hz).1, by rw [World.frozen?_setCell]; exact (h i z hz).2⟩
theorem nums_cells {w : World} {b o : Nat} {xs : List Int} (h : ∀ (i : Nat) z, xs[i]? = some z → w.cell? ⟨b, o + i, none⟩ = some (.int .i64 z)) :
    ∀ (j : Nat) u, (xs.map (Value.int .i64))[j]? = some u → w.cell? ((⟨b, o, none⟩ : Addr).add j) = some u := fun j u hu => by
  rw [List.getElem?_map] at hu
  cases hx : xs[j]? with
  | none => rw [hx] at hu; cases hu
  | some z =>
    rw [hx] at hu
    have hu : Value.int .i64 z = u := Option.some.inj hu
    subst hu
    have := h j z hx
    unfold Addr.add
    by_cases h0 : j = 0
    · subst h0; simpa using this
    · simpa [h0] using this

end Go.Proofs.YthainkgpafbjcaaDoor
