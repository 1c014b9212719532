/-
  Slices of numbers in memory that is kept apart from some blocks.
-/
import Derived.Test.YtegplglokaoemaaDoorRowsG
namespace Go.Proofs.YtegplglokaoemaaDoor
open Go.RowKit

/-- The slice v has the numbers zs, in a block that is none of F; with none of them it is nil. -/
def NF (F : Nat → Prop) (w : World) (v : Value) (zs : List Int) : Prop :=
  ∃ A c, v = .slice A zs.length c ∧ zs.length ≤ 9223372036854775807 ∧ (zs = [] → A = none ∧ c = 0) ∧
    (0 < zs.length → ∃ b o, A = some ⟨b, o, none⟩ ∧ b < w.heap.size ∧ ¬ F b ∧ ∀ (i : Nat) z, zs[i]? = some z → w.cell? ⟨b, o + i, none⟩ = some (.int .i64 z))
section
variable {F F' O : Nat → Prop} {w w' : World} {v : Value} {zs : List Int}
theorem NF.nums (h : NF F w v zs) : Nums w w.heap.size v zs := by
  obtain ⟨A, c, e, h1, _, h2⟩ := h
  refine ⟨A, c, e, h1, fun h0 => ?_⟩
  obtain ⟨b, o, e2, hb, _, hc⟩ := h2 h0
  exact ⟨b, o, e2, hb, hc⟩
theorem NF.touch (h : NF F w v zs) (ht : Touch O w w') (hO : ∀ b, b < w.heap.size → O b → F b) : NF F w' v zs := by
  obtain ⟨A, c, e, h1, h3, h2⟩ := h
  refine ⟨A, c, e, h1, h3, fun h0 => ?_⟩
  obtain ⟨b, o, e2, hb, hf, hc⟩ := h2 h0
  exact ⟨b, o, e2, Nat.lt_of_lt_of_le hb ht.size, hf, fun i z hz => (ht.cell (p := ⟨b, o + i, none⟩) hb fun e => hf (hO b hb e)).trans (hc i z hz)⟩
theorem NF.below (h : NF F w v zs) (hb : Below w.heap.size w w') : NF F w' v zs :=
  h.touch (O := fun k => w.heap.size ≤ k) (Touch.of_below hb fun _ h _ => h) fun _ h1 h2 => absurd h1 (Nat.not_lt_of_le h2)
theorem NF.drewN (h : NF F w v zs) (i : Nat) : NF F (w.drewN i) v zs := h
theorem NF.drew (h : NF F w v zs) : NF F w.drew v zs := h
theorem NF.put (h : NF F w v zs) {p : Addr} (hp : F p.block) (u : Value) : NF F (w.setCell p u) v zs :=
  h.touch (O := fun k => k = p.block) ((Touch.refl (fun k => k = p.block) w).setCell (p := p) (Or.inl rfl) u) fun _ _ e => by rw [e]; exact hp
theorem NF.alloc (h : NF F w v zs) (o : Obj) : NF F (w.alloc o) v zs := h.below ((Below.refl _ w).alloc (Nat.le_refl _) o)
theorem NF.more (h : NF F w v zs) (hF : ∀ b, b < w.heap.size → F' b → F b) : NF F' w v zs := by
  obtain ⟨A, c, e, h1, h3, h2⟩ := h
  refine ⟨A, c, e, h1, h3, fun h0 => ?_⟩
  obtain ⟨b, o, e2, hb, hf, hc⟩ := h2 h0
  exact ⟨b, o, e2, hb, fun e => hf (hF b hb e), hc⟩
theorem NF.form (h : NF F w v zs) : ∃ A c, v = .slice A zs.length c := by
  obtain ⟨A, c, e, _⟩ := h
  exact ⟨A, c, e⟩
theorem NF.nil (F : Nat → Prop) (w : World) : NF F w (.slice none 0 0) [] := ⟨none, 0, rfl, by simp, fun _ => ⟨rfl, rfl⟩, fun h => by simp at h⟩
theorem NF.own {base : Nat} (h : w.ownsRow base 3 1 v zs.length (zs.map (Value.int .i64))) (hF : ∀ b, F b → b < base) (hm : zs.length ≤ 9223372036854775807) (hne : zs ≠ []) : NF F w v zs := by
  rcases h.2 with ⟨rfl, h0⟩ | ⟨g, cap, cur, rfl, hb, hh, hnc, hcm, hsz, htk⟩
  · exact ⟨none, 0, by rw [h0], hm, fun _ => ⟨rfl, rfl⟩, fun hlt => by omega⟩
  · by_cases hz : zs = []
    · exact absurd hz hne
    · refine ⟨_, _, rfl, hm, fun e => absurd e hz, fun h0 => ⟨g, 0, rfl, (h.lt g rfl).2, fun e => absurd (hF g e) (Nat.not_lt_of_le hb), fun i z hzz => ?_⟩⟩
      have hB : Block w g 3 cur := hh
      rw [hB.cell]
      have hi : i < zs.length := (List.getElem?_eq_some_iff.1 hzz).1
      have h2 : (cur.toList.take (zs.length * 1))[i]? = some (.int .i64 z) := by rw [htk, List.getElem?_map, hzz]; rfl
      rw [List.getElem?_take, if_pos (by omega)] at h2
      simpa using h2
end
theorem NF.congr {F : Nat → Prop} {w : World} {v : Value} {m : Nat} {f f' : Nat → Int} (h : NF F w v (rowOf m f)) (hf : ∀ i, i < m → f' i = f i) : NF F w v (rowOf m f') := by rw [rowOf_congr hf]; exact h
theorem NF.formN {F : Nat → Prop} {w : World} {v : Value} {m : Nat} {f : Nat → Int} (h : NF F w v (rowOf m f)) : ∃ A c, v = .slice A m c := by
  obtain ⟨A, c, e⟩ := h.form
  rw [rowOf_len] at e
  exact ⟨A, c, e⟩
theorem NF.at_ {F : Nat → Prop} {w : World} {A : Option Addr} {n c m : Nat} {f : Nat → Int} (h : NF F w (.slice A n c) (rowOf m f)) {k : Nat} (hk : k < m) : ∃ b o, A = some ⟨b, o, none⟩ ∧ b < w.heap.size ∧ ¬ F b ∧ w.cell? ⟨b, o + k, none⟩ = some (.int .i64 (f k)) := by
  obtain ⟨A0, c0, e, _, _, h2⟩ := h
  injection e with e1 _ e3
  subst e1 e3
  obtain ⟨b, o, e1, hb, hf, hc⟩ := h2 (by rw [rowOf_len]; omega)
  exact ⟨b, o, e1, hb, hf, hc k _ (rowOf_get hk)⟩
section
variable {F F' O : Nat → Prop} {w w' : World} {v : Value} {zs : List Int}
theorem NF.row {h n : Nat} {f : Nat → Int} (k : IRow w h n f) (hF : ¬ F h) (h1 : 1 ≤ n) (hm : n ≤ 1000) : NF F w (.slice (some ⟨h, 0, none⟩) n n) (rowOf n f) := by
  refine ⟨_, n, by rw [rowOf_len], by rw [rowOf_len]; omega, fun e => ?_, fun _ => ⟨h, 0, rfl, k.lt, hF, fun i z hz => ?_⟩⟩
  · have := rowOf_len n f; rw [e] at this; simp at this; omega
  · have hi : i < n := by have := (List.getElem?_eq_some_iff.1 hz).1; rwa [rowOf_len] at this
    rw [rowOf_get hi] at hz
    rw [Nat.zero_add, k.cell hi, Option.some.inj hz]
end
end Go.Proofs.YtegplglokaoemaaDoor
