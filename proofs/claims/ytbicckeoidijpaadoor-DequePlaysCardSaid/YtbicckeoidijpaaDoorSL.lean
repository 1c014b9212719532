/-
  Slices whose cells are known by what holds of them, deep: numbers, truths, slices of slices; kept apart from some blocks.
-/
import Derived.Test.YtbicckeoidijpaaDoorTch
import Derived.Laws.OwnMore
namespace Go.Proofs.YtbicckeoidijpaaDoor
open Go.RowKit

/-- What may hold of a value, in a world, apart from some blocks. -/
abbrev Pd := (Nat → Prop) → World → Value → Prop
/-- It holds still where nothing has turned but those blocks and new ones; fewer blocks may be asked; it is of one cell. -/
structure Stb (P : Pd) : Prop where
  touch : ∀ {F O : Nat → Prop} {w w' : World} {u : Value}, Touch O w w' → (∀ b, b < w.heap.size → O b → F b) → P F w u → P F w' u
  more : ∀ {F F' : Nat → Prop} {w : World} {u : Value}, (∀ b, b < w.heap.size → F' b → F b) → P F w u → P F' w u
  one : ∀ {F : Nat → Prop} {w : World} {u : Value}, P F w u → u.oneCell' = true
def isInt (z : Int) : Pd := fun _ _ u => u = .int .i64 z
def isBool (b : Bool) : Pd := fun _ _ u => u = .bool b
theorem isInt_stb (z : Int) : Stb (isInt z) := ⟨fun _ _ h => h, fun _ h => h, fun {_ _ _} (h : _ = _) => by rw [h]; rfl⟩
theorem isBool_stb (b : Bool) : Stb (isBool b) := ⟨fun _ _ h => h, fun _ h => h, fun {_ _ _} (h : _ = _) => by rw [h]; rfl⟩
/-- A slice of n things, whose cells are so. -/
def SL (n : Nat) (Ps : List Pd) : Pd := fun F w v =>
  ∃ A c, v = .slice A n c ∧ (Ps = [] → A = none ∧ c = 0) ∧ (0 < Ps.length → ∃ b o, A = some ⟨b, o, none⟩ ∧ b < w.heap.size ∧ ¬ F b ∧ ∀ (i : Nat) P, Ps[i]? = some P → ∃ u, w.cell? ⟨b, o + i, none⟩ = some u ∧ P F w u)
theorem SL_stb {n : Nat} {Ps : List Pd} (h : ∀ P ∈ Ps, Stb P) : Stb (SL n Ps) := by
  refine ⟨fun {F O w w' u} ht hO hu => ?_, fun {F F' w u} hF hu => ?_, fun {F w u} hu => ?_⟩
  · obtain ⟨A, c, e, h0, h1⟩ := hu
    refine ⟨A, c, e, h0, fun hl => ?_⟩
    obtain ⟨b, o, e2, hb, hf, hc⟩ := h1 hl
    refine ⟨b, o, e2, Nat.lt_of_lt_of_le hb ht.size, hf, fun i P hP => ?_⟩
    obtain ⟨x, hx, hp⟩ := hc i P hP
    exact ⟨x, (ht.cell (p := ⟨b, o + i, none⟩) hb fun e => hf (hO b hb e)).trans hx, (h P (List.mem_of_getElem? hP)).touch ht hO hp⟩
  · obtain ⟨A, c, e, h0, h1⟩ := hu
    refine ⟨A, c, e, h0, fun hl => ?_⟩
    obtain ⟨b, o, e2, hb, hf, hc⟩ := h1 hl
    refine ⟨b, o, e2, hb, fun e => hf (hF b hb e), fun i P hP => ?_⟩
    obtain ⟨x, hx, hp⟩ := hc i P hP
    exact ⟨x, hx, (h P (List.mem_of_getElem? hP)).more hF hp⟩
  · obtain ⟨A, c, e, _⟩ := hu
    rw [e]; rfl
section
variable {P : Pd} {F F' O : Nat → Prop} {w w' : World} {u v : Value} {n : Nat} {Ps : List Pd}
theorem Stb.below (h : Stb P) (hb : Below w.heap.size w w') (hu : P F w u) : P F w' u :=
  h.touch (O := fun k => w.heap.size ≤ k) (Touch.of_below hb fun _ h _ => h) (fun _ h1 h2 => absurd h1 (Nat.not_lt_of_le h2)) hu
theorem Stb.put (h : Stb P) {p : Addr} (hp : F p.block) (z : Value) (hu : P F w u) : P F (w.setCell p z) u :=
  h.touch (O := fun k => k = p.block) ((Touch.refl (fun k => k = p.block) w).setCell (p := p) (Or.inl rfl) z) (fun _ _ e => by rw [e]; exact hp) hu
theorem Stb.drewN (h : Stb P) (i : Nat) (hu : P F w u) : P F (w.drewN i) u := h.below (below_drewN (Below.refl _ w) i) hu
theorem SL.form (h : SL n Ps F w v) : ∃ A c, v = .slice A n c := by
  obtain ⟨A, c, e, _⟩ := h
  exact ⟨A, c, e⟩
theorem SL.nil (n : Nat) (F : Nat → Prop) (w : World) : SL n [] F w (.slice none n 0) := ⟨none, 0, rfl, fun _ => ⟨rfl, rfl⟩, fun h => by simp at h⟩
/-- The cell at place i. -/
theorem SL.at_ {A : Option Addr} {m c : Nat} (h : SL n Ps F w (.slice A m c)) {i : Nat} (hi : Ps[i]? = some P) : ∃ b o, A = some ⟨b, o, none⟩ ∧ b < w.heap.size ∧ ¬ F b ∧ ∃ u, w.cell? ⟨b, o + i, none⟩ = some u ∧ P F w u := by
  obtain ⟨A0, c0, e, _, h1⟩ := h
  injection e with e1 _ e3
  subst e1 e3
  obtain ⟨b, o, e2, hb, hf, hc⟩ := h1 (by have := (List.getElem?_eq_some_iff.1 hi).1; omega)
  exact ⟨b, o, e2, hb, hf, hc i P hi⟩
/-- All its cells' values, in order. -/
theorem SL.vals {A : Option Addr} {m c : Nat} (h : SL n Ps F w (.slice A m c)) (hl : 0 < Ps.length) : ∃ b o, A = some ⟨b, o, none⟩ ∧ b < w.heap.size ∧ ¬ F b ∧
    ∃ us : List Value, us.length = Ps.length ∧ (∀ (j : Nat) u, us[j]? = some u → w.cell? ((⟨b, o, none⟩ : Addr).add j) = some u) ∧ ∀ (i : Nat) P, Ps[i]? = some P → ∃ u, us[i]? = some u ∧ P F w u := by
  obtain ⟨A0, c0, e, _, h1⟩ := h
  injection e with e1 _ e3
  subst e1 e3
  obtain ⟨b, o, e2, hb, hf, hc⟩ := h1 hl
  have hw : ∀ i, ∃ u : Value, i < Ps.length → w.cell? ⟨b, o + i, none⟩ = some u ∧ ∀ P, Ps[i]? = some P → P F w u := fun i => by
    by_cases hi : i < Ps.length
    · obtain ⟨u, hu, hp⟩ := hc i Ps[i] (List.getElem?_eq_getElem hi)
      exact ⟨u, fun _ => ⟨hu, fun Q hQ => by rw [List.getElem?_eq_getElem hi] at hQ; rw [← Option.some.inj hQ]; exact hp⟩⟩
    · exact ⟨.nilIface, fun h => absurd h hi⟩
  refine ⟨b, o, e2, hb, hf, (List.range Ps.length).map fun i => (hw i).choose, by simp, fun j u hj => ?_, fun i P hi => ?_⟩
  · have hjl : j < Ps.length := by have := (List.getElem?_eq_some_iff.1 hj).1; simpa using this
    rw [List.getElem?_map, List.getElem?_range hjl] at hj
    rw [Addr.add_lit, ← Option.some.inj hj]
    exact ((hw j).choose_spec hjl).1
  · have hil := (List.getElem?_eq_some_iff.1 hi).1
    exact ⟨(hw i).choose, by rw [List.getElem?_map, List.getElem?_range hil]; rfl, ((hw i).choose_spec hil).2 P hi⟩
/-- A row of one's own. -/
theorem SL.own {base e size : Nat} {us : List Value} (h : w.ownsRow base e size v n us) (hF : ∀ b, F b → b < base) (hl : us.length = Ps.length) (h0 : 0 < Ps.length) (hu : ∀ (i : Nat) P, Ps[i]? = some P → ∃ u, us[i]? = some u ∧ P F w u) : SL n Ps F w v := by
  have hlen := h.1
  rcases h.2 with ⟨rfl, hn⟩ | ⟨g, cap, cur, rfl, hb, hh, hnc, hcm, hsz, htk⟩
  · rw [hn, Nat.zero_mul] at hlen; omega
  · refine ⟨_, _, rfl, fun e => by rw [e] at h0; simp at h0, fun _ => ⟨g, 0, rfl, (h.lt g rfl).2, fun e => absurd (hF g e) (Nat.not_lt_of_le hb), fun i P hP => ?_⟩⟩
    obtain ⟨u, hu1, hu2⟩ := hu i P hP
    have hi : i < us.length := (List.getElem?_eq_some_iff.1 hu1).1
    have hB : Block w g e cur := hh
    refine ⟨u, ?_, hu2⟩
    rw [hB.cell, Nat.zero_add]
    have h2 : (cur.toList.take (n * size))[i]? = some u := by rw [htk]; exact hu1
    rw [List.getElem?_take, if_pos (by omega)] at h2
    simpa using h2
end
theorem ints_stb (zs : List Int) : ∀ P ∈ zs.map isInt, Stb P := fun P hP => by
  obtain ⟨z, _, rfl⟩ := List.mem_map.1 hP
  exact isInt_stb z
end Go.Proofs.YtbicckeoidijpaaDoor
