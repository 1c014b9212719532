/-
  The reference of package snap: slices of words.
-/
import Derived.Test.YtnplhjbbkccdnaaDoorSnpRef2
import Derived.Test.YtnplhjbbkccdnaaDoorSnpMath
namespace Go.Proofs.YtnplhjbbkccdnaaDoor.Snap
open Go.RowKit

def wp3 (n : Nat) (x : SW) : List Pd := [isInt ((x.v : Nat) : Int), isInt ((x.t : Nat) : Int), nm n fun r => ((x.s r : Nat) : Int)]
def wl (n m : Nat) (f : Nat → SW) : List Pd := (List.range m).flatMap fun i => wp3 n (f i)
/-- A slice of m words, each with what its hand saw of n. -/
def wds (n m : Nat) (f : Nat → SW) : Pd := SL m (wl n m f)
theorem wl_succ (n m : Nat) (f : Nat → SW) : wl n (m + 1) f = wl n m f ++ wp3 n (f m) := by
  unfold wl
  rw [List.range_succ, List.flatMap_append, List.flatMap_cons, List.flatMap_nil, List.append_nil]
theorem wl_len (n m : Nat) (f : Nat → SW) : (wl n m f).length = m * 3 := by
  induction m with
  | zero => rfl
  | succ m ih => rw [wl_succ, List.length_append, ih]; show m * 3 + 3 = _; omega
theorem wl_congr {n m : Nat} {f g : Nat → SW} (h : ∀ i, i < m → f i = g i) : wl n m f = wl n m g := by
  induction m with
  | zero => rfl
  | succ m ih => rw [wl_succ, wl_succ, ih fun i hi => h i (by omega), h m (by omega)]
theorem wl_put {n m : Nat} {f : Nat → SW} {x : SW} : wl n (m + 1) (nput f m x) = wl n m f ++ wp3 n x := by
  rw [wl_succ, nput_same, wl_congr fun i hi => nput_other (by omega)]
theorem wp3_stb (n : Nat) (x : SW) : ∀ R ∈ wp3 n x, Stb R := fun R hR => by
  unfold wp3 at hR
  simp only [List.mem_cons, List.not_mem_nil, or_false] at hR
  rcases hR with rfl | rfl | rfl
  · exact isInt_stb _
  · exact isInt_stb _
  · exact nm_stb _ _
theorem wl_stb (n m : Nat) (f : Nat → SW) : ∀ R ∈ wl n m f, Stb R := fun R hR => by
  obtain ⟨i, _, h⟩ := List.mem_flatMap.1 hR
  exact wp3_stb _ _ R h
theorem wds_stb (n m : Nat) (f : Nat → SW) : Stb (wds n m f) := SL_stb (wl_stb n m f)
theorem wds_zero (n : Nat) (f : Nat → SW) : wds n 0 f = SL 0 [] := rfl
theorem wl_get {n : Nat} {f : Nat → SW} : ∀ {m i : Nat}, i < m → (wl n m f)[i * 3]? = some (isInt (((f i).v : Nat) : Int)) ∧ (wl n m f)[i * 3 + 1]? = some (isInt (((f i).t : Nat) : Int)) ∧ (wl n m f)[i * 3 + 2]? = some (nm n fun r => (((f i).s r : Nat) : Int)) := by
  intro m
  induction m with
  | zero => intro i hi; omega
  | succ m ih =>
    intro i hi
    rw [wl_succ]
    by_cases e : i = m
    · subst e
      have h := wl_len n i f
      refine ⟨?_, ?_, ?_⟩
      · rw [List.getElem?_append_right (by omega), h, Nat.sub_self]; rfl
      · rw [List.getElem?_append_right (by omega), h, show i * 3 + 1 - i * 3 = 1 by omega]; rfl
      · rw [List.getElem?_append_right (by omega), h, show i * 3 + 2 - i * 3 = 2 by omega]; rfl
    · obtain ⟨h1, h2, h3⟩ := ih (i := i) (by omega)
      have h := wl_len n m f
      exact ⟨by rw [List.getElem?_append_left (by omega)]; exact h1, by rw [List.getElem?_append_left (by omega)]; exact h2, by rw [List.getElem?_append_left (by omega)]; exact h3⟩
theorem nm_form {F : Nat → Prop} {w : World} {n : Nat} {f : Nat → Int} {u : Value} (h : nm n f F w u) : ∃ A c, u = .slice A n c := SL.form h
theorem wds_at {F : Nat → Prop} {w : World} {n m M c : Nat} {f : Nat → SW} {A : Option Addr} (h : wds n m f F w (.slice A M c)) {i : Nat} (hi : i < m) : ∃ b o, A = some ⟨b, o, none⟩ ∧ b < w.heap.size ∧ ¬ F b ∧
    w.cell? ⟨b, o + i * 3, none⟩ = some (.int .i64 (((f i).v : Nat) : Int)) ∧ w.cell? ⟨b, o + i * 3 + 1, none⟩ = some (.int .i64 (((f i).t : Nat) : Int)) ∧ ∃ As cs, w.cell? ⟨b, o + i * 3 + 2, none⟩ = some (.slice As n cs) ∧ nm n (fun r => (((f i).s r : Nat) : Int)) F w (.slice As n cs) := by
  obtain ⟨g1, g2, g3⟩ := wl_get (n := n) (f := f) hi
  obtain ⟨b, o, e, hb, hf, u, hu, rfl⟩ := SL.at_ h g1
  obtain ⟨b2, o2, e2, _, _, u2, hu2, rfl⟩ := SL.at_ h g2
  obtain ⟨b3, o3, e3, _, _, u3, hu3, h3⟩ := SL.at_ h g3
  rw [e] at e2 e3
  injection e2 with e2
  injection e2 with e2 e4 _
  subst e2 e4
  injection e3 with e3
  injection e3 with e3 e4 _
  subst e3 e4
  obtain ⟨As, cs, rfl⟩ := nm_form h3
  exact ⟨b, o, e, hb, hf, hu, by rw [Nat.add_assoc]; exact hu2, As, cs, by rw [Nat.add_assoc]; exact hu3, h3⟩
theorem nm_zero_form {F : Nat → Prop} {w : World} {v : Value} (h : SL 0 [] F w v) : v = .slice none 0 0 := by
  obtain ⟨A, c, rfl, h0, _⟩ := h
  obtain ⟨rfl, rfl⟩ := h0 rfl
  rfl
/-- behind: one word more. -/
theorem behind_w {F : Nat → Prop} {w : World} {n k : Nat} {f : Nat → SW} {x : SW} {v : Value} {Ax : Option Addr} {cx : Nat} (hF : ∀ b, F b → b < w.heap.size) (h : wds n k f F w v) (h8 : k ≤ 1000) (hx : nm n (fun r => ((x.s r : Nat) : Int)) F w (.slice Ax n cx)) :
    Calls Tryd.prog 31 #[v, .agg #[.int .i64 ((x.v : Nat) : Int), .int .i64 ((x.t : Nat) : Int), .slice Ax n cx]] w fun e w' => ∃ A c, e = .returned (.slice A (k + 1) c) ∧ wds n (k + 1) (nput f k x) F w' (.slice A (k + 1) c) ∧ Below w.heap.size w w' :=
  (behind_sl w hF (wl_stb n k f) (nm_stb _ _) h (wl_len n k f) h8 hx fun e => by subst e; exact nm_zero_form h).mono fun _ _ ⟨A, c, he, hn, hb⟩ => ⟨A, c, he, by
    unfold wds
    rw [wl_put]
    exact hn, hb⟩
/-- Any slice. -/
def anyS : Pd := fun _ _ u => ∃ A m c, u = .slice A m c
theorem anyS_stb : Stb anyS := ⟨fun _ _ h => h, fun _ h => h, fun {_ _ _} ⟨_, _, _, h⟩ => by rw [h]; rfl⟩
end Go.Proofs.YtnplhjbbkccdnaaDoor.Snap
