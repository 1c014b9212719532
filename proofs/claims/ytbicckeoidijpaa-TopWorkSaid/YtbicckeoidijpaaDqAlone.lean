/-
  Chapter 18: who works alone: what a whole push, and a whole pop, come to, step by step.
-/
import Derived.Test.YtbicckeoidijpaaDqLine
namespace Go.Proofs.Ytbicckeoidijpaa
/-- Nothing is under way; what is in is that, the one that was pushed last at the end. -/
structure AI (s : DV) (l : List Int) : Prop where
  a : s.a 0 = 0
  B : s.B = (s.T : Int) + l.length
  le : l.length ≤ 8
  pl : ∀ (j : Nat) z, l[j]? = some z → s.pl ((s.T + j) % 8) = z
theorem AI.new : AI dvnew [] := ⟨rfl, rfl, Nat.zero_le _, fun j z h => by simp at h⟩
/-- N steps, of which the last one ends it, and tells X. -/
structure VR (S : Nat → DV) (N : Nat) (X : Int) : Prop where
  next : ∀ j, j < N → S (j + 1) = dvstp (S j) 0
  line : ∀ j, j < N → (S j).a 0 ≠ 0
  fin : ∀ j, j < N → dvfin (S j) 0 = decide (j + 1 = N)
  told : ∀ j, j < N → dvtold (S j) 0 = if j + 1 = N then X else 0
def vit (s : DV) : Nat → DV
  | 0 => s
  | j + 1 => dvstp (vit s j) 0
section
variable {s : DV} {l : List Int} {x : Int}
theorem a_to (s : DV) (p l : Nat) : (dvto s p l).a p = l := dput_same s.a p l
theorem beg_a (s : DV) (p l : Nat) (x : Int) : (dvbeg s p l x).a p = l := dput_same s.a p l
theorem beg_v (s : DV) (p l : Nat) (x : Int) : (dvbeg s p l x).v p = x := dput_same s.v p x
theorem alone_full (h : AI s l) (h8 : l.length = 8) (x : Int) : ∃ S : Nat → DV, S 0 = dvbeg s 0 1 x ∧ VR S 1 (-2) ∧ AI (S 1) l := by
  have a0 : (dvbeg s 0 1 x).a 0 = 1 := beg_a _ _ _ _
  have hf : ((dvbeg s 0 1 x).T : Int) + 8 ≤ (dvbeg s 0 1 x).B := by
    have hB := h.B
    have e1 : (dvbeg s 0 1 x).T = s.T := rfl
    have e2 : (dvbeg s 0 1 x).B = s.B := rfl
    omega
  obtain ⟨e1, e2, e3⟩ := v1y a0 hf
  refine ⟨vit (dvbeg s 0 1 x), rfl, ⟨fun j _ => rfl, fun j hj => ?_, fun j hj => ?_, fun j hj => ?_⟩, ?_⟩
  · obtain rfl : j = 0 := by omega
    show (dvbeg s 0 1 x).a 0 ≠ 0
    omega
  · obtain rfl : j = 0 := by omega
    exact e2
  · obtain rfl : j = 0 := by omega
    exact e3
  · show AI (dvstp (dvbeg s 0 1 x) 0) l
    rw [e1]
    exact ⟨a_to _ _ _, h.B, h.le, h.pl⟩
theorem alone_push (h : AI s l) (h8 : l.length < 8) (x : Int) : ∃ S : Nat → DV, S 0 = dvbeg s 0 1 x ∧ VR S 3 (-1) ∧ AI (S 3) (l ++ [x]) := by
  have hB := h.B
  obtain ⟨s0, f0⟩ : ∃ q, q = dvbeg s 0 1 x := ⟨_, rfl⟩
  have b0 : s0.a 0 = 1 ∧ s0.T = s.T ∧ s0.B = s.B ∧ s0.pl = s.pl ∧ s0.v 0 = x := by rw [f0]; exact ⟨beg_a _ _ _ _, rfl, rfl, rfl, beg_v _ _ _ _⟩
  obtain ⟨e1, e2, e3⟩ := v1n b0.1 (by omega)
  obtain ⟨s1, f1⟩ : ∃ q, q = dvstp s0 0 := ⟨_, rfl⟩
  have b1 : s1.a 0 = 2 ∧ s1.T = s.T ∧ s1.B = s.B ∧ s1.pl = s.pl ∧ s1.v 0 = x := by rw [f1, e1]; exact ⟨a_to _ _ _, b0.2⟩
  obtain ⟨g1, g2, g3⟩ := v2 b1.1
  obtain ⟨s2, f2⟩ : ∃ q, q = dvstp s1 0 := ⟨_, rfl⟩
  have b2 : s2.a 0 = 3 ∧ s2.T = s.T ∧ s2.B = s.B ∧ s2.pl = dput s.pl (s.B.toNat % 8) x := by
    rw [f2, g1]
    refine ⟨a_to _ _ _, b1.2.1, b1.2.2.1, ?_⟩
    show dput s1.pl (s1.B.toNat % 8) (s1.v 0) = _
    rw [b1.2.2.1, b1.2.2.2.1, b1.2.2.2.2]
  obtain ⟨k1, k2, k3⟩ := v3 b2.1
  have S0 : vit s0 0 = s0 := rfl
  have S1 : vit s0 1 = s1 := f1.symm
  have S2 : vit s0 2 = s2 := by rw [f2, ← S1]; rfl
  have S3 : vit s0 3 = dvstp s2 0 := by rw [← S2]; rfl
  have c : ∀ j, j < 3 → j = 0 ∨ j = 1 ∨ j = 2 := fun j h => by omega
  refine ⟨vit s0, f0, ⟨fun j _ => rfl, fun j hj => ?_, fun j hj => ?_, fun j hj => ?_⟩, ?_⟩
  · rcases c j hj with rfl | rfl | rfl
    · rw [S0]; omega
    · rw [S1]; omega
    · rw [S2]; omega
  · rcases c j hj with rfl | rfl | rfl
    · rw [S0]; exact e2
    · rw [S1]; exact g2
    · rw [S2]; exact k2
  · rcases c j hj with rfl | rfl | rfl
    · rw [S0]; exact e3
    · rw [S1]; exact g3
    · rw [S2]; exact k3
  · rw [S3, k1]
    refine ⟨a_to _ _ _, ?_, by simp; omega, fun j z hz => ?_⟩
    · show s2.B + 1 = (s2.T : Int) + ((l ++ [x]).length : Int)
      rw [b2.2.1, b2.2.2.1, List.length_append]
      simp; omega
    · show s2.pl ((s2.T + j) % 8) = z
      rw [b2.2.1, b2.2.2.2]
      have hn : s.B.toNat = s.T + l.length := by omega
      rw [hn]
      by_cases e : j = l.length
      · subst e
        rw [dput_same]
        simpa using hz
      · have hj : j < l.length := by
          have := (List.getElem?_eq_some_iff.1 hz).1
          simp at this
          omega
        rw [dput_other (by omega)]
        rw [List.getElem?_append_left hj] at hz
        exact h.pl j z hz
theorem alone_pop (h : AI s (l ++ [x])) (h0 : l ≠ []) (y : Int) : ∃ S : Nat → DV, S 0 = dvbeg s 0 4 y ∧ VR S 2 x ∧ AI (S 2) l := by
  have hB := h.B
  have hle := h.le
  rw [List.length_append] at hB hle
  have hl : 0 < l.length := List.length_pos_iff.2 h0
  have hB : s.B = (s.T : Int) + l.length + 1 := by simp at hB; omega
  obtain ⟨s0, f0⟩ : ∃ q, q = dvbeg s 0 4 y := ⟨_, rfl⟩
  have b0 : s0.a 0 = 4 ∧ s0.T = s.T ∧ s0.B = s.B ∧ s0.pl = s.pl := by rw [f0]; exact ⟨beg_a _ _ _ _, rfl, rfl, rfl⟩
  obtain ⟨e1, e2, e3⟩ := v4 b0.1
  obtain ⟨s1, f1⟩ : ∃ q, q = dvstp s0 0 := ⟨_, rfl⟩
  have b1 : s1.a 0 = 5 ∧ s1.T = s.T ∧ s1.B = s.B - 1 ∧ s1.pl = s.pl ∧ s1.b 0 = s.B - 1 := by
    rw [f1, e1]
    refine ⟨a_to _ _ _, b0.2.1, ?_, b0.2.2.2, ?_⟩
    · show s0.B - 1 = _
      rw [b0.2.2.1]
    · show dput s0.b 0 (s0.B - 1) 0 = _
      rw [dput_same, b0.2.2.1]
  obtain ⟨g1, g2, g3⟩ := v5y b1.1 (by omega)
  have hx : s1.pl ((s1.b 0).toNat % 8) = x := by
    rw [b1.2.2.2.1, b1.2.2.2.2, show (s.B - 1).toNat = s.T + l.length by omega]
    exact h.pl l.length x (by simp)
  rw [hx] at g3
  have S0 : vit s0 0 = s0 := rfl
  have S1 : vit s0 1 = s1 := f1.symm
  have S2 : vit s0 2 = dvstp s1 0 := by rw [← S1]; rfl
  have c : ∀ j, j < 2 → j = 0 ∨ j = 1 := fun j h => by omega
  refine ⟨vit s0, f0, ⟨fun j _ => rfl, fun j hj => ?_, fun j hj => ?_, fun j hj => ?_⟩, ?_⟩
  · rcases c j hj with rfl | rfl
    · rw [S0]; omega
    · rw [S1]; omega
  · rcases c j hj with rfl | rfl
    · rw [S0]; exact e2
    · rw [S1]; exact g2
  · rcases c j hj with rfl | rfl
    · rw [S0]; exact e3
    · rw [S1]; exact g3
  · rw [S2, g1]
    refine ⟨a_to _ _ _, ?_, by simp at hle; omega, fun j z hz => ?_⟩
    · show s1.B = (s1.T : Int) + _
      rw [b1.2.1, b1.2.2.1]; omega
    · show s1.pl ((s1.T + j) % 8) = z
      rw [b1.2.1, b1.2.2.2.1]
      have hj := (List.getElem?_eq_some_iff.1 hz).1
      exact h.pl j z (by rw [List.getElem?_append_left hj]; exact hz)
theorem alone_last (h : AI s [x]) (y : Int) : ∃ S : Nat → DV, S 0 = dvbeg s 0 4 y ∧ VR S 4 x ∧ AI (S 4) [] := by
  have hB : s.B = (s.T : Int) + 1 := h.B
  obtain ⟨s0, f0⟩ : ∃ q, q = dvbeg s 0 4 y := ⟨_, rfl⟩
  have b0 : s0.a 0 = 4 ∧ s0.T = s.T ∧ s0.B = s.B ∧ s0.pl = s.pl := by rw [f0]; exact ⟨beg_a _ _ _ _, rfl, rfl, rfl⟩
  obtain ⟨e1, e2, e3⟩ := v4 b0.1
  obtain ⟨s1, f1⟩ : ∃ q, q = dvstp s0 0 := ⟨_, rfl⟩
  have b1 : s1.a 0 = 5 ∧ s1.T = s.T ∧ s1.pl = s.pl ∧ s1.b 0 = (s.T : Int) := by
    rw [f1, e1]
    refine ⟨a_to _ _ _, b0.2.1, b0.2.2.2, ?_⟩
    show dput s0.b 0 (s0.B - 1) 0 = _
    rw [dput_same, b0.2.2.1]; omega
  obtain ⟨g1, g2, g3⟩ := v5e b1.1 (by omega) (by omega)
  obtain ⟨s2, f2⟩ : ∃ q, q = dvstp s1 0 := ⟨_, rfl⟩
  have b2 : s2.a 0 = 7 ∧ s2.T = s.T ∧ s2.pl = s.pl ∧ s2.b 0 = (s.T : Int) ∧ s2.t 0 = s.T := by
    rw [f2, g1]
    refine ⟨a_to _ _ _, b1.2.1, b1.2.2.1, b1.2.2.2, ?_⟩
    show dput s1.t 0 s1.T 0 = _
    rw [dput_same, b1.2.1]
  obtain ⟨k1, k2, k3⟩ := v7y b2.1 (by omega)
  obtain ⟨s3, f3⟩ : ∃ q, q = dvstp s2 0 := ⟨_, rfl⟩
  have hx : s2.pl ((s2.b 0).toNat % 8) = x := by
    rw [b2.2.2.1, b2.2.2.2.1]
    exact h.pl 0 x rfl
  have b3 : s3.a 0 = 8 ∧ s3.T = s.T + 1 ∧ s3.t 0 = s.T ∧ s3.v 0 = x := by
    rw [f3, k1]
    refine ⟨a_to _ _ _, ?_, b2.2.2.2.2, ?_⟩
    · show s2.t 0 + 1 = _
      rw [b2.2.2.2.2]
    · exact (dput_same s2.v 0 _).trans hx
  obtain ⟨m1, m2, m3⟩ := v8 b3.1
  rw [b3.2.2.2] at m3
  have S0 : vit s0 0 = s0 := rfl
  have S1 : vit s0 1 = s1 := f1.symm
  have S2 : vit s0 2 = s2 := by rw [f2, ← S1]; rfl
  have S3 : vit s0 3 = s3 := by rw [f3, ← S2]; rfl
  have S4 : vit s0 4 = dvstp s3 0 := by rw [← S3]; rfl
  have c : ∀ j, j < 4 → j = 0 ∨ j = 1 ∨ j = 2 ∨ j = 3 := fun j h => by omega
  refine ⟨vit s0, f0, ⟨fun j _ => rfl, fun j hj => ?_, fun j hj => ?_, fun j hj => ?_⟩, ?_⟩
  · rcases c j hj with rfl | rfl | rfl | rfl
    · rw [S0]; omega
    · rw [S1]; omega
    · rw [S2]; omega
    · rw [S3]; omega
  · rcases c j hj with rfl | rfl | rfl | rfl
    · rw [S0]; exact e2
    · rw [S1]; exact g2
    · rw [S2]; exact k2
    · rw [S3]; exact m2
  · rcases c j hj with rfl | rfl | rfl | rfl
    · rw [S0]; exact e3
    · rw [S1]; exact g3
    · rw [S2]; exact k3
    · rw [S3]; exact m3
  · rw [S4, m1]
    refine ⟨a_to _ _ _, ?_, Nat.zero_le _, fun j z hz => by simp at hz⟩
    show (s3.t 0 : Int) + 1 = (s3.T : Int) + 0
    rw [b3.2.1, b3.2.2.1]; omega
theorem alone_none (h : AI s []) (y : Int) : ∃ S : Nat → DV, S 0 = dvbeg s 0 4 y ∧ VR S 3 (-1) ∧ AI (S 3) [] := by
  have hB : s.B = (s.T : Int) + 0 := h.B
  obtain ⟨s0, f0⟩ : ∃ q, q = dvbeg s 0 4 y := ⟨_, rfl⟩
  have b0 : s0.a 0 = 4 ∧ s0.T = s.T ∧ s0.B = s.B := by rw [f0]; exact ⟨beg_a _ _ _ _, rfl, rfl⟩
  obtain ⟨e1, e2, e3⟩ := v4 b0.1
  obtain ⟨s1, f1⟩ : ∃ q, q = dvstp s0 0 := ⟨_, rfl⟩
  have b1 : s1.a 0 = 5 ∧ s1.T = s.T ∧ s1.b 0 = (s.T : Int) - 1 := by
    rw [f1, e1]
    refine ⟨a_to _ _ _, b0.2.1, ?_⟩
    show dput s0.b 0 (s0.B - 1) 0 = _
    rw [dput_same, b0.2.2]; omega
  obtain ⟨g1, g2, g3⟩ := v5n b1.1 (by omega) (by omega)
  obtain ⟨s2, f2⟩ : ∃ q, q = dvstp s1 0 := ⟨_, rfl⟩
  have b2 : s2.a 0 = 6 ∧ s2.T = s.T ∧ s2.t 0 = s.T := by
    rw [f2, g1]
    refine ⟨a_to _ _ _, b1.2.1, ?_⟩
    show dput s1.t 0 s1.T 0 = _
    rw [dput_same, b1.2.1]
  obtain ⟨k1, k2, k3⟩ := v6 b2.1
  have S0 : vit s0 0 = s0 := rfl
  have S1 : vit s0 1 = s1 := f1.symm
  have S2 : vit s0 2 = s2 := by rw [f2, ← S1]; rfl
  have S3 : vit s0 3 = dvstp s2 0 := by rw [← S2]; rfl
  have c : ∀ j, j < 3 → j = 0 ∨ j = 1 ∨ j = 2 := fun j h => by omega
  refine ⟨vit s0, f0, ⟨fun j _ => rfl, fun j hj => ?_, fun j hj => ?_, fun j hj => ?_⟩, ?_⟩
  · rcases c j hj with rfl | rfl | rfl
    · rw [S0]; omega
    · rw [S1]; omega
    · rw [S2]; omega
  · rcases c j hj with rfl | rfl | rfl
    · rw [S0]; exact e2
    · rw [S1]; exact g2
    · rw [S2]; exact k2
  · rcases c j hj with rfl | rfl | rfl
    · rw [S0]; exact e3
    · rw [S1]; exact g3
    · rw [S2]; exact k3
  · rw [S3, k1]
    refine ⟨a_to _ _ _, ?_, Nat.zero_le _, fun j z hz => by simp at hz⟩
    show (s2.t 0 : Int) = (s2.T : Int) + 0
    rw [b2.2.1, b2.2.2]; omega
end
end Go.Proofs.Ytbicckeoidijpaa
