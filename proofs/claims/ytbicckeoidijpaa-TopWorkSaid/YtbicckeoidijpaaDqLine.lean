/-
  Chapter 18: each line of the document's machine, alone.
-/
import Derived.Test.YtbicckeoidijpaaDqPlain
namespace Go.Proofs.Ytbicckeoidijpaa
section
variable {s : DV} {p : Nat}
theorem v1y (h : s.a p = 1) (hf : (s.T : Int) + 8 ≤ s.B) : dvstp s p = dvto s p 0 ∧ dvfin s p = true ∧ dvtold s p = -2 := by
  refine ⟨?_, ?_, ?_⟩
  · unfold dvstp; rw [if_pos h, if_pos hf]
  · unfold dvfin; rw [if_pos h]; exact decide_eq_true hf
  · unfold dvtold; rw [if_pos h, if_pos hf]
theorem v1n (h : s.a p = 1) (hf : ¬ (s.T : Int) + 8 ≤ s.B) : dvstp s p = dvto s p 2 ∧ dvfin s p = false ∧ dvtold s p = 0 := by
  refine ⟨?_, ?_, ?_⟩
  · unfold dvstp; rw [if_pos h, if_neg hf]
  · unfold dvfin; rw [if_pos h]; exact decide_eq_false hf
  · unfold dvtold; rw [if_pos h, if_neg hf]
theorem v2 (h : s.a p = 2)  : dvstp s p = dvto { s with pl := dput s.pl (s.B.toNat % 8) (s.v p) } p 3 ∧ dvfin s p = false ∧ dvtold s p = 0 := by
  refine ⟨?_, ?_, ?_⟩
  · unfold dvstp; rw [if_neg (show ¬ s.a p = 1 by omega), if_pos h]
  · unfold dvfin; rw [if_neg (show ¬ s.a p = 1 by omega), if_neg (show ¬ s.a p = 3 by omega), if_neg (show ¬ s.a p = 5 by omega), if_neg (show ¬ s.a p = 6 by omega), if_neg (show ¬ s.a p = 8 by omega), if_neg (show ¬ s.a p = 10 by omega), if_neg (show ¬ s.a p = 12 by omega)]
  · unfold dvtold; rw [if_neg (show ¬ s.a p = 1 by omega), if_neg (show ¬ s.a p = 3 by omega), if_neg (show ¬ s.a p = 5 by omega), if_neg (show ¬ s.a p = 6 by omega), if_neg (show ¬ s.a p = 8 by omega), if_neg (show ¬ s.a p = 10 by omega), if_neg (show ¬ s.a p = 12 by omega)]
theorem v3 (h : s.a p = 3)  : dvstp s p = dvto { s with B := s.B + 1 } p 0 ∧ dvfin s p = true ∧ dvtold s p = -1 := by
  refine ⟨?_, ?_, ?_⟩
  · unfold dvstp; rw [if_neg (show ¬ s.a p = 1 by omega), if_neg (show ¬ s.a p = 2 by omega), if_pos h]
  · unfold dvfin; rw [if_neg (show ¬ s.a p = 1 by omega), if_pos h]
  · unfold dvtold; rw [if_neg (show ¬ s.a p = 1 by omega), if_pos h]
theorem v4 (h : s.a p = 4)  : dvstp s p = dvto { s with B := s.B - 1, b := dput s.b p (s.B - 1) } p 5 ∧ dvfin s p = false ∧ dvtold s p = 0 := by
  refine ⟨?_, ?_, ?_⟩
  · unfold dvstp; rw [if_neg (show ¬ s.a p = 1 by omega), if_neg (show ¬ s.a p = 2 by omega), if_neg (show ¬ s.a p = 3 by omega), if_pos h]
  · unfold dvfin; rw [if_neg (show ¬ s.a p = 1 by omega), if_neg (show ¬ s.a p = 3 by omega), if_neg (show ¬ s.a p = 5 by omega), if_neg (show ¬ s.a p = 6 by omega), if_neg (show ¬ s.a p = 8 by omega), if_neg (show ¬ s.a p = 10 by omega), if_neg (show ¬ s.a p = 12 by omega)]
  · unfold dvtold; rw [if_neg (show ¬ s.a p = 1 by omega), if_neg (show ¬ s.a p = 3 by omega), if_neg (show ¬ s.a p = 5 by omega), if_neg (show ¬ s.a p = 6 by omega), if_neg (show ¬ s.a p = 8 by omega), if_neg (show ¬ s.a p = 10 by omega), if_neg (show ¬ s.a p = 12 by omega)]
theorem v5y (h : s.a p = 5) (hf : (s.T : Int) < s.b p) : dvstp s p = dvto { s with t := dput s.t p s.T } p 0 ∧ dvfin s p = true ∧ dvtold s p = s.pl ((s.b p).toNat % 8) := by
  refine ⟨?_, ?_, ?_⟩
  · unfold dvstp; rw [if_neg (show ¬ s.a p = 1 by omega), if_neg (show ¬ s.a p = 2 by omega), if_neg (show ¬ s.a p = 3 by omega), if_neg (show ¬ s.a p = 4 by omega), if_pos h, if_pos hf]
  · unfold dvfin; rw [if_neg (show ¬ s.a p = 1 by omega), if_neg (show ¬ s.a p = 3 by omega), if_pos h]; exact decide_eq_true hf
  · unfold dvtold; rw [if_neg (show ¬ s.a p = 1 by omega), if_neg (show ¬ s.a p = 3 by omega), if_pos h, if_pos hf]
theorem v5e (h : s.a p = 5) (hf : ¬ (s.T : Int) < s.b p) (he : s.b p = s.T) : dvstp s p = dvto { s with t := dput s.t p s.T } p 7 ∧ dvfin s p = false ∧ dvtold s p = 0 := by
  refine ⟨?_, ?_, ?_⟩
  · unfold dvstp; rw [if_neg (show ¬ s.a p = 1 by omega), if_neg (show ¬ s.a p = 2 by omega), if_neg (show ¬ s.a p = 3 by omega), if_neg (show ¬ s.a p = 4 by omega), if_pos h, if_neg hf, if_pos he]
  · unfold dvfin; rw [if_neg (show ¬ s.a p = 1 by omega), if_neg (show ¬ s.a p = 3 by omega), if_pos h]; exact decide_eq_false hf
  · unfold dvtold; rw [if_neg (show ¬ s.a p = 1 by omega), if_neg (show ¬ s.a p = 3 by omega), if_pos h, if_neg hf]
theorem v5n (h : s.a p = 5) (hf : ¬ (s.T : Int) < s.b p) (he : ¬ s.b p = s.T) : dvstp s p = dvto { s with t := dput s.t p s.T } p 6 ∧ dvfin s p = false ∧ dvtold s p = 0 := by
  refine ⟨?_, ?_, ?_⟩
  · unfold dvstp; rw [if_neg (show ¬ s.a p = 1 by omega), if_neg (show ¬ s.a p = 2 by omega), if_neg (show ¬ s.a p = 3 by omega), if_neg (show ¬ s.a p = 4 by omega), if_pos h, if_neg hf, if_neg he]
  · unfold dvfin; rw [if_neg (show ¬ s.a p = 1 by omega), if_neg (show ¬ s.a p = 3 by omega), if_pos h]; exact decide_eq_false hf
  · unfold dvtold; rw [if_neg (show ¬ s.a p = 1 by omega), if_neg (show ¬ s.a p = 3 by omega), if_pos h, if_neg hf]
theorem v6 (h : s.a p = 6)  : dvstp s p = dvto { s with B := s.t p } p 0 ∧ dvfin s p = true ∧ dvtold s p = -1 := by
  refine ⟨?_, ?_, ?_⟩
  · unfold dvstp; rw [if_neg (show ¬ s.a p = 1 by omega), if_neg (show ¬ s.a p = 2 by omega), if_neg (show ¬ s.a p = 3 by omega), if_neg (show ¬ s.a p = 4 by omega), if_neg (show ¬ s.a p = 5 by omega), if_pos h]
  · unfold dvfin; rw [if_neg (show ¬ s.a p = 1 by omega), if_neg (show ¬ s.a p = 3 by omega), if_neg (show ¬ s.a p = 5 by omega), if_pos h]
  · unfold dvtold; rw [if_neg (show ¬ s.a p = 1 by omega), if_neg (show ¬ s.a p = 3 by omega), if_neg (show ¬ s.a p = 5 by omega), if_pos h]
theorem v7y (h : s.a p = 7) (hf : s.T = s.t p) : dvstp s p = dvto { s with T := s.t p + 1, v := dput s.v p (s.pl ((s.b p).toNat % 8)) } p 8 ∧ dvfin s p = false ∧ dvtold s p = 0 := by
  refine ⟨?_, ?_, ?_⟩
  · unfold dvstp; rw [if_neg (show ¬ s.a p = 1 by omega), if_neg (show ¬ s.a p = 2 by omega), if_neg (show ¬ s.a p = 3 by omega), if_neg (show ¬ s.a p = 4 by omega), if_neg (show ¬ s.a p = 5 by omega), if_neg (show ¬ s.a p = 6 by omega), if_pos h, if_pos hf]
  · unfold dvfin; rw [if_neg (show ¬ s.a p = 1 by omega), if_neg (show ¬ s.a p = 3 by omega), if_neg (show ¬ s.a p = 5 by omega), if_neg (show ¬ s.a p = 6 by omega), if_neg (show ¬ s.a p = 8 by omega), if_neg (show ¬ s.a p = 10 by omega), if_neg (show ¬ s.a p = 12 by omega)]
  · unfold dvtold; rw [if_neg (show ¬ s.a p = 1 by omega), if_neg (show ¬ s.a p = 3 by omega), if_neg (show ¬ s.a p = 5 by omega), if_neg (show ¬ s.a p = 6 by omega), if_neg (show ¬ s.a p = 8 by omega), if_neg (show ¬ s.a p = 10 by omega), if_neg (show ¬ s.a p = 12 by omega)]
theorem v7n (h : s.a p = 7) (hf : ¬ s.T = s.t p) : dvstp s p = dvto { s with v := dput s.v p (-1) } p 8 ∧ dvfin s p = false ∧ dvtold s p = 0 := by
  refine ⟨?_, ?_, ?_⟩
  · unfold dvstp; rw [if_neg (show ¬ s.a p = 1 by omega), if_neg (show ¬ s.a p = 2 by omega), if_neg (show ¬ s.a p = 3 by omega), if_neg (show ¬ s.a p = 4 by omega), if_neg (show ¬ s.a p = 5 by omega), if_neg (show ¬ s.a p = 6 by omega), if_pos h, if_neg hf]
  · unfold dvfin; rw [if_neg (show ¬ s.a p = 1 by omega), if_neg (show ¬ s.a p = 3 by omega), if_neg (show ¬ s.a p = 5 by omega), if_neg (show ¬ s.a p = 6 by omega), if_neg (show ¬ s.a p = 8 by omega), if_neg (show ¬ s.a p = 10 by omega), if_neg (show ¬ s.a p = 12 by omega)]
  · unfold dvtold; rw [if_neg (show ¬ s.a p = 1 by omega), if_neg (show ¬ s.a p = 3 by omega), if_neg (show ¬ s.a p = 5 by omega), if_neg (show ¬ s.a p = 6 by omega), if_neg (show ¬ s.a p = 8 by omega), if_neg (show ¬ s.a p = 10 by omega), if_neg (show ¬ s.a p = 12 by omega)]
theorem v8 (h : s.a p = 8)  : dvstp s p = dvto { s with B := s.t p + 1 } p 0 ∧ dvfin s p = true ∧ dvtold s p = s.v p := by
  refine ⟨?_, ?_, ?_⟩
  · unfold dvstp; rw [if_neg (show ¬ s.a p = 1 by omega), if_neg (show ¬ s.a p = 2 by omega), if_neg (show ¬ s.a p = 3 by omega), if_neg (show ¬ s.a p = 4 by omega), if_neg (show ¬ s.a p = 5 by omega), if_neg (show ¬ s.a p = 6 by omega), if_neg (show ¬ s.a p = 7 by omega), if_pos h]
  · unfold dvfin; rw [if_neg (show ¬ s.a p = 1 by omega), if_neg (show ¬ s.a p = 3 by omega), if_neg (show ¬ s.a p = 5 by omega), if_neg (show ¬ s.a p = 6 by omega), if_pos h]
  · unfold dvtold; rw [if_neg (show ¬ s.a p = 1 by omega), if_neg (show ¬ s.a p = 3 by omega), if_neg (show ¬ s.a p = 5 by omega), if_neg (show ¬ s.a p = 6 by omega), if_pos h]
theorem v9 (h : s.a p = 9)  : dvstp s p = dvto { s with t := dput s.t p s.T } p 10 ∧ dvfin s p = false ∧ dvtold s p = 0 := by
  refine ⟨?_, ?_, ?_⟩
  · unfold dvstp; rw [if_neg (show ¬ s.a p = 1 by omega), if_neg (show ¬ s.a p = 2 by omega), if_neg (show ¬ s.a p = 3 by omega), if_neg (show ¬ s.a p = 4 by omega), if_neg (show ¬ s.a p = 5 by omega), if_neg (show ¬ s.a p = 6 by omega), if_neg (show ¬ s.a p = 7 by omega), if_neg (show ¬ s.a p = 8 by omega), if_pos h]
  · unfold dvfin; rw [if_neg (show ¬ s.a p = 1 by omega), if_neg (show ¬ s.a p = 3 by omega), if_neg (show ¬ s.a p = 5 by omega), if_neg (show ¬ s.a p = 6 by omega), if_neg (show ¬ s.a p = 8 by omega), if_neg (show ¬ s.a p = 10 by omega), if_neg (show ¬ s.a p = 12 by omega)]
  · unfold dvtold; rw [if_neg (show ¬ s.a p = 1 by omega), if_neg (show ¬ s.a p = 3 by omega), if_neg (show ¬ s.a p = 5 by omega), if_neg (show ¬ s.a p = 6 by omega), if_neg (show ¬ s.a p = 8 by omega), if_neg (show ¬ s.a p = 10 by omega), if_neg (show ¬ s.a p = 12 by omega)]
theorem v10y (h : s.a p = 10) (hf : s.B ≤ s.t p) : dvstp s p = dvto s p 0 ∧ dvfin s p = true ∧ dvtold s p = -1 := by
  refine ⟨?_, ?_, ?_⟩
  · unfold dvstp; rw [if_neg (show ¬ s.a p = 1 by omega), if_neg (show ¬ s.a p = 2 by omega), if_neg (show ¬ s.a p = 3 by omega), if_neg (show ¬ s.a p = 4 by omega), if_neg (show ¬ s.a p = 5 by omega), if_neg (show ¬ s.a p = 6 by omega), if_neg (show ¬ s.a p = 7 by omega), if_neg (show ¬ s.a p = 8 by omega), if_neg (show ¬ s.a p = 9 by omega), if_pos h, if_pos hf]
  · unfold dvfin; rw [if_neg (show ¬ s.a p = 1 by omega), if_neg (show ¬ s.a p = 3 by omega), if_neg (show ¬ s.a p = 5 by omega), if_neg (show ¬ s.a p = 6 by omega), if_neg (show ¬ s.a p = 8 by omega), if_pos h]; exact decide_eq_true hf
  · unfold dvtold; rw [if_neg (show ¬ s.a p = 1 by omega), if_neg (show ¬ s.a p = 3 by omega), if_neg (show ¬ s.a p = 5 by omega), if_neg (show ¬ s.a p = 6 by omega), if_neg (show ¬ s.a p = 8 by omega), if_pos h, if_pos hf]
theorem v10n (h : s.a p = 10) (hf : ¬ s.B ≤ s.t p) : dvstp s p = dvto s p 11 ∧ dvfin s p = false ∧ dvtold s p = 0 := by
  refine ⟨?_, ?_, ?_⟩
  · unfold dvstp; rw [if_neg (show ¬ s.a p = 1 by omega), if_neg (show ¬ s.a p = 2 by omega), if_neg (show ¬ s.a p = 3 by omega), if_neg (show ¬ s.a p = 4 by omega), if_neg (show ¬ s.a p = 5 by omega), if_neg (show ¬ s.a p = 6 by omega), if_neg (show ¬ s.a p = 7 by omega), if_neg (show ¬ s.a p = 8 by omega), if_neg (show ¬ s.a p = 9 by omega), if_pos h, if_neg hf]
  · unfold dvfin; rw [if_neg (show ¬ s.a p = 1 by omega), if_neg (show ¬ s.a p = 3 by omega), if_neg (show ¬ s.a p = 5 by omega), if_neg (show ¬ s.a p = 6 by omega), if_neg (show ¬ s.a p = 8 by omega), if_pos h]; exact decide_eq_false hf
  · unfold dvtold; rw [if_neg (show ¬ s.a p = 1 by omega), if_neg (show ¬ s.a p = 3 by omega), if_neg (show ¬ s.a p = 5 by omega), if_neg (show ¬ s.a p = 6 by omega), if_neg (show ¬ s.a p = 8 by omega), if_pos h, if_neg hf]
theorem v11 (h : s.a p = 11)  : dvstp s p = dvto { s with v := dput s.v p (s.pl (s.t p % 8)) } p 12 ∧ dvfin s p = false ∧ dvtold s p = 0 := by
  refine ⟨?_, ?_, ?_⟩
  · unfold dvstp; rw [if_neg (show ¬ s.a p = 1 by omega), if_neg (show ¬ s.a p = 2 by omega), if_neg (show ¬ s.a p = 3 by omega), if_neg (show ¬ s.a p = 4 by omega), if_neg (show ¬ s.a p = 5 by omega), if_neg (show ¬ s.a p = 6 by omega), if_neg (show ¬ s.a p = 7 by omega), if_neg (show ¬ s.a p = 8 by omega), if_neg (show ¬ s.a p = 9 by omega), if_neg (show ¬ s.a p = 10 by omega), if_pos h]
  · unfold dvfin; rw [if_neg (show ¬ s.a p = 1 by omega), if_neg (show ¬ s.a p = 3 by omega), if_neg (show ¬ s.a p = 5 by omega), if_neg (show ¬ s.a p = 6 by omega), if_neg (show ¬ s.a p = 8 by omega), if_neg (show ¬ s.a p = 10 by omega), if_neg (show ¬ s.a p = 12 by omega)]
  · unfold dvtold; rw [if_neg (show ¬ s.a p = 1 by omega), if_neg (show ¬ s.a p = 3 by omega), if_neg (show ¬ s.a p = 5 by omega), if_neg (show ¬ s.a p = 6 by omega), if_neg (show ¬ s.a p = 8 by omega), if_neg (show ¬ s.a p = 10 by omega), if_neg (show ¬ s.a p = 12 by omega)]
theorem v12y (h : s.a p = 12) (hf : s.T = s.t p) : dvstp s p = dvto { s with T := s.t p + 1 } p 0 ∧ dvfin s p = true ∧ dvtold s p = s.v p := by
  refine ⟨?_, ?_, ?_⟩
  · unfold dvstp; rw [if_neg (show ¬ s.a p = 1 by omega), if_neg (show ¬ s.a p = 2 by omega), if_neg (show ¬ s.a p = 3 by omega), if_neg (show ¬ s.a p = 4 by omega), if_neg (show ¬ s.a p = 5 by omega), if_neg (show ¬ s.a p = 6 by omega), if_neg (show ¬ s.a p = 7 by omega), if_neg (show ¬ s.a p = 8 by omega), if_neg (show ¬ s.a p = 9 by omega), if_neg (show ¬ s.a p = 10 by omega), if_neg (show ¬ s.a p = 11 by omega), if_pos hf]
  · unfold dvfin; rw [if_neg (show ¬ s.a p = 1 by omega), if_neg (show ¬ s.a p = 3 by omega), if_neg (show ¬ s.a p = 5 by omega), if_neg (show ¬ s.a p = 6 by omega), if_neg (show ¬ s.a p = 8 by omega), if_neg (show ¬ s.a p = 10 by omega), if_pos h]
  · unfold dvtold; rw [if_neg (show ¬ s.a p = 1 by omega), if_neg (show ¬ s.a p = 3 by omega), if_neg (show ¬ s.a p = 5 by omega), if_neg (show ¬ s.a p = 6 by omega), if_neg (show ¬ s.a p = 8 by omega), if_neg (show ¬ s.a p = 10 by omega), if_pos h, if_pos hf]
theorem v12n (h : s.a p = 12) (hf : ¬ s.T = s.t p) : dvstp s p = dvto s p 0 ∧ dvfin s p = true ∧ dvtold s p = -2 := by
  refine ⟨?_, ?_, ?_⟩
  · unfold dvstp; rw [if_neg (show ¬ s.a p = 1 by omega), if_neg (show ¬ s.a p = 2 by omega), if_neg (show ¬ s.a p = 3 by omega), if_neg (show ¬ s.a p = 4 by omega), if_neg (show ¬ s.a p = 5 by omega), if_neg (show ¬ s.a p = 6 by omega), if_neg (show ¬ s.a p = 7 by omega), if_neg (show ¬ s.a p = 8 by omega), if_neg (show ¬ s.a p = 9 by omega), if_neg (show ¬ s.a p = 10 by omega), if_neg (show ¬ s.a p = 11 by omega), if_neg hf]
  · unfold dvfin; rw [if_neg (show ¬ s.a p = 1 by omega), if_neg (show ¬ s.a p = 3 by omega), if_neg (show ¬ s.a p = 5 by omega), if_neg (show ¬ s.a p = 6 by omega), if_neg (show ¬ s.a p = 8 by omega), if_neg (show ¬ s.a p = 10 by omega), if_pos h]
  · unfold dvtold; rw [if_neg (show ¬ s.a p = 1 by omega), if_neg (show ¬ s.a p = 3 by omega), if_neg (show ¬ s.a p = 5 by omega), if_neg (show ¬ s.a p = 6 by omega), if_neg (show ¬ s.a p = 8 by omega), if_neg (show ¬ s.a p = 10 by omega), if_pos h, if_neg hf]
end
end Go.Proofs.Ytbicckeoidijpaa
