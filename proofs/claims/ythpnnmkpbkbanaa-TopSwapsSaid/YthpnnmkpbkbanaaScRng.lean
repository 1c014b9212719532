/-
  The numbers of a state are small: plain mathematics.
-/
import Derived.Test.YthpnnmkpbkbanaaScMath
namespace Go.Proofs.Ythpnnmkpbkbanaa

def Rng (z : List Int) : Prop := ∀ x ∈ z, 0 ≤ x ∧ x ≤ 1000
theorem Rng.set {z : List Int} (h : Rng z) (i : Nat) {v : Int} (hv : 0 ≤ v ∧ v ≤ 1000) : Rng (z.set i v) := by
  intro x hx
  rcases List.mem_or_eq_of_mem_set hx with h1 | h1
  · exact h x h1
  · rw [h1]; exact hv
theorem Rng.getD {z : List Int} (h : Rng z) (i : Nat) : 0 ≤ z.getD i 0 ∧ z.getD i 0 ≤ 1000 := by
  rw [List.getD_eq_getElem?_getD]
  cases e : z[i]? with
  | none => simp
  | some x => exact h x (List.mem_of_getElem? e)
theorem stp_rng {words : Int} {hs : List (List Ln)} {zs : List Int} {p : Nat} (hW : Well words hs) (hf : Good words hs zs) (hr : Rng zs) (hp : p < hs.length) : Rng (stp hs zs p) := by
  obtain ⟨n, hn, hle⟩ := hf.pc p hp
  have hl : hs[p]? = some hs[p] := List.getElem?_eq_getElem hp
  have he : hs.getD p [] = hs[p] := by simp [List.getD_eq_getElem?_getD, hl]
  rw [he] at hle
  generalize hs[p] = ls at hl hle
  have h5 := hW.short p ls hl
  have hall := hW.okay p ls hl
  rcases Nat.lt_or_ge n ls.length with hlt | hge
  · have hl1 : ls[n]? = some ls[n] := List.getElem?_eq_getElem hlt
    have hk := List.all_eq_true.1 hall _ (List.mem_of_getElem? hl1)
    generalize ls[n] = l at hl1 hk
    rw [stp_go hs zs p ls n l hl hn hl1]
    have base : Rng (zs.set (p * 4 + 2) ((n : Int) + 1)) := hr.set _ (by omega)
    simp only [okLn] at hk
    dsimp only
    split
    · rename_i k0
      rw [if_pos k0, Bool.and_eq_true] at hk
      have hv := inR_true.1 hk.2
      exact base.set _ hv
    rename_i k0
    rw [if_neg k0] at hk
    split
    · exact base.set _ (base.getD _)
    split
    · exact base.set _ (base.getD _)
    split
    · exact (base.set _ (base.getD _)).set _ (base.getD _)
    rename_i k1 k2 k3
    split
    · rename_i k5
      rw [if_neg (by omega), if_neg (by omega), if_pos k5, Bool.and_eq_true] at hk
      have hv := inR_true.1 hk.2
      split
      · exact base.set _ (by omega)
      · exact base
    · exact base
  · rw [stp_stay hs zs p ls n hl hn hge]; exact hr
theorem zero16_rng : Rng zero16 := by
  intro x hx
  have := List.eq_of_mem_replicate hx
  omega
theorem Reach.rng {words : Int} {hs : List (List Ln)} {z : List Int} (hW : Well words hs) (h : Reach hs z) : Rng z :=
  Reach.rec' (hs := hs) (P := Rng) zero16_rng (fun _ _ hr h hp => stp_rng hW (hr.good hW) h hp) z h
theorem Rng.wf {z : List Int} (h : Rng z) (x : Int) (hx : x ∈ z) : -9223372036854775808 ≤ x ∧ x ≤ 9223372036854775807 := by
  have := h x hx
  omega
end Go.Proofs.Ythpnnmkpbkbanaa
