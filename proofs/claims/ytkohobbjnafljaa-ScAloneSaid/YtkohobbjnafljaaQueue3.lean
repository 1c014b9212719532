/-
  The queue of states: New.
-/
import Derived.Test.YtkohobbjnafljaaQueue2
namespace Go.Proofs.Ytkohobbjnafljaa
open Go.RowKit Go.Maps

def NewPost (z : List Int) (w : World) (e : Ending) (w' : World) : Prop :=
  ∃ g m lb, e = .returned (.pointer (some ⟨g, 0, none⟩)) ∧ Touch (fun _ => False) w w' ∧ QI w' g m lb [z] [z] ∧ w.heap.size ≤ g ∧ w.heap.size ≤ m ∧ w.heap.size ≤ lb

set_option maxRecDepth 100000 in
set_option maxHeartbeats 2000000 in
theorem new_any (ab : Nat) (z : List Int) (w : World) (hb : Block w ab 50 (row z)) (hz : z.length = 16) (hr : Rng z) :
    Calls Try.prog 32 #[.slice (some ⟨ab, 0, none⟩) 1 1] w (NewPost z w) := by
  have hmm := @run_makeMap Try.prog
  have hab := hb.lt
  have hQ0 : QI ((w.alloc (.map #[] 0)).alloc (.cells #[.map (some w.heap.size), .slice none 0 0] 82)) (w.heap.size + 1) w.heap.size (w.heap.size + 1) [] [] :=
    ⟨⟨.slice none 0 0, by simpa using Block.made (w.alloc (.map #[] 0)) 82 #[.map (some w.heap.size), .slice none 0 0], Left.nil _ _ _, Or.inl ⟨rfl, rfl⟩⟩, (Known.made w).touch ((Touch.refl (fun _ => False) _).alloc _) (fun h => h), by omega, by simp, by simp⟩
  have hB0 : Block ((w.alloc (.map #[] 0)).alloc (.cells #[.map (some w.heap.size), .slice none 0 0] 82)) ab 50 (row z) := (hb.alloc _).alloc _
  have hT0 : Touch (fun _ => False) w ((w.alloc (.map #[] 0)).alloc (.cells #[.map (some w.heap.size), .slice none 0 0] 82)) := ((Touch.refl _ w).alloc _).alloc _
  have HQ0 := Lib.hid hQ0
  have HB0 := Lib.hid hB0
  have HT0 := Lib.hid hT0
  have HSZ := Lib.hid ((row_size z).trans hz)
  have HR := Lib.hid hr
  have HZ := Lib.hid hz
  clear hQ0 hB0 hT0 hb hr hz
  go_enter Try.func32, Try.ntmps32
  go_wp2_with fail
  obtain ⟨W, hW⟩ : ∃ W, W = (w.alloc (.map #[] 0)).alloc (.cells #[.map (some w.heap.size), .slice none 0 0] 82) := ⟨_, rfl⟩
  rw [← hW] at HQ0 HB0 HT0 ⊢
  clear hW
  refine wp_loop_rounds 2 ?_
  rw [rounds_succ]
  have HA := Lib.hid (Block.made W 50 #[.int .i64 0, .int .i64 0, .int .i64 0, .int .i64 0, .int .i64 0, .int .i64 0, .int .i64 0, .int .i64 0, .int .i64 0, .int .i64 0, .int .i64 0, .int .i64 0, .int .i64 0, .int .i64 0, .int .i64 0, .int .i64 0])
  have hV : Block ((W.alloc (.cells #[.int .i64 0, .int .i64 0, .int .i64 0, .int .i64 0, .int .i64 0, .int .i64 0, .int .i64 0, .int .i64 0, .int .i64 0, .int .i64 0, .int .i64 0, .int .i64 0, .int .i64 0, .int .i64 0, .int .i64 0, .int .i64 0] 50)).setRow W.heap.size (row z)) W.heap.size 50 (row z) := setRow_heap _ _ _ _ _ _ HA.out
  have hTV : Touch (fun _ => False) W ((W.alloc (.cells #[.int .i64 0, .int .i64 0, .int .i64 0, .int .i64 0, .int .i64 0, .int .i64 0, .int .i64 0, .int .i64 0, .int .i64 0, .int .i64 0, .int .i64 0, .int .i64 0, .int .i64 0, .int .i64 0, .int .i64 0, .int .i64 0] 50)).setRow W.heap.size (row z)) := ((Touch.refl _ W).alloc _).setRow (Or.inr (Nat.le_refl _)) _
  have HV := Lib.hid hV
  have HQV := Lib.hid (HQ0.out.touch hTV (fun h => h) (fun h => h) (fun h => h))
  have HTV := Lib.hid hTV
  clear hV hTV
  go_wp2_with (first | (refine wpList_load_row rfl 50 (.tmp 13) rfl ab rfl _ (row z) _ _ HB0.out Try.underlying50 rfl (by rw [HSZ.out]; exact Tst.info) ?_) | (refine wpList_store_row rfl 50 (.tmp 5) (.tmp 14) rfl W.heap.size (row z) rfl rfl _ _ HA.out (by rw [HSZ.out]; exact Tst.info) (by rw [HSZ.out]; rfl) (row_one _) ?_) | (refine wpList_load_row rfl 50 (.tmp 5) rfl W.heap.size rfl _ (row z) _ _ HV.out Try.underlying50 rfl (by rw [HSZ.out]; exact Tst.info) ?_) | (go_at_call 34; refine (put_any _ _ _ _ _ z _ HQV.out HZ.out HR.out (by simp) (by simp)).mono ?_; rintro e w2 ⟨rfl, hT2, lb', hQ2, hlb2⟩; have HT2 := Lib.hid hT2; have HQ2 := Lib.hid hQ2; have HLB2 := Lib.hid hlb2; clear hT2 hQ2 hlb2))
  rw [rounds_succ]
  go_wp2_with fail
  go_ret
  have hn : ins1 ([] : List (List Int)) z = [z] := by simp [ins1]
  have hl : (if z ∈ ([] : List (List Int)) then [] else [] ++ [z]) = [z] := by simp
  have h2 := HQ2.out
  rw [hn, hl] at h2
  have hs := HT0.out.size
  have hs2 := HTV.out.size
  refine ⟨_, _, lb', rfl, ?_, h2, by omega, Nat.le_refl _, ?_⟩
  · exact ((HT0.out.trans HTV.out fun _ h => h.elim).trans HT2.out) fun i h => Or.inr (by rcases h with h | h | h <;> omega)
  · rcases HLB2.out with h | h <;> omega
end Go.Proofs.Ytkohobbjnafljaa
