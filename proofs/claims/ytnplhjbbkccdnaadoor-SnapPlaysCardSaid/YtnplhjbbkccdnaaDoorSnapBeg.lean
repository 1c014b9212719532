/-
  Package snap: who begins.
-/
import Derived.Test.YtnplhjbbkccdnaaDoorSnapCmp
namespace Go.Proofs.YtnplhjbbkccdnaaDoor.Snap
open Go.RowKit
def bgE (n : Nat) (v : SS) (p : Int) : Int := if ¬ (0 ≤ p ∧ p < n) then 1 else if (v.h p.toNat).a ≠ 0 then 7 else 0
def bgS (n : Nat) (v : SS) (p : Int) (b : SB) : SS := if bgE n v p = 0 then putH v p.toNat b else v
set_option maxHeartbeats 4000000 in
set_option maxRecDepth 100000 in
theorem begin_any {g n : Nat} {v : SS} (w : World) (hk : Lk w g n v) (hn : n ≤ 4) (p : Int) (b : SB) :
    Calls Tryd.prog 30 #[.pointer (some ⟨g, 0, none⟩), .int .i64 p, .agg (cH b).toArray] w fun e w' =>
      e = .returned (errV 64 (bgE n v p)) ∧ Lk w' g n (bgS n v p b) ∧ Touch (fun k => k = g) w w' := by
  obtain ⟨C, hC⟩ : ∃ C, C = cH b := ⟨_, rfl⟩
  rw [← hC]
  have hCl : C.length = 60 := by rw [hC, cH_len]
  have HC1 := Lib.hid (show C.toArray.all (·.oneCell') = true by rw [hC]; exact cH_one _)
  have HCI := Lib.hid (show (Tryd.prog.info? 72).map (·.size) = some C.length by rw [hCl]; exact Th.info)
  have hg := hk.lt
  obtain ⟨V, hV⟩ : ∃ V, V = w.alloc (.cells C.toArray 72) := ⟨_, rfl⟩
  have k1 : Lk V g n v := by rw [hV]; exact hk.alloc _
  have k2 : Touch (fun k => k = g) w V := by rw [hV]; exact (Touch.refl _ w).alloc _
  have k3 : Block V w.heap.size 72 C.toArray := by rw [hV]; exact Block.made _ _ _
  have R1 : V.rangeAt w.heap.size 0 C := by
    intro j u hu
    rw [Nat.zero_add, k3.cell]
    simpa using hu
  have HI := Lib.hid (isHand_any p V k1.num)
  have HV := Lib.hid hV.symm
  by_cases hp : 0 ≤ p ∧ p < n
  · rw [decide_eq_true hp] at HI
    obtain ⟨q, rfl⟩ := Int.eq_ofNat_of_zero_le hp.1
    have hq : q < n := by omega
    have hq4 : q < 4 := by omega
    have hp4 : (q : Int) < 4 := by omega
    have he : bgE n v q = if (v.h q).a ≠ 0 then 7 else 0 := by unfold bgE; rw [if_neg (by omega)]; rfl
    have c1 := k1.xA hq4
    by_cases ha : (v.h q).a = 0
    · rw [if_neg (by omega)] at he
      rw [bgS, he, if_pos rfl]
      rw [ha] at c1
      have T1 : V.there g (25 + q * 60) C.toArray.size := k1.there (by rw [List.size_toArray, hCl]; omega)
      have HSS := Lib.hid (show V.drew.rangeAt w.heap.size 0 C ∧ V.drew.there g (25 + q * 60) C.toArray.size from ⟨R1, T1⟩)
      have HTT := Lib.hid (show (V.drew.setCells g (25 + q * 60) C.toArray.toList).rangeAt w.heap.size 0 C ∧ (V.drew.setCells g (25 + q * 60) C.toArray.toList).there g (25 + q * 60) C.toArray.size from
        ⟨World.rangeAt_setCells_apart (show V.drew.rangeAt w.heap.size 0 C from R1) _ _ _ (Or.inl (by omega)), World.there_setCells (show V.drew.there g (25 + q * 60) C.toArray.size from T1) _ _ _⟩)
      have hL2 := k1.drew.setH hq4 b
      rw [← hC] at hL2
      have HL2 := Lib.hid hL2
      have HT2 := Lib.hid (k2.drew.trans (touch_cells (b := g) C (25 + q * 60) V.drew) fun _ h => Or.inl h)
      clear hp he ha hk k1 k2 k3 R1 hL2 hC hCl T1 hV
      go_enter Tryd.func30, Tryd.ntmps30
      go_upto_block 0 with fail
      rw [HV.out]
      go_wp2_with (go_at_call 32; refine HI.out.mono ?_; rintro e w' ⟨rfl, rfl⟩)
      refine wp_region_held_drew (S := (fun W : World => W.rangeAt w.heap.size 0 C ∧ W.there g (25 + q * 60) C.toArray.size)) (by kernel_rfl) ?_ (fun hHeld => ?_)
      · exact HSS.out
      refine wpAnyH_take (i := 0) (oi := { dst := some 23, op := Op.move (Operand.tmp 0), type := 23, pos := "snap.go:106", after := #[], guard := none }) (v := .pointer (some ⟨g, 0, none⟩)) rfl (by kernel_rfl) (by kernel_rfl) (by kernel_rfl) (fun _ _ _ h => h) (Or.inl ⟨by rfl, fun W hSw => by (try dsimp only at hSw); go_simp⟩) (by assumption) ?_
      try simp only [Act.put, List.setIfInBounds_toArray, List.set_cons_zero, List.set_cons_succ]
      refine wpAnyH_take (i := 1) (oi := { dst := some 24, op := Op.move (Operand.tmp 1), type := 3, pos := "snap.go:106", after := #[], guard := none }) (v := .int .i64 q) rfl (by kernel_rfl) (by kernel_rfl) (by kernel_rfl) (fun _ _ _ h => h) (Or.inl ⟨by rfl, fun W hSw => by (try dsimp only at hSw); go_simp⟩) (by assumption) ?_
      try simp only [Act.put, List.setIfInBounds_toArray, List.set_cons_zero, List.set_cons_succ]
      refine wpAnyH_take (i := 2) (oi := { dst := some 25, op := Op.load 72 (Operand.tmp 5), type := 72, pos := "snap.go:106", after := #[], guard := none }) (v := .agg C.toArray) rfl (by kernel_rfl) (by kernel_rfl) (by kernel_rfl) (fun _ _ _ h => h) (yieldsIf_load_mid (by rfl) 72 (.tmp 5) rfl w.heap.size 0 rfl C _ (fun W h => h.1) Tryd.underlying72 rfl HCI.out) (by assumption) ?_
      try simp only [Act.put, List.setIfInBounds_toArray, List.set_cons_zero, List.set_cons_succ]
      refine wpAnyH_take (i := 3) (oi := { dst := some 26, op := Op.nilCheck (Operand.tmp 23), type := 0, pos := "snap.go:106", after := #[{ on := 0, ground := Ground.data }], guard := none }) (v := .pointer (some ⟨g, 0, none⟩)) rfl (by kernel_rfl) (by kernel_rfl) (by kernel_rfl) (fun _ _ _ h => h) (Or.inl ⟨by rfl, fun W hSw => by (try dsimp only at hSw); go_simp⟩) (by assumption) ?_
      try simp only [Act.put, List.setIfInBounds_toArray, List.set_cons_zero, List.set_cons_succ]
      refine wpAnyH_take (i := 4) (oi := { dst := some 27, op := Op.fieldAddr 75 (Operand.tmp 26) 2, type := 0, pos := "snap.go:106", after := #[{ on := 3, ground := Ground.data }], guard := none }) (v := .pointer (some ⟨g, 25, none⟩)) rfl (by kernel_rfl) (by kernel_rfl) (by kernel_rfl) (fun _ _ _ h => h) (Or.inl ⟨by rfl, fun W hSw => by (try dsimp only at hSw); go_simp⟩) (by assumption) ?_
      try simp only [Act.put, List.setIfInBounds_toArray, List.set_cons_zero, List.set_cons_succ]
      refine wpAnyH_take (i := 5) (oi := { dst := some 28, op := Op.indexAddr 73 (Operand.tmp 27) (Operand.tmp 24), type := 0, pos := "snap.go:106", after := #[{ on := 4, ground := Ground.data }, { on := 1, ground := Ground.data }, { on := 0, ground := Ground.phase }, { on := 1, ground := Ground.phase }, { on := 2, ground := Ground.phase }], guard := none }) (v := .pointer (some ⟨g, (25 + q * 60), none⟩)) rfl (by kernel_rfl) (by kernel_rfl) (by kernel_rfl) (fun _ _ _ h => h) (Or.inl ⟨by rfl, fun W hSw => by (try dsimp only at hSw); go_simp⟩) (by assumption) ?_
      try simp only [Act.put, List.setIfInBounds_toArray, List.set_cons_zero, List.set_cons_succ]
      refine held_store 6 (o := { dst := none, op := Op.store 72 (Operand.tmp 28) (Operand.tmp 25), type := 0, pos := "snap.go:106", after := #[{ on := 5, ground := Ground.data }, { on := 2, ground := Ground.data }, { on := 0, ground := Ground.phase }, { on := 1, ground := Ground.phase }, { on := 2, ground := Ground.phase }], guard := none }) ?hf ?hr ?ho ?hd ?hw 72 (.tmp 28) (.tmp 25) ?hop g (25 + q * 60) C.toArray ?hx ?hy ?ht ?hi ?h1 ?hS ?h
      case hf => rfl
      case hr => kernel_rfl
      case ho => kernel_rfl
      case hd => kernel_rfl
      case hw => kernel_rfl
      case hop => rfl
      case hx => rfl
      case hy => rfl
      case ht => exact HSS.out.2
      case hi => exact HCI.out
      case h1 => exact HC1.out
      case hS => exact HTT.out
      case h =>
        go_wp2
        go_ret
        exact ⟨rfl, HL2.out, HT2.out⟩
    · rw [if_pos ha] at he
      rw [bgS, he, if_neg (by omega)]
      have hne : (((v.h q).a : Int) != 0) = true := by simp; omega
      have K1 := Lib.hid k1
      have K2 := Lib.hid k2
      clear hp he ha hk k1 k2 k3 R1 hC hCl hV
      go_enter Tryd.func30, Tryd.ntmps30
      go_upto_block 0 with fail
      rw [HV.out]
      go_wp2_with (go_at_call 32; refine HI.out.mono ?_; rintro e w' ⟨rfl, rfl⟩)
      go_ret
      exact ⟨rfl, K1.out, K2.out⟩
  · rw [decide_eq_false hp] at HI
    have he : bgE n v p = 1 := by unfold bgE; rw [if_pos hp]
    rw [bgS, he, if_neg (by omega)]
    have K1 := Lib.hid k1
    have K2 := Lib.hid k2
    clear hp he hk k1 k2 k3 R1 hC hCl hV
    go_enter Tryd.func30, Tryd.ntmps30
    go_upto_block 0 with fail
    rw [HV.out]
    go_wp2_with (go_at_call 32; refine HI.out.mono ?_; rintro e w' ⟨rfl, rfl⟩)
    go_ret
    exact ⟨rfl, K1.out, K2.out⟩
/-- Who begins to write; who begins to look. -/
def sbw (x : Nat) : SB := ⟨1, 0, x, true, fun _ => sw0, fun _ => sw0, fun _ => 0, fun _ => 0⟩
def sbl : SB := ⟨1, 0, 0, false, fun _ => sw0, fun _ => sw0, fun _ => 0, fun _ => 0⟩
theorem h60w (x : Nat) : (#[.int .i64 1, .bool true, .int .i64 x, .int .i64 0, .int .i64 0, .int .i64 0, .int .i64 0, .int .i64 0, .int .i64 0, .int .i64 0, .int .i64 0, .int .i64 0, .int .i64 0, .int .i64 0, .int .i64 0, .int .i64 0, .int .i64 0, .int .i64 0, .int .i64 0, .int .i64 0, .int .i64 0, .int .i64 0, .int .i64 0, .int .i64 0, .int .i64 0, .int .i64 0, .int .i64 0, .int .i64 0, .int .i64 0, .int .i64 0, .int .i64 0, .int .i64 0, .int .i64 0, .int .i64 0, .int .i64 0, .int .i64 0, .int .i64 0, .int .i64 0, .int .i64 0, .int .i64 0, .int .i64 0, .int .i64 0, .int .i64 0, .int .i64 0, .int .i64 0, .int .i64 0, .int .i64 0, .int .i64 0, .int .i64 0, .int .i64 0, .int .i64 0, .int .i64 0, .int .i64 0, .int .i64 0, .int .i64 0, .int .i64 0, .int .i64 0, .int .i64 0, .int .i64 0, .int .i64 0] : Array Value) = (cH (sbw x)).toArray := by
  have h : cH (sbw x) = [.int .i64 1, .bool true, .int .i64 x, .int .i64 0, .int .i64 0, .int .i64 0, .int .i64 0, .int .i64 0, .int .i64 0, .int .i64 0, .int .i64 0, .int .i64 0, .int .i64 0, .int .i64 0, .int .i64 0, .int .i64 0, .int .i64 0, .int .i64 0, .int .i64 0, .int .i64 0, .int .i64 0, .int .i64 0, .int .i64 0, .int .i64 0, .int .i64 0, .int .i64 0, .int .i64 0, .int .i64 0, .int .i64 0, .int .i64 0, .int .i64 0, .int .i64 0, .int .i64 0, .int .i64 0, .int .i64 0, .int .i64 0, .int .i64 0, .int .i64 0, .int .i64 0, .int .i64 0, .int .i64 0, .int .i64 0, .int .i64 0, .int .i64 0, .int .i64 0, .int .i64 0, .int .i64 0, .int .i64 0, .int .i64 0, .int .i64 0, .int .i64 0, .int .i64 0, .int .i64 0, .int .i64 0, .int .i64 0, .int .i64 0, .int .i64 0, .int .i64 0, .int .i64 0, .int .i64 0] := by simp [cH, hc, wc, sbw, sw0, List.range, List.range.loop]
  rw [h]
theorem h60l : (#[.int .i64 1, .bool false, .int .i64 0, .int .i64 0, .int .i64 0, .int .i64 0, .int .i64 0, .int .i64 0, .int .i64 0, .int .i64 0, .int .i64 0, .int .i64 0, .int .i64 0, .int .i64 0, .int .i64 0, .int .i64 0, .int .i64 0, .int .i64 0, .int .i64 0, .int .i64 0, .int .i64 0, .int .i64 0, .int .i64 0, .int .i64 0, .int .i64 0, .int .i64 0, .int .i64 0, .int .i64 0, .int .i64 0, .int .i64 0, .int .i64 0, .int .i64 0, .int .i64 0, .int .i64 0, .int .i64 0, .int .i64 0, .int .i64 0, .int .i64 0, .int .i64 0, .int .i64 0, .int .i64 0, .int .i64 0, .int .i64 0, .int .i64 0, .int .i64 0, .int .i64 0, .int .i64 0, .int .i64 0, .int .i64 0, .int .i64 0, .int .i64 0, .int .i64 0, .int .i64 0, .int .i64 0, .int .i64 0, .int .i64 0, .int .i64 0, .int .i64 0, .int .i64 0, .int .i64 0] : Array Value) = (cH sbl).toArray := by
  have h : cH sbl = [.int .i64 1, .bool false, .int .i64 0, .int .i64 0, .int .i64 0, .int .i64 0, .int .i64 0, .int .i64 0, .int .i64 0, .int .i64 0, .int .i64 0, .int .i64 0, .int .i64 0, .int .i64 0, .int .i64 0, .int .i64 0, .int .i64 0, .int .i64 0, .int .i64 0, .int .i64 0, .int .i64 0, .int .i64 0, .int .i64 0, .int .i64 0, .int .i64 0, .int .i64 0, .int .i64 0, .int .i64 0, .int .i64 0, .int .i64 0, .int .i64 0, .int .i64 0, .int .i64 0, .int .i64 0, .int .i64 0, .int .i64 0, .int .i64 0, .int .i64 0, .int .i64 0, .int .i64 0, .int .i64 0, .int .i64 0, .int .i64 0, .int .i64 0, .int .i64 0, .int .i64 0, .int .i64 0, .int .i64 0, .int .i64 0, .int .i64 0, .int .i64 0, .int .i64 0, .int .i64 0, .int .i64 0, .int .i64 0, .int .i64 0, .int .i64 0, .int .i64 0, .int .i64 0, .int .i64 0] := by simp [cH, hc, wc, sbl, sw0, List.range, List.range.loop]
  rw [h]
def wrE (n : Nat) (v : SS) (p x : Int) : Int := if x < 0 ∨ 1000 < x then 1 else bgE n v p
def wrS (n : Nat) (v : SS) (p x : Int) : SS := if wrE n v p x = 0 then putH v p.toNat (sbw x.toNat) else v
set_option maxHeartbeats 4000000 in
set_option maxRecDepth 100000 in
theorem write_any {g n : Nat} {v : SS} (w : World) (hk : Lk w g n v) (hn : n ≤ 4) (p x : Int) :
    Calls Tryd.prog 9 #[.pointer (some ⟨g, 0, none⟩), .int .i64 p, .int .i64 x] w fun e w' =>
      e = .returned (errV 64 (wrE n v p x)) ∧ Lk w' g n (wrS n v p x) ∧ Touch (fun k => k = g) w w' := by
  by_cases hx : x < 0 ∨ 1000 < x
  · have he : wrE n v p x = 1 := by unfold wrE; rw [if_pos hx]
    rw [wrS, he, if_neg (by omega)]
    rcases hx with hx | hx
    · clear he
      go_enter Tryd.func9, Tryd.ntmps9
      go_wp2
      go_ret
      exact ⟨rfl, hk, Touch.refl _ _⟩
    · clear he
      have hx0 : ¬ x < 0 := by omega
      go_enter Tryd.func9, Tryd.ntmps9
      go_wp2
      go_ret
      exact ⟨rfl, hk, Touch.refl _ _⟩
  · have he : wrE n v p x = bgE n v p := by unfold wrE; rw [if_neg hx]
    have hS : wrS n v p x = bgS n v p (sbw x.toNat) := by rw [wrS, he]; rfl
    rw [hS, he]
    obtain ⟨y, rfl⟩ := Int.eq_ofNat_of_zero_le (show 0 ≤ x by omega)
    rw [Int.toNat_natCast]
    have h := begin_any w hk hn p (sbw y)
    rw [← h60w] at h
    have HB := Lib.hid h
    have hx0 : ¬ (y : Int) < 0 := by omega
    have hx1 : ¬ (1000 : Int) < (y : Int) := by omega
    clear h he hx hk hn hS
    go_enter Tryd.func9, Tryd.ntmps9
    go_wp2_with (go_at_call 30; (with_reducible refine HB.out.mono ?_); rintro e w' ⟨rfl, hl, ht⟩; have HL := Lib.hid hl; have HT := Lib.hid ht; clear hl ht)
    go_ret
    exact ⟨rfl, HL.out, HT.out⟩
set_option maxHeartbeats 4000000 in
set_option maxRecDepth 100000 in
theorem look_any {g n : Nat} {v : SS} (w : World) (hk : Lk w g n v) (hn : n ≤ 4) (p : Int) :
    Calls Tryd.prog 10 #[.pointer (some ⟨g, 0, none⟩), .int .i64 p] w fun e w' =>
      e = .returned (errV 64 (bgE n v p)) ∧ Lk w' g n (bgS n v p sbl) ∧ Touch (fun k => k = g) w w' := by
  have h := begin_any w hk hn p sbl
  rw [← h60l] at h
  have HB := Lib.hid h
  clear h hk hn
  go_enter Tryd.func10, Tryd.ntmps10
  go_wp2_with (go_at_call 30; (with_reducible refine HB.out.mono ?_); rintro e w' ⟨rfl, hl, ht⟩; have HL := Lib.hid hl; have HT := Lib.hid ht; clear hl ht)
  go_ret
  exact ⟨rfl, HL.out, HT.out⟩
end Go.Proofs.YtnplhjbbkccdnaaDoor.Snap
