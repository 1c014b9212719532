/-
  What waits of a hand, in memory: put, take, over.
-/
import Derived.Test.YthpnnmkpbkbanaaDoorTouch
import Derived.Test.YthpnnmkpbkbanaaDoorTsoRace
import Derived.Deep.MidRow
import Derived.Deep.RegionLaw
import Derived.Lib.SlBuf
import Derived.StillTailTactics
namespace Go.Proofs.YthpnnmkpbkbanaaDoor
open Go.RowKit

/-! ### As numbers -/
def pairs (q : List (Nat × Int)) : List Int := q.flatMap fun e => [(e.1 : Int), e.2]
theorem pairs_length (q : List (Nat × Int)) : (pairs q).length = q.length * 2 := by
  induction q with
  | nil => rfl
  | cons x r ih => show (_ :: _ :: pairs r).length = _; simp only [List.length_cons, ih]; omega
/-- Eleven numbers: how many wait, and what. -/
def qrow (q : List (Nat × Int)) : List Int := (q.length : Int) :: (pairs q ++ List.replicate (10 - q.length * 2) 0)
theorem qrow_length {q : List (Nat × Int)} (h : q.length ≤ 5) : (qrow q).length = 11 := by
  simp only [qrow, List.length_cons, List.length_append, pairs_length, List.length_replicate]; omega
theorem qrow_put {q : List (Nat × Int)} (h : q.length < 5) (d : Nat) (v : Int) : (((qrow q).set (1 + q.length * 2) (d : Int)).set (1 + q.length * 2 + 1) v).set 0 ((q.length : Int) + 1) = qrow (q ++ [(d, v)]) := by
  match q, h with
  | [], _ => rfl
  | [a], _ => rfl
  | [a, b], _ => rfl
  | [a, b, c], _ => rfl
  | [a, b, c, e], _ => rfl
theorem set_mid (pre mid post : List Int) (i : Nat) (v : Int) (h : i < mid.length) : (pre ++ (mid ++ post)).set (pre.length + i) v = pre ++ (mid.set i v ++ post) := by
  rw [List.set_append_right _ _ (by omega), Nat.add_sub_cancel_left, List.set_append_left _ _ h]
theorem get_mid (pre mid post : List Int) (i : Nat) (h : i < mid.length) : (pre ++ (mid ++ post))[pre.length + i]? = mid[i]? := by
  rw [List.getElem?_append_right (by omega), Nat.add_sub_cancel_left, List.getElem?_append_left h]
theorem row_mid {pre mid post : List Int} {i : Nat} {z : Int} (h : mid[i]? = some z) : (row (pre ++ (mid ++ post)))[pre.length + i]? = some (.int .i64 z) :=
  row_get ((get_mid pre mid post i (List.getElem?_eq_some_iff.1 h).1).trans h)
theorem Block.setMid {w : World} {g T : Nat} {pre mid post : List Int} (h : Block w g T (row (pre ++ (mid ++ post)))) (i : Nat) (hi : i < mid.length) (z : Int) :
    Block (w.setCell ⟨g, pre.length + i, none⟩ (.int .i64 z)) g T (row (pre ++ (mid.set i z ++ post))) := by
  have := h.put (pre.length + i) (.int .i64 z)
  rwa [row_set, set_mid _ _ _ _ _ hi] at this
theorem pairs_get {q : List (Nat × Int)} {i : Nat} {e : Nat × Int} (h : q[i]? = some e) : (qrow q)[1 + i * 2]? = some (e.1 : Int) ∧ (qrow q)[1 + i * 2 + 1]? = some e.2 := by
  suffices ∀ (q : List (Nat × Int)) (i : Nat), q[i]? = some e → (pairs q)[i * 2]? = some (e.1 : Int) ∧ (pairs q)[i * 2 + 1]? = some e.2 by
    obtain ⟨h1, h2⟩ := this q i h
    have hl := pairs_length q
    have hi := (List.getElem?_eq_some_iff.1 h).1
    unfold qrow
    rw [show 1 + i * 2 + 1 = (i * 2 + 1) + 1 by omega, show 1 + i * 2 = i * 2 + 1 by omega, List.getElem?_cons_succ, List.getElem?_cons_succ, List.getElem?_append_left (by omega), List.getElem?_append_left (by omega)]
    exact ⟨h1, h2⟩
  intro q
  induction q with
  | nil => intro i h; simp at h
  | cons x r ih =>
    intro i h
    cases i with
    | zero => simp at h; subst h; exact ⟨rfl, rfl⟩
    | succ i =>
      have := ih i (by simpa using h)
      rw [show (i + 1) * 2 = i * 2 + 1 + 1 by omega, show pairs (x :: r) = (x.1 : Int) :: x.2 :: pairs r from rfl]
      simpa using this

/-! ### copy of elements of several cells -/
section
variable {P : Program}
theorem run_copy_wide (w : World) (dT sT ty elem : TypeId) (k b o dLen dCap : Nat) (a : Addr) (sLen sCap : Nat) (cs : List Value)
    (hu : P.underlying dT = some (.slice elem)) (hs : (P.info? elem).map (·.size) = some k) (hn : cs.length = Nat.min sLen dLen * k)
    (hsrc : ∀ j v, cs[j]? = some v → w.cell? (a.add j) = some v) (hc : ∀ j, j < cs.length → (w.cell? ⟨b, o + j, none⟩).isSome = true) (hf : ∀ j, j < cs.length → w.frozen? ⟨b, o + j, none⟩ = false) (h1 : ∀ v ∈ cs, v.oneCell' = true) :
    (Builtin.copy_ #[dT, sT] ty #[.slice (some ⟨b, o, none⟩) dLen dCap, .slice (some a) sLen sCap]).run P w = .ok (goInt (Nat.min sLen dLen)) (w.setCells b o cs) := by
  have hl := run_loadCells_list (P := P) w a cs hsrc
  have hst := run_storeCells_cells (P := P) b o cs 0 w (by simpa using hc) (by simpa using hf) h1
  cases hq : P.info? elem with
  | none => simp [hq] at hs
  | some i =>
    have hi : i.size = k := by simpa [hq] using hs
    simp [Builtin.copy_, run_underlying hu, Builtin.lenOf, Builtin.firstCells, sizeOf, typeInfo, hq, hi, ← hn, hl, hst]
end

set_option maxHeartbeats 1000000 in
theorem rput_any (g T : Nat) (pre post : List Int) (q : List (Nat × Int)) (d : Nat) (v : Int) (w : World) (hb : Block w g T (row (pre ++ (qrow q ++ post)))) (hq : q.length < 5) :
    Calls Tryd.prog 57 #[.pointer (some ⟨g, pre.length, none⟩), .int .i64 d, .int .i64 v] w fun e w' => e = .returned (.tuple #[]) ∧ Touch (fun k => k = g) w w' ∧ Block w' g T (row (pre ++ (qrow (q ++ [(d, v)]) ++ post))) := by
  have hl := qrow_length (q := q) (by omega)
  have c0 := (hb.cell (pre.length + 0)).trans (row_mid (i := 0) rfl)
  obtain ⟨x1, hx1⟩ : ∃ x, (qrow q)[1 + q.length * 2]? = some x := ⟨_, List.getElem?_eq_getElem (by omega)⟩
  obtain ⟨x2, hx2⟩ : ∃ x, (qrow q)[1 + q.length * 2 + 1]? = some x := ⟨_, List.getElem?_eq_getElem (by omega)⟩
  have c1 := (hb.cell (pre.length + (1 + q.length * 2))).trans (row_mid hx1)
  have c2 := (hb.cell (pre.length + (1 + q.length * 2 + 1))).trans (row_mid hx2)
  have f0 := hb.free (pre.length + 0)
  have f1 := hb.free (pre.length + (1 + q.length * 2))
  have f2 := hb.free (pre.length + (1 + q.length * 2 + 1))
  simp only [← Nat.add_assoc] at c1 c2 f1 f2
  rw [Nat.add_zero] at c0 f0
  have HB := Lib.hid hb
  have HQ := Lib.hid hq
  have HL := Lib.hid hl
  have hq5 : (q.length : Int) < 5 := by omega
  have hq0 : (0 : Int) ≤ (q.length : Int) := by omega
  obtain ⟨m, hm⟩ : ∃ m, m = q.length := ⟨_, rfl⟩
  obtain ⟨o, ho⟩ : ∃ o, o = pre.length := ⟨_, rfl⟩
  rw [← hm] at c0 c1 c2 f1 f2 hq5 hq0
  rw [← ho] at c0 c1 c2 f0 f1 f2
  rw [← ho]
  have HM := Lib.hid hm
  have HO := Lib.hid ho
  clear hm ho hb hq hl hx1 hx2
  go_enter Tryd.func57, Tryd.ntmps57
  go_wp2_with fail
  go_region
  all_goals
    go_wp2_with fail
    have hl := HL.out
    have hm := HM.out
    have hq5' := HQ.out
    have b1 := HB.out.setMid (1 + m * 2) (by omega) (d : Int)
    have b2 := b1.setMid (1 + m * 2 + 1) (by rw [List.length_set]; omega) v
    have b3 := b2.setMid 0 (by rw [List.length_set, List.length_set]; omega) ((m : Int) + 1)
    rw [hm, qrow_put HQ.out, ← hm, ← HO.out, Nat.add_zero, ← Nat.add_assoc, ← Nat.add_assoc, ← Nat.add_assoc] at b3
    have ht : Touch (fun k => k = g) w (((w.setCell ⟨g, o + 1 + m * 2, none⟩ (.int .i64 d)).setCell ⟨g, o + 1 + m * 2 + 1, none⟩ (.int .i64 v)).setCell ⟨g, o, none⟩ (.int .i64 ((m : Int) + 1))) :=
      (((Touch.refl (fun k => k = g) w).setCell (p := ⟨g, _, none⟩) (Or.inl rfl) _).setCell (p := ⟨g, _, none⟩) (Or.inl rfl) _).setCell (p := ⟨g, _, none⟩) (Or.inl rfl) _
    exact bodyPost_end (results_none rfl _ _ _) rfl ⟨rfl, ht.drew, b3.drew⟩

/-- Numbers laid over a row, from a place on. -/
def pasteAt : List Int → Nat → List Int → List Int
  | mid, _, [] => mid
  | mid, i, y :: ys => pasteAt (mid.set i y) (i + 1) ys
theorem pasteAt_length : ∀ (ys mid : List Int) (i : Nat), (pasteAt mid i ys).length = mid.length
  | [], _, _ => rfl
  | y :: ys, mid, i => by rw [pasteAt, pasteAt_length ys, List.length_set]
theorem Block.pasteMid {g T : Nat} {pre post : List Int} : ∀ (ys mid : List Int) (w : World) (i : Nat), Block w g T (row (pre ++ (mid ++ post))) → i + ys.length ≤ mid.length →
    Block (w.setCells g (pre.length + i) (ys.map (Value.int .i64))) g T (row (pre ++ (pasteAt mid i ys ++ post)))
  | [], _, _, _, h, _ => h
  | y :: ys, mid, w, i, h, hi => by
    simp only [List.length_cons] at hi
    have h1 := h.setMid i (by omega) y
    have h2 := Block.pasteMid ys (mid.set i y) _ (i + 1) h1 (by rw [List.length_set]; omega)
    rwa [← Nat.add_assoc] at h2
theorem pasteAt_other : ∀ (ys mid : List Int) (i k : Nat), k < i → (pasteAt mid i ys)[k]? = mid[k]?
  | [], _, _, _, _ => rfl
  | y :: ys, mid, i, k, h => by rw [pasteAt, pasteAt_other ys _ _ _ (by omega), List.getElem?_set_ne (by omega)]
theorem touch_setCells {O : Nat → Prop} {a b : World} (h : Touch O a b) {g : Nat} (hg : O g ∨ a.heap.size ≤ g) : ∀ (vs : List Value) (o : Nat), Touch O a (b.setCells g o vs) := by
  intro vs
  induction vs generalizing b with
  | nil => intro o; exact h
  | cons v r ih => intro o; exact ih (h.setCell (p := ⟨g, o, none⟩) hg v) (o + 1)
theorem qrow_take {x : Nat × Int} {q : List (Nat × Int)} (h : q.length < 5) : (((pasteAt (qrow (x :: q)) 1 ((qrow (x :: q)).drop 3)).set 0 (q.length : Int)).set (1 + q.length * 2) 0).set (1 + q.length * 2 + 1) 0 = qrow q := by
  match q, h with
  | [], _ => rfl
  | [a], _ => rfl
  | [a, b], _ => rfl
  | [a, b, c], _ => rfl
  | [a, b, c, e], _ => rfl
theorem Tsd.info : (Tryd.prog.info? 74).map (·.size) = some 2 := by kernel_rfl

set_option maxRecDepth 100000 in
set_option maxHeartbeats 1000000 in
theorem rtake_any (g T : Nat) (pre post : List Int) (x : Nat × Int) (q : List (Nat × Int)) (w : World) (hb : Block w g T (row (pre ++ (qrow (x :: q) ++ post)))) (hq : q.length < 5) :
    Calls Tryd.prog 58 #[.pointer (some ⟨g, pre.length, none⟩)] w fun e w' => e = .returned (.agg #[.int .i64 x.1, .int .i64 x.2]) ∧ Touch (fun k => k = g) w w' ∧ Block w' g T (row (pre ++ (qrow q ++ post))) := by
  obtain ⟨d, v⟩ := x
  have hl := qrow_length (q := (d, v) :: q) (by simp; omega)
  obtain ⟨hx1, hx2⟩ := pairs_get (q := (d, v) :: q) (i := 0) rfl
  have c1 := (hb.cell (pre.length + 1)).trans (row_mid hx1)
  have c2 := (hb.cell (pre.length + 1 + 1)).trans (row_mid (i := 1 + 1) hx2)
  simp only at c1 c2
  have hgl := hb.lt
  have HB := Lib.hid hb
  have HQ := Lib.hid hq
  have HL := Lib.hid hl
  obtain ⟨o, ho⟩ : ∃ o, o = pre.length := ⟨_, rfl⟩
  rw [← ho] at c1 c2
  rw [← ho]
  have HO := Lib.hid ho
  clear ho hb hq hl hx1 hx2
  go_enter Tryd.func58, Tryd.ntmps58
  go_wp2_with fail
  obtain ⟨W, hW⟩ : ∃ W, W = (w.alloc (.cells #[.int .i64 0, .int .i64 0] 74)).alloc (.cells #[.int .i64 d, .int .i64 v] 74) := ⟨_, rfl⟩
  rw [← hW]
  have hT : Touch (fun k => k = g) w W := by rw [hW]; exact ((Touch.refl _ w).alloc _).alloc _
  have hBW : Block W g T (row (pre ++ (qrow ((d, v) :: q) ++ post))) := by rw [hW]; exact (HB.out.alloc _).alloc _
  have h2 : Block W w.heap.size 74 #[.int .i64 0, .int .i64 0] := by rw [hW]; exact (Block.made w _ _).alloc _
  have h3 : Block W (w.heap.size + 1) 74 #[.int .i64 d, .int .i64 v] := by
    rw [hW]
    have := Block.made (w.alloc (.cells #[.int .i64 0, .int .i64 0] 74)) 74 #[.int .i64 d, .int .i64 v]
    rwa [World.size_alloc] at this
  obtain ⟨cs, hcs⟩ : ∃ cs : List Int, cs = (qrow ((d, v) :: q)).drop 3 := ⟨_, rfl⟩
  have hcl : cs.length = 8 := by rw [hcs, List.length_drop, HL.out]
  have hrun : (Builtin.copy_ #[148, 148] 3 #[.slice (some ⟨g, o + 1, none⟩) 5 5, .slice (some ⟨g, o + 1 + 2, none⟩) 4 4]).run Tryd.prog W.drew = .ok (goInt (Nat.min 4 5)) (W.drew.setCells g (o + 1) (cs.map (Value.int .i64))) := by
    refine run_copy_wide W.drew _ _ _ 74 2 g (o + 1) 5 5 ⟨g, o + 1 + 2, none⟩ 4 4 (cs.map (Value.int .i64)) Tryd.underlying148 Tsd.info (by rw [List.length_map, hcl]; rfl) (fun j u hj => ?_) (fun j hj => ?_) (fun j _ => hBW.free _) (fun u hu => ?_)
    · rw [List.getElem?_map] at hj
      cases e : cs[j]? with
      | none => rw [e] at hj; cases hj
      | some z =>
        rw [e] at hj
        obtain rfl := Option.some.inj hj
        rw [hcs, List.getElem?_drop] at e
        rw [Addr.add_lit, show o + 1 + 2 + j = pre.length + (3 + j) by rw [HO.out]; omega]
        exact (hBW.cell _).trans (row_mid e)
    · rw [List.length_map, hcl] at hj
      obtain ⟨z, hz⟩ : ∃ z, (qrow ((d, v) :: q))[1 + j]? = some z := ⟨_, List.getElem?_eq_getElem (by rw [HL.out]; omega)⟩
      have := (hBW.cell (pre.length + (1 + j))).trans (row_mid hz)
      rw [← HO.out, ← Nat.add_assoc] at this
      rw [show W.drew.cell? ⟨g, o + 1 + j, none⟩ = _ from this]; rfl
    · obtain ⟨z, _, rfl⟩ := List.mem_map.1 hu
      rfl
  have HRUN := Lib.hid hrun
  have HT := Lib.hid hT
  have HBW := Lib.hid hBW
  have H2 := Lib.hid h2
  have H3 := Lib.hid h3
  have HCL := Lib.hid hcl
  have HCS := Lib.hid hcs
  clear hW hT hBW h2 h3 hcs hcl hrun c1 c2
  go_still_tail 8, (by kernel_rfl)
  change wpList _ _ _ _ _ W.drew
  refine Lib.wpList_copy_run _ rfl _ _ 148 148 rfl _ _ rfl rfl HRUN.out ?_
  obtain ⟨X, hX⟩ : ∃ X, X = W.drew.setCells g (o + 1) (cs.map (Value.int .i64)) := ⟨_, rfl⟩
  rw [← hX]
  have hTX : Touch (fun k => k = g) W X := by rw [hX]; exact touch_setCells (O := fun k => k = g) ((Touch.refl _ W).drew) (Or.inl rfl) _ _
  obtain ⟨mid, hmid⟩ : ∃ mid, mid = pasteAt (qrow ((d, v) :: q)) 1 cs := ⟨_, rfl⟩
  have hBX : Block X g T (row (pre ++ (mid ++ post))) := by
    have := Block.pasteMid cs (qrow ((d, v) :: q)) W.drew 1 HBW.out (by rw [HCL.out, HL.out]; omega)
    rwa [← HO.out, ← hX, ← hmid] at this
  have hml : mid.length = 11 := by rw [hmid, pasteAt_length, HL.out]
  have hm0 : mid[0]? = some ((q.length : Int) + 1) := by rw [hmid, pasteAt_other _ _ _ _ (by omega)]; rfl
  obtain ⟨n, hn⟩ : ∃ n, n = q.length := ⟨_, rfl⟩
  rw [← hn] at hm0
  have hn5 : n < 5 := by have := HQ.out; omega
  obtain ⟨y1, hy1⟩ : ∃ y, mid[1 + n * 2]? = some y := ⟨_, List.getElem?_eq_getElem (by omega)⟩
  obtain ⟨y2, hy2⟩ : ∃ y, mid[1 + n * 2 + 1]? = some y := ⟨_, List.getElem?_eq_getElem (by omega)⟩
  have a0 := (hBX.cell (pre.length + 0)).trans (row_mid hm0)
  have a1 := (hBX.cell (pre.length + (1 + n * 2))).trans (row_mid hy1)
  have a2 := (hBX.cell (pre.length + (1 + n * 2 + 1))).trans (row_mid hy2)
  have f0 := hBX.free (pre.length + 0)
  have f1 := hBX.free (pre.length + (1 + n * 2))
  have f2 := hBX.free (pre.length + (1 + n * 2 + 1))
  simp only [← Nat.add_assoc, ← HO.out] at a1 a2 f1 f2
  rw [Nat.add_zero, ← HO.out] at a0 f0
  have h2X := H2.out.touch hTX (by have := HB.out.lt; omega)
  have h3X := H3.out.touch hTX (by have := HB.out.lt; omega)
  have d0 := h3X.cell 0
  have d1 := h3X.cell 1
  have e0 := h2X.cell 0
  have e1 := h2X.cell 1
  have e2 := h2X.free 0
  have e3 := h2X.free 1
  simp at d0 d1 e0 e1
  have hn5' : (n : Int) < 5 := by omega
  have hn0 : (0 : Int) ≤ n := by omega
  have hgl' : g < W.heap.size := HBW.out.lt
  have HTX := Lib.hid hTX
  have HBX := Lib.hid hBX
  have HML := Lib.hid hml
  have HMID := Lib.hid hmid
  have HN := Lib.hid hn
  have H2X := Lib.hid h2X
  clear hX hTX hBX hml hmid hn h2X h3X hm0 hy1 hy2
  go_wp2_with fail
  have hne : g ≠ w.heap.size := by have := HB.out.lt; omega
  go_region
  all_goals
    go_wp2_with fail
    have hml := HML.out
    have b1 := HBX.out.setMid 0 (by omega) (n : Int)
    have b2 := b1.setMid (1 + n * 2) (by rw [List.length_set]; omega) 0
    have b3 := b2.setMid (1 + n * 2 + 1) (by rw [List.length_set, List.length_set]; omega) 0
    rw [HMID.out, HCS.out, HN.out, qrow_take HQ.out, ← HN.out, ← HO.out, Nat.add_zero, ← Nat.add_assoc, ← Nat.add_assoc, ← Nat.add_assoc] at b3
    refine bodyPost_ret (v := .agg #[.int .i64 d, .int .i64 v]) (by simp [results, Tryd.results58, go_sem, e0, e1]) rfl ⟨rfl, ?_, ?_⟩
    · have ht : Touch (fun k => k = g) w (((X.setCell ⟨g, o, none⟩ (.int .i64 n)).setCell ⟨g, o + 1 + n * 2, none⟩ (.int .i64 0)).setCell ⟨g, o + 1 + n * 2 + 1, none⟩ (.int .i64 0)) :=
        (((HT.out.trans HTX.out fun i h => Or.inl h).setCell (p := ⟨g, _, none⟩) (Or.inl rfl) _).setCell (p := ⟨g, _, none⟩) (Or.inl rfl) _).setCell (p := ⟨g, _, none⟩) (Or.inl rfl) _
      repeat (with_reducible (first | exact ht | refine Touch.drew ?_ | refine Touch.setCell (p := ⟨w.heap.size, _, none⟩) ?_ (Or.inr (Nat.le_refl _)) _))
    · repeat (with_reducible (first | exact b3 | refine Block.drew ?_ | refine Block.far (p := ⟨w.heap.size, _, none⟩) ?_ hne _))

/-- The words as a list, for who has this waiting. -/
def ovr (ws : List Int) (q : List (Nat × Int)) : List Int := q.foldl (fun u e => u.set e.1 e.2) ws
theorem ovr_length (q : List (Nat × Int)) : ∀ ws : List Int, (ovr ws q).length = ws.length := by
  induction q with
  | nil => intro ws; rfl
  | cons x r ih => intro ws; exact (ih _).trans (List.length_set ..)
theorem ovr_snoc (q : List (Nat × Int)) (ws : List Int) (e : Nat × Int) : ovr ws (q ++ [e]) = (ovr ws q).set e.1 e.2 := by
  unfold ovr; rw [List.foldl_append]; rfl
theorem l4w (l : List Int) (h : l.length = 4) : ∃ a b c d, l = [a, b, c, d] := by
  match l, h with
  | [a, b, c, d], _ => exact ⟨a, b, c, d, rfl⟩
theorem T4.info : (Tryd.prog.info? 61).map (·.size) = some 4 := by kernel_rfl

set_option maxRecDepth 100000 in
set_option maxHeartbeats 1000000 in
theorem rover_any (g T : Nat) (pre post : List Int) (q : List (Nat × Int)) (ws : List Int) (w : World) (hb : Block w g T (row (pre ++ (qrow q ++ post)))) (hq : q.length ≤ 5) (hws : ws.length = 4) (hd : ∀ e ∈ q, e.1 < 4) :
    Calls Tryd.prog 56 #[.pointer (some ⟨g, pre.length, none⟩), .agg (row ws)] w fun e w' => e = .returned (.agg (row (ovr ws q))) ∧ Below w.heap.size w w' := by
  have hl := qrow_length (q := q) hq
  have c0 := (hb.cell (pre.length + 0)).trans (row_mid (i := 0) rfl)
  rw [Nat.add_zero] at c0
  have hgl := hb.lt
  obtain ⟨x0, x1, x2, x3, rfl⟩ := l4w ws hws
  have HB := Lib.hid hb
  have HD := Lib.hid hd
  obtain ⟨o, ho⟩ : ∃ o, o = pre.length := ⟨_, rfl⟩
  obtain ⟨m, hm⟩ : ∃ m, m = q.length := ⟨_, rfl⟩
  rw [← ho, ← hm] at c0
  rw [← ho]
  have hm5 : (m : Int) ≤ 5 := by omega
  have hm0 : (0 : Int) ≤ m := by omega
  have HM := Lib.hid hm
  have HO := Lib.hid ho
  clear ho hb hl hm hq hd hws
  go_enter Tryd.func56, Tryd.ntmps56
  go_wp2_with fail
  obtain ⟨W, hW⟩ : ∃ W, W = (w.alloc (.cells (row [x0, x1, x2, x3]) 61)).alloc (.cells #[.int .i64 0, .int .i64 0, .int .i64 0, .int .i64 0] 61) := ⟨_, rfl⟩
  rw [← hW]
  have hBe : Below w.heap.size w W := by rw [hW]; exact ((Below.refl _ _).alloc (Nat.le_refl _) _).alloc (by simp) _
  have h3 : Block W w.heap.size 61 (row [x0, x1, x2, x3]) := by rw [hW]; exact (Block.made w _ _).alloc _
  have h4 : Block W (w.heap.size + 1) 61 #[.int .i64 0, .int .i64 0, .int .i64 0, .int .i64 0] := by
    rw [hW]
    have := Block.made (w.alloc (.cells (row [x0, x1, x2, x3]) 61)) 61 #[.int .i64 0, .int .i64 0, .int .i64 0, .int .i64 0]
    rwa [World.size_alloc] at this
  have hs : W.heap.size = w.heap.size + 2 := by rw [hW]; simp
  have e0 : W.cell? ⟨g, o, none⟩ = some (.int .i64 m) := (hBe.cell (p := ⟨g, o, none⟩) hgl).trans c0
  have HBE := Lib.hid hBe
  have H3 := Lib.hid h3
  have H4 := Lib.hid h4
  have HS := Lib.hid hs
  clear hW hBe h3 h4 hs c0
  go_region
  all_goals
    go_wp2_with fail
    go_loopw [16] (fun i wr => ∃ k : Nat, k ≤ m ∧ i = .int .i64 k ∧ Below w.heap.size w wr ∧ Block wr w.heap.size 61 (row (ovr [x0, x1, x2, x3] (q.take k))) ∧ Block wr (w.heap.size + 1) 61 #[.int .i64 0, .int .i64 0, .int .i64 0, .int .i64 0]) (fun i _ => m - (intOf i).toNat)
    case atStart => exact ⟨0, Nat.zero_le _, rfl, HBE.out.drew, H3.out.drew, H4.out.drew⟩
    case round =>
      obtain ⟨k, hk, rfl, hbw, b3, b4⟩ := hrel
      have HBW := Lib.hid hbw
      have B3 := Lib.hid b3
      have B4 := Lib.hid b4
      clear hbw b3 b4 HBE H3 H4 e0
      by_cases hlt : k < m
      · have i1 : (k : Int) < m := by omega
        have hkq : k < q.length := by rw [← HM.out]; exact hlt
        have hqk : q[k]? = some q[k] := List.getElem?_eq_getElem hkq
        have hts : q.take (k + 1) = q.take k ++ [q[k]] := List.take_succ_eq_append_getElem hkq
        have hdk := HD.out q[k] (List.getElem_mem hkq)
        obtain ⟨⟨d, v⟩, hdv⟩ : ∃ e, e = q[k] := ⟨_, rfl⟩
        rw [← hdv] at hqk hts hdk
        obtain ⟨hx1, hx2⟩ := pairs_get hqk
        have c1 := (HBW.out.cell (p := ⟨g, pre.length + (1 + k * 2), none⟩) hgl).trans ((HB.out.cell _).trans (row_mid hx1))
        have c2 := (HBW.out.cell (p := ⟨g, pre.length + (1 + k * 2 + 1), none⟩) hgl).trans ((HB.out.cell _).trans (row_mid hx2))
        simp only [← Nat.add_assoc, ← HO.out] at c1 c2
        simp only at hdk
        have hd4 : (d : Int) < 4 := by omega
        have hd0 : (0 : Int) ≤ d := by omega
        obtain ⟨z, hz⟩ : ∃ z, (ovr [x0, x1, x2, x3] (q.take k))[d]? = some z := ⟨_, List.getElem?_eq_getElem (by rw [ovr_length]; exact hdk)⟩
        have c3 := (B3.out.cell d).trans (row_get hz)
        have f3 := B3.out.free d
        have hw0 := B3.out.lt
        have hgw : g < wr.heap.size := by omega
        have HTS := Lib.hid hts
        clear hdv hqk hts hx1 hx2 hz hdk
        go_wp2_with fail
        go_roundw
        case rel =>
          refine ⟨k + 1, by omega, by go_num, ?_, ?_, ?_⟩
          · exact (HBW.out.setCell (p := ⟨w.heap.size, d, none⟩) (Nat.le_refl _) _).alloc (by simp [World.setCell]; omega) _
          · have := (B3.out.put d (.int .i64 v)).alloc (.cells #[.int .i64 d, .int .i64 v] 74)
            rw [row_set] at this
            rw [HTS.out, ovr_snoc]
            exact this
          · exact (B4.out.far (p := ⟨w.heap.size, d, none⟩) (by simp) _).alloc _
        case measure => simp [intOf]; omega
      · have i1 : ¬ (k : Int) < m := by omega
        have hkm : k = q.length := by rw [← HM.out]; omega
        have htk : q.take k = q := by rw [hkm]; exact List.take_length
        have b3 := B3.out
        rw [htk] at b3
        have B3' := Lib.hid b3
        have hol : (ovr [x0, x1, x2, x3] q).length = 4 := ovr_length q _
        have HOL := Lib.hid ((row_size _).trans hol)
        clear hkm htk b3 hol B3
        go_wp2_with (first | (refine wpList_load_row rfl 61 (.tmp 3) rfl w.heap.size rfl _ (row (ovr [x0, x1, x2, x3] q)) _ _ B3'.out Tryd.underlying61 rfl (by rw [HOL.out]; exact T4.info) ?_) | (refine wpList_store_row rfl 61 (.tmp 4) (.tmp 26) rfl (w.heap.size + 1) (row (ovr [x0, x1, x2, x3] q)) rfl rfl _ _ B4.out (by rw [HOL.out]; exact T4.info) (by rw [HOL.out]; rfl) (row_one _) ?_))
        have hB := setRow_heap wr (w.heap.size + 1) _ (row (ovr [x0, x1, x2, x3] q)) 61 _ B4.out
        exact bodyPost_ret (v := .agg (row (ovr [x0, x1, x2, x3] q))) (results_cell_row rfl _ _ (w.heap.size + 1) _ _ _ _ rfl hB Tryd.underlying61 rfl (by rw [HOL.out]; exact T4.info)) rfl ⟨rfl, below_setRow HBW.out (by omega) _⟩
end Go.Proofs.YthpnnmkpbkbanaaDoor
