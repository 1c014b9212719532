/-
  Package lin: finish (it calls itself), Row.
-/
import Derived.Test.YtimdhnjkjflbdaaLinMay
import Derived.ArgAppend
import Derived.Laws.MakeOwn
namespace Go.Proofs.Ytimdhnjkjflbdaa.Lin
open Go.RowKit

/-- The block that the search writes in: room for n, and the row so far. -/
structure RowAt (W : World) (b n : Nat) (told : List Nat) : Prop where
  lt : b < W.heap.size
  room : ∀ j, j < n → (W.cell? ⟨b, j, none⟩).isSome = true
  free : ∀ j, W.frozen? ⟨b, j, none⟩ = false
  le : told.length ≤ n
  at_ : ∀ (j x : Nat), told[j]? = some x → W.cell? ⟨b, j, none⟩ = some (.int .i64 (x : Int))
section
variable {W W' : World} {b n : Nat} {told : List Nat}
theorem RowAt.nums (h : RowAt W b n told) (hl : told.length ≤ 8) (c : Nat) : Nums W W.heap.size (.slice (some ⟨b, 0, none⟩) told.length c) (told.map Int.ofNat) := by
  refine ⟨some ⟨b, 0, none⟩, c, by rw [List.length_map], by rw [List.length_map]; omega, fun _ => ⟨b, 0, rfl, h.lt, fun i z hz => ?_⟩⟩
  rw [List.getElem?_map] at hz
  cases hx : told[i]? with
  | none => rw [hx] at hz; cases hz
  | some x =>
    rw [hx] at hz
    rw [Nat.zero_add, h.at_ i x hx]
    exact congrArg (fun z => some (Value.int .i64 z)) (Option.some.inj hz)
theorem RowAt.below (h : RowAt W b n told) (hb : Below W.heap.size W W') : RowAt W' b n told :=
  ⟨Nat.lt_of_lt_of_le h.lt hb.size, fun j hj => by rw [hb.cell (p := ⟨b, j, none⟩) h.lt]; exact h.room j hj, fun j => by rw [World.frozen?_of_block (w := W) (a := ⟨b, j, none⟩) (hb.block b h.lt)]; exact h.free j, h.le,
    fun j x hx => (hb.cell (p := ⟨b, j, none⟩) h.lt).trans (h.at_ j x hx)⟩
theorem RowAt.put (h : RowAt W b n told) (i : Nat) (hl : told.length < n) : RowAt (W.setCell ⟨b, told.length, none⟩ (.int .i64 (i : Int))) b n (told ++ [i]) := by
  refine ⟨by simp only [World.setCell, Array.size_modify]; exact h.lt, fun j hj => ?_, fun j => by rw [World.frozen?_setCell]; exact h.free j, by simp; omega, fun j x hx => ?_⟩
  · by_cases e : j = told.length
    · subst e
      obtain ⟨u, hu⟩ := Option.isSome_iff_exists.1 (h.room _ hl)
      rw [World.cell?_setCell_same _ _ _ hu]; rfl
    · rw [World.cell?_setCell_other _ _ _ _ fun c => e (by injection c with _ c; exact c.symm)]
      exact h.room j hj
  · by_cases e : j = told.length
    · subst e
      obtain ⟨u, hu⟩ := Option.isSome_iff_exists.1 (h.room _ hl)
      rw [World.cell?_setCell_same _ _ _ hu]
      rw [List.getElem?_append_right (Nat.le_refl _), Nat.sub_self] at hx
      have : i = x := by simpa using hx
      rw [this]
    · rw [World.cell?_setCell_other _ _ _ _ fun c => e (by injection c with _ c; exact c.symm)]
      have hj : j < told.length := by
        have := (List.getElem?_eq_some_iff.1 hx).1
        simp at this
        omega
      rw [List.getElem?_append_left hj] at hx
      exact h.at_ j x hx
theorem RowAt.front {r : List Nat} (h : RowAt W b n (told ++ r)) : RowAt W b n told :=
  ⟨h.lt, h.room, h.free, by have := h.le; simp at this; omega, fun j x hx => h.at_ j x (by rw [List.getElem?_append_left (List.getElem?_eq_some_iff.1 hx).1]; exact hx)⟩
end
/-- What finish answers, and what it leaves: in whichever world. -/
def FinT (b n : Nat) (told : List Nat) (r : Option (List Nat)) (e : Ending) (w' : World) : Prop :=
  match r with
  | some L => e = .returned (.tuple #[.slice (some ⟨b, 0, none⟩) n n, .bool true]) ∧ RowAt w' b n L
  | none => e = .returned (.tuple #[.slice none 0 0, .bool false]) ∧ RowAt w' b n told
/-- Nothing has turned but the block of the row, and new ones. -/
abbrev TouchB (b : Nat) (w w' : World) : Prop := Touch (fun k => k = b) w w'
section
variable {W W' : World} {b n : Nat} {told : List Nat}
theorem RowAt.olds (h : RowAt W b n told) : ∀ j u, (told.map fun x : Nat => Value.int .i64 (x : Int))[j]? = some u → W.cell? ⟨b, 0 + j, none⟩ = some u := fun j u hu => by
  rw [List.getElem?_map] at hu
  cases hx : told[j]? with
  | none => rw [hx] at hu; cases hu
  | some x =>
    rw [hx] at hu
    rw [Nat.zero_add, h.at_ j x hx]
    exact hu
theorem RowAt.spare (h : RowAt W b n told) (z : Value) : told.length + 1 ≤ n → ∀ j, j < [z].length → (W.cell? ⟨b, 0 + told.length * 1 + j, none⟩).isSome = true ∧ W.frozen? ⟨b, 0 + told.length * 1 + j, none⟩ = false := fun hl j hj => by
  have : j = 0 := by simp at hj; exact hj
  subst this
  rw [show 0 + told.length * 1 + 0 = told.length by omega]
  exact ⟨h.room _ (by omega), h.free _⟩
theorem lt_snoc {told : List Nat} {i n : Nat} (ht : ∀ x, x ∈ told → x < n) (hi : i < n) : ∀ x, x ∈ told ++ [i] → x < n := fun x hx => by
  rcases List.mem_append.1 hx with e | e
  · exact ht x e
  · have : x = i := by simpa using e
    rw [this]; exact hi
theorem set_one (W : World) (m : Nat) (u : Value) : W.setCells b (0 + m * 1) [u] = W.setCell ⟨b, m, none⟩ u := by rw [show 0 + m * 1 = m by omega]; rfl
theorem Ops.touchB {w w' : World} {v : Value} {h : List LO} (hh : Ops w b v h) (hb : b < w.heap.size) (ht : TouchB b w w') : Ops w' b v h :=
  hh.keep fun p hp => ht.cell (by omega) (by omega)
end
set_option maxHeartbeats 8000000 in
set_option maxRecDepth 100000 in
theorem finish_any {h : List LO} (ob : Nat) (h2 : ob ≤ 2) (hin : ∀ i, i < h.length → (lat h i).inb) (h8 : h.length ≤ 8) (v : Value) (b : Nat) : ∀ (k : Nat) (told : List Nat) (w : World), told.length + k = h.length → (∀ x, x ∈ told → x < h.length) → Ops w b v h → RowAt w b h.length told →
    Calls Try.prog 47 #[.int .i64 ob, v, .slice (some ⟨b, 0, none⟩) told.length h.length] w fun e w' => FinT b h.length told (pfin ob h.length (hops h) k told) e w' ∧ TouchB b w w' := by
  intro k
  induction k with
  | zero =>
    intro told w hk ht hh hr
    have HG := Lib.hid (gets_any ob h2 hin told ht (by omega) v (.slice (some ⟨b, 0, none⟩) told.length h.length) w (hh.more (Nat.le_of_lt hr.lt)) (hr.nums (by omega) _))
    obtain ⟨A, c, rfl, -, -⟩ := id hh
    have hle : ((told.length : Int) == (h.length : Int)) = true := beq_iff_eq.2 (by omega)
    have HR := Lib.hid hr
    have HK := Lib.hid hk
    have HP := Lib.hid (show lgoB ob (hops h) (linit ob) told = false → pfin ob h.length (hops h) 0 told = none from pfin_bad)
    have HP1 := Lib.hid (show lgoB ob (hops h) (linit ob) told = true → pfin ob h.length (hops h) 0 told = some told from pfin_full)
    generalize pfin ob h.length (hops h) 0 told = r at HP HP1 ⊢
    generalize lgoB ob (hops h) (linit ob) told = g at HP HP1 HG
    clear hr hh hk
    cases g with
    | false =>
      rw [HP.out rfl]
      clear HP HP1
      go_enter Try.func47, Try.ntmps47
      go_wp2_with (go_at_call 54; (with_reducible refine HG.out.mono ?_); rintro e w9 ⟨rfl, hb9⟩; have HB9 := Lib.hid hb9; clear hb9)
      go_ret2
      exact ⟨⟨rfl, HR.out.below HB9.out⟩, Touch.of_below HB9.out fun i h1 h2 => absurd h2 (Nat.not_lt_of_le h1)⟩
    | true =>
      rw [HP1.out rfl]
      clear HP HP1
      go_enter Try.func47, Try.ntmps47
      go_wp2_with (go_at_call 54; (with_reducible refine HG.out.mono ?_); rintro e w9 ⟨rfl, hb9⟩; have HB9 := Lib.hid hb9; clear hb9)
      go_ret2
      exact ⟨⟨by rw [show told.length = h.length from HK.out]; rfl, HR.out.below HB9.out⟩, Touch.of_below HB9.out fun i h1 h2 => absurd h2 (Nat.not_lt_of_le h1)⟩
  | succ k ih =>
    intro told w hk ht hh hr
    have HG := Lib.hid (gets_any ob h2 hin told ht (by omega) v (.slice (some ⟨b, 0, none⟩) told.length h.length) w (hh.more (Nat.le_of_lt hr.lt)) (hr.nums (by omega) _))
    have HH := Lib.hid (show ∀ W, TouchB b w W → Ops W b v h from fun W hW => Ops.touchB hh hr.lt hW)
    obtain ⟨A, c, hv, -, -⟩ := id hh
    have hle : ((told.length : Int) == (h.length : Int)) = false := beq_eq_false_iff_ne.2 (by omega)
    have HR := Lib.hid hr
    cases hg : lgoB ob (hops h) (linit ob) told with
    | false =>
      rw [pfin_bad hg]
      rw [hg] at HG
      subst hv
      clear ih hr hh
      go_enter Try.func47, Try.ntmps47
      go_wp2_with (go_at_call 54; (with_reducible refine HG.out.mono ?_); rintro e w9 ⟨rfl, hb9⟩; have HB9 := Lib.hid hb9; clear hb9)
      go_ret2
      exact ⟨⟨rfl, HR.out.below HB9.out⟩, Touch.of_below HB9.out fun i h1 h2 => absurd h2 (Nat.not_lt_of_le h1)⟩
    | true =>
      have HGT := Lib.hid hg
      rw [hg] at HG
      have HIH := Lib.hid ih
      have HTL := Lib.hid ht
      clear ih hr hh hg ht
      subst hv
      obtain ⟨i0, hi0, hz0, hz1, hz2⟩ := info_parts Tint.info
      obtain ⟨RR, hRR⟩ : ∃ RR, RR = pfin ob h.length (hops h) (k + 1) told := ⟨_, rfl⟩
      rw [← hRR]
      have HRR := Lib.hid hRR; clear hRR
      go_enter Try.func47, Try.ntmps47
      go_wp2_with (go_at_call 54; (with_reducible refine HG.out.mono ?_); rintro e w9 ⟨rfl, hb9⟩; have HB9 := Lib.hid hb9; clear hb9)
      go_loopw [24] (fun y wr => ∃ i : Nat, i ≤ h.length ∧ y = .int .i64 i ∧ (∀ j, j < i → pno ob h.length (hops h) k told j) ∧ RowAt wr b h.length told ∧ TouchB b w wr) (fun y _ => h.length - (intOf y).toNat)
      case atStart => exact ⟨0, Nat.zero_le _, rfl, (fun j hj => absurd hj (Nat.not_lt_zero _)), HR.out.below HB9.out, Touch.of_below HB9.out fun i h1 h2 => absurd h2 (Nat.not_lt_of_le h1)⟩
      case round =>
        obtain ⟨i, hi, rfl, hz, hrow, htb⟩ := hrel
        have HZ := Lib.hid hz; clear hz
        have HROW := Lib.hid hrow; clear hrow
        have HTB := Lib.hid htb; clear htb
        by_cases hlt : i < h.length
        · have HM := Lib.hid (may_any told i hlt (.slice A h.length c) (.slice (some ⟨b, 0, none⟩) told.length h.length) wr ((HH.out wr HTB.out).more (Nat.le_of_lt HROW.out.lt)) (HROW.out.nums (by omega) _))
          by_cases hm : pmay h.length (hops h) told i
          · rw [decide_eq_true hm] at HM
            have HM2 := Lib.hid hm; clear hm
            have HI := Lib.hid (fun (W : World) (h1 : Ops W b (.slice A h.length c) h) (h3 : RowAt W b h.length (told ++ [i])) => HIH.out (told ++ [i]) W (by simp; omega) (lt_snoc HTL.out hlt) h1 h3)
            rw [show (told ++ [i]).length = told.length + 1 by simp] at HI
            cases hr : pfin ob h.length (hops h) k (told ++ [i]) with
            | none =>
              have HN := Lib.hid (show pno ob h.length (hops h) k told i from pno_bad HGT.out hr)
              have HI := Lib.hid (show ∀ (W : World) (h1 : Ops W b (.slice A h.length c) h) (h3 : RowAt W b h.length (told ++ [i])), Calls Try.prog 47 #[.int .i64 ob, .slice A h.length c, .slice (some ⟨b, 0, none⟩) ((told.length + 1 : Nat)) h.length] W fun e w' => e = .returned (.tuple #[.slice none 0 0, .bool false]) ∧ RowAt w' b h.length (told ++ [i]) ∧ TouchB b W w' from fun W h1 h3 => (HI.out W h1 h3).mono fun e w' ⟨h4, h5⟩ => by rw [hr] at h4; exact ⟨h4.1, h4.2, h5⟩)
              clear hr
              go_wp2_with (first | (go_at_call 55; (with_reducible refine HM.out.mono ?_); rintro e w9 ⟨rfl, hb9⟩; have HB9 := Lib.hid hb9; have HRA := Lib.hid ((HROW.out.below hb9).below ((Below.refl _ w9).alloc (Nat.le_refl _) (.cells #[.int .i64 (i : Int)] 3))); have HTA := Lib.hid ((HTB.out.calls hb9 HTB.out.size).alloc (.cells #[.int .i64 (i : Int)] 3)); clear hb9) | (at_builtin; refine wpList_append_arg _ rfl (.tmp 35) (.tmp 37) 23 rfl 3 i0 (.int .i64 0) 1 8 Try.underlying23 hi0 hz0 hz1 hz2 rfl (by decide) b 0 told.length h.length (told.map fun x : Nat => Value.int .i64 (x : Int)) rfl (by simp) HRA.out.olds ⟨w9.heap.size, 0, none⟩ 1 1 [.int .i64 (i : Int)] rfl rfl (one_cell (by simp)) (by intro u hu; simp at hu; subst hu; rfl) (HRA.out.spare _) (by unfold maxLen; omega) (by omega) (fun _ => ?_) (fun hc => absurd hc (by omega)); rw [set_one]; have HRP := Lib.hid (HRA.out.put i (by omega)); have HTP := Lib.hid (HTA.out.setCell (p := ⟨b, told.length, none⟩) (Or.inl rfl) (.int .i64 (i : Int)))) | (go_at_call 47; (with_reducible refine (HI.out _ (HH.out _ HTP.out) HRP.out).mono ?_); rintro e w10 ⟨rfl, hr10, ht10⟩; have HR10 := Lib.hid hr10; have HT10 := Lib.hid (HTP.out.trans ht10 (fun i e => Or.inl e)); clear hr10 ht10))
              go_roundw
              case rel => exact ⟨i + 1, by omega, by go_num, fun j hj => (if e : j = i then e ▸ HN.out else HZ.out j (by omega)), HR10.out.front, HT10.out⟩
              case measure => simp [intOf]; omega
            | some L =>
              have HE := Lib.hid (show RR = some L from HRR.out.trans (pfin_yes HGT.out hlt HZ.out HM2.out hr))
              have HI := Lib.hid (show ∀ (W : World) (h1 : Ops W b (.slice A h.length c) h) (h3 : RowAt W b h.length (told ++ [i])), Calls Try.prog 47 #[.int .i64 ob, .slice A h.length c, .slice (some ⟨b, 0, none⟩) ((told.length + 1 : Nat)) h.length] W fun e w' => e = .returned (.tuple #[.slice (some ⟨b, 0, none⟩) h.length h.length, .bool true]) ∧ RowAt w' b h.length L ∧ TouchB b W w' from fun W h1 h3 => (HI.out W h1 h3).mono fun e w' ⟨h4, h5⟩ => by rw [hr] at h4; exact ⟨h4.1, h4.2, h5⟩)
              clear hr
              go_wp2_with (first | (go_at_call 55; (with_reducible refine HM.out.mono ?_); rintro e w9 ⟨rfl, hb9⟩; have HB9 := Lib.hid hb9; have HRA := Lib.hid ((HROW.out.below hb9).below ((Below.refl _ w9).alloc (Nat.le_refl _) (.cells #[.int .i64 (i : Int)] 3))); have HTA := Lib.hid ((HTB.out.calls hb9 HTB.out.size).alloc (.cells #[.int .i64 (i : Int)] 3)); clear hb9) | (at_builtin; refine wpList_append_arg _ rfl (.tmp 35) (.tmp 37) 23 rfl 3 i0 (.int .i64 0) 1 8 Try.underlying23 hi0 hz0 hz1 hz2 rfl (by decide) b 0 told.length h.length (told.map fun x : Nat => Value.int .i64 (x : Int)) rfl (by simp) HRA.out.olds ⟨w9.heap.size, 0, none⟩ 1 1 [.int .i64 (i : Int)] rfl rfl (one_cell (by simp)) (by intro u hu; simp at hu; subst hu; rfl) (HRA.out.spare _) (by unfold maxLen; omega) (by omega) (fun _ => ?_) (fun hc => absurd hc (by omega)); rw [set_one]; have HRP := Lib.hid (HRA.out.put i (by omega)); have HTP := Lib.hid (HTA.out.setCell (p := ⟨b, told.length, none⟩) (Or.inl rfl) (.int .i64 (i : Int)))) | (go_at_call 47; (with_reducible refine (HI.out _ (HH.out _ HTP.out) HRP.out).mono ?_); rintro e w10 ⟨rfl, hr10, ht10⟩; have HR10 := Lib.hid hr10; have HT10 := Lib.hid (HTP.out.trans ht10 (fun i e => Or.inl e)); clear hr10 ht10))
              go_ret2
              exact ⟨by rw [HE.out]; exact ⟨rfl, HR10.out⟩, HT10.out⟩
          · rw [decide_eq_false hm] at HM
            have HN := Lib.hid (show pno ob h.length (hops h) k told i from pno_not hm)
            clear hm
            go_wp2_with (go_at_call 55; (with_reducible refine HM.out.mono ?_); rintro e w9 ⟨rfl, hb9⟩; have HB9 := Lib.hid hb9; clear hb9)
            go_roundw
            case rel => exact ⟨i + 1, by omega, by go_num, fun j hj => (if e : j = i then e ▸ HN.out else HZ.out j (by omega)), HROW.out.below HB9.out, HTB.out.calls HB9.out HTB.out.size⟩
            case measure => simp [intOf]; omega
        · have HE := Lib.hid (show RR = none from HRR.out.trans (pfin_none HGT.out fun j hj => HZ.out j (by omega)))
          go_wp2
          go_ret2
          exact ⟨by rw [HE.out]; exact ⟨rfl, HROW.out⟩, HTB.out⟩
theorem make_zero (n : Nat) (hn : n ≤ 8) (w : World) : (Instr.makeSlice 23 (.int .i64 0) (.int .i64 n)).run Try.prog w = .ok (.slice (some ⟨w.heap.size, 0, none⟩) 0 n) (w.alloc (.cells (madeCells #[.int .i64 0] n) 3)) := by
  obtain ⟨i0, hi0, hz0, hz1, hz2⟩ := info_parts Tint.info
  have h := run_makeSlice (P := Try.prog) w 23 3 i0 (.int .i64 0) Try.underlying23 hi0 hz0 .i64 .i64 0 n (by omega) (by omega) (by rw [hz1]; omega) (by rw [hz2]; omega) (by omega)
  rw [hz1, show (Value.int .i64 0).cells = #[.int .i64 0] from rfl] at h
  simpa using h
theorem RowAt.made (n : Nat) (w : World) : RowAt (w.alloc (.cells (madeCells #[.int .i64 0] n) 3)) w.heap.size n [] := by
  have hB := Block.made w 3 (madeCells #[.int .i64 0] n)
  refine ⟨by simp, fun j hj => ?_, fun j => hB.free j, Nat.zero_le _, fun j x hx => by simp at hx⟩
  rw [hB.cell j, Array.getElem?_eq_getElem (by rw [size_madeCells]; exact hj)]
  rfl
theorem errV_zero : errV 55 0 = .nilIface := rfl
theorem lchk_errs (ob : Int) (h : List LO) : lchk ob h = 0 ∨ lchk ob h = 1 ∨ lchk ob h = 3 ∨ lchk ob h = 4 ∨ lchk ob h = 6 := by
  by_cases h1 : 0 ≤ ob ∧ ob ≤ 2
  · by_cases h2 : 8 < h.length
    · rw [lchk_len h1 h2]; omega
    · rw [lchk_upto h1 h2]
      generalize h.length = m
      induction m with
      | zero => exact Or.inl rfl
      | succ m ih =>
        have e0 : lupto h (m + 1) = if lupto h m = 0 then lone h m else lupto h m := rfl
        rw [e0]
        by_cases e1 : lupto h m = 0
        · rw [if_pos e1]
          rcases lone_errs h m with e | e | e | e <;> rw [e] <;> omega
        · rw [if_neg e1]; exact ih
  · rw [lchk_obj h1]; omega
set_option maxHeartbeats 8000000 in
set_option maxRecDepth 100000 in
/-- What Row answers: of any history that is read. -/
theorem row_any (ob : Int) (h : List LO) (v : Value) (w : World) (hh : Ops w w.heap.size v h) :
    Calls Try.prog 27 #[.int .i64 ob, v] w fun e w' => (∃ u, e = .returned (.tuple #[.bool (lans ob h).isSome, u, errV 55 (lchk ob h)]) ∧ Nums w' w'.heap.size u (lrowI ob h)) ∧ Below w.heap.size w w' := by
  have HC := Lib.hid (check_any ob h v w hh)
  have HH := Lib.hid (show ∀ W, Below w.heap.size w W → Ops W w.heap.size v h from fun W hW => hh.below hW (Nat.le_refl _))
  obtain ⟨A, c, hv, -, -⟩ := id hh
  by_cases h0 : lchk ob h = 0
  · have hf := lchk_zero.1 h0
    obtain ⟨o, rfl⟩ := Int.eq_ofNat_of_zero_le hf.o1
    have ho2 : o ≤ 2 := by have := hf.o2; omega
    have hl8 := hf.len
    rw [h0, show errV 55 ((0 : Nat) : Int) = .nilIface from rfl] at HC ⊢
    have HF := Lib.hid (finish_any o ho2 hf.inb hf.len v)
    have HP := Lib.hid (show pfin o h.length (hops h) h.length [] = lans (o : Int) h by rw [pfin_start, lans_fine hf]; rfl)
    have HI := Lib.hid hf
    subst hv
    obtain ⟨RR, hRR⟩ : ∃ RR, RR = lans (o : Int) h := ⟨_, rfl⟩
    have HL := Lib.hid (show ∀ L, RR = some L → lrowI (o : Int) h = L.map Int.ofNat ∧ L.length = h.length from fun L e => ⟨lrowI_some (hRR ▸ e), by
      have e2 : lrow o h.length (hops h) = some L := by have := hRR ▸ e; rw [lans_fine hf] at this; exact this
      have g := lrow_good e2
      exact len_all g.nod g.all⟩)
    have HL0 := Lib.hid (show RR = none → lrowI (o : Int) h = [] from fun e => lrowI_none (hRR ▸ e))
    rw [← hRR] at HP ⊢
    clear hRR hf hh h0
    cases RR with
    | none =>
      have HFF := Lib.hid (show ∀ W, Ops W w.heap.size (.slice A h.length c) h → w.heap.size ≤ W.heap.size → Calls Try.prog 47 #[.int .i64 o, .slice A h.length c, .slice (some ⟨W.heap.size, 0, none⟩) 0 h.length] (W.alloc (.cells (madeCells #[.int .i64 0] h.length) 3)) fun e w' => e = .returned (.tuple #[.slice none 0 0, .bool false]) ∧ TouchB W.heap.size (W.alloc (.cells (madeCells #[.int .i64 0] h.length) 3)) w' from fun W hW hs => by
        have h9 := HF.out W.heap.size h.length [] (W.alloc (.cells (madeCells #[.int .i64 0] h.length) 3)) (by simp) (fun x hx => by cases hx) ((hW.below ((Below.refl _ W).alloc hs _) (Nat.le_refl _)).more hs) (RowAt.made _ _)
        rw [HP.out] at h9
        exact h9.mono fun e w' ⟨h3, h4⟩ => ⟨h3.1, h4⟩)
      have HMK := Lib.hid (make_zero h.length hl8)
      have hmk := HMK.out
      clear HF HP
      go_enter Try.func27, Try.ntmps27
      go_wp2_with (first | (go_at_call 46; (with_reducible refine HC.out.mono ?_); rintro e w1 ⟨rfl, hb1⟩; have HB1 := Lib.hid hb1; clear hb1) | (go_at_call 47; (with_reducible refine (HFF.out w1 (HH.out w1 HB1.out) HB1.out.size).mono ?_); rintro e w2 ⟨rfl, ht2⟩; have HT2 := Lib.hid ht2; clear ht2))
      go_ret3
      refine ⟨⟨.slice none 0 0, rfl, ?_⟩, ?_⟩
      · rw [HL0.out (by trivial)]; exact ⟨none, 0, rfl, by simp, fun h => by simp at h⟩
      · exact (HB1.out.alloc HB1.out.size _).trans (HT2.out.below (by have := HB1.out.size; simp; omega) fun i e => by rw [e]; exact HB1.out.size)
    | some L =>
      have HFF := Lib.hid (show ∀ W, Ops W w.heap.size (.slice A h.length c) h → w.heap.size ≤ W.heap.size → Calls Try.prog 47 #[.int .i64 o, .slice A h.length c, .slice (some ⟨W.heap.size, 0, none⟩) 0 h.length] (W.alloc (.cells (madeCells #[.int .i64 0] h.length) 3)) fun e w' => e = .returned (.tuple #[.slice (some ⟨W.heap.size, 0, none⟩) h.length h.length, .bool true]) ∧ RowAt w' W.heap.size h.length L ∧ TouchB W.heap.size (W.alloc (.cells (madeCells #[.int .i64 0] h.length) 3)) w' from fun W hW hs => by
        have h9 := HF.out W.heap.size h.length [] (W.alloc (.cells (madeCells #[.int .i64 0] h.length) 3)) (by simp) (fun x hx => by cases hx) ((hW.below ((Below.refl _ W).alloc hs _) (Nat.le_refl _)).more hs) (RowAt.made _ _)
        rw [HP.out] at h9
        exact h9.mono fun e w' ⟨h3, h4⟩ => ⟨h3.1, h3.2, h4⟩)
      have HMK := Lib.hid (make_zero h.length hl8)
      have hmk := HMK.out
      clear HF HP
      go_enter Try.func27, Try.ntmps27
      go_wp2_with (first | (go_at_call 46; (with_reducible refine HC.out.mono ?_); rintro e w1 ⟨rfl, hb1⟩; have HB1 := Lib.hid hb1; clear hb1) | (go_at_call 47; (with_reducible refine (HFF.out w1 (HH.out w1 HB1.out) HB1.out.size).mono ?_); rintro e w2 ⟨rfl, hr2, ht2⟩; have HR2 := Lib.hid hr2; have HT2 := Lib.hid ht2; clear hr2 ht2))
      go_ret3
      refine ⟨⟨.slice (some ⟨w1.heap.size, 0, none⟩) h.length h.length, rfl, ?_⟩, ?_⟩
      · have h5 := HL.out L (by trivial)
        rw [h5.1]
        have h6 := HR2.out.nums (by omega) h.length
        rw [h5.2] at h6
        exact h6
      · exact (HB1.out.alloc HB1.out.size _).trans (HT2.out.below (by have := HB1.out.size; simp; omega) fun i e => by rw [e]; exact HB1.out.size)
  · have HL := Lib.hid (show lans ob h = none from lans_bad h0)
    have HL2 := Lib.hid (lrowI_none HL.out)
    have HN := Lib.hid (show errV 55 (lchk ob h) = .iface 55 (.int .i64 (lchk ob h)) by rcases lchk_errs ob h with e | e | e | e | e; exact absurd e h0; all_goals (rw [e]; rfl))
    rw [HN.out] at HC ⊢
    rw [HL.out, HL2.out]
    subst hv
    clear h0 hh
    go_enter Try.func27, Try.ntmps27
    go_wp2_with (go_at_call 46; (with_reducible refine HC.out.mono ?_); rintro e w1 ⟨rfl, hb1⟩; have HB1 := Lib.hid hb1; clear hb1)
    go_ret3
    exact ⟨⟨.slice none 0 0, rfl, none, 0, rfl, by simp, fun h => by simp at h⟩, HB1.out⟩
end Go.Proofs.Ytimdhnjkjflbdaa.Lin
