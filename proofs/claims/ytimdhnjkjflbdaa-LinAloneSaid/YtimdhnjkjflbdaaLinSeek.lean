/-
  Package lin: slices.Contains; gets, mayFollow.
-/
import Derived.Test.YtimdhnjkjflbdaaLinAsk
import Derived.Test.YtimdhnjkjflbdaaLinHist
namespace Go.Proofs.Ytimdhnjkjflbdaa.Lin
open Go.RowKit

theorem mem_int {told : List Nat} {i : Nat} : (i : Int) ∈ told.map Int.ofNat ↔ i ∈ told := by
  rw [List.mem_map]
  exact ⟨fun ⟨x, hx, e⟩ => by have : x = i := by have : (x : Int) = (i : Int) := e; omega
                              rw [← this]; exact hx, fun hx => ⟨i, hx, rfl⟩⟩
set_option maxHeartbeats 4000000 in
theorem index_any (zs : List Int) (x : Int) (v : Value) (w : World) (hv : Nums w w.heap.size v zs) :
    Calls Try.prog 61 #[v, .int .i64 x] w fun e w' => (∃ r : Int, e = .returned (.int .i64 r) ∧ (0 ≤ r ↔ x ∈ zs)) ∧ w = w' := by
  obtain ⟨A, c, rfl, hl, hf⟩ := hv
  have HF := Lib.hid hf; clear hf
  go_enter Try.func61, Try.ntmps61
  go_wp2
  go_loopw [8] (fun y wr => ∃ k : Nat, k ≤ zs.length ∧ y = .int .i64 k ∧ x ∉ zs.take k ∧ wr = w) (fun y _ => zs.length - (intOf y).toNat)
  case atStart => exact ⟨0, Nat.zero_le _, rfl, by simp, rfl⟩
  case round =>
    obtain ⟨k, hk, rfl, hz, rfl⟩ := hrel
    have HZ := Lib.hid hz; clear hz
    by_cases hlt : k < zs.length
    · obtain ⟨b, o, rfl, hb, hc⟩ := HF.out (by omega)
      obtain ⟨z, hz⟩ : ∃ z, z = zs[k] := ⟨_, rfl⟩
      have HK := Lib.hid (show zs[k]? = some z by rw [hz]; exact List.getElem?_eq_getElem hlt)
      have hcz := hc k z HK.out
      clear hc hz
      by_cases e : x = z
      · have hd : (x == z) = true := beq_iff_eq.2 e
        have HM := Lib.hid (show x ∈ zs by rw [e]; exact List.mem_of_getElem? HK.out)
        clear e
        go_wp2
        go_ret
        exact ⟨⟨_, rfl, ⟨fun _ => HM.out, fun _ => Int.natCast_nonneg k⟩⟩, rfl⟩
      · have hd : (x == z) = false := beq_eq_false_iff_ne.2 e
        have HN := Lib.hid e
        clear e
        go_wp2
        go_roundw
        case rel =>
          refine ⟨k + 1, by omega, by go_num, fun c => ?_, trivial⟩
          rw [List.take_add_one, HK.out] at c
          rcases List.mem_append.1 c with c | c
          · exact HZ.out c
          · exact HN.out (by simpa using c)
        case measure => simp [intOf]; omega
    · have HN := Lib.hid (show x ∉ zs by have := HZ.out; rwa [List.take_of_length_le (by omega)] at this)
      go_wp2
      go_ret
      exact ⟨⟨_, rfl, ⟨fun c => absurd c (by decide), fun c => absurd c HN.out⟩⟩, rfl⟩
set_option maxHeartbeats 4000000 in
theorem contains_any (zs : List Int) (x : Int) (v : Value) (w : World) (hv : Nums w w.heap.size v zs) :
    Calls Try.prog 60 #[v, .int .i64 x] w fun e w' => e = .returned (.bool (decide (x ∈ zs))) ∧ w = w' := by
  have HI := Lib.hid (index_any zs x v w hv)
  clear hv
  go_enter Try.func60, Try.ntmps60
  go_wp2_with (go_at_call 61; (with_reducible refine HI.out.mono ?_); rintro e w6 ⟨⟨r, rfl, hr⟩, rfl⟩; have HR := Lib.hid hr; clear hr)
  go_ret
  refine ⟨?_, rfl⟩
  by_cases e : x ∈ zs
  · rw [decide_eq_true e]
    have := HR.out.2 e
    simp [this]
  · rw [decide_eq_false e]
    have : ¬ 0 ≤ r := fun c => e (HR.out.1 c)
    simp
    omega
theorem Th.below {ob : Nat} {W W' : World} {base a : Nat} {has : List Int} (h : Th ob W base a has) (hb : Below W.heap.size W W') : Th ob W' base a has := by
  unfold Th at *
  split at h
  · obtain ⟨s, e, hba, hc, hf⟩ := h
    rename_i e0
    rw [if_pos e0]
    have hal := lt_of_cell hc
    exact ⟨s, e, hba, (hb.cell (p := ⟨a, 0, none⟩) hal).trans hc, (World.frozen?_of_block (w := W) (hb.block a hal)).trans hf⟩
  · obtain ⟨v, hp⟩ := h
    rename_i e0
    rw [if_neg e0]
    exact ⟨v, hp.below hb⟩
theorem lend_len {h : LOps} {ob : Nat} : ∀ {r : List Nat} {has : List Int}, (lend ob h has r).length ≤ has.length + r.length + 1
  | [], has => by show has.length ≤ _; omega
  | i :: r, has => by
    have h1 := lend_len (h := h) (ob := ob) (r := r) (has := (lgets ob (h.kd i) (h.ar i) has).1)
    show (lend ob h _ r).length ≤ _
    have h2 : (lgets ob (h.kd i) (h.ar i) has).1.length ≤ has.length + 1 := by
      unfold lgets
      split
      · split
        · show 1 ≤ _; omega
        · show has.length ≤ _; omega
      · split
        · simp
        · split
          · show has.length ≤ _; omega
          · split
            · simp; omega
            · simp; omega
    rw [List.length_cons]
    omega
theorem linit_le (ob : Nat) : ∀ x, x ∈ linit ob → 0 ≤ x ∧ x ≤ 0 := by
  intro x hx
  unfold linit at hx
  split at hx
  · have : x = 0 := by simpa using hx
    omega
  · cases hx
theorem linit_len (ob : Nat) : (linit ob).length ≤ 1 := by unfold linit; split <;> simp
set_option maxHeartbeats 4000000 in
set_option maxRecDepth 100000 in
theorem gets_any {h : List LO} (ob : Nat) (h2 : ob ≤ 2) (hin : ∀ i, i < h.length → (lat h i).inb) (told : List Nat) (ht : ∀ x, x ∈ told → x < h.length) (hl : told.length ≤ 8) (v rv : Value) (w : World) (hh : Ops w w.heap.size v h) (hr : Nums w w.heap.size rv (told.map Int.ofNat)) :
    Calls Try.prog 54 #[.int .i64 ob, v, rv] w fun e w' => e = .returned (.bool (lgoB ob (hops h) (linit ob) told)) ∧ Below w.heap.size w w' := by
  obtain ⟨A, c, rfl, hhc, -⟩ := id hh
  have HO := Lib.hid (fun (k : Nat) (hk : k < h.length) => hh.at_ hk)
  obtain ⟨R, rc, rfl, hrl, hrf⟩ := hr
  rw [List.length_map] at hrl hrf ⊢
  have HR := Lib.hid hrf; clear hrf hh
  have HIN := Lib.hid hin; clear hin
  have HTL := Lib.hid ht; clear ht
  obtain ⟨D, hD⟩ : ∃ D, D = lgoB ob (hops h) (linit ob) told := ⟨_, rfl⟩
  rw [← hD]
  have HD := Lib.hid hD; clear hD
  have HF := Lib.hid (fresh_any ob h2 w)
  go_enter Try.func54, Try.ntmps54
  go_wp2_with (go_at_call 58; (with_reducible refine HF.out.mono ?_); rintro e w1 ⟨rfl, hth, hb1⟩; have HTH := Lib.hid hth; have HB1 := Lib.hid hb1; clear hth hb1)
  go_loopw [14] (fun y wr => ∃ k : Nat, k ≤ told.length ∧ y = .int .i64 k ∧ lgoB ob (hops h) (linit ob) (told.take k) = true ∧ Th ob wr w.heap.size w.heap.size (lend ob (hops h) (linit ob) (told.take k)) ∧ Below w.heap.size w wr) (fun y _ => told.length - (intOf y).toNat)
  case atStart => exact ⟨0, Nat.zero_le _, rfl, rfl, HTH.out, HB1.out⟩
  case round =>
    obtain ⟨k, hk, rfl, hz, hth, hbr⟩ := hrel
    have HZ := Lib.hid hz; clear hz HTH HB1
    by_cases hlt : k < told.length
    · obtain ⟨rb, ro, rfl, hrb, hrc⟩ := HR.out (by omega)
      obtain ⟨i, hi⟩ : ∃ i, i = told[k] := ⟨_, rfl⟩
      have HK := Lib.hid (show told[k]? = some i by rw [hi]; exact List.getElem?_eq_getElem hlt)
      have hci := (hbr.cell (p := ⟨rb, ro + k, none⟩) hrb).trans (hrc k i (by rw [List.getElem?_map, HK.out]; rfl))
      clear hrc hi
      have hil : i < h.length := HTL.out i (List.mem_of_getElem? HK.out)
      obtain ⟨b, off, rfl, hb, c0, c1, c2, c3, c4, c5⟩ := HO.out i hil
      have HSB := Lib.hid (show ∀ W : World, Below w.heap.size w W → W.cell? ⟨b, off + i * 6, none⟩ = some (.int .i64 (lat h i).hd) ∧ W.cell? ⟨b, off + i * 6 + 1, none⟩ = some (.int .i64 (lat h i).kd) ∧ W.cell? ⟨b, off + i * 6 + 2, none⟩ = some (.int .i64 (lat h i).ar) ∧ W.cell? ⟨b, off + i * 6 + 3, none⟩ = some (.int .i64 (lat h i).gt) ∧ W.cell? ⟨b, off + i * 6 + 4, none⟩ = some (.int .i64 (lat h i).fr) ∧ W.cell? ⟨b, off + i * 6 + 5, none⟩ = some (.int .i64 (lat h i).to) from fun W hW =>
        ⟨(hW.cell (p := ⟨b, off + i * 6, none⟩) hb).trans c0, (hW.cell (p := ⟨b, off + i * 6 + 1, none⟩) hb).trans c1, (hW.cell (p := ⟨b, off + i * 6 + 2, none⟩) hb).trans c2, (hW.cell (p := ⟨b, off + i * 6 + 3, none⟩) hb).trans c3, (hW.cell (p := ⟨b, off + i * 6 + 4, none⟩) hb).trans c4, (hW.cell (p := ⟨b, off + i * 6 + 5, none⟩) hb).trans c5⟩)
      clear c0 c1 c2 c3 c4 c5
      have hlh : h.length ≤ 9223372036854775807 := by omega
      have hsw := hbr.size
      have hth2 : Th ob wr.drew w.heap.size w.heap.size (lend ob (hops h) (linit ob) (told.take k)) := hth.below (below_drewN (Below.refl _ wr) 1)
      have HA := Lib.hid (ask_any ob h2 (lat h i) (HIN.out i hil) wr.drew hth2 hsw (by have h1 := lend_len (h := hops h) (ob := ob) (r := told.take k) (has := linit ob); have h3 := linit_len ob; have h4 : (told.take k).length ≤ k := List.length_take_le _ _; omega)
        (fun z hz => by have h1 := lend_le (h := hops h) (ob := ob) (linit_le ob) (Int.le_refl 0) (fun x hx => (HIN.out x (HTL.out x (List.mem_of_mem_take hx))).2.2.1) z hz; have h4 : (told.take k).length ≤ k := List.length_take_le _ _; omega))
      have HE := Lib.hid (show ∀ G : Int, G = (lgets ob ((lat h i).kd.toNat) (lat h i).ar (lend ob (hops h) (linit ob) (told.take k))).2 → lgoB ob (hops h) (linit ob) (told.take (k + 1)) = decide (G = (lat h i).gt) from fun G hG => by rw [List.take_add_one, HK.out]; show lgoB _ _ _ (told.take k ++ [i]) = _; rw [lgoB_snoc, HZ.out, Bool.true_and, hG]; rfl)
      have HL := Lib.hid (show lend ob (hops h) (linit ob) (told.take (k + 1)) = (lgets ob ((lat h i).kd.toNat) (lat h i).ar (lend ob (hops h) (linit ob) (told.take k))).1 by rw [List.take_add_one, HK.out]; show lend _ _ _ (told.take k ++ [i]) = _; rw [lend_snoc]; rfl)
      obtain ⟨G, hG⟩ : ∃ G, G = (lgets ob ((lat h i).kd.toNat) (lat h i).ar (lend ob (hops h) (linit ob) (told.take k))).2 := ⟨_, rfl⟩
      have HE2 := Lib.hid (HE.out G hG)
      rw [← hG] at HA
      rw [← HL.out] at HA
      have HBR := Lib.hid hbr
      clear hG HE hth hth2 hbr
      have HS0 := Lib.hid (HSB.out wr.drew (below_drewN HBR.out 1))
      obtain ⟨s0, s1, s2, s3, s4, s5⟩ := HSB.out wr HBR.out
      by_cases e : G = (lat h i).gt
      · have hd : (G != (lat h i).gt) = false := by simp [e]
        rw [decide_eq_true e] at HE2
        clear e
        go_wp2_with fail
        go_region_held3 (fun W : World => W.cell? ⟨b, off + i * 6, none⟩ = some (.int .i64 (lat h i).hd) ∧ W.cell? ⟨b, off + i * 6 + 1, none⟩ = some (.int .i64 (lat h i).kd) ∧ W.cell? ⟨b, off + i * 6 + 2, none⟩ = some (.int .i64 (lat h i).ar) ∧ W.cell? ⟨b, off + i * 6 + 3, none⟩ = some (.int .i64 (lat h i).gt) ∧ W.cell? ⟨b, off + i * 6 + 4, none⟩ = some (.int .i64 (lat h i).fr) ∧ W.cell? ⟨b, off + i * 6 + 5, none⟩ = some (.int .i64 (lat h i).to)) (first | exact HS0.out | exact HSB.out _ HB9.out) ((go_at_call 59; (with_reducible refine HA.out.mono ?_); rintro e w9 ⟨rfl, ht9, hb9⟩; have HT9 := Lib.hid ht9; have HB9 := Lib.hid ((below_drewN HBR.out 1).trans hb9); clear ht9 hb9))
        go_wp2
        go_roundw
        case rel => exact ⟨k + 1, by omega, by go_num, HE2.out, HT9.out, HB9.out⟩
        case measure => simp [intOf]; omega
      · have hd : (G != (lat h i).gt) = true := by simp [e]
        rw [decide_eq_false e] at HE2
        have HE3 := Lib.hid (show D = false from HD.out.trans (lgoB_take HE2.out))
        clear e
        go_wp2_with fail
        go_region_held3 (fun W : World => W.cell? ⟨b, off + i * 6, none⟩ = some (.int .i64 (lat h i).hd) ∧ W.cell? ⟨b, off + i * 6 + 1, none⟩ = some (.int .i64 (lat h i).kd) ∧ W.cell? ⟨b, off + i * 6 + 2, none⟩ = some (.int .i64 (lat h i).ar) ∧ W.cell? ⟨b, off + i * 6 + 3, none⟩ = some (.int .i64 (lat h i).gt) ∧ W.cell? ⟨b, off + i * 6 + 4, none⟩ = some (.int .i64 (lat h i).fr) ∧ W.cell? ⟨b, off + i * 6 + 5, none⟩ = some (.int .i64 (lat h i).to)) (first | exact HS0.out | exact HSB.out _ HB9.out) ((go_at_call 59; (with_reducible refine HA.out.mono ?_); rintro e w9 ⟨rfl, ht9, hb9⟩; have HT9 := Lib.hid ht9; have HB9 := Lib.hid ((below_drewN HBR.out 1).trans hb9); clear ht9 hb9))
        go_wp2
        go_ret
        exact ⟨by rw [HE3.out]; rfl, HB9.out⟩
    · have HE := Lib.hid (show D = true by have h1 := HZ.out; rw [List.take_of_length_le (by omega)] at h1; exact HD.out.trans h1)
      go_wp2
      go_ret
      exact ⟨by rw [HE.out]; rfl, hbr⟩
end Go.Proofs.Ytimdhnjkjflbdaa.Lin
