/-
  latchgarthref4.rest (it calls itself), Row.
-/
import Derived.Test.YtimdhnjkjflbdaaDoorLinGets
import Derived.Test.YtimdhnjkjflbdaaDoorLinHistR
namespace Go.Proofs.YtimdhnjkjflbdaaDoor.Lin
open Go.RowKit

theorem NumsC.nums {w : World} {B : Nat} {v : Value} {zs : List Int} (h : NumsC w B v zs) : Nums w B v zs := by
  obtain ⟨A, c, e, hl, hf⟩ := h
  exact ⟨A, c, e, by omega, hf⟩
/-- All numbers that are read are appended to nothing. -/
theorem wpList_append_nums {ops : Array Oper} {rest : List Oper} {o : Oper} {a : Act} {Q : Exit → Act → World → Prop} (W : World) (hgd : o.guard = none) (s x : Operand)
    (ho : o.op = .call { callee := .builtin .append, args := #[s, x], argTypes := #[28, 28] }) (hs : a.eval s = .slice none 0 0) (vx : Value) (hx : a.eval x = vx) (zs : List Int) (hn : NumsC W W.heap.size vx zs) (hl : zs.length ≤ 1000)
    (h : ∀ v' w', w'.ownsRow W.heap.size 3 1 v' zs.length (zs.map (Value.int .i64)) → Below W.heap.size W w' → wpList Tryd.prog ops Q rest (a.put o.dst v') w') : wpList Tryd.prog ops Q (o :: rest) a W := by
  obtain ⟨i0, hi0, hz0, hz1, hz2⟩ := info_parts Tint.info
  obtain ⟨A, c, e, _, hf⟩ := hn
  by_cases h0 : zs = []
  · subst h0
    refine wpList_append_zero hgd s x 28 ho 3 i0 Tryd.underlying28 hi0 hs A c (by rw [hx, e]; rfl) ?_
    exact h _ _ (World.ownsRow_nil _ _ _ _) (Below.refl _ _)
  · have hpos : 0 < zs.length := by cases zs with
      | nil => exact absurd rfl h0
      | cons => simp
    obtain ⟨b, o', rfl, hb, hc⟩ := hf hpos
    refine wpList_append_lies _ hgd s x 28 ho W.heap.size 3 i0 (.int .i64 0) 1 8 Tryd.underlying28 hi0 hz0 hz1 hz2 rfl (by omega) (.slice none 0 0) 0 [] hs (World.ownsRow_nil _ _ _ _) ⟨b, o', none⟩ zs.length c (zs.map (Value.int .i64)) (by rw [hx, e]) (by simp) (fun j u hj => ?_) (by intro u hu; obtain ⟨z, _, rfl⟩ := List.mem_map.1 hu; rfl) hpos (by unfold maxLen; omega) (by omega) (Nat.le_refl _) W.heap.size rfl ?_
    · rw [Addr.add_lit]
      rw [List.getElem?_map] at hj
      cases hx2 : zs[j]? with
      | none => rw [hx2] at hj; cases hj
      | some z => rw [hx2] at hj; rw [hc j z hx2]; exact hj
    · intro q cap w' hown hgrow _ _
      have h5 := h (.slice (some ⟨q, 0, none⟩) zs.length cap) w' (by rwa [Nat.zero_add, List.nil_append] at hown) ((Below.refl _ W).grown hgrow (Nat.le_refl _) fun k hk => by cases hk)
      rwa [Nat.zero_add]
/-- What rest answers, with k ops to come. -/
def RestC (ob : Nat) (h : List LO) (v : Value) (k : Nat) : Prop :=
  ∀ (told : List Nat) (tv hv : Value) (w : World), told.length + k = h.length → told.Nodup → (∀ x, x ∈ told → x < h.length) → Ops w w.heap.size v h → NumsC w w.heap.size tv (told.map Int.ofNat) → NumsC w w.heap.size hv (lend ob (hops h) (linit ob) told) →
    Calls Tryd.prog 17 #[.int .i64 ob, v, tv, hv] w fun e w' => (∃ u, e = .returned u ∧ NumsC w' w'.heap.size u ((lrst ob h.length (hops h) k told (lend ob (hops h) (linit ob) told)).map Int.ofNat)) ∧ Below w.heap.size w w'
theorem lend_ne0 {h : LOps} : ∀ {r : List Nat} {has : List Int}, has ≠ [] → lend 0 h has r ≠ []
  | [], _, hh => hh
  | i :: r, has, hh => lend_ne0 (r := r) (by
      unfold lgets
      rw [if_pos rfl]
      split
      · simp
      · exact hh)
theorem nodup_snoc {told : List Nat} {i : Nat} (h : told.Nodup) (hi : i ∉ told) : (told ++ [i]).Nodup := by
  rw [List.nodup_append]
  refine ⟨h, by simp, fun a ha b hb e => ?_⟩
  have e2 : b = i := by simpa using hb
  exact hi (by rw [← e2, ← e]; exact ha)
theorem nums_cell {w : World} {B : Nat} {A : Option Addr} {n c : Nat} {told : List Nat} (h : NumsC w B (.slice A n c) (told.map Int.ofNat)) {k : Nat} {x : Nat} (hk : told[k]? = some x) : ∃ b o, A = some ⟨b, o, none⟩ ∧ b < B ∧ w.cell? ⟨b, o + k, none⟩ = some (.int .i64 (x : Int)) := by
  obtain ⟨A', c', e, _, hf⟩ := h
  injection e with e1 _ _
  subst e1
  have hl : k < told.length := (List.getElem?_eq_some_iff.1 hk).1
  obtain ⟨b, o, e2, hb, hc⟩ := hf (by rw [List.length_map]; omega)
  exact ⟨b, o, e2, hb, hc k _ (by rw [List.getElem?_map, hk]; rfl)⟩
theorem mem_take_succ {told : List Nat} {k x i : Nat} (hk : told[k]? = some x) : i ∈ told.take (k + 1) ↔ i ∈ told.take k ∨ x = i := by
  rw [List.take_add_one, hk, List.mem_append]
  exact or_congr Iff.rfl (by simp [eq_comm])
set_option maxHeartbeats 16000000 in
set_option maxRecDepth 100000 in
theorem rest_step (ob : Nat) (h2 : ob ≤ 2) (h : List LO) (hf : LFine (ob : Int) h) (v : Value) (k : Nat) (ih : ∀ k', k = k' + 1 → RestC ob h v k') : RestC ob h v k := by
  intro told tv hv w hk hnd hlt hops_ hto hha
  have hl8 := hf.len
  have HIN := Lib.hid hf.inb
  have HO := Lib.hid (fun (A : Option Addr) (c : Nat) (e : v = .slice A h.length c) (k : Nat) (hk : k < h.length) => (e ▸ hops_).at_ hk)
  have HOW := Lib.hid (fun (W : World) (hb : Below w.heap.size w W) => (hops_.below hb (Nat.le_refl _)).more hb.size)
  have HTW := Lib.hid (fun (W : World) (hb : Below w.heap.size w W) => (hto.below hb (Nat.le_refl _)).more hb.size)
  have HHW := Lib.hid (fun (W : World) (hb : Below w.heap.size w W) => (hha.below hb (Nat.le_refl _)).more hb.size)
  have HIH := Lib.hid ih; clear ih
  have HKL := Lib.hid hk
  have HND := Lib.hid hnd
  have HLT := Lib.hid hlt
  have HK0 := Lib.hid (show k = 0 → ∀ i, i < h.length → i ∈ told from fun e i hi => (all_of hnd hlt (by omega) i).2 hi)
  obtain ⟨A, c, rfl, ⟨hc1, hc2⟩, -⟩ := id hops_
  have HO := Lib.hid (HO.out A c rfl)
  obtain ⟨TA, tc, e, ⟨ht1, ht2⟩, -⟩ := id hto
  rw [List.length_map] at e ht1
  subst e
  have HTC := Lib.hid (fun (k x : Nat) (hk : told[k]? = some x) => nums_cell hto hk)
  have htl : told.length ≤ 8 := by omega
  obtain ⟨RR, hRR⟩ : ∃ RR, RR = (lrst ob h.length (hops h) k told (lend ob (hops h) (linit ob) told)).map Int.ofNat := ⟨_, rfl⟩
  rw [← hRR]
  have HRR := Lib.hid hRR
  clear hRR hk hnd hlt hops_ hto hha hf
  go_enter Tryd.func17, Tryd.ntmps17
  go_wp2
  go_loopw [9] (fun y wr => ∃ i : Nat, i ≤ h.length ∧ y = .int .i64 i ∧ (∀ j, j < i → ∀ k', k = k' + 1 → lway ob h.length (hops h) k' told (lend ob (hops h) (linit ob) told) j = none) ∧ Below w.heap.size w wr) (fun y _ => h.length - (intOf y).toNat)
  case atStart => exact ⟨0, Nat.zero_le _, rfl, (fun j hj => absurd hj (Nat.not_lt_zero _)), Below.refl _ _⟩
  case round =>
    obtain ⟨i, hi, rfl, hz, hbr⟩ := hrel
    have HZ := Lib.hid hz; clear hz
    have HBR := Lib.hid hbr; clear hbr
    by_cases hil : i < h.length
    · obtain ⟨b, off, hA, hb, c0, c1, c2, c3, c4, c5⟩ := HO.out i hil
      subst hA
      have g0 := (HBR.out.cell (p := ⟨b, off + i * 6, none⟩) hb).trans c0
      have g1 := (HBR.out.cell (p := ⟨b, off + i * 6 + 1, none⟩) hb).trans c1
      have g2 := (HBR.out.cell (p := ⟨b, off + i * 6 + 2, none⟩) hb).trans c2
      have g3 := (HBR.out.cell (p := ⟨b, off + i * 6 + 3, none⟩) hb).trans c3
      have g4 := (HBR.out.cell (p := ⟨b, off + i * 6 + 4, none⟩) hb).trans c4
      have g5 := (HBR.out.cell (p := ⟨b, off + i * 6 + 5, none⟩) hb).trans c5
      clear c0 c1 c2 c3 c4 c5
      obtain ⟨wo, hwo⟩ : ∃ wo : World, wo = wr := ⟨_, rfl⟩
      subst hwo
      go_wp2
      go_loopw [10, 11] (fun x y wr => ∃ m : Nat, m ≤ told.length ∧ y = .int .i64 m ∧ x = .bool (decide (i ∉ told.take m)) ∧ wo = wr) (fun _ y _ => told.length - (intOf y).toNat)
      case atStart => exact ⟨0, Nat.zero_le _, rfl, by simp, rfl⟩
      case round =>
        obtain ⟨m, hm, rfl, rfl, rfl⟩ := hrel
        by_cases hml : m < told.length
        · obtain ⟨x, hx⟩ : ∃ x, told[m]? = some x := ⟨_, List.getElem?_eq_getElem hml⟩
          obtain ⟨tb, to_, hTA, htb, htc⟩ := HTC.out m x hx
          subst hTA
          have htc2 := (HBR.out.cell (p := ⟨tb, to_ + m, none⟩) htb).trans htc
          have HMS := Lib.hid (mem_take_succ (i := i) hx)
          clear hx htc
          by_cases e1 : i ∈ told.take m
          · have d1 : decide (i ∉ told.take m) = false := decide_eq_false (fun c => c e1)
            have HD := Lib.hid (show decide (i ∉ told.take (m + 1)) = false from decide_eq_false (fun c => c (HMS.out.2 (Or.inl e1))))
            rw [d1]
            clear e1 d1
            go_wp2
            go_roundw
            case rel => exact ⟨m + 1, by omega, by go_num, by rw [HD.out], by first | trivial | rfl⟩
            case measure => simp [intOf]; omega
          · have d1 : decide (i ∉ told.take m) = true := decide_eq_true e1
            rw [d1]
            by_cases e2 : x = i
            · have d2 : ((x : Int) != (i : Int)) = false := by simp [e2]
              have HD := Lib.hid (show decide (i ∉ told.take (m + 1)) = false from decide_eq_false (fun c => c (HMS.out.2 (Or.inr e2))))
              subst e2
              clear e1 d1
              go_wp2
              go_roundw
              case rel => exact ⟨m + 1, by omega, by go_num, by rw [HD.out], by first | trivial | rfl⟩
              case measure => simp [intOf]; omega
            · have d2 : ((x : Int) != (i : Int)) = true := by simp; omega
              have HD := Lib.hid (show decide (i ∉ told.take (m + 1)) = true from decide_eq_true (fun c => (HMS.out.1 c).elim e1 e2))
              clear e1 e2 d1
              go_wp2
              go_roundw
              case rel => exact ⟨m + 1, by omega, by go_num, by rw [HD.out], by first | trivial | rfl⟩
              case measure => simp [intOf]; omega
        · rw [show told.take m = told from List.take_of_length_le (by omega)]
          go_wp2
          go_loopw [10, 12] (fun x y wr => ∃ j : Nat, j ≤ h.length ∧ y = .int .i64 j ∧ x = .bool (decide (i ∉ told ∧ ∀ z, z < j → (lat h z).to ≤ (lat h i).fr → z ∈ told)) ∧ ∃ n, wr = wo.drewN n) (fun _ y _ => h.length - (intOf y).toNat)
          case atStart => exact ⟨0, Nat.zero_le _, rfl, by congr 1; exact decide_eq_decide.2 ⟨fun c => ⟨c, fun z hz => absurd hz (Nat.not_lt_zero _)⟩, fun c => c.1⟩, 0, rfl⟩
          case round =>
            obtain ⟨j, hj, rfl, rfl, n, hwr⟩ := hrel
            have HBQ := Lib.hid (show Below w.heap.size w wr from hwr ▸ below_drewN HBR.out n)
            have HWC := Lib.hid (show ∀ p, wr.cell? p = wo.cell? p from fun p => by rw [hwr]; rfl)
            have HWR := Lib.hid hwr; clear hwr
            have q0 := (HWC.out _).trans g0
            have q1 := (HWC.out _).trans g1
            have q2 := (HWC.out _).trans g2
            have q3 := (HWC.out _).trans g3
            have q4 := (HWC.out _).trans g4
            have q5 := (HWC.out _).trans g5
            by_cases hB : i ∉ told ∧ ∀ z, z < j → (lat h z).to ≤ (lat h i).fr → z ∈ told
            · rw [decide_eq_true hB]
              have HBB := Lib.hid hB
              by_cases hjl : j < h.length
              · obtain ⟨b', off', e', _, _, _, _, _, _, m5⟩ := HO.out j hjl
                injection e' with e'
                injection e' with e1 e2
                subst e1 e2
                have y5 := (HBQ.out.cell (p := ⟨b, off + j * 6 + 5, none⟩) hb).trans m5
                clear m5 hB
                by_cases e1 : (lat h j).to ≤ (lat h i).fr
                · have d1 : decide ((lat h j).to ≤ (lat h i).fr) = true := decide_eq_true e1
                  have HJ := Lib.hid (show decide (j ∈ told) = decide (i ∉ told ∧ ∀ z, z < j + 1 → (lat h z).to ≤ (lat h i).fr → z ∈ told) from decide_eq_decide.2 ⟨fun c => ⟨HBB.out.1, fun z hz hzt => (if e : z = j then e ▸ c else HBB.out.2 z (by omega) hzt)⟩, fun c => c.2 j (by omega) e1⟩)
                  clear e1
                  go_wp2_with fail
                  go_quiet (fail)
                  have HW3 := Lib.hid (show ∃ n, wr.drewN nq = wo.drewN n from ⟨n + nq, by rw [HWR.out]; exact World.drewN_drewN _ _ _⟩)
                  go_wp2
                  go_loopw [10, 13] (fun x y wr => ∃ m : Nat, m ≤ told.length ∧ y = .int .i64 m ∧ x = .bool (decide (j ∈ told.take m)) ∧ ∃ n, wr = wo.drewN n) (fun _ y _ => told.length - (intOf y).toNat)
                  case atStart => exact ⟨0, Nat.zero_le _, rfl, by simp, HW3.out⟩
                  case round =>
                    obtain ⟨m, hm, rfl, rfl, n3, hwr3⟩ := hrel
                    have HBQ3 := Lib.hid (show Below w.heap.size w wr from hwr3 ▸ below_drewN HBR.out n3)
                    have HWR3 := Lib.hid hwr3; clear hwr3
                    by_cases hml : m < told.length
                    · obtain ⟨x, hx⟩ : ∃ x, told[m]? = some x := ⟨_, List.getElem?_eq_getElem hml⟩
                      obtain ⟨tb, to_, hTA, htb, htc⟩ := HTC.out m x hx
                      subst hTA
                      have htc2 := (HBQ3.out.cell (p := ⟨tb, to_ + m, none⟩) htb).trans htc
                      have HMS := Lib.hid (mem_take_succ (i := j) hx)
                      clear hx htc
                      by_cases e1 : j ∈ told.take m
                      · have d1 : decide (j ∈ told.take m) = true := decide_eq_true e1
                        have HD := Lib.hid (show decide (j ∈ told.take (m + 1)) = true from decide_eq_true (HMS.out.2 (Or.inl e1)))
                        rw [d1]
                        clear e1 d1
                        go_wp2
                        go_roundw
                        case rel => exact ⟨m + 1, by omega, by go_num, by rw [HD.out], n3, HWR3.out⟩
                        case measure => simp [intOf]; omega
                      · have d1 : decide (j ∈ told.take m) = false := decide_eq_false e1
                        rw [d1]
                        by_cases e2 : x = j
                        · have HD := Lib.hid (show decide (j ∈ told.take (m + 1)) = true from decide_eq_true (HMS.out.2 (Or.inr e2)))
                          subst e2
                          clear e1 d1
                          go_wp2
                          go_roundw
                          case rel => exact ⟨m + 1, by omega, by go_num, by rw [HD.out], n3, HWR3.out⟩
                          case measure => simp [intOf]; omega
                        · have d2 : ((x : Int) == (j : Int)) = false := beq_eq_false_iff_ne.2 (by omega)
                          have d3 : decide (x = j) = false := decide_eq_false e2
                          have HD := Lib.hid (show decide (j ∈ told.take (m + 1)) = false from decide_eq_false (fun c => (HMS.out.1 c).elim e1 e2))
                          clear e1 e2 d1
                          go_wp2
                          go_roundw
                          case rel => exact ⟨m + 1, by omega, by go_num, by rw [HD.out], n3, HWR3.out⟩
                          case measure => simp [intOf]; omega
                    · rw [show told.take m = told from List.take_of_length_le (by omega), HJ.out]
                      go_wp2
                      go_roundw
                      case rel => exact ⟨j + 1, by omega, by go_num, rfl, n3, HWR3.out⟩
                      case measure => simp [intOf]; omega
                · have d1 : decide ((lat h j).to ≤ (lat h i).fr) = false := decide_eq_false e1
                  have HJ := Lib.hid (show true = decide (i ∉ told ∧ ∀ z, z < j + 1 → (lat h z).to ≤ (lat h i).fr → z ∈ told) from (decide_eq_true ⟨HBB.out.1, fun z hz hzt => (if e : z = j then absurd (e ▸ hzt) e1 else HBB.out.2 z (by omega) hzt)⟩).symm)
                  clear e1
                  go_wp2_with fail
                  go_quiet (fail)
                  go_wp2
                  go_roundw
                  case rel => exact ⟨j + 1, by omega, by go_num, by rw [← HJ.out], by rw [HWR.out]; first | exact ⟨_, rfl⟩ | exact ⟨_, World.drewN_drewN _ _ _⟩⟩
                  case measure => simp [intOf]; omega
              · have HM := Lib.hid (show pmay h.length (hops h) told i from ⟨hB.1, fun z hz hzt => hB.2 z (by omega) hzt⟩)
                have hk0 : k ≠ 0 := fun e => hB.1 (HK0.out e i hil)
                obtain ⟨k', rfl⟩ : ∃ k', k = k' + 1 := ⟨k - 1, by omega⟩
                clear hk0 hB
                have HK := Lib.hid (kgets_any ob h2 (lat h i) (HIN.out i hil).2.1 (HIN.out i hil).2.2.1 (lend ob (hops h) (linit ob) told) (fun e => by subst e; exact lend_ne0 (by simp [linit]))
                  (fun z hz => by have h1 := lend_le (h := hops h) (ob := ob) (linit_le ob) (Int.le_refl 0) (fun x hx => (HIN.out x (HLT.out x hx)).2.2.1) z hz; omega)
                  (by have h1 := lend_len (h := hops h) (ob := ob) (r := told) (has := linit ob); have h3 := linit_len ob; omega) hv wr (HHW.out wr HBQ.out))
                have HM2 := Lib.hid (show (lgets ob (lat h i).kd.toNat (lat h i).ar (lend ob (hops h) (linit ob) told)).1 = lend ob (hops h) (linit ob) (told ++ [i]) by rw [lend_snoc]; rfl)
                obtain ⟨G, hG⟩ : ∃ G, G = (lgets ob (lat h i).kd.toNat (lat h i).ar (lend ob (hops h) (linit ob) told)).2 := ⟨_, rfl⟩
                rw [← hG, HM2.out] at HK
                have HGG := Lib.hid hG; clear hG
                have hbs := HBQ.out.size
                by_cases e : G = (lat h i).gt
                · have d : (G != (lat h i).gt) = false := by simp [e]
                  have HNX := Lib.hid (show lnext ob h.length (hops h) told (lend ob (hops h) (linit ob) told) i from lnext_pmay.2 ⟨HM.out, HGG.out.symm.trans e⟩)
                  have HIB := Lib.hid (HIH.out k' rfl (told ++ [i]))
                  obtain ⟨LL, hLL⟩ : ∃ LL, LL = lrst ob h.length (hops h) k' (told ++ [i]) (lend ob (hops h) (linit ob) (told ++ [i])) := ⟨_, rfl⟩
                  rw [← hLL] at HIB
                  have HLL := Lib.hid hLL; clear hLL
                  have HND2 := Lib.hid (nodup_snoc HND.out HM.out.1)
                  have HLT2 := Lib.hid (lt_snoc HLT.out hil)
                  clear e
                  obtain ⟨i0, hi0, hz0, hz1, hz2⟩ := info_parts Tint.info
                  have hap : (told ++ [i]).length = told.length + 1 := by simp
                  have hapm : ((told ++ [i]).map Int.ofNat).map (Value.int .i64) = (told.map Int.ofNat).map (Value.int .i64) ++ [.int .i64 (i : Int)] := by simp
                  have HAP := Lib.hid hap; have HAM := Lib.hid hapm; clear hap hapm
                  go_upto_region 23 with (first | (go_at_call 22; (with_reducible refine HK.out.mono ?_); rintro e w7 ⟨⟨u7, rfl, hn7⟩, hb7⟩; have h73 := (hb7.cell (p := ⟨b, off + i * 6 + 3, none⟩) (Nat.lt_of_lt_of_le hb hbs)).trans q3; have HN7 := Lib.hid hn7; have HB7 := Lib.hid (HBQ.out.trans (hb7.mono hbs)); clear hn7 hb7) | (at_builtin; refine wpList_append_nums w7 rfl (.tmp 93) (.tmp 94) rfl rfl _ rfl (told.map Int.ofNat) (HTW.out w7 HB7.out) (by rw [List.length_map]; omega) ?_; intro v8 w8 hown8 hb8; have HO8 := Lib.hid hown8; have HB8 := Lib.hid (HB7.out.trans (hb8.mono HB7.out.size)); have HB78 := Lib.hid hb8; have hs8 := hb8.size; clear hown8 hb8))
                  have ho8 : (w8.alloc (.cells #[.int .i64 (i : Int)] 3)).ownsRow w7.heap.size 3 1 v8 told.length ((told.map Int.ofNat).map (Value.int .i64)) := by
                    have := HO8.out
                    rw [List.length_map] at this
                    exact own_touch this ((Touch.refl (fun _ => False) w8).alloc _) fun _ _ e => e
                  have HOA := Lib.hid ho8; clear ho8
                  cases hr : lsr ob h.length (hops h) k' (told ++ [i]) (lend ob (hops h) (linit ob) (told ++ [i])) with
                  | none =>
                    have hn0 : lway ob h.length (hops h) k' told (lend ob (hops h) (linit ob) told) i = none := lway_no (by rw [← hr, lend_snoc])
                    have HNW := Lib.hid (show ∀ k'', k' + 1 = k'' + 1 → lway ob h.length (hops h) k'' told (lend ob (hops h) (linit ob) told) i = none from fun k'' e => (Nat.succ.inj e) ▸ hn0)
                    clear hn0
                    have d9 : ((LL.length : Int) == (h.length : Int)) = false := beq_eq_false_iff_ne.2 (fun e => absurd (show (lrst ob h.length (hops h) k' (told ++ [i]) (lend ob (hops h) (linit ob) (told ++ [i]))).length = h.length by rw [← HLL.out]; omega) fun c => (lrst_len (by rw [HAP.out]; have := HKL.out; omega)).1 c hr)
                    clear hr
                    go_wp2_with (first | (at_builtin; refine wpList_append_lies _ rfl (.tmp 98) (.tmp 100) 28 rfl w7.heap.size 3 i0 (.int .i64 0) 1 8 Tryd.underlying28 hi0 hz0 hz1 hz2 rfl (by omega) v8 told.length ((told.map Int.ofNat).map (Value.int .i64)) rfl HOA.out ⟨w8.heap.size, 0, none⟩ 1 1 [.int .i64 (i : Int)] rfl (by rfl) (one_cell (by simp)) (by intro u hu; simp at hu; subst hu; rfl) (by omega) (by unfold maxLen; omega) (by omega) (by simp; omega) (w8.heap.size + 1) (by simp) ?_; intro q cap wz hown hgrow hat hlt; have HNZ := Lib.hid (NumsC.own (zs := (told ++ [i]).map Int.ofNat) (base := w7.heap.size) (by rw [List.length_map, HAP.out, HAM.out]; exact hown)); have HBA := Lib.hid ((((Below.refl w7.heap.size w8).alloc hs8 (.cells #[.int .i64 (i : Int)] 3)).grown hgrow (by simp; omega) fun k hk => (HOA.out.lt k hk).1)); have HBZ := Lib.hid (HB8.out.trans (HBA.out.mono HB7.out.size)); have HHZ := Lib.hid ((HN7.out.below (HB78.out.trans HBA.out) (Nat.le_refl _)).more (HB78.out.trans HBA.out).size); clear hown hgrow hat hlt) | (go_at_call 17; (with_reducible refine (HIB.out _ _ wz (by rw [HAP.out]; have := HKL.out; omega) (HND2.out) (HLT2.out) (HOW.out wz HBZ.out) HNZ.out HHZ.out).mono ?_); rintro e w9 ⟨⟨u9, rfl, hn9⟩, hb9⟩; have HN9 := Lib.hid hn9; have HB9 := Lib.hid (HBZ.out.trans (hb9.mono HBZ.out.size)); obtain ⟨A9, c9, rfl, -, -⟩ := id HN9.out; rw [List.length_map] at HN9 ⊢; clear hn9 hb9))
                    go_roundw
                    case rel => exact ⟨i + 1, by omega, by go_num, fun z hz k9 e9 => (if e : z = i then e ▸ HNW.out k9 (by omega) else HZ.out z (by omega) k9 (by omega)), HB9.out⟩
                    case measure => simp [intOf]; omega
                  | some r =>
                    have hln : LL.length = h.length := HLL.out ▸ ((lrst_len (by rw [HAP.out]; have := HKL.out; omega)).2 (by rw [hr]; exact fun c => by cases c))
                    have d9 : ((LL.length : Int) == (h.length : Int)) = true := beq_iff_eq.2 (by omega)
                    clear hln
                    have HRE := Lib.hid (show RR = LL.map Int.ofNat from HRR.out.trans (by rw [HLL.out, lrst_yes (r := r) hil (fun j hj => HZ.out j hj k' rfl) HNX.out (by rw [← hr, lend_snoc]), ← lend_snoc]))
                    clear hr
                    go_wp2_with (first | (at_builtin; refine wpList_append_lies _ rfl (.tmp 98) (.tmp 100) 28 rfl w7.heap.size 3 i0 (.int .i64 0) 1 8 Tryd.underlying28 hi0 hz0 hz1 hz2 rfl (by omega) v8 told.length ((told.map Int.ofNat).map (Value.int .i64)) rfl HOA.out ⟨w8.heap.size, 0, none⟩ 1 1 [.int .i64 (i : Int)] rfl (by rfl) (one_cell (by simp)) (by intro u hu; simp at hu; subst hu; rfl) (by omega) (by unfold maxLen; omega) (by omega) (by simp; omega) (w8.heap.size + 1) (by simp) ?_; intro q cap wz hown hgrow hat hlt; have HNZ := Lib.hid (NumsC.own (zs := (told ++ [i]).map Int.ofNat) (base := w7.heap.size) (by rw [List.length_map, HAP.out, HAM.out]; exact hown)); have HBA := Lib.hid ((((Below.refl w7.heap.size w8).alloc hs8 (.cells #[.int .i64 (i : Int)] 3)).grown hgrow (by simp; omega) fun k hk => (HOA.out.lt k hk).1)); have HBZ := Lib.hid (HB8.out.trans (HBA.out.mono HB7.out.size)); have HHZ := Lib.hid ((HN7.out.below (HB78.out.trans HBA.out) (Nat.le_refl _)).more (HB78.out.trans HBA.out).size); clear hown hgrow hat hlt) | (go_at_call 17; (with_reducible refine (HIB.out _ _ wz (by rw [HAP.out]; have := HKL.out; omega) (HND2.out) (HLT2.out) (HOW.out wz HBZ.out) HNZ.out HHZ.out).mono ?_); rintro e w9 ⟨⟨u9, rfl, hn9⟩, hb9⟩; have HN9 := Lib.hid hn9; have HB9 := Lib.hid (HBZ.out.trans (hb9.mono HBZ.out.size)); obtain ⟨A9, c9, rfl, -, -⟩ := id HN9.out; rw [List.length_map] at HN9 ⊢; clear hn9 hb9))
                    go_ret
                    exact ⟨⟨_, rfl, by rw [HRE.out]; exact HN9.out⟩, HB9.out⟩
                · have d : (G != (lat h i).gt) = true := by simp [e]
                  have HNW := Lib.hid (show ∀ k'', k' + 1 = k'' + 1 → lway ob h.length (hops h) k'' told (lend ob (hops h) (linit ob) told) i = none from fun k'' _ => lway_none fun c => e (HGG.out.trans (lnext_pmay.1 c).2))
                  clear e
                  go_wp2_with (go_at_call 22; (with_reducible refine HK.out.mono ?_); rintro e w7 ⟨⟨u7, rfl, hn7⟩, hb7⟩; have h73 := (hb7.cell (p := ⟨b, off + i * 6 + 3, none⟩) (Nat.lt_of_lt_of_le hb hbs)).trans q3; have HB7 := Lib.hid (HBQ.out.trans (hb7.mono hbs)); clear hn7 hb7)
                  go_roundw
                  case rel => exact ⟨i + 1, by omega, by go_num, fun z hz k9 e9 => (if e : z = i then e ▸ HNW.out k9 (by omega) else HZ.out z (by omega) k9 (by omega)), HB7.out⟩
                  case measure => simp [intOf]; omega
            · rw [decide_eq_false hB]
              have HNW := Lib.hid (show ∀ k', k = k' + 1 → lway ob h.length (hops h) k' told (lend ob (hops h) (linit ob) told) i = none from fun k' _ => lway_none fun c => hB ⟨c.1, fun z hz hzt => c.2.1 z (by omega) hzt⟩)
              clear hB
              by_cases hjl : j < h.length
              · go_wp2
                go_roundw
                case rel => exact ⟨i + 1, by omega, by go_num, fun z hz k9 e9 => (if e : z = i then e ▸ HNW.out k9 (by omega) else HZ.out z (by omega) k9 (by omega)), HBQ.out⟩
                case measure => simp [intOf]; omega
              · go_wp2
                go_roundw
                case rel => exact ⟨i + 1, by omega, by go_num, fun z hz k9 e9 => (if e : z = i then e ▸ HNW.out k9 (by omega) else HZ.out z (by omega) k9 (by omega)), HBQ.out⟩
                case measure => simp [intOf]; omega
    · have HRE := Lib.hid (show RR = told.map Int.ofNat from HRR.out.trans (by
        cases k with
        | zero => rw [lrst_zero]
        | succ k' => rw [lrst_none fun j hj => HZ.out j (by omega) k' rfl]))
      go_wp2
      go_ret
      exact ⟨⟨_, rfl, by rw [HRE.out]; exact HTW.out _ HBR.out⟩, HBR.out⟩
theorem rest_any (ob : Nat) (h2 : ob ≤ 2) (h : List LO) (hf : LFine (ob : Int) h) (v : Value) (k : Nat) : RestC ob h v k := by
  induction k with
  | zero => exact rest_step ob h2 h hf v 0 fun k' e => by omega
  | succ k ih => exact rest_step ob h2 h hf v (k + 1) fun k' e => (Nat.succ.inj e) ▸ ih
end Go.Proofs.YtimdhnjkjflbdaaDoor.Lin
