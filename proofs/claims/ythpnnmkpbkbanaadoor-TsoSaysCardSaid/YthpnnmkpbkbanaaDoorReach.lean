/-
  What the function that sc.reached hands back does: it yields all states that a program may come to, each once.
-/
import Derived.Test.YthpnnmkpbkbanaaDoorQueues
import Derived.Test.YthpnnmkpbkbanaaDoorRange
import Derived.Test.YthpnnmkpbkbanaaDoorStep
import Derived.Deep.LoopGhost
import Derived.OwnWalkIn
import Derived.TacticsInMore
import Derived.LoopIn
namespace Go.Proofs.YthpnnmkpbkbanaaDoor
open Go.RowKit Go.Maps

theorem ins_rel {kn pre rs : List (List Int)} {s : List Int} (z : List Int) (h : kn = pre ++ s :: rs) : ins1 kn z = pre ++ s :: (if z ∈ kn then rs else rs ++ [z]) := by
  unfold ins1
  split
  · exact h
  · rw [h]; simp
theorem ins_nodup {kn : List (List Int)} (z : List Int) (h : kn.Nodup) : (ins1 kn z).Nodup := by
  unfold ins1
  split
  · exact h
  · rename_i hz; exact nodup_snoc h hz

/-- The program's memory: its box at block pb, its hands below block B. -/
structure PMem (w : World) (pb B : Nat) (words : Int) (hv : Value) (hs : List (List Ln)) : Prop where
  box : Block w pb 24 #[.int .i64 words, hv]
  hands : Hands w B hv hs
theorem PMem.touch {O : Nat → Prop} {w w' : World} {pb B : Nat} {words : Int} {hv : Value} {hs : List (List Ln)} (h : PMem w pb B words hv hs) (k : Touch O w w') (hB : B ≤ w.heap.size) (ho : ∀ i, O i → B ≤ i ∧ i ≠ pb) : PMem w' pb B words hv hs :=
  ⟨h.box.touch k fun h' => (ho _ h').2 rfl, h.hands.keep fun p hp => k.cell (by omega) fun h' => by have := (ho _ h').1; omega⟩

/-- Where the walk over the states stands, at its loop's head. -/
def RHead (hs : List (List Ln)) (words : Int) (hv : Value) (pb B g b0 : Nat) (J : List (List Int) → (Nat → Prop) → World → Prop) (left : Nat) (t4 t5 : Value) (w : World) : Prop :=
  ∃ (O : Nat → Prop) (pre known rest : List (List Int)) (m lb sb : Nat) (s : List Int) (ok : Bool), t4 = .pointer (some ⟨sb, 0, none⟩) ∧ t5 = .bool ok ∧ Block w sb 63 (row s) ∧ s.length = 16 ∧ QI w g m lb known rest ∧ J pre O w ∧
    (¬ O g ∧ ¬ O m ∧ ¬ O lb ∧ ¬ O sb ∧ sb ≠ g ∧ sb ≠ m ∧ sb ≠ lb ∧ b0 ≤ g ∧ b0 ≤ m ∧ b0 ≤ lb ∧ b0 ≤ sb) ∧ PMem w pb B words hv hs ∧ b0 ≤ w.heap.size ∧
    known.Nodup ∧ (∀ z ∈ known, Reach hs z) ∧ (∀ z ∈ pre, ∀ p, p < hs.length → stp hs z p ∈ known) ∧ zero16 ∈ known ∧
    (ok = true → known = pre ++ s :: rest) ∧ (ok = false → known = pre) ∧ left + pre.length = 1073741824

/-- Where it stands while the states behind one state are put in. -/
def IHead (hs : List (List Ln)) (words : Int) (hv : Value) (pb B g m sb b0 : Nat) (J : List (List Int) → (Nat → Prop) → World → Prop) (O : Nat → Prop) (pre : List (List Int)) (s : List Int) (i : Value) (w : World) : Prop :=
  ∃ (k : Nat) (known rest : List (List Int)) (lb : Nat), k ≤ hs.length ∧ i = .int .i64 k ∧ QI w g m lb known rest ∧ ¬ O lb ∧ b0 ≤ lb ∧ sb ≠ lb ∧ known = pre ++ s :: rest ∧ known.Nodup ∧ (∀ z ∈ known, Reach hs z) ∧
    (∀ z ∈ pre, ∀ p, p < hs.length → stp hs z p ∈ known) ∧ (∀ p, p < k → stp hs s p ∈ known) ∧ zero16 ∈ known ∧ Block w sb 63 (row s) ∧ J (pre ++ [s]) O w ∧ PMem w pb B words hv hs ∧ b0 ≤ w.heap.size

def RPost (hs : List (List Ln)) (J : List (List Int) → (Nat → Prop) → World → Prop) (Jx : List (List Int) → World → Prop) (e : Ending) (w' : World) : Prop :=
  (∃ v, e = .returned v) ∧ ((∃ xs O, (xs.Nodup ∧ ∀ z, z ∈ xs ↔ Reach hs z) ∧ J xs O w') ∨ (∃ pre, (∀ z ∈ pre, Reach hs z) ∧ Jx pre w'))

set_option maxRecDepth 100000 in
set_option maxHeartbeats 4000000 in
theorem reached1_any (words : Int) (hv : Value) (hs : List (List Ln)) (hW : Well words hs) (pb B : Nat) (l : Nat) (J : List (List Int) → (Nat → Prop) → World → Prop) (Jx : List (List Int) → World → Prop) (O1 : Nat → Prop) (W : World)
    (okB : Nat → Prop) (hokP : ∀ k, okB k → B ≤ k ∧ k ≠ pb) (hokN : ∀ k, W.heap.size ≤ k → okB k) (hJ : ∀ xs, Owns okB (J xs)) (hJO : ∀ xs O A, J xs O A → ∀ k, O k → okB k) (hP : PMem W pb B words hv hs) (hB : B ≤ W.heap.size) (hpb : B ≤ pb)
    (hY : ∀ O pre x W1, J pre O W1 → Reach hs x ∧ pre.length < 1073741824 → YieldAt Fence.wide 0 Tryd.prog l #[.agg (row x)] W1 (RoundSays J Jx O pre x W1)) (h0 : J [] O1 W) :
    Calls Tryd.prog 43 #[.func (.yield l) #[] #[], .pointer (some ⟨pb, 0, none⟩)] W (RPost hs J Jx) := by
  have HJ := Lib.hid hJ
  have HJP := Lib.hid (fun xs O A h k hk => hokP k (hJO xs O A h k hk))
  have HON := Lib.hid hokN
  have HP := Lib.hid hP
  have HY := Lib.hid hY
  have H0 := Lib.hid h0
  have hpl := hP.box.lt
  clear hJ hJO hokP hokN hP hY h0
  go_enter Tryd.func43, Tryd.ntmps43
  go_wp2_with fail
  refine (new_any W.heap.size zero16 _ (Block.made W 63 (row zero16)) rfl zero16_rng).mono ?_
  rintro e V ⟨g, m, lb, rfl, hT, hQ, hg, hm, hlb⟩
  simp only [World.size_alloc] at hg hm hlb
  have hTV : Touch (fun _ => False) W V := ((Touch.refl _ W).alloc _).trans hT fun _ h => h.elim
  have HTV := Lib.hid hTV
  have HQ := Lib.hid hQ
  clear hT hQ hTV
  go_wp2_with fail
  refine (take_some g m lb [zero16] [] zero16 _ HQ.out).mono ?_
  rintro e V2 ⟨rfl, hT2, hQ2⟩
  have hA := Block.made V2 63 #[.int .i64 0, .int .i64 0, .int .i64 0, .int .i64 0, .int .i64 0, .int .i64 0, .int .i64 0, .int .i64 0, .int .i64 0, .int .i64 0, .int .i64 0, .int .i64 0, .int .i64 0, .int .i64 0, .int .i64 0, .int .i64 0]
  have hB2 : Block ((V2.alloc (.cells #[.int .i64 0, .int .i64 0, .int .i64 0, .int .i64 0, .int .i64 0, .int .i64 0, .int .i64 0, .int .i64 0, .int .i64 0, .int .i64 0, .int .i64 0, .int .i64 0, .int .i64 0, .int .i64 0, .int .i64 0, .int .i64 0] 63)).setRow V2.heap.size (row zero16)) V2.heap.size 63 (row zero16) := setRow_heap _ _ _ _ _ _ hA
  have hT3 : Touch (fun _ => False) V2 ((V2.alloc (.cells #[.int .i64 0, .int .i64 0, .int .i64 0, .int .i64 0, .int .i64 0, .int .i64 0, .int .i64 0, .int .i64 0, .int .i64 0, .int .i64 0, .int .i64 0, .int .i64 0, .int .i64 0, .int .i64 0, .int .i64 0, .int .i64 0] 63)).setRow V2.heap.size (row zero16)) := ((Touch.refl _ V2).alloc _).setRow (Or.inr (Nat.le_refl _)) _
  have hsW := HTV.out.size
  have hTW : Touch (fun k => k = g) W ((V2.alloc (.cells #[.int .i64 0, .int .i64 0, .int .i64 0, .int .i64 0, .int .i64 0, .int .i64 0, .int .i64 0, .int .i64 0, .int .i64 0, .int .i64 0, .int .i64 0, .int .i64 0, .int .i64 0, .int .i64 0, .int .i64 0, .int .i64 0] 63)).setRow V2.heap.size (row zero16)) := ((HTV.out.mono (fun _ h => h.elim)).trans hT2 (fun _ h => Or.inl h)).trans hT3 fun _ h => h.elim
  have hQ3 := hQ2.touch hT3 (fun h => h) (fun h => h) (fun h => h)
  obtain ⟨v3, hv3, _, hl3⟩ := hQ2.blk
  have hlb2 : lb < V2.heap.size := by rcases hl3 with ⟨_, h⟩ | ⟨_, _, h⟩
                                      · rw [h]; exact hv3.lt
                                      · exact h
  have hg2 : g < V2.heap.size := hv3.lt
  have hm2 : m < V2.heap.size := hQ2.set.lt
  have hsV := hT2.size
  have HA := Lib.hid hA
  have HB2 := Lib.hid hB2
  have HTW := Lib.hid hTW
  have HQ3 := Lib.hid hQ3
  clear hA hB2 hT3 hTW hQ3 hT2 hQ2 hl3 hv3
  go_wp2_with (refine wpList_store_row rfl 63 (.tmp 4) (.tmp 13) rfl V2.heap.size (row zero16) rfl rfl _ _ HA.out Tst.info rfl (row_one _) ?_)
  have hO1 : ∀ k, O1 k → k < W.heap.size := (HJ.out []).there _ _ H0.out
  go_loopg [4, 5] 1073741824 (fun gk t4 t5 wr => RHead hs words hv pb B g W.heap.size J gk t4 t5 wr)
  case atStart =>
    refine ⟨O1, [], [zero16], [], m, lb, V2.heap.size, zero16, true, rfl, rfl, HB2.out, rfl, HQ3.out, (HJ.out []).stays O1 _ _ _ H0.out HTW.out (fun k h1 h2 => by have := hO1 k h1; omega) (fun k h => HON.out k (by omega)), ⟨fun h => by have := hO1 _ h; omega, fun h => by have := hO1 _ h; omega, fun h => by have := hO1 _ h; omega, fun h => by have := hO1 _ h; omega, by omega, by omega, by omega, by omega, by omega, by omega, by omega⟩, HP.out.touch HTW.out hB (fun i h => by omega), HTW.out.size, ?_, ?_, ?_, ?_, ?_, ?_, ?_⟩
    · simp
    · intro z hz; rw [List.mem_singleton.1 hz]; exact Reach.start hs
    · intro z hz; cases hz
    · simp
    · intro _; rfl
    · intro h; cases h
    · rfl
  case round =>
    obtain ⟨O, pre, known, rest, mm, lb3, sb, s, ok, rfl, rfl, hsb, hs16, hq, hj, hd, hp, hb0, hnd, hrc, hcl, hz0, hok, hno, hgk⟩ := hrel
    have HSB := Lib.hid hsb
    have HQr := Lib.hid hq
    have HJr := Lib.hid hj
    have HD := Lib.hid hd
    have HPr := Lib.hid hp
    have HND := Lib.hid hnd
    have HRC := Lib.hid hrc
    have HCL := Lib.hid hcl
    have HZ0 := Lib.hid hz0
    have HOK := Lib.hid hok
    have HNO := Lib.hid hno
    have HGK := Lib.hid hgk
    clear hsb hq hj hd hp hnd hrc hcl hz0 hok hno hgk
    cases ok with
    | false =>
      have HK := Lib.hid (HNO.out rfl)
      go_wp2_with fail
      go_end0
      have hk := HK.out
      refine ⟨⟨_, rfl⟩, Or.inl ⟨pre, O, ⟨by rw [← hk]; exact HND.out, fun z => ⟨fun hz => HRC.out z (by rw [hk]; exact hz), fun hz => ?_⟩⟩, HJr.out⟩⟩
      rw [← hk]
      refine Reach.rec' (hs := hs) (P := fun z => z ∈ known) HZ0.out (fun y p _ hy hp => HCL.out y (by rw [← hk]; exact hy) p hp) z hz
    | true =>
      obtain ⟨z0, z1, z2, z3, z4, z5, z6, z7, z8, z9, z10, z11, z12, z13, z14, z15, rfl⟩ := l16 s hs16
      have y0 : wr.cell? ⟨sb, 0, none⟩ = some (.int .i64 z0) := (HSB.out.cell 0).trans rfl
      have y1 : wr.cell? ⟨sb, 1, none⟩ = some (.int .i64 z1) := (HSB.out.cell 1).trans rfl
      have y2 : wr.cell? ⟨sb, 2, none⟩ = some (.int .i64 z2) := (HSB.out.cell 2).trans rfl
      have y3 : wr.cell? ⟨sb, 3, none⟩ = some (.int .i64 z3) := (HSB.out.cell 3).trans rfl
      have y4 : wr.cell? ⟨sb, 4, none⟩ = some (.int .i64 z4) := (HSB.out.cell 4).trans rfl
      have y5 : wr.cell? ⟨sb, 5, none⟩ = some (.int .i64 z5) := (HSB.out.cell 5).trans rfl
      have y6 : wr.cell? ⟨sb, 6, none⟩ = some (.int .i64 z6) := (HSB.out.cell 6).trans rfl
      have y7 : wr.cell? ⟨sb, 7, none⟩ = some (.int .i64 z7) := (HSB.out.cell 7).trans rfl
      have y8 : wr.cell? ⟨sb, 8, none⟩ = some (.int .i64 z8) := (HSB.out.cell 8).trans rfl
      have y9 : wr.cell? ⟨sb, 9, none⟩ = some (.int .i64 z9) := (HSB.out.cell 9).trans rfl
      have y10 : wr.cell? ⟨sb, 10, none⟩ = some (.int .i64 z10) := (HSB.out.cell 10).trans rfl
      have y11 : wr.cell? ⟨sb, 11, none⟩ = some (.int .i64 z11) := (HSB.out.cell 11).trans rfl
      have y12 : wr.cell? ⟨sb, 12, none⟩ = some (.int .i64 z12) := (HSB.out.cell 12).trans rfl
      have y13 : wr.cell? ⟨sb, 13, none⟩ = some (.int .i64 z13) := (HSB.out.cell 13).trans rfl
      have y14 : wr.cell? ⟨sb, 14, none⟩ = some (.int .i64 z14) := (HSB.out.cell 14).trans rfl
      have y15 : wr.cell? ⟨sb, 15, none⟩ = some (.int .i64 z15) := (HSB.out.cell 15).trans rfl
      have HKN := Lib.hid (HOK.out rfl)
      have hsr : Reach hs [z0, z1, z2, z3, z4, z5, z6, z7, z8, z9, z10, z11, z12, z13, z14, z15] := HRC.out _ (by rw [HKN.out]; simp)
      have HSR := Lib.hid hsr
      have hN0 : known.length ≤ 1073741824 := Nat.le_trans (nodup_le HND.out fun z hz => (HRC.out z hz).mem hW) (allS_length hW.few)
      have hpre : pre.length < 1073741824 := by have h := HKN.out; rw [h] at hN0; simp at hN0; omega
      obtain ⟨fn, tmps, assign, body, hy, hR⟩ := HY.out O pre [z0, z1, z2, z3, z4, z5, z6, z7, z8, z9, z10, z11, z12, z13, z14, z15] wr HJr.out ⟨hsr, hpre⟩
      have hy' : (Instr.yield l #[.agg #[.int .i64 z0, .int .i64 z1, .int .i64 z2, .int .i64 z3, .int .i64 z4, .int .i64 z5, .int .i64 z6, .int .i64 z7, .int .i64 z8, .int .i64 z9, .int .i64 z10, .int .i64 z11, .int .i64 z12, .int .i64 z13, .int .i64 z14, .int .i64 z15]]).run Tryd.prog wr = .ok (.round l fn tmps assign body) wr := hy
      have HR := Lib.hid hR
      clear hy hR hsr hs16
      refine wpIn_wide (n := 1).1 ?_
      clear HOK HNO
      gi_wp2_with fail
      refine HR.out.mono ?_
      rintro e W4 (⟨rfl, O4, hj4, ht4, ho4⟩ | ⟨rfl, hjx⟩)
      · have hd := HD.out
        have hp4 := HPr.out.touch ht4 (by omega) (HJP.out _ _ _ HJr.out)
        have c0 := hp4.box.cell 0
        have c1 := hp4.box.cell 1
        simp at c0 c1
        obtain ⟨Ah, ch, rfl, _, _⟩ := hp4.hands
        have hs4 := ht4.size
        have hO4 : ∀ k, O4 k → O k ∨ wr.heap.size ≤ k := ho4
        have n1 : ¬ O4 g := fun h => (ho4 g h).elim hd.1 fun h => by have := HQr.out.blk; obtain ⟨v, hv, _⟩ := this; have := hv.lt; omega
        have n2 : ¬ O4 mm := fun h => (ho4 mm h).elim hd.2.1 fun h => by have := HQr.out.set.lt; omega
        have n3 : ¬ O4 lb3 := fun h => (ho4 lb3 h).elim hd.2.2.1 fun h => by
          obtain ⟨v, hv, _, hl⟩ := HQr.out.blk
          have := hv.lt
          rcases hl with ⟨_, h2⟩ | ⟨_, _, h2⟩ <;> omega
        have n4 : ¬ O4 sb := fun h => (ho4 sb h).elim hd.2.2.2.1 fun h => by have := HSB.out.lt; omega
        have hq4 := HQr.out.touch ht4 hd.1 hd.2.1 hd.2.2.1
        have hsb4 := HSB.out.touch ht4 hd.2.2.2.1
        have HN1 := Lib.hid n1
        have HN2 := Lib.hid n2
        have HN3 := Lib.hid n3
        have HN4 := Lib.hid n4
        have HQ4 := Lib.hid hq4
        have HSB4 := Lib.hid hsb4
        have HP4 := Lib.hid hp4
        have HJ4 := Lib.hid hj4
        have hb04 : W.heap.size ≤ W4.heap.size := by omega
        clear hy' y0 y1 y2 y3 y4 y5 y6 y7 y8 y9 y10 y11 y12 y13 y14 y15 hd n1 n2 n3 n4 hq4 hsb4 hp4 hj4 ht4 ho4 hO4 HR HSB HQr HJr HPr
        gi_wp2_with fail
        refine wpIn_wide.2 ?_
        clear c0 c1
        go_loopw [29] (fun i wx => IHead hs words (.slice Ah hs.length ch) pb B g mm sb W.heap.size J O4 pre [z0, z1, z2, z3, z4, z5, z6, z7, z8, z9, z10, z11, z12, z13, z14, z15] i wx) (fun i _ => hs.length - (intOf i).toNat)
        case atStart =>
          have hd := HD.out
          exact ⟨0, known, rest, lb3, Nat.zero_le _, rfl, HQ4.out, HN3.out, hd.2.2.2.2.2.2.2.2.2.1, hd.2.2.2.2.2.2.1, HKN.out, HND.out, HRC.out, HCL.out, fun p hp => by omega, HZ0.out, HSB4.out, HJ4.out, HP4.out, hb04⟩
        case round =>
          obtain ⟨k, kn, rs, lb5, hk, rfl, hq, h1, h2, h3, hkn, hnd, hrc, hcl, hst, hz0, hsb, hj, hp, hb0x⟩ := hrel
          clear HQ4 HSB4 HP4 HJ4 HN3
          have hN : kn.length ≤ 1073741824 := Nat.le_trans (nodup_le hnd fun z hz => (hrc z hz).mem hW) (allS_length hW.few)
          have hrl : rs.length ≤ kn.length := by rw [hkn]; simp; omega
          have hprl : pre.length < kn.length := by rw [hkn]; simp
          have HQx := Lib.hid hq
          have HKX := Lib.hid hkn
          have HNDx := Lib.hid hnd
          have HRCx := Lib.hid hrc
          have HCLx := Lib.hid hcl
          have HSTx := Lib.hid hst
          have HZ0x := Lib.hid hz0
          have HSBx := Lib.hid hsb
          have HJx := Lib.hid hj
          have HPx := Lib.hid hp
          have HL5 := Lib.hid h1
          have HS5 := Lib.hid h3
          have hsbl := hsb.lt
          have hgl : g < wr.heap.size := by obtain ⟨v, hv, _⟩ := hq.blk; exact hv.lt
          have hml : mm < wr.heap.size := hq.set.lt
          have hBx : B ≤ wr.heap.size := by omega
          clear hq hkn hnd hrc hcl hst hz0 hsb hj hp h1 h3
          by_cases hlt : k < hs.length
          · obtain ⟨ls, hls⟩ : ∃ ls, hs[k]? = some ls := ⟨hs[k], List.getElem?_eq_getElem hlt⟩
            have hgood := HSR.out.good hW
            obtain ⟨n, hn⟩ := hgood.fit.2 k hlt
            have HLS := Lib.hid hls
            have HN := Lib.hid hn
            have h5 := hW.short k ls hls
            have HOKL := Lib.hid (hW.okay k ls hls)
            have h3w := hW.few
            have hw4 := hW.hi
            have c0 := HPx.out.box.cell 0
            have c1 := HPx.out.box.cell 1
            simp at c0 c1
            have HHx := Lib.hid (HPx.out.hands.more hBx)
            have hzr := HSR.out.step (p := k) hlt
            have HZR := Lib.hid hzr
            have HZL := Lib.hid ((hzr.good hW).fit.1)
            have HZG := Lib.hid (hzr.rng hW)
            obtain ⟨zz, hzz⟩ : ∃ zz, zz = stp hs [z0, z1, z2, z3, z4, z5, z6, z7, z8, z9, z10, z11, z12, z13, z14, z15] k := ⟨_, rfl⟩
            have HSTEP : ∀ wy, Hands wy wy.heap.size (.slice Ah hs.length ch) hs → Calls Tryd.prog 47 #[.agg (row [z0, z1, z2, z3, z4, z5, z6, z7, z8, z9, z10, z11, z12, z13, z14, z15]), .agg #[.int .i64 words, .slice Ah hs.length ch], .int .i64 k] wy fun e w' => e = .returned (.agg (row zz)) ∧ Below wy.heap.size wy w' := fun wy hy => by rw [hzz]; exact step_any [z0, z1, z2, z3, z4, z5, z6, z7, z8, z9, z10, z11, z12, z13, z14, z15] words _ hs k ls n wy hy hls h3w hn rfl hw4 h5 HOKL.out
            have HSTEPx := Lib.hid HSTEP
            rw [← hzz] at HZR HZL HZG
            have HZZ := Lib.hid hzz
            clear hls hn hgood hzr hzz HSTEP
            go_wp2_with (first | (refine wpList_load_row rfl 63 (.tmp 4) rfl sb rfl _ (row [z0, z1, z2, z3, z4, z5, z6, z7, z8, z9, z10, z11, z12, z13, z14, z15]) _ _ HSBx.out Tryd.underlying63 rfl Tst.info ?_) | (go_at_call 47; refine (HSTEPx.out _ HHx.out).mono ?_; rintro e w1 ⟨rfl, hb1⟩; have hT1 : Touch (fun _ => False) wr w1 := Touch.of_below hb1 (fun i h1 h2 => by omega); have HT1 := Lib.hid hT1; have HQ1 := Lib.hid (HQx.out.touch hT1 (fun h => h) (fun h => h) (fun h => h)); clear hb1 hT1) | (go_at_call 46; refine (put_any g mm lb5 kn rs zz _ HQ1.out HZL.out HZG.out (by omega) (by omega)).mono ?_; rintro e w2 ⟨rfl, hT2, lb6, hQ2, hlb6⟩; have HT2 := Lib.hid hT2; have HQ2 := Lib.hid hQ2; have HLB6 := Lib.hid hlb6; clear hT2 hQ2 hlb6))
            go_roundw
            case rel =>
              have hd := HD.out
              have hs1 := HT1.out.size
              have hTT : Touch (fun i => i = g ∨ i = mm ∨ i = lb5) wr w2 := (HT1.out.mono fun _ h => h.elim).trans HT2.out fun i h => Or.inl h
              have hs2 := hTT.size
              have hoth : ∀ i, O4 i → i < wr.heap.size := (HJ.out _).there _ _ HJx.out
              refine ⟨k + 1, ins1 kn zz, _, lb6, by omega, by go_num, HQ2.out, ?_, ?_, ?_, ins_rel zz HKX.out, ins_nodup zz HNDx.out, ?_, ?_, ?_, mem_ins1.2 (Or.inl HZ0x.out), HSBx.out.touch hTT (fun h => by rcases h with h | h | h; exact hd.2.2.2.2.1 h; exact hd.2.2.2.2.2.1 h; exact HS5.out h), (HJ.out _).stays _ _ _ _ HJx.out hTT (fun i h1 h2 => by rcases h2 with h2 | h2 | h2; exact HN1.out (h2 ▸ h1); exact HN2.out (h2 ▸ h1); exact HL5.out (h2 ▸ h1)) (fun i h => HON.out i (by have := hd.2.2.2.2.2.2.2.1; have := hd.2.2.2.2.2.2.2.2.1; omega)), HPx.out.touch hTT hBx (fun i h => by have := hd.2.2.2.2.2.2.2.1; have := hd.2.2.2.2.2.2.2.2.1; omega), by omega⟩
              · rcases HLB6.out with h | h
                · rw [h]; exact HL5.out
                · exact fun h' => by have := hoth _ h'; omega
              · rcases HLB6.out with h | h <;> omega
              · rcases HLB6.out with h | h
                · rw [h]; exact HS5.out
                · omega
              · intro z hz
                rcases mem_ins1.1 hz with h | h
                · exact HRCx.out z h
                · rw [h]; exact HZR.out
              · exact fun z hz p hp => mem_ins1.2 (Or.inl (HCLx.out z hz p hp))
              · intro p hp
                by_cases e : p = k
                · subst e; exact mem_ins1.2 (Or.inr HZZ.out.symm)
                · exact mem_ins1.2 (Or.inl (HSTx.out p (by omega)))
            case measure => simp [intOf]; omega
          · have hke : k = hs.length := by omega
            have HKE := Lib.hid hke
            have hA := Block.made wr 63 #[.int .i64 0, .int .i64 0, .int .i64 0, .int .i64 0, .int .i64 0, .int .i64 0, .int .i64 0, .int .i64 0, .int .i64 0, .int .i64 0, .int .i64 0, .int .i64 0, .int .i64 0, .int .i64 0, .int .i64 0, .int .i64 0]
            have hB2 : Block ((wr.alloc (.cells #[.int .i64 0, .int .i64 0, .int .i64 0, .int .i64 0, .int .i64 0, .int .i64 0, .int .i64 0, .int .i64 0, .int .i64 0, .int .i64 0, .int .i64 0, .int .i64 0, .int .i64 0, .int .i64 0, .int .i64 0, .int .i64 0] 63)).setRow wr.heap.size (row [z0, z1, z2, z3, z4, z5, z6, z7, z8, z9, z10, z11, z12, z13, z14, z15])) wr.heap.size 63 (row [z0, z1, z2, z3, z4, z5, z6, z7, z8, z9, z10, z11, z12, z13, z14, z15]) := setRow_heap _ _ _ _ _ _ hA
            have hT1 : Touch (fun _ => False) wr ((wr.alloc (.cells #[.int .i64 0, .int .i64 0, .int .i64 0, .int .i64 0, .int .i64 0, .int .i64 0, .int .i64 0, .int .i64 0, .int .i64 0, .int .i64 0, .int .i64 0, .int .i64 0, .int .i64 0, .int .i64 0, .int .i64 0, .int .i64 0] 63)).setRow wr.heap.size (row [z0, z1, z2, z3, z4, z5, z6, z7, z8, z9, z10, z11, z12, z13, z14, z15])) := ((Touch.refl _ wr).alloc _).setRow (Or.inr (Nat.le_refl _)) _
            have HA := Lib.hid hA
            have HB2 := Lib.hid hB2
            have HT1 := Lib.hid hT1
            have HQ1 := Lib.hid (HQx.out.touch hT1 (fun h => h) (fun h => h) (fun h => h))
            have hlb5 : lb5 < wr.heap.size := by
              obtain ⟨v, _, _, hl⟩ := HQx.out.blk
              rcases hl with ⟨_, h⟩ | ⟨_, _, h⟩ <;> omega
            clear hA hB2 hT1 hke
            cases rs with
            | nil =>
              have HXS := Lib.hid (show (row zero16).size = 16 from rfl)
              go_wp2_with fail
              refine wpIn_wide.2 ?_
              go_wp2_with (first | (refine wpList_load_row rfl 63 (.tmp 4) rfl sb rfl _ (row [z0, z1, z2, z3, z4, z5, z6, z7, z8, z9, z10, z11, z12, z13, z14, z15]) _ _ HSBx.out Tryd.underlying63 rfl Tst.info ?_) | (refine wpList_store_row rfl 63 (.tmp 4) (.tmp 39) rfl wr.heap.size (row [z0, z1, z2, z3, z4, z5, z6, z7, z8, z9, z10, z11, z12, z13, z14, z15]) rfl rfl _ _ HA.out Tst.info rfl (row_one _) ?_) | (go_at_call 45; refine (take_none g mm lb5 kn _ HQ1.out).mono ?_; rintro e w2 ⟨rfl, hT2⟩; have HT2 := Lib.hid hT2; have HQ2 := Lib.hid (HQ1.out.touch hT2 (fun h => h) (fun h => h) (fun h => h)); have HNB2 := Lib.hid (HB2.out.touch hT2 (fun h => h)); clear hT2) | (refine wpList_store_row rfl 63 (.tmp 4) (.tmp 24) rfl wr.heap.size (row zero16) rfl rfl _ _ HNB2.out (by rw [HXS.out]; exact Tst.info) (by rw [HXS.out]; rfl) (row_one _) ?_))
              have hgk := HGK.out
              have hd := HD.out
              have hTT : Touch (fun i => i = g) wr (w2.setRow wr.heap.size (row zero16)) := ((HT1.out.mono (O' := fun i => i = g) fun _ h => h.elim).trans (O' := fun i => i = g) (HT2.out.mono (fun _ h => h.elim)) fun i h => Or.inl h).setRow (Or.inr (Nat.le_refl _)) _
              have hT9 : Touch (fun i => i = wr.heap.size) w2 (w2.setRow wr.heap.size (row zero16)) := (Touch.refl (fun i => i = wr.heap.size) _).setRow (Or.inl rfl) _
              have hs2 := hTT.size
              have hoth : ∀ i, O4 i → i < wr.heap.size := (HJ.out _).there _ _ HJx.out
              go_roundg (gk - 1)
              case measure => omega
              case rel =>
                refine ⟨O4, pre ++ [[z0, z1, z2, z3, z4, z5, z6, z7, z8, z9, z10, z11, z12, z13, z14, z15]], kn, [], mm, lb5, wr.heap.size, zero16, false, rfl, rfl, setRow_heap _ _ _ _ _ _ HNB2.out, by have := HXS.out; rwa [row_size] at this, HQ2.out.touch hT9 (by omega) (by omega) (by omega), (HJ.out _).stays _ _ _ _ HJx.out hTT (fun i h1 h2 => HN1.out (h2 ▸ h1)) (fun i h => HON.out i (by have := hd.2.2.2.2.2.2.2.1; omega)), ⟨HN1.out, HN2.out, HL5.out, fun h => by have := hoth _ h; omega, by omega, by omega, by omega, hd.2.2.2.2.2.2.2.1, hd.2.2.2.2.2.2.2.2.1, by omega, by omega⟩, HPx.out.touch hTT hBx (fun i h => by have := hd.2.2.2.2.2.2.2.1; omega), by omega, HNDx.out, HRCx.out, ?_, HZ0x.out, (fun h => by cases h), (fun _ => HKX.out), by simp; omega⟩
                intro z hz p hp
                rcases List.mem_append.1 hz with h | h
                · exact HCLx.out z h p hp
                · rw [List.mem_singleton.1 h]; exact HSTx.out p (by have := HKE.out; omega)
            | cons x rs =>
              have HXS := Lib.hid (show (row x).size = 16 by rw [row_size]; exact (HQx.out.len x (HQx.out.sub x (by simp))).1)
              go_wp2_with fail
              refine wpIn_wide.2 ?_
              go_wp2_with (first | (refine wpList_load_row rfl 63 (.tmp 4) rfl sb rfl _ (row [z0, z1, z2, z3, z4, z5, z6, z7, z8, z9, z10, z11, z12, z13, z14, z15]) _ _ HSBx.out Tryd.underlying63 rfl Tst.info ?_) | (refine wpList_store_row rfl 63 (.tmp 4) (.tmp 39) rfl wr.heap.size (row [z0, z1, z2, z3, z4, z5, z6, z7, z8, z9, z10, z11, z12, z13, z14, z15]) rfl rfl _ _ HA.out Tst.info rfl (row_one _) ?_) | (go_at_call 45; refine (take_some g mm lb5 kn rs x _ HQ1.out).mono ?_; rintro e w2 ⟨rfl, hT2, hQ2⟩; have HT2 := Lib.hid hT2; have HQ2 := Lib.hid hQ2; have HNB2 := Lib.hid (HB2.out.touch hT2 (by omega)); clear hT2 hQ2) | (refine wpList_store_row rfl 63 (.tmp 4) (.tmp 24) rfl wr.heap.size (row x) rfl rfl _ _ HNB2.out (by rw [HXS.out]; exact Tst.info) (by rw [HXS.out]; rfl) (row_one _) ?_))
              have hgk := HGK.out
              have hd := HD.out
              have hTT : Touch (fun i => i = g) wr (w2.setRow wr.heap.size (row x)) := ((HT1.out.mono (O' := fun i => i = g) fun _ h => h.elim).trans (O' := fun i => i = g) HT2.out fun i h => Or.inl h).setRow (Or.inr (Nat.le_refl _)) _
              have hT9 : Touch (fun i => i = wr.heap.size) w2 (w2.setRow wr.heap.size (row x)) := (Touch.refl (fun i => i = wr.heap.size) _).setRow (Or.inl rfl) _
              have hs2 := hTT.size
              have hoth : ∀ i, O4 i → i < wr.heap.size := (HJ.out _).there _ _ HJx.out
              go_roundg (gk - 1)
              case measure => omega
              case rel =>
                refine ⟨O4, pre ++ [[z0, z1, z2, z3, z4, z5, z6, z7, z8, z9, z10, z11, z12, z13, z14, z15]], kn, rs, mm, lb5, wr.heap.size, x, true, rfl, rfl, setRow_heap _ _ _ _ _ _ HNB2.out, by have := HXS.out; rwa [row_size] at this, HQ2.out.touch hT9 (by omega) (by omega) (by omega), (HJ.out _).stays _ _ _ _ HJx.out hTT (fun i h1 h2 => HN1.out (h2 ▸ h1)) (fun i h => HON.out i (by have := hd.2.2.2.2.2.2.2.1; omega)), ⟨HN1.out, HN2.out, HL5.out, fun h => by have := hoth _ h; omega, by omega, by omega, by omega, hd.2.2.2.2.2.2.2.1, hd.2.2.2.2.2.2.2.2.1, by omega, by omega⟩, HPx.out.touch hTT hBx (fun i h => by have := hd.2.2.2.2.2.2.2.1; omega), by omega, HNDx.out, HRCx.out, ?_, HZ0x.out, (fun _ => by rw [HKX.out]; simp), (fun h => by cases h), by simp; omega⟩
                intro z hz p hp
                rcases List.mem_append.1 hz with h | h
                · exact HCLx.out z h p hp
                · rw [List.mem_singleton.1 h]; exact HSTx.out p (by have := HKE.out; omega)
      · gi_wp2_with fail
        go_end0
        exact ⟨⟨_, rfl⟩, Or.inr ⟨_, fun z hz => by
          rcases List.mem_append.1 hz with h | h
          · exact HRC.out z (by rw [HKN.out]; simp [h])
          · rw [List.mem_singleton.1 h]; exact HSR.out, hjx⟩⟩
end Go.Proofs.YthpnnmkpbkbanaaDoor
