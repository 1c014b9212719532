/-
  Texts merged: RefRes0, RefRes1.
-/
import Derived.Test.YthpnnmkpbkbanaaDoorRefAp
import Derived.Test.YthpnnmkpbkbanaaDoorRefC
import Derived.Test.YthpnnmkpbkbanaaDoorRefTold
import Derived.Deep.OwnRows
import Derived.Test.YthpnnmkpbkbanaaDoorRefM
/-
  The document's answer's search in memory: its beginning, and what its steps leave.
-/
namespace Go.Proofs.YthpnnmkpbkbanaaDoor
open Go.RowKit

theorem Tstate.info : (Tryd.prog.info? 43).map (fun i => (i.zero, i.size, i.bytes)) = some (some (.slice none 0 0), 1, 24) := by kernel_rfl
theorem made_get1 (z : Value) (k : Nat) {i : Nat} (hi : i < k) : (madeCells #[z] k)[i]? = some z := by
  have h1 : (#[z] : Array Value)[i % (#[z] : Array Value).size]! = z := by simp [Nat.mod_one]
  rw [madeCells, Array.getElem?_map, Array.getElem?_range, if_pos hi, Option.map_some, h1]
theorem make_rows (w : World) : (Instr.makeSlice 42 (.int .i64 1009) (.int .i64 1009)).run Tryd.prog w = .ok (.slice (some ⟨w.heap.size, 0, none⟩) 1009 1009) (w.alloc (.cells (madeCells #[.slice none 0 0] 1009) 43)) :=
  run_make_row' 42 43 (.slice none 0 0) 24 Tryd.underlying42 Tstate.info rfl .i64 .i64 1009 (by omega) (by omega) w

/-- The search, in memory: the program, what is found, and nothing else has turned. -/
structure RSt (w wr : World) (words : Int) (hv : Value) (lv : Value) (cs : Array Value) (us : List Value) (bs : Nat → List Value) (L : List (List Int)) : Prop where
  pbk : Block wr w.heap.size 24 #[.int .i64 words, hv]
  fat : FAt (w.heap.size + 3) wr (w.heap.size + 2) (w.heap.size + 1) lv cs us bs L (fun k => buck L k)
  below : Below w.heap.size w wr
def FixR (w wr : World) (lv : Value) (cs : Array Value) (b : Nat) : Prop := Fix wr (w.heap.size + 2) (w.heap.size + 1) lv cs b
section
variable {w wr w' : World} {words : Int} {hv lv lv' : Value} {cs cs' : Array Value} {us us' : List Value} {bs bs' : Nat → List Value} {L L' : List (List Int)}
theorem RSt.on (h : RSt w wr words hv lv cs us bs L) (hb : Below wr.heap.size wr w') : RSt w w' words hv lv cs us bs L :=
  ⟨h.pbk.below hb h.pbk.lt, h.fat.below hb, h.below.trans (hb.mono h.below.size)⟩
theorem RSt.mine (h : RSt w wr words hv lv cs us bs L) {b : Nat} (hb : Mine (w.heap.size + 2) (w.heap.size + 1) lv cs b) : w.heap.size < b := by
  rcases hb with rfl | rfl | hb | ⟨k, bv, hk, hb⟩
  · omega
  · omega
  · have := (own_lt h.fat.own hb).1; omega
  · have := (own_lt (h.fat.bown k bv hk) hb).1; omega
theorem RSt.put (h : RSt w wr words hv lv cs us bs L) (hf : FAt (w.heap.size + 3) w' (w.heap.size + 2) (w.heap.size + 1) lv' cs' us' bs' L' (fun k => buck L' k)) (ht : Touch (Mine (w.heap.size + 2) (w.heap.size + 1) lv cs) wr w') : RSt w w' words hv lv' cs' us' bs' L' :=
  ⟨h.pbk.touch ht fun hm => by have := h.mine hm; omega, hf, h.below.trans (ht.below h.below.size fun b hb => Nat.le_of_lt (h.mine hb))⟩
theorem FixR.below (hb : Below wr.heap.size wr w') : ∀ b, FixR w wr lv cs b → FixR w w' lv cs b := fun _ h => ⟨Nat.lt_of_lt_of_le h.1 hb.size, h.2⟩
theorem FixR.cellB (hb : Below wr.heap.size wr w') {p : Addr} (hp : FixR w wr lv cs p.block) : w'.cell? p = wr.cell? p := hb.cell hp.1
theorem RSt.new (h : RSt w wr words hv lv cs us bs L) {b : Nat} (h1 : wr.heap.size ≤ b) (h2 : b < w'.heap.size) : FixR w w' lv cs b :=
  ⟨h2, fun hm => by have := h.fat.mine_lt hm; omega⟩
theorem RSt.start (w : World) (words : Int) (hv : Value) : RSt w (((w.alloc (.cells #[.int .i64 words, hv] 24)).alloc (.cells (madeCells #[.slice none 0 0] 1009) 43)).alloc (.cells #[.slice (some ⟨w.heap.size + 1, 0, none⟩) 1009 1009, .slice none 0 0] 45)) words hv (.slice none 0 0) (madeCells #[.slice none 0 0] 1009) [] (fun _ => []) [] := by
  have hg : ∀ (k : Nat) (bv : Value), (madeCells #[.slice none 0 0] 1009)[k]? = some bv → bv = .slice none 0 0 := fun k bv hk => by
    have hl := (Array.getElem?_eq_some_iff.1 hk).1
    rw [size_madeCells] at hl
    rw [made_get1 _ _ hl] at hk
    exact (Option.some.inj hk).symm
  have k1 := Block.made (w.alloc (.cells #[.int .i64 words, hv] 24)) 43 (madeCells #[.slice none 0 0] 1009)
  have k2 := Block.made ((w.alloc (.cells #[.int .i64 words, hv] 24)).alloc (.cells (madeCells #[.slice none 0 0] 1009) 43)) 45 #[.slice (some ⟨w.heap.size + 1, 0, none⟩) 1009 1009, .slice none 0 0]
  rw [World.size_alloc] at k1
  rw [World.size_alloc, World.size_alloc] at k2
  refine ⟨((Block.made w _ _).alloc _).alloc _, ⟨k2, k1.alloc _, size_madeCells _ _, by omega, by omega, by omega, by simp, World.ownsRow_nil _ _ _ _, RowsP.nil _ _, fun u hu => (by cases hu), fun k bv hk => (by obtain rfl := hg k bv hk; exact World.ownsRow_nil _ _ _ _), fun k _ => RowsP.nil _ _, fun k bv hk a ha => (by obtain rfl := hg k bv hk; cases ha)⟩, ?_⟩
  exact (((Below.refl _ _).alloc (Nat.le_refl _) _).alloc (by simp) _).alloc (by simp; omega) _
end
/-- A new row is in new memory. -/
theorem DonePost.form {w : World} {zs : List Int} {e : Ending} {w' : World} (h : DonePost w zs e w') (hl : zs.length = 46) : ∃ g c, e = .returned (.slice (some ⟨g, 0, none⟩) 46 c) ∧ 46 ≤ c ∧ NumsP w' (fun b => w.heap.size ≤ b ∧ b < w'.heap.size) (.slice (some ⟨g, 0, none⟩) 46 c) zs ∧ Below w.heap.size w w' := by
  obtain ⟨g, c, he, hc, hg1, hg2, hr, hb⟩ := h
  exact ⟨g, c, he, hc, hr.numsP hl (by omega) ⟨hg1, hg2⟩, hb⟩
theorem r46_ts0 : r46 ts0 = List.replicate 46 0 := by decide
end Go.Proofs.YthpnnmkpbkbanaaDoor

/-
  What latchgarthref1.Results answers where nothing waits.
-/
namespace Go.Proofs.YthpnnmkpbkbanaaDoor
open Go.RowKit

theorem CopyPost.form {w : World} {zs : List Int} {e : Ending} {w' : World} (h : CopyPost w zs e w') (hl : zs.length = 46) : ∃ g c, e = .returned (.slice (some ⟨g, 0, none⟩) 46 c) ∧ 46 ≤ c ∧ NumsP w' (fun b => w.heap.size ≤ b ∧ b < w'.heap.size) (.slice (some ⟨g, 0, none⟩) 46 c) zs ∧ Below w.heap.size w w' := by
  obtain ⟨g, c, he, hc, hg1, hg2, hr, hb⟩ := h
  rw [hl] at he hc
  exact ⟨g, c, he, hc, hr.numsP hl (by omega) ⟨hg1, hg2⟩, hb⟩
theorem putL_length (l : List (List Int)) (x : List Int) : (putL l x).length ≤ l.length + 1 := by
  have := put_len (ls := l) (x := x) l.length
  rw [List.take_length] at this
  rw [putL]
  simpa using this
/-- The row at hand, readable. -/
structure RRow (w wr : World) (lv : Value) (cs : Array Value) (b o c : Nat) (s : TS) : Prop where
  cap : 46 ≤ c
  num : NumsP wr (FixR w wr lv cs) (.slice (some ⟨b, o, none⟩) 46 c) (r46 s)
section
variable {w wr w' : World} {lv lv' : Value} {cs cs' : Array Value} {b o c : Nat} {s : TS}
theorem RRow.on (h : RRow w wr lv cs b o c s) (hb : Below wr.heap.size wr w') : RRow w w' lv cs b o c s := ⟨h.cap, h.num.keep (FixR.below hb) fun _ hp => FixR.cellB hb hp⟩
theorem RRow.turn (h : RRow w wr lv cs b o c s) (ht : Touch (Mine (w.heap.size + 2) (w.heap.size + 1) lv cs) wr w') (hm : ∀ b, Mine (w.heap.size + 2) (w.heap.size + 1) lv' cs' b → Mine (w.heap.size + 2) (w.heap.size + 1) lv cs b ∨ wr.heap.size ≤ b) : RRow w w' lv' cs' b o c s :=
  ⟨h.cap, h.num.keep (Fix.turn ht hm) fun _ hp => Fix.cell ht hp⟩
theorem RRow.nums (h : RRow w wr lv cs b o c s) : Nums wr wr.heap.size (.slice (some ⟨b, o, none⟩) 46 c) (r46 s) := h.num.nums fun _ hb => hb.1
theorem RRow.cell (h : RRow w wr lv cs b o c s) (hl : (r46 s).length = 46) {i : Nat} {z : Int} (hi : (r46 s)[i]? = some z) : wr.cell? ⟨b, o + i, none⟩ = some (.int .i64 z) := by
  obtain ⟨A, c', e, _, h2⟩ := h.num
  obtain ⟨b', o', e2, _, h3⟩ := h2 (by omega)
  injection e with e3 _ _
  rw [e2] at e3
  injection e3 with e3
  injection e3 with e4 e5
  rw [e4, e5]
  exact h3 i z hi
/-- What is told so far, readable. -/
def ROv (w wr : World) (lv : Value) (cs : Array Value) (ov : Value) (out : List (List Int)) : Prop := RwsP wr (FixR w wr lv cs) ov out
theorem ROv.on {ov : Value} {out : List (List Int)} (h : ROv w wr lv cs ov out) (hb : Below wr.heap.size wr w') : ROv w w' lv cs ov out := RwsP.keep h (FixR.below hb) fun _ hp => FixR.cellB hb hp
theorem ROv.turn {ov : Value} {out : List (List Int)} (h : ROv w wr lv cs ov out) (ht : Touch (Mine (w.heap.size + 2) (w.heap.size + 1) lv cs) wr w') (hm : ∀ b, Mine (w.heap.size + 2) (w.heap.size + 1) lv' cs' b → Mine (w.heap.size + 2) (w.heap.size + 1) lv cs b ∨ wr.heap.size ≤ b) : ROv w w' lv' cs' ov out :=
  RwsP.keep h (Fix.turn ht hm) fun _ hp => Fix.cell ht hp
end
theorem RSt.rows46 {words : Int} {hs : List (List Ln)} (hW : Well words hs) {wait : Bool} {L : List (List Int)} {a : Nat} (h : RKnow wait hs L a) : ∀ z ∈ L, z.length = 46 := fun z hz => by
  obtain ⟨s, h1, rfl⟩ := h.rch z hz
  exact h1.len hW
/-- A row that is put in. -/
theorem addR {w wr : World} {words : Int} {hs : List (List Ln)} (hW : Well words hs) {wait : Bool} {hv lv : Value} {cs : Array Value} {us : List Value} {bs : Nat → List Value} {L : List (List Int)} (h : RSt w wr words hv lv cs us bs L) (hL : ∀ z ∈ L, z.length = 46) (hfew : L.length ≤ 4459118884992) {t : TS} (ht : RR wait hs t) {g c : Nat} (hc : 46 ≤ c) (hn : NumsP wr (FixR w wr lv cs) (.slice (some ⟨g, 0, none⟩) 46 c) (r46 t)) :
    Calls Tryd.prog 15 #[.pointer (some ⟨w.heap.size + 2, 0, none⟩), .slice (some ⟨g, 0, none⟩) 46 c] wr fun e w' => e = .returned (.tuple #[]) ∧ ∃ lv' cs' us' bs', RSt w w' words hv lv' cs' us' bs' (ins1 L (r46 t)) ∧ Touch (Mine (w.heap.size + 2) (w.heap.size + 1) lv cs) wr w' ∧ ∀ b, Mine (w.heap.size + 2) (w.heap.size + 1) lv' cs' b → Mine (w.heap.size + 2) (w.heap.size + 1) lv cs b ∨ wr.heap.size ≤ b :=
  (add_any _ wr _ _ lv cs us bs L h.fat _ (r46 t) hn (fun A n c' e => by injection e with _ e1 e2; omega) (ht.len hW) (ht.small hW) hL hfew).mono fun _ _ ⟨he, lv', cs', us', bs', h1, h2, h3⟩ => ⟨he, lv', cs', us', bs', h.put h1 h2, h2, h3⟩

set_option maxRecDepth 100000 in
set_option maxHeartbeats 8000000 in
theorem refres_false (words : Int) (hv : Value) (hs : List (List Ln)) (w : World) (hh : Hands w w.heap.size hv hs) (hc : check words hs = 0) :
    Calls Tryd.prog 6 #[.agg #[.int .i64 words, hv], .bool false] w fun e w' => ∃ v, e = .returned v ∧ RwsP w' (fun b => b < w'.heap.size) v (scR words hs) ∧ Below w.heap.size w w' := by
  have HH := Lib.hid hh
  have hW := check_well hc
  have HW := Lib.hid hW
  have h3 := hW.few
  have HMK : ∀ w, (Instr.makeSlice 42 (.int .i64 1009) (.int .i64 1009)).run Tryd.prog w = .ok (.slice (some ⟨w.heap.size, 0, none⟩) 1009 1009) (w.alloc (.cells (madeCells #[.slice none 0 0] 1009) 43)) := make_rows
  obtain ⟨A, c, rfl, hlen, _⟩ := hh
  have HS0 := Lib.hid (RSt.start w words (.slice A hs.length c))
  clear hW hc
  go_enter Tryd.func6, Tryd.ntmps6
  go_wp2_with (first | (go_at_call 16; refine (first_any _).mono ?_; rintro e w1 hcp; obtain ⟨g, c1, rfl, hc46, hn1, hb1⟩ := hcp.form (by simp); rw [← r46_ts0] at hn1; have HR1 := Lib.hid hn1; have HS1 := Lib.hid (HS0.out.on hb1); clear hcp hn1 hb1) | (go_at_call 15; go_loud (refine (addR HW.out HS1.out (by simp) (by simp) (RR.start (wait := false) (hs := hs)) hc46 (HR1.out.keep (fun b hb => HS0.out.new hb.1 hb.2) fun _ _ => rfl)).mono ?_); rintro e w2 ⟨rfl, lv, cs, us, bs, hst, -, -⟩; have HS2 := Lib.hid hst; clear hst))
  rw [show ins1 [] (r46 ts0) = [r46 ts0] from rfl] at HS2
  go_loopw [6, 7] (fun ov av wr => ∃ (a : Nat) (lv : Value) (cs : Array Value) (us : List Value) (bs : Nat → List Value) (L out : List (List Int)), a ≤ L.length ∧ av = .int .i64 a ∧ RSt w wr words (.slice A hs.length c) lv cs us bs L ∧ RKnow false hs L a ∧ ROut false words hs L a out ∧ out.length ≤ a ∧ ROv w wr lv cs ov out) (fun _ av _ => 4459118884992 - (intOf av).toNat)
  case atStart => exact ⟨0, lv, cs, us, bs, [r46 ts0], [], by simp, rfl, HS2.out, RKnow.start _ _, ROut.start _ _ _ _, by simp, ⟨none, 0, rfl, by simp, fun h => by simp at h⟩⟩
  case round =>
    clear HS2 lv cs us bs HS0 HR1 HS1
    obtain ⟨a, lv, cs, us, bs, L, out, ha, rfl, hst, hkn, hou, hol, hov⟩ := hrel
    have hfew := hkn.few HW.out
    have HST := Lib.hid hst
    have HKN := Lib.hid hkn
    have HOU := Lib.hid hou
    have HOV := Lib.hid hov
    have HUL := Lib.hid hst.fat.row.1
    obtain ⟨Al, cl_, rfl, hAl⟩ := own_form hst.fat.own
    obtain ⟨Ao, co, rfl, _, _⟩ := hov
    have f1 : wr.cell? ⟨w.heap.size + 1 + 1, 1, none⟩ = some (.slice Al us.length cl_) := (hst.fat.fblk.cell 1).trans rfl
    clear hst hkn hou
    by_cases hlt : a < us.length
    · have haI : (a : Int) < us.length := by omega
      obtain ⟨gl, rfl⟩ := hAl (by omega)
      obtain ⟨u, hu⟩ : ∃ u, us[a]? = some u := ⟨_, List.getElem?_eq_getElem hlt⟩
      obtain ⟨y, hy⟩ : ∃ y, L[a]? = some y := ⟨_, List.getElem?_eq_getElem (by have := HUL.out; omega)⟩
      obtain ⟨s, hs', rfl⟩ := HKN.out.rch y (List.mem_of_getElem? hy)
      have hrl := hs'.len HW.out
      have hnu := HST.out.fat.row.2 a u _ hu hy
      have hcu := HST.out.fat.cap u (List.mem_of_getElem? hu)
      have g3 : wr.cell? ⟨gl, a, none⟩ = some u := own_at HST.out.fat.own hu
      have HNU := Lib.hid hnu
      obtain ⟨Au, cu, rfl, _, hnc⟩ := hnu
      obtain ⟨b, o, rfl, _, _⟩ := hnc (by omega)
      have HRR := Lib.hid (show RRow w wr (.slice (some ⟨gl, 0, none⟩) us.length cl_) cs b o cu s from ⟨by have := hcu _ _ _ rfl; omega, by rw [← hrl]; exact HNU.out⟩)
      have HSR := Lib.hid hs'
      have HRL := Lib.hid hrl
      have HY := Lib.hid hy
      have HQ5 := Lib.hid (hs'.q5 HW.out)
      have HQN := Lib.hid hs'.q_nil
      rw [hrl] at g3
      clear hu hy hs' hrl hcu hnc HNU
      go_wp2
      clear f1 g3 haI HUL hlt
      go_loopw [9, 10] (fun ev hv wr => ∃ (h : Nat) (eb : Bool) (lv : Value) (cs : Array Value) (us : List Value) (bs : Nat → List Value) (L : List (List Int)), h ≤ hs.length ∧ hv = .int .i64 h ∧ ev = .bool eb ∧ a < L.length ∧ RSt w wr words (.slice A hs.length c) lv cs us bs L ∧ RKnow false hs L a ∧ ROut false words hs L a out ∧ ROv w wr lv cs (.slice Ao out.length co) out ∧ RRow w wr lv cs b o cu s ∧ L[a]? = some (r46 s) ∧ RDone false hs L s h ∧ (eb = true ↔ ∀ p, p < h → rnext hs s p = none)) (fun _ hv _ => hs.length - (intOf hv).toNat)
      case atStart => exact ⟨0, true, _, cs, us, bs, L, by omega, rfl, rfl, (List.getElem?_eq_some_iff.1 HY.out).1, HST.out, HKN.out, HOU.out, HOV.out, HRR.out, HY.out, fun p hp => by omega, ⟨fun _ p hp => by omega, fun _ => rfl⟩⟩
      case round =>
        clear HST HKN HOU HOV HRR HY hAl
        obtain ⟨h, eb, lv, cs, us, bs, L, hh_, rfl, rfl, haL, hst, hkn, hou, hov, hrr, hy, hrd, heb⟩ := hrel
        have hfew := hkn.few HW.out
        have HST := Lib.hid hst
        have HKN := Lib.hid hkn
        have HOU := Lib.hid hou
        have HOV := Lib.hid hov
        have HRR := Lib.hid hrr
        have HY := Lib.hid hy
        have HRD := Lib.hid hrd
        have HEB := Lib.hid heb
        have c0 := hst.pbk.cell 0
        have c1 := hst.pbk.cell 1
        simp at c0 c1
        clear hst hkn hou hov hrr hy hrd heb
        by_cases hlt : h < hs.length
        · have hhI : (h : Int) < hs.length := by omega
          have hl : hs[h]? = some (hs.getD h []) := by rw [List.getD_eq_getElem?_getD, List.getElem?_eq_getElem hlt]; rfl
          have HNX := Lib.hid (next_any words _ _ hs (r46 s) wr.heap.size h (s.o h).n (hs.getD h []) wr ((HH.out.below HST.out.below (Nat.le_refl _)).more HST.out.below.size) HRR.out.nums hl (r46_n s (by omega)))
          have HC0 := Lib.hid (show (r46 s)[13 + h * 11]? = some (0 : Int) by rw [r46_cnt (by omega) HQ5.out, HQN.out h]; rfl)
          have i1 : (13 : Int) + (h : Int) * 11 < 46 := by omega
          have i2 : (0 : Int) ≤ 13 + (h : Int) * 11 := by omega
          clear hl
          cases hn : rnext hs s h with
          | none =>
            have HN := Lib.hid hn
            rw [rnext_none HW.out hlt hn, show lnV ⟨0, 0, 0, 0⟩ = .agg #[.int .i64 0, .int .i64 0, .int .i64 0, .int .i64 0] from rfl] at HNX
            clear hn
            go_wp2_with (go_at_call 17; refine HNX.out.mono ?_; rintro e w3 ⟨rfl, hb3⟩; have hb4 := hb3.alloc hb3.size (.cells #[.int .i64 0, .int .i64 0, .int .i64 0, .int .i64 0] 40); have HB4 := Lib.hid hb4; have HRR4 := Lib.hid (HRR.out.on hb4); have HST4 := Lib.hid (HST.out.on hb4); have HOV4 := Lib.hid (HOV.out.on hb4); have q0 := HRR4.out.cell HRL.out HC0.out; clear hb3 hb4)
            go_roundw
            case rel =>
              refine ⟨h + 1, eb, lv, cs, us, bs, L, by omega, by go_num, rfl, haL, HST4.out, HKN.out, HOU.out, HOV4.out, HRR4.out, HY.out, fun p hp => ?_, HEB.out.trans ⟨fun h1 p hp => ?_, fun h1 p hp => h1 p (by omega)⟩⟩
              · rcases Nat.lt_or_ge p h with h1 | h1
                · exact HRD.out p h1
                · obtain rfl : p = h := by omega
                  exact ⟨fun l hl => (by rw [HN.out] at hl; cases hl), fun hq => absurd (HQN.out p) hq⟩
              · rcases Nat.lt_or_ge p h with h2 | h2
                · exact h1 p h2
                · obtain rfl : p = h := by omega
                  exact HN.out
            case measure => simp [intOf]; omega
          | some l =>
            have HN := Lib.hid hn
            have HT := Lib.hid (RR.step HSR.out hlt hn rfl)
            have HOK := Lib.hid (well_line HW.out hn).2.2
            have HE := Lib.hid (show refDone (r46 s) h l = r46 (rstp false s h l) by rw [refDone_r46 (by omega) HW.out.hi HOK.out, rstp_rdo (HQN.out h)])
            have HSTP := Lib.hid (fun (W : World) (hs' : RRow w W lv cs b o cu s) => (by have := refstep_plain (r46 s) _ W.heap.size h (s.o h).n words l false W hs'.nums (Nat.le_refl _) HRL.out (by omega) (r46_n s (by omega)) (by have := HSR.out.n10 HW.out h; omega) HW.out.hi HOK.out (Or.inl rfl) 0 HC0.out (Or.inl rfl); rw [HE.out] at this; exact this : Calls Tryd.prog 18 #[.slice (some ⟨b, o, none⟩) 46 cu, .int .i64 h, lnV l, .bool false] W (DonePost W (r46 (rstp false s h l)))))
            rw [rnext_some HW.out hn] at HNX
            obtain ⟨y2, hy2⟩ : ∃ y2, y2 = rstp false s h l := ⟨_, rfl⟩
            rw [← hy2] at HT HSTP
            have HY2 := Lib.hid hy2
            obtain ⟨k, r, d, v⟩ := l
            rw [show lnV ⟨k, r, d, v⟩ = .agg #[.int .i64 k, .int .i64 r, .int .i64 d, .int .i64 v] from rfl] at HNX HSTP
            clear hn HE HOK hy2
            go_wp2_with (first | (go_at_call 17; refine HNX.out.mono ?_; rintro e w3 ⟨rfl, hb3⟩; have hb4 := hb3.alloc hb3.size (.cells #[.int .i64 k, .int .i64 r, .int .i64 d, .int .i64 v] 40); have HB4 := Lib.hid hb4; have HRR4 := Lib.hid (HRR.out.on hb4); have HST4 := Lib.hid (HST.out.on hb4); have HOV4 := Lib.hid (HOV.out.on hb4); have q0 := HRR4.out.cell HRL.out HC0.out; clear hb3 hb4) | (go_at_call 18; refine (HSTP.out _ HRR4.out).mono ?_; rintro e w5 hdp; obtain ⟨g2, c2, rfl, hc2, hn2, hb5⟩ := hdp.form (HT.out.len HW.out); have HN2 := Lib.hid (hn2.keep (fun b hb => HST4.out.new hb.1 hb.2) fun _ _ => rfl); have HST5 := Lib.hid (HST4.out.on hb5); have HRR5 := Lib.hid (HRR4.out.on hb5); have HOV5 := Lib.hid (HOV4.out.on hb5); clear hdp hn2 hb5) | (go_at_call 15; refine (addR HW.out HST5.out (RSt.rows46 HW.out HKN.out) hfew HT.out hc2 HN2.out).mono ?_; rintro e w6 ⟨rfl, lv', cs', us', bs', hst6, ht6, hm6⟩; have HST6 := Lib.hid hst6; have HRR6 := Lib.hid (HRR5.out.turn ht6 hm6); have HOV6 := Lib.hid (HOV5.out.turn ht6 hm6); have q6 := HRR6.out.cell HRL.out HC0.out; clear hst6 ht6 hm6))
            go_roundw
            case rel =>
              refine ⟨h + 1, false, lv', cs', us', bs', ins1 L (r46 y2), by omega, by go_num, rfl, ?_, HST6.out, HKN.out.put (by omega) HT.out, HOU.out.more (by omega) _, HOV6.out, HRR6.out, by rw [ins1_get haL]; exact HY.out, fun p hp => ?_, ⟨fun h1 => (by cases h1), fun h1 => ?_⟩⟩
              · unfold ins1; split
                · exact haL
                · simp; omega
              · rcases Nat.lt_or_ge p h with h1 | h1
                · exact (HRD.out.more (fun _ => ins1_mem)) p h1
                · obtain rfl : p = h := by omega
                  refine ⟨fun l hl _ => ?_, fun hq => absurd (HQN.out p) hq⟩
                  rw [HN.out] at hl
                  obtain rfl := Option.some.inj hl
                  rw [← HY2.out]
                  exact mem_ins1.2 (Or.inr rfl)
              · have := h1 h (by omega)
                rw [HN.out] at this
                cases this
            case measure => simp [intOf]; omega
        · have hhI : ¬ (h : Int) < hs.length := by omega
          obtain rfl : h = hs.length := by omega
          cases eb with
          | false =>
            have HNE := Lib.hid (show ¬ rEnd hs s from fun he => by have := HEB.out.2 (fun p hp => (he p hp).1); cases this)
            go_wp2
            go_roundw
            case rel => exact ⟨a + 1, lv, cs, us, bs, L, out, by omega, by go_num, HST.out, HKN.out.done HSR.out HY.out HRD.out, HOU.out.skip HW.out HSR.out HY.out HNE.out, by omega, HOV.out⟩
            case measure => simp [intOf]; omega
          | true =>
            have HE := Lib.hid (show rEnd hs s from fun p hp => ⟨HEB.out.1 rfl p hp, HQN.out p⟩)
            go_wp2_with (first | (go_at_call 21; refine (result_new (r46 s) _ words _ hs wr.heap.size wr ((HH.out.below HST.out.below (Nat.le_refl _)).more HST.out.below.size) h3 HW.out.lo HW.out.hi b o cu rfl HRR.out.cap HRR.out.nums (Nat.le_refl _) HRL.out).mono ?_; rintro e w7 ⟨v7, rfl, hn7, hb7⟩; have HN7 := Lib.hid (hn7.keep (fun b hb => HST.out.new hb.1 hb.2) fun _ _ => rfl); have HST7 := Lib.hid (HST.out.on hb7); have HOV7 := Lib.hid (HOV.out.on hb7); clear hn7 hb7) | (go_at_call 20; refine (refput_any out (rTold words hs (r46 s)) _ _ w7 (P := FixR w w7 lv cs) (fun b hb => hb.1) HOV7.out HN7.out (fun z hz => (HOU.out.len z hz).trans rTold_length.symm) (by omega)).mono ?_; rintro e w8 ⟨v8, rfl, hn8, hb8⟩; have HST8 := Lib.hid (HST7.out.on hb8); have HOV8 := Lib.hid (show ROv w w8 lv cs v8 (putL out (rTold words hs (r46 s))) from RwsP.keep hn8 (fun b hb => hb.elim (FixR.below hb8 b) fun h => HST7.out.new h.1 h.2) fun _ _ => rfl); clear hn8 hb8))
            go_roundw
            case rel => exact ⟨a + 1, lv, cs, us, bs, L, putL out (rTold words hs (r46 s)), by omega, by go_num, HST8.out, HKN.out.done HSR.out HY.out HRD.out, HOU.out.put HSR.out HY.out HE.out, by have := putL_length out (rTold words hs (r46 s)); omega, HOV8.out⟩
            case measure => simp [intOf]; omega
    · have haI : ¬ (a : Int) < us.length := by omega
      go_wp2
      go_ret
      have e : out = scR words hs := HOU.out.sc HW.out HKN.out (by have := HUL.out; omega)
      exact ⟨_, rfl, by rw [← e]; exact RwsP.keep HOV.out (fun b hb => hb.1) fun _ _ => rfl, HST.out.below⟩
end Go.Proofs.YthpnnmkpbkbanaaDoor
