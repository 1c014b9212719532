/-
  What latchgarthlaw4.taken answers: what comes out of a deque, beside the state with its ghosts.
-/
import Derived.Test.YtbicckeoidijpaaDequeFact
import Derived.Test.YtbicckeoidijpaaDqOnce
import Derived.Test.YtbicckeoidijpaaRws
import Derived.Deep.CutBlock
import Derived.Deep.RegionLaw
namespace Go.Proofs.Ytbicckeoidijpaa.Dq
open Go.RowKit

theorem Tint2.info : (Try.prog.info? 3).map (fun i => (i.zero, i.size, i.bytes)) = some (some (.int .i64 0), 1, 8) := by kernel_rfl
/-- The deque with its ghosts, and the two rows that the law writes down, in blocks from base on. -/
structure TA (w W : World) (g n base A : Nat) (gs : DS) (nx : Nat) (ps : Bool) (vP vQ : Value) (P Q : List Int) : Prop where
  lk : ∃ s, LkAt w W g n s A ∧ DR s gs
  os : OS gs nx ps P Q
  rg : RG W base (at4 vP vQ (.slice none 0 0) (.slice none 0 0)) (at4 P Q [] [])
  gb : g < base
  bs : base ≤ W.heap.size
section
variable {w W W' : World} {g n base A A' : Nat} {gs gs' : DS} {nx nx' : Nat} {ps ps' : Bool} {vP vQ : Value} {P Q P' Q' : List Int}
theorem TA.below (k : TA w W g n base A gs nx ps vP vQ P Q) : Below w.heap.size w W := by
  obtain ⟨s, h, _⟩ := k.lk
  exact h.below
theorem TA.new (k : TA w W g n base A gs nx ps vP vQ P Q) : w.heap.size ≤ g ∧ 1 ≤ n ∧ n ≤ 4 ∧ g < W.heap.size := by
  obtain ⟨s, h, _⟩ := k.lk
  exact ⟨h.new, h.pos, h.four, h.lt⟩
theorem TA.turn (k : TA w W g n base A gs nx ps vP vQ P Q) (hl : ∃ s, LkAt w W' g n s A' ∧ DR s gs') (ht : Touch (fun k => k = g) W W') (ho : OS gs' nx' ps' P Q) : TA w W' g n base A' gs' nx' ps' vP vQ P Q :=
  ⟨hl, ho, k.rg.touch ht fun i hi => by have := k.gb; omega, k.gb, Nat.le_trans k.bs ht.size⟩
theorem TA.older (k : TA w W g n base A gs nx ps vP vQ P Q) (h : A ≤ A') : TA w W g n base A' gs nx ps vP vQ P Q := ⟨k.lk.imp fun _ q => ⟨q.1.older h, q.2⟩, k.os, k.rg, k.gb, k.bs⟩
theorem TA.made (k : TA w W g n base A gs nx ps vP vQ P Q) (o : Obj) : TA w (W.alloc o) g n base A gs nx ps vP vQ P Q :=
  ⟨k.lk.imp fun _ q => ⟨q.1.made o, q.2⟩, k.os, k.rg.alloc o, k.gb, by have := k.bs; simp; omega⟩
theorem TA.touch {O : Nat → Prop} (k : TA w W g n base A gs nx ps vP vQ P Q) (ht : Touch O W W') (hO : ∀ i, O i → base ≤ i ∧ W.heap.size ≤ i) : TA w W' g n base A gs nx ps vP vQ P Q :=
  ⟨k.lk.imp fun _ q => ⟨q.1.touch ht fun i hi => by have := hO i hi; have := k.gb; have := k.new.1; omega, q.2⟩, k.os, k.rg.touch ht fun i hi => .inr (hO i hi).2, k.gb, Nat.le_trans k.bs ht.size⟩
/-- The same without what the law knows. -/
structure TB (w W : World) (g n base A : Nat) (gs : DS) (vP vQ : Value) (P Q : List Int) : Prop where
  lk : ∃ s, LkAt w W g n s A ∧ DR s gs
  rg : RG W base (at4 vP vQ (.slice none 0 0) (.slice none 0 0)) (at4 P Q [] [])
  gb : g < base
  bs : base ≤ W.heap.size
theorem TA.turnB (k : TA w W g n base A gs nx ps vP vQ P Q) (hl : ∃ s, LkAt w W' g n s A' ∧ DR s gs') (ht : Touch (fun k => k = g) W W') : TB w W' g n base A' gs' vP vQ P Q :=
  ⟨hl, k.rg.touch ht fun i hi => by have := k.gb; omega, k.gb, Nat.le_trans k.bs ht.size⟩
theorem TB.new (k : TB w W g n base A gs vP vQ P Q) : w.heap.size ≤ g := by
  obtain ⟨s, h, _⟩ := k.lk
  exact h.new
theorem TB.appP (k : TB w W g n base A gs vP vQ P Q) {o : Obj} {q m cap : Nat} {z : Int} {ys : List Value} (hown : W'.ownsRow base 3 1 (.slice (some ⟨q, 0, none⟩) m cap) m ys) (hn : m = P.length + 1) (hy : ys = P.map (Value.int .i64) ++ [.int .i64 z])
    (hg : (W.alloc o).grownBy W' vP.ownBlock) (hat : vP.ownBlock = some q ∨ q = W.heap.size + 1) : (∃ s, LkAt w W' g n s A ∧ DR s gs) ∧ RG W' base (at4 (.slice (some ⟨q, 0, none⟩) m cap) vQ (.slice none 0 0) (.slice none 0 0)) (at4 (P ++ [z]) Q [] []) ∧ g < base ∧ base ≤ W'.heap.size := by
  obtain ⟨h1, h2⟩ := k.rg.app0 hown hn hy hg hat
  have hO : ∀ b, vP.ownBlock = some b → base ≤ b := fun b hb => (k.rg.lt (i := 0) (by omega) hb).1
  exact ⟨k.lk.imp fun _ q => ⟨q.1.touch h2 fun b hb => by have := hO b hb; have := k.new; have := k.gb; omega, q.2⟩, h1, k.gb, Nat.le_trans k.bs h2.size⟩
theorem TB.appQ (k : TB w W g n base A gs vP vQ P Q) {o : Obj} {q m cap : Nat} {z : Int} {ys : List Value} (hown : W'.ownsRow base 3 1 (.slice (some ⟨q, 0, none⟩) m cap) m ys) (hn : m = Q.length + 1) (hy : ys = Q.map (Value.int .i64) ++ [.int .i64 z])
    (hg : (W.alloc o).grownBy W' vQ.ownBlock) (hat : vQ.ownBlock = some q ∨ q = W.heap.size + 1) : (∃ s, LkAt w W' g n s A ∧ DR s gs) ∧ RG W' base (at4 vP (.slice (some ⟨q, 0, none⟩) m cap) (.slice none 0 0) (.slice none 0 0)) (at4 P (Q ++ [z]) [] []) ∧ g < base ∧ base ≤ W'.heap.size := by
  obtain ⟨h1, h2⟩ := k.rg.app1 hown hn hy hg hat
  have hO : ∀ b, vQ.ownBlock = some b → base ≤ b := fun b hb => (k.rg.lt (i := 1) (by omega) hb).1
  exact ⟨k.lk.imp fun _ q => ⟨q.1.touch h2 fun b hb => by have := hO b hb; have := k.new; have := k.gb; omega, q.2⟩, h1, k.gb, Nat.le_trans k.bs h2.size⟩
theorem TB.ownP (k : TB w W g n base A gs vP vQ P Q) (o : Obj) {K : Nat} (hK : P.length = K) : (W.alloc o).ownsRow base 3 1 vP K (P.map (Value.int .i64)) := by
  have := (k.rg.alloc o).own 0 (by omega)
  rw [← hK]; exact this
theorem TB.ownQ (k : TB w W g n base A gs vP vQ P Q) (o : Obj) {K : Nat} (hK : Q.length = K) : (W.alloc o).ownsRow base 3 1 vQ K (Q.map (Value.int .i64)) := by
  have := (k.rg.alloc o).own 1 (by omega)
  rw [← hK]; exact this
theorem TA.formP (k : TA w W g n base A gs nx ps vP vQ P Q) {K : Nat} (hK : P.length = K) : ∃ a c, vP = .slice a K c ∧ (0 < K → ∃ b, a = some ⟨b, 0, none⟩ ∧ b < W.heap.size) := by
  subst hK
  obtain ⟨a, c, e, h⟩ := k.rg.form (i := 0) (by omega)
  exact ⟨a, c, e, fun h0 => (h h0).imp fun _ h => ⟨h.1, h.2.2⟩⟩
theorem TA.formQ (k : TA w W g n base A gs nx ps vP vQ P Q) {K : Nat} (hK : Q.length = K) : ∃ a c, vQ = .slice a K c ∧ (0 < K → ∃ b, a = some ⟨b, 0, none⟩ ∧ b < W.heap.size) := by
  subst hK
  obtain ⟨a, c, e, h⟩ := k.rg.form (i := 1) (by omega)
  exact ⟨a, c, e, fun h0 => (h h0).imp fun _ h => ⟨h.1, h.2.2⟩⟩
theorem TA.cellP {b m c : Nat} (k : TA w W g n base A gs nx ps (.slice (some ⟨b, 0, none⟩) m c) vQ P Q) {j : Nat} {z : Int} (hj : P[j]? = some z) : W.cell? ⟨b, j, none⟩ = some (.int .i64 z) := k.rg.cell (i := 0) (by omega) rfl hj
theorem TA.cellQ {b m c : Nat} (k : TA w W g n base A gs nx ps vP (.slice (some ⟨b, 0, none⟩) m c) P Q) {j : Nat} {z : Int} (hj : Q[j]? = some z) : W.cell? ⟨b, j, none⟩ = some (.int .i64 z) := k.rg.cell (i := 1) (by omega) rfl hj
/-- A hand's line by the ghosts. -/
theorem gat_is {s : DV} (k : DVOk s) (r : DR s gs) (q : Nat) : s.a q = gat gs q ∧ (q ≠ 0 → gat gs q ≠ 0 → 9 ≤ (gs.th q).a ∧ (gs.th q).a ≤ 12) := by
  unfold gat
  by_cases e : q = 0
  · subst e; rw [if_pos rfl]; exact ⟨r.a0, fun h => absurd rfl h⟩
  · rw [if_neg e]
    have := r.ap q (by omega)
    refine ⟨this, fun _ h => ?_⟩
    rcases (k.th q (by omega)).1 with h1 | h1 <;> omega
theorem stepE (k : TA w W g n base A gs nx ps vP vQ P Q) (hA : A ≤ 1000000) (p : Int) (hp : ¬ (0 ≤ p ∧ p < n) ∨ gat gs p.toNat = 0) :
    Calls Try.prog 13 #[.pointer (some ⟨g, 0, none⟩), .int .i64 p] W fun e W' => (∃ c : Int, e = .returned (.tuple #[.bool false, .int .i64 0, .iface 43 (.int .i64 c)])) ∧ TA w W' g n base (A + 1) gs nx ps vP vQ P Q ∧ Touch (fun k => k = g) W W' := by
  obtain ⟨s, hl, hr⟩ := k.lk
  have he : sStpE n s p = 1 ∨ sStpE n s p = 7 := by
    unfold sStpE
    by_cases h : 0 ≤ p ∧ p < n
    · rw [if_neg (fun q => q h), (gat_is hl.ok hr p.toNat).1, if_pos (by rcases hp with h2 | h2; exact absurd h h2; exact h2)]
      exact .inr rfl
    · rw [if_pos h]; exact .inl rfl
  have hs : sStpS n s p = s := by unfold sStpS; rw [if_neg (by omega)]
  have hd : sStpD n s p = false := by unfold sStpD; rw [if_neg (by omega)]
  have hg : sStpG n s p = 0 := by unfold sStpG; rw [if_neg (by omega)]
  refine (stepL hl hA p).mono fun e W' ⟨h1, h2, h3⟩ => ⟨?_, k.turn ⟨s, by rw [hs] at h2; exact h2, hr⟩ h3 k.os, h3⟩
  rw [h1, hd, hg]
  rcases he with he | he
  · exact ⟨1, by rw [he]; rfl⟩
  · exact ⟨7, by rw [he]; rfl⟩
theorem stepO (k : TA w W g n base A gs nx ps vP vQ P Q) (hA : A ≤ 1000000) {q : Nat} (hq : q < n) (ha : gat gs q ≠ 0) :
    Calls Try.prog 13 #[.pointer (some ⟨g, 0, none⟩), .int .i64 (q : Int)] W fun e W' => e = .returned (.tuple #[.bool (gfin gs q), .int .i64 (gtold gs q), .nilIface]) ∧ (∃ s, LkAt w W' g n s (A + 1) ∧ DR s (gstep gs q)) ∧ Touch (fun k => k = g) W W' := by
  obtain ⟨s, hl, hr⟩ := k.lk
  obtain ⟨hga, hgt⟩ := gat_is hl.ok hr q
  have he : sStpE n s q = 0 := by unfold sStpE; rw [if_neg (by omega), if_neg (show ¬ s.a (q : Int).toNat = 0 by rw [show (q : Int).toNat = q from rfl, hga]; exact ha)]
  have hs : sStpS n s q = dvstp s q := by unfold sStpS; rw [if_pos he]; rfl
  have hd : sStpD n s q = dvfin s q := by unfold sStpD; rw [if_pos he]; rfl
  have hg : sStpG n s q = dvtold s q := by unfold sStpG; rw [if_pos he]; rfl
  have hall : DR (dvstp s q) (gstep gs q) ∧ dvfin s q = gfin gs q ∧ dvtold s q = gtold gs q := by
    unfold gstep gfin gtold
    by_cases e : q = 0
    · subst e
      rw [if_pos rfl, if_pos rfl, if_pos rfl]
      exact hr.step0 k.os.ok (show gs.a ≠ 0 from ha)
    · rw [if_neg e, if_neg e, if_neg e]
      exact hr.stepT (by omega) (hgt e ha)
  refine (stepL hl hA q).mono fun e W' ⟨h1, h2, h3⟩ => ⟨?_, ⟨_, by rw [hs] at h2; exact h2, hall.1⟩, h3⟩
  rw [h1, hd, hg, he, hall.2.1, hall.2.2]; rfl
theorem pushO (k : TA w W g n base A gs nx ps vP vQ P Q) (ha : gs.a = 0) (hx : nx ≤ 1000) :
    Calls Try.prog 11 #[.pointer (some ⟨g, 0, none⟩), .int .i64 (nx : Int)] W fun e W' => e = .returned .nilIface ∧ TA w W' g n base A (dpush gs nx) (nx + 1) true vP vQ P Q := by
  obtain ⟨s, hl, hr⟩ := k.lk
  exact (pushV hl (hr.a0.trans ha) nx hx).mono fun e W' ⟨h1, h2, h3⟩ => ⟨h1, k.turn ⟨_, h2, hr.push ha nx⟩ h3 (k.os.push ha)⟩
theorem pushE (k : TA w W g n base A gs nx ps vP vQ P Q) (ha : gs.a ≠ 0) (hx : nx ≤ 1000) :
    Calls Try.prog 11 #[.pointer (some ⟨g, 0, none⟩), .int .i64 (nx : Int)] W fun e W' => e = .returned (.iface 43 (.int .i64 7)) ∧ TA w W' g n base A gs nx ps vP vQ P Q := by
  obtain ⟨s, hl, hr⟩ := k.lk
  have h0 : ¬ s.a 0 = 0 := by rw [hr.a0]; exact ha
  have hL := pushL hl nx hx
  rw [show sBegE s 0 = 7 from if_neg h0, show sBegS s 0 1 (nx : Int) = s from if_neg h0] at hL
  exact hL.mono fun e W' ⟨h1, h2, h3⟩ => ⟨h1, k.turn ⟨_, h2, hr⟩ h3 k.os⟩
theorem popO (k : TA w W g n base A gs nx ps vP vQ P Q) (ha : gs.a = 0) :
    Calls Try.prog 12 #[.pointer (some ⟨g, 0, none⟩)] W fun e W' => e = .returned .nilIface ∧ TA w W' g n base A (dpop gs) nx false vP vQ P Q := by
  obtain ⟨s, hl, hr⟩ := k.lk
  exact (popV hl (hr.a0.trans ha)).mono fun e W' ⟨h1, h2, h3⟩ => ⟨h1, k.turn ⟨_, h2, hr.pop ha 0⟩ h3 (k.os.pop ha)⟩
theorem popE (k : TA w W g n base A gs nx ps vP vQ P Q) (ha : gs.a ≠ 0) :
    Calls Try.prog 12 #[.pointer (some ⟨g, 0, none⟩)] W fun e W' => e = .returned (.iface 43 (.int .i64 7)) ∧ TA w W' g n base A gs nx ps vP vQ P Q := by
  obtain ⟨s, hl, hr⟩ := k.lk
  have h0 : ¬ s.a 0 = 0 := by rw [hr.a0]; exact ha
  have hL := popL hl
  rw [show sBegE s 0 = 7 from if_neg h0, show sBegS s 0 4 0 = s from if_neg h0] at hL
  exact hL.mono fun e W' ⟨h1, h2, h3⟩ => ⟨h1, k.turn ⟨_, h2, hr⟩ h3 k.os⟩
theorem stealO (k : TA w W g n base A gs nx ps vP vQ P Q) (p : Int) :
    Calls Try.prog 16 #[.pointer (some ⟨g, 0, none⟩), .int .i64 p] W fun e W' => ∃ (u : Value) (gs' : DS), e = .returned u ∧ gs'.pd = gs.pd ∧ TA w W' g n base A gs' nx ps vP vQ P Q := by
  obtain ⟨s, hl, hr⟩ := k.lk
  by_cases hp : 1 ≤ p ∧ p < n
  · by_cases ha : s.a p.toNat = 0
    · refine (stealL hl p).mono fun e W' ⟨h1, h2, h3⟩ => ⟨_, dsteal gs p.toNat, h1, rfl, k.turn ⟨_, h2, ?_⟩ h3 (k.os.steal _)⟩
      rw [show sStlS n s p = dvbeg s p.toNat 9 0 by unfold sStlS; rw [if_pos hp]; unfold sBegS; rw [if_pos ha]]
      exact hr.steal (by omega) 0
    · refine (stealL hl p).mono fun e W' ⟨h1, h2, h3⟩ => ⟨_, gs, h1, rfl, k.turn ⟨_, h2, ?_⟩ h3 k.os⟩
      rw [show sStlS n s p = s by unfold sStlS; rw [if_pos hp]; unfold sBegS; rw [if_neg ha]]
      exact hr
  · refine (stealL hl p).mono fun e W' ⟨h1, h2, h3⟩ => ⟨_, gs, h1, rfl, k.turn ⟨_, h2, ?_⟩ h3 k.os⟩
    rw [show sStlS n s p = s by unfold sStlS; rw [if_neg hp]]
    exact hr
end

/-- What taken tells, when all is over. -/
def TRes (w W' : World) (g n base : Nat) (e : Ending) : Prop := ∃ (gs : DS) (nx : Nat) (ps : Bool) (vP vQ : Value) (P Q : List Int),
  e = .returned (.tuple #[.int .i64 (gs.pd : Nat), vP, vQ]) ∧ TA w W' g n base 360 gs nx ps vP vQ P Q ∧ gs.a = 0 ∧ gs.pd ≤ 360

set_option maxHeartbeats 8000000 in
set_option maxRecDepth 100000 in
theorem taken_any {w W1 : World} {g n : Nat} (hl : LkAt w W1 g n dvnew 0) (sv : Value) (steps : List (List Int)) (hn : Rws W1 w.heap.size sv steps) :
    Calls Try.prog 8 #[.pointer (some ⟨g, 0, none⟩), .int .i64 (n : Int), sv] W1 fun e W' => TRes w W' g n W1.heap.size e := by
  obtain ⟨A, c, rfl, hlen, -⟩ := id hn
  have HN := Lib.hid hn
  have h1 := hl.pos
  have h4 := hl.four
  have hb1 := hl.below
  obtain ⟨i0, hi0, hz0, hz1, hz2⟩ := info_parts Tint2.info
  obtain ⟨base, hbase⟩ : ∃ base, base = W1.heap.size := ⟨_, rfl⟩
  have HO0 := Lib.hid (show TA w W1 g n base 0 dnew 0 false (.slice none 0 0) (.slice none 0 0) [] [] from ⟨⟨_, hl, DR.new⟩, OS.new, RG.nil _ _, by rw [hbase]; exact hl.lt, by omega⟩)
  have HB1 := Lib.hid hb1
  rw [← hbase]
  have hn0 : ((n : Int) == 0) = false := by simp; omega
  have hnz : ¬ (n : Int) = 0 := by omega
  clear hl hn hbase hb1
  go_enter Try.func8, Try.ntmps8
  go_wp2_with fail
  go_loopw [9, 10, 11, 12, 13, 14] (fun u0 u1 u2 u3 u4 i wr => ∃ (k : Nat) (gs : DS) (nx : Nat) (ps : Bool) (P Q : List Int), i = .int .i64 k ∧ k ≤ 360 ∧ u0 = .int .i64 nx ∧ u1 = .bool ps ∧ u2 = .int .i64 (gs.pd : Nat) ∧ TA w wr g n base k gs nx ps u3 u4 P Q ∧ nx ≤ k ∧ OL n k gs.a) (fun _ _ _ _ _ i _ => 360 - (intOf i).toNat)
  case atStart => exact ⟨0, dnew, 0, false, [], [], rfl, by omega, rfl, rfl, rfl, HO0.out, by omega, fun h => by omega⟩
  case round =>
    clear HO0
    obtain ⟨k, gs, nx, ps, P, Q, rfl, hk, rfl, rfl, rfl, hta, hnk, hol⟩ := hrel
    by_cases hgo : k < 360
    · have hI : (k : Int) < 360 := by omega
      clear hk
      obtain ⟨q, hq⟩ : ∃ q, q = k % n := ⟨_, rfl⟩
      have hqn : q < n := by have := Nat.mod_lt k (show 0 < n by omega); omega
      have hr : (k : Int).tmod (n : Int) = (q : Int) := by rw [hq]; exact (Int.ofNat_tmod k n).symm
      have hw0 : IntKind.i64.wrap (q : Int) = (q : Int) := IntWalk.i64_in _ (by omega)
      obtain ⟨pd, hpd⟩ : ∃ pd, pd = gs.pd := ⟨_, rfl⟩
      have hpdn : pd ≤ nx := by
        have h1 := hta.os.nx1
        have h2 := hta.os.nx0
        have h3 := hta.os.ok.ln
        by_cases e : 1 ≤ gs.a ∧ gs.a ≤ 3
        · have := h1 e.1 e.2; omega
        · have := h2 (by omega); omega
      have hPQ : P.length + Q.length ≤ pd := by rw [hpd, ← hta.os.cnt]; exact hta.os.ok.c_le
      rw [← hpd]
      obtain ⟨KP, hKP⟩ : ∃ K, P.length = K := ⟨_, rfl⟩
      obtain ⟨KQ, hKQ⟩ : ∃ K, Q.length = K := ⟨_, rfl⟩
      obtain ⟨aP, cP, rfl, -⟩ := hta.formP hKP
      obtain ⟨aQ, cQ, rfl, -⟩ := hta.formQ hKQ
      rw [hKP, hKQ] at hPQ
      have HKP := Lib.hid hKP
      have HKQ := Lib.hid hKQ
      have HPD := Lib.hid hpd
      have HQ := Lib.hid hq
      have HOL := Lib.hid hol
      have HT0 := Lib.hid (hta.made (.cells #[.int .i64 (q : Int)] 3))
      have hbl := hta.below
      have hcell : (wr.alloc (.cells #[.int .i64 (q : Int)] 3)).cell? ⟨wr.heap.size, 0, none⟩ = some (.int .i64 (q : Int)) := (Block.made wr 3 #[.int .i64 (q : Int)]).cell 0
      have hgb := hta.gb
      have hgbs := hta.bs
      clear hol hpd hKP hKQ hq hta
      obtain ⟨bq, hbq⟩ : ∃ b, b = wr.heap.size := ⟨_, rfl⟩
      obtain ⟨W2, hW2⟩ : ∃ W, W = wr.alloc (.cells #[.int .i64 (q : Int)] 3) := ⟨_, rfl⟩
      have HBQ := Lib.hid hbq
      have HW2 := Lib.hid hW2
      have hszB : bq < W2.heap.size := by rw [hW2, hbq]; simp
      rw [← hW2] at HT0 hcell
      rw [← hbq] at hcell
      have HXB := Lib.hid (show ∀ W, Touch (fun k => k = g) W2 W → W.cell? ⟨bq, 0, none⟩ = some (.int .i64 (q : Int)) from fun W ht => (ht.cell (p := ⟨bq, 0, none⟩) hszB (by show ¬ bq = g; omega)).trans hcell)
      by_cases hA : k < steps.length ∧ k < 280
      · have hAI : (k : Int) < steps.length := by omega
        have hA2 : (k : Int) < 280 := by omega
        obtain ⟨hlt, hk280⟩ := hA
        have HEA := Lib.hid (fun a => OL.early (n := n) (a := a) hk280)
        obtain ⟨ls, hls⟩ : ∃ l, steps[k]? = some l := ⟨steps[k], List.getElem?_eq_getElem hlt⟩
        obtain ⟨b, o, rfl, A', c', hxc, hnum⟩ := HN.out.at_ hls
        have hbb : b < w.heap.size := by
          obtain ⟨A9, c9, e9, h9, hh⟩ := HN.out
          obtain ⟨b9, o9, e8, h8, -⟩ := hh (by omega)
          cases e9; cases e8; exact h8
        have HXA := Lib.hid (show W2.cell? ⟨b, o + k, none⟩ = some (.slice A' ls.length c') from by
          rw [hW2]
          exact ((hbl.alloc hbl.size _).cell (p := ⟨b, o + k, none⟩) hbb).trans ((HB1.out.cell (p := ⟨b, o + k, none⟩) hbb).symm.trans hxc))
        have HNU := Lib.hid (show Nums W2 w.heap.size (.slice A' ls.length c') ls from by
          rw [hW2]
          refine hnum.keep fun p hp => ?_
          exact ((hbl.alloc hbl.size _).cell hp).trans (HB1.out.cell hp).symm)
        clear hls hxc hnum hbb hlt hk280 hbl hcell hszB hbq hW2
        go_upto_region 9 with fail
        rw [← HBQ.out, ← HW2.out]
        have hxA := HXA.out
        by_cases h2 : ls.length = 2
        · obtain ⟨x, y, rfl⟩ : ∃ x y, ls = [x, y] := by
            match ls, h2 with
            | [x, y], _ => exact ⟨x, y, rfl⟩
          obtain ⟨b2, o2, rfl, hb2, hx0⟩ := HNU.out.at_ (k := 0) (z := x) rfl
          have hx1 : W2.cell? ⟨b2, o2 + 1, none⟩ = some (.int .i64 y) := by
            obtain ⟨b3, o3, e3, hb3, hx3⟩ := HNU.out.at_ (k := 1) (z := y) rfl
            cases e3; exact hx3
          have hx0 : W2.cell? ⟨b2, o2, none⟩ = some (.int .i64 x) := hx0
          rw [show ([x, y] : List Int).length = 2 from rfl] at hxA
          clear h2
          by_cases h0 : x = 0
          · subst h0
            by_cases hy : 0 ≤ y
            · by_cases ha : gs.a = 0
              · have HP := Lib.hid (pushO HT0.out ha (by omega))
                obtain ⟨nx1, hnx1⟩ : ∃ m, m = nx + 1 := ⟨_, rfl⟩
                have hw1 : IntKind.i64.wrap ((nx : Int) + 1) = (nx1 : Int) := (IntWalk.i64_in _ (by omega)).trans (by omega)
                rw [← hnx1] at HP
                have HNX := Lib.hid hnx1
                clear ha hnx1
                go_wp2_with (go_at_call 11; (with_reducible refine HP.out.mono ?_); rintro e w4 ⟨rfl, hl4⟩; have HT4 := Lib.hid hl4; clear hl4)
                go_roundw
                case rel => exact ⟨k + 1, _, nx1, true, P, Q, by go_num, by omega, rfl, rfl, by rw [HPD.out]; rfl, HT4.out.older (by omega), by have := HNX.out; omega, HEA.out _⟩
                case measure => simp [intOf]; omega
              · have HP := Lib.hid (pushE HT0.out ha (by omega))
                clear ha
                go_wp2_with (go_at_call 11; (with_reducible refine HP.out.mono ?_); rintro e w4 ⟨rfl, hl4⟩; have HT4 := Lib.hid hl4; clear hl4)
                go_roundw
                case rel => exact ⟨k + 1, gs, nx, ps, P, Q, by go_num, by omega, rfl, rfl, by rw [HPD.out], HT4.out.older (by omega), by omega, HEA.out _⟩
                case measure => simp [intOf]; omega
            · by_cases ha : gs.a = 0
              · have HP := Lib.hid (popO HT0.out ha)
                clear ha
                go_wp2_with (go_at_call 12; (with_reducible refine HP.out.mono ?_); rintro e w4 ⟨rfl, hl4⟩; have HT4 := Lib.hid hl4; clear hl4)
                go_roundw
                case rel => exact ⟨k + 1, _, nx, false, P, Q, by go_num, by omega, rfl, rfl, by rw [HPD.out]; rfl, HT4.out.older (by omega), by omega, HEA.out _⟩
                case measure => simp [intOf]; omega
              · have HP := Lib.hid (popE HT0.out ha)
                clear ha
                go_wp2_with (go_at_call 12; (with_reducible refine HP.out.mono ?_); rintro e w4 ⟨rfl, hl4⟩; have HT4 := Lib.hid hl4; clear hl4)
                go_roundw
                case rel => exact ⟨k + 1, gs, nx, ps, P, Q, by go_num, by omega, rfl, rfl, by rw [HPD.out], HT4.out.older (by omega), by omega, HEA.out _⟩
                case measure => simp [intOf]; omega
          · have h0b : (x == 0) = false := by simp [h0]
            have HP := Lib.hid (stealO HT0.out x)
            clear h0
            go_wp2_with (go_at_call 16; (with_reducible refine HP.out.mono ?_); rintro e w4 ⟨u, gs', rfl, hpd', hl4⟩; have HT4 := Lib.hid hl4; have HPD4 := Lib.hid hpd'; clear hl4 hpd')
            go_roundw
            case rel => exact ⟨k + 1, _, nx, ps, P, Q, by go_num, by omega, rfl, rfl, by rw [HPD.out, HPD4.out], HT4.out.older (by omega), by omega, HEA.out _⟩
            case measure => simp [intOf]; omega
        · by_cases h1l : ls.length = 1
          · obtain ⟨x, rfl⟩ : ∃ x, ls = [x] := by
              match ls, h1l with
              | [x], _ => exact ⟨x, rfl⟩
            obtain ⟨b2, o2, rfl, hb2, hx0⟩ := HNU.out.at_ (k := 0) (z := x) rfl
            have hx0 : W2.cell? ⟨b2, o2, none⟩ = some (.int .i64 x) := hx0
            have HX := Lib.hid (show ∀ W, Touch (fun k => k = g) W2 W → W.cell? ⟨b2, o2, none⟩ = some (.int .i64 x) from fun W ht => (ht.cell (p := ⟨b2, o2, none⟩) (by have := HT0.out.new; show b2 < _; omega) (by have := HT0.out.new; show ¬ b2 = g; omega)).trans hx0)
            have HOA := Lib.hid (show ∀ a', (x = 0 → gs.a = 0 ∧ a' = 0 ∨ dleft a' + 1 ≤ dleft gs.a) → (x ≠ 0 → a' = gs.a) → OL n (k + 1) a' from fun a' _ _ => HEA.out a')
            rw [show ([x] : List Int).length = 1 from rfl] at hxA
            clear h2 h1l
            by_cases hb : ¬ (0 ≤ x ∧ x < (n : Int)) ∨ gat gs (x).toNat = 0
            · have HST := Lib.hid (stepE HT0.out (by omega) x hb)
              have hzz : x = 0 → gs.a = 0 := fun e => by
                rcases hb with hb | hb
                · omega
                · rw [e] at hb; exact hb
              have HAA := Lib.hid (HOA.out gs.a (fun e => .inl ⟨hzz e, hzz e⟩) (fun _ => rfl))
              clear hb hzz
              go_wp2_with (go_at_call 13; (with_reducible refine HST.out.mono ?_); rintro e w5 ⟨⟨ec, rfl⟩, hl5, ht5⟩; have HT5 := Lib.hid hl5; clear hl5 ht5)
              go_roundw
              case rel => exact ⟨k + 1, gs, nx, ps, P, Q, by go_num, by omega, rfl, rfl, by rw [HPD.out], HT5.out.older (by omega), by omega, HAA.out⟩
              case measure => simp [intOf]; omega
            obtain ⟨p, hp⟩ := Int.eq_ofNat_of_zero_le (show 0 ≤ x by omega)
            subst hp
            have hpn : p < n := by omega
            have hga : gat gs p ≠ 0 := fun e => hb (.inr e)
            have hst := stepO HT0.out (by omega) hpn hga
            clear hb
            obtain ⟨D, hD⟩ : ∃ D, D = gfin gs p := ⟨_, rfl⟩
            obtain ⟨G, hG⟩ : ∃ G, G = gtold gs p := ⟨_, rfl⟩
            rw [← hD, ← hG] at hst
            have HST := Lib.hid hst
            clear hst
            have hos := HT0.out.os
            by_cases hp0 : p = 0
            · subst hp0
              have hga : gs.a ≠ 0 := hga
              have z0 : ((0 : Nat) : Int) = 0 := rfl
              rw [z0] at HST hx0
              simp only [z0] at HX
              replace hD : D = dfin0 gs := hD
              replace hG : G = dtold0 gs := hG
              have HAA := Lib.hid (HOA.out (dstep0 gs).a (fun _ => .inr (hos.ok.left hga)) (fun e => absurd rfl e))
              by_cases h3 : gs.a ≤ 3
              · obtain ⟨hps, ho, hn1, hpd', htl⟩ := hos.stepP (by omega) h3
                rw [← hD, ← hG] at ho hpd' htl
                clear h3 hga hos
                cases D with
                | false =>
                  rw [if_neg (fun q => by cases q.1)] at ho hpd'
                  have HO := Lib.hid ho
                  have HPD2 := Lib.hid hpd'
                  clear ho hpd' htl hD hG hps hn1
                  go_wp2_with (go_at_call 13; (with_reducible refine HST.out.mono ?_); rintro e w5 ⟨rfl, hl5, ht5⟩; have HL5 := Lib.hid hl5; have HT5 := Lib.hid ht5; have hx5 := HX.out _ ht5; clear hl5 ht5)
                  go_roundw
                  case rel => exact ⟨k + 1, dstep0 gs, nx, ps, P, Q, by go_num, by omega, rfl, rfl, by rw [HPD.out, HPD2.out], HT0.out.turn HL5.out HT5.out HO.out, by omega, HAA.out⟩
                  case measure => simp [intOf]; omega
                | true =>
                  have HPS := Lib.hid hps
                  subst hps
                  rcases htl rfl with hg | hg
                  · rw [hg, if_neg (fun q => by omega)] at ho
                    rw [hg, if_pos ⟨rfl, rfl⟩] at hpd'
                    have HO := Lib.hid ho
                    have HPD2 := Lib.hid hpd'
                    obtain ⟨pd1, hpd1⟩ : ∃ m, m = pd + 1 := ⟨_, rfl⟩
                    have hw1 : IntKind.i64.wrap ((pd : Int) + 1) = (pd1 : Int) := (IntWalk.i64_in _ (by omega)).trans (by omega)
                    have HP1 := Lib.hid hpd1
                    rw [hg] at HST
                    clear ho hpd' htl hD hG hn1 hpd1 hg
                    go_wp2_with (go_at_call 13; (with_reducible refine HST.out.mono ?_); rintro e w5 ⟨rfl, hl5, ht5⟩; have HL5 := Lib.hid hl5; have HT5 := Lib.hid ht5; have hx5 := HX.out _ ht5; clear hl5 ht5)
                    go_roundw
                    case rel => exact ⟨k + 1, dstep0 gs, nx, true, P, Q, by go_num, by omega, rfl, rfl, by rw [HPD2.out, ← HPD.out, HP1.out], HT0.out.turn HL5.out HT5.out HO.out, by omega, HAA.out⟩
                    case measure => simp [intOf]; omega
                  · rw [hg, if_pos ⟨rfl, rfl⟩] at ho
                    rw [hg, if_neg (fun q => by omega)] at hpd'
                    have HO := Lib.hid ho
                    have HPD2 := Lib.hid hpd'
                    obtain ⟨nx1, hnx1⟩ : ∃ m, m = nx - 1 := ⟨_, rfl⟩
                    have hw1 : IntKind.i64.wrap ((nx : Int) - 1) = (nx1 : Int) := (IntWalk.i64_in _ (by omega)).trans (by omega)
                    have HP1 := Lib.hid hnx1
                    rw [← hnx1] at HO
                    rw [hg] at HST
                    clear ho hpd' htl hD hG hn1 hnx1 hg
                    go_wp2_with (go_at_call 13; (with_reducible refine HST.out.mono ?_); rintro e w5 ⟨rfl, hl5, ht5⟩; have HL5 := Lib.hid hl5; have HT5 := Lib.hid ht5; have hx5 := HX.out _ ht5; clear hl5 ht5)
                    go_roundw
                    case rel => exact ⟨k + 1, dstep0 gs, nx1, true, P, Q, by go_num, by omega, rfl, rfl, by rw [HPD.out, HPD2.out], HT0.out.turn HL5.out HT5.out HO.out, by have := HP1.out; omega, HAA.out⟩
                    case measure => simp [intOf]; omega
              · obtain ⟨hps, ho, hpd'⟩ := hos.stepQ (by omega)
                rw [← hD, ← hG] at ho
                have HPD2 := Lib.hid hpd'
                have HOS := Lib.hid (show OS (dstep0 gs) nx ps (if D = true ∧ 0 ≤ G then P ++ [G] else P) Q from ho)
                clear h3 hga hos hpd' ho hD hG
                subst hps
                cases D with
                | false =>
                  have HO := Lib.hid (show OS (dstep0 gs) nx false P Q from by have h := HOS.out; rwa [if_neg (fun q => by cases q.1)] at h)
                  go_wp2_with (go_at_call 13; (with_reducible refine HST.out.mono ?_); rintro e w5 ⟨rfl, hl5, ht5⟩; have HL5 := Lib.hid hl5; have HT5 := Lib.hid ht5; have hx5 := HX.out _ ht5; clear hl5 ht5)
                  go_roundw
                  case rel => exact ⟨k + 1, dstep0 gs, nx, false, P, Q, by go_num, by omega, rfl, rfl, by rw [HPD.out, HPD2.out], HT0.out.turn HL5.out HT5.out HO.out, by omega, HAA.out⟩
                  case measure => simp [intOf]; omega
                | true =>
                  by_cases hg : 0 ≤ G
                  · have HO := Lib.hid (show OS (dstep0 gs) nx false (P ++ [G]) Q from by have h := HOS.out; rwa [if_pos ⟨rfl, hg⟩] at h)
                    obtain ⟨KP1, hKP1⟩ : ∃ m, m = KP + 1 := ⟨_, rfl⟩
                    have HOO := Lib.hid HT0.out.os
                    go_wp2_with (first | (go_at_call 13; (with_reducible refine HST.out.mono ?_); rintro e w5 ⟨rfl, hl5, ht5⟩; have HT6 := Lib.hid (HT0.out.turnB hl5 ht5); have hx5 := HX.out _ ht5; clear hl5 ht5) | (at_builtin; refine wpList_append_lies _ rfl (.tmp 113) (.tmp 115) 29 rfl base 3 i0 (.int .i64 0) 1 8 Try.underlying29 hi0 hz0 hz1 hz2 rfl (by omega) (.slice aP KP cP) KP (P.map (Value.int .i64)) rfl (HT6.out.ownP _ HKP.out) ⟨w5.heap.size, 0, none⟩ 1 1 [.int .i64 G] rfl (by rfl) (one_cell (by simp)) (by intro u hu; simp at hu; subst hu; rfl) (by omega) (by unfold maxLen; omega) (by omega) (by have := HT6.out.bs; simp; omega) (w5.heap.size + 1) (by simp) ?_; intro q0 d0 w6 hown hgrow hat hlt6; obtain ⟨z1, z2, z3, z4⟩ := HT6.out.appP hown (congrArg (· + 1) HKP.out.symm) rfl hgrow hat; have HZ1 := Lib.hid z1; have HZ2 := Lib.hid z2; have HZ3 := Lib.hid z3; have HZ4 := Lib.hid z4; clear hown hgrow hat hlt6 z1 z2 z3 z4))
                    go_roundw
                    case rel => exact ⟨k + 1, dstep0 gs, nx, false, P ++ [G], Q, by go_num, by omega, rfl, rfl, by rw [HPD.out, HPD2.out], ⟨HZ1.out, HO.out, HZ2.out, HZ3.out, HZ4.out⟩, by omega, HAA.out⟩
                    case measure => simp [intOf]; omega
                  · have HO := Lib.hid (show OS (dstep0 gs) nx false P Q from by have h := HOS.out; rwa [if_neg (fun q => hg q.2)] at h)
                    go_wp2_with (go_at_call 13; (with_reducible refine HST.out.mono ?_); rintro e w5 ⟨rfl, hl5, ht5⟩; have HL5 := Lib.hid hl5; have HT5 := Lib.hid ht5; have hx5 := HX.out _ ht5; clear hl5 ht5)
                    go_roundw
                    case rel => exact ⟨k + 1, dstep0 gs, nx, false, P, Q, by go_num, by omega, rfl, rfl, by rw [HPD.out, HPD2.out], HT0.out.turn HL5.out HT5.out HO.out, by omega, HAA.out⟩
                    case measure => simp [intOf]; omega
            · have hga : (gs.th p).a ≠ 0 := by unfold gat at hga; rwa [if_neg hp0] at hga
              replace hD : D = dfinT gs p := by rw [hD]; unfold gfin; rw [if_neg hp0]
              replace hG : G = dtoldT gs p := by rw [hG]; unfold gtold; rw [if_neg hp0]
              have hS : gstep gs p = dstepT gs p := by unfold gstep; rw [if_neg hp0]
              rw [hS] at HST
              have h9 : 9 ≤ (gs.th p).a ∧ (gs.th p).a ≤ 12 := by
                obtain ⟨s, hl, hr⟩ := HT0.out.lk
                exact (gat_is hl.ok hr p).2 hp0 (by unfold gat; rw [if_neg hp0]; exact hga)
              obtain ⟨ho, hpd', hsa⟩ := hos.stepT h9
              rw [← hD, ← hG] at ho
              have hpb : ((p : Int) == 0) = false := by simp; omega
              have hpb2 : (p == 0) = false := by simp; omega
              have HAA := Lib.hid (HOA.out (dstepT gs p).a (fun e => by omega) (fun _ => hsa))
              have HPD2 := Lib.hid hpd'
              have HOS := Lib.hid ho
              clear hga hos hpd' ho hD hG hS h9 hsa
              cases D with
              | false =>
                have HO := Lib.hid (show OS (dstepT gs p) nx ps P Q from by have h := HOS.out; rwa [if_neg (fun q => by cases q.1)] at h)
                clear hp0
                go_wp2_with (go_at_call 13; (with_reducible refine HST.out.mono ?_); rintro e w5 ⟨rfl, hl5, ht5⟩; have HL5 := Lib.hid hl5; have HT5 := Lib.hid ht5; have hx5 := HX.out _ ht5; clear hl5 ht5)
                go_roundw
                case rel => exact ⟨k + 1, dstepT gs p, nx, ps, P, Q, by go_num, by omega, rfl, rfl, by rw [HPD.out, HPD2.out], HT0.out.turn HL5.out HT5.out HO.out, by omega, HAA.out⟩
                case measure => simp [intOf]; omega
              | true =>
                by_cases hg : 0 ≤ G
                · have HO := Lib.hid (show OS (dstepT gs p) nx ps P (Q ++ [G]) from by have h := HOS.out; rwa [if_pos ⟨rfl, hg⟩] at h)
                  clear hp0
                  go_wp2_with (first | (go_at_call 13; (with_reducible refine HST.out.mono ?_); rintro e w5 ⟨rfl, hl5, ht5⟩; have HT6 := Lib.hid (HT0.out.turnB hl5 ht5); have hx5 := HX.out _ ht5; clear hl5 ht5) | (at_builtin; refine wpList_append_lies _ rfl (.tmp 119) (.tmp 121) 29 rfl base 3 i0 (.int .i64 0) 1 8 Try.underlying29 hi0 hz0 hz1 hz2 rfl (by omega) (.slice aQ KQ cQ) KQ (Q.map (Value.int .i64)) rfl (HT6.out.ownQ _ HKQ.out) ⟨w5.heap.size, 0, none⟩ 1 1 [.int .i64 G] rfl (by rfl) (one_cell (by simp)) (by intro u hu; simp at hu; subst hu; rfl) (by omega) (by unfold maxLen; omega) (by omega) (by have := HT6.out.bs; simp; omega) (w5.heap.size + 1) (by simp) ?_; intro q0 d0 w6 hown hgrow hat hlt6; obtain ⟨z1, z2, z3, z4⟩ := HT6.out.appQ hown (congrArg (· + 1) HKQ.out.symm) rfl hgrow hat; have HZ1 := Lib.hid z1; have HZ2 := Lib.hid z2; have HZ3 := Lib.hid z3; have HZ4 := Lib.hid z4; clear hown hgrow hat hlt6 z1 z2 z3 z4))
                  go_roundw
                  case rel => exact ⟨k + 1, dstepT gs p, nx, ps, P, Q ++ [G], by go_num, by omega, rfl, rfl, by rw [HPD.out, HPD2.out], ⟨HZ1.out, HO.out, HZ2.out, HZ3.out, HZ4.out⟩, by omega, HAA.out⟩
                  case measure => simp [intOf]; omega
                · have HO := Lib.hid (show OS (dstepT gs p) nx ps P Q from by have h := HOS.out; rwa [if_neg (fun q => hg q.2)] at h)
                  clear hp0
                  go_wp2_with (go_at_call 13; (with_reducible refine HST.out.mono ?_); rintro e w5 ⟨rfl, hl5, ht5⟩; have HL5 := Lib.hid hl5; have HT5 := Lib.hid ht5; have hx5 := HX.out _ ht5; clear hl5 ht5)
                  go_roundw
                  case rel => exact ⟨k + 1, dstepT gs p, nx, ps, P, Q, by go_num, by omega, rfl, rfl, by rw [HPD.out, HPD2.out], HT0.out.turn HL5.out HT5.out HO.out, by omega, HAA.out⟩
                  case measure => simp [intOf]; omega
          · have hl2 : ((ls.length : Int) == 2) = false := by simp; omega
            have hl1 : ((ls.length : Int) == 1) = false := by simp; omega
            clear h2 h1l
            go_wp2
            go_roundw
            case rel => exact ⟨k + 1, gs, nx, ps, P, Q, by go_num, by omega, rfl, rfl, by rw [HPD.out], HT0.out.older (by omega), by omega, HEA.out _⟩
            case measure => simp [intOf]; omega
      · have hx0 := HXB.out W2 (Touch.refl _ _)
        have HX := HXB
        have HOA := Lib.hid (show ∀ a', ((q : Int) = 0 → gs.a = 0 ∧ a' = 0 ∨ dleft a' + 1 ≤ dleft gs.a) → ((q : Int) ≠ 0 → a' = gs.a) → OL n (k + 1) a' from fun a' h5 h6 => OL.next HOL.out h1 h4 (fun e => h5 (by have := HQ.out; omega)) (fun e => h6 (by have := HQ.out; omega)))
        have hh : (k : Int) < steps.length ∧ ¬ (k : Int) < 280 ∨ ¬ (k : Int) < steps.length := by omega
        clear hA hbl hcell hszB hbq hW2
        rcases hh with ⟨hAI, hA2⟩ | hAI
        · go_upto_region 9 with fail
          rw [← HBQ.out, ← HW2.out]
          by_cases hb : ¬ (0 ≤ (q : Int) ∧ (q : Int) < (n : Int)) ∨ gat gs ((q : Int)).toNat = 0
          · have HST := Lib.hid (stepE HT0.out (by omega) (q : Int) hb)
            have hzz : (q : Int) = 0 → gs.a = 0 := fun e => by
              rcases hb with hb | hb
              · omega
              · rw [e] at hb; exact hb
            have HAA := Lib.hid (HOA.out gs.a (fun e => .inl ⟨hzz e, hzz e⟩) (fun _ => rfl))
            clear hb hzz
            go_wp2_with (go_at_call 13; (with_reducible refine HST.out.mono ?_); rintro e w5 ⟨⟨ec, rfl⟩, hl5, ht5⟩; have HT5 := Lib.hid hl5; clear hl5 ht5)
            go_roundw
            case rel => exact ⟨k + 1, gs, nx, ps, P, Q, by go_num, by omega, rfl, rfl, by rw [HPD.out], HT5.out.older (by omega), by omega, HAA.out⟩
            case measure => simp [intOf]; omega
          obtain ⟨p, hp⟩ := Int.eq_ofNat_of_zero_le (show 0 ≤ (q : Int) by omega)
          obtain rfl : p = q := by omega
          clear hp
          have hpn : p < n := by omega
          have hga : gat gs p ≠ 0 := fun e => hb (.inr e)
          have hst := stepO HT0.out (by omega) hpn hga
          clear hb
          obtain ⟨D, hD⟩ : ∃ D, D = gfin gs p := ⟨_, rfl⟩
          obtain ⟨G, hG⟩ : ∃ G, G = gtold gs p := ⟨_, rfl⟩
          rw [← hD, ← hG] at hst
          have HST := Lib.hid hst
          clear hst
          have hos := HT0.out.os
          by_cases hp0 : p = 0
          · subst hp0
            have hga : gs.a ≠ 0 := hga
            have z0 : ((0 : Nat) : Int) = 0 := rfl
            rw [z0] at HST hx0
            simp only [z0] at HX
            replace hD : D = dfin0 gs := hD
            replace hG : G = dtold0 gs := hG
            have HAA := Lib.hid (HOA.out (dstep0 gs).a (fun _ => .inr (hos.ok.left hga)) (fun e => absurd rfl e))
            by_cases h3 : gs.a ≤ 3
            · obtain ⟨hps, ho, hn1, hpd', htl⟩ := hos.stepP (by omega) h3
              rw [← hD, ← hG] at ho hpd' htl
              clear h3 hga hos
              cases D with
              | false =>
                rw [if_neg (fun q => by cases q.1)] at ho hpd'
                have HO := Lib.hid ho
                have HPD2 := Lib.hid hpd'
                clear ho hpd' htl hD hG hps hn1
                go_wp2_with (go_at_call 13; (with_reducible refine HST.out.mono ?_); rintro e w5 ⟨rfl, hl5, ht5⟩; have HL5 := Lib.hid hl5; have HT5 := Lib.hid ht5; have hx5 := HX.out _ ht5; clear hl5 ht5)
                go_roundw
                case rel => exact ⟨k + 1, dstep0 gs, nx, ps, P, Q, by go_num, by omega, rfl, rfl, by rw [HPD.out, HPD2.out], HT0.out.turn HL5.out HT5.out HO.out, by omega, HAA.out⟩
                case measure => simp [intOf]; omega
              | true =>
                have HPS := Lib.hid hps
                subst hps
                rcases htl rfl with hg | hg
                · rw [hg, if_neg (fun q => by omega)] at ho
                  rw [hg, if_pos ⟨rfl, rfl⟩] at hpd'
                  have HO := Lib.hid ho
                  have HPD2 := Lib.hid hpd'
                  obtain ⟨pd1, hpd1⟩ : ∃ m, m = pd + 1 := ⟨_, rfl⟩
                  have hw1 : IntKind.i64.wrap ((pd : Int) + 1) = (pd1 : Int) := (IntWalk.i64_in _ (by omega)).trans (by omega)
                  have HP1 := Lib.hid hpd1
                  rw [hg] at HST
                  clear ho hpd' htl hD hG hn1 hpd1 hg
                  go_wp2_with (go_at_call 13; (with_reducible refine HST.out.mono ?_); rintro e w5 ⟨rfl, hl5, ht5⟩; have HL5 := Lib.hid hl5; have HT5 := Lib.hid ht5; have hx5 := HX.out _ ht5; clear hl5 ht5)
                  go_roundw
                  case rel => exact ⟨k + 1, dstep0 gs, nx, true, P, Q, by go_num, by omega, rfl, rfl, by rw [HPD2.out, ← HPD.out, HP1.out], HT0.out.turn HL5.out HT5.out HO.out, by omega, HAA.out⟩
                  case measure => simp [intOf]; omega
                · rw [hg, if_pos ⟨rfl, rfl⟩] at ho
                  rw [hg, if_neg (fun q => by omega)] at hpd'
                  have HO := Lib.hid ho
                  have HPD2 := Lib.hid hpd'
                  obtain ⟨nx1, hnx1⟩ : ∃ m, m = nx - 1 := ⟨_, rfl⟩
                  have hw1 : IntKind.i64.wrap ((nx : Int) - 1) = (nx1 : Int) := (IntWalk.i64_in _ (by omega)).trans (by omega)
                  have HP1 := Lib.hid hnx1
                  rw [← hnx1] at HO
                  rw [hg] at HST
                  clear ho hpd' htl hD hG hn1 hnx1 hg
                  go_wp2_with (go_at_call 13; (with_reducible refine HST.out.mono ?_); rintro e w5 ⟨rfl, hl5, ht5⟩; have HL5 := Lib.hid hl5; have HT5 := Lib.hid ht5; have hx5 := HX.out _ ht5; clear hl5 ht5)
                  go_roundw
                  case rel => exact ⟨k + 1, dstep0 gs, nx1, true, P, Q, by go_num, by omega, rfl, rfl, by rw [HPD.out, HPD2.out], HT0.out.turn HL5.out HT5.out HO.out, by have := HP1.out; omega, HAA.out⟩
                  case measure => simp [intOf]; omega
            · obtain ⟨hps, ho, hpd'⟩ := hos.stepQ (by omega)
              rw [← hD, ← hG] at ho
              have HPD2 := Lib.hid hpd'
              have HOS := Lib.hid (show OS (dstep0 gs) nx ps (if D = true ∧ 0 ≤ G then P ++ [G] else P) Q from ho)
              clear h3 hga hos hpd' ho hD hG
              subst hps
              cases D with
              | false =>
                have HO := Lib.hid (show OS (dstep0 gs) nx false P Q from by have h := HOS.out; rwa [if_neg (fun q => by cases q.1)] at h)
                go_wp2_with (go_at_call 13; (with_reducible refine HST.out.mono ?_); rintro e w5 ⟨rfl, hl5, ht5⟩; have HL5 := Lib.hid hl5; have HT5 := Lib.hid ht5; have hx5 := HX.out _ ht5; clear hl5 ht5)
                go_roundw
                case rel => exact ⟨k + 1, dstep0 gs, nx, false, P, Q, by go_num, by omega, rfl, rfl, by rw [HPD.out, HPD2.out], HT0.out.turn HL5.out HT5.out HO.out, by omega, HAA.out⟩
                case measure => simp [intOf]; omega
              | true =>
                by_cases hg : 0 ≤ G
                · have HO := Lib.hid (show OS (dstep0 gs) nx false (P ++ [G]) Q from by have h := HOS.out; rwa [if_pos ⟨rfl, hg⟩] at h)
                  obtain ⟨KP1, hKP1⟩ : ∃ m, m = KP + 1 := ⟨_, rfl⟩
                  have HOO := Lib.hid HT0.out.os
                  go_wp2_with (first | (go_at_call 13; (with_reducible refine HST.out.mono ?_); rintro e w5 ⟨rfl, hl5, ht5⟩; have HT6 := Lib.hid (HT0.out.turnB hl5 ht5); have hx5 := HX.out _ ht5; clear hl5 ht5) | (at_builtin; refine wpList_append_lies _ rfl (.tmp 113) (.tmp 115) 29 rfl base 3 i0 (.int .i64 0) 1 8 Try.underlying29 hi0 hz0 hz1 hz2 rfl (by omega) (.slice aP KP cP) KP (P.map (Value.int .i64)) rfl (HT6.out.ownP _ HKP.out) ⟨w5.heap.size, 0, none⟩ 1 1 [.int .i64 G] rfl (by rfl) (one_cell (by simp)) (by intro u hu; simp at hu; subst hu; rfl) (by omega) (by unfold maxLen; omega) (by omega) (by have := HT6.out.bs; simp; omega) (w5.heap.size + 1) (by simp) ?_; intro q0 d0 w6 hown hgrow hat hlt6; obtain ⟨z1, z2, z3, z4⟩ := HT6.out.appP hown (congrArg (· + 1) HKP.out.symm) rfl hgrow hat; have HZ1 := Lib.hid z1; have HZ2 := Lib.hid z2; have HZ3 := Lib.hid z3; have HZ4 := Lib.hid z4; clear hown hgrow hat hlt6 z1 z2 z3 z4))
                  go_roundw
                  case rel => exact ⟨k + 1, dstep0 gs, nx, false, P ++ [G], Q, by go_num, by omega, rfl, rfl, by rw [HPD.out, HPD2.out], ⟨HZ1.out, HO.out, HZ2.out, HZ3.out, HZ4.out⟩, by omega, HAA.out⟩
                  case measure => simp [intOf]; omega
                · have HO := Lib.hid (show OS (dstep0 gs) nx false P Q from by have h := HOS.out; rwa [if_neg (fun q => hg q.2)] at h)
                  go_wp2_with (go_at_call 13; (with_reducible refine HST.out.mono ?_); rintro e w5 ⟨rfl, hl5, ht5⟩; have HL5 := Lib.hid hl5; have HT5 := Lib.hid ht5; have hx5 := HX.out _ ht5; clear hl5 ht5)
                  go_roundw
                  case rel => exact ⟨k + 1, dstep0 gs, nx, false, P, Q, by go_num, by omega, rfl, rfl, by rw [HPD.out, HPD2.out], HT0.out.turn HL5.out HT5.out HO.out, by omega, HAA.out⟩
                  case measure => simp [intOf]; omega
          · have hga : (gs.th p).a ≠ 0 := by unfold gat at hga; rwa [if_neg hp0] at hga
            replace hD : D = dfinT gs p := by rw [hD]; unfold gfin; rw [if_neg hp0]
            replace hG : G = dtoldT gs p := by rw [hG]; unfold gtold; rw [if_neg hp0]
            have hS : gstep gs p = dstepT gs p := by unfold gstep; rw [if_neg hp0]
            rw [hS] at HST
            have h9 : 9 ≤ (gs.th p).a ∧ (gs.th p).a ≤ 12 := by
              obtain ⟨s, hl, hr⟩ := HT0.out.lk
              exact (gat_is hl.ok hr p).2 hp0 (by unfold gat; rw [if_neg hp0]; exact hga)
            obtain ⟨ho, hpd', hsa⟩ := hos.stepT h9
            rw [← hD, ← hG] at ho
            have hpb : ((p : Int) == 0) = false := by simp; omega
            have hpb2 : (p == 0) = false := by simp; omega
            have HAA := Lib.hid (HOA.out (dstepT gs p).a (fun e => by omega) (fun _ => hsa))
            have HPD2 := Lib.hid hpd'
            have HOS := Lib.hid ho
            clear hga hos hpd' ho hD hG hS h9 hsa
            cases D with
            | false =>
              have HO := Lib.hid (show OS (dstepT gs p) nx ps P Q from by have h := HOS.out; rwa [if_neg (fun q => by cases q.1)] at h)
              clear hp0
              go_wp2_with (go_at_call 13; (with_reducible refine HST.out.mono ?_); rintro e w5 ⟨rfl, hl5, ht5⟩; have HL5 := Lib.hid hl5; have HT5 := Lib.hid ht5; have hx5 := HX.out _ ht5; clear hl5 ht5)
              go_roundw
              case rel => exact ⟨k + 1, dstepT gs p, nx, ps, P, Q, by go_num, by omega, rfl, rfl, by rw [HPD.out, HPD2.out], HT0.out.turn HL5.out HT5.out HO.out, by omega, HAA.out⟩
              case measure => simp [intOf]; omega
            | true =>
              by_cases hg : 0 ≤ G
              · have HO := Lib.hid (show OS (dstepT gs p) nx ps P (Q ++ [G]) from by have h := HOS.out; rwa [if_pos ⟨rfl, hg⟩] at h)
                clear hp0
                go_wp2_with (first | (go_at_call 13; (with_reducible refine HST.out.mono ?_); rintro e w5 ⟨rfl, hl5, ht5⟩; have HT6 := Lib.hid (HT0.out.turnB hl5 ht5); have hx5 := HX.out _ ht5; clear hl5 ht5) | (at_builtin; refine wpList_append_lies _ rfl (.tmp 119) (.tmp 121) 29 rfl base 3 i0 (.int .i64 0) 1 8 Try.underlying29 hi0 hz0 hz1 hz2 rfl (by omega) (.slice aQ KQ cQ) KQ (Q.map (Value.int .i64)) rfl (HT6.out.ownQ _ HKQ.out) ⟨w5.heap.size, 0, none⟩ 1 1 [.int .i64 G] rfl (by rfl) (one_cell (by simp)) (by intro u hu; simp at hu; subst hu; rfl) (by omega) (by unfold maxLen; omega) (by omega) (by have := HT6.out.bs; simp; omega) (w5.heap.size + 1) (by simp) ?_; intro q0 d0 w6 hown hgrow hat hlt6; obtain ⟨z1, z2, z3, z4⟩ := HT6.out.appQ hown (congrArg (· + 1) HKQ.out.symm) rfl hgrow hat; have HZ1 := Lib.hid z1; have HZ2 := Lib.hid z2; have HZ3 := Lib.hid z3; have HZ4 := Lib.hid z4; clear hown hgrow hat hlt6 z1 z2 z3 z4))
                go_roundw
                case rel => exact ⟨k + 1, dstepT gs p, nx, ps, P, Q ++ [G], by go_num, by omega, rfl, rfl, by rw [HPD.out, HPD2.out], ⟨HZ1.out, HO.out, HZ2.out, HZ3.out, HZ4.out⟩, by omega, HAA.out⟩
                case measure => simp [intOf]; omega
              · have HO := Lib.hid (show OS (dstepT gs p) nx ps P Q from by have h := HOS.out; rwa [if_neg (fun q => hg q.2)] at h)
                clear hp0
                go_wp2_with (go_at_call 13; (with_reducible refine HST.out.mono ?_); rintro e w5 ⟨rfl, hl5, ht5⟩; have HL5 := Lib.hid hl5; have HT5 := Lib.hid ht5; have hx5 := HX.out _ ht5; clear hl5 ht5)
                go_roundw
                case rel => exact ⟨k + 1, dstepT gs p, nx, ps, P, Q, by go_num, by omega, rfl, rfl, by rw [HPD.out, HPD2.out], HT0.out.turn HL5.out HT5.out HO.out, by omega, HAA.out⟩
                case measure => simp [intOf]; omega
        · go_upto_region 9 with fail
          rw [← HBQ.out, ← HW2.out]
          by_cases hb : ¬ (0 ≤ (q : Int) ∧ (q : Int) < (n : Int)) ∨ gat gs ((q : Int)).toNat = 0
          · have HST := Lib.hid (stepE HT0.out (by omega) (q : Int) hb)
            have hzz : (q : Int) = 0 → gs.a = 0 := fun e => by
              rcases hb with hb | hb
              · omega
              · rw [e] at hb; exact hb
            have HAA := Lib.hid (HOA.out gs.a (fun e => .inl ⟨hzz e, hzz e⟩) (fun _ => rfl))
            clear hb hzz
            go_wp2_with (go_at_call 13; (with_reducible refine HST.out.mono ?_); rintro e w5 ⟨⟨ec, rfl⟩, hl5, ht5⟩; have HT5 := Lib.hid hl5; clear hl5 ht5)
            go_roundw
            case rel => exact ⟨k + 1, gs, nx, ps, P, Q, by go_num, by omega, rfl, rfl, by rw [HPD.out], HT5.out.older (by omega), by omega, HAA.out⟩
            case measure => simp [intOf]; omega
          obtain ⟨p, hp⟩ := Int.eq_ofNat_of_zero_le (show 0 ≤ (q : Int) by omega)
          obtain rfl : p = q := by omega
          clear hp
          have hpn : p < n := by omega
          have hga : gat gs p ≠ 0 := fun e => hb (.inr e)
          have hst := stepO HT0.out (by omega) hpn hga
          clear hb
          obtain ⟨D, hD⟩ : ∃ D, D = gfin gs p := ⟨_, rfl⟩
          obtain ⟨G, hG⟩ : ∃ G, G = gtold gs p := ⟨_, rfl⟩
          rw [← hD, ← hG] at hst
          have HST := Lib.hid hst
          clear hst
          have hos := HT0.out.os
          by_cases hp0 : p = 0
          · subst hp0
            have hga : gs.a ≠ 0 := hga
            have z0 : ((0 : Nat) : Int) = 0 := rfl
            rw [z0] at HST hx0
            simp only [z0] at HX
            replace hD : D = dfin0 gs := hD
            replace hG : G = dtold0 gs := hG
            have HAA := Lib.hid (HOA.out (dstep0 gs).a (fun _ => .inr (hos.ok.left hga)) (fun e => absurd rfl e))
            by_cases h3 : gs.a ≤ 3
            · obtain ⟨hps, ho, hn1, hpd', htl⟩ := hos.stepP (by omega) h3
              rw [← hD, ← hG] at ho hpd' htl
              clear h3 hga hos
              cases D with
              | false =>
                rw [if_neg (fun q => by cases q.1)] at ho hpd'
                have HO := Lib.hid ho
                have HPD2 := Lib.hid hpd'
                clear ho hpd' htl hD hG hps hn1
                go_wp2_with (go_at_call 13; (with_reducible refine HST.out.mono ?_); rintro e w5 ⟨rfl, hl5, ht5⟩; have HL5 := Lib.hid hl5; have HT5 := Lib.hid ht5; have hx5 := HX.out _ ht5; clear hl5 ht5)
                go_roundw
                case rel => exact ⟨k + 1, dstep0 gs, nx, ps, P, Q, by go_num, by omega, rfl, rfl, by rw [HPD.out, HPD2.out], HT0.out.turn HL5.out HT5.out HO.out, by omega, HAA.out⟩
                case measure => simp [intOf]; omega
              | true =>
                have HPS := Lib.hid hps
                subst hps
                rcases htl rfl with hg | hg
                · rw [hg, if_neg (fun q => by omega)] at ho
                  rw [hg, if_pos ⟨rfl, rfl⟩] at hpd'
                  have HO := Lib.hid ho
                  have HPD2 := Lib.hid hpd'
                  obtain ⟨pd1, hpd1⟩ : ∃ m, m = pd + 1 := ⟨_, rfl⟩
                  have hw1 : IntKind.i64.wrap ((pd : Int) + 1) = (pd1 : Int) := (IntWalk.i64_in _ (by omega)).trans (by omega)
                  have HP1 := Lib.hid hpd1
                  rw [hg] at HST
                  clear ho hpd' htl hD hG hn1 hpd1 hg
                  go_wp2_with (go_at_call 13; (with_reducible refine HST.out.mono ?_); rintro e w5 ⟨rfl, hl5, ht5⟩; have HL5 := Lib.hid hl5; have HT5 := Lib.hid ht5; have hx5 := HX.out _ ht5; clear hl5 ht5)
                  go_roundw
                  case rel => exact ⟨k + 1, dstep0 gs, nx, true, P, Q, by go_num, by omega, rfl, rfl, by rw [HPD2.out, ← HPD.out, HP1.out], HT0.out.turn HL5.out HT5.out HO.out, by omega, HAA.out⟩
                  case measure => simp [intOf]; omega
                · rw [hg, if_pos ⟨rfl, rfl⟩] at ho
                  rw [hg, if_neg (fun q => by omega)] at hpd'
                  have HO := Lib.hid ho
                  have HPD2 := Lib.hid hpd'
                  obtain ⟨nx1, hnx1⟩ : ∃ m, m = nx - 1 := ⟨_, rfl⟩
                  have hw1 : IntKind.i64.wrap ((nx : Int) - 1) = (nx1 : Int) := (IntWalk.i64_in _ (by omega)).trans (by omega)
                  have HP1 := Lib.hid hnx1
                  rw [← hnx1] at HO
                  rw [hg] at HST
                  clear ho hpd' htl hD hG hn1 hnx1 hg
                  go_wp2_with (go_at_call 13; (with_reducible refine HST.out.mono ?_); rintro e w5 ⟨rfl, hl5, ht5⟩; have HL5 := Lib.hid hl5; have HT5 := Lib.hid ht5; have hx5 := HX.out _ ht5; clear hl5 ht5)
                  go_roundw
                  case rel => exact ⟨k + 1, dstep0 gs, nx1, true, P, Q, by go_num, by omega, rfl, rfl, by rw [HPD.out, HPD2.out], HT0.out.turn HL5.out HT5.out HO.out, by have := HP1.out; omega, HAA.out⟩
                  case measure => simp [intOf]; omega
            · obtain ⟨hps, ho, hpd'⟩ := hos.stepQ (by omega)
              rw [← hD, ← hG] at ho
              have HPD2 := Lib.hid hpd'
              have HOS := Lib.hid (show OS (dstep0 gs) nx ps (if D = true ∧ 0 ≤ G then P ++ [G] else P) Q from ho)
              clear h3 hga hos hpd' ho hD hG
              subst hps
              cases D with
              | false =>
                have HO := Lib.hid (show OS (dstep0 gs) nx false P Q from by have h := HOS.out; rwa [if_neg (fun q => by cases q.1)] at h)
                go_wp2_with (go_at_call 13; (with_reducible refine HST.out.mono ?_); rintro e w5 ⟨rfl, hl5, ht5⟩; have HL5 := Lib.hid hl5; have HT5 := Lib.hid ht5; have hx5 := HX.out _ ht5; clear hl5 ht5)
                go_roundw
                case rel => exact ⟨k + 1, dstep0 gs, nx, false, P, Q, by go_num, by omega, rfl, rfl, by rw [HPD.out, HPD2.out], HT0.out.turn HL5.out HT5.out HO.out, by omega, HAA.out⟩
                case measure => simp [intOf]; omega
              | true =>
                by_cases hg : 0 ≤ G
                · have HO := Lib.hid (show OS (dstep0 gs) nx false (P ++ [G]) Q from by have h := HOS.out; rwa [if_pos ⟨rfl, hg⟩] at h)
                  obtain ⟨KP1, hKP1⟩ : ∃ m, m = KP + 1 := ⟨_, rfl⟩
                  have HOO := Lib.hid HT0.out.os
                  go_wp2_with (first | (go_at_call 13; (with_reducible refine HST.out.mono ?_); rintro e w5 ⟨rfl, hl5, ht5⟩; have HT6 := Lib.hid (HT0.out.turnB hl5 ht5); have hx5 := HX.out _ ht5; clear hl5 ht5) | (at_builtin; refine wpList_append_lies _ rfl (.tmp 113) (.tmp 115) 29 rfl base 3 i0 (.int .i64 0) 1 8 Try.underlying29 hi0 hz0 hz1 hz2 rfl (by omega) (.slice aP KP cP) KP (P.map (Value.int .i64)) rfl (HT6.out.ownP _ HKP.out) ⟨w5.heap.size, 0, none⟩ 1 1 [.int .i64 G] rfl (by rfl) (one_cell (by simp)) (by intro u hu; simp at hu; subst hu; rfl) (by omega) (by unfold maxLen; omega) (by omega) (by have := HT6.out.bs; simp; omega) (w5.heap.size + 1) (by simp) ?_; intro q0 d0 w6 hown hgrow hat hlt6; obtain ⟨z1, z2, z3, z4⟩ := HT6.out.appP hown (congrArg (· + 1) HKP.out.symm) rfl hgrow hat; have HZ1 := Lib.hid z1; have HZ2 := Lib.hid z2; have HZ3 := Lib.hid z3; have HZ4 := Lib.hid z4; clear hown hgrow hat hlt6 z1 z2 z3 z4))
                  go_roundw
                  case rel => exact ⟨k + 1, dstep0 gs, nx, false, P ++ [G], Q, by go_num, by omega, rfl, rfl, by rw [HPD.out, HPD2.out], ⟨HZ1.out, HO.out, HZ2.out, HZ3.out, HZ4.out⟩, by omega, HAA.out⟩
                  case measure => simp [intOf]; omega
                · have HO := Lib.hid (show OS (dstep0 gs) nx false P Q from by have h := HOS.out; rwa [if_neg (fun q => hg q.2)] at h)
                  go_wp2_with (go_at_call 13; (with_reducible refine HST.out.mono ?_); rintro e w5 ⟨rfl, hl5, ht5⟩; have HL5 := Lib.hid hl5; have HT5 := Lib.hid ht5; have hx5 := HX.out _ ht5; clear hl5 ht5)
                  go_roundw
                  case rel => exact ⟨k + 1, dstep0 gs, nx, false, P, Q, by go_num, by omega, rfl, rfl, by rw [HPD.out, HPD2.out], HT0.out.turn HL5.out HT5.out HO.out, by omega, HAA.out⟩
                  case measure => simp [intOf]; omega
          · have hga : (gs.th p).a ≠ 0 := by unfold gat at hga; rwa [if_neg hp0] at hga
            replace hD : D = dfinT gs p := by rw [hD]; unfold gfin; rw [if_neg hp0]
            replace hG : G = dtoldT gs p := by rw [hG]; unfold gtold; rw [if_neg hp0]
            have hS : gstep gs p = dstepT gs p := by unfold gstep; rw [if_neg hp0]
            rw [hS] at HST
            have h9 : 9 ≤ (gs.th p).a ∧ (gs.th p).a ≤ 12 := by
              obtain ⟨s, hl, hr⟩ := HT0.out.lk
              exact (gat_is hl.ok hr p).2 hp0 (by unfold gat; rw [if_neg hp0]; exact hga)
            obtain ⟨ho, hpd', hsa⟩ := hos.stepT h9
            rw [← hD, ← hG] at ho
            have hpb : ((p : Int) == 0) = false := by simp; omega
            have hpb2 : (p == 0) = false := by simp; omega
            have HAA := Lib.hid (HOA.out (dstepT gs p).a (fun e => by omega) (fun _ => hsa))
            have HPD2 := Lib.hid hpd'
            have HOS := Lib.hid ho
            clear hga hos hpd' ho hD hG hS h9 hsa
            cases D with
            | false =>
              have HO := Lib.hid (show OS (dstepT gs p) nx ps P Q from by have h := HOS.out; rwa [if_neg (fun q => by cases q.1)] at h)
              clear hp0
              go_wp2_with (go_at_call 13; (with_reducible refine HST.out.mono ?_); rintro e w5 ⟨rfl, hl5, ht5⟩; have HL5 := Lib.hid hl5; have HT5 := Lib.hid ht5; have hx5 := HX.out _ ht5; clear hl5 ht5)
              go_roundw
              case rel => exact ⟨k + 1, dstepT gs p, nx, ps, P, Q, by go_num, by omega, rfl, rfl, by rw [HPD.out, HPD2.out], HT0.out.turn HL5.out HT5.out HO.out, by omega, HAA.out⟩
              case measure => simp [intOf]; omega
            | true =>
              by_cases hg : 0 ≤ G
              · have HO := Lib.hid (show OS (dstepT gs p) nx ps P (Q ++ [G]) from by have h := HOS.out; rwa [if_pos ⟨rfl, hg⟩] at h)
                clear hp0
                go_wp2_with (first | (go_at_call 13; (with_reducible refine HST.out.mono ?_); rintro e w5 ⟨rfl, hl5, ht5⟩; have HT6 := Lib.hid (HT0.out.turnB hl5 ht5); have hx5 := HX.out _ ht5; clear hl5 ht5) | (at_builtin; refine wpList_append_lies _ rfl (.tmp 119) (.tmp 121) 29 rfl base 3 i0 (.int .i64 0) 1 8 Try.underlying29 hi0 hz0 hz1 hz2 rfl (by omega) (.slice aQ KQ cQ) KQ (Q.map (Value.int .i64)) rfl (HT6.out.ownQ _ HKQ.out) ⟨w5.heap.size, 0, none⟩ 1 1 [.int .i64 G] rfl (by rfl) (one_cell (by simp)) (by intro u hu; simp at hu; subst hu; rfl) (by omega) (by unfold maxLen; omega) (by omega) (by have := HT6.out.bs; simp; omega) (w5.heap.size + 1) (by simp) ?_; intro q0 d0 w6 hown hgrow hat hlt6; obtain ⟨z1, z2, z3, z4⟩ := HT6.out.appQ hown (congrArg (· + 1) HKQ.out.symm) rfl hgrow hat; have HZ1 := Lib.hid z1; have HZ2 := Lib.hid z2; have HZ3 := Lib.hid z3; have HZ4 := Lib.hid z4; clear hown hgrow hat hlt6 z1 z2 z3 z4))
                go_roundw
                case rel => exact ⟨k + 1, dstepT gs p, nx, ps, P, Q ++ [G], by go_num, by omega, rfl, rfl, by rw [HPD.out, HPD2.out], ⟨HZ1.out, HO.out, HZ2.out, HZ3.out, HZ4.out⟩, by omega, HAA.out⟩
                case measure => simp [intOf]; omega
              · have HO := Lib.hid (show OS (dstepT gs p) nx ps P Q from by have h := HOS.out; rwa [if_neg (fun q => hg q.2)] at h)
                clear hp0
                go_wp2_with (go_at_call 13; (with_reducible refine HST.out.mono ?_); rintro e w5 ⟨rfl, hl5, ht5⟩; have HL5 := Lib.hid hl5; have HT5 := Lib.hid ht5; have hx5 := HX.out _ ht5; clear hl5 ht5)
                go_roundw
                case rel => exact ⟨k + 1, dstepT gs p, nx, ps, P, Q, by go_num, by omega, rfl, rfl, by rw [HPD.out, HPD2.out], HT0.out.turn HL5.out HT5.out HO.out, by omega, HAA.out⟩
                case measure => simp [intOf]; omega
    · obtain rfl : k = 360 := by omega
      have hI : ¬ ((360 : Nat) : Int) < 360 := by omega
      have h0 := OL.done hol h1 h4
      have HTA := Lib.hid hta
      have H0 := Lib.hid h0
      have HPE := Lib.hid (show gs.pd ≤ 360 by
        have := hta.os.nx0 (.inl h0)
        omega)
      clear hgo hta hol hk h0
      go_wp2
      go_ret3
      exact ⟨gs, nx, ps, _, _, P, Q, rfl, HTA.out, H0.out, HPE.out⟩
end Go.Proofs.Ytbicckeoidijpaa.Dq
