/-
  The walk of latchgarthlaw3.RingPlays: the ring and the reference's, beside each other.
-/
import Derived.Test.YtihidjbepjeceaaDoorRngRefA
import Derived.Test.YtihidjbepjeceaaDoorRngRefB
import Derived.Test.YtihidjbepjeceaaDoorRngRefC
import Derived.Test.YtihidjbepjeceaaDoorRngRefD
import Derived.Test.YtihidjbepjeceaaDoorRingAt
import Derived.Test.YtihidjbepjeceaaDoorRws
import Derived.Test.YtihidjbepjeceaaDoorInts
import Derived.Test.YtihidjbepjeceaaDoorAs2
import Derived.Deep.DeepCutAuto
namespace Go.Proofs.YtihidjbepjeceaaDoor.Ring
open Go.RowKit Rf

theorem rgs_ext {a b : RGS} (h1 : a.pa = b.pa) (h2 : a.pv = b.pv) (h3 : a.ga = b.ga) (h4 : a.gv = b.gv) (h5 : a.hd = b.hd) (h6 : a.tl = b.tl) (h7 : a.pl = b.pl) (h8 : a.puts = b.puts) (h9 : a.out = b.out) (h10 : a.have' = b.have') : a = b := by
  cases a; cases b
  dsimp only at *
  subst h1 h2 h3 h4 h5 h6 h7 h8 h9 h10
  rfl
section
variable {F : Nat → Prop} {n : Nat} {s : RGS} {A0 : Option Addr} {c0 : Nat}
/-- StepPut of the reference, in one. -/
theorem refput_any (w : World) (h : pn n s F w (.slice A0 n c0)) (hF : ∀ b, F b → b < w.heap.size) (ok : RGOk n s) (h1 : 1 ≤ n) (h8 : n ≤ 8) (ht : s.tl ≤ 1000000) :
    Calls Tryd.prog 6 #[.agg #[.slice A0 n c0, .int .i64 ((s.hd : Nat) : Int), .int .i64 ((s.tl : Nat) : Int), .int .i64 ((s.pa : Nat) : Int), .int .i64 ((s.ga : Nat) : Int), .int .i64 ((s.pv : Nat) : Int), .int .i64 ((s.gv : Nat) : Int)]] w fun e w' => SpT F w w' n (sSp n s) (.bool (pD n s)) (.bool (pP s)) (.int .i64 (pE s)) e := by
  obtain ha | ha | ha | ha : s.pa = 0 ∨ s.pa = 1 ∨ s.pa = 2 ∨ s.pa = 3 := by have := ok.pa; omega
  · have q1 : pD n s = false := by unfold pD; rw [if_neg (by omega), if_neg (by omega)]
    have q2 : pP s = false := decide_eq_false (by omega)
    have q3 : pE s = 7 := by unfold pE; rw [if_pos ha]
    have q4 : sSp n s = ⟨0, s.pv, s.ga, s.gv, s.hd, s.tl, s.pl, s.puts, s.out, s.have'⟩ := by unfold sSp; rw [if_pos ha]; exact rgs_ext ha rfl rfl rfl rfl rfl rfl rfl rfl rfl
    rw [q1, q2, q3, q4]
    exact sp0 w h hF ha
  · have q2 : pP s = false := decide_eq_false (by omega)
    have q3 : pE s = 0 := by unfold pE; rw [if_neg (by omega)]
    by_cases hf : s.tl = s.hd + n
    · have q1 : pD n s = true := by unfold pD; rw [if_pos ha]; exact decide_eq_true hf
      have q4 : sSp n s = ⟨0, s.pv, s.ga, s.gv, s.hd, s.tl, s.pl, s.puts, s.out, s.have'⟩ := by unfold sSp rgsp; rw [if_neg (by omega), if_pos ha, if_pos hf]
      rw [q1, q2, q3, q4]
      exact sp1y w h hF ha hf h8
    · have q1 : pD n s = false := by unfold pD; rw [if_pos ha]; exact decide_eq_false hf
      have q4 : sSp n s = ⟨2, s.pv, s.ga, s.gv, s.hd, s.tl, s.pl, s.puts, s.out, s.have'⟩ := by unfold sSp rgsp; rw [if_neg (by omega), if_pos ha, if_neg hf]
      rw [q1, q2, q3, q4]
      exact sp1n w h hF ha hf ok.lo ht
  · have q1 : pD n s = false := by unfold pD; rw [if_neg (by omega), if_neg (by omega)]
    have q2 : pP s = false := decide_eq_false (by omega)
    have q3 : pE s = 0 := by unfold pE; rw [if_neg (by omega)]
    have q4 : sSp n s = ⟨3, s.pv, s.ga, s.gv, s.hd, s.tl, gup s.pl (s.tl % n) s.pv, s.puts, s.out, s.have'⟩ := by unfold sSp rgsp; rw [if_neg (by omega), if_neg (by omega), if_pos ha]
    rw [q1, q2, q3, q4]
    exact sp2 w h hF ha h1 h8
  · have q1 : pD n s = true := by unfold pD; rw [if_neg (by omega), if_pos (by omega)]
    have q2 : pP s = true := decide_eq_true ha
    have q3 : pE s = 0 := by unfold pE; rw [if_neg (by omega)]
    have q4 : sSp n s = ⟨0, s.pv, s.ga, s.gv, s.hd, s.tl + 1, s.pl, gup s.puts s.tl s.pv, s.out, s.have'⟩ := by unfold sSp rgsp; rw [if_neg (by omega), if_neg (by omega), if_neg (by omega)]
    rw [q1, q2, q3, q4]
    exact sp3 w h hF ha rfl ht
/-- StepGet of the reference, in one. -/
theorem refget_any (w : World) (h : pn n s F w (.slice A0 n c0)) (hF : ∀ b, F b → b < w.heap.size) (ok : RGOk n s) (h1 : 1 ≤ n) (h8 : n ≤ 8) (ht : s.tl ≤ 1000000) :
    Calls Tryd.prog 8 #[.agg #[.slice A0 n c0, .int .i64 ((s.hd : Nat) : Int), .int .i64 ((s.tl : Nat) : Int), .int .i64 ((s.pa : Nat) : Int), .int .i64 ((s.ga : Nat) : Int), .int .i64 ((s.pv : Nat) : Int), .int .i64 ((s.gv : Nat) : Int)]] w fun e w' => SpT F w w' n (sSg n s) (.bool (gD s)) (.int .i64 (gG s)) (.int .i64 (gE s)) e := by
  rcases ok.ga with ha | ha | ha | ha
  · have q1 : gD s = false := by unfold gD; rw [if_neg (by omega), if_neg (by omega)]
    have q2 : gG s = 0 := by unfold gG; rw [if_neg (by omega), if_neg (by omega)]
    have q3 : gE s = 7 := by unfold gE; rw [if_pos ha]
    have q4 : sSg n s = ⟨s.pa, s.pv, 0, s.gv, s.hd, s.tl, s.pl, s.puts, s.out, s.have'⟩ := by unfold sSg; rw [if_pos ha]; exact rgs_ext rfl rfl ha rfl rfl rfl rfl rfl rfl rfl
    rw [q1, q2, q3, q4]
    exact sg0 w h hF ha
  · have q3 : gE s = 0 := by unfold gE; rw [if_neg (by omega)]
    by_cases hf : s.tl = s.hd
    · have q1 : gD s = true := by unfold gD; rw [if_pos ha]; exact decide_eq_true hf
      have q2 : gG s = -1 := by unfold gG; rw [if_pos ha, if_pos hf]
      have q4 : sSg n s = ⟨s.pa, s.pv, 0, s.gv, s.hd, s.tl, s.pl, s.puts, s.out, s.have'⟩ := by unfold sSg rgsg; rw [if_neg (by omega), if_pos ha, if_pos hf]
      rw [q1, q2, q3, q4]
      exact sg4y w h hF ha hf
    · have q1 : gD s = false := by unfold gD; rw [if_pos ha]; exact decide_eq_false hf
      have q2 : gG s = 0 := by unfold gG; rw [if_pos ha, if_neg hf]
      have q4 : sSg n s = ⟨s.pa, s.pv, 5, s.gv, s.hd, s.tl, s.pl, s.puts, s.out, s.have'⟩ := by unfold sSg rgsg; rw [if_neg (by omega), if_pos ha, if_neg hf]
      rw [q1, q2, q3, q4]
      exact sg4n w h hF ha hf
  · have q1 : gD s = false := by unfold gD; rw [if_neg (by omega), if_neg (by omega)]
    have q2 : gG s = 0 := by unfold gG; rw [if_neg (by omega), if_neg (by omega)]
    have q3 : gE s = 0 := by unfold gE; rw [if_neg (by omega)]
    have q4 : sSg n s = ⟨s.pa, s.pv, 6, s.pl (s.hd % n), s.hd, s.tl, s.pl, s.puts, s.out, s.have'⟩ := by unfold sSg rgsg; rw [if_neg (by omega), if_neg (by omega), if_pos ha]
    rw [q1, q2, q3, q4]
    exact sg5 w h hF ha h1 h8 rfl
  · have q1 : gD s = true := by unfold gD; rw [if_neg (by omega), if_pos (by omega)]
    have q2 : gG s = (s.gv : Int) := by unfold gG; rw [if_neg (by omega), if_pos ha]
    have q3 : gE s = 0 := by unfold gE; rw [if_neg (by omega)]
    have q4 : sSg n s = ⟨s.pa, s.pv, 0, s.gv, s.hd + 1, s.tl, s.pl, s.puts, s.out, s.have'⟩ := by unfold sSg rgsg; rw [if_neg (by omega), if_neg (by omega), if_neg (by omega)]
    rw [q1, q2, q3, q4]
    exact sg6 w h hF ha rfl (Nat.le_trans ok.lo ht)
end
/-- The ring in block g, the reference's in block b. -/
structure UP (w W : World) (g b n : Nat) (s : RGS) (a : Nat) (r : RGS) (A0 : Option Addr) (c0 : Nat) : Prop where
  lk : LkAt w W g n s a
  box : Block W b 30 #[.slice A0 n c0, .int .i64 ((r.hd : Nat) : Int), .int .i64 ((r.tl : Nat) : Int), .int .i64 ((r.pa : Nat) : Int), .int .i64 ((r.ga : Nat) : Int), .int .i64 ((r.pv : Nat) : Int), .int .i64 ((r.gv : Nat) : Int)]
  gb : g < b
  pl : pn n r (fun x => x = g ∨ x = b) W (.slice A0 n c0)
section
variable {w W W' : World} {g b n a a' : Nat} {s s' r r' : RGS} {A0 E : Option Addr} {c0 e : Nat}
theorem UP.low (h : UP w W g b n s a r A0 c0) : w.heap.size ≤ b := by have := h.lk.new; have := h.gb; omega
theorem UP.F (h : UP w W g b n s a r A0 c0) : ∀ x, (x = g ∨ x = b) → x < W.heap.size := fun x hx => by
  have := h.lk.lt
  have := h.box.lt
  rcases hx with rfl | rfl <;> assumption
theorem UP.call (h : UP w W g b n s a r A0 c0) (hb : Below W.heap.size W W') : UP w W' g b n s a r A0 c0 :=
  ⟨h.lk.on hb (Nat.le_refl _), h.box.below hb h.box.lt, h.gb, (pn_stb n r).below hb h.pl⟩
theorem UP.turn (h : UP w W g b n s a r A0 c0) (hl : LkAt w W' g n s' a') (ht : Touch (fun k => k = g) W W') : UP w W' g b n s' a' r A0 c0 :=
  ⟨hl, h.box.touch ht (by have := h.gb; omega), h.gb, (pn_stb n r).touch ht (fun x _ e => Or.inl e) h.pl⟩
theorem UP.drewN (h : UP w W g b n s a r A0 c0) (i : Nat) : UP w (W.drewN i) g b n s a r A0 c0 := h.call (below_drewN (Below.refl _ W) i)
theorem UP.drew (h : UP w W g b n s a r A0 c0) : UP w W.drew g b n s a r A0 c0 := h.call (Below.refl _ W).drew
theorem UP.older (h : UP w W g b n s a r A0 c0) (ha : a ≤ a') : UP w W g b n s a' r A0 c0 := ⟨h.lk.older ha, h.box, h.gb, h.pl⟩
/-- The reference's is written anew. -/
theorem UP.store (h : UP w W g b n s a r A0 c0) (hr : pn n r' (fun x => x = g ∨ x = b) W (.slice E n e)) : UP w (((((((W.setCell ⟨b, 0, none⟩ (.slice E n e)).setCell ⟨b, 1, none⟩ (.int .i64 ((r'.hd : Nat) : Int))).setCell ⟨b, 2, none⟩ (.int .i64 ((r'.tl : Nat) : Int))).setCell ⟨b, 3, none⟩ (.int .i64 ((r'.pa : Nat) : Int))).setCell ⟨b, 4, none⟩ (.int .i64 ((r'.ga : Nat) : Int))).setCell ⟨b, 5, none⟩ (.int .i64 ((r'.pv : Nat) : Int))).setCell ⟨b, 6, none⟩ (.int .i64 ((r'.gv : Nat) : Int))) g b n s a r' E e := by
  have hw := h.low
  have hgb := h.gb
  have ht : Touch (fun x => x = b) W (((((((W.setCell ⟨b, 0, none⟩ (.slice E n e)).setCell ⟨b, 1, none⟩ (.int .i64 ((r'.hd : Nat) : Int))).setCell ⟨b, 2, none⟩ (.int .i64 ((r'.tl : Nat) : Int))).setCell ⟨b, 3, none⟩ (.int .i64 ((r'.pa : Nat) : Int))).setCell ⟨b, 4, none⟩ (.int .i64 ((r'.ga : Nat) : Int))).setCell ⟨b, 5, none⟩ (.int .i64 ((r'.pv : Nat) : Int))).setCell ⟨b, 6, none⟩ (.int .i64 ((r'.gv : Nat) : Int))) := ((((((((Touch.refl (fun x => x = b) W).setCell (p := ⟨b, 0, none⟩) (Or.inl rfl) (.slice E n e)).setCell (p := ⟨b, 1, none⟩) (Or.inl rfl) (.int .i64 ((r'.hd : Nat) : Int))).setCell (p := ⟨b, 2, none⟩) (Or.inl rfl) (.int .i64 ((r'.tl : Nat) : Int))).setCell (p := ⟨b, 3, none⟩) (Or.inl rfl) (.int .i64 ((r'.pa : Nat) : Int))).setCell (p := ⟨b, 4, none⟩) (Or.inl rfl) (.int .i64 ((r'.ga : Nat) : Int))).setCell (p := ⟨b, 5, none⟩) (Or.inl rfl) (.int .i64 ((r'.pv : Nat) : Int))).setCell (p := ⟨b, 6, none⟩) (Or.inl rfl) (.int .i64 ((r'.gv : Nat) : Int)))
  refine ⟨h.lk.touch ht fun k hk => by omega, ?_, hgb, (pn_stb n r').touch ht (fun x _ e => Or.inr e) hr⟩
  have := (((((((h.box.put 0 (.slice E n e)).put 1 (.int .i64 ((r'.hd : Nat) : Int))).put 2 (.int .i64 ((r'.tl : Nat) : Int))).put 3 (.int .i64 ((r'.pa : Nat) : Int))).put 4 (.int .i64 ((r'.ga : Nat) : Int))).put 5 (.int .i64 ((r'.pv : Nat) : Int))).put 6 (.int .i64 ((r'.gv : Nat) : Int)))
  simpa using this
theorem UP.q (h : UP w W g b n s a r A0 c0) : W.cell? ⟨b, 0, none⟩ = some (.slice A0 n c0) ∧ W.cell? ⟨b, 1, none⟩ = some (.int .i64 ((r.hd : Nat) : Int)) ∧ W.cell? ⟨b, 2, none⟩ = some (.int .i64 ((r.tl : Nat) : Int)) ∧ W.cell? ⟨b, 3, none⟩ = some (.int .i64 ((r.pa : Nat) : Int)) ∧ W.cell? ⟨b, 4, none⟩ = some (.int .i64 ((r.ga : Nat) : Int)) ∧ W.cell? ⟨b, 5, none⟩ = some (.int .i64 ((r.pv : Nat) : Int)) ∧ W.cell? ⟨b, 6, none⟩ = some (.int .i64 ((r.gv : Nat) : Int)) := ⟨h.box.cell 0, h.box.cell 1, h.box.cell 2, h.box.cell 3, h.box.cell 4, h.box.cell 5, h.box.cell 6⟩
/-- One number of the reference's is written. -/
theorem UP.one (h : UP w W g b n s a r A0 c0) (i : Nat) (x : Int) (hi : Block W b 30 #[.slice A0 n c0, .int .i64 ((r.hd : Nat) : Int), .int .i64 ((r.tl : Nat) : Int), .int .i64 ((r.pa : Nat) : Int), .int .i64 ((r.ga : Nat) : Int), .int .i64 ((r.pv : Nat) : Int), .int .i64 ((r.gv : Nat) : Int)] → Block (W.setCell ⟨b, i, none⟩ (.int .i64 x)) b 30 #[.slice A0 n c0, .int .i64 ((r'.hd : Nat) : Int), .int .i64 ((r'.tl : Nat) : Int), .int .i64 ((r'.pa : Nat) : Int), .int .i64 ((r'.ga : Nat) : Int), .int .i64 ((r'.pv : Nat) : Int), .int .i64 ((r'.gv : Nat) : Int)]) (hp : r'.pl = r.pl) : UP w (W.setCell ⟨b, i, none⟩ (.int .i64 x)) g b n s a r' A0 c0 := by
  have hw := h.low
  have hgb := h.gb
  have ht : Touch (fun k => k = b) W (W.setCell ⟨b, i, none⟩ (.int .i64 x)) := (Touch.refl (fun k => k = b) W).setCell (p := ⟨b, i, none⟩) (Or.inl rfl) _
  refine ⟨h.lk.touch ht fun k hk => by omega, hi h.box, hgb, (pn_stb n r').touch ht (fun x _ e => Or.inr e) ?_⟩
  have := h.pl
  unfold pn at this ⊢
  rw [hp]; exact this
theorem UP.get4 (h : UP w W g b n s a r A0 c0) : UP w (W.setCell ⟨b, 4, none⟩ (.int .i64 4)) g b n s a (rgget r) A0 c0 :=
  h.one 4 4 (fun hb => by have := hb.put 4 (.int .i64 4); simpa [rgget] using this) rfl
theorem UP.put35 (h : UP w W g b n s a r A0 c0) (x : Nat) : UP w ((W.setCell ⟨b, 3, none⟩ (.int .i64 1)).setCell ⟨b, 5, none⟩ (.int .i64 (x : Int))) g b n s a (rgput r x) A0 c0 := by
  have h1 : UP w (W.setCell ⟨b, 3, none⟩ (.int .i64 1)) g b n s a (⟨1, r.pv, r.ga, r.gv, r.hd, r.tl, r.pl, r.puts, r.hd, r.have'⟩ : RGS) A0 c0 :=
    h.one 3 1 (fun hb => by have := hb.put 3 (.int .i64 1); simpa using this) rfl
  exact h1.one 5 (x : Int) (fun hb => by have := hb.put 5 (.int .i64 (x : Int)); simpa [rgput] using this) rfl
end
theorem errIs {c : Int} {w W : World} (hg : ErrVar w) (hb : Below w.heap.size w W) : Calls Tryd.prog 5 #[errV 47 c, .int .i64 c] W fun e w' => e = .returned (.bool true) ∧ Below W.heap.size W w' :=
  (errorIs_any c c W (hg.below hb hg.lt)).mono fun _ _ ⟨he, hx⟩ => ⟨he.trans (by rw [decide_eq_true rfl]), hx⟩
end Go.Proofs.YtihidjbepjeceaaDoor.Ring
