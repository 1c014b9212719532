/-
  The walk of latchgarthlaw3.SnapRow: what holds in each round.
-/
import Derived.Test.YtoaakonfofjamaaSnapRowM
import Derived.Deep.OwnRows
import Derived.Deep.AppendLies
namespace Go.Proofs.Ytoaakonfofjamaa.Snap
open Go.RowKit
theorem inB_any (z lo hi : Int) (w : World) : Calls Try.prog 7 #[.int .i64 z, .int .i64 lo, .int .i64 hi] w fun e w' => e = .returned (.bool (decide (lo ≤ z ∧ z ≤ hi))) ∧ w = w' := by
  by_cases h0 : lo ≤ z
  · by_cases h1 : z ≤ hi
    · rw [decide_eq_true (show lo ≤ z ∧ z ≤ hi from ⟨h0, h1⟩)]
      go_enter Try.func7, Try.ntmps7
      go_wp2
      go_ret
      exact ⟨rfl, rfl⟩
    · rw [decide_eq_false (show ¬ (lo ≤ z ∧ z ≤ hi) from fun h => h1 h.2)]
      go_enter Try.func7, Try.ntmps7
      go_wp2
      go_ret
      exact ⟨rfl, rfl⟩
  · rw [decide_eq_false (show ¬ (lo ≤ z ∧ z ≤ hi) from fun h => h0 h.1)]
    go_enter Try.func7, Try.ntmps7
    go_wp2
    go_ret
    exact ⟨rfl, rfl⟩
theorem inB_yes (z lo hi : Int) (h0 : lo ≤ z) (h1 : z ≤ hi) (w : World) : Calls Try.prog 7 #[.int .i64 z, .int .i64 lo, .int .i64 hi] w fun e w' => e = .returned (.bool true) ∧ w = w' := by
  have := inB_any z lo hi w
  rwa [decide_eq_true (show lo ≤ z ∧ z ≤ hi from ⟨h0, h1⟩)] at this
theorem inB_no (z lo hi : Int) (h : ¬ (lo ≤ z ∧ z ≤ hi)) (w : World) : Calls Try.prog 7 #[.int .i64 z, .int .i64 lo, .int .i64 hi] w fun e w' => e = .returned (.bool false) ∧ w = w' := by
  have := inB_any z lo hi w
  rwa [decide_eq_false h] at this
theorem Tbool_info : (Try.prog.info? 4).map (fun i => (i.zero, i.size, i.bytes)) = some (some (.bool false), 1, 1) := by kernel_rfl
theorem Tints_info : (Try.prog.info? 29).map (fun i => (i.zero, i.size, i.bytes)) = some (some (.slice none 0 0), 1, 24) := by kernel_rfl
theorem make_bools (k : Nat) (hk : k ≤ 1000) (w : World) : (Instr.makeSlice 30 (.int .i64 k) (.int .i64 k)).run Try.prog w = .ok (.slice (some ⟨w.heap.size, 0, none⟩) k k) (w.alloc (.cells (madeCells #[.bool false] k) 4)) :=
  run_make_row' 30 4 (.bool false) 1 Try.underlying30 Tbool_info rfl .i64 .i64 k (by omega) (by omega) w
theorem make_rows (k : Nat) (hk : k ≤ 1000) (w : World) : (Instr.makeSlice 22 (.int .i64 k) (.int .i64 k)).run Try.prog w = .ok (.slice (some ⟨w.heap.size, 0, none⟩) k k) (w.alloc (.cells (madeCells #[.slice none 0 0] k) 29)) :=
  run_make_row' 22 29 (.slice none 0 0) 24 Try.underlying22 Tints_info rfl .i64 .i64 k (by omega) (by omega) w
/-- All of the law's own memory, made. -/
def five (w : World) (n : Nat) : World := ((((w.alloc (.cells (madeCells #[.int .i64 0] n) 3)).alloc (.cells (madeCells #[.int .i64 0] n) 3)).alloc (.cells (madeCells #[.bool false] n) 4)).alloc (.cells (madeCells #[.int .i64 0] n) 3)).alloc (.cells (madeCells #[.slice none 0 0] n) 29)
theorem five_mr (w : World) (n : Nat) : MR (five w n) w.heap.size n (at4 (.slice none 0 0) (.slice none 0 0) (.slice none 0 0) (.slice none 0 0)) (.slice none 0 0) (fun _ => 0) (fun _ => 0) (fun _ => 0) (fun _ => false) (fun _ => none) [] (at4 [] [] [] []) := by
  have h1 := IRow.made w n
  have h2 := IRow.made (w.alloc (.cells (madeCells #[.int .i64 0] n) 3)) n
  have h3 := BRow.made ((w.alloc (.cells (madeCells #[.int .i64 0] n) 3)).alloc (.cells (madeCells #[.int .i64 0] n) 3)) n
  have h4 := IRow.made (((w.alloc (.cells (madeCells #[.int .i64 0] n) 3)).alloc (.cells (madeCells #[.int .i64 0] n) 3)).alloc (.cells (madeCells #[.bool false] n) 4)) n
  have h5 := Block.made ((((w.alloc (.cells (madeCells #[.int .i64 0] n) 3)).alloc (.cells (madeCells #[.int .i64 0] n) 3)).alloc (.cells (madeCells #[.bool false] n) 4)).alloc (.cells (madeCells #[.int .i64 0] n) 3)) 29 (madeCells #[.slice none 0 0] n)
  simp only [World.size_alloc] at h2 h3 h4 h5
  have t : ∀ (W : World) (o : Obj), Touch (fun _ => False) W (W.alloc o) := fun W o => (Touch.refl _ W).alloc o
  refine ⟨(((h1.alloc _).alloc _).alloc _).alloc _, ((h2.alloc _).alloc _).alloc _, (h3.touch (t _ _) fun h => h).touch (t _ _) fun h => h, h4.alloc _, ⟨_, h5, by simp [madeCells], fun p f _ hf => by cases hf⟩, RG.nil _ _, ⟨[], World.ownsRow_nil _ _ _ _, fun i f hf => by simp at hf⟩, fun k hk => by cases hk⟩
theorem five_below (w : World) (n : Nat) : Below w.heap.size w (five w n) := by
  unfold five
  exact (((((Below.refl _ w).alloc (Nat.le_refl _) _).alloc (by simp) _).alloc (by simp; omega) _).alloc (by simp; omega) _).alloc (by simp; omega) _
/-- What holds in round k. -/
def Inv (w wr : World) (g h n k : Nat) (vL vF vT : Value) : Prop :=
  ∃ (T : Nat) (s : SS) (Hh : Nat → Nat → Nat) (bt : Nat → Nat) (B Wt Sn : Nat → Int) (bl : Nat → Bool) (hd : Nat → Option (Nat → Nat)) (L : List (Nat → Nat)) (xF xT : List Int),
    T ≤ k ∧ LkAt w wr g n T s ∧ g < h ∧ MR wr h n (at4 vF vT (.slice none 0 0) (.slice none 0 0)) vL B Wt Sn bl hd L (at4 xF xT [] []) ∧ RS n k s Hh bt B Wt Sn bl hd L xF xT ∧ L.length ≤ k
theorem rs_small {n k T : Nat} {w wr : World} {g : Nat} {s : SS} {Hh : Nat → Nat → Nat} {bt : Nat → Nat} {B Wt Sn : Nat → Int} {bl : Nat → Bool} {hd : Nat → Option (Nat → Nat)} {L : List (Nat → Nat)} {xF xT : List Int} (r : RS n k s Hh bt B Wt Sn bl hd L xF xT) (l : LkAt w wr g n T s) (hT : T ≤ k) {p : Nat} (hp : p < n) :
    0 ≤ B p ∧ B p ≤ (k : Int) + 1 ∧ 0 ≤ Wt p ∧ Wt p ≤ k := by
  have h1 := l.ok.tn p hp
  rw [r.b p hp, r.wt p hp]
  split <;> omega
theorem Inv.skip {w wr wr' : World} {g h n k U : Nat} {s : SS} {vL vF vT : Value} {Hh : Nat → Nat → Nat} {bt : Nat → Nat} {B Wt Sn : Nat → Int} {bl : Nat → Bool} {hd : Nat → Option (Nat → Nat)} {L : List (Nat → Nat)} {xF xT : List Int}
    (hgh : g < h) (m : MR wr h n (at4 vF vT (.slice none 0 0) (.slice none 0 0)) vL B Wt Sn bl hd L (at4 xF xT [] [])) (r : RS n k s Hh bt B Wt Sn bl hd L xF xT) (hL : L.length ≤ k) (l : LkAt w wr' g n U s) (hU : U ≤ k + 1) (ht : Touch (fun k => k = g) wr wr') : Inv w wr' g h n (k + 1) vL vF vT :=
  ⟨U, s, _, _, _, _, _, _, _, _, _, _, hU, l, hgh, m.touch ht fun k hk => by have : k = g := hk; omega, r.skip, by omega⟩
/-- The numbers of a row, copied. -/
theorem had_made {W W' : World} {h n : Nat} {v : Nat → Value} {vL : Value} {B Wt Sn : Nat → Int} {bl : Nat → Bool} {hd : Nat → Option (Nat → Nat)} {L : List (Nat → Nat)} {x : Nat → List Int} (m : MR W h n v vL B Wt Sn bl hd L x) {o : Obj} {g k cap : Nat} {f : Nat → Nat} {ys : List Value}
    (hown : W'.ownsRow W.heap.size 3 1 (.slice (some ⟨g, 0, none⟩) k cap) k ys) (hk : k = n) (hy : ys = (List.range n).map fun q => .int .i64 ((f q : Nat) : Int)) (hg : (W.alloc o).grownBy W' (some W.heap.size)) :
    Touch (fun k => W.heap.size ≤ k) W W' ∧ MR W' h n v vL B Wt Sn bl hd L x ∧ Dt W' h n v vL (.slice (some ⟨g, 0, none⟩) k cap) f := by
  have ht : Touch (fun k => W.heap.size ≤ k) W W' := ((Touch.refl _ W).alloc o).grown hg fun k hk => Or.inl (by have := Option.some.inj hk; omega)
  have hb := hown.lt g rfl
  refine ⟨ht, m.touch ht fun k hk => Or.inr hk, g, 0, cap, by rw [hk], ⟨by have := m.lt; omega, fun e => by have := m.lklt e; omega, fun i hi e => by have := m.rg.lt hi e; omega⟩, hb.2, fun q hq => ?_⟩
  have h1 := hown.cells rfl q (.int .i64 ((f q : Nat) : Int)) (by rw [hy]; simp [hq])
  rw [Nat.zero_add]
  unfold Addr.add at h1
  split at h1
  · rename_i h3; subst h3; exact h1
  · simpa using h1
/-- What a hand is told, kept. -/
theorem told_dt {W0 W : World} {h n : Nat} {v : Nat → Value} {vL : Value} {B Wt Sn : Nat → Int} {bl : Nat → Bool} {hd : Nat → Option (Nat → Nat)} {L : List (Nat → Nat)} {x : Nat → List Int} (m : MR W0 h n v vL B Wt Sn bl hd L x) {u : Value} {f : Nat → Nat} (hn : 0 < n) (hu : Nums W W.heap.size u (lkS n f)) (hf : Fresh W0.heap.size u) :
    ∃ b o c, u = .slice (some ⟨b, o, none⟩) n c ∧ b < W.heap.size ∧ Lone h v vL b ∧ ∀ q, q < n → W.cell? ⟨b, o + q, none⟩ = some (.int .i64 (f q)) := by
  obtain ⟨A, c, e, -, h1⟩ := hu
  rw [lkS_len] at e h1
  obtain ⟨b, o, rfl, hb, hc⟩ := h1 hn
  have hB : W0.heap.size ≤ b := hf b (by rw [e]; rfl)
  refine ⟨b, o, c, e, hb, ⟨by have := m.lt; omega, fun e => by have := m.lklt e; omega, fun i hi e => by have := m.rg.lt hi e; omega⟩, fun q hq => hc q _ (by simp [lkS, hq])⟩
/-- Is one of the first numbers less? -/
def anyLt (f g : Nat → Nat) : Nat → Bool
  | 0 => false
  | q + 1 => anyLt f g q || decide (f q < g q)
theorem anyLt_iff {f g : Nat → Nat} : ∀ {n : Nat}, anyLt f g n = true ↔ ∃ q, q < n ∧ f q < g q := by
  intro n
  induction n with
  | zero => exact ⟨fun h => (by cases h), fun ⟨q, hq, _⟩ => absurd hq (Nat.not_lt_zero _)⟩
  | succ n ih =>
    unfold anyLt
    rw [Bool.or_eq_true, ih, decide_eq_true_iff]
    constructor
    · rintro (⟨q, h1, h2⟩ | h)
      · exact ⟨q, by omega, h2⟩
      · exact ⟨n, by omega, h⟩
    · rintro ⟨q, h1, h2⟩
      by_cases e : q = n
      · subst e; exact Or.inr h2
      · exact Or.inl ⟨q, by omega, h2⟩
section
variable {W W' : World} {h n : Nat} {a b c d vL : Value} {B Wt Sn : Nat → Int} {bl : Nat → Bool} {hd : Nat → Option (Nat → Nat)} {L : List (Nat → Nat)} {x0 x1 x2 x3 : List Int} {o : Obj} {g k cap : Nat} {z : Int} {ys : List Value}
theorem MR.app0 (m : MR W h n (at4 a b c d) vL B Wt Sn bl hd L (at4 x0 x1 x2 x3)) (hown : W'.ownsRow (h + 5) 3 1 (.slice (some ⟨g, 0, none⟩) k cap) k ys) (hk : k = x0.length + 1) (hy : ys = x0.map (Value.int .i64) ++ [.int .i64 z])
    (hg : (W.alloc o).grownBy W' a.ownBlock) (hat : a.ownBlock = some g ∨ g = W.heap.size + 1) : MR W' h n (at4 (.slice (some ⟨g, 0, none⟩) k cap) b c d) vL B Wt Sn bl hd L (at4 (x0 ++ [z]) x1 x2 x3) ∧ Touch (fun k => a.ownBlock = some k) W W' := by
  have := m.app (i := 0) (by omega) hown hk hy hg hat
  rwa [at4_0, at4_0] at this
theorem MR.app1 (m : MR W h n (at4 a b c d) vL B Wt Sn bl hd L (at4 x0 x1 x2 x3)) (hown : W'.ownsRow (h + 5) 3 1 (.slice (some ⟨g, 0, none⟩) k cap) k ys) (hk : k = x1.length + 1) (hy : ys = x1.map (Value.int .i64) ++ [.int .i64 z])
    (hg : (W.alloc o).grownBy W' b.ownBlock) (hat : b.ownBlock = some g ∨ g = W.heap.size + 1) : MR W' h n (at4 a (.slice (some ⟨g, 0, none⟩) k cap) c d) vL B Wt Sn bl hd L (at4 x0 (x1 ++ [z]) x2 x3) ∧ Touch (fun k => b.ownBlock = some k) W W' := by
  have := m.app (i := 1) (by omega) hown hk hy hg hat
  rwa [at4_1, at4_1] at this
end
theorem one_at {W : World} {e : TypeId} {u : Value} : ∀ (j : Nat) (x : Value), [u][j]? = some x → (W.alloc (.cells #[u] e)).cell? ((⟨W.heap.size, 0, none⟩ : Addr).add j) = some x := by
  intro j x hx
  match j, hx with
  | 0, hx =>
    rw [Addr.add_lit]
    have := (Block.made W e #[u]).cell 0
    rw [Nat.zero_add, this]
    simpa using hx
/-- Memory of the law's own turns. -/
theorem lk_own {w W W' : World} {g h n T : Nat} {s : SS} {O : Nat → Prop} (l : LkAt w W g n T s) (hgh : g < h) (ht : Touch O W W') (hO : ∀ k, O k → h + 5 ≤ k) : LkAt w W' g n T s :=
  l.touch ht fun k hk => by have := hO k hk; have := l.new; omega
end Go.Proofs.Ytoaakonfofjamaa.Snap
