/-
  The reference's machine: words, lines, own numbers, each a row by value; what set, word, to, goes answer.
-/
import Derived.Test.YthainkgpafbjcaaDoorNumsP
import Derived.Test.YthainkgpafbjcaaDoorTch
import Derived.Deep.QuietTactic
import Derived.BigQuiet
import Derived.LoopTactic
import Derived.Deep.RegionHeld3
import Derived.Laws.OwnMore
import Derived.IntWalk
namespace Go.Proofs.YthainkgpafbjcaaDoor
open Go.RowKit

theorem Tint.info : (Tryd.prog.info? 3).map (fun i => (i.zero, i.size, i.bytes)) = some (some (.int .i64 0), 1, 8) := by kernel_rfl

/-- A row of the call's own may be written. -/
theorem rowAt_of_own {w : World} {base e : Nat} {v : Value} {zs : List Int} (h : w.ownsRow base e 1 v zs.length (zs.map (Value.int .i64))) (h0 : 0 < zs.length) :
    ∃ g cap, v = .slice (some ⟨g, 0, none⟩) zs.length cap ∧ base ≤ g ∧ g < w.heap.size ∧ RowAt w g zs := by
  rcases h.2 with ⟨rfl, h1⟩ | ⟨g, cap, cur, rfl, hb, hh, hc, _, hsz, htk⟩
  · omega
  · have hg : g < w.heap.size := by
      rcases Nat.lt_or_ge g w.heap.size with h1 | h1
      · exact h1
      · rw [Array.getElem?_eq_none h1] at hh; cases hh
    have hB : Block w g e cur := hh
    refine ⟨g, cap, rfl, hb, hg, fun i z hz => ⟨?_, hB.free i⟩⟩
    rw [hB.cell i]
    have hi : i < zs.length := (List.getElem?_eq_some_iff.1 hz).1
    have h2 : (cur.toList.take (zs.length * 1))[i]? = some (.int .i64 z) := by rw [htk, List.getElem?_map, hz]; rfl
    rw [List.getElem?_take, if_pos (by omega)] at h2
    simpa using h2

set_option maxHeartbeats 1000000 in
theorem set_any (xs : List Int) (v : Value) (B : Nat) (i : Nat) (z : Int) (w : World) (h : Nums w B v xs) (hi : i < xs.length) (hl : xs.length ≤ 1000) :
    Calls Tryd.prog 22 #[v, .int .i64 i, .int .i64 z] w fun e w' => ∃ g cap, e = .returned (.slice (some ⟨g, 0, none⟩) xs.length cap) ∧ w.heap.size ≤ g ∧ g < w'.heap.size ∧ RowAt w' g (xs.set i z) ∧ Below w.heap.size w w' := by
  obtain ⟨i0, hi0, hz0, hz1, hz2⟩ := info_parts Tint.info
  obtain ⟨A, c, rfl, hlen, hcc⟩ := h
  obtain ⟨b, o, rfl, hb, hcell⟩ := hcc (by omega)
  have HC := Lib.hid (nums_cells hcell)
  clear hcc hcell
  go_enter Tryd.func22, Tryd.ntmps22
  go_wp2_with (at_builtin; refine wpList_append_own _ rfl (.tmp 8) (.tmp 9) 22 rfl w.heap.size 3 i0 (.int .i64 0) 1 8 Tryd.underlying22 hi0 hz0 hz1 hz2 rfl (by decide) _ _ _ rfl (World.ownsRow_nil _ _ _ _) ⟨b, o, none⟩ xs.length c (xs.map (Value.int .i64)) rfl (by simp) HC.out (by intro u hu; obtain ⟨z, _, rfl⟩ := List.mem_map.1 hu; rfl) (by unfold maxLen; omega) (by omega) (Nat.le_refl _) ?_; intro v' w3 hown3 hg3 _; have HO := Lib.hid (show w3.ownsRow w.heap.size 3 1 v' xs.length (xs.map (Value.int .i64)) by simpa using hown3); have HB3 := Lib.hid ((Below.refl w.heap.size w).grown hg3 (Nat.le_refl _) (fun q hq => by cases hq)); obtain ⟨g, cap, rfl, hbg, hgs, hra⟩ := rowAt_of_own HO.out (by omega); obtain ⟨x1, x2⟩ := hra.get hi; have HR := Lib.hid hra; have hiI : (i : Int) < xs.length := (by omega); clear hown3 hg3 hra)
  go_ret
  exact ⟨_, _, rfl, hbg, by simpa using hgs, HR.out.put i z, HB3.out.setCell hbg _⟩

/-- The machine v: so many hands, words ws, lines ls, own numbers os, in blocks of which P holds. -/
def Mc (w : World) (P : Nat → Prop) (n : Int) (v : Value) (ws ls : List Int) (os : List (List Int)) : Prop :=
  ∃ wv av ov, v = .agg #[.int .i64 n, wv, av, ov] ∧ NumsP w P wv ws ∧ NumsP w P av ls ∧ RwsP w P ov os
theorem Mc.keep {w w' : World} {P P' : Nat → Prop} {n : Int} {v : Value} {ws ls : List Int} {os : List (List Int)} (h : Mc w P n v ws ls os) (hP : ∀ b, P b → P' b) (hk : ∀ p : Addr, P p.block → w'.cell? p = w.cell? p) : Mc w' P' n v ws ls os := by
  obtain ⟨wv, av, ov, e, h1, h2, h3⟩ := h
  exact ⟨wv, av, ov, e, h1.keep hP hk, h2.keep hP hk, h3.keep hP hk⟩
/-- What is in new blocks, or in those that were. -/
def New (P : Nat → Prop) (w w' : World) (b : Nat) : Prop := P b ∨ (w.heap.size ≤ b ∧ b < w'.heap.size)
theorem New.lt {P : Nat → Prop} {w w' : World} (hP : ∀ b, P b → b < w.heap.size) (hs : w.heap.size ≤ w'.heap.size) : ∀ b, New P w w' b → b < w'.heap.size := fun b h => h.elim (fun h => Nat.lt_of_lt_of_le (hP b h) hs) fun h => h.2

/-- A machine that was boxed at block h, and room for the one that is told. -/
structure MBox (w V : World) (h : Nat) (n : Int) (x1 x2 x3 : Value) (ws ls : List Int) : Prop where
  one : Block V h 31 #[.int .i64 n, x1, x2, x3]
  two : Block V (h + 1) 31 #[.int .i64 0, .slice none 0 0, .slice none 0 0, .slice none 0 0]
  low : w.heap.size ≤ h
  below : Below w.heap.size w V
  ws : Nums V V.heap.size x1 ws
  ls : Nums V V.heap.size x2 ls
theorem MBox.made {n : Int} {x1 x2 x3 : Value} {ws ls : List Int} (w V : World) (h1 : Nums w w.heap.size x1 ws) (h2 : Nums w w.heap.size x2 ls)
    (hV : V = (w.alloc (.cells #[.int .i64 n, x1, x2, x3] 31)).alloc (.cells #[.int .i64 0, .slice none 0 0, .slice none 0 0, .slice none 0 0] 31)) :
    MBox w V w.heap.size n x1 x2 x3 ws ls := by
  have hb : Below w.heap.size w V := by rw [hV]; exact ((Below.refl _ _).alloc (Nat.le_refl _) _).alloc (by simp) _
  refine ⟨by rw [hV]; exact (Block.made w _ _).alloc _, ?_, Nat.le_refl _, hb, (h1.below hb (Nat.le_refl _)).more hb.size, (h2.below hb (Nat.le_refl _)).more hb.size⟩
  have := Block.made (w.alloc (.cells #[.int .i64 n, x1, x2, x3] 31)) 31 #[.int .i64 0, .slice none 0 0, .slice none 0 0, .slice none 0 0]
  rw [World.size_alloc, ← hV] at this
  exact this
theorem MBox.on {w V V' : World} {h : Nat} {n : Int} {x1 x2 x3 : Value} {ws ls : List Int} (m : MBox w V h n x1 x2 x3 ws ls) (hb : Below V.heap.size V V') : MBox w V' h n x1 x2 x3 ws ls :=
  ⟨m.one.below hb m.one.lt, m.two.below hb m.two.lt, m.low, m.below.trans (hb.mono m.below.size), (m.ws.below hb (Nat.le_refl _)).more hb.size, (m.ls.below hb (Nat.le_refl _)).more hb.size⟩
theorem MBox.cells {w V : World} {h : Nat} {n : Int} {x1 x2 x3 : Value} {ws ls : List Int} (m : MBox w V h n x1 x2 x3 ws ls) :
    V.cell? ⟨h, 0, none⟩ = some (.int .i64 n) ∧ V.cell? ⟨h, 1, none⟩ = some x1 ∧ V.cell? ⟨h, 2, none⟩ = some x2 ∧ V.cell? ⟨h, 3, none⟩ = some x3 :=
  ⟨(m.one.cell 0).trans rfl, (m.one.cell 1).trans rfl, (m.one.cell 2).trans rfl, (m.one.cell 3).trans rfl⟩
theorem MBox.room {w V : World} {h : Nat} {n : Int} {x1 x2 x3 : Value} {ws ls : List Int} (m : MBox w V h n x1 x2 x3 ws ls) :
    V.cell? ⟨h + 1, 0, none⟩ = some (.int .i64 0) ∧ V.cell? ⟨h + 1, 1, none⟩ = some (.slice none 0 0) ∧ V.cell? ⟨h + 1, 2, none⟩ = some (.slice none 0 0) ∧ V.cell? ⟨h + 1, 3, none⟩ = some (.slice none 0 0) :=
  ⟨(m.two.cell 0).trans rfl, (m.two.cell 1).trans rfl, (m.two.cell 2).trans rfl, (m.two.cell 3).trans rfl⟩
theorem MBox.frees {w V : World} {h : Nat} {n : Int} {x1 x2 x3 : Value} {ws ls : List Int} (m : MBox w V h n x1 x2 x3 ws ls) :
    V.frozen? ⟨h, 1, none⟩ = false ∧ V.frozen? ⟨h, 2, none⟩ = false ∧ V.frozen? ⟨h, 3, none⟩ = false ∧ V.frozen? ⟨h + 1, 0, none⟩ = false ∧ V.frozen? ⟨h + 1, 1, none⟩ = false ∧ V.frozen? ⟨h + 1, 2, none⟩ = false ∧ V.frozen? ⟨h + 1, 3, none⟩ = false :=
  ⟨m.one.free 1, m.one.free 2, m.one.free 3, m.two.free 0, m.two.free 1, m.two.free 2, m.two.free 3⟩

theorem MBox.told {w W : World} {h : Nat} {n : Int} {x1 x2 x3 : Value} {ws ls : List Int} (m : MBox w W h n x1 x2 x3 ws ls) (i : Nat) (x y1 y2 y3 : Value) :
    Block (((((W.setCell ⟨h, i, none⟩ x).setCell ⟨h + 1, 0, none⟩ (.int .i64 n)).setCell ⟨h + 1, 1, none⟩ y1).setCell ⟨h + 1, 2, none⟩ y2).setCell ⟨h + 1, 3, none⟩ y3) (h + 1) 31 #[.int .i64 n, y1, y2, y3] ∧
      Below w.heap.size w (((((W.setCell ⟨h, i, none⟩ x).setCell ⟨h + 1, 0, none⟩ (.int .i64 n)).setCell ⟨h + 1, 1, none⟩ y1).setCell ⟨h + 1, 2, none⟩ y2).setCell ⟨h + 1, 3, none⟩ y3) :=
  ⟨((((m.two.far (p := ⟨h, i, none⟩) (Nat.succ_ne_self h) x).put 0 _).put 1 _).put 2 _).put 3 _,
    ((((m.below.setCell m.low _).setCell (Nat.le_succ_of_le m.low) _).setCell (Nat.le_succ_of_le m.low) _).setCell (Nat.le_succ_of_le m.low) _).setCell (Nat.le_succ_of_le m.low) _⟩

set_option maxHeartbeats 2000000 in
theorem word_any (n : Int) (v : Value) (ws ls : List Int) (os : List (List Int)) (i : Nat) (z : Int) (w : World) {P : Nat → Prop} (hP : ∀ b, P b → b < w.heap.size) (h : Mc w P n v ws ls os) (hi : i < ws.length) (hl : ws.length ≤ 1000) :
    Calls Tryd.prog 16 #[v, .int .i64 i, .int .i64 z] w fun e w' => ∃ v', e = .returned v' ∧ Mc w' (New P w w') n v' (ws.set i z) ls os ∧ Below w.heap.size w w' := by
  obtain ⟨wv, av, ov, rfl, h1, h2, h3⟩ := h
  have HF := Lib.hid (MBox.made (x3 := ov) (n := n) w _ (h1.nums hP) (h2.nums hP) rfl)
  have H2 := Lib.hid h2
  have H3 := Lib.hid h3
  obtain ⟨A1, c1, rfl, hl1, _⟩ := h1
  obtain ⟨A2, c2, rfl, hl2, _⟩ := h2
  obtain ⟨A3, c3, rfl, hl3, _⟩ := h3
  go_enter Tryd.func16, Tryd.ntmps16
  go_wp2_with fail
  obtain ⟨V, hV⟩ : ∃ V, V = (w.alloc (.cells #[.int .i64 n, .slice A1 ws.length c1, .slice A2 ls.length c2, .slice A3 os.length c3] 31)).alloc (.cells #[.int .i64 0, .slice none 0 0, .slice none 0 0, .slice none 0 0] 31) := ⟨_, rfl⟩
  rw [← hV] at HF
  rw [← hV]
  obtain ⟨h, hh⟩ : ∃ h, h = w.heap.size := ⟨_, rfl⟩
  have HF' := Lib.hid (show MBox w V h n _ _ _ ws ls by rw [hh]; exact HF.out)
  rw [← hh]
  clear hV hh HF
  refine (set_any ws _ _ i z V HF'.out.ws hi hl).mono ?_
  rintro e w3 ⟨g, cap, rfl, hgv, hg3, hr, hb⟩
  have HR := Lib.hid hr
  have HG := Lib.hid (HF'.out.on hb)
  obtain ⟨y0, y1, y2, y3⟩ := HG.out.cells
  obtain ⟨x0, x1, x2, x3⟩ := HG.out.room
  obtain ⟨u0, u1, u2, u3, u4, u5, u6⟩ := HG.out.frees
  clear hb hr
  go_wp2
  have hf1 : h < g := Nat.lt_of_lt_of_le HF'.out.one.lt hgv
  have hf2 : h + 1 < g := Nat.lt_of_lt_of_le HF'.out.two.lt hgv
  obtain ⟨hB, hbel⟩ := HG.out.told 1 (.slice (some ⟨g, 0, none⟩) ws.length cap) (.slice (some ⟨g, 0, none⟩) ws.length cap) (.slice A2 ls.length c2) (.slice A3 os.length c3)
  have hR := ((((HR.out.far (p := ⟨h, 1, none⟩) (Nat.ne_of_lt hf1) (.slice (some ⟨g, 0, none⟩) ws.length cap)).far (p := ⟨h + 1, 0, none⟩) (Nat.ne_of_lt hf2) (.int .i64 n)).far (p := ⟨h + 1, 1, none⟩) (Nat.ne_of_lt hf2) (.slice (some ⟨g, 0, none⟩) ws.length cap)).far (p := ⟨h + 1, 2, none⟩) (Nat.ne_of_lt hf2) (.slice A2 ls.length c2)).far (p := ⟨h + 1, 3, none⟩) (Nat.ne_of_lt hf2) (.slice A3 os.length c3)
  exact bodyPost_ret (v := .agg #[.int .i64 n, .slice (some ⟨g, 0, none⟩) ws.length cap, .slice A2 ls.length c2, .slice A3 os.length c3]) (results_cell_row rfl _ _ (h + 1) 31 _ (0, 0) _ rfl hB Tryd.underlying31 rfl (by kernel_rfl)) rfl
    ⟨_, rfl, ⟨_, _, _, rfl, hR.numsP (by simp) hl1 (Or.inr ⟨Nat.le_trans HF'.out.below.size hgv, by simpa [World.setCell] using hg3⟩), H2.out.keep (fun _ => Or.inl) (fun _ hp => hbel.cell (hP _ hp)), H3.out.keep (fun _ => Or.inl) (fun _ hp => hbel.cell (hP _ hp))⟩, hbel⟩

set_option maxHeartbeats 2000000 in
theorem to_any (n : Int) (v : Value) (ws ls : List Int) (os : List (List Int)) (i : Nat) (z : Int) (w : World) {P : Nat → Prop} (hP : ∀ b, P b → b < w.heap.size) (h : Mc w P n v ws ls os) (hi : i < ls.length) (hl : ls.length ≤ 1000) :
    Calls Tryd.prog 15 #[v, .int .i64 i, .int .i64 z] w fun e w' => ∃ v', e = .returned v' ∧ Mc w' (New P w w') n v' ws (ls.set i z) os ∧ Below w.heap.size w w' := by
  obtain ⟨wv, av, ov, rfl, h1, h2, h3⟩ := h
  have HF := Lib.hid (MBox.made (x3 := ov) (n := n) w _ (h1.nums hP) (h2.nums hP) rfl)
  have H1 := Lib.hid h1
  have H3 := Lib.hid h3
  obtain ⟨A1, c1, rfl, hl1, _⟩ := h1
  obtain ⟨A2, c2, rfl, hl2, _⟩ := h2
  obtain ⟨A3, c3, rfl, hl3, _⟩ := h3
  go_enter Tryd.func15, Tryd.ntmps15
  go_wp2_with fail
  obtain ⟨V, hV⟩ : ∃ V, V = (w.alloc (.cells #[.int .i64 n, .slice A1 ws.length c1, .slice A2 ls.length c2, .slice A3 os.length c3] 31)).alloc (.cells #[.int .i64 0, .slice none 0 0, .slice none 0 0, .slice none 0 0] 31) := ⟨_, rfl⟩
  rw [← hV] at HF
  rw [← hV]
  obtain ⟨h, hh⟩ : ∃ h, h = w.heap.size := ⟨_, rfl⟩
  have HF' := Lib.hid (show MBox w V h n _ _ _ ws ls by rw [hh]; exact HF.out)
  rw [← hh]
  clear hV hh HF
  refine (set_any ls _ _ i z V HF'.out.ls hi hl).mono ?_
  rintro e w3 ⟨g, cap, rfl, hgv, hg3, hr, hb⟩
  have HR := Lib.hid hr
  have HG := Lib.hid (HF'.out.on hb)
  obtain ⟨y0, y1, y2, y3⟩ := HG.out.cells
  obtain ⟨x0, x1, x2, x3⟩ := HG.out.room
  obtain ⟨u0, u1, u2, u3, u4, u5, u6⟩ := HG.out.frees
  clear hb hr
  go_wp2
  have hf1 : h < g := Nat.lt_of_lt_of_le HF'.out.one.lt hgv
  have hf2 : h + 1 < g := Nat.lt_of_lt_of_le HF'.out.two.lt hgv
  obtain ⟨hB, hbel⟩ := HG.out.told 2 (.slice (some ⟨g, 0, none⟩) ls.length cap) (.slice A1 ws.length c1) (.slice (some ⟨g, 0, none⟩) ls.length cap) (.slice A3 os.length c3)
  have hR := ((((HR.out.far (p := ⟨h, 2, none⟩) (Nat.ne_of_lt hf1) (.slice (some ⟨g, 0, none⟩) ls.length cap)).far (p := ⟨h + 1, 0, none⟩) (Nat.ne_of_lt hf2) (.int .i64 n)).far (p := ⟨h + 1, 1, none⟩) (Nat.ne_of_lt hf2) (.slice A1 ws.length c1)).far (p := ⟨h + 1, 2, none⟩) (Nat.ne_of_lt hf2) (.slice (some ⟨g, 0, none⟩) ls.length cap)).far (p := ⟨h + 1, 3, none⟩) (Nat.ne_of_lt hf2) (.slice A3 os.length c3)
  exact bodyPost_ret (v := .agg #[.int .i64 n, .slice A1 ws.length c1, .slice (some ⟨g, 0, none⟩) ls.length cap, .slice A3 os.length c3]) (results_cell_row rfl _ _ (h + 1) 31 _ (0, 0) _ rfl hB Tryd.underlying31 rfl (by kernel_rfl)) rfl
    ⟨_, rfl, ⟨_, _, _, rfl, H1.out.keep (fun _ => Or.inl) (fun _ hp => hbel.cell (hP _ hp)), hR.numsP (by simp) hl2 (Or.inr ⟨Nat.le_trans HF'.out.below.size hgv, by simpa [World.setCell] using hg3⟩), H3.out.keep (fun _ => Or.inl) (fun _ hp => hbel.cell (hP _ hp))⟩, hbel⟩

theorem MBox.told0 {w W : World} {h : Nat} {n : Int} {x1 x2 x3 : Value} {ws ls : List Int} (m : MBox w W h n x1 x2 x3 ws ls) (y1 y2 y3 : Value) :
    Block ((((W.setCell ⟨h + 1, 0, none⟩ (.int .i64 n)).setCell ⟨h + 1, 1, none⟩ y1).setCell ⟨h + 1, 2, none⟩ y2).setCell ⟨h + 1, 3, none⟩ y3) (h + 1) 31 #[.int .i64 n, y1, y2, y3] ∧
      Below w.heap.size w ((((W.setCell ⟨h + 1, 0, none⟩ (.int .i64 n)).setCell ⟨h + 1, 1, none⟩ y1).setCell ⟨h + 1, 2, none⟩ y2).setCell ⟨h + 1, 3, none⟩ y3) :=
  ⟨(((m.two.put 0 _).put 1 _).put 2 _).put 3 _,
    (((m.below.setCell (Nat.le_succ_of_le m.low) _).setCell (Nat.le_succ_of_le m.low) _).setCell (Nat.le_succ_of_le m.low) _).setCell (Nat.le_succ_of_le m.low) _⟩
theorem MBox.mc {w V W : World} {h : Nat} {n : Int} {x1 x2 x3 : Value} {ws ls : List Int} {P : Nat → Prop} (hP : ∀ b, P b → b < w.heap.size) (m : MBox w V h n x1 x2 x3 ws ls) {v : Value} {ws' ls' : List Int} {os' : List (List Int)} (h' : Mc W (New P V W) n v ws' ls' os') (z : Int) (y1 y2 y3 : Value) :
    Mc ((((W.setCell ⟨h + 1, 0, none⟩ (.int .i64 z)).setCell ⟨h + 1, 1, none⟩ y1).setCell ⟨h + 1, 2, none⟩ y2).setCell ⟨h + 1, 3, none⟩ y3) (New P w ((((W.setCell ⟨h + 1, 0, none⟩ (.int .i64 z)).setCell ⟨h + 1, 1, none⟩ y1).setCell ⟨h + 1, 2, none⟩ y2).setCell ⟨h + 1, 3, none⟩ y3)) n v ws' ls' os' :=
  h'.keep (fun b hb => hb.elim Or.inl fun hb => Or.inr ⟨Nat.le_trans m.below.size hb.1, by simpa [World.setCell] using hb.2⟩) fun p hp => by
    have hne : ∀ i, p ≠ (⟨h + 1, i, none⟩ : Addr) := fun i e => by
      have h2 := m.two.lt
      have hp : New P V W (h + 1) := by rw [e] at hp; exact hp
      rcases hp with hp | hp
      · have h3 := hP _ hp
        have := m.low
        omega
      · exact absurd hp.1 (by omega)
    rw [World.cell?_setCell_other _ _ _ _ (fun e => hne 3 e.symm), World.cell?_setCell_other _ _ _ _ (fun e => hne 2 e.symm), World.cell?_setCell_other _ _ _ _ (fun e => hne 1 e.symm), World.cell?_setCell_other _ _ _ _ (fun e => hne 0 e.symm)]

theorem four_off (W : World) (g : Nat) (z y1 y2 y3 : Value) (p : Addr) (hp : p.block ≠ g) : ((((W.setCell ⟨g, 0, none⟩ z).setCell ⟨g, 1, none⟩ y1).setCell ⟨g, 2, none⟩ y2).setCell ⟨g, 3, none⟩ y3).cell? p = W.cell? p := by
  have hne : ∀ i, p ≠ (⟨g, i, none⟩ : Addr) := fun i e => hp (by rw [e])
  rw [World.cell?_setCell_other _ _ _ _ (fun e => hne 3 e.symm), World.cell?_setCell_other _ _ _ _ (fun e => hne 2 e.symm), World.cell?_setCell_other _ _ _ _ (fun e => hne 1 e.symm), World.cell?_setCell_other _ _ _ _ (fun e => hne 0 e.symm)]

end Go.Proofs.YthainkgpafbjcaaDoor
