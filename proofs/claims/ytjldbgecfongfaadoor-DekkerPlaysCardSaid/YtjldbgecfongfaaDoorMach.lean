/-
  The reference's machine: words, lines, own numbers, each a row by value; what set, word, to, goes answer.
-/
import Derived.Test.YtjldbgecfongfaaDoorRow
import Derived.Test.YtjldbgecfongfaaDoorTch
import Derived.Deep.QuietTactic
import Derived.BigQuiet
import Derived.LoopTactic
import Derived.Deep.RegionHeld3
import Derived.Laws.OwnMore
import Derived.IntWalk
namespace Go.Proofs.YtjldbgecfongfaaDoor
open Go.RowKit

theorem Tint.info : (Tryd.prog.info? 3).map (fun i => (i.zero, i.size, i.bytes)) = some (some (.int .i64 0), 1, 8) := by kernel_rfl

/-- A row of the call's own may be written. -/
theorem rowAt_of_own {w : World} {base e : Nat} {v : Value} {zs : List Int} (h : w.ownsRow base e 1 v zs.length (zs.map (Value.int .i64))) (h0 : 0 < zs.length) :
    ∃ g cap, v = .slice (some ⟨g, 0, none⟩) zs.length cap ∧ base ≤ g ∧ g < w.heap.size ∧ RowAt w g zs := by
  rcases h.2 with ⟨rfl, h1⟩ | ⟨g, cap, cur, rfl, hb, hh, hc, _, hsz, htk⟩
  · omega
  · have hg : g < w.heap.size := by
      rcases Nat.lt_or_ge g w.heap.size with h1 | h1
      · exact h1
      · rw [Array.getElem?_eq_none h1] at hh; cases hh
    have hB : Block w g e cur := hh
    refine ⟨g, cap, rfl, hb, hg, fun i z hz => ⟨?_, hB.free i⟩⟩
    rw [hB.cell i]
    have hi : i < zs.length := (List.getElem?_eq_some_iff.1 hz).1
    have h2 : (cur.toList.take (zs.length * 1))[i]? = some (.int .i64 z) := by rw [htk, List.getElem?_map, hz]; rfl
    rw [List.getElem?_take, if_pos (by omega)] at h2
    simpa using h2

/-- The slice value v has the numbers zs, in blocks of which P holds. -/
def NumsP (w : World) (P : Nat → Prop) (v : Value) (zs : List Int) : Prop :=
  ∃ A c, v = .slice A zs.length c ∧ zs.length ≤ 9223372036854775807 ∧
    (0 < zs.length → ∃ b o, A = some ⟨b, o, none⟩ ∧ P b ∧ ∀ (i : Nat) z, zs[i]? = some z → w.cell? ⟨b, o + i, none⟩ = some (.int .i64 z))
/-- The slice value v has the rows ls, in blocks of which P holds. -/
def RwsP (w : World) (P : Nat → Prop) (v : Value) (ls : List (List Int)) : Prop :=
  ∃ A c, v = .slice A ls.length c ∧ ls.length ≤ 9223372036854775807 ∧
    (0 < ls.length → ∃ b o, A = some ⟨b, o, none⟩ ∧ P b ∧ ∀ (i : Nat) l, ls[i]? = some l → ∃ u, w.cell? ⟨b, o + i, none⟩ = some u ∧ NumsP w P u l)
theorem NumsP.keep {w w' : World} {P P' : Nat → Prop} {v : Value} {zs : List Int} (h : NumsP w P v zs) (hP : ∀ b, P b → P' b) (hk : ∀ p : Addr, P p.block → w'.cell? p = w.cell? p) : NumsP w' P' v zs := by
  obtain ⟨A, c, e, hl, h⟩ := h
  refine ⟨A, c, e, hl, fun h0 => ?_⟩
  obtain ⟨b, o, e1, hb, hc⟩ := h h0
  exact ⟨b, o, e1, hP b hb, fun i z hz => (hk _ hb).trans (hc i z hz)⟩
theorem RwsP.keep {w w' : World} {P P' : Nat → Prop} {v : Value} {ls : List (List Int)} (h : RwsP w P v ls) (hP : ∀ b, P b → P' b) (hk : ∀ p : Addr, P p.block → w'.cell? p = w.cell? p) : RwsP w' P' v ls := by
  obtain ⟨A, c, e, hl, h⟩ := h
  refine ⟨A, c, e, hl, fun h0 => ?_⟩
  obtain ⟨b, o, e1, hb, hc⟩ := h h0
  refine ⟨b, o, e1, hP b hb, fun i l hi => ?_⟩
  obtain ⟨u, h1, h2⟩ := hc i l hi
  exact ⟨u, (hk _ hb).trans h1, h2.keep hP hk⟩
theorem NumsP.nums {w : World} {P : Nat → Prop} {B : Nat} {v : Value} {zs : List Int} (h : NumsP w P v zs) (hP : ∀ b, P b → b < B) : Nums w B v zs := h.keep (P' := (· < B)) hP fun _ _ => rfl
theorem Nums.numsP {w : World} {P : Nat → Prop} {B : Nat} {v : Value} {zs : List Int} (h : Nums w B v zs) (hP : ∀ b, b < B → P b) : NumsP w P v zs := NumsP.keep (P := (· < B)) h hP fun _ _ => rfl
theorem RowAt.numsP {w : World} {P : Nat → Prop} {g c n : Nat} {ys : List Int} (h : RowAt w g ys) (hn : ys.length = n) (hm : n ≤ 9223372036854775807) (hg : P g) : NumsP w P (.slice (some ⟨g, 0, none⟩) n c) ys := by
  subst hn
  exact ⟨_, _, rfl, hm, fun _ => ⟨g, 0, rfl, hg, fun i z hz => by rw [Nat.zero_add]; exact (h i z hz).1⟩⟩

theorem RowAt.far {w : World} {g : Nat} {ys : List Int} (h : RowAt w g ys) {p : Addr} (hp : p.block ≠ g) (u : Value) : RowAt (w.setCell p u) g ys :=
  fun i z hz => ⟨(World.cell?_setCell_other _ _ _ _ (fun e => hp (by rw [e]))).trans (h i z hz).1, by rw [World.frozen?_setCell]; exact (h i z hz).2⟩
theorem nums_cells {w : World} {b o : Nat} {xs : List Int} (h : ∀ (i : Nat) z, xs[i]? = some z → w.cell? ⟨b, o + i, none⟩ = some (.int .i64 z)) :
    ∀ (j : Nat) u, (xs.map (Value.int .i64))[j]? = some u → w.cell? ((⟨b, o, none⟩ : Addr).add j) = some u := fun j u hu => by
  rw [List.getElem?_map] at hu
  cases hx : xs[j]? with
  | none => rw [hx] at hu; cases hu
  | some z =>
    rw [hx] at hu
    have hu : Value.int .i64 z = u := Option.some.inj hu
    subst hu
    have := h j z hx
    unfold Addr.add
    by_cases h0 : j = 0
    · subst h0; simpa using this
    · simpa [h0] using this

set_option maxHeartbeats 1000000 in
theorem set_any (xs : List Int) (v : Value) (B : Nat) (i : Nat) (z : Int) (w : World) (h : Nums w B v xs) (hi : i < xs.length) (hl : xs.length ≤ 1000) :
    Calls Tryd.prog 20 #[v, .int .i64 i, .int .i64 z] w fun e w' => ∃ g cap, e = .returned (.slice (some ⟨g, 0, none⟩) xs.length cap) ∧ w.heap.size ≤ g ∧ g < w'.heap.size ∧ RowAt w' g (xs.set i z) ∧ Below w.heap.size w w' := by
  obtain ⟨i0, hi0, hz0, hz1, hz2⟩ := info_parts Tint.info
  obtain ⟨A, c, rfl, hlen, hcc⟩ := h
  obtain ⟨b, o, rfl, hb, hcell⟩ := hcc (by omega)
  have HC := Lib.hid (nums_cells hcell)
  clear hcc hcell
  go_enter Tryd.func20, Tryd.ntmps20
  go_wp2_with (at_builtin; refine wpList_append_own _ rfl (.tmp 8) (.tmp 9) 22 rfl w.heap.size 3 i0 (.int .i64 0) 1 8 Tryd.underlying22 hi0 hz0 hz1 hz2 rfl (by decide) _ _ _ rfl (World.ownsRow_nil _ _ _ _) ⟨b, o, none⟩ xs.length c (xs.map (Value.int .i64)) rfl (by simp) HC.out (by intro u hu; obtain ⟨z, _, rfl⟩ := List.mem_map.1 hu; rfl) (by unfold maxLen; omega) (by omega) (Nat.le_refl _) ?_; intro v' w3 hown3 hg3 _; have HO := Lib.hid (show w3.ownsRow w.heap.size 3 1 v' xs.length (xs.map (Value.int .i64)) by simpa using hown3); have HB3 := Lib.hid ((Below.refl w.heap.size w).grown hg3 (Nat.le_refl _) (fun q hq => by cases hq)); obtain ⟨g, cap, rfl, hbg, hgs, hra⟩ := rowAt_of_own HO.out (by omega); obtain ⟨x1, x2⟩ := hra.get hi; have HR := Lib.hid hra; have hiI : (i : Int) < xs.length := (by omega); clear hown3 hg3 hra)
  go_ret
  exact ⟨_, _, rfl, hbg, by simpa using hgs, HR.out.put i z, HB3.out.setCell hbg _⟩

/-- The machine v: so many hands, words ws, lines ls, own numbers os, in blocks of which P holds. -/
def Mc (w : World) (P : Nat → Prop) (n : Int) (v : Value) (ws ls : List Int) (os : List (List Int)) : Prop :=
  ∃ wv av ov, v = .agg #[.int .i64 n, wv, av, ov] ∧ NumsP w P wv ws ∧ NumsP w P av ls ∧ RwsP w P ov os
theorem Mc.keep {w w' : World} {P P' : Nat → Prop} {n : Int} {v : Value} {ws ls : List Int} {os : List (List Int)} (h : Mc w P n v ws ls os) (hP : ∀ b, P b → P' b) (hk : ∀ p : Addr, P p.block → w'.cell? p = w.cell? p) : Mc w' P' n v ws ls os := by
  obtain ⟨wv, av, ov, e, h1, h2, h3⟩ := h
  exact ⟨wv, av, ov, e, h1.keep hP hk, h2.keep hP hk, h3.keep hP hk⟩
/-- What is in new blocks, or in those that were. -/
def New (P : Nat → Prop) (w w' : World) (b : Nat) : Prop := P b ∨ (w.heap.size ≤ b ∧ b < w'.heap.size)
theorem New.lt {P : Nat → Prop} {w w' : World} (hP : ∀ b, P b → b < w.heap.size) (hs : w.heap.size ≤ w'.heap.size) : ∀ b, New P w w' b → b < w'.heap.size := fun b h => h.elim (fun h => Nat.lt_of_lt_of_le (hP b h) hs) fun h => h.2

/-- A machine that was boxed at block h, and room for the one that is told. -/
structure MBox (w V : World) (h : Nat) (n : Int) (x1 x2 x3 : Value) (ws ls : List Int) : Prop where
  one : Block V h 27 #[.int .i64 n, x1, x2, x3]
  two : Block V (h + 1) 27 #[.int .i64 0, .slice none 0 0, .slice none 0 0, .slice none 0 0]
  low : w.heap.size ≤ h
  below : Below w.heap.size w V
  ws : Nums V V.heap.size x1 ws
  ls : Nums V V.heap.size x2 ls
theorem MBox.made {n : Int} {x1 x2 x3 : Value} {ws ls : List Int} (w V : World) (h1 : Nums w w.heap.size x1 ws) (h2 : Nums w w.heap.size x2 ls)
    (hV : V = (w.alloc (.cells #[.int .i64 n, x1, x2, x3] 27)).alloc (.cells #[.int .i64 0, .slice none 0 0, .slice none 0 0, .slice none 0 0] 27)) :
    MBox w V w.heap.size n x1 x2 x3 ws ls := by
  have hb : Below w.heap.size w V := by rw [hV]; exact ((Below.refl _ _).alloc (Nat.le_refl _) _).alloc (by simp) _
  refine ⟨by rw [hV]; exact (Block.made w _ _).alloc _, ?_, Nat.le_refl _, hb, (h1.below hb (Nat.le_refl _)).more hb.size, (h2.below hb (Nat.le_refl _)).more hb.size⟩
  have := Block.made (w.alloc (.cells #[.int .i64 n, x1, x2, x3] 27)) 27 #[.int .i64 0, .slice none 0 0, .slice none 0 0, .slice none 0 0]
  rw [World.size_alloc, ← hV] at this
  exact this
theorem MBox.on {w V V' : World} {h : Nat} {n : Int} {x1 x2 x3 : Value} {ws ls : List Int} (m : MBox w V h n x1 x2 x3 ws ls) (hb : Below V.heap.size V V') : MBox w V' h n x1 x2 x3 ws ls :=
  ⟨m.one.below hb m.one.lt, m.two.below hb m.two.lt, m.low, m.below.trans (hb.mono m.below.size), (m.ws.below hb (Nat.le_refl _)).more hb.size, (m.ls.below hb (Nat.le_refl _)).more hb.size⟩
theorem MBox.cells {w V : World} {h : Nat} {n : Int} {x1 x2 x3 : Value} {ws ls : List Int} (m : MBox w V h n x1 x2 x3 ws ls) :
    V.cell? ⟨h, 0, none⟩ = some (.int .i64 n) ∧ V.cell? ⟨h, 1, none⟩ = some x1 ∧ V.cell? ⟨h, 2, none⟩ = some x2 ∧ V.cell? ⟨h, 3, none⟩ = some x3 :=
  ⟨(m.one.cell 0).trans rfl, (m.one.cell 1).trans rfl, (m.one.cell 2).trans rfl, (m.one.cell 3).trans rfl⟩
theorem MBox.room {w V : World} {h : Nat} {n : Int} {x1 x2 x3 : Value} {ws ls : List Int} (m : MBox w V h n x1 x2 x3 ws ls) :
    V.cell? ⟨h + 1, 0, none⟩ = some (.int .i64 0) ∧ V.cell? ⟨h + 1, 1, none⟩ = some (.slice none 0 0) ∧ V.cell? ⟨h + 1, 2, none⟩ = some (.slice none 0 0) ∧ V.cell? ⟨h + 1, 3, none⟩ = some (.slice none 0 0) :=
  ⟨(m.two.cell 0).trans rfl, (m.two.cell 1).trans rfl, (m.two.cell 2).trans rfl, (m.two.cell 3).trans rfl⟩
theorem MBox.frees {w V : World} {h : Nat} {n : Int} {x1 x2 x3 : Value} {ws ls : List Int} (m : MBox w V h n x1 x2 x3 ws ls) :
    V.frozen? ⟨h, 1, none⟩ = false ∧ V.frozen? ⟨h, 2, none⟩ = false ∧ V.frozen? ⟨h, 3, none⟩ = false ∧ V.frozen? ⟨h + 1, 0, none⟩ = false ∧ V.frozen? ⟨h + 1, 1, none⟩ = false ∧ V.frozen? ⟨h + 1, 2, none⟩ = false ∧ V.frozen? ⟨h + 1, 3, none⟩ = false :=
  ⟨m.one.free 1, m.one.free 2, m.one.free 3, m.two.free 0, m.two.free 1, m.two.free 2, m.two.free 3⟩

theorem MBox.told {w W : World} {h : Nat} {n : Int} {x1 x2 x3 : Value} {ws ls : List Int} (m : MBox w W h n x1 x2 x3 ws ls) (i : Nat) (x y1 y2 y3 : Value) :
    Block (((((W.setCell ⟨h, i, none⟩ x).setCell ⟨h + 1, 0, none⟩ (.int .i64 n)).setCell ⟨h + 1, 1, none⟩ y1).setCell ⟨h + 1, 2, none⟩ y2).setCell ⟨h + 1, 3, none⟩ y3) (h + 1) 27 #[.int .i64 n, y1, y2, y3] ∧
      Below w.heap.size w (((((W.setCell ⟨h, i, none⟩ x).setCell ⟨h + 1, 0, none⟩ (.int .i64 n)).setCell ⟨h + 1, 1, none⟩ y1).setCell ⟨h + 1, 2, none⟩ y2).setCell ⟨h + 1, 3, none⟩ y3) :=
  ⟨((((m.two.far (p := ⟨h, i, none⟩) (Nat.succ_ne_self h) x).put 0 _).put 1 _).put 2 _).put 3 _,
    ((((m.below.setCell m.low _).setCell (Nat.le_succ_of_le m.low) _).setCell (Nat.le_succ_of_le m.low) _).setCell (Nat.le_succ_of_le m.low) _).setCell (Nat.le_succ_of_le m.low) _⟩

set_option maxHeartbeats 2000000 in
theorem word_any (n : Int) (v : Value) (ws ls : List Int) (os : List (List Int)) (i : Nat) (z : Int) (w : World) {P : Nat → Prop} (hP : ∀ b, P b → b < w.heap.size) (h : Mc w P n v ws ls os) (hi : i < ws.length) (hl : ws.length ≤ 1000) :
    Calls Tryd.prog 15 #[v, .int .i64 i, .int .i64 z] w fun e w' => ∃ v', e = .returned v' ∧ Mc w' (New P w w') n v' (ws.set i z) ls os ∧ Below w.heap.size w w' := by
  obtain ⟨wv, av, ov, rfl, h1, h2, h3⟩ := h
  have HF := Lib.hid (MBox.made (x3 := ov) (n := n) w _ (h1.nums hP) (h2.nums hP) rfl)
  have H2 := Lib.hid h2
  have H3 := Lib.hid h3
  obtain ⟨A1, c1, rfl, hl1, _⟩ := h1
  obtain ⟨A2, c2, rfl, hl2, _⟩ := h2
  obtain ⟨A3, c3, rfl, hl3, _⟩ := h3
  go_enter Tryd.func15, Tryd.ntmps15
  go_wp2_with fail
  obtain ⟨V, hV⟩ : ∃ V, V = (w.alloc (.cells #[.int .i64 n, .slice A1 ws.length c1, .slice A2 ls.length c2, .slice A3 os.length c3] 27)).alloc (.cells #[.int .i64 0, .slice none 0 0, .slice none 0 0, .slice none 0 0] 27) := ⟨_, rfl⟩
  rw [← hV] at HF
  rw [← hV]
  obtain ⟨h, hh⟩ : ∃ h, h = w.heap.size := ⟨_, rfl⟩
  have HF' := Lib.hid (show MBox w V h n _ _ _ ws ls by rw [hh]; exact HF.out)
  rw [← hh]
  clear hV hh HF
  refine (set_any ws _ _ i z V HF'.out.ws hi hl).mono ?_
  rintro e w3 ⟨g, cap, rfl, hgv, hg3, hr, hb⟩
  have HR := Lib.hid hr
  have HG := Lib.hid (HF'.out.on hb)
  obtain ⟨y0, y1, y2, y3⟩ := HG.out.cells
  obtain ⟨x0, x1, x2, x3⟩ := HG.out.room
  obtain ⟨u0, u1, u2, u3, u4, u5, u6⟩ := HG.out.frees
  clear hb hr
  go_wp2
  have hf1 : h < g := Nat.lt_of_lt_of_le HF'.out.one.lt hgv
  have hf2 : h + 1 < g := Nat.lt_of_lt_of_le HF'.out.two.lt hgv
  obtain ⟨hB, hbel⟩ := HG.out.told 1 (.slice (some ⟨g, 0, none⟩) ws.length cap) (.slice (some ⟨g, 0, none⟩) ws.length cap) (.slice A2 ls.length c2) (.slice A3 os.length c3)
  have hR := ((((HR.out.far (p := ⟨h, 1, none⟩) (Nat.ne_of_lt hf1) (.slice (some ⟨g, 0, none⟩) ws.length cap)).far (p := ⟨h + 1, 0, none⟩) (Nat.ne_of_lt hf2) (.int .i64 n)).far (p := ⟨h + 1, 1, none⟩) (Nat.ne_of_lt hf2) (.slice (some ⟨g, 0, none⟩) ws.length cap)).far (p := ⟨h + 1, 2, none⟩) (Nat.ne_of_lt hf2) (.slice A2 ls.length c2)).far (p := ⟨h + 1, 3, none⟩) (Nat.ne_of_lt hf2) (.slice A3 os.length c3)
  exact bodyPost_ret (v := .agg #[.int .i64 n, .slice (some ⟨g, 0, none⟩) ws.length cap, .slice A2 ls.length c2, .slice A3 os.length c3]) (results_cell_row rfl _ _ (h + 1) 27 _ (0, 0) _ rfl hB Tryd.underlying27 rfl (by kernel_rfl)) rfl
    ⟨_, rfl, ⟨_, _, _, rfl, hR.numsP (by simp) hl1 (Or.inr ⟨Nat.le_trans HF'.out.below.size hgv, by simpa [World.setCell] using hg3⟩), H2.out.keep (fun _ => Or.inl) (fun _ hp => hbel.cell (hP _ hp)), H3.out.keep (fun _ => Or.inl) (fun _ hp => hbel.cell (hP _ hp))⟩, hbel⟩

set_option maxHeartbeats 2000000 in
theorem to_any (n : Int) (v : Value) (ws ls : List Int) (os : List (List Int)) (i : Nat) (z : Int) (w : World) {P : Nat → Prop} (hP : ∀ b, P b → b < w.heap.size) (h : Mc w P n v ws ls os) (hi : i < ls.length) (hl : ls.length ≤ 1000) :
    Calls Tryd.prog 14 #[v, .int .i64 i, .int .i64 z] w fun e w' => ∃ v', e = .returned v' ∧ Mc w' (New P w w') n v' ws (ls.set i z) os ∧ Below w.heap.size w w' := by
  obtain ⟨wv, av, ov, rfl, h1, h2, h3⟩ := h
  have HF := Lib.hid (MBox.made (x3 := ov) (n := n) w _ (h1.nums hP) (h2.nums hP) rfl)
  have H1 := Lib.hid h1
  have H3 := Lib.hid h3
  obtain ⟨A1, c1, rfl, hl1, _⟩ := h1
  obtain ⟨A2, c2, rfl, hl2, _⟩ := h2
  obtain ⟨A3, c3, rfl, hl3, _⟩ := h3
  go_enter Tryd.func14, Tryd.ntmps14
  go_wp2_with fail
  obtain ⟨V, hV⟩ : ∃ V, V = (w.alloc (.cells #[.int .i64 n, .slice A1 ws.length c1, .slice A2 ls.length c2, .slice A3 os.length c3] 27)).alloc (.cells #[.int .i64 0, .slice none 0 0, .slice none 0 0, .slice none 0 0] 27) := ⟨_, rfl⟩
  rw [← hV] at HF
  rw [← hV]
  obtain ⟨h, hh⟩ : ∃ h, h = w.heap.size := ⟨_, rfl⟩
  have HF' := Lib.hid (show MBox w V h n _ _ _ ws ls by rw [hh]; exact HF.out)
  rw [← hh]
  clear hV hh HF
  refine (set_any ls _ _ i z V HF'.out.ls hi hl).mono ?_
  rintro e w3 ⟨g, cap, rfl, hgv, hg3, hr, hb⟩
  have HR := Lib.hid hr
  have HG := Lib.hid (HF'.out.on hb)
  obtain ⟨y0, y1, y2, y3⟩ := HG.out.cells
  obtain ⟨x0, x1, x2, x3⟩ := HG.out.room
  obtain ⟨u0, u1, u2, u3, u4, u5, u6⟩ := HG.out.frees
  clear hb hr
  go_wp2
  have hf1 : h < g := Nat.lt_of_lt_of_le HF'.out.one.lt hgv
  have hf2 : h + 1 < g := Nat.lt_of_lt_of_le HF'.out.two.lt hgv
  obtain ⟨hB, hbel⟩ := HG.out.told 2 (.slice (some ⟨g, 0, none⟩) ls.length cap) (.slice A1 ws.length c1) (.slice (some ⟨g, 0, none⟩) ls.length cap) (.slice A3 os.length c3)
  have hR := ((((HR.out.far (p := ⟨h, 2, none⟩) (Nat.ne_of_lt hf1) (.slice (some ⟨g, 0, none⟩) ls.length cap)).far (p := ⟨h + 1, 0, none⟩) (Nat.ne_of_lt hf2) (.int .i64 n)).far (p := ⟨h + 1, 1, none⟩) (Nat.ne_of_lt hf2) (.slice A1 ws.length c1)).far (p := ⟨h + 1, 2, none⟩) (Nat.ne_of_lt hf2) (.slice (some ⟨g, 0, none⟩) ls.length cap)).far (p := ⟨h + 1, 3, none⟩) (Nat.ne_of_lt hf2) (.slice A3 os.length c3)
  exact bodyPost_ret (v := .agg #[.int .i64 n, .slice A1 ws.length c1, .slice (some ⟨g, 0, none⟩) ls.length cap, .slice A3 os.length c3]) (results_cell_row rfl _ _ (h + 1) 27 _ (0, 0) _ rfl hB Tryd.underlying27 rfl (by kernel_rfl)) rfl
    ⟨_, rfl, ⟨_, _, _, rfl, H1.out.keep (fun _ => Or.inl) (fun _ hp => hbel.cell (hP _ hp)), hR.numsP (by simp) hl2 (Or.inr ⟨Nat.le_trans HF'.out.below.size hgv, by simpa [World.setCell] using hg3⟩), H3.out.keep (fun _ => Or.inl) (fun _ hp => hbel.cell (hP _ hp))⟩, hbel⟩

theorem MBox.told0 {w W : World} {h : Nat} {n : Int} {x1 x2 x3 : Value} {ws ls : List Int} (m : MBox w W h n x1 x2 x3 ws ls) (y1 y2 y3 : Value) :
    Block ((((W.setCell ⟨h + 1, 0, none⟩ (.int .i64 n)).setCell ⟨h + 1, 1, none⟩ y1).setCell ⟨h + 1, 2, none⟩ y2).setCell ⟨h + 1, 3, none⟩ y3) (h + 1) 27 #[.int .i64 n, y1, y2, y3] ∧
      Below w.heap.size w ((((W.setCell ⟨h + 1, 0, none⟩ (.int .i64 n)).setCell ⟨h + 1, 1, none⟩ y1).setCell ⟨h + 1, 2, none⟩ y2).setCell ⟨h + 1, 3, none⟩ y3) :=
  ⟨(((m.two.put 0 _).put 1 _).put 2 _).put 3 _,
    (((m.below.setCell (Nat.le_succ_of_le m.low) _).setCell (Nat.le_succ_of_le m.low) _).setCell (Nat.le_succ_of_le m.low) _).setCell (Nat.le_succ_of_le m.low) _⟩
theorem MBox.mc {w V W : World} {h : Nat} {n : Int} {x1 x2 x3 : Value} {ws ls : List Int} {P : Nat → Prop} (hP : ∀ b, P b → b < w.heap.size) (m : MBox w V h n x1 x2 x3 ws ls) {v : Value} {ws' ls' : List Int} {os' : List (List Int)} (h' : Mc W (New P V W) n v ws' ls' os') (z : Int) (y1 y2 y3 : Value) :
    Mc ((((W.setCell ⟨h + 1, 0, none⟩ (.int .i64 z)).setCell ⟨h + 1, 1, none⟩ y1).setCell ⟨h + 1, 2, none⟩ y2).setCell ⟨h + 1, 3, none⟩ y3) (New P w ((((W.setCell ⟨h + 1, 0, none⟩ (.int .i64 z)).setCell ⟨h + 1, 1, none⟩ y1).setCell ⟨h + 1, 2, none⟩ y2).setCell ⟨h + 1, 3, none⟩ y3)) n v ws' ls' os' :=
  h'.keep (fun b hb => hb.elim Or.inl fun hb => Or.inr ⟨Nat.le_trans m.below.size hb.1, by simpa [World.setCell] using hb.2⟩) fun p hp => by
    have hne : ∀ i, p ≠ (⟨h + 1, i, none⟩ : Addr) := fun i e => by
      have h2 := m.two.lt
      have hp : New P V W (h + 1) := by rw [e] at hp; exact hp
      rcases hp with hp | hp
      · have h3 := hP _ hp
        have := m.low
        omega
      · exact absurd hp.1 (by omega)
    rw [World.cell?_setCell_other _ _ _ _ (fun e => hne 3 e.symm), World.cell?_setCell_other _ _ _ _ (fun e => hne 2 e.symm), World.cell?_setCell_other _ _ _ _ (fun e => hne 1 e.symm), World.cell?_setCell_other _ _ _ _ (fun e => hne 0 e.symm)]

theorem four_off (W : World) (g : Nat) (z y1 y2 y3 : Value) (p : Addr) (hp : p.block ≠ g) : ((((W.setCell ⟨g, 0, none⟩ z).setCell ⟨g, 1, none⟩ y1).setCell ⟨g, 2, none⟩ y2).setCell ⟨g, 3, none⟩ y3).cell? p = W.cell? p := by
  have hne : ∀ i, p ≠ (⟨g, i, none⟩ : Addr) := fun i e => hp (by rw [e])
  rw [World.cell?_setCell_other _ _ _ _ (fun e => hne 3 e.symm), World.cell?_setCell_other _ _ _ _ (fun e => hne 2 e.symm), World.cell?_setCell_other _ _ _ _ (fun e => hne 1 e.symm), World.cell?_setCell_other _ _ _ _ (fun e => hne 0 e.symm)]

set_option maxHeartbeats 2000000 in
theorem goes_any (n : Int) (v : Value) (ws ls : List Int) (os : List (List Int)) (i : Nat) (may : Bool) (z : Int) (w : World) {P : Nat → Prop} (hP : ∀ b, P b → b < w.heap.size) (h : Mc w P n v ws ls os) (hi : i < ls.length) (hl : ls.length ≤ 1000) (a : Int) (ha : ls[i]? = some a) (h0 : 0 ≤ a) (h1 : a ≤ 1000) :
    Calls Tryd.prog 16 #[v, .int .i64 i, .bool may, .int .i64 z] w fun e w' => ∃ v', e = .returned v' ∧ Mc w' (New P w w') n v' ws (ls.set i (if may then a + 1 else z)) os ∧ Below w.heap.size w w' := by
  have HM := Lib.hid h
  obtain ⟨wv, av, ov, rfl, k1, k2, k3⟩ := h
  have HF := Lib.hid (MBox.made (x3 := ov) (n := n) w _ (k1.nums hP) (k2.nums hP) rfl)
  have HP := Lib.hid hP
  obtain ⟨A1, c1, rfl, hl1, _⟩ := k1
  obtain ⟨A2, c2, rfl, hl2, k2⟩ := k2
  obtain ⟨A3, c3, rfl, hl3, _⟩ := k3
  obtain ⟨b, o, rfl, hpb, hcell⟩ := k2 (by omega)
  have hx := hcell i a ha
  have hbw := hP b hpb
  have hwr : IntKind.i64.wrap (a + 1) = a + 1 := IntWalk.i64_in _ (by omega)
  have hiI : (i : Int) < ls.length := by omega
  clear hcell k2 hP ha
  cases may
  · rw [show (if false = true then a + 1 else z) = z from rfl]
    go_enter Tryd.func16, Tryd.ntmps16
    go_wp2_with fail
    obtain ⟨V, hV⟩ : ∃ V, V = (w.alloc (.cells #[.int .i64 n, .slice A1 ws.length c1, .slice (some ⟨b, o, none⟩) ls.length c2, .slice A3 os.length c3] 27)).alloc (.cells #[.int .i64 0, .slice none 0 0, .slice none 0 0, .slice none 0 0] 27) := ⟨_, rfl⟩
    rw [← hV] at HF
    rw [← hV]
    obtain ⟨h, hh⟩ : ∃ h, h = w.heap.size := ⟨_, rfl⟩
    have HF' := Lib.hid (show MBox w V h n _ _ _ ws ls by rw [hh]; exact HF.out)
    rw [← hh]
    clear hV hh HF
    have hPV : ∀ b, P b → b < V.heap.size := fun b hb => Nat.lt_of_lt_of_le (HP.out b hb) HF'.out.below.size
    refine (to_any n _ ws ls os i z V hPV (HM.out.keep (fun _ h => h) (fun p hp => HF'.out.below.cell (HP.out _ hp))) hi hl).mono ?_
    rintro e w3 ⟨v', rfl, hm, hb⟩
    have HM3 := Lib.hid hm
    have HG := Lib.hid (HF'.out.on hb)
    obtain ⟨wv', av', ov', rfl, q1, q2, q3⟩ := hm
    obtain ⟨A4, c4, rfl, _, _⟩ := q1
    obtain ⟨A5, c5, rfl, _, _⟩ := q2
    obtain ⟨A6, c6, rfl, _, _⟩ := q3
    obtain ⟨x0, x1, x2, x3⟩ := HG.out.room
    obtain ⟨u0, u1, u2, u3, u4, u5, u6⟩ := HG.out.frees
    clear hb hPV
    go_wp2
    obtain ⟨hB, hbel⟩ := HG.out.told0 (.slice A4 ws.length c4) (.slice A5 (ls.set i z).length c5) (.slice A6 os.length c6)
    rw [List.length_set] at hB hbel
    have hmc := HF'.out.mc HP.out HM3.out n (.slice A4 ws.length c4) (.slice A5 (ls.set i z).length c5) (.slice A6 os.length c6)
    rw [List.length_set] at hmc
    exact bodyPost_ret (v := .agg #[.int .i64 n, .slice A4 ws.length c4, .slice A5 ls.length c5, .slice A6 os.length c6]) (results_cell_row rfl _ _ (h + 1) 27 _ (0, 0) _ rfl hB Tryd.underlying27 rfl (by kernel_rfl)) rfl
      ⟨_, rfl, hmc, hbel⟩
  · rw [show (if true = true then a + 1 else z) = a + 1 from rfl]
    go_enter Tryd.func16, Tryd.ntmps16
    go_wp2_with fail
    obtain ⟨V, hV⟩ : ∃ V, V = (w.alloc (.cells #[.int .i64 n, .slice A1 ws.length c1, .slice (some ⟨b, o, none⟩) ls.length c2, .slice A3 os.length c3] 27)).alloc (.cells #[.int .i64 0, .slice none 0 0, .slice none 0 0, .slice none 0 0] 27) := ⟨_, rfl⟩
    rw [← hV] at HF
    rw [← hV]
    obtain ⟨h, hh⟩ : ∃ h, h = w.heap.size := ⟨_, rfl⟩
    have HF' := Lib.hid (show MBox w V h n _ _ _ ws ls by rw [hh]; exact HF.out)
    rw [← hh]
    have hxV : V.cell? ⟨b, o + i, none⟩ = some (.int .i64 a) := (HF'.out.below.cell (p := ⟨b, o + i, none⟩) hbw).trans hx
    clear hV hh HF
    have HPV := Lib.hid (show ∀ b, P b → b < V.drew.heap.size from fun b hb => Nat.lt_of_lt_of_le (HP.out b hb) HF'.out.below.size)
    have HMV := Lib.hid (show Mc V.drew P n (.agg #[.int .i64 n, .slice A1 ws.length c1, .slice (some ⟨b, o, none⟩) ls.length c2, .slice A3 os.length c3]) ws ls os from HM.out.keep (fun _ h => h) (fun p hp => HF'.out.below.cell (HP.out _ hp)))
    obtain ⟨y0, y1, y2, y3⟩ := HF'.out.cells
    have HS := Lib.hid (show V.drew.cell? ⟨h, 0, none⟩ = some (.int .i64 n) ∧ V.drew.cell? ⟨h, 1, none⟩ = some (.slice A1 ws.length c1) ∧ V.drew.cell? ⟨h, 2, none⟩ = some (.slice (some ⟨b, o, none⟩) ls.length c2) ∧ V.drew.cell? ⟨h, 3, none⟩ = some (.slice A3 os.length c3) ∧ V.drew.cell? ⟨b, o + i, none⟩ = some (.int .i64 a) from ⟨y0, y1, y2, y3, hxV⟩)
    have HX := Lib.hid hxV
    have HBH := Lib.hid (show (⟨b, o + i, none⟩ : Addr).block ≠ h + 1 from Nat.ne_of_lt (Nat.lt_succ_of_lt (Nat.lt_of_lt_of_le hbw HF'.out.low)))
    clear y0 y1 y2 y3 hx hxV
    go_region_held3 (fun W => W.cell? ⟨h, 0, none⟩ = some (.int .i64 n) ∧ W.cell? ⟨h, 1, none⟩ = some (.slice A1 ws.length c1) ∧ W.cell? ⟨h, 2, none⟩ = some (.slice (some ⟨b, o, none⟩) ls.length c2) ∧ W.cell? ⟨h, 3, none⟩ = some (.slice A3 os.length c3) ∧ W.cell? ⟨b, o + i, none⟩ = some (.int .i64 a)) (first | exact HS.out | exact HS3.out | exact ⟨(four_off _ (h + 1) _ _ _ _ _ (Nat.ne_of_lt (Nat.lt_succ_self h))).trans HS3.out.1, (four_off _ (h + 1) _ _ _ _ _ (Nat.ne_of_lt (Nat.lt_succ_self h))).trans HS3.out.2.1, (four_off _ (h + 1) _ _ _ _ _ (Nat.ne_of_lt (Nat.lt_succ_self h))).trans HS3.out.2.2.1, (four_off _ (h + 1) _ _ _ _ _ (Nat.ne_of_lt (Nat.lt_succ_self h))).trans HS3.out.2.2.2.1, (four_off _ (h + 1) _ _ _ _ _ HBH.out).trans HS3.out.2.2.2.2⟩) ((go_at_call 14; refine (to_any n _ ws ls os i (a + 1) V.drew HPV.out HMV.out hi hl).mono ?_; rintro e w3 ⟨v', rfl, hm, hb⟩; have hb' := (show Below V.heap.size V w3 from (Below.refl V.heap.size V).drew.trans hb); have HM3 := Lib.hid (show Mc w3 (New P V w3) n v' ws (ls.set i (a + 1)) os from hm); have HG := Lib.hid (HF'.out.on hb'); obtain ⟨y0, y1, y2, y3⟩ := HG.out.cells; have HS3 := Lib.hid (show w3.cell? ⟨h, 0, none⟩ = some (.int .i64 n) ∧ w3.cell? ⟨h, 1, none⟩ = some (.slice A1 ws.length c1) ∧ w3.cell? ⟨h, 2, none⟩ = some (.slice (some ⟨b, o, none⟩) ls.length c2) ∧ w3.cell? ⟨h, 3, none⟩ = some (.slice A3 os.length c3) ∧ w3.cell? ⟨b, o + i, none⟩ = some (.int .i64 a) from ⟨y0, y1, y2, y3, (hb'.cell (p := ⟨b, o + i, none⟩) (Nat.lt_of_lt_of_le hbw HF'.out.below.size)).trans HX.out⟩); clear y0 y1 y2 y3; obtain ⟨wv', av', ov', rfl, q1, q2, q3⟩ := hm; obtain ⟨A4, c4, rfl, _, _⟩ := q1; obtain ⟨A5, c5, rfl, _, _⟩ := q2; obtain ⟨A6, c6, rfl, _, _⟩ := q3; obtain ⟨x0, x1, x2, x3⟩ := HG.out.room; obtain ⟨u0, u1, u2, u3, u4, u5, u6⟩ := HG.out.frees; clear hb hb'))
    all_goals
      go_wp2
      obtain ⟨hB, hbel⟩ := HG.out.told0 (.slice A4 ws.length c4) (.slice A5 (ls.set i (a + 1)).length c5) (.slice A6 os.length c6)
      rw [List.length_set] at hB hbel
      have hmc := HF'.out.mc HP.out HM3.out n (.slice A4 ws.length c4) (.slice A5 (ls.set i (a + 1)).length c5) (.slice A6 os.length c6)
      rw [List.length_set] at hmc
      exact bodyPost_ret (v := .agg #[.int .i64 n, .slice A4 ws.length c4, .slice A5 ls.length c5, .slice A6 os.length c6]) (results_cell_row rfl _ _ (h + 1) 27 _ (0, 0) _ rfl hB Tryd.underlying27 rfl (by kernel_rfl)) rfl
        ⟨_, rfl, hmc, hbel⟩
end Go.Proofs.YtjldbgecfongfaaDoor
