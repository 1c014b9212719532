/-
  Lists of numbers, each in memory of its own, collected in a slice of one's own.
-/
import Derived.Test.YthpnnmkpbkbanaaDoorReach
import Derived.Laws.OwnMore
import Derived.Great.BuildSlice
import Derived.Test.YthpnnmkpbkbanaaDoorRowAp
import Derived.RangeFuncCalls
import Derived.Test.YthpnnmkpbkbanaaDoorTold
namespace Go.Proofs.YthpnnmkpbkbanaaDoor
open Go.RowKit

theorem Tls.info : (Tryd.prog.info? 47).map (fun i => (i.zero, i.size, i.bytes)) = some (some (.slice none 0 0), 1, 24) := by kernel_rfl

section
variable {P : Program}
/-- append of one value of one cell to a slice of one's own: the block is the one that was, or a new one. -/
theorem run_append_one {w : World} (base : Nat) (t ty e : TypeId) (i : TypeInfo) (z : Value) (bytes : Nat) (ht : P.underlying t = some (.slice e)) (hi : P.info? e = some i) (hz : i.zero = some z)
    (hsize : i.size = 1) (hby : i.bytes = bytes) (hzs : z.cells.size = 1) (v : Value) (n : Nat) (xs : List Value) (hown : w.ownsRow base e 1 v n xs)
    (a : Addr) (c : Nat) (x : Value) (hx : w.cell? a = some x) (h1 : x.oneCell' = true) (h63 : n + 1 ≤ maxLen) (hbytes : (n + 1) * bytes ≤ 140737488355328) (hbase : base ≤ w.heap.size) :
    ∃ v' w', (Builtin.append_ #[t, t] ty #[v, .slice (some a) 1 c]).run P w = .ok v' w' ∧ w'.ownsRow base e 1 v' (n + 1) (xs ++ [x]) ∧ w.grownBy w' v.ownBlock ∧
      (v'.ownBlock = v.ownBlock ∨ ∃ k, v'.ownBlock = some k ∧ w.heap.size ≤ k) := by
  have hnews : ∀ (j : Nat) u, [x][j]? = some u → w.cell? (a.add j) = some u := by
    intro j u hj
    match j, hj with
    | 0, hj => simp at hj; subst hj; rw [show a.add 0 = a by unfold Addr.add; simp]; exact hx
  have hb : ∀ {v' : Value} {w' : World} {B : Nat} {ys : List Value}, w'.ownsRow B e 1 v' (n + 1) ys → ∃ k, v'.ownBlock = some k ∧ B ≤ k := fun h => by
    rcases h.2 with ⟨_, h0⟩ | ⟨g, cap, cur, rfl, hg, _⟩
    · omega
    · exact ⟨g, rfl, hg⟩
  have hup : ∀ {v' : Value} {w' : World} {ys : List Value}, w'.ownsRow w.heap.size e 1 v' (n + 1) ys → w'.ownsRow base e 1 v' (n + 1) ys := fun h => by
    refine ⟨h.1, ?_⟩
    rcases h.2 with h0 | ⟨g, cap, cur, r1, r2, r3⟩
    · exact Or.inl h0
    · exact Or.inr ⟨g, cap, cur, r1, Nat.le_trans hbase r2, r3⟩
  rcases hown.2 with ⟨rfl, h0⟩ | ⟨g, cap, cur, rfl, hg, hh, hnc, hcm, hsz, htk⟩
  · subst h0
    have hxs : xs = [] := List.eq_nil_of_length_eq_zero (by simpa using hown.1)
    subst hxs
    obtain ⟨v', w', hrun, ho, hgr, _⟩ := run_append_own (P := P) (ty := ty) w w.heap.size t e i z 1 bytes ht hi hz hsize hby hzs (by omega) (.slice none 0 0) 0 [] (World.ownsRow_nil w _ e 1) a 1 c [x] rfl hnews (by simpa using h1) h63 hbytes (Nat.le_refl _)
    exact ⟨v', w', hrun, hup ho, hgr, Or.inr (hb ho)⟩
  · by_cases hroom : n + 1 ≤ cap
    · obtain ⟨w', hrun, ho, hgr⟩ := run_append_fits (P := P) (ty := ty) w base t e i 1 ht hi hsize g n cap xs hown a 1 c [x] rfl hnews (by simpa using h1) hroom
      exact ⟨_, w', hrun, ho, hgr, Or.inl rfl⟩
    · obtain ⟨v', w', hrun, ho, hgr⟩ := run_append_arg_grows (P := P) w t ty e i z 1 bytes ht hi hz hsize hby hzs (by omega) ⟨g, 0, none⟩ n cap xs hown.1 (hown.cells rfl) a 1 c [x] rfl hnews (by omega) h63 hbytes
      exact ⟨v', w', hrun, hup ho, ⟨hgr.os, hgr.tape, hgr.output, hgr.size, fun k hk _ => hgr.block k hk (by simp)⟩, Or.inr (hb ho)⟩
end

theorem ownsRow_touch {O : Nat → Prop} {w w' : World} {base e size : Nat} {v : Value} {n : Nat} {xs : List Value} (h : w.ownsRow base e size v n xs) (ht : Touch O w w') (hn : ∀ k, v.ownBlock = some k → ¬ O k) : w'.ownsRow base e size v n xs := by
  refine ⟨h.1, ?_⟩
  rcases h.2 with h0 | ⟨g, cap, cur, rfl, r2, r3, r4⟩
  · exact Or.inl h0
  · exact Or.inr ⟨g, cap, cur, rfl, r2, (ht.block g (Array.getElem?_eq_some_iff.1 r3).1 (hn g rfl)).trans r3, r4⟩

/-- The slice value x has the numbers t, in a block of its own, beyond block pb. -/
def Tell (W : World) (pb : Nat) (x : Value) (t : List Int) : Prop := Nums W W.heap.size x t ∧ 0 < t.length ∧ ∃ k, x.ownBlock = some k ∧ pb < k ∧ k < W.heap.size ∧ Capd x
theorem Tell.cap {W : World} {pb : Nat} {x : Value} {t : List Int} (h : Tell W pb x t) : Capd x := by
  obtain ⟨_, _, _, _, _, _, h⟩ := h
  exact h
theorem Tell.touch {O : Nat → Prop} {W W' : World} {pb : Nat} {x : Value} {t : List Int} (h : Tell W pb x t) (ht : Touch O W W') (hn : ∀ k, x.ownBlock = some k → ¬ O k) : Tell W' pb x t := by
  obtain ⟨⟨A, c, rfl, hl, h⟩, h0, k, hk, h1, h2, h3⟩ := h
  obtain ⟨b, o, rfl, hb, hc⟩ := h h0
  have hs := ht.size
  exact ⟨⟨_, c, rfl, hl, fun _ => ⟨b, o, rfl, by omega, fun i z hz => (ht.cell (p := ⟨b, o + i, none⟩) hb (hn b rfl)).trans (hc i z hz)⟩⟩, h0, k, hk, h1, by omega, h3⟩
theorem Tell.one {W : World} {pb : Nat} {x : Value} {t : List Int} (h : Tell W pb x t) : x.oneCell' = true := by
  obtain ⟨⟨A, c, rfl, _⟩, _⟩ := h
  rfl

def toldsOf (words : Int) (hs : List (List Ln)) (pre : List (List Int)) : List (List Int) := (pre.filter (endB hs)).map (toldOf hs words)
theorem toldsOf_yes {words : Int} {hs : List (List Ln)} {pre : List (List Int)} {z : List Int} (h : endB hs z = true) : toldsOf words hs (pre ++ [z]) = toldsOf words hs pre ++ [toldOf hs words z] := by simp [toldsOf, h]
theorem toldsOf_no {words : Int} {hs : List (List Ln)} {pre : List (List Int)} {z : List Int} (h : endB hs z = false) : toldsOf words hs (pre ++ [z]) = toldsOf words hs pre := by simp [toldsOf, h]
theorem toldsOf_length {words : Int} {hs : List (List Ln)} {pre : List (List Int)} : (toldsOf words hs pre).length ≤ pre.length := by rw [toldsOf, List.length_map]; exact List.length_filter_le ..

/-- The values xs, one by one, have the lists ts; none lies in v's own block. -/
def RowsOf (W : World) (pb : Nat) (ts : List (List Int)) (xs : List Value) (v : Value) : Prop :=
  xs.length = ts.length ∧ ∀ (i : Nat) x t, xs[i]? = some x → ts[i]? = some t → Tell W pb x t ∧ ∀ k, x.ownBlock = some k → v.ownBlock ≠ some k

/-- What the rounds own. -/
def ResO (ob : Nat) (v : Value) (xs : List Value) (k : Nat) : Prop := k = ob ∨ v.ownBlock = some k ∨ ∃ x ∈ xs, x.ownBlock = some k

/-- Where a walk over all states stands, in sc.Results. -/
def ResV (w : World) (words : Int) (hv : Value) (hs : List (List Ln)) (pb ob : Nat) (ts : List (List Int)) (v : Value) (xs : List Value) (W : World) : Prop :=
  Block W w.heap.size 24 #[.int .i64 words, hv] ∧ PMem W pb w.heap.size words hv hs ∧ Below w.heap.size w W ∧ (w.heap.size < ob ∧ ob < pb ∧ pb < W.heap.size) ∧
  Block W ob 26 #[v] ∧ W.ownsRow (pb + 1) 47 1 v xs.length xs ∧ RowsOf W pb ts xs v
def ResI (w : World) (words : Int) (hv : Value) (hs : List (List Ln)) (pb ob : Nat) (pre : List (List Int)) (O : Nat → Prop) (W : World) : Prop :=
  ∃ v xs, O = ResO ob v xs ∧ ResV w words hv hs pb ob (toldsOf words hs pre) v xs W

section
variable {w : World} {words : Int} {hv : Value} {hs : List (List Ln)} {pb ob : Nat} {ts : List (List Int)} {v : Value} {xs : List Value} {W W' : World}
theorem ResV.mem (h : ResV w words hv hs pb ob ts v xs W) (k : Nat) (hk : ResO ob v xs k) : (w.heap.size + 1 ≤ k ∧ k ≠ pb) ∧ k < W.heap.size := by
  obtain ⟨_, _, _, h4, h5, h6, h7⟩ := h
  rcases hk with rfl | hk | ⟨x, hx, hk⟩
  · exact ⟨⟨by omega, by omega⟩, by omega⟩
  · have := h6.lt k hk
    exact ⟨⟨by omega, by omega⟩, by omega⟩
  · obtain ⟨i, hi, rfl⟩ := List.getElem_of_mem hx
    obtain ⟨⟨_, _, k', hk', h1, h2, _⟩, _⟩ := h7.2 i _ (ts[i]'(by rw [← h7.1]; exact hi)) (List.getElem?_eq_getElem hi) (List.getElem?_eq_getElem (by rw [← h7.1]; exact hi))
    rw [hk] at hk'
    obtain rfl := Option.some.inj hk'
    exact ⟨⟨by omega, by omega⟩, by omega⟩
theorem ResV.touch {O' : Nat → Prop} (h : ResV w words hv hs pb ob ts v xs W) (ht : Touch O' W W') (hn : ∀ k, ResO ob v xs k → ¬ O' k) (ho : ∀ k, O' k → w.heap.size + 1 ≤ k ∧ k ≠ pb) : ResV w words hv hs pb ob ts v xs W' := by
  obtain ⟨h1, h2, h3, h4, h5, h6, h7⟩ := h
  have hs' := ht.size
  refine ⟨h1.touch ht fun h => by have := ho _ h; omega, h2.touch ht h3.size fun i hi => by have := ho _ hi; omega, h3.trans (ht.below h3.size fun i hi => by have := ho _ hi; omega), by omega, h5.touch ht (hn _ (Or.inl rfl)), ownsRow_touch h6 ht fun k hk => hn k (Or.inr (Or.inl hk)), h7.1, fun i x t hx hts => ?_⟩
  obtain ⟨h8, h9⟩ := h7.2 i x t hx hts
  exact ⟨h8.touch ht fun k hk => hn k (Or.inr (Or.inr ⟨x, List.mem_of_getElem? hx, hk⟩)), h9⟩
theorem ResI.owns (pre : List (List Int)) : Owns (fun k => w.heap.size + 1 ≤ k ∧ k ≠ pb) (ResI w words hv hs pb ob pre) :=
  ⟨fun O O' A A' ⟨v, xs, hO, h⟩ ht hn ho => ⟨v, xs, hO, h.touch ht (fun k hk => hn k (by rw [hO]; exact hk)) ho⟩, fun O A ⟨v, xs, hO, h⟩ k hk => (h.mem k (by rw [← hO]; exact hk)).2⟩

/-- One more list comes in. -/
theorem ResV.more (h : ResV w words hv hs pb ob ts v xs W) (hlen : xs.length < 1073741824) {x : Value} {t : List Int} {wT : World} (hb : Below W.heap.size W wT) (hx : Nums wT wT.heap.size x t) (ht0 : 0 < t.length) (hf : ∀ k, x.ownBlock = some k → W.heap.size ≤ k) (hcap : Capd x) :
    ∃ v' w', (Builtin.append_ #[26, 26] 26 #[v, .slice (some ⟨wT.heap.size, 0, none⟩) 1 1]).run Tryd.prog (wT.alloc (.cells #[x] 47)) = .ok v' w' ∧ Block w' ob 26 #[v] ∧ v'.oneCell' = true ∧
      ResV w words hv hs pb ob (ts ++ [t]) v' (xs ++ [x]) (w'.setRow ob #[v']) ∧ Touch (ResO ob v xs) W (w'.setRow ob #[v']) ∧ ∀ k, ResO ob v' (xs ++ [x]) k → ResO ob v xs k ∨ W.heap.size ≤ k := by
  have h0 := h
  obtain ⟨h1, h2, h3, h4, h5, h6, h7⟩ := h
  obtain ⟨i0, hi, hz0, hz1, hz2⟩ := info_parts Tls.info
  have hsT := hb.size
  have hT1 : Touch (fun _ => False) W wT := Touch.of_below hb fun i a b => by omega
  have hTA : Touch (fun _ => False) W (wT.alloc (.cells #[x] 47)) := hT1.alloc _
  have hxf : ∃ b, x.ownBlock = some b ∧ b < wT.heap.size := by
    obtain ⟨A, c, rfl, _, hxx⟩ := hx
    obtain ⟨b, o, rfl, hb, _⟩ := hxx ht0
    exact ⟨b, rfl, hb⟩
  obtain ⟨xb, hxb, hxl⟩ := hxf
  have hxw := hf xb hxb
  have hx1 : x.oneCell' = true := by
    obtain ⟨A, c, rfl, _⟩ := hx
    rfl
  have hTell : Tell wT pb x t := ⟨hx, ht0, xb, hxb, by omega, hxl, hcap⟩
  have hvA := h0.touch hTA (fun _ _ h => h) (fun _ h => h.elim)
  have hcell : (wT.alloc (.cells #[x] 47)).cell? ⟨wT.heap.size, 0, none⟩ = some x := (Block.made wT 47 #[x]).cell 0
  have hvsz : ∀ k, v.ownBlock = some k → k < W.heap.size := fun k hk => (h6.lt k hk).2
  obtain ⟨v', w', hrun, hown, hg, hblk⟩ := run_append_one (P := Tryd.prog) (pb + 1) 26 26 47 i0 _ 24 Tryd.underlying26 hi hz0 hz1 hz2 rfl v xs.length xs hvA.2.2.2.2.2.1 ⟨wT.heap.size, 0, none⟩ 1 x hcell hx1 (by unfold maxLen; omega) (by omega) (by simp; omega)
  have hTG : Touch (fun k => v.ownBlock = some k) (wT.alloc (.cells #[x] 47)) w' := ⟨hg.os, hg.tape, hg.output, hg.size, fun k hk hn => hg.block k hk fun e => hn e.symm⟩
  have hsG := hTG.size
  simp only [World.size_alloc] at hsG
  have hob : ∀ k, v.ownBlock = some k → k ≠ ob := fun k hk => by have := (h6.lt k hk).1; omega
  have hBo : Block w' ob 26 #[v] := hvA.2.2.2.2.1.touch hTG fun e => hob ob e rfl
  have hv'k : ∀ k, v'.ownBlock = some k → v.ownBlock = some k ∨ wT.heap.size + 1 ≤ k := fun k hk => by
    rcases hblk with h | ⟨k', hk', h⟩
    · exact Or.inl (h ▸ hk)
    · rw [hk] at hk'
      obtain rfl := Option.some.inj hk'
      exact Or.inr (by simpa using h)
  have hv1 : v'.oneCell' = true := by
    rcases hown.2 with ⟨rfl, _⟩ | ⟨_, _, _, rfl, _⟩ <;> rfl
  have hv'o : ∀ k, v'.ownBlock = some k → k ≠ ob := fun k hk => by
    rcases hv'k k hk with h | h
    · exact hob k h
    · omega
  have hTS : Touch (fun k => k = ob) w' (w'.setRow ob #[v']) := (Touch.refl (fun k => k = ob) w').setRow (Or.inl rfl) _
  have hTall : Touch (ResO ob v xs) W (w'.setRow ob #[v']) :=
    ((hTA.mono (O' := ResO ob v xs) fun _ h => h.elim).trans hTG fun k hk => Or.inl (Or.inr (Or.inl hk))).trans hTS fun k hk => Or.inl (Or.inl hk)
  refine ⟨v', w', hrun, hBo, hv1, ⟨?_, ?_, ?_, ?_, setRow_heap _ _ _ _ _ _ hBo, ?_, ?_⟩, hTall, ?_⟩
  · exact h1.touch hTall fun hk => by have := (h0.mem _ hk).1; omega
  · exact h2.touch hTall h3.size fun i hi => by have := (h0.mem _ hi).1; omega
  · exact h3.trans (hTall.below h3.size fun i hi => by have := (h0.mem _ hi).1; omega)
  · have := hTall.size; omega
  · rw [List.length_append]
    exact ownsRow_touch hown hTS hv'o
  · refine ⟨by simp [h7.1], fun i y s hy hsx => ?_⟩
    have hfin : ∀ {y : Value} {s : List Int}, Tell wT pb y s → (∀ k, y.ownBlock = some k → v.ownBlock ≠ some k ∧ k ≠ ob) → Tell (w'.setRow ob #[v']) pb y s := fun hy hd =>
      ((hy.touch ((Touch.refl (fun _ => False) wT).alloc (.cells #[x] 47)) fun _ _ h => h).touch hTG fun k hk => (hd k hk).1).touch hTS fun k hk => (hd k hk).2
    rcases Nat.lt_or_ge i xs.length with h | h
    · rw [List.getElem?_append_left h] at hy
      rw [List.getElem?_append_left (by rw [← h7.1]; exact h)] at hsx
      obtain ⟨h8, h9⟩ := h7.2 i y s hy hsx
      have h8' := h8
      obtain ⟨_, _, k, hk, hk1, hk2, _⟩ := h8'
      refine ⟨hfin (h8.touch hT1 fun _ _ h => h) fun k' hk' => ⟨h9 k' hk', ?_⟩, fun k' hk' => ?_⟩
      · rw [hk] at hk'
        obtain rfl := Option.some.inj hk'
        omega
      · rw [hk] at hk'
        obtain rfl := Option.some.inj hk'
        intro e
        rcases hv'k _ e with h | h
        · exact h9 _ hk h
        · omega
    · rw [List.getElem?_append_right h] at hy
      rw [List.getElem?_append_right (by rw [← h7.1]; exact h)] at hsx
      have hi : i = xs.length := by have := (List.getElem?_eq_some_iff.1 hy).1; simp at this; omega
      subst hi
      simp at hy
      rw [h7.1] at hsx
      simp at hsx
      subst hy
      subst hsx
      refine ⟨hfin hTell fun k' hk' => ?_, fun k' hk' => ?_⟩
      · rw [hxb] at hk'
        obtain rfl := Option.some.inj hk'
        exact ⟨fun e => by have := hvsz _ e; omega, by omega⟩
      · rw [hxb] at hk'
        obtain rfl := Option.some.inj hk'
        intro e
        rcases hv'k _ e with h | h
        · have := hvsz _ h; omega
        · omega
  · rintro k (rfl | hk | ⟨y, hy, hk⟩)
    · exact Or.inl (Or.inl rfl)
    · rcases hv'k k hk with h | h
      · exact Or.inl (Or.inr (Or.inl h))
      · exact Or.inr (by omega)
    · rcases List.mem_append.1 hy with h | h
      · exact Or.inl (Or.inr (Or.inr ⟨y, h, hk⟩))
      · rw [List.mem_singleton.1 h] at hk
        exact Or.inr (hf k hk)
end

/-! ### One operation of a region that draws, inside a round -/
section
variable {P : Program} {l : Nat} {ops : Array Oper} {o : Oper} {a : Act} {w : World} {K : Act → World → Prop} {Q : Exit → Act → World → Prop} {E : Prop}
theorem opIn_value (hg : o.guard = none) (hnd : ∀ c, o.op ≠ .defer c) (hab : o.about P w a.eval = none) {v : Value} {w' : World} (hrun : (execOp a.eval o).run P w = .ok (.value v) w') (h : K (a.put o.dst v) w') :
    if Region.wanted o (yielded ops a.tmps) = true then Oper.wpIn (Fence.wide.inRound l) 0 P o a w K Q else E := by
  have hw : Region.wanted o (yielded ops a.tmps) = true := by simp [Region.wanted, hg]
  rw [if_pos hw]
  unfold Oper.wpIn
  refine ⟨(by rw [hab]; intro f hf; cases hf), ?_⟩
  rw [Oper.semAt_plain _ _ _ hnd, hrun]
  exact h
theorem opIn_load_row (hg : o.guard = none) (ty : TypeId) (x : Operand) (ho : o.op = .load ty x)
    (g : Nat) (hx : a.eval x = .pointer (some ⟨g, 0, none⟩)) (t : TypeId) (cs : Array Value) (fr : Nat × Nat) (d : TypeDesc) (hgd : w.heap[g]? = some (.cells cs t fr))
    (hu : P.underlying ty = some d) (hd : (match d with | .struct _ | .array _ _ => true | _ => false) = true) (hi : (P.info? ty).map (·.size) = some cs.size) (h : K (a.put o.dst (.agg cs)) w) :
    if Region.wanted o (yielded ops a.tmps) = true then Oper.wpIn (Fence.wide.inRound l) 0 P o a w K Q else E := by
  refine opIn_value hg (by rw [ho]; intro c hc; cases hc) (by simp [Oper.about, ho]) (v := .agg cs) (w' := w) ?_ h
  unfold execOp
  simp only [ho, hx, Instr.loadAt, Instr.sureAddr, Sem.run_bind, Sem.run_pure, Result.andThen_ok, run_loadVar_row w g t ty cs fr d hgd hu hd hi]
theorem opIn_load_one (hg : o.guard = none) (ty : TypeId) (x : Operand) (ho : o.op = .load ty x) (p : Addr) (hx : a.eval x = .pointer (some p)) (v : Value)
    (hagg : (isAgg ty).run P w = .ok false w) (hc : w.cell? p = some v) (h : K (a.put o.dst v) w) :
    if Region.wanted o (yielded ops a.tmps) = true then Oper.wpIn (Fence.wide.inRound l) 0 P o a w K Q else E := by
  refine opIn_value hg (by rw [ho]; intro c hc; cases hc) (by simp [Oper.about, ho]) (v := v) (w' := w) ?_ h
  unfold execOp
  simp [ho, hx, Instr.loadAt, Instr.sureAddr, Sem.run_bind, Result.andThen_ok, loadVar, hagg, run_load, hc]
theorem opIn_buildSlice (hg : o.guard = none) (t e : TypeId) (len : Nat) (parts : Array (Nat × Operand)) (ho : o.op = .buildSlice t len parts) (cells : Array Value) (ie : TypeInfo) (z : Value)
    (hu : P.underlying t = some (.slice e)) (hie : P.info? e = some ie) (hz : ie.zero = some z) (hsmall : ¬ len * ie.size > 2 ^ 24) (hpos : ¬ len * ie.size = 0)
    (hf : Instr.fill (fun i => some (i * ie.size, ie.size)) ((Array.range (len * ie.size)).map (z.cells[· % z.cells.size]!)) (parts.map fun (i, x) => (i, a.eval x)).toList = some cells)
    (h : K (a.put o.dst (.slice (some ⟨w.heap.size, 0, none⟩) len len)) (w.alloc (.cells cells e))) :
    if Region.wanted o (yielded ops a.tmps) = true then Oper.wpIn (Fence.wide.inRound l) 0 P o a w K Q else E := by
  refine opIn_value hg (by rw [ho]; intro c hc; cases hc) (by simp [Oper.about, ho]) (v := .slice (some ⟨w.heap.size, 0, none⟩) len len) (w' := w.alloc (.cells cells e)) ?_ h
  unfold execOp
  simp only [ho, Sem.run_bind, run_buildSlice w t e len _ cells ie z hu hie hz hsmall hpos hf, Result.andThen_ok]
  rfl
theorem opIn_buildOne (hg : o.guard = none) (t e : TypeId) (x : Operand) (ho : o.op = .buildSlice t 1 #[(0, x)]) (Ay : Option Addr) (ny cy : Nat) (hx : a.eval x = .slice Ay ny cy) (ie : TypeInfo)
    (hu : P.underlying t = some (.slice e)) (hie : P.info? e = some ie) (hz : ie.zero = some (.slice none 0 0)) (hs : ie.size = 1)
    (h : K (a.put o.dst (.slice (some ⟨w.heap.size, 0, none⟩) 1 1)) (w.alloc (.cells #[.slice Ay ny cy] e))) :
    if Region.wanted o (yielded ops a.tmps) = true then Oper.wpIn (Fence.wide.inRound l) 0 P o a w K Q else E := by
  refine opIn_buildSlice hg t e 1 #[(0, x)] ho #[.slice Ay ny cy] ie (.slice none 0 0) hu hie hz (by rw [hs]; decide) (by rw [hs]; decide) ?_ h
  rw [hs]
  have e1 : ((#[(0, x)] : Array (Nat × Operand)).map fun (i, x) => (i, a.eval x)).toList = [(0, a.eval x)] := by simp
  rw [e1, hx]
  simp [Instr.fill, Value.cells, show Array.range 1 = #[0] from rfl]
theorem opIn_append (hg : o.guard = none) (s x : Operand) (t : TypeId) (hop : o.op = Op.call { callee := Callee.builtin Builtin.append, args := #[s, x], argTypes := #[t, t] })
    (v u : Value) (hs : a.eval s = v) (hx : a.eval x = u) (v' : Value) (w' : World) (hrun : (Builtin.append_ #[t, t] o.type #[v, u]).run P w = .ok v' w') (h : K (a.put o.dst v') w') :
    if Region.wanted o (yielded ops a.tmps) = true then Oper.wpIn (Fence.wide.inRound l) 0 P o a w K Q else E := by
  refine opIn_value hg (by rw [hop]; intro c hc; cases hc) (by simp [Oper.about, hop, resolve, Target.leads, Sem.run_pure]) (v := v') (w' := w') ?_ h
  simp [execOp, hop, resolve, invoke, builtin, hs, hx, hrun, Result.andThen]
theorem opIn_store_one (hg : o.guard = none) (ty : TypeId) (x y : Operand) (ho : o.op = .store ty x y)
    (g : Nat) (hx : a.eval x = .pointer (some ⟨g, 0, none⟩)) (v : Value) (hy : a.eval y = v) (h1 : v.oneCell' = true)
    (t : TypeId) (old : Value) (hgd : w.heap[g]? = some (.cells #[old] t (0, 0))) (hi : (P.info? ty).map (·.size) = some 1) (h : K (a.put o.dst undef) (w.setRow g #[v])) :
    if Region.wanted o (yielded ops a.tmps) = true then Oper.wpIn (Fence.wide.inRound l) 0 P o a w K Q else E := by
  subst hy
  have hw : Region.wanted o (yielded ops a.tmps) = true := by simp [Region.wanted, hg]
  rw [if_pos hw]
  unfold Oper.wpIn
  refine ⟨by simp [Oper.about, ho], ?_⟩
  rw [Oper.semAt_plain _ _ _ (by rw [ho]; intro c hc; cases hc)]
  unfold execOp
  simp only [ho, hx, Instr.storeAt, Instr.sureAddr, Sem.run_bind, Sem.run_pure, Result.andThen_ok, run_storeVar_one w g t ty old _ hgd hi h1]
  exact h
end
end Go.Proofs.YthpnnmkpbkbanaaDoor
