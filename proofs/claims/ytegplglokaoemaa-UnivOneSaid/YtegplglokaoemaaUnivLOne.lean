/-
  The walk of latchgarthlaw3.UnivOne: it answers true, whatever the number of hands and the steps.
-/
import Derived.Test.YtegplglokaoemaaUnivGh
import Derived.Test.YtegplglokaoemaaUnivLGoes
import Derived.Deep.DeepCutAuto
import Derived.Deep.CutBlock
namespace Go.Proofs.Ytegplglokaoemaa.Univ
open Go.RowKit

/-- The row, and what the law writes down of it: the deeds of hands in block h, four rows in blocks from base on. -/
structure OG (w W : World) (g n T : Nat) (s : UG) (h base : Nat) (f : Nat → Int) (v0 v1 v2 v3 : Value) (x0 x1 x2 x3 : List Int) : Prop where
  lk : LkAt w W g n T s
  rg : RG W base (at4 v0 v1 v2 v3) (at4 x0 x1 x2 x3)
  mi : IRow W h n f
  gh : g < h
  hb : h < base
  bs : base ≤ W.heap.size
section
variable {w W W' : World} {g n T h base : Nat} {s : UG} {f : Nat → Int} {v0 v1 v2 v3 : Value} {x0 x1 x2 x3 : List Int}
theorem OG.turn (k : OG w W g n T s h base f v0 v1 v2 v3 x0 x1 x2 x3) {T' : Nat} {s' : UG} (hl : LkAt w W' g n T' s') (ht : Touch (fun k => k = g) W W') : OG w W' g n T' s' h base f v0 v1 v2 v3 x0 x1 x2 x3 :=
  ⟨hl, k.rg.touch ht fun i hi => by have := k.gh; have := k.hb; omega, k.mi.touch ht (by have := k.gh; omega), k.gh, k.hb, Nat.le_trans k.bs ht.size⟩
theorem OG.drewN (k : OG w W g n T s h base f v0 v1 v2 v3 x0 x1 x2 x3) (i : Nat) : OG w (W.drewN i) g n T s h base f v0 v1 v2 v3 x0 x1 x2 x3 :=
  ⟨k.lk.on (w' := W.drewN i) (below_drewN (Below.refl W.heap.size W) i) (Nat.le_refl _), k.rg.below (below_drewN (Below.refl W.heap.size W) i), k.mi, k.gh, k.hb, k.bs⟩
theorem OG.drew (k : OG w W g n T s h base f v0 v1 v2 v3 x0 x1 x2 x3) : OG w W.drew g n T s h base f v0 v1 v2 v3 x0 x1 x2 x3 :=
  ⟨k.lk.on (w' := W.drew) (Below.refl W.heap.size W).drew (Nat.le_refl _), k.rg.below (Below.refl W.heap.size W).drew, k.mi, k.gh, k.hb, k.bs⟩
theorem OG.later (k : OG w W g n T s h base f v0 v1 v2 v3 x0 x1 x2 x3) {U : Nat} (hU : T ≤ U) : OG w W g n U s h base f v0 v1 v2 v3 x0 x1 x2 x3 := ⟨k.lk.later hU, k.rg, k.mi, k.gh, k.hb, k.bs⟩
theorem OG.mine (k : OG w W g n T s h base f v0 v1 v2 v3 x0 x1 x2 x3) {i : Nat} (hi : i < n) (z : Int) : OG w (W.setCell ⟨h, i, none⟩ (.int .i64 z)) g n T s h base (rput f i z) v0 v1 v2 v3 x0 x1 x2 x3 :=
  ⟨k.lk.other (by have := k.lk.new; have := k.gh; omega) (by have := k.gh; omega), k.rg.touch (O := fun b => b = h) ((Touch.refl (fun b => b = h) W).setCell (p := ⟨h, i, none⟩) (Or.inl rfl) _) fun b hb => by have := k.hb; omega,
    k.mi.put hi (fun j hj => rput_other hj) (rput_same _ _ _), k.gh, k.hb, by simpa [World.setCell] using k.bs⟩
theorem OG.app0 (k : OG w W g n T s h base f v0 v1 v2 v3 x0 x1 x2 x3) {o : Obj} {q m cap : Nat} {z : Int} {ys : List Value} (hown : W'.ownsRow base 3 1 (.slice (some ⟨q, 0, none⟩) m cap) m ys) (hn : m = x0.length + 1) (hy : ys = x0.map (Value.int .i64) ++ [.int .i64 z])
    (hg : (W.alloc o).grownBy W' v0.ownBlock) (hat : v0.ownBlock = some q ∨ q = W.heap.size + 1) : OG w W' g n T s h base f (.slice (some ⟨q, 0, none⟩) m cap) v1 v2 v3 (x0 ++ [z]) x1 x2 x3 := by
  obtain ⟨h1, h2⟩ := k.rg.app0 hown hn hy hg hat
  have hO : ∀ b, v0.ownBlock = some b → base ≤ b := fun b hb => (k.rg.lt (i := 0) (by omega) hb).1
  exact ⟨k.lk.touch h2 fun b hb => by have := hO b hb; have := k.lk.new; have := k.gh; have := k.hb; omega, h1, k.mi.touch h2 fun e => by have := hO h e; have := k.hb; omega, k.gh, k.hb, Nat.le_trans k.bs h2.size⟩
theorem OG.own0 (k : OG w W g n T s h base f v0 v1 v2 v3 x0 x1 x2 x3) (o : Obj) {K : Nat} (hK : x0.length = K) : (W.alloc o).ownsRow base 3 1 v0 K (x0.map (Value.int .i64)) := by
  have := (k.rg.alloc o).own 0 (by omega)
  rw [← hK]; exact this
theorem OG.form0 (k : OG w W g n T s h base f v0 v1 v2 v3 x0 x1 x2 x3) {K : Nat} (hK : x0.length = K) : ∃ A c, v0 = .slice A K c ∧ (0 < K → ∃ b, A = some ⟨b, 0, none⟩ ∧ base ≤ b ∧ b < W.heap.size) := by
  subst hK; exact k.rg.form (i := 0) (by omega)
theorem OG.app1 (k : OG w W g n T s h base f v0 v1 v2 v3 x0 x1 x2 x3) {o : Obj} {q m cap : Nat} {z : Int} {ys : List Value} (hown : W'.ownsRow base 3 1 (.slice (some ⟨q, 0, none⟩) m cap) m ys) (hn : m = x1.length + 1) (hy : ys = x1.map (Value.int .i64) ++ [.int .i64 z])
    (hg : (W.alloc o).grownBy W' v1.ownBlock) (hat : v1.ownBlock = some q ∨ q = W.heap.size + 1) : OG w W' g n T s h base f v0 (.slice (some ⟨q, 0, none⟩) m cap) v2 v3 x0 (x1 ++ [z]) x2 x3 := by
  obtain ⟨h1, h2⟩ := k.rg.app1 hown hn hy hg hat
  have hO : ∀ b, v1.ownBlock = some b → base ≤ b := fun b hb => (k.rg.lt (i := 1) (by omega) hb).1
  exact ⟨k.lk.touch h2 fun b hb => by have := hO b hb; have := k.lk.new; have := k.gh; have := k.hb; omega, h1, k.mi.touch h2 fun e => by have := hO h e; have := k.hb; omega, k.gh, k.hb, Nat.le_trans k.bs h2.size⟩
theorem OG.own1 (k : OG w W g n T s h base f v0 v1 v2 v3 x0 x1 x2 x3) (o : Obj) {K : Nat} (hK : x1.length = K) : (W.alloc o).ownsRow base 3 1 v1 K (x1.map (Value.int .i64)) := by
  have := (k.rg.alloc o).own 1 (by omega)
  rw [← hK]; exact this
theorem OG.form1 (k : OG w W g n T s h base f v0 v1 v2 v3 x0 x1 x2 x3) {K : Nat} (hK : x1.length = K) : ∃ A c, v1 = .slice A K c ∧ (0 < K → ∃ b, A = some ⟨b, 0, none⟩ ∧ base ≤ b ∧ b < W.heap.size) := by
  subst hK; exact k.rg.form (i := 1) (by omega)
theorem OG.app2 (k : OG w W g n T s h base f v0 v1 v2 v3 x0 x1 x2 x3) {o : Obj} {q m cap : Nat} {z : Int} {ys : List Value} (hown : W'.ownsRow base 3 1 (.slice (some ⟨q, 0, none⟩) m cap) m ys) (hn : m = x2.length + 1) (hy : ys = x2.map (Value.int .i64) ++ [.int .i64 z])
    (hg : (W.alloc o).grownBy W' v2.ownBlock) (hat : v2.ownBlock = some q ∨ q = W.heap.size + 1) : OG w W' g n T s h base f v0 v1 (.slice (some ⟨q, 0, none⟩) m cap) v3 x0 x1 (x2 ++ [z]) x3 := by
  obtain ⟨h1, h2⟩ := k.rg.app2 hown hn hy hg hat
  have hO : ∀ b, v2.ownBlock = some b → base ≤ b := fun b hb => (k.rg.lt (i := 2) (by omega) hb).1
  exact ⟨k.lk.touch h2 fun b hb => by have := hO b hb; have := k.lk.new; have := k.gh; have := k.hb; omega, h1, k.mi.touch h2 fun e => by have := hO h e; have := k.hb; omega, k.gh, k.hb, Nat.le_trans k.bs h2.size⟩
theorem OG.own2 (k : OG w W g n T s h base f v0 v1 v2 v3 x0 x1 x2 x3) (o : Obj) {K : Nat} (hK : x2.length = K) : (W.alloc o).ownsRow base 3 1 v2 K (x2.map (Value.int .i64)) := by
  have := (k.rg.alloc o).own 2 (by omega)
  rw [← hK]; exact this
theorem OG.form2 (k : OG w W g n T s h base f v0 v1 v2 v3 x0 x1 x2 x3) {K : Nat} (hK : x2.length = K) : ∃ A c, v2 = .slice A K c ∧ (0 < K → ∃ b, A = some ⟨b, 0, none⟩ ∧ base ≤ b ∧ b < W.heap.size) := by
  subst hK; exact k.rg.form (i := 2) (by omega)
theorem OG.app3 (k : OG w W g n T s h base f v0 v1 v2 v3 x0 x1 x2 x3) {o : Obj} {q m cap : Nat} {z : Int} {ys : List Value} (hown : W'.ownsRow base 3 1 (.slice (some ⟨q, 0, none⟩) m cap) m ys) (hn : m = x3.length + 1) (hy : ys = x3.map (Value.int .i64) ++ [.int .i64 z])
    (hg : (W.alloc o).grownBy W' v3.ownBlock) (hat : v3.ownBlock = some q ∨ q = W.heap.size + 1) : OG w W' g n T s h base f v0 v1 v2 (.slice (some ⟨q, 0, none⟩) m cap) x0 x1 x2 (x3 ++ [z]) := by
  obtain ⟨h1, h2⟩ := k.rg.app3 hown hn hy hg hat
  have hO : ∀ b, v3.ownBlock = some b → base ≤ b := fun b hb => (k.rg.lt (i := 3) (by omega) hb).1
  exact ⟨k.lk.touch h2 fun b hb => by have := hO b hb; have := k.lk.new; have := k.gh; have := k.hb; omega, h1, k.mi.touch h2 fun e => by have := hO h e; have := k.hb; omega, k.gh, k.hb, Nat.le_trans k.bs h2.size⟩
theorem OG.own3 (k : OG w W g n T s h base f v0 v1 v2 v3 x0 x1 x2 x3) (o : Obj) {K : Nat} (hK : x3.length = K) : (W.alloc o).ownsRow base 3 1 v3 K (x3.map (Value.int .i64)) := by
  have := (k.rg.alloc o).own 3 (by omega)
  rw [← hK]; exact this
theorem OG.form3 (k : OG w W g n T s h base f v0 v1 v2 v3 x0 x1 x2 x3) {K : Nat} (hK : x3.length = K) : ∃ A c, v3 = .slice A K c ∧ (0 < K → ∃ b, A = some ⟨b, 0, none⟩ ∧ base ≤ b ∧ b < W.heap.size) := by
  subst hK; exact k.rg.form (i := 3) (by omega)
theorem OG.put (k : OG w W g n T s h base f v0 v1 v2 v3 x0 x1 x2 x3) {i : Nat} (hi : i < 4) {b K c : Nat} (e : at4 v0 v1 v2 v3 i = .slice (some ⟨b, 0, none⟩) K c) (j : Nat) (z : Int) {y0 y1 y2 y3 : List Int} (hy : ∀ l, l < 4 → at4 y0 y1 y2 y3 l = rput (at4 x0 x1 x2 x3) i ((at4 x0 x1 x2 x3 i).set j z) l) : OG w (W.setCell ⟨b, j, none⟩ (.int .i64 z)) g n T s h base f v0 v1 v2 v3 y0 y1 y2 y3 := by
  have hO := (k.rg.lt hi (k := b) (by rw [e]; rfl)).1
  exact ⟨k.lk.other (by have := k.lk.new; have := k.gh; have := k.hb; omega) (by have := k.gh; have := k.hb; omega), rg_same (k.rg.put hi e j z) (fun _ _ => rfl) hy, k.mi.far (by show h ≠ b; have := k.hb; omega) _, k.gh, k.hb, by simpa [World.setCell] using k.bs⟩
theorem OG.ends {w3 : World} {u : Value} (k : OG w W g n T s h base f v0 v1 v2 v3 (xa s) (xg s) (xb s) (xe s)) (hu : Nums w3 w3.heap.size u (lkOrder s.v)) (hb : Below W.heap.size W w3) (o : Obj) : Ends w (w3.alloc o) w3.heap.size s v0 v1 v2 v3 u := by
  have hk := k.lk.ok.k
  have hl : ∀ f : Nat → Int, (rowOf s.v.k f).length ≤ 9223372036854775807 := fun f => by rw [rowOf_len]; omega
  have h0 : Below w3.heap.size w3 (w3.alloc o) := (Below.refl _ _).alloc (Nat.le_refl _) o
  have hx : ∀ {v : Value} {x : List Int}, Nums W W.heap.size v x → Nums (w3.alloc o) w3.heap.size v x := fun hv => ((hv.below hb (Nat.le_refl _)).more hb.size).below h0 (Nat.le_refl _)
  have hw := k.lk.below.size
  exact ⟨(k.lk.below.trans (hb.mono hw)).alloc (Nat.le_trans hw hb.size) o, Nat.le_trans hw hb.size, hx (k.rg.nums (i := 0) (by omega) (hl _)), hx (k.rg.nums (i := 1) (by omega) (hl _)), hx (k.rg.nums (i := 2) (by omega) (hl _)), hx (k.rg.nums (i := 3) (by omega) (hl _)), hu.below h0 (Nat.le_refl _)⟩
end
theorem rowOf_lenK {K : Nat} {s : UG} (h : s.v.k = K) (f : Nat → Int) : (rowOf s.v.k f).length = K := (rowOf_len _ f).trans h

set_option maxHeartbeats 8000000 in
set_option maxRecDepth 100000 in
theorem one_law (z : Int) (sv : Value) (steps : List (List Int)) (w : World) (hn : Rws w w.heap.size sv steps) :
    Calls Try.prog 3 #[.int .i64 z, sv] w fun e w' => e = .returned (.bool true) ∧ Below w.heap.size w w' := by
  obtain ⟨A, c, rfl, hlen, -⟩ := id hn
  have HN := Lib.hid hn
  clear hn
  obtain ⟨i0, hi0, hz0, hz1, hz2⟩ := info_parts TintI.info
  by_cases hz : 1 ≤ z ∧ z ≤ 4
  · obtain ⟨n, rfl⟩ := Int.eq_ofNat_of_zero_le (show 0 ≤ z by omega)
    have h1 : 1 ≤ n := by omega
    have h4 : n ≤ 4 := by omega
    have hwn : IntKind.i64.wrap ((n : Int) - 1) = (n : Int) - 1 := IntWalk.i64_in _ (by omega)
    clear hz
    have hmk := make_ints n (by omega)
    go_enter Try.func3, Try.ntmps3
    go_upto_region 9 with (first | (go_at_call 5; refine (fact_any _).mono ?_; rintro e w1 ⟨rfl, hb⟩; have HB := Lib.hid hb; clear hb) | (go_at_call 6; refine (newL HB.out h1 h4).mono ?_; rintro e w2 ⟨g, rfl, hl⟩; have HL := Lib.hid hl; clear hl))
    obtain ⟨h, hh⟩ : ∃ h, h = w2.heap.size := ⟨_, rfl⟩
    obtain ⟨base, hbase⟩ : ∃ base, base = h + 1 := ⟨_, rfl⟩
    obtain ⟨V, hV⟩ : ∃ V, V = w2.alloc (.cells (madeCells #[.int .i64 0] n) 3) := ⟨_, rfl⟩
    have hog : OG w V g n 0 ugnew h base (fun _ => 0) (.slice none 0 0) (.slice none 0 0) (.slice none 0 0) (.slice none 0 0) (xa ugnew) (xg ugnew) (xb ugnew) (xe ugnew) := by
      rw [hV]
      exact ⟨HL.out.made _, RG.nil _ _, by rw [hh]; exact IRow.made w2 n, by rw [hh]; exact HL.out.lk.lt, by omega, by rw [hbase, hh]; simp⟩
    rw [← hh, ← hV]
    have HO0 := Lib.hid hog
    clear hog hmk HL HB
    go_upto_block 0 with fail
    go_cut [8, 9, 10, 11] (fun u0 u1 u2 u3 wx => ∃ (k : Nat) (s : UG) (f : Nat → Int), OG w wx g n k s h base f u0 u1 u2 u3 (xa s) (xg s) (xb s) (xe s))
    case first =>
      go_wp2_with fail
      go_loopw [8, 9, 10, 11, 13] (fun u0 u1 u2 u3 i wr => ∃ (k : Nat) (s : UG) (f : Nat → Int), k ≤ steps.length ∧ i = .int .i64 k ∧ k ≤ 200 ∧ OG w wr g n k s h base f u0 u1 u2 u3 (xa s) (xg s) (xb s) (xe s) ∧ Mi n s f) (fun _ _ _ _ i _ => steps.length - (intOf i).toNat)
      case atStart => exact ⟨0, ugnew, _, by omega, rfl, by omega, HO0.out, mi_new n _⟩
      case round =>
        clear HO0 hh hV
        obtain ⟨k, s, f, hk, rfl, hk2, hog, hmi⟩ := hrel
        have HO := Lib.hid hog
        have HM := Lib.hid hmi
        obtain ⟨K, hK⟩ : ∃ K, s.v.k = K := ⟨_, rfl⟩
        have HK := Lib.hid hK
        obtain ⟨A0, c0, rfl, hA0⟩ := hog.form0 (rowOf_lenK hK _)
        obtain ⟨A1, c1, rfl, hA1⟩ := hog.form1 (rowOf_lenK hK _)
        obtain ⟨A2, c2, rfl, hA2⟩ := hog.form2 (rowOf_lenK hK _)
        obtain ⟨A3, c3, rfl, hA3⟩ := hog.form3 (rowOf_lenK hK _)
        have hK40 : K ≤ 40 := by have := hog.lk.ok.k; omega
        clear hog hmi
        by_cases hgo : k < steps.length ∧ k < 200
        · have hI : (k : Int) < steps.length := by omega
          have h2I : (k : Int) < 200 := by omega
          obtain ⟨hlt, hk200⟩ := hgo
          obtain ⟨l, hx⟩ : ∃ l, steps[k]? = some l := ⟨steps[k], List.getElem?_eq_getElem hlt⟩
          obtain ⟨b, o, rfl, A', c', hxc, hnl⟩ := (HN.out.below HO.out.lk.below (Nat.le_refl _)).at_ hx
          clear hx
          rcases row_case l with ⟨x, y, rfl⟩ | ⟨x, rfl⟩ | ⟨hl2, hl1⟩
          · obtain ⟨b1, o1, rfl, hbw, hc0⟩ := hnl.at_ (k := 0) rfl
            rw [Nat.add_zero] at hc0
            obtain ⟨b2, o2, e2, _, hc1⟩ := hnl.at_ (k := 1) rfl
            injection e2 with e2
            injection e2 with e2 e3 _
            subst e2 e3
            have hxc : wr.cell? ⟨b, o + k, none⟩ = some (.slice (some ⟨b1, o1, none⟩) 2 c') := hxc
            have HBG := Lib.hid (beginT HO.out.drew.lk (by omega) x y)
            have hbg : b1 ≠ g := by have := HO.out.lk.new; omega
            have hbs : b1 < wr.heap.size := by have := HO.out.lk.below.size; omega
            have HX := Lib.hid (fun w' (ht : Touch (fun k => k = g) wr.drew w') => (show w'.cell? ⟨b1, o1, none⟩ = some (.int .i64 x) ∧ w'.cell? ⟨b1, o1 + 1, none⟩ = some (.int .i64 y) from ⟨(ht.cell (p := ⟨b1, o1, none⟩) hbs hbg).trans hc0, (ht.cell (p := ⟨b1, o1 + 1, none⟩) hbs hbg).trans hc1⟩))
            have HS := Lib.hid (show (fun W : World => W.cell? ⟨b1, o1, none⟩ = some (.int .i64 x) ∧ W.cell? ⟨b1, o1 + 1, none⟩ = some (.int .i64 y)) wr.drew from ⟨hc0, hc1⟩)
            clear hnl hbg hbs hc0 hc1
            by_cases he : begE n s.v x y = 0
            · obtain ⟨p, y', rfl, rfl, hpn, hy, ha, hk40, -⟩ := beg_some he
              have hgs : gbeg n k s p y' = ugbeg s k p y' := by unfold gbeg; rw [if_pos he]; rfl
              rw [he, hgs] at HBG
              have hpI : (p : Int) < n := by omega
              have HIN := Lib.hid (inB_yes p 0 ((n : Int) - 1) (by omega) (by omega))
              clear he hgs ha hk40
              go_wp2_with fail
              go_region_held3 (fun W : World => W.cell? ⟨b1, o1, none⟩ = some (.int .i64 (p : Int)) ∧ W.cell? ⟨b1, o1 + 1, none⟩ = some (.int .i64 (y' : Int))) (first | exact HS.out | exact HS4.out) ((go_at_call 7; (with_reducible refine HBG.out.mono ?_); rw [errV_zero]; rintro e w4 ⟨rfl, hl4, ht4⟩; have HO4 := Lib.hid (HO.out.drew.turn hl4 ht4); have HS4 := Lib.hid (HX.out w4 ht4); have hd0 := (HX.out w4 ht4).1; have hd1 := (HX.out w4 ht4).2; clear hl4 ht4))
              all_goals
                have hmc := HO4.out.mi.cell hpn
                have hmf := HO4.out.mi.free p
                clear hxc
                go_upto_region 17 with (go_at_call 8; (with_reducible refine (HIN.out _).mono ?_); rintro e w5 ⟨rfl, rfl⟩)
                clear hmc hmf
                have hb1h : b1 < w.heap.size ∧ w.heap.size ≤ g ∧ g < h := ⟨hbw, HO4.out.lk.new, HO4.out.gh⟩
                have hf1 : (w4.setCell ⟨h, p, none⟩ (.int .i64 (K : Int))).cell? ⟨b1, o1 + 1, none⟩ = some (.int .i64 (y' : Int)) := (World.cell?_setCell_other _ _ _ _ (fun e => by injection e with e _ _; omega)).trans hd1
                have ho5 := HO4.out.mine hpn (K : Int)
                obtain ⟨V5, hV5⟩ : ∃ V5, V5 = w4.setCell ⟨h, p, none⟩ (.int .i64 (K : Int)) := ⟨_, rfl⟩
                rw [← hV5] at hf1 ho5 ⊢
                have HO5 := Lib.hid ho5
                clear ho5 hV5 hd0 hd1 HO4 hb1h
                go_wp2_with (first | (at_builtin; refine wpList_append_lies _ rfl (.tmp 86) (.tmp 90) 29 rfl base 3 i0 (.int .i64 0) 1 8 Try.underlying29 hi0 hz0 hz1 hz2 rfl (by omega) (.slice A0 K c0) K (xa s |>.map (Value.int .i64)) rfl (HO5.out.own0 _ (rowOf_lenK HK.out _)) ⟨V5.heap.size, 0, none⟩ 1 1 [.int .i64 (y' : Int)] rfl (by rfl) (one_cell (by simp)) (by intro u hu; simp at hu; subst hu; rfl) (by omega) (by unfold maxLen; omega) (by omega) (by have := HO5.out.bs; simp; omega) (V5.heap.size + 1) (by simp) ?_; intro q0 d0 w6 hown hgrow hat hlt; have HO6 := Lib.hid (HO5.out.app0 hown (congrArg (· + 1) (rowOf_lenK HK.out _).symm) rfl hgrow hat); clear hown hgrow hat hlt) | (at_builtin; refine wpList_append_lies _ rfl (.tmp 92) (.tmp 93) 29 rfl base 3 i0 (.int .i64 0) 1 8 Try.underlying29 hi0 hz0 hz1 hz2 rfl (by omega) (.slice A1 K c1) K (xg s |>.map (Value.int .i64)) rfl (HO6.out.own1 _ (rowOf_lenK HK.out _)) ⟨w6.heap.size, 0, none⟩ 1 1 [.int .i64 (-1)] rfl (by rfl) (one_cell (by simp)) (by intro u hu; simp at hu; subst hu; rfl) (by omega) (by unfold maxLen; omega) (by omega) (by have := HO6.out.bs; simp; omega) (w6.heap.size + 1) (by simp) ?_; intro q1 d1 w7 hown hgrow hat hlt; have HO7 := Lib.hid (HO6.out.app1 hown (congrArg (· + 1) (rowOf_lenK HK.out _).symm) rfl hgrow hat); clear hown hgrow hat hlt) | (at_builtin; refine wpList_append_lies _ rfl (.tmp 95) (.tmp 97) 29 rfl base 3 i0 (.int .i64 0) 1 8 Try.underlying29 hi0 hz0 hz1 hz2 rfl (by omega) (.slice A2 K c2) K (xb s |>.map (Value.int .i64)) rfl (HO7.out.own2 _ (rowOf_lenK HK.out _)) ⟨w7.heap.size, 0, none⟩ 1 1 [.int .i64 (k : Int)] rfl (by rfl) (one_cell (by simp)) (by intro u hu; simp at hu; subst hu; rfl) (by omega) (by unfold maxLen; omega) (by omega) (by have := HO7.out.bs; simp; omega) (w7.heap.size + 1) (by simp) ?_; intro q2 d2 w8 hown hgrow hat hlt; have HO8 := Lib.hid (HO7.out.app2 hown (congrArg (· + 1) (rowOf_lenK HK.out _).symm) rfl hgrow hat); clear hown hgrow hat hlt) | (at_builtin; refine wpList_append_lies _ rfl (.tmp 99) (.tmp 100) 29 rfl base 3 i0 (.int .i64 0) 1 8 Try.underlying29 hi0 hz0 hz1 hz2 rfl (by omega) (.slice A3 K c3) K (xe s |>.map (Value.int .i64)) rfl (HO8.out.own3 _ (rowOf_lenK HK.out _)) ⟨w8.heap.size, 0, none⟩ 1 1 [.int .i64 1000] rfl (by rfl) (one_cell (by simp)) (by intro u hu; simp at hu; subst hu; rfl) (by omega) (by unfold maxLen; omega) (by omega) (by have := HO8.out.bs; simp; omega) (w8.heap.size + 1) (by simp) ?_; intro q3 d3 w9 hown hgrow hat hlt; have HO9 := Lib.hid (HO8.out.app3 hown (congrArg (· + 1) (rowOf_lenK HK.out _).symm) rfl hgrow hat); clear hown hgrow hat hlt))
                go_roundw
                case rel =>
                  refine ⟨k + 1, ugbeg s k p y', _, by omega, by go_num, by omega, ?_, by have := mi_beg (T := k) HM.out p y'; rwa [HK.out] at this⟩
                  rw [xa_beg, xg_beg HO.out.lk.ok, xb_beg, xe_beg HO.out.lk.ok]
                  exact HO9.out
                case measure => simp [intOf]; omega
            · have hgs : gbeg n k s x y = s := by unfold gbeg; rw [if_neg he]
              rw [hgs] at HBG
              have HE := Lib.hid he
              obtain he2 | he2 | he2 : begE n s.v x y = 1 ∨ begE n s.v x y = 7 ∨ begE n s.v x y = 4 := by have := beg_err (n := n) (v := s.v) (p := x) (x := y); omega
              all_goals
                rw [he2] at HBG
                first | rw [errV_one] at HBG | rw [errV_seven] at HBG | rw [errV_four] at HBG
                clear he he2 hgs
                go_wp2_with fail
                go_region_held3 (fun W : World => W.cell? ⟨b1, o1, none⟩ = some (.int .i64 x) ∧ W.cell? ⟨b1, o1 + 1, none⟩ = some (.int .i64 y)) (first | exact HS.out | exact HS4.out) ((go_at_call 7; (with_reducible refine HBG.out.mono ?_); rintro e w4 ⟨rfl, hl4, ht4⟩; have HO4 := Lib.hid (HO.out.drew.turn hl4 ht4); have HS4 := Lib.hid (HX.out w4 ht4); clear hl4 ht4))
                all_goals
                  go_wp2
                  go_roundw
                  case rel => exact ⟨k + 1, s, f, by omega, by go_num, by omega, HO4.out, HM.out⟩
                  case measure => simp [intOf]; omega
          · obtain ⟨b1, o1, rfl, hbw, hc0⟩ := hnl.at_ (k := 0) rfl
            rw [Nat.add_zero] at hc0
            have hxc : wr.cell? ⟨b, o + k, none⟩ = some (.slice (some ⟨b1, o1, none⟩) 1 c') := hxc
            have hbg : b1 ≠ g := by have := HO.out.lk.new; omega
            have hbs : b1 < wr.heap.size := by have := HO.out.lk.below.size; omega
            have HX := Lib.hid (fun i w' (ht : Touch (fun k => k = g) (wr.drewN i) w') => (show w'.cell? ⟨b1, o1, none⟩ = some (.int .i64 x) from (ht.cell (p := ⟨b1, o1, none⟩) hbs hbg).trans hc0))
            have HSG := Lib.hid (fun i => stepT (HO.out.drewN i).lk x)
            have HBW := Lib.hid (show b1 < w.heap.size ∧ w.heap.size ≤ g from ⟨hbw, HO.out.lk.new⟩)
            clear hnl hbg hbs hbw
            by_cases he : stpE n s.v x = 0
            · obtain ⟨p, rfl, hpn, ha⟩ := stp_some he
              have hgs : gstp n k s p = ugstep s k p := by unfold gstp; rw [if_pos he]; rfl
              rw [he, hgs, errV_zero] at HSG
              have hpI : (p : Int) < n := by omega
              have HM2 := Lib.hid (mi_stp (T := k) HM.out hpn ha)
              have HXA := Lib.hid (show xa (ugstep s k p) = xa s from rfl)
              have HXB := Lib.hid (show xb (ugstep s k p) = xb s from rfl)
              by_cases hlast : ulast s.v p
              · have hd : stpD n s.v p = true := decide_eq_true ⟨by omega, ha, hlast⟩
                have hg : stpG n s.v p = (s.v.h p).s := by rw [stpG, hd]; rfl
                rw [hd, hg] at HSG
                have HIN := Lib.hid (inB_yes p 0 ((n : Int) - 1) (by omega) (by omega))
                have hE := (HO.out.lk.ok.ok.ek p hpn ha).1
                obtain ⟨E, hEe⟩ : ∃ E, E = (s.v.h p).e := ⟨_, rfl⟩
                have hfp : f p = (E : Int) := by rw [hEe]; exact HM.out p hpn ha
                rw [← hEe, hK] at hE
                have hEI : (E : Int) < K := by omega
                obtain ⟨q1, rfl, hq1, _⟩ := hA1 (by omega)
                obtain ⟨q3, rfl, hq3, _⟩ := hA3 (by omega)
                obtain ⟨G, hG⟩ : ∃ G, G = (s.v.h p).s := ⟨_, rfl⟩
                rw [← hG] at HSG
                have HFP := Lib.hid hfp
                have HXG := Lib.hid (show xg (ugstep s k p) = (xg s).set E (G : Int) from by rw [hEe, hG]; exact xg_end hlast)
                have HXE := Lib.hid (show xe (ugstep s k p) = (xe s).set E (k : Int) from by rw [hEe]; exact xe_end hlast)
                have HQ := Lib.hid (show base ≤ q1 ∧ base ≤ q3 ∧ q1 ≠ q3 from ⟨hq1, hq3, fun e => HO.out.rg.far 1 3 (by omega) (by omega) (by omega) q1 rfl (by rw [e]; rfl)⟩)
                have HGL := Lib.hid (show ((s.got E : Nat) : Int) - 1 = ((s.got E : Nat) : Int) - 1 ∧ E < s.v.k from ⟨rfl, by omega⟩)
                clear he hgs ha hlast hd hg hfp hEe hG hA0 hA1 hA2 hA3 hq1 hq3 hE
                go_wp2_with fail
                go_quiet (fail)
                go_upto_region 23 with (go_at_call 9; (with_reducible refine (HSG.out _).mono ?_); rintro e w4 ⟨rfl, hl4, ht4⟩; have HO4 := Lib.hid ((HO.out.drewN _).turn hl4 ht4); have hd0 := HX.out _ w4 ht4; clear hl4 ht4)
                clear hxc hc0
                have hmc := HO4.out.mi.cell hpn
                rw [HFP.out] at hmc
                have hgc := HO4.out.rg.cell (i := 1) (by omega) rfl (j := E) (z := ((s.got E : Nat) : Int) - 1) (rowOf_get HGL.out.2)
                have hgf := HO4.out.rg.free (i := 1) (by omega) rfl E
                go_upto_region 27 with (go_at_call 8; (with_reducible refine (HIN.out _).mono ?_); rintro e w5 ⟨rfl, rfl⟩)
                have hne : b1 ≠ q1 ∧ h ≠ q1 := by have := HBW.out; have := HO4.out.gh; have := HO4.out.hb; have := HQ.out; omega
                have hf0 : (w4.setCell ⟨q1, E, none⟩ (.int .i64 (G : Int))).cell? ⟨b1, o1, none⟩ = some (.int .i64 (p : Int)) := (World.cell?_setCell_other _ _ _ _ (fun e => by injection e with e _ _; exact hne.1 e.symm)).trans hd0
                have hfm : (w4.setCell ⟨q1, E, none⟩ (.int .i64 (G : Int))).cell? ⟨h, p, none⟩ = some (.int .i64 (E : Int)) := (World.cell?_setCell_other _ _ _ _ (fun e => by injection e with e _ _; exact hne.2 e.symm)).trans hmc
                have ho5 : OG w (w4.setCell ⟨q1, E, none⟩ (.int .i64 (G : Int))) g n (k + 1) (ugstep s k p) h base f (.slice A0 K c0) (.slice (some ⟨q1, 0, none⟩) K c1) (.slice A2 K c2) (.slice (some ⟨q3, 0, none⟩) K c3) (xa s) ((xg s).set E (G : Int)) (xb s) (xe s) :=
                  HO4.out.put (i := 1) (by omega) rfl E (G : Int) (fun l hl => by match l, hl with
                    | 0, _ => rfl
                    | 1, _ => rfl
                    | 2, _ => rfl
                    | 3, _ => rfl)
                have hec := ho5.rg.cell (i := 3) (by omega) rfl (j := E) (z := ((s.et E : Nat) : Int)) (rowOf_get HGL.out.2)
                have hef := ho5.rg.free (i := 3) (by omega) rfl E
                clear hgc hgf hmc hd0 hne
                obtain ⟨V5, hV5⟩ : ∃ V5, V5 = w4.setCell ⟨q1, E, none⟩ (.int .i64 (G : Int)) := ⟨_, rfl⟩
                rw [← hV5] at hf0 hfm ho5 hec hef ⊢
                have HO5 := Lib.hid ho5
                clear ho5 hV5 HO4
                go_wp2
                go_roundw
                case rel =>
                  refine ⟨k + 1, ugstep s k p, f, by omega, by go_num, by omega, ?_, HM2.out⟩
                  rw [HXA.out, HXB.out, HXG.out, HXE.out]
                  exact HO5.out.put (i := 3) (by omega) rfl E (k : Int) (fun l hl => by match l, hl with
                    | 0, _ => rfl
                    | 1, _ => rfl
                    | 2, _ => rfl
                    | 3, _ => rfl)
                case measure => simp [intOf]; omega
              · have hd : stpD n s.v p = false := decide_eq_false fun h => hlast h.2.2
                rw [hd] at HSG
                have HXG := Lib.hid (xg_not (T := k) hlast)
                have HXE := Lib.hid (xe_not (T := k) hlast)
                clear he hgs ha hlast hd hA0 hA1 hA2 hA3
                go_wp2_with fail
                go_quiet (fail)
                go_wp2_with (go_at_call 9; (with_reducible refine (HSG.out _).mono ?_); rintro e w4 ⟨rfl, hl4, ht4⟩; have HO4 := Lib.hid ((HO.out.drewN _).turn hl4 ht4); clear hl4 ht4)
                go_roundw
                case rel =>
                  refine ⟨k + 1, ugstep s k p, f, by omega, by go_num, by omega, ?_, HM2.out⟩
                  rw [HXA.out, HXB.out, HXG.out, HXE.out]
                  exact HO4.out
                case measure => simp [intOf]; omega
            · have hgs : gstp n k s x = s := by unfold gstp; rw [if_neg he]
              rw [hgs] at HSG
              obtain he2 | he2 : stpE n s.v x = 1 ∨ stpE n s.v x = 7 := by have := stp_err (n := n) (v := s.v) (p := x); omega
              all_goals
                rw [he2] at HSG
                first | rw [errV_one] at HSG | rw [errV_seven] at HSG
                clear he he2 hgs hA0 hA1 hA2 hA3
                go_wp2_with fail
                go_quiet (fail)
                go_wp2_with (go_at_call 9; (with_reducible refine (HSG.out _).mono ?_); rintro e w4 ⟨rfl, hl4, ht4⟩; have HO4 := Lib.hid ((HO.out.drewN _).turn hl4 ht4); clear hl4 ht4)
                go_roundw
                case rel => exact ⟨k + 1, s, f, by omega, by go_num, by omega, HO4.out, HM.out⟩
                case measure => simp [intOf]; omega
          · have hi2 : ((l.length : Int) == 2) = false := by simp; omega
            have hi1 : ((l.length : Int) == 1) = false := by simp; omega
            clear hl2 hl1 hnl
            go_wp2_with fail
            go_quiet (fail)
            go_wp2
            go_roundw
            case rel => exact ⟨k + 1, s, f, by omega, by go_num, by omega, (HO.out.later (Nat.le_succ _)).drewN _, HM.out⟩
            case measure => simp [intOf]; omega
        · have hh : (k : Int) < steps.length ∧ ¬ (k : Int) < 200 ∨ ¬ (k : Int) < steps.length := by omega
          clear hgo hA0 hA1 hA2 hA3
          rcases hh with ⟨hI, hJ⟩ | hI
          all_goals
            go_wp2_with fail
            go_meet
            exact ⟨k, s, f, HO.out⟩
    case rest =>
      clear HO0 hh hV
      obtain ⟨k, s, f, hog⟩ := hcut
      obtain ⟨wr, rfl⟩ : ∃ wr : World, wr = wc := ⟨_, rfl⟩
      have HO := Lib.hid hog
      obtain ⟨K, hK⟩ : ∃ K, s.v.k = K := ⟨_, rfl⟩
      have HK := Lib.hid hK
      obtain ⟨A0, c0, rfl, -⟩ := hog.form0 (rowOf_lenK hK _)
      obtain ⟨A1, c1, rfl, -⟩ := hog.form1 (rowOf_lenK hK _)
      obtain ⟨A2, c2, rfl, -⟩ := hog.form2 (rowOf_lenK hK _)
      obtain ⟨A3, c3, rfl, -⟩ := hog.form3 (rowOf_lenK hK _)
      have hK40 : K ≤ 40 := by have := hog.lk.ok.k; omega
      clear hog
      have HOR := Lib.hid (orderL HO.out.lk)
      have hm40 := HO.out.lk.ok.m
      obtain ⟨m, hm⟩ : ∃ m, m = s.v.m := ⟨_, rfl⟩
      rw [← hm] at hm40
      have HMM := Lib.hid hm
      have hmk := make_ints K (by omega)
      have HUF := Lib.hid HO.out.lk.ok
      have hwK : IntKind.i64.wrap ((K : Int) - 1) = (K : Int) - 1 := IntWalk.i64_in _ (by omega)
      have HRES := Lib.hid (show ∀ w3 u, Nums w3 w3.heap.size u (lkOrder s.v) → Below wr.heap.size wr w3 → Ends w (w3.alloc (.cells (madeCells #[.int .i64 0] K) 3)) w3.heap.size s (.slice A0 K c0) (.slice A1 K c1) (.slice A2 K c2) (.slice A3 K c3) u from fun w3 u hu hb => HO.out.ends hu hb _)
      clear HO hm hK
      go_wp2_with (go_at_call 10; (with_reducible refine HOR.out.mono ?_); rintro e w3 ⟨u, rfl, hu, hb, -⟩; have HU := Lib.hid hu; have HB3 := Lib.hid hb; clear hu hb)
      have he0 := HRES.out w3 u HU.out HB3.out
      have hi0 : IRow (w3.alloc (.cells (madeCells #[.int .i64 0] K) 3)) w3.heap.size K (fun i => if i < 0 then -1 else 0) := (IRow.made w3 K).same fun i _ => by rw [if_neg (by omega)]
      obtain ⟨hp, hhp⟩ : ∃ hp, hp = w3.heap.size := ⟨_, rfl⟩
      obtain ⟨V, hV⟩ : ∃ V, V = w3.alloc (.cells (madeCells #[.int .i64 0] K) 3) := ⟨_, rfl⟩
      rw [← hhp, ← hV] at he0 hi0 ⊢
      obtain ⟨Ao, co, eu, -⟩ := id he0.ro
      rw [lkOrder_len, ← HMM.out] at eu
      subst eu
      have HE := Lib.hid he0
      have HI := Lib.hid hi0
      clear he0 hi0 hhp hV HOR HRES HU HB3 hmk
      go_loopw [20] (fun i wr => ∃ d : Nat, d ≤ K ∧ i = .int .i64 d ∧ Ends w wr hp s (.slice A0 K c0) (.slice A1 K c1) (.slice A2 K c2) (.slice A3 K c3) (.slice Ao m co) ∧ IRow wr hp K (fun i => if i < d then -1 else 0)) (fun i _ => K - (intOf i).toNat)
      case atStart => exact ⟨0, by omega, rfl, HE.out, HI.out⟩
      case round =>
        clear HE HI
        obtain ⟨d, hd, rfl, he, hi⟩ := hrel
        have HE := Lib.hid he
        have HI := Lib.hid hi
        clear he hi
        by_cases hdK : d < K
        · have hdI : (d : Int) < K := by omega
          have hpc := HI.out.cell hdK
          have hpf := HI.out.free d
          go_wp2
          go_roundw
          case rel =>
            refine ⟨d + 1, by omega, by go_num, HE.out.put d _, HI.out.put hdK (fun j hj => ?_) (if_pos (Nat.lt_succ_self d))⟩
            by_cases hjd : j < d
            · rw [if_pos (by omega), if_pos hjd]
            · rw [if_neg (by omega), if_neg hjd]
          case measure => simp [intOf]; omega
        · obtain rfl : d = K := by omega
          have hdI : ¬ (d : Int) < d := by omega
          have HI2 := Lib.hid (show IRow _ hp d (upl s.v.cell 0) from HI.out.same fun i hi => by rw [if_pos hi]; rfl)
          clear HI
          go_wp2
          go_loopw [21, 22] (fun sm i wr => ∃ j : Nat, j ≤ m ∧ i = .int .i64 j ∧ sm = .int .i64 ((usum s.v.add s.v.cell j : Nat) : Int) ∧ Ends w wr hp s (.slice A0 d c0) (.slice A1 d c1) (.slice A2 d c2) (.slice A3 d c3) (.slice Ao m co) ∧ IRow wr hp d (upl s.v.cell j)) (fun _ i _ => m - (intOf i).toNat)
          case atStart => exact ⟨0, by omega, rfl, rfl, HE.out, HI2.out⟩
          case round =>
            clear HE HI2
            obtain ⟨j, hj, rfl, rfl, he, hi⟩ := hrel
            have HE := Lib.hid he
            have HI := Lib.hid hi
            clear he hi
            by_cases hjm : j < m
            · have hjI : (j : Int) < m := by omega
              have hjm2 : j < s.v.m := by rw [← HMM.out]; exact hjm
              obtain ⟨hcK, hpl, hgt⟩ := one_cell' HUF.out hjm2
              obtain ⟨D, hD⟩ : ∃ D, D = s.v.cell j := ⟨_, rfl⟩
              have hS1 := usum_le (cell := s.v.cell) HUF.out.x j
              have ha1 := HUF.out.x D
              have HSS := Lib.hid (show usum s.v.add s.v.cell (j + 1) = usum s.v.add s.v.cell j + s.v.add D from by rw [hD]; rfl)
              have HUP := Lib.hid (show upl s.v.cell (j + 1) D = (j : Int) ∧ ∀ x, x ≠ D → upl s.v.cell (j + 1) x = upl s.v.cell j x from by rw [hD]; exact ⟨if_pos rfl, fun x hx => if_neg hx⟩)
              obtain ⟨bo, oo, rfl, hbo, hoc⟩ := HE.out.ro.at_ (lkOrder_get hjm2)
              rw [← hD] at hcK hpl hgt hoc
              rw [HK.out] at hcK
              have hDI : (D : Int) < d := by omega
              obtain ⟨S, hS⟩ : ∃ S, S = usum s.v.add s.v.cell j := ⟨_, rfl⟩
              rw [← hS] at hgt hS1 ⊢
              rw [← hS] at HSS
              obtain ⟨ad, had⟩ : ∃ ad, ad = s.v.add D := ⟨_, rfl⟩
              obtain ⟨gd, hgd⟩ : ∃ gd : Int, gd = ((s.got D : Nat) : Int) - 1 := ⟨_, rfl⟩
              rw [← hgd] at hgt
              rw [← had] at HSS ha1
              have hws : IntKind.i64.wrap ((S : Int) + (ad : Int)) = (S : Int) + (ad : Int) := IntWalk.i64_in _ (by omega)
              obtain ⟨b0, o0, rfl, hb0, hac⟩ := HE.out.ra.at_ (rowOf_get (f := fun d => ((s.v.add d : Nat) : Int)) (by rw [HK.out]; exact hcK))
              obtain ⟨bg, og, rfl, hbg, hgc⟩ := HE.out.rg.at_ (rowOf_get (f := fun d => ((s.got d : Nat) : Int) - 1) (by rw [HK.out]; exact hcK))
              rw [← had] at hac
              rw [← hgd] at hgc
              have hpc := HI.out.cell hcK
              rw [hpl] at hpc
              have hpf := HI.out.free D
              have HIN := Lib.hid (inB_yes D 0 ((d : Int) - 1) (by omega) (by omega))
              have HCK := Lib.hid hcK
              have hlt2 : b0 ≠ hp ∧ bg ≠ hp := by omega
              clear hjm2 hD had hgd hS hpl hcK hbo hb0 hbg hS1 ha1
              go_upto_region 42 with (go_at_call 8; (with_reducible refine (HIN.out _).mono ?_); rintro e w5 ⟨rfl, rfl⟩)
              have he6 := HE.out.put D (.int .i64 (j : Int))
              have hi6 := HI.out.put HCK.out HUP.out.2 HUP.out.1
              have hac6 : (wr.setCell ⟨hp, D, none⟩ (.int .i64 (j : Int))).cell? ⟨b0, o0 + D, none⟩ = some (.int .i64 (ad : Int)) := (World.cell?_setCell_other _ _ _ _ (fun e => by injection e with e _ _; exact hlt2.1 e.symm)).trans hac
              have hgc6 : (wr.setCell ⟨hp, D, none⟩ (.int .i64 (j : Int))).cell? ⟨bg, og + D, none⟩ = some (.int .i64 gd) := (World.cell?_setCell_other _ _ _ _ (fun e => by injection e with e _ _; exact hlt2.2 e.symm)).trans hgc
              clear hac hgc hpc hpf hoc hlt2
              obtain ⟨V6, hV6⟩ : ∃ V6, V6 = wr.setCell ⟨hp, D, none⟩ (.int .i64 (j : Int)) := ⟨_, rfl⟩
              rw [← hV6] at he6 hi6 hac6 hgc6 ⊢
              have HE6 := Lib.hid he6
              have HI6 := Lib.hid hi6
              clear he6 hi6 hV6 HE HI HUP
              by_cases hg0 : 0 ≤ gd
              · have hgS := hgt hg0
                rw [hgS] at hgc6 hg0
                have hne : ((S : Int) != (S : Int)) = false := by simp
                clear hgt hgS
                go_wp2
                go_roundw
                case rel => exact ⟨j + 1, by omega, by go_num, by rw [HSS.out]; go_num, HE6.out, HI6.out⟩
                case measure => simp [intOf]; omega
              · clear hgt
                go_wp2
                go_roundw
                case rel => exact ⟨j + 1, by omega, by go_num, by rw [HSS.out]; go_num, HE6.out, HI6.out⟩
                case measure => simp [intOf]; omega
            · obtain rfl : j = m := by omega
              have hjI : ¬ (j : Int) < j := by omega
              have HPL := Lib.hid (show (∀ x, 0 ≤ ((s.got x : Nat) : Int) - 1 → ¬ upl s.v.cell j x < 0) ∧ ∀ x f, f < d → ((s.et x : Nat) : Int) < ((s.bt f : Nat) : Int) → 0 ≤ upl s.v.cell j f → ¬ upl s.v.cell j f < upl s.v.cell j x from by
                rw [HMM.out]
                exact ⟨fun x => one_has HUF.out, fun x f hf => one_row HUF.out (by rw [HK.out]; exact hf)⟩)
              go_wp2
              go_loopw [24] (fun i wr => ∃ q : Nat, q ≤ d ∧ i = .int .i64 q ∧ Ends w wr hp s (.slice A0 d c0) (.slice A1 d c1) (.slice A2 d c2) (.slice A3 d c3) (.slice Ao j co) ∧ IRow wr hp d (upl s.v.cell j)) (fun i _ => d - (intOf i).toNat)
              case atStart => exact ⟨0, by omega, rfl, HE.out, HI.out⟩
              case round =>
                clear HE HI
                obtain ⟨q, hq, rfl, he, hi⟩ := hrel
                have HE := Lib.hid he
                have HI := Lib.hid hi
                clear he hi
                by_cases hqd : q < d
                · have hqI : (q : Int) < d := by omega
                  obtain ⟨bg, og, rfl, hbg, hgc⟩ := HE.out.rg.at_ (rowOf_get (f := fun d => ((s.got d : Nat) : Int) - 1) (show q < s.v.k by rw [HK.out]; exact hqd))
                  have hpc := HI.out.cell hqd
                  have hh1 := HPL.out.1 q
                  obtain ⟨gd, hgd⟩ : ∃ gd : Int, gd = ((s.got q : Nat) : Int) - 1 := ⟨_, rfl⟩
                  rw [← hgd] at hgc hh1
                  obtain ⟨pq, hpq⟩ : ∃ pq : Int, pq = upl s.v.cell j q := ⟨_, rfl⟩
                  rw [← hpq] at hpc hh1
                  have HPQ := Lib.hid hpq
                  have HQD := Lib.hid hqd
                  clear hgd hpq hqd hbg
                  go_upto_region 48 with fail
                  go_cut [232] (fun t wx => t = .bool false ∧ wx = wr)
                  case first =>
                    by_cases hg0 : 0 ≤ gd
                    · have hh2 := hh1 hg0
                      clear hh1
                      go_wp2_with fail
                      go_meet
                      exact ⟨congrArg Value.bool (decide_eq_false (by omega)), rfl⟩
                    · clear hh1
                      go_wp2_with fail
                      go_meet
                      exact ⟨rfl, rfl⟩
                  case rest =>
                  obtain ⟨rfl, rfl⟩ := hcut
                  clear hh1
                  go_wp2
                  go_loopw [25] (fun i wr => ∃ r : Nat, r ≤ d ∧ i = .int .i64 r ∧ Ends w wr hp s (.slice A0 d c0) (.slice (some ⟨bg, og, none⟩) d c1) (.slice A2 d c2) (.slice A3 d c3) (.slice Ao j co) ∧ IRow wr hp d (upl s.v.cell j)) (fun i _ => d - (intOf i).toNat)
                  case atStart => exact ⟨0, by omega, rfl, HE.out, HI.out⟩
                  case round =>
                    clear HE HI hgc hpc
                    obtain ⟨r, hr, rfl, he, hi⟩ := hrel
                    have HE := Lib.hid he
                    have HI := Lib.hid hi
                    clear he hi
                    by_cases hrd : r < d
                    · have hrI : (r : Int) < d := by omega
                      obtain ⟨be, oe, rfl, hbe, hec⟩ := HE.out.re.at_ (rowOf_get (f := fun d => ((s.et d : Nat) : Int)) (show q < s.v.k by rw [HK.out]; exact HQD.out))
                      obtain ⟨bb, ob, rfl, hbb, hbc⟩ := HE.out.rb.at_ (rowOf_get (f := fun d => ((s.bt d : Nat) : Int)) (show r < s.v.k by rw [HK.out]; exact hrd))
                      have hpq := HI.out.cell HQD.out
                      have hpr := HI.out.cell hrd
                      have hrow := HPL.out.2 q r hrd
                      rw [← HPQ.out] at hpq hrow
                      obtain ⟨ed, hed⟩ : ∃ ed : Int, ed = ((s.et q : Nat) : Int) := ⟨_, rfl⟩
                      obtain ⟨bf, hbf⟩ : ∃ bf : Int, bf = ((s.bt r : Nat) : Int) := ⟨_, rfl⟩
                      obtain ⟨pr, hpre⟩ : ∃ pr : Int, pr = upl s.v.cell j r := ⟨_, rfl⟩
                      rw [← hed] at hec hrow
                      rw [← hbf] at hbc hrow
                      rw [← hpre] at hpr hrow
                      clear hed hbf hpre hrd hbe hbb
                      by_cases hc1 : ed < bf
                      · by_cases hc2 : 0 ≤ pr
                        · have hc3 := hrow hc1 hc2
                          have hd1 : decide (ed < bf) = true := decide_eq_true hc1
                          have hd2 : decide (0 ≤ pr) = true := decide_eq_true hc2
                          have hd3 : decide (pr < pq) = false := decide_eq_false (by omega)
                          clear hrow
                          go_wp2_with fail
                          go_quiet (fail)
                          go_wp2
                          go_roundw
                          case rel => exact ⟨r + 1, by omega, by go_num, HE.out.drewN _, HI.out.drewN _⟩
                          case measure => simp [intOf]; omega
                        · have hd1 : decide (ed < bf) = true := decide_eq_true hc1
                          have hd2 : decide (0 ≤ pr) = false := decide_eq_false hc2
                          clear hrow
                          go_wp2_with fail
                          go_quiet (fail)
                          go_wp2
                          go_roundw
                          case rel => exact ⟨r + 1, by omega, by go_num, HE.out.drewN _, HI.out.drewN _⟩
                          case measure => simp [intOf]; omega
                      · have hd1 : decide (ed < bf) = false := decide_eq_false hc1
                        clear hrow
                        go_wp2_with fail
                        go_quiet (fail)
                        go_wp2
                        go_roundw
                        case rel => exact ⟨r + 1, by omega, by go_num, HE.out.drewN _, HI.out.drewN _⟩
                        case measure => simp [intOf]; omega
                    · obtain rfl : r = d := by omega
                      have hrI : ¬ (r : Int) < r := by omega
                      go_wp2
                      go_roundw
                      case rel => exact ⟨q + 1, by have := HQD.out; omega, by go_num, HE.out, HI.out⟩
                      case measure => simp [intOf]; have := HQD.out; omega
                · obtain rfl : q = d := by omega
                  have hqI : ¬ (q : Int) < q := by omega
                  go_wp2
                  go_ret
                  exact ⟨rfl, HE.out.below⟩
  · have HZ := Lib.hid hz
    by_cases hz1 : z < 1
    all_goals
      clear hz
      go_enter Try.func3, Try.ntmps3
      go_wp2_with (first | (go_at_call 5; refine (fact_any _).mono ?_; rintro e w1 ⟨rfl, hb⟩; have HB := Lib.hid hb; clear hb) | (go_at_call 6; refine (newBad HB.out z HZ.out).mono ?_; rw [errV_one]; rintro e w2 ⟨rfl, hb⟩; have HB2 := Lib.hid hb; clear hb))
      go_ret
      first | exact ⟨rfl, HB2.out⟩ | exact ⟨congrArg (fun b => Ending.returned (.bool b)) (bad_true HZ.out), HB2.out⟩
end Go.Proofs.Ytegplglokaoemaa.Univ
