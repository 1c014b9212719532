/-
  Package ring: its cells, and what its functions do, by contracts.
-/
import Derived.Test.YtihidjbepjeceaaDoorRowsG
import Derived.Deep.QuietTactic
import Derived.BigQuiet
import Derived.LoopTactic
import Derived.Deep.RegionHeld3
import Derived.Deep.DeepCutAuto
import Derived.IntWalk
import Derived.Handy
import Derived.StillTailTactics
import Derived.Deep.WholeRow
namespace Go.Proofs.YtihidjbepjeceaaDoor.Ring
open Go.RowKit

/-- What a ring has: its places; Head, Tail; the line and the value of who puts, and of who gets. -/
structure RF where
  pl : Nat → Nat
  hd : Nat
  tl : Nat
  pa : Nat
  pv : Nat
  ga : Nat
  gv : Nat
/-- The cells. -/
structure Cel (cs : Array Value) (n : Nat) (v : RF) : Prop where
  size : cs.size = 15
  num : cs[0]? = some (.int .i64 n)
  hd : cs[9]? = some (.int .i64 ((v.hd : Nat) : Int))
  tl : cs[10]? = some (.int .i64 ((v.tl : Nat) : Int))
  pa : cs[11]? = some (.int .i64 ((v.pa : Nat) : Int))
  pv : cs[12]? = some (.int .i64 ((v.pv : Nat) : Int))
  ga : cs[13]? = some (.int .i64 ((v.ga : Nat) : Int))
  gv : cs[14]? = some (.int .i64 ((v.gv : Nat) : Int))
  pl : ∀ i, i < 8 → cs[1 + i]? = some (.int .i64 ((v.pl i : Nat) : Int))
theorem set_at {cs : Array Value} {i : Nat} {u : Value} (h : i < cs.size) : (cs.setIfInBounds i u)[i]? = some u := by simp [h]
theorem set_off {cs : Array Value} {i j : Nat} {u : Value} (h : j ≠ i) : (cs.setIfInBounds i u)[j]? = cs[j]? := Array.getElem?_setIfInBounds_ne (by omega)
def putHd (v : RF) (z : Nat) : RF := { v with hd := z }
def putTl (v : RF) (z : Nat) : RF := { v with tl := z }
def putPa (v : RF) (z : Nat) : RF := { v with pa := z }
def putPv (v : RF) (z : Nat) : RF := { v with pv := z }
def putGa (v : RF) (z : Nat) : RF := { v with ga := z }
def putGv (v : RF) (z : Nat) : RF := { v with gv := z }
def putPl (v : RF) (i : Nat) (z : Nat) : RF := { v with pl := rput v.pl i z }
section
variable {cs : Array Value} {n : Nat} {v : RF}
theorem Cel.setHd (h : Cel cs n v) (z : Nat) : Cel (cs.setIfInBounds (9) (.int .i64 ((z : Nat) : Int))) n (putHd v z) := by
  have hs := h.size
  refine ⟨by simpa using hs, by rw [set_off (by omega)]; exact h.num, ?_, ?_, ?_, ?_, ?_, ?_, fun j hj => ?_⟩
  · rw [set_at (by omega)]; rfl
  · rw [set_off (by omega)]; exact h.tl
  · rw [set_off (by omega)]; exact h.pa
  · rw [set_off (by omega)]; exact h.pv
  · rw [set_off (by omega)]; exact h.ga
  · rw [set_off (by omega)]; exact h.gv
  · rw [set_off (by omega)]; exact h.pl j hj
theorem Cel.setTl (h : Cel cs n v) (z : Nat) : Cel (cs.setIfInBounds (10) (.int .i64 ((z : Nat) : Int))) n (putTl v z) := by
  have hs := h.size
  refine ⟨by simpa using hs, by rw [set_off (by omega)]; exact h.num, ?_, ?_, ?_, ?_, ?_, ?_, fun j hj => ?_⟩
  · rw [set_off (by omega)]; exact h.hd
  · rw [set_at (by omega)]; rfl
  · rw [set_off (by omega)]; exact h.pa
  · rw [set_off (by omega)]; exact h.pv
  · rw [set_off (by omega)]; exact h.ga
  · rw [set_off (by omega)]; exact h.gv
  · rw [set_off (by omega)]; exact h.pl j hj
theorem Cel.setPa (h : Cel cs n v) (z : Nat) : Cel (cs.setIfInBounds (11) (.int .i64 ((z : Nat) : Int))) n (putPa v z) := by
  have hs := h.size
  refine ⟨by simpa using hs, by rw [set_off (by omega)]; exact h.num, ?_, ?_, ?_, ?_, ?_, ?_, fun j hj => ?_⟩
  · rw [set_off (by omega)]; exact h.hd
  · rw [set_off (by omega)]; exact h.tl
  · rw [set_at (by omega)]; rfl
  · rw [set_off (by omega)]; exact h.pv
  · rw [set_off (by omega)]; exact h.ga
  · rw [set_off (by omega)]; exact h.gv
  · rw [set_off (by omega)]; exact h.pl j hj
theorem Cel.setPv (h : Cel cs n v) (z : Nat) : Cel (cs.setIfInBounds (12) (.int .i64 ((z : Nat) : Int))) n (putPv v z) := by
  have hs := h.size
  refine ⟨by simpa using hs, by rw [set_off (by omega)]; exact h.num, ?_, ?_, ?_, ?_, ?_, ?_, fun j hj => ?_⟩
  · rw [set_off (by omega)]; exact h.hd
  · rw [set_off (by omega)]; exact h.tl
  · rw [set_off (by omega)]; exact h.pa
  · rw [set_at (by omega)]; rfl
  · rw [set_off (by omega)]; exact h.ga
  · rw [set_off (by omega)]; exact h.gv
  · rw [set_off (by omega)]; exact h.pl j hj
theorem Cel.setGa (h : Cel cs n v) (z : Nat) : Cel (cs.setIfInBounds (13) (.int .i64 ((z : Nat) : Int))) n (putGa v z) := by
  have hs := h.size
  refine ⟨by simpa using hs, by rw [set_off (by omega)]; exact h.num, ?_, ?_, ?_, ?_, ?_, ?_, fun j hj => ?_⟩
  · rw [set_off (by omega)]; exact h.hd
  · rw [set_off (by omega)]; exact h.tl
  · rw [set_off (by omega)]; exact h.pa
  · rw [set_off (by omega)]; exact h.pv
  · rw [set_at (by omega)]; rfl
  · rw [set_off (by omega)]; exact h.gv
  · rw [set_off (by omega)]; exact h.pl j hj
theorem Cel.setGv (h : Cel cs n v) (z : Nat) : Cel (cs.setIfInBounds (14) (.int .i64 ((z : Nat) : Int))) n (putGv v z) := by
  have hs := h.size
  refine ⟨by simpa using hs, by rw [set_off (by omega)]; exact h.num, ?_, ?_, ?_, ?_, ?_, ?_, fun j hj => ?_⟩
  · rw [set_off (by omega)]; exact h.hd
  · rw [set_off (by omega)]; exact h.tl
  · rw [set_off (by omega)]; exact h.pa
  · rw [set_off (by omega)]; exact h.pv
  · rw [set_off (by omega)]; exact h.ga
  · rw [set_at (by omega)]; rfl
  · rw [set_off (by omega)]; exact h.pl j hj
theorem Cel.setPl (h : Cel cs n v) {i : Nat} (hi : i < 8) (z : Nat) : Cel (cs.setIfInBounds (1 + i) (.int .i64 ((z : Nat) : Int))) n (putPl v i z) := by
  have hs := h.size
  refine ⟨by simpa using hs, by rw [set_off (by omega)]; exact h.num, ?_, ?_, ?_, ?_, ?_, ?_, fun j hj => ?_⟩
  · rw [set_off (by omega)]; exact h.hd
  · rw [set_off (by omega)]; exact h.tl
  · rw [set_off (by omega)]; exact h.pa
  · rw [set_off (by omega)]; exact h.pv
  · rw [set_off (by omega)]; exact h.ga
  · rw [set_off (by omega)]; exact h.gv
  · by_cases e : j = i
    · subst e; rw [set_at (by omega)]; unfold putPl; dsimp only; rw [rput_same]
    · rw [set_off (by omega)]; unfold putPl; dsimp only; rw [rput_other e]; exact h.pl j hj
end
/-- The thing in block g, its cells as v says. -/
def Lk (w : World) (g : Nat) (n : Nat) (v : RF) : Prop := ∃ cs, Block w g 52 cs ∧ Cel cs n v
section
variable {w : World} {g : Nat} {n : Nat} {v : RF}
theorem Lk.lt (h : Lk w g n v) : g < w.heap.size := by
  obtain ⟨cs, h, _⟩ := h
  exact h.lt
theorem Lk.xnum (h : Lk w g n v) : w.cell? ⟨g, 0, none⟩ = some (.int .i64 n) := by
  obtain ⟨cs, h, c⟩ := h
  rw [h.cell]; exact c.num
theorem Lk.xhd (h : Lk w g n v) : w.cell? ⟨g, 9, none⟩ = some (.int .i64 ((v.hd : Nat) : Int)) := by
  obtain ⟨cs, h, c⟩ := h
  rw [h.cell]; exact c.hd
theorem Lk.xtl (h : Lk w g n v) : w.cell? ⟨g, 10, none⟩ = some (.int .i64 ((v.tl : Nat) : Int)) := by
  obtain ⟨cs, h, c⟩ := h
  rw [h.cell]; exact c.tl
theorem Lk.xpa (h : Lk w g n v) : w.cell? ⟨g, 11, none⟩ = some (.int .i64 ((v.pa : Nat) : Int)) := by
  obtain ⟨cs, h, c⟩ := h
  rw [h.cell]; exact c.pa
theorem Lk.xpv (h : Lk w g n v) : w.cell? ⟨g, 12, none⟩ = some (.int .i64 ((v.pv : Nat) : Int)) := by
  obtain ⟨cs, h, c⟩ := h
  rw [h.cell]; exact c.pv
theorem Lk.xga (h : Lk w g n v) : w.cell? ⟨g, 13, none⟩ = some (.int .i64 ((v.ga : Nat) : Int)) := by
  obtain ⟨cs, h, c⟩ := h
  rw [h.cell]; exact c.ga
theorem Lk.xgv (h : Lk w g n v) : w.cell? ⟨g, 14, none⟩ = some (.int .i64 ((v.gv : Nat) : Int)) := by
  obtain ⟨cs, h, c⟩ := h
  rw [h.cell]; exact c.gv
theorem Lk.xpl (h : Lk w g n v) {i : Nat} (hi : i < 8) : w.cell? ⟨g, 1 + i, none⟩ = some (.int .i64 ((v.pl i : Nat) : Int)) := by
  obtain ⟨cs, h, c⟩ := h
  rw [h.cell]; exact c.pl i hi
theorem Lk.free (h : Lk w g n v) (i : Nat) : w.frozen? ⟨g, i, none⟩ = false := by
  obtain ⟨cs, h, _⟩ := h
  exact h.free i
theorem Lk.drewN (h : Lk w g n v) (i : Nat) : Lk (w.drewN i) g n v := h
theorem Lk.drew (h : Lk w g n v) : Lk w.drew g n v := h
theorem Lk.below {w' : World} (h : Lk w g n v) {B : Nat} (hb : Below B w w') (hg : g < B) : Lk w' g n v := by
  obtain ⟨cs, h, c⟩ := h
  exact ⟨cs, h.below hb hg, c⟩
theorem Lk.far (h : Lk w g n v) {p : Addr} (hp : g ≠ p.block) (u : Value) : Lk (w.setCell p u) g n v := by
  obtain ⟨cs, h, c⟩ := h
  exact ⟨cs, h.far hp u, c⟩
theorem Lk.alloc (h : Lk w g n v) (o : Obj) : Lk (w.alloc o) g n v := by
  obtain ⟨cs, h, c⟩ := h
  exact ⟨cs, h.alloc o, c⟩
theorem Lk.touch {O : Nat → Prop} {w' : World} (h : Lk w g n v) (k : Touch O w w') (hn : ¬ O g) : Lk w' g n v := by
  obtain ⟨cs, h, c⟩ := h
  exact ⟨cs, h.touch k hn, c⟩
theorem Lk.setHd (h : Lk w g n v) (z : Nat) : Lk (w.setCell ⟨g, 9, none⟩ (.int .i64 ((z : Nat) : Int))) g n (putHd v z) := by
  obtain ⟨cs, h, c⟩ := h
  exact ⟨_, h.put _ _, c.setHd z⟩
theorem Lk.setTl (h : Lk w g n v) (z : Nat) : Lk (w.setCell ⟨g, 10, none⟩ (.int .i64 ((z : Nat) : Int))) g n (putTl v z) := by
  obtain ⟨cs, h, c⟩ := h
  exact ⟨_, h.put _ _, c.setTl z⟩
theorem Lk.setPa (h : Lk w g n v) (z : Nat) : Lk (w.setCell ⟨g, 11, none⟩ (.int .i64 ((z : Nat) : Int))) g n (putPa v z) := by
  obtain ⟨cs, h, c⟩ := h
  exact ⟨_, h.put _ _, c.setPa z⟩
theorem Lk.setPv (h : Lk w g n v) (z : Nat) : Lk (w.setCell ⟨g, 12, none⟩ (.int .i64 ((z : Nat) : Int))) g n (putPv v z) := by
  obtain ⟨cs, h, c⟩ := h
  exact ⟨_, h.put _ _, c.setPv z⟩
theorem Lk.setGa (h : Lk w g n v) (z : Nat) : Lk (w.setCell ⟨g, 13, none⟩ (.int .i64 ((z : Nat) : Int))) g n (putGa v z) := by
  obtain ⟨cs, h, c⟩ := h
  exact ⟨_, h.put _ _, c.setGa z⟩
theorem Lk.setGv (h : Lk w g n v) (z : Nat) : Lk (w.setCell ⟨g, 14, none⟩ (.int .i64 ((z : Nat) : Int))) g n (putGv v z) := by
  obtain ⟨cs, h, c⟩ := h
  exact ⟨_, h.put _ _, c.setGv z⟩
theorem Lk.setPl (h : Lk w g n v) {i : Nat} (hi : i < 8) (z : Nat) : Lk (w.setCell ⟨g, 1 + i, none⟩ (.int .i64 ((z : Nat) : Int))) g n (putPl v i z) := by
  obtain ⟨cs, h, c⟩ := h
  exact ⟨_, h.put _ _, c.setPl hi z⟩
end
theorem touch_one (w : World) (g i : Nat) (u : Value) : Touch (fun k => k = g) w (w.setCell ⟨g, i, none⟩ u) := (Touch.refl (fun k => k = g) w).setCell (Or.inl rfl) u
theorem below_undrew {B : Nat} {a b : World} (h : Below B a.drew b) : Below B a b := ⟨h.os, h.tape, h.output, h.size, h.block⟩

/-- What a beginning of a put (of what may be put) makes of a ring, and one of a get. -/
def bput (v : RF) (x : Nat) : RF := if v.pa = 0 then putPv (putPa v 1) x else v
def bget (v : RF) : RF := if v.ga = 0 then putGv (putGa v 4) 0 else v
theorem err1 : errV 47 1 = .iface 47 (.int .i64 1) := rfl
theorem err7 : errV 47 7 = .iface 47 (.int .i64 7) := rfl
theorem err0 : errV 47 0 = .nilIface := rfl
section
variable {g n : Nat} {v : RF}
set_option maxHeartbeats 4000000 in
theorem put_any (w : World) (hk : Lk w g n v) (x : Nat) (hx : x ≤ 1000) :
    Calls Tryd.prog 12 #[.pointer (some ⟨g, 0, none⟩), .int .i64 (x : Int)] w fun e w' =>
      e = .returned (errV 47 (if v.pa = 0 then 0 else 7)) ∧ Lk w' g n (bput v x) ∧ Touch (fun k => k = g) w w' := by
  have hx0 : ¬ (x : Int) < 0 := by omega
  have hx1 : ¬ 1000 < (x : Int) := by omega
  have f1 := hk.free 9
  have f2 := hk.free 10
  have f3 := hk.free 11
  have f4 := hk.free 12
  have f5 := hk.free 13
  have f6 := hk.free 14
  have c3 := hk.xpa
  have c4 := hk.xpv
  by_cases ha : v.pa = 0
  · have hb : bput v x = putPv (putPa v 1) x := by unfold bput; rw [if_pos ha]
    rw [if_pos ha, hb]
    rw [ha] at c3
    have H3 := Lib.hid (show Lk _ g n (putPv (putPa v 1) x) from ((hk.setPa 1).setPv x))
    clear hk hb ha
    go_enter Tryd.func12, Tryd.ntmps12
    go_wp2
    go_ret
    exact ⟨rfl, H3.out, (((Touch.refl (fun k => k = g) w).setCell (Or.inl rfl) _).setCell (Or.inl rfl) _)⟩
  · have hb : bput v x = v := by unfold bput; rw [if_neg ha]
    rw [if_neg ha, hb, err7]
    have hI : ((v.pa : Int) != 0) = true := by simp; omega
    have HK := Lib.hid hk
    clear hk hb ha
    go_enter Tryd.func12, Tryd.ntmps12
    go_wp2
    go_ret
    exact ⟨rfl, HK.out, Touch.refl _ _⟩
set_option maxHeartbeats 4000000 in
/-- A value that may not be put. -/
theorem put_far (w : World) (hk : Lk w g n v) (x : Int) (hx : ¬ (0 ≤ x ∧ x ≤ 1000)) :
    Calls Tryd.prog 12 #[.pointer (some ⟨g, 0, none⟩), .int .i64 x] w fun e w' =>
      e = .returned (errV 47 1) ∧ Lk w' g n v ∧ Touch (fun k => k = g) w w' := by
  rw [err1]
  have HK := Lib.hid hk
  clear hk
  by_cases hx0 : x < 0
  · clear hx
    go_enter Tryd.func12, Tryd.ntmps12
    go_wp2
    go_ret
    exact ⟨rfl, HK.out, Touch.refl _ w⟩
  · have hx1 : 1000 < x := by omega
    clear hx
    go_enter Tryd.func12, Tryd.ntmps12
    go_wp2
    go_ret
    exact ⟨rfl, HK.out, Touch.refl _ w⟩
set_option maxHeartbeats 4000000 in
theorem get_any (w : World) (hk : Lk w g n v) :
    Calls Tryd.prog 10 #[.pointer (some ⟨g, 0, none⟩)] w fun e w' =>
      e = .returned (errV 47 (if v.ga = 0 then 0 else 7)) ∧ Lk w' g n (bget v) ∧ Touch (fun k => k = g) w w' := by
  have f1 := hk.free 9
  have f2 := hk.free 10
  have f3 := hk.free 11
  have f4 := hk.free 12
  have f5 := hk.free 13
  have f6 := hk.free 14
  have c5 := hk.xga
  have c6 := hk.xgv
  by_cases ha : v.ga = 0
  · have hb : bget v = putGv (putGa v 4) 0 := by unfold bget; rw [if_pos ha]
    rw [if_pos ha, hb]
    rw [ha] at c5
    have H3 := Lib.hid (show Lk _ g n (putGv (putGa v 4) 0) from ((hk.setGa 4).setGv 0))
    clear hk hb ha
    go_enter Tryd.func10, Tryd.ntmps10
    go_wp2
    go_ret
    exact ⟨rfl, H3.out, (((Touch.refl (fun k => k = g) w).setCell (Or.inl rfl) _).setCell (Or.inl rfl) _)⟩
  · have hb : bget v = v := by unfold bget; rw [if_neg ha]
    rw [if_neg ha, hb, err7]
    have hI : ((v.ga : Int) != 0) = true := by simp; omega
    have HK := Lib.hid hk
    clear hk hb ha
    go_enter Tryd.func10, Tryd.ntmps10
    go_wp2
    go_ret
    exact ⟨rfl, HK.out, Touch.refl _ _⟩

/-- A step of who puts: whether it is done, whether it was put, what is wrong; the ring behind it. -/
def spD (n : Nat) (v : RF) : Bool := if v.pa = 1 then decide (v.tl = v.hd + n) else if v.pa = 3 then true else false
def spP (v : RF) : Bool := decide (v.pa = 3)
def spE (v : RF) : Int := if v.pa = 0 then 7 else 0
def spS (n : Nat) (v : RF) : RF :=
  if v.pa = 0 then v
  else if v.pa = 1 then (if v.tl = v.hd + n then putPv (putPa v 0) 0 else putPa v 2)
  else if v.pa = 2 then putPa (putPl v (v.tl % n) v.pv) 3
  else putPv (putPa (putTl v (v.tl + 1)) 0) 0
/-- A step of who gets: whether it is done, what is got, what is wrong; the ring behind it. -/
def sgD (v : RF) : Bool := if v.ga = 4 then decide (v.tl = v.hd) else if v.ga = 6 then true else false
def sgG (v : RF) : Int := if v.ga = 4 then (if v.tl = v.hd then -1 else 0) else if v.ga = 6 then (v.gv : Int) else 0
def sgE (v : RF) : Int := if v.ga = 0 then 7 else 0
def sgS (n : Nat) (v : RF) : RF :=
  if v.ga = 0 then v
  else if v.ga = 4 then (if v.tl = v.hd then putGv (putGa v 0) 0 else putGa v 5)
  else if v.ga = 5 then putGv (putGa v 6) (v.pl (v.hd % n))
  else putGv (putGa (putHd v (v.hd + 1)) 0) 0
theorem rem_of (t n : Nat) : (t : Int).tmod (n : Int) = ((t % n : Nat) : Int) := (Int.ofNat_tmod t n).symm
set_option maxHeartbeats 8000000 in
theorem stepPut_any (w : World) (hk : Lk w g n v) (h1 : 1 ≤ n) (h8 : n ≤ 8) (hpa : v.pa ≤ 3) (hlo : v.hd ≤ v.tl) (hhi : v.tl ≤ 1000000) :
    Calls Tryd.prog 7 #[.pointer (some ⟨g, 0, none⟩)] w fun e w' =>
      e = .returned (.tuple #[.bool (spD n v), .bool (spP v), errV 47 (spE v)]) ∧ Lk w' g n (spS n v) ∧ Touch (fun k => k = g) w w' := by
  have f1 := hk.free 9
  have f2 := hk.free 10
  have f3 := hk.free 11
  have f4 := hk.free 12
  have f5 := hk.free 13
  have f6 := hk.free 14
  have c0 := hk.xnum
  have c1 := hk.xhd
  have c2 := hk.xtl
  have c3 := hk.xpa
  have c4 := hk.xpv
  have c5 := hk.xga
  have c6 := hk.xgv
  obtain ha | ha | ha | ha : v.pa = 0 ∨ v.pa = 1 ∨ v.pa = 2 ∨ v.pa = 3 := by omega
  · have e1 : spD n v = false := by unfold spD; rw [if_neg (by omega), if_neg (by omega)]
    have e2 : spP v = false := decide_eq_false (by omega)
    have e3 : spE v = 7 := by unfold spE; rw [if_pos ha]
    have e4 : spS n v = v := by unfold spS; rw [if_pos ha]
    rw [e1, e2, e3, e4, err7]
    rw [ha] at c3
    have HK := Lib.hid hk
    clear hk ha e1 e2 e3 e4 hpa hlo hhi h1 h8
    go_enter Tryd.func7, Tryd.ntmps7
    go_wp2
    go_ret3
    exact ⟨rfl, HK.out, Touch.refl _ _⟩
  · have e2 : spP v = false := decide_eq_false (by omega)
    have e3 : spE v = 0 := by unfold spE; rw [if_neg (by omega)]
    rw [e2, e3, err0]
    rw [ha] at c3
    have hw : IntKind.i64.wrap ((v.tl : Int) - (v.hd : Int)) = ((v.tl - v.hd : Nat) : Int) := (IntWalk.i64_in _ (by omega)).trans (by omega)
    by_cases hf : v.tl = v.hd + n
    · have e1 : spD n v = true := by unfold spD; rw [if_pos ha]; exact decide_eq_true hf
      have e4 : spS n v = putPv (putPa v 0) 0 := by unfold spS; rw [if_neg (by omega), if_pos ha, if_pos hf]
      rw [e1, e4]
      have hd : v.tl - v.hd = n := by omega
      rw [hd] at hw
      have H3 := Lib.hid (show Lk _ g n (putPv (putPa v 0) 0) from ((hk.setPa 0).setPv 0))
      clear hk ha e1 e2 e3 e4 hpa hlo hhi h1 h8 hf hd
      go_enter Tryd.func7, Tryd.ntmps7
      go_wp2_with fail
      go_quiet (fail)
      go_wp2
      go_ret3
      exact ⟨rfl, H3.out, ((((Touch.refl (fun k => k = g) w).drewN _).setCell (Or.inl rfl) _).setCell (Or.inl rfl) _)⟩
    · have e1 : spD n v = false := by unfold spD; rw [if_pos ha]; exact decide_eq_false hf
      have e4 : spS n v = putPa v 2 := by unfold spS; rw [if_neg (by omega), if_pos ha, if_neg hf]
      rw [e1, e4]
      obtain ⟨d, hd⟩ : ∃ d, d = v.tl - v.hd := ⟨_, rfl⟩
      rw [← hd] at hw
      have hI : ((d : Int) == (n : Int)) = false := by simp; omega
      have hI2 : (d == n) = false := by simp; omega
      have H3 := Lib.hid (show Lk _ g n (putPa v 2) from (hk.setPa 2))
      clear hk ha e1 e2 e3 e4 hpa hlo hhi h1 h8 hf hd
      go_enter Tryd.func7, Tryd.ntmps7
      go_wp2_with fail
      go_quiet (fail)
      go_wp2
      go_ret3
      exact ⟨rfl, H3.out, (((Touch.refl (fun k => k = g) w).drewN _).setCell (Or.inl rfl) _)⟩
  · have e1 : spD n v = false := by unfold spD; rw [if_neg (by omega), if_neg (by omega)]
    have e2 : spP v = false := decide_eq_false (by omega)
    have e3 : spE v = 0 := by unfold spE; rw [if_neg (by omega)]
    have e4 : spS n v = putPa (putPl v (v.tl % n) v.pv) 3 := by unfold spS; rw [if_neg (by omega), if_neg (by omega), if_pos ha]
    rw [e1, e2, e3, e4, err0]
    rw [ha] at c3
    obtain ⟨m, hm⟩ : ∃ m, m = v.tl % n := ⟨_, rfl⟩
    have hm8 : m < 8 := by have := Nat.mod_lt v.tl (show 0 < n by omega); omega
    have hr : (v.tl : Int).tmod (n : Int) = (m : Int) := by rw [hm]; exact rem_of _ _
    have hw : IntKind.i64.wrap (m : Int) = (m : Int) := IntWalk.i64_in _ (by omega)
    have hn0 : ((n : Int) == 0) = false := by simp; omega
    have hnz : ¬ (n : Int) = 0 := by omega
    have hm8I : (m : Int) < 8 := by omega
    have f7 := hk.free (1 + m)
    have c7 := hk.xpl hm8
    rw [← hm]
    have H3 := Lib.hid (show Lk _ g n (putPa (putPl v m v.pv) 3) from ((hk.setPl hm8 v.pv).setPa 3))
    clear hk ha e1 e2 e3 e4 hpa hlo hhi h1 h8 hm
    go_enter Tryd.func7, Tryd.ntmps7
    go_wp2_with fail
    go_region_with fail
    all_goals
      go_wp2
      go_ret3
      exact ⟨rfl, H3.out, (((Touch.refl (fun k => k = g) w).drew.setCell (Or.inl rfl) _).setCell (Or.inl rfl) _)⟩
  · have e1 : spD n v = true := by unfold spD; rw [if_neg (by omega), if_pos (by omega)]
    have e2 : spP v = true := decide_eq_true ha
    have e3 : spE v = 0 := by unfold spE; rw [if_neg (by omega)]
    have e4 : spS n v = putPv (putPa (putTl v (v.tl + 1)) 0) 0 := by unfold spS; rw [if_neg (by omega), if_neg (by omega), if_neg (by omega)]
    rw [e1, e2, e3, e4, err0]
    rw [ha] at c3
    have hw : IntKind.i64.wrap ((v.tl : Int) + 1) = ((v.tl + 1 : Nat) : Int) := (IntWalk.i64_in _ (by omega)).trans (by omega)
    have H3 := Lib.hid (show Lk _ g n (putPv (putPa (putTl v (v.tl + 1)) 0) 0) from (((hk.setTl (v.tl + 1)).setPa 0).setPv 0))
    clear hk ha e1 e2 e3 e4 hpa hlo hhi h1 h8
    generalize ((v.tl + 1 : Nat) : Int) = m at hw H3
    go_enter Tryd.func7, Tryd.ntmps7
    go_wp2
    go_ret3
    exact ⟨rfl, H3.out, ((((Touch.refl (fun k => k = g) w).setCell (Or.inl rfl) _).setCell (Or.inl rfl) _).setCell (Or.inl rfl) _)⟩
set_option maxHeartbeats 8000000 in
theorem stepGet_any (w : World) (hk : Lk w g n v) (h1 : 1 ≤ n) (h8 : n ≤ 8) (hga : v.ga = 0 ∨ v.ga = 4 ∨ v.ga = 5 ∨ v.ga = 6) (hhi : v.hd ≤ 1000000) :
    Calls Tryd.prog 9 #[.pointer (some ⟨g, 0, none⟩)] w fun e w' =>
      e = .returned (.tuple #[.bool (sgD v), .int .i64 (sgG v), errV 47 (sgE v)]) ∧ Lk w' g n (sgS n v) ∧ Touch (fun k => k = g) w w' := by
  have f1 := hk.free 9
  have f2 := hk.free 10
  have f3 := hk.free 11
  have f4 := hk.free 12
  have f5 := hk.free 13
  have f6 := hk.free 14
  have c0 := hk.xnum
  have c1 := hk.xhd
  have c2 := hk.xtl
  have c3 := hk.xpa
  have c4 := hk.xpv
  have c5 := hk.xga
  have c6 := hk.xgv
  rcases hga with ha | ha | ha | ha
  · have e1 : sgD v = false := by unfold sgD; rw [if_neg (by omega), if_neg (by omega)]
    have e2 : sgG v = 0 := by unfold sgG; rw [if_neg (by omega), if_neg (by omega)]
    have e3 : sgE v = 7 := by unfold sgE; rw [if_pos ha]
    have e4 : sgS n v = v := by unfold sgS; rw [if_pos ha]
    rw [e1, e2, e3, e4, err7]
    rw [ha] at c5
    have HK := Lib.hid hk
    clear hk ha e1 e2 e3 e4 hhi h1 h8
    go_enter Tryd.func9, Tryd.ntmps9
    go_wp2
    go_ret3
    exact ⟨rfl, HK.out, Touch.refl _ _⟩
  · have e3 : sgE v = 0 := by unfold sgE; rw [if_neg (by omega)]
    rw [e3, err0]
    rw [ha] at c5
    by_cases hf : v.tl = v.hd
    · have e1 : sgD v = true := by unfold sgD; rw [if_pos ha]; exact decide_eq_true hf
      have e2 : sgG v = -1 := by unfold sgG; rw [if_pos ha, if_pos hf]
      have e4 : sgS n v = putGv (putGa v 0) 0 := by unfold sgS; rw [if_neg (by omega), if_pos ha, if_pos hf]
      rw [e1, e2, e4]
      rw [hf] at c2
      have H3 := Lib.hid (show Lk _ g n (putGv (putGa v 0) 0) from ((hk.setGa 0).setGv 0))
      clear hk ha e1 e2 e3 e4 hhi h1 h8 hf
      go_enter Tryd.func9, Tryd.ntmps9
      go_wp2_with fail
      go_quiet (fail)
      go_wp2
      go_ret3
      exact ⟨rfl, H3.out, ((((Touch.refl (fun k => k = g) w).drewN _).setCell (Or.inl rfl) _).setCell (Or.inl rfl) _)⟩
    · have e1 : sgD v = false := by unfold sgD; rw [if_pos ha]; exact decide_eq_false hf
      have e2 : sgG v = 0 := by unfold sgG; rw [if_pos ha, if_neg hf]
      have e4 : sgS n v = putGa v 5 := by unfold sgS; rw [if_neg (by omega), if_pos ha, if_neg hf]
      rw [e1, e2, e4]
      have hI : ((v.tl : Int) == (v.hd : Int)) = false := by simp; omega
      have hI2 : (v.tl == v.hd) = false := by simp; omega
      have H3 := Lib.hid (show Lk _ g n (putGa v 5) from (hk.setGa 5))
      clear hk ha e1 e2 e3 e4 hhi h1 h8 hf
      go_enter Tryd.func9, Tryd.ntmps9
      go_wp2_with fail
      go_quiet (fail)
      go_wp2
      go_ret3
      exact ⟨rfl, H3.out, (((Touch.refl (fun k => k = g) w).drewN _).setCell (Or.inl rfl) _)⟩
  · have e1 : sgD v = false := by unfold sgD; rw [if_neg (by omega), if_neg (by omega)]
    have e2 : sgG v = 0 := by unfold sgG; rw [if_neg (by omega), if_neg (by omega)]
    have e3 : sgE v = 0 := by unfold sgE; rw [if_neg (by omega)]
    have e4 : sgS n v = putGv (putGa v 6) (v.pl (v.hd % n)) := by unfold sgS; rw [if_neg (by omega), if_neg (by omega), if_pos ha]
    rw [e1, e2, e3, e4, err0]
    rw [ha] at c5
    obtain ⟨m, hm⟩ : ∃ m, m = v.hd % n := ⟨_, rfl⟩
    have hm8 : m < 8 := by have := Nat.mod_lt v.hd (show 0 < n by omega); omega
    have hr : (v.hd : Int).tmod (n : Int) = (m : Int) := by rw [hm]; exact rem_of _ _
    have hw : IntKind.i64.wrap (m : Int) = (m : Int) := IntWalk.i64_in _ (by omega)
    have hn0 : ((n : Int) == 0) = false := by simp; omega
    have hnz : ¬ (n : Int) = 0 := by omega
    have hm8I : (m : Int) < 8 := by omega
    have c7 := hk.xpl hm8
    rw [← hm]
    have H3 := Lib.hid (show Lk _ g n (putGv (putGa v 6) (v.pl m)) from ((hk.setGa 6).setGv (v.pl m)))
    clear hk ha e1 e2 e3 e4 hhi h1 h8 hm
    go_enter Tryd.func9, Tryd.ntmps9
    go_wp2_with fail
    go_region_with fail
    all_goals
      go_wp2
      go_ret3
      exact ⟨rfl, H3.out, (((Touch.refl (fun k => k = g) w).drew.setCell (Or.inl rfl) _).setCell (Or.inl rfl) _)⟩
  · have e1 : sgD v = true := by unfold sgD; rw [if_neg (by omega), if_pos (by omega)]
    have e2 : sgG v = (v.gv : Int) := by unfold sgG; rw [if_neg (by omega), if_pos ha]
    have e3 : sgE v = 0 := by unfold sgE; rw [if_neg (by omega)]
    have e4 : sgS n v = putGv (putGa (putHd v (v.hd + 1)) 0) 0 := by unfold sgS; rw [if_neg (by omega), if_neg (by omega), if_neg (by omega)]
    rw [e1, e2, e3, e4, err0]
    rw [ha] at c5
    have hw : IntKind.i64.wrap ((v.hd : Int) + 1) = ((v.hd + 1 : Nat) : Int) := (IntWalk.i64_in _ (by omega)).trans (by omega)
    have H3 := Lib.hid (show Lk _ g n (putGv (putGa (putHd v (v.hd + 1)) 0) 0) from (((hk.setHd (v.hd + 1)).setGa 0).setGv 0))
    clear hk ha e1 e2 e3 e4 hhi h1 h8
    generalize ((v.hd + 1 : Nat) : Int) = m at hw H3
    go_enter Tryd.func9, Tryd.ntmps9
    go_wp2
    go_ret3
    exact ⟨rfl, H3.out, ((((Touch.refl (fun k => k = g) w).setCell (Or.inl rfl) _).setCell (Or.inl rfl) _).setCell (Or.inl rfl) _)⟩
end

/-- The cells of a new ring. -/
def rz : RF := ⟨fun _ => 0, 0, 0, 0, 0, 0, 0⟩
theorem zero_row : (Tryd.prog.info? 52).map (fun i => (i.zero, i.size)) = some (some (.agg (row (List.replicate 15 0))), 15) := by kernel_rfl
theorem new_cel (n : Nat) : Cel ((row (List.replicate 15 0)).setIfInBounds 0 (.int .i64 n)) n rz := by
  have h : ∀ k, k < 15 → (List.replicate 15 (0 : Int))[k]? = some 0 := by decide
  have hs : (row (List.replicate 15 0)).size = 15 := by rw [row_size]; rfl
  have hz : ∀ k, 1 ≤ k → k < 15 → ((row (List.replicate 15 0)).setIfInBounds 0 (.int .i64 n))[k]? = some (.int .i64 0) := fun k h1 h2 => by
    rw [set_off (by omega)]
    exact row_get (h k h2)
  exact ⟨by simpa using hs, set_at (by omega), hz _ (by omega) (by omega), hz _ (by omega) (by omega), hz _ (by omega) (by omega), hz _ (by omega) (by omega), hz _ (by omega) (by omega), hz _ (by omega) (by omega), fun i hi => hz _ (by omega) (by omega)⟩
set_option maxHeartbeats 4000000 in
theorem new_bad (n : Int) (h : ¬ (1 ≤ n ∧ n ≤ 8)) (w : World) : Calls Tryd.prog 4 #[.int .i64 n] w fun e w' => e = .returned (.tuple #[.pointer none, errV 47 1]) ∧ Below w.heap.size w w' := by
  by_cases h1 : n < 1
  · go_enter Tryd.func4, Tryd.ntmps4
    go_wp2
    go_ret2
    exact ⟨rfl, Below.refl _ _⟩
  · have h2 : 8 < n := by omega
    go_enter Tryd.func4, Tryd.ntmps4
    go_wp2
    go_ret2
    exact ⟨rfl, Below.refl _ _⟩
set_option maxHeartbeats 4000000 in
theorem new_any (n : Nat) (h1 : 1 ≤ n) (h8 : n ≤ 8) (w : World) : Calls Tryd.prog 4 #[.int .i64 n] w fun e w' => e = .returned (.tuple #[.pointer (some ⟨w.heap.size, 0, none⟩), .nilIface]) ∧ Lk w' w.heap.size n rz ∧ Below w.heap.size w w' := by
  have h1I : ¬ (n : Int) < 1 := by omega
  have h4I : ¬ 8 < (n : Int) := by omega
  obtain ⟨zs, hzs⟩ : ∃ zs, zs = row (List.replicate 15 0) := ⟨_, rfl⟩
  have hz := (zero_of_info zero_row).1
  rw [← hzs] at hz
  have hs : zs.size = 15 := by rw [hzs, row_size]; rfl
  have hne : ¬ zs = #[] := fun e => by rw [e] at hs; cases hs
  have hc := new_cel n
  rw [← hzs] at hc
  have HC := Lib.hid hc
  clear hc hzs
  go_enter Tryd.func4, Tryd.ntmps4
  go_wp2
  go_ret2
  exact ⟨rfl, ⟨_, Block.made w _ _, HC.out⟩, (Below.refl w.heap.size w).alloc (Nat.le_refl _) _⟩
end Go.Proofs.YtihidjbepjeceaaDoor.Ring
