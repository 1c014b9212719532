/-
  A stack beside what was there, with what is known of its numbers.
-/
import Derived.Test.YtjcoihhmlblkbaaDoorStackBeg
namespace Go.Proofs.YtjcoihhmlblkbaaDoor.Stk
open Go.RowKit

section
variable {n T : Nat} {tg : Bool} {v : KS} {p : Nat}
theorem KLoc.later (h : KLoc n T v) {U : Nat} (hU : T ≤ U) : KLoc n U v := ⟨⟨h.tt.1, by have := h.tt.2; omega⟩, h.tn, h.nx, h.ln, h.m, h.sn, h.sx⟩
/-- Hand p alone turns. -/
theorem KLoc.hand (h : KLoc n T v) {v' : KS} (ht : 0 ≤ v'.tt ∧ v'.tt ≤ T) (hn : -1 ≤ v'.tn ∧ v'.tn < 4) (hx : ∀ i, i < 4 → -1 ≤ v'.nx i ∧ v'.nx i < 4)
    (ho : ∀ q, q ≠ p → v'.a q = v.a q ∧ v'.m q = v.m q ∧ v'.sn q = v.sn q ∧ v'.sx q = v.sx q)
    (h5 : v'.a p ≤ 5) (h1 : v'.a p = 1 ∨ v'.a p = 2 → v'.m p < 4) (h2 : v'.a p = 4 ∨ v'.a p = 5 → 0 ≤ v'.sn p ∧ v'.sn p < 4) (h3 : v'.a p = 5 → -1 ≤ v'.sx p ∧ v'.sx p < 4) : KLoc n T v' := by
  refine ⟨ht, hn, hx, fun q hq => ?_, fun q hq ha => ?_, fun q hq ha => ?_, fun q hq ha => ?_⟩
  all_goals
    by_cases e : q = p
    · subst e; first | exact h5 | exact h1 ha | exact h2 ha | exact h3 ha
    · obtain ⟨o1, o2, o3, o4⟩ := ho q e
      first
        | (rw [o1]; exact h.ln q hq)
        | (rw [o1] at ha; rw [o2]; exact h.m q hq ha)
        | (rw [o1] at ha; rw [o3]; exact h.sn q hq ha)
        | (rw [o1] at ha; rw [o4]; exact h.sx q hq ha)
theorem KLoc.clr (h : KLoc n T v) (a m : Nat) (ha : a = 0 ∨ a = 3 ∨ a = 1 ∧ m < 4) : KLoc n T (kclr v p a m) := by
  have ea : (kclr v p a m).a p = a := rput_same _ _ _
  have em : (kclr v p a m).m p = m := rput_same _ _ _
  refine h.hand (p := p) h.tt h.tn h.nx (fun q hq => ⟨rput_other hq, rput_other hq, rput_other hq, rput_other hq⟩) ?_ ?_ ?_ ?_
  · rw [ea]; omega
  · rw [ea, em]; omega
  · rw [ea]; omega
  · rw [ea]; omega
theorem KLoc.chg (h : KLoc n T v) (tg : Bool) {z : Int} (hz : -1 ≤ z ∧ z < 4) : KLoc n (T + 1) (kchg tg v z) := by
  refine ⟨?_, hz, h.nx, h.ln, h.m, h.sn, h.sx⟩
  have h1 := h.tt
  show 0 ≤ (if tg then v.tt + 1 else v.tt) ∧ (if tg then v.tt + 1 else v.tt) ≤ ((T + 1 : Nat) : Int)
  cases tg
  · simp; omega
  · simp; omega
theorem KLoc.used (h : KLoc n T v) (u : Nat → Bool) : KLoc n T { v with u := u } := ⟨h.tt, h.tn, h.nx, h.ln, h.m, h.sn, h.sx⟩
theorem KLoc.push (h : KLoc n T v) {k : Nat} (hk : k < 4) (x : Int) : KLoc n T (kpush v p x k) :=
  have h1 := h.clr (p := p) 1 k (Or.inr (Or.inr ⟨rfl, hk⟩))
  ⟨h1.tt, h1.tn, h1.nx, h1.ln, h1.m, h1.sn, h1.sx⟩
theorem KLoc.do' (h : KLoc n T v) (tg : Bool) (hp : p < n) (ha : v.a p ≠ 0) : KLoc n (T + 1) (kdo tg v p) := by
  have hL := h.later (Nat.le_succ T)
  have h5 := h.ln p hp
  unfold kdo
  by_cases c1 : v.a p = 1
  · rw [if_pos c1]
    have hm := h.m p hp (Or.inl c1)
    have ea : (kdo1 v p).a p = 2 := rput_same _ _ _
    refine hL.hand (p := p) hL.tt h.tn (fun i hi => ?_) (fun q hq => ⟨rput_other hq, rfl, rput_other hq, rfl⟩) ?_ ?_ ?_ ?_
    · show -1 ≤ rput v.nx (v.m p) v.tn i ∧ rput v.nx (v.m p) v.tn i < 4
      by_cases e : i = v.m p
      · rw [e, rput_same]; exact h.tn
      · rw [rput_other e]; exact h.nx i hi
    · rw [ea]; omega
    · intro _; exact hm
    · rw [ea]; omega
    · rw [ea]; omega
  rw [if_neg c1]
  by_cases c2 : v.a p = 2
  · rw [if_pos c2]
    have hm := h.m p hp (Or.inr c2)
    split
    · exact h.chg tg (by omega)
    · exact hL.clr 1 _ (Or.inr (Or.inr ⟨rfl, hm⟩))
  rw [if_neg c2]
  by_cases c3 : v.a p = 3
  · rw [if_pos c3]
    split
    · have ea : (ksee v p).a p = 3 := c3
      refine hL.hand (p := p) hL.tt h.tn h.nx (fun q hq => ⟨rfl, rfl, rput_other hq, rfl⟩) ?_ ?_ ?_ ?_
      all_goals rw [ea]; omega
    · rename_i hne
      have ea : (kat (ksee v p) p 4).a p = 4 := rput_same _ _ _
      have es : (kat (ksee v p) p 4).sn p = v.tn := rput_same _ _ _
      have ht := h.tn
      refine hL.hand (p := p) hL.tt h.tn h.nx (fun q hq => ⟨rput_other hq, rfl, rput_other hq, rfl⟩) ?_ ?_ ?_ ?_
      · rw [ea]; omega
      · rw [ea]; omega
      · rw [es]; intro _; omega
      · rw [ea]; omega
  rw [if_neg c3]
  by_cases c4 : v.a p = 4
  · rw [if_pos c4]
    have hs := h.sn p hp (Or.inl c4)
    have ea : (kdo4 v p).a p = 5 := rput_same _ _ _
    have es : (kdo4 v p).sx p = v.nx (v.sn p).toNat := rput_same _ _ _
    refine hL.hand (p := p) hL.tt h.tn h.nx (fun q hq => ⟨rput_other hq, rfl, rfl, rput_other hq⟩) ?_ ?_ ?_ ?_
    · rw [ea]; omega
    · rw [ea]; omega
    · intro _; exact hs
    · rw [es]; intro _; exact h.nx _ (by omega)
  rw [if_neg c4]
  have c5 : v.a p = 5 := by omega
  have hx := h.sx p hp c5
  split
  · exact (h.chg tg hx).used _
  · exact hL.clr 3 0 (Or.inr (Or.inl rfl))
theorem KLoc.step (h : KLoc n T v) (tg : Bool) (hp : p < n) (ha : v.a p ≠ 0) : KLoc n (T + 1) (kstep tg v p) := by
  unfold kstep
  split
  · exact (h.do' tg hp ha).clr 0 0 (Or.inl rfl)
  · exact h.do' tg hp ha
theorem stp_some {p : Int} (h : stpE n v p = 0) : ∃ q : Nat, p = (q : Int) ∧ q < n ∧ v.a q ≠ 0 := by
  unfold stpE at h
  split at h
  · omega
  · rename_i h1
    split at h
    · omega
    · rename_i h2
      exact ⟨p.toNat, by omega, by omega, h2⟩
theorem KLoc.stp (h : KLoc n T v) (tg : Bool) (p : Int) : KLoc n (T + 1) (stpS n tg v p) := by
  by_cases he : stpE n v p = 0
  · obtain ⟨q, rfl, hq, ha⟩ := stp_some he
    unfold stpS
    rw [if_pos he]
    exact h.step tg hq ha
  · unfold stpS
    rw [if_neg he]
    exact h.later (Nat.le_succ _)
theorem KLoc.beg (h : KLoc n T v) (p x : Int) : KLoc n T (begS n v p x) := by
  unfold begS
  split
  · rename_i he
    split
    · exact h.clr 3 0 (Or.inr (Or.inl rfl))
    · rename_i hx
      refine h.push ?_ x
      have h4 := kfree_le v.u
      unfold begE at he
      repeat' split at he
      all_goals omega
  · exact h
end
/-- Since w nothing has turned but new memory; in it a stack for n hands is as v says. -/
structure LkAt (w wr : World) (g n T : Nat) (tg : Bool) (v : KS) : Prop where
  new : w.heap.size ≤ g
  lk : Lk wr g n tg v
  below : Below w.heap.size w wr
  ok : KLoc n T v
  pos : 1 ≤ n
  four : n ≤ 4
section
variable {w wr w' : World} {g n T : Nat} {tg : Bool} {v v' : KS}
theorem LkAt.turn (h : LkAt w wr g n T tg v) (hk : Lk w' g n tg v') (ht : Touch (fun k => k = g) wr w') {T' : Nat} (ha : KLoc n T' v') : LkAt w w' g n T' tg v' :=
  ⟨h.new, hk, h.below.trans (ht.below h.below.size fun _ hi => hi ▸ h.new), ha, h.pos, h.four⟩
theorem LkAt.made (h : LkAt w wr g n T tg v) (o : Obj) : LkAt w (wr.alloc o) g n T tg v := ⟨h.new, h.lk.alloc o, h.below.alloc h.below.size o, h.ok, h.pos, h.four⟩
theorem LkAt.on (h : LkAt w wr g n T tg v) {B : Nat} (hb : Below B wr w') (hB : wr.heap.size ≤ B) : LkAt w w' g n T tg v :=
  ⟨h.new, h.lk.below (hb.mono hB) h.lk.lt, h.below.trans (hb.mono (Nat.le_trans h.below.size hB)), h.ok, h.pos, h.four⟩
theorem LkAt.touch {O : Nat → Prop} (h : LkAt w wr g n T tg v) (ht : Touch O wr w') (hO : ∀ k, O k → w.heap.size ≤ k ∧ k ≠ g) : LkAt w w' g n T tg v :=
  ⟨h.new, h.lk.touch ht fun e => (hO g e).2 rfl, h.below.trans (ht.below h.below.size fun i hi => (hO i hi).1), h.ok, h.pos, h.four⟩
theorem LkAt.later (h : LkAt w wr g n T tg v) {U : Nat} (hU : T ≤ U) : LkAt w wr g n U tg v := ⟨h.new, h.lk, h.below, h.ok.later hU, h.pos, h.four⟩
theorem pushT (h : LkAt w wr g n T tg v) (p x : Int) (hx : 0 ≤ x) (hx2 : x ≤ 1000) :
    Calls Tryd.prog 18 #[.pointer (some ⟨g, 0, none⟩), .int .i64 p, .int .i64 x] wr fun e w' => e = .returned (errV 65 (begE n v p x)) ∧ LkAt w w' g n T tg (begS n v p x) ∧ Touch (fun k => k = g) wr w' :=
  (push_any wr h.lk h.four p x hx hx2).mono fun _ _ ⟨he, hk, ht⟩ => ⟨he, h.turn hk ht (h.ok.beg p x), ht⟩
theorem pushF (h : LkAt w wr g n T tg v) (p x : Int) (hx : 1000 < x) :
    Calls Tryd.prog 18 #[.pointer (some ⟨g, 0, none⟩), .int .i64 p, .int .i64 x] wr fun e w' => e = .returned (errV 65 1) ∧ LkAt w w' g n T tg v ∧ Touch (fun k => k = g) wr w' :=
  (push_far wr h.lk p x hx).mono fun _ _ ⟨he, hk, ht⟩ => ⟨he, h.turn hk ht h.ok, ht⟩
theorem popT (h : LkAt w wr g n T tg v) (p x : Int) (hx : x < 0) :
    Calls Tryd.prog 20 #[.pointer (some ⟨g, 0, none⟩), .int .i64 p] wr fun e w' => e = .returned (errV 65 (begE n v p x)) ∧ LkAt w w' g n T tg (begS n v p x) ∧ Touch (fun k => k = g) wr w' :=
  (pop_any wr h.lk h.four p x hx).mono fun _ _ ⟨he, hk, ht⟩ => ⟨he, h.turn hk ht (h.ok.beg p x), ht⟩
theorem stepT (h : LkAt w wr g n T tg v) (hT : T ≤ 1000) (p : Int) :
    Calls Tryd.prog 22 #[.pointer (some ⟨g, 0, none⟩), .int .i64 p] wr fun e w' =>
      e = .returned (.tuple #[.bool (stpD n v p), .int .i64 (stpG n v p), errV 65 (stpE n v p)]) ∧ LkAt w w' g n (T + 1) tg (stpS n tg v p) ∧ Touch (fun k => k = g) wr w' :=
  (step_any wr h.lk h.four h.ok hT p).mono fun _ _ ⟨he, hk, ht⟩ => ⟨he, h.turn hk ht (h.ok.stp tg p), ht⟩
theorem atL (h : LkAt w wr g n T tg v) (p : Int) :
    Calls Tryd.prog 24 #[.pointer (some ⟨g, 0, none⟩), .int .i64 p] wr fun e w' => e = .returned (.int .i64 (lkAt n v p)) ∧ wr = w' :=
  at_any wr h.lk h.four p
theorem topL (h : LkAt w wr g n T tg v) :
    Calls Tryd.prog 23 #[.pointer (some ⟨g, 0, none⟩)] wr fun e w' => e = .returned (.tuple #[.int .i64 v.tn, .int .i64 v.tt]) ∧ ∃ i, w' = wr.drewN i :=
  top_any wr h.lk
theorem newL {w1 : World} (h : Below w.heap.size w w1) (tg : Bool) (h1 : 1 ≤ n) (h4 : n ≤ 4) : Calls Tryd.prog 16 #[.int .i64 n, .bool tg] w1 fun e w' => ∃ g, e = .returned (.tuple #[.pointer (some ⟨g, 0, none⟩), .nilIface]) ∧ LkAt w w' g n 0 tg knew :=
  (new_any n tg h1 h4 w1).mono fun _ _ ⟨he, hk, hb⟩ => ⟨_, he, h.size, hk, h.trans (hb.mono h.size), knew_ok n, h1, h4⟩
theorem newBad {w1 : World} (h : Below w.heap.size w w1) (z : Int) (tg : Bool) (hz : ¬ (1 ≤ z ∧ z ≤ 4)) : Calls Tryd.prog 16 #[.int .i64 z, .bool tg] w1 fun e w' => e = .returned (.tuple #[.pointer none, errV 65 1]) ∧ Below w.heap.size w w' :=
  (new_bad z tg hz w1).mono fun _ _ ⟨he, hb⟩ => ⟨he, h.trans (hb.mono h.size)⟩
end
end Go.Proofs.YtjcoihhmlblkbaaDoor.Stk
