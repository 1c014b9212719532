/-
  Texts merged: Close, TsoFactM, TsoFact.
-/
import Derived.Test.YtbbecncelehlkaaTsoGl
import Derived.Test.YtbbecncelehlkaaDekker
import Derived.Test.YtbbecncelehlkaaHas
import Derived.Test.YtbbecncelehlkaaTsoResults
/-
  All states that steps lead to, found one by one; what is asked of them is asked of each. Plain mathematics: it imports nothing of the translation.
-/
namespace Go.Proofs.Ytbbecncelehlkaa

/-- All that comes of what is to do, by so many looks. -/
def closeL {α : Type} [BEq α] (next : α → List α) : Nat → List α → List α → List α
  | 0, _, known => known
  | _ + 1, [], known => known
  | n + 1, x :: r, known =>
    let new := (next x).foldl (fun a y => if known.contains y || a.contains y then a else a ++ [y]) []
    closeL next n (r ++ new) (known ++ new)

theorem foldl_mem {α : Type} {P : α → Prop} {σ : Type} (f : α → σ → α) (h : ∀ a s, P a → P (f a s)) : ∀ (l : List σ) (a : α), P a → P (l.foldl f a)
  | [], _, ha => ha
  | s :: r, a, ha => foldl_mem f h r (f a s) (h a s ha)
end Go.Proofs.Ytbbecncelehlkaa

/-
  The closed fact of package tso's statements, reckoned: all states of two small programs, found one by one.
-/
namespace Go.Proofs.Ytbbecncelehlkaa

/-! ### A state of two hands and two words, written down -/
abbrev Ow := Int × Int × Nat × List (Nat × Int)
abbrev Cd := Ow × Ow × Int × Int
def dO (x : Ow) : Own := ⟨x.1, x.2.1, x.2.2.1, x.2.2.2⟩
def eO (x : Own) : Ow := (x.a, x.b, x.n, x.q)
theorem dO_eO (x : Own) : dO (eO x) = x := rfl
def decS (c : Cd) : TS := ⟨fun p => if p = 0 then dO c.1 else if p = 1 then dO c.2.1 else own0, fun d => if d = 0 then c.2.2.1 else if d = 1 then c.2.2.2 else 0⟩
def encS (s : TS) : Cd := (eO (s.o 0), eO (s.o 1), s.w 0, s.w 1)
/-- All that comes next. -/
def nextS (hs : List (List Ln)) (c : Cd) : List Cd := [encS (tstp hs (decS c) 0), encS (tcom (decS c) 0), encS (tstp hs (decS c) 1), encS (tcom (decS c) 1)]
def allT (hs : List (List Ln)) : List Cd := closeL (nextS hs) 2000 [encS ts0] [encS ts0]
def endC (hs : List (List Ln)) (c : Cd) : Bool := decide ((hs.getD 0 []).length ≤ c.1.2.2.1 ∧ c.1.2.2.2 = [] ∧ (hs.getD 1 []).length ≤ c.2.1.2.2.1 ∧ c.2.1.2.2.2 = [])
def toldC (hs : List (List Ln)) (c : Cd) : List Int := toldOf hs 2 (e16 (decS c))

theorem closeL_all {α : Type} [BEq α] {P : α → Prop} {next : α → List α} (h : ∀ c, P c → ∀ d ∈ next c, P d) : ∀ (n : Nat) (todo known : List α), (∀ c ∈ todo, P c) → (∀ c ∈ known, P c) → ∀ c ∈ closeL next n todo known, P c
  | 0, _, _, _, hk => by unfold closeL; exact hk
  | _ + 1, [], _, _, hk => by unfold closeL; exact hk
  | n + 1, x :: r, known, ht, hk => by
    unfold closeL
    have hx := ht x (by simp)
    have hnew : ∀ (l : List α) (a : List α), (∀ c ∈ l, P c) → (∀ c ∈ a, P c) → ∀ c ∈ l.foldl (fun a y => if known.contains y || a.contains y then a else a ++ [y]) a, P c := by
      intro l
      induction l with
      | nil => intro a _ ha; exact ha
      | cons y r ih =>
        intro a hl ha
        rw [List.foldl_cons]
        refine ih _ (fun c hc => hl c (by simp [hc])) fun c hc => ?_
        split at hc
        · exact ha c hc
        · rcases List.mem_append.1 hc with h1 | h1
          · exact ha c h1
          · rw [List.mem_singleton.1 h1]; exact hl y (by simp)
    have hn := hnew (next x) [] (h x hx) (by simp)
    refine closeL_all h n _ _ (fun c hc => ?_) fun c hc => ?_
    · rcases List.mem_append.1 hc with h1 | h1
      · exact ht c (by simp [h1])
      · exact hn c h1
    · rcases List.mem_append.1 hc with h1 | h1
      · exact hk c h1
      · exact hn c h1
theorem dec_enc {hs : List (List Ln)} (hl : hs.length = 2) {s : TS} (h : TOk 2 hs s) : decS (encS s) = s := by
  have e1 : (fun p => if p = 0 then dO (eO (s.o 0)) else if p = 1 then dO (eO (s.o 1)) else own0) = s.o := by
    funext p
    by_cases h0 : p = 0
    · rw [if_pos h0, h0, dO_eO]
    · by_cases h1 : p = 1
      · rw [if_neg h0, if_pos h1, h1, dO_eO]
      · rw [if_neg h0, if_neg h1, h.idle p (by omega)]
  have e2 : (fun d => if d = 0 then s.w 0 else if d = 1 then s.w 1 else 0) = s.w := by
    funext d
    by_cases h0 : d = 0
    · rw [if_pos h0, h0]
    · by_cases h1 : d = 1
      · rw [if_neg h0, if_pos h1, h1]
      · rw [if_neg h0, if_neg h1, h.wz d (by show (2 : Int).toNat ≤ d; have : (2 : Int).toNat = 2 := rfl; omega)]
  show (⟨fun p => if p = 0 then dO (eO (s.o 0)) else if p = 1 then dO (eO (s.o 1)) else own0, fun d => if d = 0 then s.w 0 else if d = 1 then s.w 1 else 0⟩ : TS) = s
  rw [e1, e2]
theorem endC_iff {hs : List (List Ln)} (hl : hs.length = 2) (s : TS) : endC hs (encS s) = true ↔ TEnd hs s := by
  unfold endC TEnd
  rw [decide_eq_true_eq]
  constructor
  · rintro ⟨a, b, c, d⟩ p hp
    obtain rfl | rfl : p = 0 ∨ p = 1 := by omega
    · exact ⟨a, b⟩
    · exact ⟨c, d⟩
  · intro h
    exact ⟨(h 0 (by omega)).1, (h 0 (by omega)).2, (h 1 (by omega)).1, (h 1 (by omega)).2⟩
theorem tso_list {hs : List (List Ln)} (hl : hs.length = 2) (hW : Well 2 hs) (hcl : ∀ c ∈ allT hs, ∀ d ∈ nextS hs c, d ∈ allT hs) (h0 : encS ts0 ∈ allT hs) {L : List (List Int)} (hL1 : ∀ c ∈ allT hs, endC hs c = true → toldC hs c ∈ L)
    (hL2 : ∀ t ∈ L, ∃ c ∈ allT hs, endC hs c = true ∧ toldC hs c = t) (hr : Rises L) {ts : List (List Int)} (h : TsoOf 2 hs ts) : ts = L := by
  have hin : ∀ s, TReach hs s → encS s ∈ allT hs := by
    intro s hs'
    induction hs' with
    | start => exact h0
    | step hr hp ih =>
      rename_i s p
      have e := dec_enc hl (hr.ok hW)
      have := hcl _ ih
      unfold nextS at this
      rw [e] at this
      obtain rfl | rfl : p = 0 ∨ p = 1 := by omega
      · exact this _ (by simp)
      · exact this _ (by simp)
    | come hr hp ih =>
      rename_i s p
      have e := dec_enc hl (hr.ok hW)
      have := hcl _ ih
      unfold nextS at this
      rw [e] at this
      obtain rfl | rfl : p = 0 ∨ p = 1 := by omega
      · exact this _ (by simp)
      · exact this _ (by simp)
  have hout : ∀ c ∈ allT hs, ∃ s, TReach hs s ∧ encS s = c := by
    have start : ∀ c ∈ [encS ts0], ∃ s, TReach hs s ∧ encS s = c := fun c hc => ⟨ts0, .start, (List.mem_singleton.1 hc).symm⟩
    refine closeL_all (P := fun c => ∃ s, TReach hs s ∧ encS s = c) ?_ 2000 _ _ start start
    rintro c ⟨s, hs', rfl⟩ d hd
    have e := dec_enc hl (hs'.ok hW)
    unfold nextS at hd
    rw [e] at hd
    simp only [List.mem_cons, List.not_mem_nil, or_false] at hd
    rcases hd with rfl | rfl | rfl | rfl
    · exact ⟨_, hs'.step (by omega), rfl⟩
    · exact ⟨_, hs'.come (by omega), rfl⟩
    · exact ⟨_, hs'.step (by omega), rfl⟩
    · exact ⟨_, hs'.come (by omega), rfl⟩
  refine rises_ext h.1 hr fun t => ?_
  rw [h.2 t]
  constructor
  · rintro ⟨s, h1, h2, rfl⟩
    have := hL1 _ (hin s h1) ((endC_iff hl s).2 h2)
    rwa [toldC, dec_enc hl (h1.ok hW)] at this
  · intro ht
    obtain ⟨c, hc, he, rfl⟩ := hL2 t ht
    obtain ⟨s, hs', rfl⟩ := hout c hc
    exact ⟨s, hs', (endC_iff hl s).1 he, by rw [toldC, dec_enc hl (hs'.ok hW)]⟩

/-! ### The two programs -/
def L4 : List (List Int) := [[1, 0, 1, 0, 1, 1], [1, 0, 1, 1, 1, 1], [1, 1, 1, 0, 1, 1], [1, 1, 1, 1, 1, 1]]
def L3 : List (List Int) := [[1, 0, 1, 1, 1, 1], [1, 1, 1, 0, 1, 1], [1, 1, 1, 1, 1, 1]]
theorem fact_check : check 2 (dekkerL false false) = 0 ∧ check 2 (dekkerL true true) = 0 := by decide
theorem closed_of {hs : List (List Ln)} (h : ((allT hs).all fun c => (nextS hs c).all fun d => decide (d ∈ allT hs)) = true) : ∀ c ∈ allT hs, ∀ d ∈ nextS hs c, d ∈ allT hs :=
  fun c hc d hd => of_decide_eq_true (List.all_eq_true.1 (List.all_eq_true.1 h c hc) d hd)
theorem fact4 {ts : List (List Int)} (h : TsoOf 2 (dekkerL false false) ts) : ts = L4 :=
  tso_list rfl (check_well fact_check.1) (closed_of (by decide +kernel)) (by decide +kernel) (by decide +kernel) (by decide +kernel) (by unfold Rises; decide +kernel) h
theorem fact3 {ts : List (List Int)} (h : TsoOf 2 (dekkerL true true) ts) : ts = L3 :=
  tso_list rfl (check_well fact_check.2) (closed_of (by decide +kernel)) (by decide +kernel) (by decide +kernel) (by decide +kernel) (by unfold Rises; decide +kernel) h
end Go.Proofs.Ytbbecncelehlkaa

/-
  The closed fact of package tso's statements.
-/
namespace Go.Proofs.Ytbbecncelehlkaa
open Go.RowKit

theorem both_any (w : World) : Calls Try.prog 16 #[] w fun e w' => ∃ v, e = .returned v ∧ Nums w' w'.heap.size v [1, 0, 1, 0, 1, 1] ∧ Below w.heap.size w w' := by
  go_enter Try.func16, Try.ntmps16
  go_wp2_with fail
  go_ret
  refine ⟨_, rfl, ?_, (Below.refl _ w).alloc (Nat.le_refl _) _⟩
  refine ⟨some ⟨w.heap.size, 0, none⟩, 6, rfl, by simp, fun _ => ⟨_, _, rfl, by simp, fun i z hz => ?_⟩⟩
  exact ((Block.made w 3 (row [1, 0, 1, 0, 1, 1])).cell (0 + i)).trans (by rw [Nat.zero_add]; exact row_get hz)


set_option maxHeartbeats 2000000 in
theorem tsoFact_any (w : World) : Calls Try.prog 8 #[] w fun e w' => e = .returned (.bool true) ∧ Below w.heap.size w w' := by
  go_enter Try.func8, Try.ntmps8
  go_wp2_with fail
  refine (dekker_any false false _).mono ?_
  rintro e w1 ⟨v, rfl, hh, hb1⟩
  have HH := Lib.hid hh
  obtain ⟨A, c, rfl, _, _⟩ := hh
  have HB1 := Lib.hid hb1
  clear hb1
  go_wp2_with fail
  refine (tresults_good 2 _ (dekkerL false false) w1 HH.out fact_check.1).mono ?_
  rintro e w2 ⟨v2, ts2, rfl, hl2, ht2, hb2⟩
  obtain rfl := fact4 ht2
  have HL2 := Lib.hid hl2
  have hl2' : Lsts w2 w2.heap.size v2 [[1, 0, 1, 0, 1, 1], [1, 0, 1, 1, 1, 1], [1, 1, 1, 0, 1, 1], [1, 1, 1, 1, 1, 1]] := hl2
  obtain ⟨A2, c2, rfl, _, _⟩ := hl2'
  have HB2 := Lib.hid (HB1.out.trans (hb2.mono HB1.out.size))
  clear hb2 hl2 ht2
  go_wp2_with fail
  refine (dekker_any true true _).mono ?_
  rintro e w3 ⟨v, rfl, hh, hb3⟩
  have HH3 := Lib.hid hh
  obtain ⟨A3, c3, rfl, _, _⟩ := hh
  have HB3 := Lib.hid hb3
  clear hb3
  go_wp2_with fail
  refine (tresults_good 2 _ (dekkerL true true) w3 HH3.out fact_check.2).mono ?_
  rintro e w4 ⟨v4, ts4, rfl, hl4, ht4, hb4⟩
  obtain rfl := fact3 ht4
  have HL4 := Lib.hid hl4
  have hl4' : Lsts w4 w4.heap.size v4 [[1, 0, 1, 1, 1, 1], [1, 1, 1, 0, 1, 1], [1, 1, 1, 1, 1, 1]] := hl4
  obtain ⟨A4, c4, rfl, _, _⟩ := hl4'
  have H24 := Lib.hid (HB3.out.trans (hb4.mono HB3.out.size))
  clear hb4 hl4 ht4
  go_wp2_with fail
  refine (both_any _).mono ?_
  rintro e w5 ⟨v5, rfl, hn5, hb5⟩
  have HN5 := Lib.hid hn5
  obtain ⟨A5, c5, rfl, _, _⟩ := hn5
  have H25 := Lib.hid (H24.out.trans (hb5.mono H24.out.size))
  have H45 := Lib.hid hb5
  clear hb5
  go_wp2_with (go_at_call 11; refine (has_any L4 [1, 0, 1, 0, 1, 1] (.slice A2 4 c2) _ _ _ w5 (HL2.out.below H25.out (Nat.le_refl _)) HN5.out).mono ?_; rw [show decide ([1, 0, 1, 0, 1, 1] ∈ L4) = true by decide]; rintro e w6 ⟨rfl, n, rfl⟩)
  refine (both_any _).mono ?_
  rintro e w7 ⟨v7, rfl, hn7, hb7⟩
  have HN7 := Lib.hid hn7
  obtain ⟨A7, c7, rfl, _, _⟩ := hn7
  have H57 := Lib.hid (show Below w5.heap.size w5 w7 from (below_drewN (Below.refl w5.heap.size w5) n).trans hb7)
  clear hb7
  go_wp2_with (go_at_call 11; refine (has_any L3 [1, 0, 1, 0, 1, 1] (.slice A4 3 c4) _ _ _ w7 (HL4.out.below (H45.out.trans (H57.out.mono H45.out.size)) (Nat.le_refl _)) HN7.out).mono ?_; rw [show decide ([1, 0, 1, 0, 1, 1] ∈ L3) = false by decide]; rintro e w8 ⟨rfl, m, rfl⟩)
  go_ret
  exact ⟨rfl, below_drewN (HB2.out.trans ((H25.out.trans (H57.out.mono H25.out.size)).mono HB2.out.size)) _⟩
end Go.Proofs.Ytbbecncelehlkaa
