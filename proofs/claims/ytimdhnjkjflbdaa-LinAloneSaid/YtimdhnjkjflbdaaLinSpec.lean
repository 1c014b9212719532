import Derived.Test.YtimdhnjkjflbdaaLinRun
/-
  Chapter 19 as plain mathematics, on: histories as lists; what Check tells; what a good row is, place by place.
-/
namespace Go.Proofs.Ytimdhnjkjflbdaa

/-- An op, as it stands in a history. -/
structure LO where
  hd : Int
  kd : Int
  ar : Int
  gt : Int
  fr : Int
  to : Int
def lat (h : List LO) (i : Nat) : LO := h.getD i ⟨0, 0, 0, 0, 0, 0⟩
def hops (h : List LO) : LOps := ⟨fun i => (lat h i).kd.toNat, fun i => (lat h i).ar, fun i => (lat h i).gt, fun i => (lat h i).fr, fun i => (lat h i).to⟩
def LO.inb (o : LO) : Prop := (0 ≤ o.hd ∧ o.hd ≤ 3) ∧ (0 ≤ o.kd ∧ o.kd ≤ 1) ∧ (0 ≤ o.ar ∧ o.ar ≤ 1000) ∧ (-1 ≤ o.gt ∧ o.gt ≤ 8000) ∧ (0 ≤ o.fr ∧ o.fr ≤ 1000) ∧ (0 ≤ o.to ∧ o.to ≤ 1000)
instance (o : LO) : Decidable o.inb := by unfold LO.inb; infer_instance
/-- Of one hand, and they share a time. -/
def LO.clash (a o : LO) : Prop := a.hd = o.hd ∧ a.fr < o.to ∧ o.fr < a.to
instance (a o : LO) : Decidable (a.clash o) := by unfold LO.clash; infer_instance
/-- What is wrong with the op at place i. -/
def lone (h : List LO) (i : Nat) : Nat :=
  if ¬ (lat h i).inb then 1 else if (lat h i).to ≤ (lat h i).fr then 3 else if ∃ j, j < i ∧ (lat h j).clash (lat h i) then 6 else 0
/-- What is wrong with the first i. -/
def lupto (h : List LO) : Nat → Nat
  | 0 => 0
  | i + 1 => if lupto h i = 0 then lone h i else lupto h i
def lchk (ob : Int) (h : List LO) : Nat := if ¬ (0 ≤ ob ∧ ob ≤ 2) then 1 else if 8 < h.length then 4 else lupto h h.length
structure LFine (ob : Int) (h : List LO) : Prop where
  o1 : 0 ≤ ob
  o2 : ob ≤ 2
  len : h.length ≤ 8
  inb : ∀ i, i < h.length → (lat h i).inb
  lt : ∀ i, i < h.length → (lat h i).fr < (lat h i).to
  two : ∀ i j, i < h.length → j < i → ¬ (lat h j).clash (lat h i)
/-- The row that is told. -/
def lans (ob : Int) (h : List LO) : Option (List Nat) := if lchk ob h = 0 then lrow ob.toNat h.length (hops h) else none
section
variable {ob : Int} {h : List LO} {i j k m n e : Nat}
theorem lat_lt (hi : i < h.length) : lat h i = h[i] := by unfold lat; rw [List.getD_eq_getElem?_getD, List.getElem?_eq_getElem hi]; rfl
theorem lat_get (hi : i < h.length) : h[i]? = some (lat h i) := by rw [lat_lt hi, List.getElem?_eq_getElem hi]
theorem lat_app {a b : List LO} (hi : i < a.length) : lat (a ++ b) i = lat a i := by unfold lat; rw [List.getD_eq_getElem?_getD, List.getD_eq_getElem?_getD, List.getElem?_append_left hi]
theorem lat_end {a : List LO} {o : LO} : lat (a ++ [o]) a.length = o := by unfold lat; simp
theorem lat_set {o : LO} : lat (h.set i o) j = if j = i ∧ i < h.length then o else lat h j := by
  unfold lat
  rw [List.getD_eq_getElem?_getD, List.getD_eq_getElem?_getD, List.getElem?_set]
  by_cases e : i = j
  · subst e
    by_cases e2 : i < h.length
    · simp [e2]
    · simp [e2]
  · rw [if_neg e, if_neg (fun c => e c.1.symm)]
theorem lone_zero : lone h i = 0 ↔ (lat h i).inb ∧ (lat h i).fr < (lat h i).to ∧ ∀ j, j < i → ¬ (lat h j).clash (lat h i) := by
  unfold lone
  by_cases h1 : (lat h i).inb
  · rw [if_neg (fun c => c h1)]
    by_cases h2 : (lat h i).to ≤ (lat h i).fr
    · rw [if_pos h2]
      exact ⟨fun c => by omega, fun c => by have := c.2.1; omega⟩
    · rw [if_neg h2]
      by_cases h3 : ∃ j, j < i ∧ (lat h j).clash (lat h i)
      · rw [if_pos h3]
        obtain ⟨j, h4, h5⟩ := h3
        exact ⟨fun c => by omega, fun c => absurd h5 (c.2.2 j h4)⟩
      · rw [if_neg h3]
        exact ⟨fun _ => ⟨h1, by omega, fun j h4 h5 => h3 ⟨j, h4, h5⟩⟩, fun _ => rfl⟩
  · rw [if_pos h1]
    exact ⟨fun c => by omega, fun c => absurd c.1 h1⟩
theorem lupto_zero : ∀ {m : Nat}, lupto h m = 0 ↔ ∀ i, i < m → lone h i = 0
  | 0 => ⟨fun _ i hi => absurd hi (Nat.not_lt_zero _), fun _ => rfl⟩
  | m + 1 => by
    have ih := lupto_zero (m := m)
    have e : lupto h (m + 1) = if lupto h m = 0 then lone h m else lupto h m := rfl
    rw [e]
    by_cases h1 : lupto h m = 0
    · rw [if_pos h1]
      refine ⟨fun h2 i hi => ?_, fun h2 => h2 m (by omega)⟩
      by_cases e2 : i = m
      · rw [e2]; exact h2
      · exact ih.1 h1 i (by omega)
    · rw [if_neg h1]
      exact ⟨fun h2 => absurd h2 h1, fun h2 => absurd (ih.2 fun i hi => h2 i (by omega)) h1⟩
/-- Behind the first that is wrong nothing counts. -/
theorem lupto_at (h1 : lupto h i = 0) (h2 : lone h i ≠ 0) : ∀ {m : Nat}, i < m → lupto h m = lone h i
  | 0, hm => absurd hm (Nat.not_lt_zero _)
  | m + 1, hm => by
    have e : lupto h (m + 1) = if lupto h m = 0 then lone h m else lupto h m := rfl
    rw [e]
    by_cases e2 : i = m
    · subst e2; rw [if_pos h1]
    · have := lupto_at h1 h2 (m := m) (by omega)
      rw [if_neg (by rw [this]; exact h2), this]
theorem lchk_zero : lchk ob h = 0 ↔ LFine ob h := by
  unfold lchk
  by_cases h1 : 0 ≤ ob ∧ ob ≤ 2
  · rw [if_neg (fun c => c h1)]
    by_cases h2 : 8 < h.length
    · rw [if_pos h2]
      exact ⟨fun c => by omega, fun c => by have := c.len; omega⟩
    · rw [if_neg h2, lupto_zero]
      refine ⟨fun c => ⟨h1.1, h1.2, by omega, fun i hi => (lone_zero.1 (c i hi)).1, fun i hi => (lone_zero.1 (c i hi)).2.1, fun i j hi hj => (lone_zero.1 (c i hi)).2.2 j hj⟩, fun c i hi => lone_zero.2 ⟨c.inb i hi, c.lt i hi, fun j hj => c.two i j hi hj⟩⟩
  · rw [if_pos h1]
    exact ⟨fun c => by omega, fun c => absurd ⟨c.o1, c.o2⟩ h1⟩
theorem lans_fine (f : LFine ob h) : lans ob h = lrow ob.toNat h.length (hops h) := by unfold lans; rw [if_pos (lchk_zero.2 f)]
theorem LFine.ft (f : LFine ob h) : ∀ i, i < h.length → ¬ (hops h).to i ≤ (hops h).fr i := fun i hi => by
  have := f.lt i hi
  show ¬ (lat h i).to ≤ (lat h i).fr
  omega
theorem LO.clash_symm {a o : LO} (c : a.clash o) : o.clash a := ⟨c.1.symm, c.2.2, c.2.1⟩
theorem LFine.apart (f : LFine ob h) (hi : i < h.length) (hj : j < h.length) (hne : i ≠ j) : ¬ (lat h i).clash (lat h j) := by
  rcases Nat.lt_or_ge i j with e | e
  · exact f.two j i hj e
  · exact fun c => f.two i j hi (by omega) (LO.clash_symm c)
/-! ## Good, place by place -/
theorem lgo_at {h : LOps} {ob : Nat} : ∀ {r : List Nat} {has : List Int}, lgo ob h has r ↔ ∀ k (hk : k < r.length), (lgets ob (h.kd r[k]) (h.ar r[k]) (lend ob h has (r.take k))).2 = h.gt r[k]
  | [], _ => ⟨fun _ k hk => absurd hk (Nat.not_lt_zero _), fun _ => trivial⟩
  | i :: r, has => by
    have ih := lgo_at (h := h) (ob := ob) (r := r) (has := (lgets ob (h.kd i) (h.ar i) has).1)
    refine ⟨fun h1 k hk => ?_, fun h1 => ⟨h1 0 (by simp), ih.2 fun k hk => h1 (k + 1) (by simpa using hk)⟩⟩
    cases k with
    | zero => exact h1.1
    | succ k => exact ih.1 h1.2 k (by simpa using hk)
theorem all_of {L : List Nat} (hn : L.Nodup) (hb : ∀ i, i ∈ L → i < n) (hl : L.length = n) : ∀ i, i ∈ L ↔ i < n := by
  refine fun i => ⟨hb i, fun hi => ?_⟩
  apply Classical.byContradiction
  intro hno
  have h4 : (i :: L).Nodup := List.nodup_cons.2 ⟨hno, hn⟩
  have h5 := pigeon n (i :: L).length (fun j => (i :: L).getD j 0) (fun j hj => by
    rw [List.getD_eq_getElem?_getD, List.getElem?_eq_getElem hj]
    rcases List.mem_cons.1 (List.getElem_mem hj) with e | e
    · rw [Option.getD_some, e]; exact hi
    · exact hb _ e) (fun a b ha hb e => by
    rw [List.getD_eq_getElem?_getD, List.getD_eq_getElem?_getD, List.getElem?_eq_getElem ha, List.getElem?_eq_getElem hb] at e
    exact (List.getElem_inj h4).1 e)
  rw [List.length_cons, hl] at h5
  omega
/-- What is in ahead of place k. -/
def lhas (ob : Nat) (h : List LO) (L : List Nat) (k : Nat) : List Int := lend ob (hops h) (linit ob) (L.take k)
theorem lhas_zero {ob : Nat} {L : List Nat} : lhas ob h L 0 = linit ob := rfl
theorem lhas_succ {ob : Nat} {L : List Nat} (hk : k < L.length) : lhas ob h L (k + 1) = (lgets ob ((hops h).kd L[k]) ((hops h).ar L[k]) (lhas ob h L k)).1 := by
  unfold lhas
  rw [List.take_succ_eq_append_getElem hk, lend_snoc]
/-- Place k is good. -/
structure LAt (ob : Nat) (h : List LO) (L : List Nat) (k : Nat) (hk : k < L.length) : Prop where
  lt : L[k] < h.length
  nod : ∀ j (hj : j < L.length), j ≠ k → L[j] ≠ L[k]
  ord : ∀ j (hj : j < L.length), k < j → ¬ (lat h L[j]).to ≤ (lat h L[k]).fr
  go : (lgets ob ((hops h).kd L[k]) ((hops h).ar L[k]) (lhas ob h L k)).2 = (hops h).gt L[k]
theorem lgood_iff {ob : Nat} {L : List Nat} : LGood ob h.length (hops h) L ↔ L.length = h.length ∧ ∀ k (hk : k < L.length), LAt ob h L k hk := by
  constructor
  · intro g
    refine ⟨len_all g.nod g.all, fun k hk => ⟨(g.all _).1 (List.getElem_mem hk), fun j hj hjk e => hjk ((List.getElem_inj g.nod).1 e), fun j hj hkj => (List.pairwise_iff_getElem.1 g.ord) k j hk hj hkj, lgo_at.1 g.go k hk⟩⟩
  · rintro ⟨hl, ha⟩
    have hn : L.Nodup := by
      rw [List.Nodup, List.pairwise_iff_getElem]
      intro a b h1 h2 h3
      exact (ha b h2).nod a h1 (by omega)
    refine ⟨hn, all_of hn (fun i hi => ?_) hl, List.pairwise_iff_getElem.2 fun a b h1 h2 h3 => (ha a h1).ord b h2 h3, lgo_at.2 fun k hk => (ha k hk).go⟩
    obtain ⟨k, hk, e⟩ := List.getElem_of_mem hi
    rw [← e]; exact (ha k hk).lt
/-! ## LinPart -/
theorem LGood.sub {ob : Nat} {A B : List Nat} (g : LGood ob h.length (hops h) (A ++ B)) {idx : List Nat} (hn : idx.Nodup) (hA : ∀ x, x ∈ A ↔ x ∈ idx) : ∃ L, LGood ob (idx.map (lat h)).length (hops (idx.map (lat h))) L := by
  refine ⟨A.map fun x => idx.idxOf x, ?_⟩
  rw [List.length_map]
  refine g.part (f := fun i => idx.getD i 0) (k := fun x => idx.idxOf x) (fun x => ?_) (fun i hi => ?_) (fun i hi => ?_)
  · rw [hA]
    constructor
    · intro hx
      obtain ⟨k, hk, e⟩ := List.getElem_of_mem hx
      exact ⟨k, hk, by simp only [List.getD_eq_getElem?_getD, List.getElem?_eq_getElem hk, Option.getD_some]; exact e⟩
    · rintro ⟨i, hi, e⟩
      simp only [List.getD_eq_getElem?_getD, List.getElem?_eq_getElem hi, Option.getD_some] at e
      rw [← e]; exact List.getElem_mem hi
  · simp only [List.getD_eq_getElem?_getD, List.getElem?_eq_getElem hi, Option.getD_some]
    exact hn.idxOf_getElem i hi
  · have e : lat (idx.map (lat h)) i = lat h (idx.getD i 0) := by
      rw [lat_lt (by simpa using hi), List.getElem_map]
      simp only [List.getD_eq_getElem?_getD, List.getElem?_eq_getElem hi, Option.getD_some]
    exact ⟨congrArg (fun o : LO => o.kd.toNat) e, congrArg LO.ar e, congrArg LO.gt e, congrArg LO.fr e, congrArg LO.to e⟩
theorem LFine.sub (f : LFine ob h) {idx : List Nat} (hn : idx.Nodup) (hb : ∀ x, x ∈ idx → x < h.length) : LFine ob (idx.map (lat h)) := by
  have e : ∀ i (hi : i < (idx.map (lat h)).length), lat (idx.map (lat h)) i = lat h (idx[i]'(by simpa using hi)) := fun i hi => by rw [lat_lt hi, List.getElem_map]
  have hlt : ∀ i (hi : i < (idx.map (lat h)).length), idx[i]'(by simpa using hi) < h.length := fun i hi => hb _ (List.getElem_mem _)
  refine ⟨f.o1, f.o2, ?_, fun i hi => by rw [e i hi]; exact f.inb _ (hlt i hi), fun i hi => by rw [e i hi]; exact f.lt _ (hlt i hi), fun i j hi hj => ?_⟩
  · have h1 := pigeon h.length idx.length (fun j => idx.getD j 0) (fun j hj => by
      simp only [List.getD_eq_getElem?_getD, List.getElem?_eq_getElem hj, Option.getD_some]
      exact hb _ (List.getElem_mem hj)) (fun a b ha hb e => by
      simp only [List.getD_eq_getElem?_getD, List.getElem?_eq_getElem ha, List.getElem?_eq_getElem hb, Option.getD_some] at e
      exact (List.getElem_inj hn).1 e)
    have := f.len
    rw [List.length_map]; omega
  · have hj' : j < (idx.map (lat h)).length := by omega
    rw [e i hi, e j hj']
    exact f.apart (hlt j hj') (hlt i hi) fun c => by
      have := (List.getElem_inj hn).1 c
      omega
/-- Early ones stand ahead of late ones. -/
theorem early_first {h : LOps} {t : Int} : ∀ {L : List Nat}, L.Pairwise (fun a b => ¬ h.to b ≤ h.fr a) → (∀ a, a ∈ L → h.to a ≤ t ∨ t ≤ h.fr a) → L = L.filter (fun a => decide (h.to a ≤ t)) ++ L.filter (fun a => !decide (h.to a ≤ t))
  | [], _, _ => rfl
  | a :: L, hp, hl => by
    rw [List.pairwise_cons] at hp
    have ih := early_first hp.2 fun b hb => hl b (List.mem_cons_of_mem _ hb)
    by_cases e : h.to a ≤ t
    · rw [List.filter_cons_of_pos (by simpa using e), List.filter_cons_of_neg (by simpa using e), List.cons_append]
      exact congrArg (a :: ·) ih
    · have hn : L.filter (fun a => decide (h.to a ≤ t)) = [] := by
        rw [List.filter_eq_nil_iff]
        intro b hb hbt
        have h1 := hp.1 b hb
        rcases hl a (by simp) with h2 | h2
        · exact e h2
        · have h3 : h.to b ≤ t := by simpa using hbt
          exact h1 (by omega)
      rw [List.filter_cons_of_neg (by simpa using e), List.filter_cons_of_pos (by simpa using e)]
      rw [hn] at ih ⊢
      exact congrArg (a :: ·) ih
theorem lrow_some {ob : Nat} {L : List Nat} (f : LFine (ob : Int) h) (g : LGood ob h.length (hops h) L) : ∃ L', lans (ob : Int) h = some L' ∧ lexle L' L := by
  rw [lans_fine f]
  exact lrow_least g f.ft
theorem part_less {ob : Nat} {A : List Nat} {z : Nat} (f : LFine (ob : Int) h) (e : lans (ob : Int) h = some (A ++ [z])) : z < h.length ∧ LFine (ob : Int) (((List.range h.length).filter fun i => decide (i ≠ z)).map (lat h)) ∧ lans (ob : Int) (((List.range h.length).filter fun i => decide (i ≠ z)).map (lat h)) ≠ none := by
  rw [lans_fine f] at e
  have g := lrow_good e
  have hn : ((List.range h.length).filter fun i => decide (i ≠ z)).Nodup := List.nodup_range.filter _
  have f' := f.sub hn fun x hx => List.mem_range.1 (List.mem_filter.1 hx).1
  have hnd := g.nod
  rw [List.nodup_append] at hnd
  obtain ⟨L, hL⟩ := g.sub hn fun x => by
    rw [List.mem_filter, List.mem_range]
    constructor
    · intro hx
      exact ⟨(g.all x).1 (List.mem_append_left _ hx), by simpa using hnd.2.2 x hx z (by simp)⟩
    · rintro ⟨h1, h2⟩
      rcases List.mem_append.1 ((g.all x).2 h1) with h3 | h3
      · exact h3
      · have : x = z := by simpa using h3
        simp [this] at h2
  obtain ⟨L', h1, _⟩ := lrow_some f' hL
  exact ⟨(g.all z).1 (by simp), f', by rw [h1]; exact fun c => by cases c⟩
theorem part_early {ob : Nat} {L : List Nat} {t : Int} (f : LFine (ob : Int) h) (e : lans (ob : Int) h = some L) (ht : ∀ i, i < h.length → ¬ ((lat h i).fr < t ∧ t < (lat h i).to)) : LFine (ob : Int) (((List.range h.length).filter fun i => decide ((lat h i).to ≤ t)).map (lat h)) ∧ lans (ob : Int) (((List.range h.length).filter fun i => decide ((lat h i).to ≤ t)).map (lat h)) ≠ none := by
  rw [lans_fine f] at e
  have g := lrow_good e
  have hn : ((List.range h.length).filter fun i => decide ((lat h i).to ≤ t)).Nodup := List.nodup_range.filter _
  have f' := f.sub hn fun x hx => List.mem_range.1 (List.mem_filter.1 hx).1
  have hs := early_first (t := t) g.ord fun a ha => by
    have h1 := ht a ((g.all a).1 ha)
    show (lat h a).to ≤ t ∨ t ≤ (lat h a).fr
    omega
  have g' := g
  rw [hs] at g'
  obtain ⟨L1, hL1⟩ := g'.sub hn fun x => by
    rw [List.mem_filter, List.mem_filter, List.mem_range, g.all x]
    exact Iff.rfl
  obtain ⟨L', h1, _⟩ := lrow_some f' hL1
  exact ⟨f', by rw [h1]; exact fun c => by cases c⟩
/-! ## LinWide -/
theorem wide_chk {from' to' : Int} (f : LFine ob h) (hi : i < h.length) (h1 : 0 ≤ from') (h2 : from' ≤ (lat h i).fr) (h3 : (lat h i).to ≤ to') (h4 : to' ≤ 1000) :
    lchk ob (h.set i { lat h i with fr := from', to := to' }) = 0 ∨ lchk ob (h.set i { lat h i with fr := from', to := to' }) = 6 := by
  have hlen : (h.set i { lat h i with fr := from', to := to' }).length = h.length := List.length_set
  have hone : ∀ j, j < h.length → lone (h.set i { lat h i with fr := from', to := to' }) j = 0 ∨ lone (h.set i { lat h i with fr := from', to := to' }) j = 6 := fun j hj => by
    have ha : (lat (h.set i { lat h i with fr := from', to := to' }) j).inb ∧ (lat (h.set i { lat h i with fr := from', to := to' }) j).fr < (lat (h.set i { lat h i with fr := from', to := to' }) j).to := by
      rw [lat_set]
      by_cases e : j = i ∧ i < h.length
      · rw [if_pos e]
        have b := f.inb i hi
        have c := f.lt i hi
        unfold LO.inb at b ⊢
        dsimp only
        omega
      · rw [if_neg e]; exact ⟨f.inb j hj, f.lt j hj⟩
    unfold lone
    rw [if_neg (fun c => c ha.1), if_neg (by have := ha.2; omega)]
    by_cases e : ∃ j', j' < j ∧ (lat (h.set i { lat h i with fr := from', to := to' }) j').clash (lat (h.set i { lat h i with fr := from', to := to' }) j)
    · rw [if_pos e]; exact Or.inr rfl
    · rw [if_neg e]; exact Or.inl rfl
  have hup : ∀ m, m ≤ h.length → lupto (h.set i { lat h i with fr := from', to := to' }) m = 0 ∨ lupto (h.set i { lat h i with fr := from', to := to' }) m = 6 := by
    intro m
    induction m with
    | zero => intro _; exact Or.inl rfl
    | succ m ih =>
      intro hm
      have e : lupto (h.set i { lat h i with fr := from', to := to' }) (m + 1) = if lupto (h.set i { lat h i with fr := from', to := to' }) m = 0 then lone (h.set i { lat h i with fr := from', to := to' }) m else lupto (h.set i { lat h i with fr := from', to := to' }) m := rfl
      rw [e]
      rcases ih (by omega) with h5 | h5
      · rw [if_pos h5]; exact hone m (by omega)
      · rw [if_neg (by omega)]; exact Or.inr h5
  unfold lchk
  rw [if_neg (fun c => c ⟨f.o1, f.o2⟩), hlen, if_neg (by have := f.len; omega)]
  exact hup _ (Nat.le_refl _)
theorem wide_row {ob : Nat} {L : List Nat} {from' to' : Int} (f : LFine (ob : Int) h) (e : lans (ob : Int) h = some L) (hi : i < h.length) (h2 : from' ≤ (lat h i).fr) (h3 : (lat h i).to ≤ to')
    (f' : LFine (ob : Int) (h.set i { lat h i with fr := from', to := to' })) : lans (ob : Int) (h.set i { lat h i with fr := from', to := to' }) ≠ none := by
  rw [lans_fine f] at e
  have g := lrow_good e
  have hl : ∀ j, lat (h.set i { lat h i with fr := from', to := to' }) j = if j = i ∧ i < h.length then { lat h i with fr := from', to := to' } else lat h j := fun j => lat_set
  have g' : LGood ob h.length (hops (h.set i { lat h i with fr := from', to := to' })) L := by
    refine g.wide ?_ ?_ ?_ (fun j _ => ?_) (fun j _ => ?_)
    · funext j; show (lat _ j).kd.toNat = (lat h j).kd.toNat; rw [hl]; by_cases e : j = i ∧ i < h.length
      · rw [if_pos e, e.1]
      · rw [if_neg e]
    · funext j; show (lat _ j).ar = (lat h j).ar; rw [hl]; by_cases e : j = i ∧ i < h.length
      · rw [if_pos e, e.1]
      · rw [if_neg e]
    · funext j; show (lat _ j).gt = (lat h j).gt; rw [hl]; by_cases e : j = i ∧ i < h.length
      · rw [if_pos e, e.1]
      · rw [if_neg e]
    · show (lat _ j).fr ≤ (lat h j).fr; rw [hl]; by_cases e : j = i ∧ i < h.length
      · rw [if_pos e, e.1]; exact h2
      · rw [if_neg e]; exact Int.le_refl _
    · show (lat h j).to ≤ (lat _ j).to; rw [hl]; by_cases e : j = i ∧ i < h.length
      · rw [if_pos e, e.1]; exact h3
      · rw [if_neg e]; exact Int.le_refl _
  have _ := hi
  obtain ⟨L', h5, _⟩ := lrow_some f' (L := L) (by rw [List.length_set]; exact g')
  rw [h5]; exact fun c => by cases c
/-! ## The least, place by place -/
theorem lexle_lt {a b : List Nat} (hl : lexle a b) {k : Nat} (hk : k < a.length) (hk' : k < b.length) (he : ∀ j, j < k → a[j]? = b[j]?) (hne : a[k] ≠ b[k]) : a[k] < b[k] := by
  have := lexle_at hl he a[k] b[k] (List.getElem?_eq_getElem hk) (List.getElem?_eq_getElem hk')
  omega
end
end Go.Proofs.Ytimdhnjkjflbdaa
