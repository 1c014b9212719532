/-
  What is left is done: plain mathematics of a program's end.
-/
import Derived.Test.YthpnnmkpbkbanaaDoorMath
namespace Go.Proofs.YthpnnmkpbkbanaaDoor

/-- A state behind hand h's next line: of each hand h its registers are the numbers 4h and 4h + 1, its next line 4h + 2; the words are the numbers 12 to 15. -/
def stp (hs : List (List Ln)) (zs : List Int) (h : Nat) : List Int :=
  let ls := hs.getD h []
  let pc := zs.getD (h * 4 + 2) 0
  if (ls.length : Int) ≤ pc then zs
  else
    let l := ls.getD pc.toNat ⟨4, 0, 0, 0⟩
    let y := zs.set (h * 4 + 2) (pc + 1)
    let r := h * 4 + l.r.toNat
    let d := 12 + l.d.toNat
    if l.k = 0 then y.set r l.v
    else if l.k = 1 then y.set r (y.getD d 0)
    else if l.k = 2 then y.set d (y.getD r 0)
    else if l.k = 3 then (y.set r (y.getD d 0)).set d (y.getD r 0)
    else if l.k = 5 then (if y.getD r 0 = 0 then y.set (h * 4 + 2) (min (pc + 1 + l.v) ls.length) else y)
    else y

theorem stp_stay (hs : List (List Ln)) (zs : List Int) (p : Nat) (ls : List Ln) (n : Nat) (hl : hs[p]? = some ls) (hp : zs[p * 4 + 2]? = some (n : Int)) (hn : ls.length ≤ n) : stp hs zs p = zs := by
  unfold stp
  simp [hl, hp, hn]
theorem stp_go (hs : List (List Ln)) (zs : List Int) (p : Nat) (ls : List Ln) (n : Nat) (l : Ln) (hl : hs[p]? = some ls) (hp : zs[p * 4 + 2]? = some (n : Int)) (hn : ls[n]? = some l) : stp hs zs p =
    (let y := zs.set (p * 4 + 2) (n + 1)
     let r := p * 4 + l.r.toNat
     let d := 12 + l.d.toNat
     if l.k = 0 then y.set r l.v
     else if l.k = 1 then y.set r (y.getD d 0)
     else if l.k = 2 then y.set d (y.getD r 0)
     else if l.k = 3 then (y.set r (y.getD d 0)).set d (y.getD r 0)
     else if l.k = 5 then (if y.getD r 0 = 0 then y.set (p * 4 + 2) (min (n + 1 + l.v) ls.length) else y)
     else y) := by
  have hlt : n < ls.length := (List.getElem?_eq_some_iff.1 hn).1
  unfold stp
  simp only [List.getD_eq_getElem?_getD, hl, hp, Option.getD_some, Int.toNat_natCast, hn]
  rw [if_neg (by omega)]

/-- A program that is well. -/
structure Well (words : Int) (hs : List (List Ln)) : Prop where
  lo : 1 ≤ words
  hi : words ≤ 4
  some_ : 0 < hs.length
  few : hs.length ≤ 3
  short : ∀ (p : Nat) (ls : List Ln), hs[p]? = some ls → ls.length ≤ 5
  okay : ∀ (p : Nat) (ls : List Ln), hs[p]? = some ls → ls.all (okLn words) = true
theorem handErr_zero {words : Int} {ls : List Ln} (h : handErr words ls = 0) : ls.length ≤ 5 ∧ ls.all (okLn words) = true := by
  unfold handErr at h
  split at h
  · simp at h
  · split at h
    · exact ⟨by omega, by assumption⟩
    · simp at h
theorem handsErr_zero {words : Int} {hs : List (List Ln)} (h : handsErr words hs = 0) : ∀ ls, ls ∈ hs → handErr words ls = 0 := by
  induction hs with
  | nil => intro ls h; cases h
  | cons x r ih =>
    simp only [handsErr] at h
    split at h
    · rename_i hx
      intro ls hm
      rcases List.mem_cons.1 hm with rfl | hm
      · exact hx
      · exact ih h ls hm
    · contradiction
theorem check_well {words : Int} {hs : List (List Ln)} (h : check words hs = 0) : Well words hs := by
  unfold check at h
  split at h
  · simp at h
  · rename_i h1
    split at h
    · simp at h
    · rename_i h2
      split at h
      · simp at h
      · rename_i h3
        exact ⟨by omega, by omega, by omega, by omega, fun p ls hl => (handErr_zero (handsErr_zero h ls (List.mem_of_getElem? hl))).1, fun p ls hl => (handErr_zero (handsErr_zero h ls (List.mem_of_getElem? hl))).2⟩

/-- A state that may be: sixteen numbers; where each hand goes on is no number below 0. -/
def Fit (hs : List (List Ln)) (zs : List Int) : Prop := zs.length = 16 ∧ ∀ p, p < hs.length → ∃ n : Nat, zs[p * 4 + 2]? = some (n : Int)

theorem stp_fit {words : Int} {hs : List (List Ln)} {zs : List Int} {p : Nat} (hW : Well words hs) (hf : Fit hs zs) (hp : p < hs.length) :
    Fit hs (stp hs zs p) ∧ (∀ n : Nat, zs[p * 4 + 2]? = some (n : Int) → n < (hs.getD p []).length → ∃ m : Nat, (stp hs zs p)[p * 4 + 2]? = some (m : Int) ∧ n < m) := by
  obtain ⟨hz, hpc⟩ := hf
  obtain ⟨n, hn⟩ := hpc p hp
  have hl : hs[p]? = some hs[p] := List.getElem?_eq_getElem hp
  generalize hs[p] = ls at hl
  have h3 := hW.few
  have h5 := hW.short p ls hl
  have hall := hW.okay p ls hl
  rcases Nat.lt_or_ge n ls.length with hlt | hge
  · have hl1 : ls[n]? = some ls[n] := List.getElem?_eq_getElem hlt
    have hk := List.all_eq_true.1 hall _ (List.mem_of_getElem? hl1)
    generalize ls[n] = l at hl1 hk
    rw [stp_go hs zs p ls n l hl hn hl1]
    -- a store at a place that is no line's number keeps all; the line's number rises
    have base : ∀ q, q < hs.length → q ≠ p → ∃ m : Nat, (zs.set (p * 4 + 2) ((n : Int) + 1))[q * 4 + 2]? = some (m : Int) := fun q hq hne => by
      obtain ⟨m, hm⟩ := hpc q hq
      exact ⟨m, by rw [List.getElem?_set_ne (by omega)]; exact hm⟩
    have own : (zs.set (p * 4 + 2) ((n : Int) + 1))[p * 4 + 2]? = some ((n : Int) + 1) := by rw [List.getElem?_set_self (by omega)]
    have key : ∀ ys : List Int, ys.length = 16 → (∀ q, q < hs.length → q ≠ p → ∃ m : Nat, ys[q * 4 + 2]? = some (m : Int)) → (∃ m : Nat, ys[p * 4 + 2]? = some (m : Int) ∧ n < m) →
        Fit hs ys ∧ (∀ n' : Nat, zs[p * 4 + 2]? = some (n' : Int) → n' < (hs.getD p []).length → ∃ m : Nat, ys[p * 4 + 2]? = some (m : Int) ∧ n' < m) := by
      intro ys h1 h2 h3
      refine ⟨⟨h1, fun q hq => ?_⟩, fun n' hn' _ => ?_⟩
      · by_cases e : q = p
        · subst e; obtain ⟨m, hm, _⟩ := h3; exact ⟨m, hm⟩
        · exact h2 q hq e
      · have e : n' = n := by rw [hn] at hn'; have := Option.some.inj hn'; omega
        subst e; exact h3
    have putAt : ∀ (ys : List Int) (i : Nat) (z : Int), ys.length = 16 → i % 4 ≠ 2 ∨ 12 ≤ i → (∀ q, q < hs.length → q ≠ p → ∃ m : Nat, ys[q * 4 + 2]? = some (m : Int)) → (∃ m : Nat, ys[p * 4 + 2]? = some (m : Int) ∧ n < m) →
        (ys.set i z).length = 16 ∧ (∀ q, q < hs.length → q ≠ p → ∃ m : Nat, (ys.set i z)[q * 4 + 2]? = some (m : Int)) ∧ (∃ m : Nat, (ys.set i z)[p * 4 + 2]? = some (m : Int) ∧ n < m) := by
      intro ys i z h1 hi h2 h3
      refine ⟨by simp [h1], fun q hq hne => ?_, ?_⟩
      · obtain ⟨m, hm⟩ := h2 q hq hne
        exact ⟨m, by rw [List.getElem?_set_ne (by omega)]; exact hm⟩
      · obtain ⟨m, hm, hlt⟩ := h3
        exact ⟨m, by rw [List.getElem?_set_ne (by omega)]; exact hm, hlt⟩
    have b1 : (zs.set (p * 4 + 2) ((n : Int) + 1)).length = 16 := by simp [hz]
    have b3 : ∃ m : Nat, (zs.set (p * 4 + 2) ((n : Int) + 1))[p * 4 + 2]? = some (m : Int) ∧ n < m := ⟨n + 1, by rw [own]; rfl, by omega⟩
    simp only [okLn] at hk
    dsimp only
    have r01 : inR l.r 0 1 = true → (p * 4 + l.r.toNat) % 4 ≠ 2 ∨ 12 ≤ p * 4 + l.r.toNat := fun h => by have := inR_true.1 h; omega
    split
    · rename_i k0
      rw [if_pos k0, Bool.and_eq_true] at hk
      obtain ⟨x1, x2, x3⟩ := putAt _ _ l.v b1 (r01 hk.1) base b3
      exact key _ x1 x2 x3
    rename_i k0
    rw [if_neg k0] at hk
    split
    · rename_i k1
      rw [if_pos (Or.inl k1), Bool.and_eq_true] at hk
      obtain ⟨x1, x2, x3⟩ := putAt _ _ ((zs.set (p * 4 + 2) ((n : Int) + 1)).getD (12 + l.d.toNat) 0) b1 (r01 hk.1) base b3
      exact key _ x1 x2 x3
    split
    · obtain ⟨x1, x2, x3⟩ := putAt _ (12 + l.d.toNat) ((zs.set (p * 4 + 2) ((n : Int) + 1)).getD (p * 4 + l.r.toNat) 0) b1 (Or.inr (by omega)) base b3
      exact key _ x1 x2 x3
    split
    · rename_i k3
      rw [if_pos (Or.inr (Or.inr k3)), Bool.and_eq_true] at hk
      obtain ⟨x1, x2, x3⟩ := putAt _ _ ((zs.set (p * 4 + 2) ((n : Int) + 1)).getD (12 + l.d.toNat) 0) b1 (r01 hk.1) base b3
      obtain ⟨y1, y2, y3⟩ := putAt _ (12 + l.d.toNat) ((zs.set (p * 4 + 2) ((n : Int) + 1)).getD (p * 4 + l.r.toNat) 0) x1 (Or.inr (by omega)) x2 x3
      exact key _ y1 y2 y3
    rename_i k1 k2 k3
    split
    · rename_i k5
      rw [if_neg (by omega), if_neg (by omega), if_pos k5, Bool.and_eq_true] at hk
      have hv := inR_true.1 hk.2
      split
      · obtain ⟨m, hm⟩ := Int.eq_ofNat_of_zero_le (show 0 ≤ min ((n : Int) + 1 + l.v) ls.length by omega)
        refine key _ (by simp [hz]) (fun q hq hne => ?_) ⟨m, by rw [List.getElem?_set_self (by omega)]; rw [hm], by omega⟩
        obtain ⟨m', hm'⟩ := base q hq hne
        exact ⟨m', by rw [List.getElem?_set_ne (by omega)]; exact hm'⟩
      · exact key _ b1 base b3
    · exact key _ b1 base b3
  · rw [stp_stay hs zs p ls n hl hn hge]
    refine ⟨⟨hz, hpc⟩, fun n' hn' hlt' => ?_⟩
    have e : n' = n := by rw [hn] at hn'; have := Option.some.inj hn'; omega
    rw [List.getD_eq_getElem?_getD, hl] at hlt'
    simp at hlt'
    omega

def iter {α : Type} (f : α → α) : Nat → α → α
  | 0, x => x
  | n + 1, x => iter f n (f x)
theorem iter_succ {α : Type} (f : α → α) (n : Nat) (x : α) : iter f (n + 1) x = f (iter f n x) := by
  induction n generalizing x with
  | zero => rfl
  | succ n ih => rw [iter, ih]; rfl
theorem iter_same {α : Type} (f : α → α) (n : Nat) (x : α) (h : f x = x) : iter f n x = x := by
  induction n with
  | zero => rfl
  | succ n ih => rw [iter, h, ih]

/-- Hand p does all its lines. -/
def allOf (hs : List (List Ln)) (zs : List Int) (p : Nat) : List Int := iter (fun z => stp hs z p) 6 zs
theorem iter_fit {words : Int} {hs : List (List Ln)} {zs : List Int} {p : Nat} (hW : Well words hs) (hf : Fit hs zs) (hp : p < hs.length) (k : Nat) :
    Fit hs (iter (fun z => stp hs z p) k zs) ∧ ∃ m : Nat, (iter (fun z => stp hs z p) k zs)[p * 4 + 2]? = some (m : Int) ∧ (k ≤ m ∨ (hs.getD p []).length ≤ m) := by
  induction k with
  | zero =>
    obtain ⟨m, hm⟩ := hf.2 p hp
    exact ⟨hf, m, hm, Or.inl (Nat.zero_le _)⟩
  | succ k ih =>
    rw [iter_succ]
    obtain ⟨h1, m, hm, h2⟩ := ih
    obtain ⟨g1, g2⟩ := stp_fit hW h1 hp
    refine ⟨g1, ?_⟩
    rcases Nat.lt_or_ge m (hs.getD p []).length with hlt | hge
    · obtain ⟨m', hm', hlt'⟩ := g2 m hm hlt
      exact ⟨m', hm', by omega⟩
    · rw [stp_stay hs _ p hs[p] m (List.getElem?_eq_getElem hp) hm (by simpa [List.getD_eq_getElem?_getD, List.getElem?_eq_getElem hp] using hge)]
      exact ⟨m, hm, Or.inr hge⟩
theorem allOf_fit {words : Int} {hs : List (List Ln)} {zs : List Int} {p : Nat} (hW : Well words hs) (hf : Fit hs zs) (hp : p < hs.length) : Fit hs (allOf hs zs p) := (iter_fit hW hf hp 6).1
theorem allOf_end {words : Int} {hs : List (List Ln)} {zs : List Int} {p : Nat} (hW : Well words hs) (hf : Fit hs zs) (hp : p < hs.length) : stp hs (allOf hs zs p) p = allOf hs zs p := by
  obtain ⟨_, m, hm, h⟩ := iter_fit hW hf hp 6
  have hl : hs[p]? = some hs[p] := List.getElem?_eq_getElem hp
  have h5 := hW.short p _ hl
  have e : hs.getD p [] = hs[p] := by simp [List.getD_eq_getElem?_getD, hl]
  rw [e] at h
  exact stp_stay hs _ p _ m hl hm (by omega)
theorem allOf_stp {words : Int} {hs : List (List Ln)} {zs : List Int} {p : Nat} (hW : Well words hs) (hf : Fit hs zs) (hp : p < hs.length) : allOf hs (stp hs zs p) p = allOf hs zs p := by
  show iter (fun z => stp hs z p) 7 zs = allOf hs zs p
  rw [iter_succ]
  exact allOf_end hW hf hp
theorem allOf_done {hs : List (List Ln)} {zs : List Int} {p : Nat} {ls : List Ln} {n : Nat} (hl : hs[p]? = some ls) (hp : zs[p * 4 + 2]? = some (n : Int)) (hn : ls.length ≤ n) : allOf hs zs p = zs :=
  iter_same _ _ _ (stp_stay hs zs p ls n hl hp hn)

/-- The first k hands do all their lines, one behind the other. -/
def finN (hs : List (List Ln)) : Nat → List Int → List Int
  | 0, zs => zs
  | k + 1, zs => allOf hs (finN hs k zs) k
theorem finN_fit {words : Int} {hs : List (List Ln)} {zs : List Int} (hW : Well words hs) (hf : Fit hs zs) (k : Nat) (hk : k ≤ hs.length) : Fit hs (finN hs k zs) := by
  induction k with
  | zero => exact hf
  | succ k ih => exact allOf_fit hW (ih (by omega)) (by omega)

/-- What is told of a state. -/
def regsOf (zs : List Int) (k : Nat) : List Int := (List.range k).flatMap fun p => [zs.getD (p * 4) 0, zs.getD (p * 4 + 1) 0]
def wordsOf (zs : List Int) (k : Nat) : List Int := (List.range k).map fun i => zs.getD (12 + i) 0
def toldOf (hs : List (List Ln)) (words : Int) (zs : List Int) : List Int := regsOf zs hs.length ++ wordsOf zs words.toNat
theorem regsOf_length (zs : List Int) (k : Nat) : (regsOf zs k).length = k * 2 := by
  induction k with
  | zero => rfl
  | succ k ih =>
    unfold regsOf at ih ⊢
    rw [List.range_succ, List.flatMap_append, List.length_append, ih]
    simp; omega
theorem regsOf_succ (zs : List Int) (k : Nat) : regsOf zs (k + 1) = regsOf zs k ++ [zs.getD (k * 4) 0, zs.getD (k * 4 + 1) 0] := by
  unfold regsOf
  rw [List.range_succ, List.flatMap_append]
  simp
theorem wordsOf_length (zs : List Int) (k : Nat) : (wordsOf zs k).length = k := by simp [wordsOf]

/-- The state at the start. -/
def zero16 : List Int := List.replicate 16 0
theorem zero16_fit (hs : List (List Ln)) (h : hs.length ≤ 3) : Fit hs zero16 := by
  refine ⟨rfl, fun p hp => ⟨0, ?_⟩⟩
  have : p * 4 + 2 < 16 := by omega
  rw [zero16, List.getElem?_replicate, if_pos this]; rfl
/-- What a script does. -/
def scripted (hs : List (List Ln)) (zs : List Int) (script : List Int) : List Int := script.foldl (fun z h => stp hs z h.toNat) zs
theorem scripted_fit {words : Int} {hs : List (List Ln)} (hW : Well words hs) : ∀ (script : List Int) (zs : List Int), Fit hs zs → (∀ h ∈ script, 0 ≤ h ∧ h < hs.length) → Fit hs (scripted hs zs script)
  | [], zs, hf, _ => hf
  | h :: r, zs, hf, hs' => by
    have := hs' h (by simp)
    exact scripted_fit hW r _ (stp_fit hW hf (by omega)).1 fun x hx => hs' x (by simp [hx])
theorem scripted_snoc (hs : List (List Ln)) (zs : List Int) (s : List Int) (h : Int) : scripted hs zs (s ++ [h]) = stp hs (scripted hs zs s) h.toNat := by
  simp [scripted, List.foldl_append]

/-- What is wrong with a program and a script. -/
def runErr (words : Int) (hs : List (List Ln)) (script : List Int) : Int :=
  if check words hs ≠ 0 then check words hs else if 40 < script.length then 4 else if script.all (fun h => inR h 0 ((hs.length : Int) - 1)) then 0 else 1
def runTold (words : Int) (hs : List (List Ln)) (script : List Int) : List Int :=
  if runErr words hs script = 0 then toldOf hs words (finN hs hs.length (scripted hs zero16 script)) else []
end Go.Proofs.YthpnnmkpbkbanaaDoor
