/-
  The search of all states where what is stored waits: what is known, what is left, and what is told.
-/
import Derived.Test.YthpnnmkpbkbanaaTsoTs
import Derived.Test.YthpnnmkpbkbanaaCmp
namespace Go.Proofs.Ythpnnmkpbkbanaa
open Go.RowKit
open Classical in
noncomputable instance : DecidableEq TS := fun a b => Classical.propDecidable (a = b)

/-- Behind a round: `pre` are taken, `left` are left, in a round over `s` the hands below `i` have made their steps. -/
structure TKnow (hs : List (List Ln)) (known pre left : List TS) (cur : Option TS) (i : Nat) : Prop where
  nd : known.Nodup
  rch : ∀ s ∈ known, TReach hs s
  st : ts0 ∈ known
  eq : known = pre ++ left
  cl : ∀ s ∈ pre, cur ≠ some s → ∀ p, p < hs.length → tstp hs s p ∈ known ∧ tcom s p ∈ known
  cu : ∀ s, cur = some s → s ∈ pre ∧ ∀ p, p < i → tstp hs s p ∈ known ∧ tcom s p ∈ known

theorem TKnow.start (hs : List (List Ln)) : TKnow hs [ts0] [] [ts0] none 0 :=
  ⟨by simp, fun s h => by rw [List.mem_singleton.1 h]; exact .start, by simp, rfl, by simp, by simp⟩
theorem TKnow.few {words : Int} {hs : List (List Ln)} (hW : Well words hs) {known pre left : List TS} {cur : Option TS} {i : Nat} (h : TKnow hs known pre left cur i) : known.length ≤ 20644068912 := by
  obtain ⟨L, h1, h2⟩ := few_states hW.few (fun ls hl => by
    obtain ⟨p, hp⟩ := List.getElem?_of_mem hl
    exact hW.short p ls hp)
  exact Nat.le_trans (nodup_le h.nd fun s hs' => h2 s (h.rch s hs')) h1
theorem TKnow.few2 {words : Int} {hs : List (List Ln)} (hW : Well words hs) {known pre left : List TS} {cur : Option TS} {i : Nat} (h : TKnow hs known pre left cur i) : pre.length + left.length ≤ 20644068912 := by
  have := h.few hW
  rwa [h.eq, List.length_append] at this
theorem TKnow.take {hs : List (List Ln)} {known pre left : List TS} {s : TS} {i : Nat} (h : TKnow hs known pre (s :: left) none i) : TKnow hs known (pre ++ [s]) left (some s) 0 := by
  refine ⟨h.nd, h.rch, h.st, by rw [h.eq, List.append_assoc]; rfl, fun t ht hne p hp => ?_, fun t ht => ?_⟩
  · rcases List.mem_append.1 ht with h1 | h1
    · exact h.cl t h1 (by simp) p hp
    · rw [List.mem_singleton.1 h1] at hne; exact absurd rfl hne
  · injection ht with ht
    subst ht
    exact ⟨by simp, fun p hp => by omega⟩
theorem TKnow.put {words : Int} {hs : List (List Ln)} (hW : Well words hs) {known pre left : List TS} {cur : Option TS} {i : Nat} (h : TKnow hs known pre left cur i) {t : TS} (ht : TReach hs t) :
    ∃ known' left', ins1 (known.map e49) (e49 t) = known'.map e49 ∧ (if e49 t ∈ known.map e49 then left.map e49 else left.map e49 ++ [e49 t]) = left'.map e49 ∧ TKnow hs known' pre left' cur i ∧ t ∈ known' ∧ ∀ s ∈ known, s ∈ known' := by
  have hm : e49 t ∈ known.map e49 ↔ t ∈ known := by
    rw [List.mem_map]
    constructor
    · rintro ⟨s, h1, h2⟩
      rwa [← e49_inj hW ((h.rch s h1).ok hW) (ht.ok hW) h2]
    · intro h1; exact ⟨t, h1, rfl⟩
  by_cases hk : t ∈ known
  · refine ⟨known, left, by rw [ins1, if_pos (hm.2 hk)], by rw [if_pos (hm.2 hk)], h, hk, fun _ h => h⟩
  · have hk' : ¬ e49 t ∈ known.map e49 := fun h1 => hk (hm.1 h1)
    refine ⟨known ++ [t], left ++ [t], by rw [ins1, if_neg hk']; simp, by rw [if_neg hk']; simp, ⟨?_, ?_, ?_, ?_, ?_, ?_⟩, by simp, fun s h1 => List.mem_append_left _ h1⟩
    · rw [List.nodup_append]
      exact ⟨h.nd, by simp, fun a ha b hb => by rw [List.mem_singleton.1 hb]; intro e; exact hk (e ▸ ha)⟩
    · intro s h1
      rcases List.mem_append.1 h1 with h2 | h2
      · exact h.rch s h2
      · rw [List.mem_singleton.1 h2]; exact ht
    · exact List.mem_append_left _ h.st
    · rw [h.eq, List.append_assoc]
    · intro s h1 h2 p hp
      exact ⟨List.mem_append_left _ (h.cl s h1 h2 p hp).1, List.mem_append_left _ (h.cl s h1 h2 p hp).2⟩
    · intro s h1
      exact ⟨(h.cu s h1).1, fun p hp => ⟨List.mem_append_left _ ((h.cu s h1).2 p hp).1, List.mem_append_left _ ((h.cu s h1).2 p hp).2⟩⟩
theorem TKnow.next {hs : List (List Ln)} {known pre left : List TS} {s : TS} {i : Nat} (h : TKnow hs known pre left (some s) i) (h1 : tstp hs s i ∈ known) (h2 : tcom s i ∈ known) : TKnow hs known pre left (some s) (i + 1) :=
  ⟨h.nd, h.rch, h.st, h.eq, h.cl, fun t ht => ⟨(h.cu t ht).1, fun p hp => by
    rcases Nat.lt_succ_iff_lt_or_eq.1 hp with h3 | h3
    · exact (h.cu t ht).2 p h3
    · injection ht with ht
      subst h3; subst ht
      exact ⟨h1, h2⟩⟩⟩
theorem TKnow.done {hs : List (List Ln)} {known pre left : List TS} {s : TS} (h : TKnow hs known pre left (some s) hs.length) : TKnow hs known pre left none 0 :=
  ⟨h.nd, h.rch, h.st, h.eq, fun t ht _ p hp => by
    by_cases he : s = t
    · subst he; exact (h.cu s rfl).2 p hp
    · exact h.cl t ht (fun e => he (by injection e)) p hp, by simp⟩
theorem tend_stay {hs : List (List Ln)} {s : TS} (h : TEnd hs s) {p : Nat} (hp : p < hs.length) : tstp hs s p = s ∧ tcom s p = s := by
  have h1 := h p hp
  constructor
  · unfold tstp tsoLn
    rw [List.getElem?_eq_none_iff.2 h1.1]
    simp only [upd_id]
  · unfold tcom
    rw [h1.2]
theorem TKnow.ended {hs : List (List Ln)} {known pre left : List TS} {s : TS} (h : TKnow hs known pre left (some s) 0) (he : TEnd hs s) : TKnow hs known pre left none 0 :=
  ⟨h.nd, h.rch, h.st, h.eq, fun t ht _ p hp => by
    by_cases e : s = t
    · subst e
      have hk : s ∈ known := by rw [h.eq]; exact List.mem_append_left _ (h.cu s rfl).1
      rw [(tend_stay he hp).1, (tend_stay he hp).2]
      exact ⟨hk, hk⟩
    · exact h.cl t ht (fun e' => e (by injection e')) p hp, by simp⟩
theorem TKnow.all {hs : List (List Ln)} {known pre : List TS} {i : Nat} (h : TKnow hs known pre [] none i) (s : TS) : s ∈ pre ↔ TReach hs s := by
  have he : known = pre := by rw [h.eq, List.append_nil]
  subst he
  constructor
  · exact h.rch s
  · intro hr
    induction hr with
    | start => exact h.st
    | step _ hp ih => exact (h.cl _ ih (by simp) _ hp).1
    | come _ hp ih => exact (h.cl _ ih (by simp) _ hp).2

/-! ### What is told -/
def toldsT (words : Int) (hs : List (List Ln)) (pre : List TS) : List (List Int) := (pre.filter (tEndB hs)).map fun s => toldOf hs words (e16 s)
theorem toldsT_yes {words : Int} {hs : List (List Ln)} {pre : List TS} {s : TS} (h : tEndB hs s = true) : toldsT words hs (pre ++ [s]) = toldsT words hs pre ++ [toldOf hs words (e16 s)] := by simp [toldsT, h]
theorem toldsT_no {words : Int} {hs : List (List Ln)} {pre : List TS} {s : TS} (h : tEndB hs s = false) : toldsT words hs (pre ++ [s]) = toldsT words hs pre := by simp [toldsT, h]
theorem toldsT_length {words : Int} {hs : List (List Ln)} {pre : List TS} : (toldsT words hs pre).length ≤ pre.length := by rw [toldsT, List.length_map]; exact List.length_filter_le ..
theorem tresults_of {words : Int} {hs : List (List Ln)} (hW : Well words hs) {known pre : List TS} {i : Nat} (hk : TKnow hs known pre [] none i) {ts : List (List Int)} (hp : ts.Perm (toldsT words hs pre)) (hso : ts.Pairwise fun a b => 0 ≤ cmpL b a) : TsoOf words hs ts := by
  have hx := hk.all
  have hnd : pre.Nodup := by have h1 := hk.nd; rwa [hk.eq, List.append_nil] at h1
  have hmem : ∀ t, t ∈ ts ↔ TTold words hs t := fun t => by
    rw [hp.mem_iff, toldsT, List.mem_map]
    constructor
    · rintro ⟨s, hs', rfl⟩
      rw [List.mem_filter] at hs'
      have hr := (hx s).1 hs'.1
      exact ⟨s, hr, (tEndB_iff hW (hr.ok hW)).1 hs'.2, rfl⟩
    · rintro ⟨s, h1, h2, h3⟩
      exact ⟨s, List.mem_filter.2 ⟨(hx s).2 h1, (tEndB_iff hW (h1.ok hW)).2 h2⟩, h3⟩
  have hnd2 : (toldsT words hs pre).Nodup := by
    unfold toldsT List.Nodup
    rw [List.pairwise_map]
    refine List.Pairwise.imp_of_mem ?_ (hnd.filter (tEndB hs))
    intro a b ha hb hne he
    rw [List.mem_filter] at ha hb
    have oa := ((hx a).1 ha.1).ok hW
    have ob := ((hx b).1 hb.1).ok hW
    exact hne (e49_inj hW oa ob (ttold_inj hW oa ob ((tEndB_iff hW oa).1 ha.2) ((tEndB_iff hW ob).1 hb.2) he))
  have hnd3 : ts.Nodup := hp.nodup_iff.2 hnd2
  have hlen : ∀ t ∈ ts, t.length = hs.length * 2 + words.toNat := fun t ht => by
    obtain ⟨s, _, _, rfl⟩ := (hmem t).1 ht
    exact toldOf_length
  refine ⟨List.Pairwise.imp_of_mem ?_ (List.Pairwise.and hso hnd3), hmem⟩
  intro a b ha hb ⟨h1, h2⟩
  have hl : a.length = b.length := by rw [hlen a ha, hlen b hb]
  rcases lessL_total hl with h | h | h
  · exact absurd h h2
  · exact h
  · exact absurd ((cmpL_less hl.symm).2 h) (by omega)
end Go.Proofs.Ythpnnmkpbkbanaa
