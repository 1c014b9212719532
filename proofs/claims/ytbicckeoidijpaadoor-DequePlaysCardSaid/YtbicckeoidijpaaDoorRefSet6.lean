/-
  The copies of the sixth reference: a slice with one place anew (set), in.
-/
import Derived.Test.YtbicckeoidijpaaDoorSL
import Derived.Test.YtbicckeoidijpaaDoorRowsG
import Derived.Deep.QuietTactic
import Derived.BigQuiet
import Derived.LoopTactic
import Derived.IntWalk
import Derived.Deep.DeepCutAuto
import Derived.Laws.AppendOwnNone
namespace Go.Proofs.YtbicckeoidijpaaDoor.Rf
open Go.RowKit

theorem Tbool_info : (Tryd.prog.info? 4).map (fun i => (i.zero, i.size, i.bytes)) = some (some (.bool false), 1, 1) := by kernel_rfl
theorem inW_any (z lo hi : Int) (b : Bool) (hb : decide (lo ≤ z ∧ z ≤ hi) = b) (w : World) : Calls Tryd.prog 22 #[.int .i64 z, .int .i64 lo, .int .i64 hi] w fun e w' => e = .returned (.bool b) ∧ w = w' := by
  rw [← hb]
  by_cases h0 : lo ≤ z
  · by_cases h1 : z ≤ hi
    · rw [decide_eq_true (show lo ≤ z ∧ z ≤ hi from ⟨h0, h1⟩)]
      go_enter Tryd.func22, Tryd.ntmps22
      go_wp2
      go_ret
      exact ⟨rfl, rfl⟩
    · rw [decide_eq_false (show ¬ (lo ≤ z ∧ z ≤ hi) from fun h => h1 h.2)]
      go_enter Tryd.func22, Tryd.ntmps22
      go_wp2
      go_ret
      exact ⟨rfl, rfl⟩
  · rw [decide_eq_false (show ¬ (lo ≤ z ∧ z ≤ hi) from fun h => h0 h.1)]
    go_enter Tryd.func22, Tryd.ntmps22
    go_wp2
    go_ret
    exact ⟨rfl, rfl⟩
set_option maxHeartbeats 4000000 in
theorem set_sl {F : Nat → Prop} {v : Value} {n i : Nat} {Ps : List Pd} {P : Pd} {z : Int} (w : World) (hF : ∀ b, F b → b < w.heap.size) (hst : ∀ Q ∈ Ps, Stb Q) (hP : Stb P) (h : SL n Ps F w v) (hn : Ps.length = n) (hi : i < n) (h8 : n ≤ 1000) (hx : P F w (.int .i64 z)) :
    Calls Tryd.prog 19 #[v, .int .i64 i, .int .i64 z] w fun e w' => ∃ A c, e = .returned (.slice A n c) ∧ SL n (Ps.set i P) F w' (.slice A n c) ∧ Below w.heap.size w w' := by
  obtain ⟨i0, hi0, hz0, hz1, hz2⟩ := info_parts Tint_info
  obtain ⟨A, c, rfl⟩ := h.form
  obtain ⟨b, o, rfl, hb, hnf, us, hul, hcell, hus⟩ := h.vals (by omega)
  have huone : ∀ u ∈ us, u.oneCell' = true := fun u hu => by
    obtain ⟨j, hj⟩ := List.mem_iff_getElem?.1 hu
    have hjl : j < Ps.length := by have := (List.getElem?_eq_some_iff.1 hj).1; omega
    obtain ⟨u2, h2, h3⟩ := hus j Ps[j] (List.getElem?_eq_getElem hjl)
    rw [hj] at h2
    rw [Option.some.inj h2]
    exact (hst _ (List.getElem_mem hjl)).one h3
  have hiI : (i : Int) < n := by omega
  have hn0 : 0 < n := by omega
  have HC := Lib.hid hcell
  have HU := Lib.hid (show us.length = n by omega)
  have HO1 := Lib.hid huone
  have HI := Lib.hid hi
  have HFIN := Lib.hid (show ∀ w2 (q cap : Nat), w2.ownsRow w.heap.size 3 1 (.slice (some ⟨q, 0, none⟩) n cap) n (us.set i (.int .i64 z)) → Below w.heap.size w w2 → SL n (Ps.set i P) F w2 (.slice (some ⟨q, 0, none⟩) n cap) from fun w2 q cap ho hb2 => by
    refine SL.own ho hF (by rw [List.length_set, List.length_set, hul]) (by rw [List.length_set]; omega) fun j Q hQ => ?_
    by_cases e : i = j
    · subst e
      rw [List.getElem?_set_self (by omega)] at hQ
      rw [← Option.some.inj hQ]
      exact ⟨_, List.getElem?_set_self (by omega), hP.below hb2 hx⟩
    · rw [List.getElem?_set_ne e] at hQ
      obtain ⟨u, h1, h2⟩ := hus j Q hQ
      exact ⟨u, by rw [List.getElem?_set_ne e]; exact h1, (hst Q (List.mem_of_getElem? hQ)).below hb2 h2⟩)
  clear hcell huone hus hul h hx hst hP hF hnf hb hn hi
  go_enter Tryd.func19, Tryd.ntmps19
  go_upto_region 3 with (at_builtin; refine wpList_append_lies _ rfl (.tmp 8) (.tmp 9) 29 rfl w.heap.size 3 i0 (.int .i64 0) 1 8 Tryd.underlying29 hi0 hz0 hz1 hz2 rfl (by omega) (.slice none 0 0) 0 [] rfl (World.ownsRow_nil _ _ _ _) ⟨b, o, none⟩ n c us rfl (by rw [HU.out]; omega) HC.out HO1.out hn0 (by unfold maxLen; omega) (by omega) (Nat.le_refl _) w.heap.size rfl ?_; intro q cap w1 hown hgrow hat hlt; have HO := Lib.hid hown; have HG := Lib.hid hgrow; clear hown hgrow hat hlt)
  have ho : w1.ownsRow w.heap.size 3 1 (.slice (some ⟨q, 0, none⟩) n cap) n us := by have := HO.out; rwa [Nat.zero_add, List.nil_append] at this
  have hb1 : Below w.heap.size w w1 := (Below.refl w.heap.size w).grown HG.out (Nat.le_refl _) fun k hk => by cases hk
  have hq : w.heap.size ≤ q := (ho.lt q rfl).1
  obtain ⟨y, hy⟩ : ∃ y, us[i]? = some y := ⟨us[i]'(by have := HI.out; have := HU.out; omega), List.getElem?_eq_getElem _⟩
  have hqc : w1.cell? ⟨q, i, none⟩ = some y := by
    rw [ho.cellAt i (by have := HI.out; omega)]; exact hy
  have hqf : w1.frozen? ⟨q, i, none⟩ = false := ho.frozenAt i
  have HB := Lib.hid (hb1.setCell (p := ⟨q, i, none⟩) hq (.int .i64 z))
  have HS := Lib.hid (HFIN.out _ q cap (ho.stored i (.int .i64 z)).1 HB.out)
  clear ho hb1 hq hy HO HG HC
  go_wp2
  go_ret
  exact ⟨_, _, rfl, HS.out, HB.out⟩
/-- A row of n things, each as G says; of numbers; of truths. -/
def sl (n : Nat) (G : Nat → Pd) : Pd := SL n ((List.range n).map G)
def nm (n : Nat) (f : Nat → Int) : Pd := sl n fun i => isInt (f i)
def bl (n : Nat) (f : Nat → Bool) : Pd := sl n fun i => isBool (f i)
theorem sl_stb {n : Nat} {G : Nat → Pd} (h : ∀ i, i < n → Stb (G i)) : Stb (sl n G) := SL_stb fun P hP => by
  obtain ⟨i, hi, rfl⟩ := List.mem_map.1 hP
  exact h i (List.mem_range.1 hi)
theorem nm_stb (n : Nat) (f : Nat → Int) : Stb (nm n f) := sl_stb fun _ _ => isInt_stb _
theorem bl_stb (n : Nat) (f : Nat → Bool) : Stb (bl n f) := sl_stb fun _ _ => isBool_stb _
theorem sl_len (n : Nat) (G : Nat → Pd) : ((List.range n).map G).length = n := by simp
theorem sl_get {n i : Nat} (G : Nat → Pd) (h : i < n) : ((List.range n).map G)[i]? = some (G i) := by simp [h]
theorem sl_set {n i : Nat} (G : Nat → Pd) (P : Pd) : ((List.range n).map G).set i P = (List.range n).map (rput G i P) := by
  apply List.ext_getElem?
  intro j
  by_cases hj : j < n
  · rw [sl_get _ hj]
    by_cases e : i = j
    · subst e; rw [List.getElem?_set_self (by simpa using hj), rput_same]
    · rw [List.getElem?_set_ne e, sl_get _ hj, rput_other (fun h => e h.symm)]
  · rw [List.getElem?_eq_none (by simp; omega), List.getElem?_eq_none (by simp; omega)]
theorem mem_stb {n : Nat} {G : Nat → Pd} (h : ∀ i, i < n → Stb (G i)) : ∀ Q ∈ (List.range n).map G, Stb Q := fun Q hQ => by
  obtain ⟨i, hi, rfl⟩ := List.mem_map.1 hQ
  exact h i (List.mem_range.1 hi)
section
variable {F : Nat → Prop} {v : Value} {n i : Nat} {w : World}
theorem set_nm {f : Nat → Int} (z : Int) (hF : ∀ b, F b → b < w.heap.size) (h : nm n f F w v) (hi : i < n) (h8 : n ≤ 1000) :
    Calls Tryd.prog 19 #[v, .int .i64 i, .int .i64 z] w fun e w' => ∃ A c, e = .returned (.slice A n c) ∧ nm n (rput f i z) F w' (.slice A n c) ∧ Below w.heap.size w w' :=
  (set_sl (P := isInt z) w hF (mem_stb fun _ _ => isInt_stb _) (isInt_stb z) h (sl_len _ _) hi h8 rfl).mono fun _ _ ⟨A, c, he, hn, hb⟩ => ⟨A, c, he, by
    rw [sl_set] at hn
    have e : rput (fun i => isInt (f i)) i (isInt z) = fun j => isInt (rput f i z j) := funext fun j => by
      by_cases e : j = i
      · rw [e, rput_same, rput_same]
      · rw [rput_other e, rput_other e]
    rw [e] at hn
    exact hn, hb⟩
theorem rput_stb {G : Nat → Pd} {P : Pd} (hG : ∀ i, i < n → Stb (G i)) (hP : Stb P) : ∀ j, j < n → Stb (rput G i P j) := fun j hj => by
  by_cases e : j = i
  · rw [e, rput_same]; exact hP
  · rw [rput_other e]; exact hG j hj
theorem sl_at {G : Nat → Pd} {A : Option Addr} {m c : Nat} (h : sl n G F w (.slice A m c)) (hi : i < n) : ∃ b o, A = some ⟨b, o, none⟩ ∧ b < w.heap.size ∧ ¬ F b ∧ ∃ u, w.cell? ⟨b, o + i, none⟩ = some u ∧ G i F w u := SL.at_ h (sl_get G hi)
end
theorem nm_at {F : Nat → Prop} {w : World} {n : Nat} {f : Nat → Int} {A : Option Addr} {m c : Nat} (h : nm n f F w (.slice A m c)) {i : Nat} (hi : i < n) : ∃ b o, A = some ⟨b, o, none⟩ ∧ b < w.heap.size ∧ ¬ F b ∧ w.cell? ⟨b, o + i, none⟩ = some (.int .i64 (f i)) := by
  obtain ⟨b, o, e, hb, hf, u, hu, rfl⟩ := sl_at h hi
  exact ⟨b, o, e, hb, hf, hu⟩
theorem bl_at {F : Nat → Prop} {w : World} {n : Nat} {f : Nat → Bool} {A : Option Addr} {m c : Nat} (h : bl n f F w (.slice A m c)) {i : Nat} (hi : i < n) : ∃ b o, A = some ⟨b, o, none⟩ ∧ b < w.heap.size ∧ ¬ F b ∧ w.cell? ⟨b, o + i, none⟩ = some (.bool (f i)) := by
  obtain ⟨b, o, e, hb, hf, u, hu, rfl⟩ := sl_at h hi
  exact ⟨b, o, e, hb, hf, hu⟩
theorem nm_congr {F : Nat → Prop} {w : World} {v : Value} {n : Nat} {f f' : Nat → Int} (h : nm n f F w v) (e : ∀ i, i < n → f' i = f i) : nm n f' F w v := by
  have h1 : (List.range n).map (fun i => isInt (f' i)) = (List.range n).map (fun i => isInt (f i)) := List.map_congr_left fun i hi => by rw [e i (List.mem_range.1 hi)]
  unfold nm sl at h ⊢
  rw [h1]; exact h
end Go.Proofs.YtbicckeoidijpaaDoor.Rf
