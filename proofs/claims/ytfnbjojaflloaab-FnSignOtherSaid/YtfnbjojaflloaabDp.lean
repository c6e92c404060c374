/-
  Plain facts on directories: paths. Nothing of any program.
-/
import Derived.Test.YtfnbjojaflloaabDn
namespace Go.Proofs.Ytfnbjojaflloaab
namespace Dm
open Gm Tm Ec

/-- The places that are chosen, one after the other, f more of them; none where no weight is left. -/
def pathC (es : List En) : Nat → List Int → Int → Option (List Int)
  | 0, ch, _ => some ch
  | f + 1, ch, s => bif decide (wtL ch es = 0) then none else pathC es f (ch ++ [pickL ch es (s % wtL ch es)]) (s / wtL ch es)
def nmI (es : List En) (k : Int) : Int := (enAt es k.toNat).nm
def seedB (s : Int) : Bool := decide (0 ≤ s ∧ s ≤ 999999)
def hopB (h : Int) : Bool := decide (1 ≤ h ∧ h ≤ 3)
def pathN (es : List En) (f : Nat) (ch : List Int) (s : Int) : List Int := match pathC es f ch s with
  | some r => r.map (nmI es)
  | none => []
def pathF (ep : Int) (es : List En) (s h : Int) : List Int := bif dirOk ep es && (seedB s && hopB h) then pathN es h.toNat [] s else []
theorem pathC_none {es : List En} {f : Nat} {ch : List Int} {s : Int} (h : wtL ch es = 0) : pathC es (f + 1) ch s = none := by
  unfold pathC; rw [decide_eq_true h]; rfl
theorem pathC_next {es : List En} {f : Nat} {ch : List Int} {s : Int} (h : wtL ch es ≠ 0) : pathC es (f + 1) ch s = pathC es f (ch ++ [pickL ch es (s % wtL ch es)]) (s / wtL ch es) := by
  rw [pathC, decide_eq_false h]; rfl
/-- What has been chosen: places of the directory that have a weight, each once. -/
def Chosen (es : List En) (ch : List Int) : Prop := (∀ k ∈ ch, ∃ j : Nat, j < es.length ∧ k = (j : Int) ∧ 0 < (enAt es j).wt) ∧ ch.Nodup
theorem chosen_nil (es : List En) : Chosen es [] := ⟨fun k h => by simp at h, List.nodup_nil⟩
theorem wtL_pos {es : List En} (hn : NN es) {ch : List Int} (h : wtL ch es ≠ 0) : 0 < wtL ch es := by
  have : 0 ≤ wtL ch es := wtTo_nn hn _
  omega
theorem pick_mod {es : List En} (hn : NN es) {ch : List Int} {s : Int} (h : wtL ch es ≠ 0) : ∃ j : Nat, j < es.length ∧ pickL ch es (s % wtL ch es) = (j : Int) ∧ has ch j = false ∧ 0 < (enAt es j).wt := by
  have hp := wtL_pos hn h
  obtain ⟨j, hj, e, a1, a2⟩ := pickL_some (ch := ch) hn (p := s % wtL ch es) (Int.emod_nonneg _ h) (Int.emod_lt_of_pos _ hp)
  obtain ⟨h1, h2⟩ := falls_wt a1 a2
  exact ⟨j, hj, e, h1, h2⟩
theorem chosen_next {es : List En} (hn : NN es) {ch : List Int} {s : Int} (hc : Chosen es ch) (h : wtL ch es ≠ 0) : Chosen es (ch ++ [pickL ch es (s % wtL ch es)]) := by
  obtain ⟨j, hj, e, h1, h2⟩ := pick_mod hn (s := s) h
  rw [e]
  refine ⟨fun k hk => ?_, ?_⟩
  · rcases List.mem_append.1 hk with hk | hk
    · exact hc.1 k hk
    · rw [List.mem_singleton] at hk; exact ⟨j, hj, hk, h2⟩
  · have hnot : ((j : Int)) ∉ ch := fun hm => by
      unfold has at h1
      rw [List.contains_iff_mem.2 hm] at h1; cases h1
    rw [List.nodup_append]
    exact ⟨hc.2, by simp, fun a ha b hb e => by rw [List.mem_singleton] at hb; subst hb; subst e; exact hnot ha⟩
theorem pathC_chosen {es : List En} (hn : NN es) {f : Nat} {ch : List Int} {s : Int} {r : List Int} (hc : Chosen es ch) (h : pathC es f ch s = some r) : Chosen es r ∧ r.length = ch.length + f ∧ r.take ch.length = ch := by
  induction f generalizing ch s with
  | zero =>
    cases h
    exact ⟨hc, by omega, List.take_length⟩
  | succ f ih =>
    by_cases hw : wtL ch es = 0
    · rw [pathC_none hw] at h; cases h
    · rw [pathC_next hw] at h
      obtain ⟨h1, h2, h3⟩ := ih (chosen_next hn hc hw) h
      rw [List.length_append, List.length_singleton] at h2 h3
      refine ⟨h1, by omega, ?_⟩
      have := congrArg (List.take ch.length) h3
      rwa [List.take_take, Nat.min_eq_left (by omega), List.take_left] at this
/-- Promise 84: a shorter path. -/
theorem pathC_short {es : List En} (hn : NN es) {f g : Nat} {ch : List Int} {s : Int} {r : List Int} (hc : Chosen es ch) (hg : g ≤ f) (h : pathC es f ch s = some r) : pathC es g ch s = some (r.take (ch.length + g)) := by
  induction g generalizing f ch s with
  | zero =>
    obtain ⟨_, _, h3⟩ := pathC_chosen hn hc h
    rw [Nat.add_zero, h3]; rfl
  | succ g ih =>
    obtain ⟨f, rfl⟩ : ∃ f', f = f' + 1 := ⟨f - 1, by omega⟩
    by_cases hw : wtL ch es = 0
    · rw [pathC_none hw] at h; cases h
    · rw [pathC_next hw] at h ⊢
      have := ih (chosen_next hn hc hw) (by omega) h
      rw [List.length_append, List.length_singleton] at this
      rw [this, Nat.add_assoc, Nat.add_comm 1 g]
/-- How many places have a weight and are not chosen. -/
def left (es : List En) (ch : List Int) (n : Nat) : Nat := (List.range n).countP (fun k => decide (0 < wtI ch es k))
theorem left_succ (es : List En) (ch : List Int) (n : Nat) : left es ch (n + 1) = left es ch n + (if 0 < wtI ch es n then 1 else 0) := by
  unfold left
  rw [List.range_succ, List.countP_append, List.countP_singleton]
  by_cases h : 0 < wtI ch es n <;> simp [h]
theorem left_zero_iff {es : List En} (hn : NN es) {ch : List Int} (n : Nat) : left es ch n = 0 ↔ wtTo ch es n = 0 := by
  induction n with
  | zero => exact ⟨fun _ => rfl, fun _ => rfl⟩
  | succ n ih =>
    have e : wtTo ch es (n + 1) = wtTo ch es n + wtI ch es n := rfl
    have h1 := wtTo_nn (ch := ch) hn n
    have h2 := wtI_nn (ch := ch) hn n
    rw [left_succ, e]
    by_cases h : 0 < wtI ch es n
    · rw [if_pos h]; omega
    · rw [if_neg h]; omega
theorem has_app {ch : List Int} {j k : Nat} : has (ch ++ [(j : Int)]) k = (has ch k || decide (k = j)) := by
  unfold has
  rw [Bool.eq_iff_iff, Bool.or_eq_true, List.contains_iff_mem, List.contains_iff_mem, List.mem_append, List.mem_singleton, decide_eq_true_eq]
  exact or_congr Iff.rfl Int.ofNat_inj
theorem wtI_app {es : List En} {ch : List Int} {j k : Nat} : wtI (ch ++ [(j : Int)]) es k = if k = j then 0 else wtI ch es k := by
  unfold wtI
  rw [has_app]
  by_cases h : k = j
  · rw [if_pos h, decide_eq_true h, Bool.or_true]; rfl
  · rw [if_neg h, decide_eq_false h, Bool.or_false]
theorem left_next {es : List En} {ch : List Int} {j : Nat} (hh : 0 < wtI ch es j) (n : Nat) : left es (ch ++ [(j : Int)]) n + (if j < n then 1 else 0) = left es ch n := by
  induction n with
  | zero => simp [left]
  | succ n ih =>
    rw [left_succ, left_succ, wtI_app]
    by_cases h : n = j
    · subst h
      rw [if_neg (Nat.lt_irrefl n)] at ih
      rw [if_pos rfl, if_neg (Int.lt_irrefl 0), if_pos (Nat.lt_succ_self n), if_pos hh]
      omega
    · rw [if_neg h]
      by_cases h2 : j < n
      · rw [if_pos h2] at ih
        rw [if_pos (show j < n + 1 by omega)]
        omega
      · rw [if_neg h2] at ih
        rw [if_neg (show ¬ j < n + 1 by omega)]
        omega
/-- Promise 85. -/
theorem pathC_is {es : List En} (hn : NN es) {f : Nat} {ch : List Int} {s : Int} : (pathC es f ch s).isSome = decide (f ≤ left es ch es.length) := by
  induction f generalizing ch s with
  | zero => simp [pathC]
  | succ f ih =>
    by_cases hw : wtL ch es = 0
    · rw [pathC_none hw]
      have := (left_zero_iff hn (ch := ch) es.length).2 hw
      simp [this]
    · rw [pathC_next hw]
      obtain ⟨j, hj, e, h1, h2⟩ := pick_mod hn (s := s) hw
      rw [e, ih]
      have hh : 0 < wtI ch es j := by unfold wtI; rw [h1]; exact h2
      have := left_next hh es.length
      rw [if_pos hj] at this
      rw [Bool.eq_iff_iff, decide_eq_true_eq, decide_eq_true_eq]
      omega
/-- The number of places that have a weight. -/
def posN (es : List En) (n : Nat) : Nat := (List.range n).countP (fun k => decide (0 < (enAt es k).wt))
theorem posN_succ (es : List En) (n : Nat) : posN es (n + 1) = posN es n + (if 0 < (enAt es n).wt then 1 else 0) := by
  unfold posN
  rw [List.range_succ, List.countP_append, List.countP_singleton]
  by_cases h : 0 < (enAt es n).wt <;> simp [h]
theorem left_nil (es : List En) (n : Nat) : left es [] n = posN es n := rfl

theorem pathF_yes {ep s h : Int} {es : List En} (h1 : dirOk ep es = true) (h2 : seedB s = true) (h3 : hopB h = true) : pathF ep es s h = pathN es h.toNat [] s := by
  unfold pathF; rw [h1, h2, h3]; rfl
theorem pathF_no {ep s h : Int} {es : List En} (hx : (dirOk ep es && (seedB s && hopB h)) = false) : pathF ep es s h = [] := by
  unfold pathF; rw [hx]; rfl
theorem pathN_some {es : List En} {f : Nat} {ch : List Int} {s : Int} {r : List Int} (h : pathC es f ch s = some r) : pathN es f ch s = r.map (nmI es) := by
  unfold pathN; rw [h]
theorem pathN_none {es : List En} {f : Nat} {ch : List Int} {s : Int} (h : pathC es f ch s = none) : pathN es f ch s = [] := by
  unfold pathN; rw [h]
/-- What a path that is not empty is made of. -/
theorem pathF_open {ep s h : Int} {es : List En} (hne : pathF ep es s h ≠ []) : dirOk ep es = true ∧ (0 ≤ s ∧ s ≤ 999999) ∧ (1 ≤ h ∧ h ≤ 3) ∧ ∃ r, pathC es h.toNat [] s = some r ∧ pathF ep es s h = r.map (nmI es) ∧ Chosen es r ∧ r.length = h.toNat := by
  cases hx : dirOk ep es && (seedB s && hopB h)
  · rw [pathF_no hx] at hne; exact absurd rfl hne
  · rw [Bool.and_eq_true, Bool.and_eq_true] at hx
    obtain ⟨h1, h2, h3⟩ := hx
    have hs : 0 ≤ s ∧ s ≤ 999999 := by simpa [seedB] using h2
    have hh : 1 ≤ h ∧ h ≤ 3 := by simpa [hopB] using h3
    rw [pathF_yes h1 h2 h3] at hne ⊢
    cases hc : pathC es h.toNat [] s with
    | none => rw [pathN_none hc] at hne; exact absurd rfl hne
    | some r =>
      obtain ⟨g1, g2, _⟩ := pathC_chosen (nn_of (dirOk_iff.1 h1).1) (chosen_nil es) hc
      rw [List.length_nil, Nat.zero_add] at g2
      exact ⟨h1, hs, hh, r, rfl, pathN_some hc, g1, g2⟩
theorem nm_inj {es : List En} (h : esOk es = true) {i j : Nat} (hi : i < es.length) (hj : j < es.length) (e : (enAt es i).nm = (enAt es j).nm) : i = j := by
  rcases Nat.lt_trichotomy i j with q | q | q
  · have := ok_lt h q hj; omega
  · exact q
  · have := ok_lt h q hi; omega
/-- Promise 82: place by place. -/
theorem path_at {ep : Int} {es : List En} {r : List Int} (hd : dirOk ep es = true) (hc : Chosen es r) {i : Nat} (hi : i < r.length) : ∃ j : Nat, j < es.length ∧ r.getD i 0 = (j : Int) ∧ (r.map (nmI es)).getD i 0 = (enAt es j).nm ∧ 0 < (enAt es j).wt ∧ ∀ k, k < i → (r.map (nmI es)).getD k 0 ≠ (enAt es j).nm := by
  have hm : ∀ k, k < r.length → r.getD k 0 ∈ r := fun k hk => by
    rw [List.getD_eq_getElem?_getD, List.getElem?_eq_getElem hk]; exact List.getElem_mem hk
  have hg : ∀ k, k < r.length → (r.map (nmI es)).getD k 0 = nmI es (r.getD k 0) := fun k hk => by
    rw [List.getD_eq_getElem?_getD, List.getElem?_map, List.getD_eq_getElem?_getD, List.getElem?_eq_getElem hk]; rfl
  obtain ⟨j, hj, e, hw⟩ := hc.1 _ (hm i hi)
  refine ⟨j, hj, e, by rw [hg i hi, e]; rfl, hw, fun k hk he => ?_⟩
  obtain ⟨j2, hj2, e2, _⟩ := hc.1 _ (hm k (by omega))
  rw [hg k (by omega), e2] at he
  have hjj : j2 = j := nm_inj (dirOk_iff.1 hd).1 hj2 hj he
  subst hjj
  have h1 : r[k]'(by omega) = r[i] := by
    have a1 : r.getD k 0 = r[k]'(by omega) := by rw [List.getD_eq_getElem?_getD, List.getElem?_eq_getElem (by omega)]; rfl
    have a2 : r.getD i 0 = r[i] := by rw [List.getD_eq_getElem?_getD, List.getElem?_eq_getElem hi]; rfl
    rw [← a1, ← a2, e, e2]
  have := (List.nodup_iff_pairwise_ne.1 hc.2)
  have h3 := List.pairwise_iff_getElem.1 this k i (by omega) hi hk
  exact h3 h1
/-- Promise 83. -/
theorem path_first {ep s h : Int} {es : List En} (hne : pathF ep es s h ≠ []) : ∃ j : Nat, j < es.length ∧ wtL [] es ≠ 0 ∧ pickL [] es (s % wtL [] es) = (j : Int) ∧ (pathF ep es s h).getD 0 0 = (enAt es j).nm := by
  obtain ⟨h1, h2, h3, r, hc, he, hch, hl⟩ := pathF_open hne
  have hn := nn_of (dirOk_iff.1 h1).1
  obtain ⟨f, hf⟩ : ∃ f, h.toNat = f + 1 := ⟨h.toNat - 1, by omega⟩
  rw [hf] at hc
  by_cases hw : wtL [] es = 0
  · rw [pathC_none hw] at hc; cases hc
  · obtain ⟨j, hj, e, _, _⟩ := pick_mod hn (ch := []) (s := s) hw
    rw [pathC_next hw] at hc
    obtain ⟨_, _, q3⟩ := pathC_chosen hn (chosen_next hn (chosen_nil es) hw) hc
    rw [e] at q3
    refine ⟨j, hj, hw, e, ?_⟩
    rw [he]
    cases r with
    | nil => simp at q3
    | cons a l =>
      have : a = (j : Int) := by simpa using q3
      subst this
      rfl
/-- Promise 84. -/
theorem path_short {ep s h k : Int} {es : List En} (hne : pathF ep es s h ≠ []) (hk : 1 ≤ k ∧ k ≤ h) : pathF ep es s k = (pathF ep es s h).take k.toNat := by
  obtain ⟨h1, h2, h3, r, hc, he, hch, hl⟩ := pathF_open hne
  have hn := nn_of (dirOk_iff.1 h1).1
  have := pathC_short hn (chosen_nil es) (show k.toNat ≤ h.toNat by omega) hc
  rw [List.length_nil, Nat.zero_add] at this
  rw [pathF_yes h1 (by simp [seedB]; omega) (by simp [hopB]; omega), pathN_some this, he, List.map_take]
/-- Promise 85. -/
theorem path_none {ep s h : Int} {es : List En} (h1 : dirOk ep es = true) (h2 : 0 ≤ s ∧ s ≤ 999999) (h3 : 1 ≤ h ∧ h ≤ 3) : decide (0 < (pathF ep es s h).length) = decide (h ≤ (posN es es.length : Int)) := by
  have hn := nn_of (dirOk_iff.1 h1).1
  have := pathC_is hn (f := h.toNat) (ch := []) (s := s)
  rw [left_nil] at this
  rw [pathF_yes h1 (by simp [seedB]; omega) (by simp [hopB]; omega)]
  cases hc : pathC es h.toNat [] s with
  | none =>
    rw [hc] at this
    have h4 : ¬ h.toNat ≤ posN es es.length := by simpa using this.symm
    rw [pathN_none hc, Bool.eq_iff_iff, decide_eq_true_eq, decide_eq_true_eq]
    simp only [List.length_nil]
    omega
  | some r =>
    rw [hc] at this
    have h4 : h.toNat ≤ posN es es.length := by simpa using this.symm
    obtain ⟨_, g2, _⟩ := pathC_chosen hn (chosen_nil es) hc
    rw [pathN_some hc, Bool.eq_iff_iff, decide_eq_true_eq, decide_eq_true_eq, List.length_map, g2]
    simp only [List.length_nil]
    omega

end Dm
end Go.Proofs.Ytfnbjojaflloaab
