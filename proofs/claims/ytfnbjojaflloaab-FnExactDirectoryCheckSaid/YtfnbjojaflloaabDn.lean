/-
  Plain facts on directories: signatures, picks by weight, paths. Nothing of any program.
-/
import Derived.Test.YtfnbjojaflloaabDm
namespace Go.Proofs.Ytfnbjojaflloaab
namespace Dm
open Gm Tm Ec

/-! ### signatures -/
def signF (s ep : Int) (es : List En) : Int := bif inG s && dirOk ep es then mulG s (digL ep es + 1) else 0
def sigB (x : Int) : Bool := decide (0 ≤ x ∧ x ≤ 996)
/-- The signature g is right for the public key p. -/
def rightB (p g d : Int) : Bool := decide (0 < g) && decide (mulG g 5 = mulG p (d + 1))
def cnt (b : Bool) : Nat := bif b then 1 else 0
/-- How many of the first k are right. -/
def rights (ps gs : List Int) (d : Int) (k : Nat) : Nat := (List.range k).countP (fun i => rightB (ps.getD i 0) (gs.getD i 0) d)
def partsOk (ps gs : List Int) : Bool := (List.range 3).all (fun i => inG (ps.getD i 0) && sigB (gs.getD i 0))
def checkF (ps : List Int) (ep : Int) (es : List En) (gs : List Int) : Bool :=
  dirOk ep es && (decide (ps.length = 3) && (decide (gs.length = 3) && (partsOk ps gs && decide (2 ≤ rights ps gs (digL ep es) 3))))
theorem rights_succ (ps gs : List Int) (d : Int) (k : Nat) : rights ps gs d (k + 1) = rights ps gs d k + cnt (rightB (ps.getD k 0) (gs.getD k 0) d) := by
  unfold rights
  rw [List.range_succ, List.countP_append, List.countP_singleton]
  cases rightB (ps.getD k 0) (gs.getD k 0) d <;> rfl
theorem rights_zero (ps gs : List Int) (d : Int) : rights ps gs d 0 = 0 := rfl
theorem rights_le (ps gs : List Int) (d : Int) (k : Nat) : rights ps gs d k ≤ k := by
  have := List.countP_le_length (p := fun i => rightB (ps.getD i 0) (gs.getD i 0) d) (l := List.range k)
  rwa [List.length_range] at this
theorem rights_three (ps gs : List Int) (d : Int) : rights ps gs d 3 = cnt (rightB (ps.getD 0 0) (gs.getD 0 0) d) + cnt (rightB (ps.getD 1 0) (gs.getD 1 0) d) + cnt (rightB (ps.getD 2 0) (gs.getD 2 0) d) := by
  rw [rights_succ, rights_succ, rights_succ, rights_zero, Nat.zero_add]
theorem cnt_le (b : Bool) : cnt b ≤ 1 := by cases b <;> simp [cnt]
theorem checkF_iff {ps gs : List Int} {ep : Int} {es : List En} : checkF ps ep es gs = true ↔ dirOk ep es = true ∧ ps.length = 3 ∧ gs.length = 3 ∧ partsOk ps gs = true ∧ 2 ≤ rights ps gs (digL ep es) 3 := by
  unfold checkF
  simp only [Bool.and_eq_true, decide_eq_true_eq]
theorem partsOk_iff {ps gs : List Int} : partsOk ps gs = true ↔ ∀ i, i < 3 → inG (ps.getD i 0) = true ∧ 0 ≤ gs.getD i 0 ∧ gs.getD i 0 ≤ 996 := by
  unfold partsOk sigB
  rw [List.all_eq_true]
  simp only [List.mem_range, Bool.and_eq_true, decide_eq_true_eq]
theorem dig_in (ep : Int) (es : List En) : inG (digL ep es + 1) = true := by
  have := digL_bd ep es
  exact inG_iff.2 (by omega)
theorem five_in : inG 5 = true := rfl
/-- An authority's own signature is right. -/
theorem sign_right {s ep : Int} {es : List En} (hs : inG s = true) (hd : dirOk ep es = true) : rightB (mulG s 5) (signF s ep es) (digL ep es) = true := by
  have h1 := dig_in ep es
  have e : signF s ep es = mulG s (digL ep es + 1) := by rw [signF, hs, hd]; rfl
  have h2 := inG_iff.1 (mulG_pos hs h1)
  unfold rightB
  rw [e]
  simp only [Bool.and_eq_true, decide_eq_true_eq]
  refine ⟨by omega, ?_⟩
  rw [← mulG_assoc hs h1 five_in, mulG_comm (digL ep es + 1) 5, mulG_assoc hs five_in h1]
theorem right_zero (p d : Int) : rightB p 0 d = false := by simp [rightB]
/-- A signature is right for one digest alone. -/
theorem right_one {p g d e : Int} (hp : inG p = true) (hd : 0 ≤ d ∧ d ≤ 990) (he : 0 ≤ e ∧ e ≤ 990) (hne : d ≠ e) (h : rightB p g d = true) : rightB p g e = false := by
  cases hb : rightB p g e
  · rfl
  · unfold rightB at h hb
    simp only [Bool.and_eq_true, decide_eq_true_eq] at h hb
    have := mulG_inj hp (inG_iff.2 (by omega : 1 ≤ d + 1 ∧ d + 1 ≤ 996)) (inG_iff.2 (by omega : 1 ≤ e + 1 ∧ e + 1 ≤ 996)) (h.2.symm.trans hb.2)
    omega
/-- Promise 78. -/
theorem check_other {ps gs : List Int} {ep ep2 : Int} {es : List En} (h : checkF ps ep es gs = true) (hne : ep ≠ ep2) : checkF ps ep2 es gs = false := by
  cases hb : checkF ps ep2 es gs
  · rfl
  · obtain ⟨h1, h2, h3, h4, h5⟩ := checkF_iff.1 h
    obtain ⟨g1, g2, g3, g4, g5⟩ := checkF_iff.1 hb
    have hd := dig_ep (es := es) (dirOk_iff.1 h1).2.1 (dirOk_iff.1 g1).2.1 hne
    have hp := partsOk_iff.1 h4
    have key : ∀ i, i < 3 → cnt (rightB (ps.getD i 0) (gs.getD i 0) (digL ep es)) + cnt (rightB (ps.getD i 0) (gs.getD i 0) (digL ep2 es)) ≤ 1 := fun i hi => by
      cases hr : rightB (ps.getD i 0) (gs.getD i 0) (digL ep es)
      · have := cnt_le (rightB (ps.getD i 0) (gs.getD i 0) (digL ep2 es)); simp [cnt] at *; omega
      · rw [right_one (hp i hi).1 (digL_bd _ _) (digL_bd _ _) hd hr]; simp [cnt]
    rw [rights_three] at h5 g5
    have k0 := key 0 (by omega)
    have k1 := key 1 (by omega)
    have k2 := key 2 (by omega)
    omega
/-- Promise 79: of one signature alone, at place k. -/
theorem check_one {ps xs : List Int} {ep : Int} {es : List En} {k : Nat} (hx : ∀ i, i ≠ k → xs.getD i 0 = 0) : checkF ps ep es xs = false := by
  cases hb : checkF ps ep es xs
  · rfl
  · obtain ⟨g1, g2, g3, g4, g5⟩ := checkF_iff.1 hb
    rw [rights_three] at g5
    have z : ∀ i, i ≠ k → cnt (rightB (ps.getD i 0) (xs.getD i 0) (digL ep es)) = 0 := fun i hi => by rw [hx i hi, right_zero]; rfl
    have c0 := cnt_le (rightB (ps.getD 0 0) (xs.getD 0 0) (digL ep es))
    have c1 := cnt_le (rightB (ps.getD 1 0) (xs.getD 1 0) (digL ep es))
    have c2 := cnt_le (rightB (ps.getD 2 0) (xs.getD 2 0) (digL ep es))
    by_cases h0 : k = 0
    · have := z 1 (by omega); have := z 2 (by omega); omega
    · by_cases h1 : k = 1
      · have := z 0 (by omega); have := z 2 (by omega); omega
      · have := z 0 (by omega); have := z 1 (by omega); omega

/-! ### picks -/
def has (ch : List Int) (k : Nat) : Bool := ch.contains (k : Int)
/-- The weight that place k still has. -/
def wtI (ch : List Int) (es : List En) (k : Nat) : Int := bif has ch k then 0 else (enAt es k).wt
/-- .. of the first k places together. -/
def wtTo (ch : List Int) (es : List En) : Nat → Int
  | 0 => 0
  | k + 1 => wtTo ch es k + wtI ch es k
def wtL (ch : List Int) (es : List En) : Int := wtTo ch es es.length
/-- The place at a point, looked for from place k on, r places being left. -/
def pickR (ch : List Int) (es : List En) : Nat → Nat → Int → Int
  | 0, _, _ => -1
  | r + 1, k, p => bif has ch k then pickR ch es r (k + 1) p else bif decide (p < (enAt es k).wt) then (k : Int) else pickR ch es r (k + 1) (p - (enAt es k).wt)
def pickL (ch : List Int) (es : List En) (p : Int) : Int := pickR ch es es.length 0 p
def pickF (ep : Int) (es : List En) (p : Int) : Int := bif dirOk ep es && decide (0 ≤ p) then pickL [] es p else -1
/-- No weight is negative. -/
def NN (es : List En) : Prop := ∀ k, 0 ≤ (enAt es k).wt
theorem nn_of {es : List En} (h : esOk es = true) : NN es := fun k => by
  rcases Nat.lt_or_ge k es.length with hk | hk
  · exact (okE_iff.1 (ok_ix h hk)).2.2.1
  · unfold enAt
    rw [List.getD_eq_getElem?_getD, List.getElem?_eq_none hk]
    exact Int.le_refl 0
theorem wtI_nn {ch : List Int} {es : List En} (h : NN es) (k : Nat) : 0 ≤ wtI ch es k := by
  unfold wtI
  cases has ch k
  · exact h k
  · exact Int.le_refl 0
theorem wtTo_mono {ch : List Int} {es : List En} (h : NN es) {i j : Nat} (hij : i ≤ j) : wtTo ch es i ≤ wtTo ch es j := by
  induction j with
  | zero => obtain rfl : i = 0 := by omega
            exact Int.le_refl _
  | succ j ih =>
    rcases Nat.lt_or_ge i (j + 1) with h1 | h1
    · have := ih (by omega)
      have := wtI_nn (ch := ch) h j
      show _ ≤ wtTo ch es j + wtI ch es j
      omega
    · obtain rfl : i = j + 1 := by omega
      exact Int.le_refl _
theorem wtTo_nn {ch : List Int} {es : List En} (h : NN es) (k : Nat) : 0 ≤ wtTo ch es k := wtTo_mono (i := 0) h (Nat.zero_le _)
/-- Where a point falls. -/
def Falls (ch : List Int) (es : List En) (p r : Int) : Prop := (r = -1 ∧ wtL ch es ≤ p) ∨ ∃ j : Nat, j < es.length ∧ r = (j : Int) ∧ wtTo ch es j ≤ p ∧ p < wtTo ch es (j + 1)
theorem pickR_falls {ch : List Int} {es : List En} (_h : NN es) {p : Int} (r k : Nat) (hr : k + r = es.length) (hp : wtTo ch es k ≤ p) : Falls ch es p (pickR ch es r k (p - wtTo ch es k)) := by
  induction r generalizing k with
  | zero =>
    obtain rfl : k = es.length := by omega
    exact .inl ⟨rfl, hp⟩
  | succ r ih =>
    have e : wtTo ch es (k + 1) = wtTo ch es k + wtI ch es k := rfl
    unfold pickR
    cases hh : has ch k
    · have e2 : wtI ch es k = (enAt es k).wt := by unfold wtI; rw [hh]; rfl
      rw [cond_false]
      by_cases hlt : p - wtTo ch es k < (enAt es k).wt
      · rw [decide_eq_true hlt, cond_true]
        exact .inr ⟨k, by omega, rfl, hp, by omega⟩
      · rw [decide_eq_false hlt, cond_false]
        have := ih (k + 1) (by omega) (by omega)
        rw [e, e2] at this
        rwa [show p - (wtTo ch es k + (enAt es k).wt) = p - wtTo ch es k - (enAt es k).wt by omega] at this
    · have e2 : wtI ch es k = 0 := by unfold wtI; rw [hh]; rfl
      rw [cond_true]
      have := ih (k + 1) (by omega) (by omega)
      rw [e, e2] at this
      rwa [Int.add_zero] at this
theorem pickL_falls {ch : List Int} {es : List En} (h : NN es) {p : Int} (hp : 0 ≤ p) : Falls ch es p (pickL ch es p) := by
  have := pickR_falls (ch := ch) h (p := p) es.length 0 (by omega) hp
  rwa [show wtTo ch es 0 = 0 from rfl, Int.sub_zero] at this
theorem falls_one {ch : List Int} {es : List En} (h : NN es) {p r s : Int} (h1 : Falls ch es p r) (h2 : Falls ch es p s) : r = s := by
  have up : ∀ {j : Nat}, j < es.length → wtTo ch es (j + 1) ≤ wtL ch es := fun hj => wtTo_mono h hj
  rcases h1 with ⟨rfl, a1⟩ | ⟨i, hi, rfl, a1, a2⟩ <;> rcases h2 with ⟨rfl, b1⟩ | ⟨j, hj, rfl, b1, b2⟩
  · rfl
  · have := up hj; omega
  · have := up hi; omega
  · rcases Nat.lt_trichotomy i j with q | q | q
    · have := wtTo_mono (ch := ch) h (show i + 1 ≤ j from q); omega
    · rw [q]
    · have := wtTo_mono (ch := ch) h (show j + 1 ≤ i from q); omega
theorem falls_ix {ch : List Int} {es : List En} {p r : Int} (hf : Falls ch es p r) (hr : 0 ≤ r) : ∃ j : Nat, j < es.length ∧ r = (j : Int) ∧ wtTo ch es j ≤ p ∧ p < wtTo ch es (j + 1) := by
  rcases hf with ⟨rfl, _⟩ | hf
  · omega
  · exact hf
/-- What is picked has a weight, and was not chosen. -/
theorem falls_wt {ch : List Int} {es : List En} {p : Int} {j : Nat} (h1 : wtTo ch es j ≤ p) (h2 : p < wtTo ch es (j + 1)) : has ch j = false ∧ 0 < (enAt es j).wt := by
  have e : wtTo ch es (j + 1) = wtTo ch es j + wtI ch es j := rfl
  have h3 : 0 < wtI ch es j := by omega
  unfold wtI at h3
  cases hh : has ch j
  · rw [hh] at h3; exact ⟨rfl, h3⟩
  · rw [hh, cond_true] at h3; omega
theorem pickL_some {ch : List Int} {es : List En} (h : NN es) {p : Int} (hp : 0 ≤ p) (hl : p < wtL ch es) : ∃ j : Nat, j < es.length ∧ pickL ch es p = (j : Int) ∧ wtTo ch es j ≤ p ∧ p < wtTo ch es (j + 1) := by
  rcases pickL_falls (ch := ch) h hp with ⟨_, h2⟩ | h2
  · omega
  · exact h2
theorem pickL_none {ch : List Int} {es : List En} (h : NN es) {p : Int} (hp : 0 ≤ p) (hl : wtL ch es ≤ p) : pickL ch es p = -1 := falls_one h (pickL_falls h hp) (.inl ⟨rfl, hl⟩)
theorem pickL_ge {ch : List Int} {es : List En} (h : NN es) {p : Int} (hp : 0 ≤ p) : -1 ≤ pickL ch es p ∧ pickL ch es p < es.length := by
  rcases pickL_falls (ch := ch) h hp with ⟨e, _⟩ | ⟨j, hj, e, _⟩ <;> rw [e] <;> omega
/-- Promise 81: a later point is at no earlier place. -/
theorem pick_mono {ch : List Int} {es : List En} (h : NN es) {p q : Int} (hp : 0 ≤ p) (hpq : p ≤ q) (hr : 0 ≤ pickL ch es p) : pickL ch es q = -1 ∨ pickL ch es p ≤ pickL ch es q := by
  obtain ⟨i, hi, e, a1, a2⟩ := falls_ix (pickL_falls (ch := ch) h hp) hr
  rcases pickL_falls (ch := ch) h (p := q) (by omega) with ⟨e2, _⟩ | ⟨j, hj, e2, b1, b2⟩
  · exact .inl e2
  · right
    rw [e, e2]
    rcases Nat.lt_or_ge j i with q1 | q1
    · have := wtTo_mono (ch := ch) h (show j + 1 ≤ i from q1); omega
    · omega
/-- Promise 86: all points between. -/
theorem pick_between {ch : List Int} {es : List En} (h : NN es) {p q x : Int} (hp : 0 ≤ p) (h1 : p ≤ x) (h2 : x ≤ q) (hr : 0 ≤ pickL ch es p) (he : pickL ch es q = pickL ch es p) : pickL ch es x = pickL ch es p := by
  obtain ⟨i, hi, e, a1, a2⟩ := falls_ix (pickL_falls (ch := ch) h hp) hr
  obtain ⟨j, hj, e2, b1, b2⟩ := falls_ix (pickL_falls (ch := ch) h (p := q) (by omega)) (by omega)
  obtain rfl : i = j := by omega
  rw [e]
  exact falls_one h (pickL_falls h (by omega)) (.inr ⟨i, hi, rfl, by omega, by omega⟩)
/-- Promise 80: how many points pick place i. -/
theorem count_between (a b n : Nat) (hab : a ≤ b) : (List.range n).countP (fun p => decide (a ≤ p ∧ p < b)) = min n b - a := by
  induction n with
  | zero => simp
  | succ n ih =>
    rw [List.range_succ, List.countP_append, ih]
    by_cases h : a ≤ n ∧ n < b
    · have e : List.countP (fun p => decide (a ≤ p ∧ p < b)) [n] = 1 := by simp [h]
      rw [e]; omega
    · have e : List.countP (fun p => decide (a ≤ p ∧ p < b)) [n] = 0 := by
        rw [List.countP_eq_zero]
        intro x hx
        rw [List.mem_singleton] at hx
        subst hx
        simpa using h
      rw [e]; omega
/-- How many of the first m points pick place i. -/
def hits (es : List En) (i m : Nat) : Nat := (List.range m).countP (fun p : Nat => decide (pickL [] es (p : Int) = (i : Int)))
theorem hits_zero (es : List En) (i : Nat) : hits es i 0 = 0 := rfl
theorem hits_succ (es : List En) (i m : Nat) : hits es i (m + 1) = hits es i m + (if pickL [] es (m : Int) = (i : Int) then 1 else 0) := by
  unfold hits
  rw [List.range_succ, List.countP_append, List.countP_singleton]
  by_cases h : pickL [] es (m : Int) = (i : Int) <;> simp [h]
theorem hits_all {es : List En} (h : NN es) {i : Nat} (hi : i < es.length) : (hits es i (wtL [] es).toNat : Int) = (enAt es i).wt := by
  have e1 : wtTo [] es (i + 1) = wtTo [] es i + (enAt es i).wt := rfl
  have h0 := wtTo_nn (ch := []) h i
  have h1 := wtTo_nn (ch := []) h (i + 1)
  have h2 : wtTo [] es (i + 1) ≤ wtL [] es := wtTo_mono h hi
  have h3 := h i
  have key : hits es i (wtL [] es).toNat = (List.range (wtL [] es).toNat).countP (fun p => decide ((wtTo [] es i).toNat ≤ p ∧ p < (wtTo [] es (i + 1)).toNat)) := by
    unfold hits
    refine List.countP_congr fun p hp => ?_
    simp only [decide_eq_true_eq]
    constructor
    · intro e
      rcases pickL_falls (ch := []) h (p := (p : Int)) (by omega) with ⟨q, _⟩ | ⟨j, hj, q, b1, b2⟩
      · omega
      · obtain rfl : j = i := by omega
        omega
    · intro q
      exact falls_one h (pickL_falls h (by omega)) (.inr ⟨i, hi, rfl, by omega, by omega⟩)
  rw [key, count_between _ _ _ (by omega)]
  omega

end Dm
end Go.Proofs.Ytfnbjojaflloaab
