/-
  Plain facts on tickets and lists of spent serial numbers. Nothing of any program.
-/
import Derived.Test.YtecdoibdpimlaaaDoorCm
namespace Go.Proofs.YtecdoibdpimlaaaDoor
namespace Tk
open Gm Cm

/-- A serial number. -/
def serB (n : Int) : Bool := decide (0 ≤ n ∧ n ≤ 990)
theorem serB_iff {n : Int} : serB n = true ↔ 0 ≤ n ∧ n ≤ 990 := by unfold serB; simp
theorem serB_no {n : Int} : serB n = false ↔ ¬ (0 ≤ n ∧ n ≤ 990) := by unfold serB; simp
theorem ser_in {n : Int} (h : serB n = true) : inG (n + 1) = true := inG_iff.2 (by have := serB_iff.1 h; omega)
/-- One number of a list is right. -/
def spAt (xs : List Int) (i : Nat) : Bool := serB (xs.getD i 0) && (decide (i = 0) || decide (xs.getD (i - 1) 0 < xs.getD i 0))
def spB (xs : List Int) : Bool := (List.range xs.length).all (spAt xs)
def spOk (xs : List Int) : Bool := decide (xs.length ≤ 20) && spB xs
theorem spB_iff {xs : List Int} : spB xs = true ↔ ∀ i, i < xs.length → spAt xs i = true := by simp [spB, List.all_eq_true]
theorem spB_no {xs : List Int} {i : Nat} (hi : i < xs.length) (h : spAt xs i = false) : spB xs = false := by
  cases hb : spB xs
  · rfl
  · rw [spB_iff.1 hb i hi] at h; cases h
theorem spOk_iff {xs : List Int} : spOk xs = true ↔ xs.length ≤ 20 ∧ ∀ i, i < xs.length → spAt xs i = true := by
  unfold spOk
  rw [Bool.and_eq_true, decide_eq_true_eq, spB_iff]
theorem spAt_iff {xs : List Int} {i : Nat} : spAt xs i = true ↔ serB (xs.getD i 0) = true ∧ (0 < i → xs.getD (i - 1) 0 < xs.getD i 0) := by
  unfold spAt
  rw [Bool.and_eq_true, Bool.or_eq_true, decide_eq_true_eq, decide_eq_true_eq]
  constructor
  · rintro ⟨h1, h2⟩
    exact ⟨h1, fun h => by rcases h2 with h2 | h2 <;> omega⟩
  · rintro ⟨h1, h2⟩
    refine ⟨h1, ?_⟩
    rcases Nat.eq_zero_or_pos i with h | h
    · exact .inl h
    · exact .inr (h2 h)
theorem sp_lt {xs : List Int} (h : spB xs = true) : ∀ j i, i < j → j < xs.length → xs.getD i 0 < xs.getD j 0 := by
  intro j
  induction j with
  | zero => intro i hi; omega
  | succ j ih =>
    intro i hi hj
    have h1 := (spAt_iff.1 (spB_iff.1 h (j + 1) hj)).2 (by omega)
    rw [Nat.add_sub_cancel] at h1
    by_cases e : i = j
    · subst e; exact h1
    · have := ih i (by omega) (by omega)
      omega
theorem sp_in {xs : List Int} (h : spB xs = true) {i : Nat} (hi : i < xs.length) : 0 ≤ xs.getD i 0 ∧ xs.getD i 0 ≤ 990 := serB_iff.1 (spAt_iff.1 (spB_iff.1 h i hi)).1
/-- What a search finds: all ahead are less, the next one is not. -/
theorem isPl_of {xs : List Int} (h : spB xs = true) {k : Int} {p : Nat} (hp : p ≤ xs.length) (h1 : ∀ i, i < p → xs.getD i 0 < k) (h2 : p < xs.length → k ≤ xs.getD p 0) : IsPlace xs k p := by
  refine ⟨hp, h1, fun i hi hl => ?_⟩
  have := h2 (by omega)
  by_cases e : i = p
  · subst e; exact this
  · have := sp_lt h i p (by omega) hl
    omega
theorem isPl_ends {xs : List Int} (h : spB xs = true) {k : Int} {p : Nat} (hp : p ≤ xs.length) (h1 : 0 < p → xs.getD (p - 1) 0 < k) (h2 : p < xs.length → k ≤ xs.getD p 0) : IsPlace xs k p := by
  refine isPl_of h hp (fun i hi => ?_) h2
  have := h1 (by omega)
  by_cases e : i = p - 1
  · subst e; exact this
  · have := sp_lt h (p - 1) i (by omega) (by omega)
    omega
theorem pl_is {xs : List Int} (h : spB xs = true) (k : Int) : IsPlace xs k (place xs k) := by
  suffices H : (∀ i, i < place xs k → xs.getD i 0 < k) ∧ (place xs k < xs.length → k ≤ xs.getD (place xs k) 0) from isPl_of h (place_le _ _) H.1 H.2
  clear h
  induction xs with
  | nil => exact ⟨fun i hi => absurd hi (by simp [place]), fun hi => absurd hi (by simp [place])⟩
  | cons x xs ih =>
    unfold place
    by_cases hx : x < k
    · rw [if_pos hx]
      refine ⟨fun i hi => ?_, fun hi => ?_⟩
      · cases i with
        | zero => exact hx
        | succ i => exact ih.1 i (by omega)
      · exact ih.2 (by simpa using hi)
    · rw [if_neg hx]
      exact ⟨fun i hi => absurd hi (by omega), fun _ => by show k ≤ x; omega⟩
theorem pl_of {xs : List Int} (h : spB xs = true) {k : Int} {p : Nat} (hp : IsPlace xs k p) : place xs k = p := isPlace_eq (pl_is h k) hp
/-- A key is there just where it stands at its place. -/
theorem has_pl {xs : List Int} (h : spB xs = true) {k : Int} {p : Nat} (hp : IsPlace xs k p) : hasK xs k = decide (p < xs.length ∧ xs.getD p 0 = k) := by
  by_cases h0 : p < xs.length ∧ xs.getD p 0 = k
  · rw [decide_eq_true h0, hasK_iff, ← h0.2, List.getD_eq_getElem?_getD, List.getElem?_eq_getElem h0.1]
    exact List.getElem_mem _
  · rw [decide_eq_false h0]
    cases hc : hasK xs k
    · rfl
    · exfalso
      obtain ⟨i, hi, e⟩ := List.getElem_of_mem (hasK_iff.1 hc)
      have e' : xs.getD i 0 = k := by rw [List.getD_eq_getElem?_getD, List.getElem?_eq_getElem hi, e]; rfl
      rcases Nat.lt_or_ge i p with q | q
      · have := hp.2.1 i q; omega
      · by_cases e2 : i = p
        · subst e2; exact h0 ⟨hi, e'⟩
        · have h1 := sp_lt h i p (by omega) hi
          have h2 := hp.2.2 p (Nat.le_refl _) (by omega)
          omega
theorem getD_midT {xs : List Int} {p : Nat} (hp : p ≤ xs.length) (k : Int) (i : Nat) : (xs.take p ++ k :: xs.drop p).getD i 0 = if i < p then xs.getD i 0 else if i = p then k else xs.getD (i - 1) 0 := by
  have hl : (xs.take p).length = p := by rw [List.length_take]; omega
  by_cases h1 : i < p
  · rw [if_pos h1, List.getD_eq_getElem?_getD, List.getElem?_append_left (by omega), List.getElem?_take_of_lt h1, List.getD_eq_getElem?_getD]
  · rw [if_neg h1, List.getD_eq_getElem?_getD, List.getElem?_append_right (by omega), hl]
    by_cases h2 : i = p
    · rw [if_pos h2, h2, Nat.sub_self]; rfl
    · rw [if_neg h2]
      obtain ⟨j, rfl⟩ : ∃ j, i = p + 1 + j := ⟨i - p - 1, by omega⟩
      have e1 : p + 1 + j - p = j + 1 := by omega
      have e2 : p + 1 + j - 1 = p + j := by omega
      rw [e1, e2, List.getElem?_cons_succ, List.getElem?_drop, List.getD_eq_getElem?_getD]
theorem sp_ins {xs : List Int} (h : spB xs = true) {k : Int} (hk : serB k = true) (hn : hasK xs k = false) : spB (insK xs k) = true := by
  have hp := pl_is h k
  rw [has_pl h hp] at hn
  have hn' := of_decide_eq_false hn
  rw [spB_iff]
  intro i hi
  rw [insK_len] at hi
  rw [insK_is, spAt_iff, getD_midT hp.1, getD_midT hp.1]
  generalize place xs k = p at *
  have hpl := hp.1
  refine ⟨?_, fun hi0 => ?_⟩
  · split
    · exact (spAt_iff.1 (spB_iff.1 h i (by omega))).1
    · split
      · exact hk
      · exact (spAt_iff.1 (spB_iff.1 h (i - 1) (by omega))).1
  · by_cases h1 : i < p
    · rw [if_pos (by omega), if_pos h1]
      exact sp_lt h i (i - 1) (by omega) (by omega)
    · rw [if_neg h1]
      by_cases h2 : i = p
      · rw [if_pos h2, if_pos (by omega)]
        exact hp.2.1 (i - 1) (by omega)
      · rw [if_neg h2, if_neg (by omega)]
        by_cases h3 : i - 1 = p
        · rw [if_pos h3, h3]
          have q1 := hp.2.2 p (Nat.le_refl _) (by omega)
          have q2 : ¬ xs.getD p 0 = k := fun e => hn' ⟨by omega, e⟩
          omega
        · rw [if_neg h3]
          exact sp_lt h (i - 1) (i - 1 - 1) (by omega) (by omega)
theorem pw_of {xs : List Int} (h : spB xs = true) : xs.Pairwise (· < ·) := List.pairwise_iff_getElem.2 fun i j hi hj hij => by
  have := sp_lt h j i hij hj
  rw [List.getD_eq_getElem?_getD, List.getElem?_eq_getElem hi, List.getD_eq_getElem?_getD, List.getElem?_eq_getElem hj] at this
  exact this
theorem countP_place (k : Int) : ∀ {xs : List Int}, xs.Pairwise (· < ·) → xs.countP (· < k) = place xs k
  | [], _ => rfl
  | x :: xs, h => by
    rw [List.pairwise_cons] at h
    have ih := countP_place k h.2
    rw [List.countP_cons]
    unfold place
    by_cases hx : x < k
    · simp [hx, ih]
    · have h0 : xs.countP (· < k) = 0 := List.countP_eq_zero.2 fun a ha => by
        have := h.1 a ha
        simp; omega
      simp [hx, h0]

/-! ### tickets -/
/-- A ticket is signed. -/
def chkF (p s g : Int) : Bool := serB s && (inG p && (inG g && decide (mulG g 5 = mulG p (s + 1))))
theorem chkF_iff {p s g : Int} : chkF p s g = true ↔ serB s = true ∧ inG p = true ∧ inG g = true ∧ mulG g 5 = mulG p (s + 1) := by
  unfold chkF
  rw [Bool.and_eq_true, Bool.and_eq_true, Bool.and_eq_true, decide_eq_true_eq]
theorem five_in : inG 5 = true := by decide
theorem zero_out : inG 0 = false := by decide
/-- What is asked of a signature without asking for ranges. -/
theorem sign_is {p s g : Int} (hs : serB s = true) : decide (mulG g 5 ≠ 0 ∧ mulG g 5 = mulG p (s + 1)) = chkF p s g := by
  rw [Bool.eq_iff_iff, chkF_iff, decide_eq_true_eq]
  constructor
  · rintro ⟨h1, h2⟩
    refine ⟨hs, ?_, ?_, h2⟩
    · cases hp : inG p
      · rw [mulG_out1 hp] at h2; exact absurd h2 h1
      · rfl
    · cases hg : inG g
      · exact absurd (mulG_out1 hg) h1
      · rfl
  · rintro ⟨_, hp, hg, h2⟩
    refine ⟨fun h0 => ?_, h2⟩
    have := mulG_pos hg five_in
    rw [h0, zero_out] at this; cases this
/-- A made ticket. -/
def mkB (s n : Int) : Bool := inG s && serB n
theorem mkB_iff {s n : Int} : mkB s n = true ↔ inG s = true ∧ serB n = true := by unfold mkB; rw [Bool.and_eq_true]
def mkS (s n : Int) : Int := bif mkB s n then n else 0
def mkG (s n : Int) : Int := bif mkB s n then mulG s (n + 1) else 0
theorem mk_yes {s n : Int} (h : mkB s n = true) : mkS s n = n ∧ mkG s n = mulG s (n + 1) := by unfold mkS mkG; rw [h]; exact ⟨rfl, rfl⟩
theorem mk_no {s n : Int} (h : mkB s n = false) : mkS s n = 0 ∧ mkG s n = 0 := by unfold mkS mkG; rw [h]; exact ⟨rfl, rfl⟩
theorem mk_bd (s n : Int) : (0 ≤ mkS s n ∧ mkS s n ≤ 990) ∧ 0 ≤ mkG s n ∧ mkG s n ≤ 996 := by
  cases h : mkB s n
  · rw [(mk_no h).1, (mk_no h).2]; omega
  · rw [(mk_yes h).1, (mk_yes h).2]
    exact ⟨serB_iff.1 (mkB_iff.1 h).2, mulG_bd _ _⟩
/-- A made ticket is signed, under the key of its secret. -/
theorem made_chk {s n : Int} (h : mkB s n = true) : chkF (mulG s 5) n (mulG s (n + 1)) = true := by
  obtain ⟨h1, h2⟩ := mkB_iff.1 h
  have h3 := ser_in h2
  refine chkF_iff.2 ⟨h2, mulG_pos h1 five_in, mulG_pos h1 h3, ?_⟩
  rw [mulG_comm (mulG s (n + 1)) 5, mulG_assoc five_in h1 h3, mulG_comm 5 s]
/-- .. and under no other. -/
theorem chk_key {p q s g : Int} (h : chkF p s g = true) (h2 : chkF q s g = true) : q = p := by
  obtain ⟨h1, hp, _, e⟩ := chkF_iff.1 h
  obtain ⟨_, hq, _, e2⟩ := chkF_iff.1 h2
  rw [e] at e2
  rw [mulG_comm p, mulG_comm q] at e2
  exact (mulG_inj (ser_in h1) hp hq e2).symm
theorem chk_serial {p s t g : Int} (h : chkF p s g = true) (h2 : chkF p t g = true) : t = s := by
  obtain ⟨h1, hp, _, e⟩ := chkF_iff.1 h
  obtain ⟨h3, _, _, e2⟩ := chkF_iff.1 h2
  rw [e] at e2
  have := mulG_inj hp (ser_in h1) (ser_in h3) e2
  omega
theorem chk_sign {p s g k : Int} (h : chkF p s g = true) (h2 : chkF p s k = true) : k = g := by
  obtain ⟨_, _, hg, e⟩ := chkF_iff.1 h
  obtain ⟨_, _, hk, e2⟩ := chkF_iff.1 h2
  rw [← e] at e2
  rw [mulG_comm k, mulG_comm g] at e2
  exact (mulG_inj five_in hk hg e2)
theorem bool_no {b : Bool} (h : ¬ b = true) : b = false := by cases b <;> simp_all

/-! ### spending -/
/-- A ticket can be spent. -/
def goB (xs : List Int) (p s g : Int) : Bool := spOk xs && (chkF p s g && (!hasK xs s && decide (xs.length < 20)))
theorem goB_iff {xs : List Int} {p s g : Int} : goB xs p s g = true ↔ spOk xs = true ∧ chkF p s g = true ∧ hasK xs s = false ∧ xs.length < 20 := by
  unfold goB
  rw [Bool.and_eq_true, Bool.and_eq_true, Bool.and_eq_true, Bool.not_eq_true', decide_eq_true_eq]
def spF (xs : List Int) (p s g : Int) : List Int := bif spOk xs then (bif goB xs p s g then insK xs s else xs) else []
theorem spF_bad {xs : List Int} {p s g : Int} (h : spOk xs = false) : spF xs p s g = [] ∧ goB xs p s g = false := by
  unfold spF goB; rw [h]; exact ⟨rfl, rfl⟩
theorem spF_no {xs : List Int} {p s g : Int} (h : spOk xs = true) (h2 : goB xs p s g = false) : spF xs p s g = xs := by
  unfold spF; rw [h, h2]; rfl
theorem spF_yes {xs : List Int} {p s g : Int} (h2 : goB xs p s g = true) : spF xs p s g = insK xs s := by
  unfold spF; rw [h2, (goB_iff.1 h2).1]; rfl
theorem go_no1 {xs : List Int} {p s g : Int} (h : chkF p s g = false) : goB xs p s g = false := by
  unfold goB; rw [h, Bool.false_and, Bool.and_false]
theorem go_no2 {xs : List Int} {p s g : Int} (h : hasK xs s = true) : goB xs p s g = false := by
  unfold goB; rw [h]; simp
theorem go_no3 {xs : List Int} {p s g : Int} (h : ¬ xs.length < 20) : goB xs p s g = false := by
  unfold goB; rw [decide_eq_false h]; simp
theorem spF_len {xs : List Int} {p s g : Int} : (spF xs p s g).length ≤ 20 := by
  cases h : spOk xs
  · rw [(spF_bad h).1]; exact Nat.zero_le _
  · have h1 := (spOk_iff.1 h).1
    cases h2 : goB xs p s g
    · rw [spF_no h h2]; exact h1
    · rw [spF_yes h2, insK_len]
      have := (goB_iff.1 h2).2.2.2
      omega
theorem sp_len {xs : List Int} (h : spOk xs = true) : xs.length ≤ 20 := (spOk_iff.1 h).1
theorem spB_of {xs : List Int} (h : spOk xs = true) : spB xs = true := spB_iff.2 (spOk_iff.1 h).2
theorem spOk_of {xs : List Int} (h1 : xs.length ≤ 20) (h : spB xs = true) : spOk xs = true := spOk_iff.2 ⟨h1, spB_iff.1 h⟩
/-- The list behind a ticket is valid. -/
theorem go_ok {xs : List Int} {p s g : Int} (h : goB xs p s g = true) : spOk (insK xs s) = true := by
  obtain ⟨h1, h2, h3, h4⟩ := goB_iff.1 h
  exact spOk_of (by rw [insK_len]; omega) (sp_ins (spB_of h1) (chkF_iff.1 h2).1 h3)
/-- A ticket is spent once. -/
theorem twice {xs : List Int} {p s g : Int} (h : goB xs p s g = true) : goB (insK xs s) p s g = false ∧ spF (insK xs s) p s g = insK xs s := by
  have h1 : goB (insK xs s) p s g = false := go_no2 (hasK_iff.2 (mem_insK.2 (.inl rfl)))
  exact ⟨h1, spF_no (go_ok h) h1⟩
/-- The order of two tickets does not matter. -/
theorem order {xs : List Int} {p s g q t k : Int} (h : goB xs p s g = true) (h1 : goB (insK xs s) q t k = true) (h2 : goB xs q t k = true) : goB (insK xs t) p s g = true ∧ insK (insK xs t) s = insK (insK xs s) t := by
  obtain ⟨a1, a2, a3, a4⟩ := goB_iff.1 h
  obtain ⟨b1, b2, b3, b4⟩ := goB_iff.1 h1
  obtain ⟨c1, c2, c3, c4⟩ := goB_iff.1 h2
  rw [insK_len] at b4
  have hne : t ≠ s := fun e => by
    rw [e, hasK_iff.2 (mem_insK.2 (.inl rfl))] at b3; cases b3
  refine ⟨goB_iff.2 ⟨go_ok h2, a2, ?_, by rw [insK_len]; exact b4⟩, insK_comm hne⟩
  refine bool_no fun h' => ?_
  rcases mem_insK.1 (hasK_iff.1 h') with e | e
  · exact hne e.symm
  · rw [hasK_iff.2 e] at a3; cases a3
/-- .. spent alone. -/
theorem alone {xs : List Int} {p s g : Int} (h : goB xs p s g = true) : goB [] p s g = true ∧ spF [] p s g = [s] := by
  have h1 : goB [] p s g = true := goB_iff.2 ⟨rfl, (goB_iff.1 h).2.1, rfl, by show 0 < 20; omega⟩
  exact ⟨h1, spF_yes h1⟩

/-! ### audits -/
def audF (a b : List Int) : List Int := bif spOk a && spOk b then a.filter (hasK b) else []
theorem aud_no {a b : List Int} (h : (spOk a && spOk b) = false) : audF a b = [] := by unfold audF; rw [h]; rfl
theorem aud_yes {a b : List Int} (h1 : spOk a = true) (h2 : spOk b = true) : audF a b = a.filter (hasK b) := by unfold audF; rw [h1, h2]; rfl
theorem aud_len (a b : List Int) : (audF a b).length ≤ a.length := by
  unfold audF
  cases spOk a && spOk b
  · exact Nat.zero_le _
  · exact List.length_filter_le ..
theorem aud_20 (a b : List Int) : (audF a b).length ≤ 20 := by
  cases h : spOk a && spOk b
  · rw [aud_no h]; exact Nat.zero_le _
  · rw [Bool.and_eq_true] at h
    have := aud_len a b
    have := sp_len h.1
    omega
theorem aud_mem {a b : List Int} {x : Int} (h : x ∈ audF a b) : x ∈ a ∧ x ∈ b := by
  cases hc : spOk a && spOk b
  · rw [aud_no hc] at h; simp at h
  · rw [Bool.and_eq_true] at hc
    rw [aud_yes hc.1 hc.2, List.mem_filter, hasK_iff] at h
    exact h
theorem aud_pw (a b : List Int) : (audF a b).Pairwise (· < ·) := by
  cases hc : spOk a && spOk b
  · rw [aud_no hc]; exact List.Pairwise.nil
  · rw [Bool.and_eq_true] at hc
    rw [aud_yes hc.1 hc.2]
    exact (pw_of (spB_of hc.1)).filter _
/-- Two ascending lists of the same numbers are one list. -/
theorem pw_ext : ∀ {xs ys : List Int}, xs.Pairwise (· < ·) → ys.Pairwise (· < ·) → (∀ x, x ∈ xs ↔ x ∈ ys) → xs = ys
  | [], [], _, _, _ => rfl
  | [], y :: ys, _, _, h => by have := (h y).2 (List.mem_cons_self ..); simp at this
  | x :: xs, [], _, _, h => by have := (h x).1 (List.mem_cons_self ..); simp at this
  | x :: xs, y :: ys, h1, h2, h => by
    rw [List.pairwise_cons] at h1 h2
    have e : x = y := by
      rcases List.mem_cons.1 ((h x).1 (List.mem_cons_self ..)) with q | q
      · exact q
      · rcases List.mem_cons.1 ((h y).2 (List.mem_cons_self ..)) with q2 | q2
        · exact q2.symm
        · have := h1.1 y q2
          have := h2.1 x q
          omega
    subst e
    rw [pw_ext h1.2 h2.2 fun z => ?_]
    constructor
    · intro hz
      rcases List.mem_cons.1 ((h z).1 (List.mem_cons_of_mem _ hz)) with q | q
      · have := h1.1 z hz; omega
      · exact q
    · intro hz
      rcases List.mem_cons.1 ((h z).2 (List.mem_cons_of_mem _ hz)) with q | q
      · have := h2.1 z hz; omega
      · exact q
theorem aud_comm (a b : List Int) : audF b a = audF a b := by
  cases hc : spOk a && spOk b
  · rw [aud_no hc, aud_no (by rw [Bool.and_comm]; exact hc)]
  · refine pw_ext (aud_pw b a) (aud_pw a b) fun x => ?_
    rw [Bool.and_eq_true] at hc
    rw [aud_yes hc.1 hc.2, aud_yes hc.2 hc.1, List.mem_filter, List.mem_filter, hasK_iff, hasK_iff]
    exact And.comm
theorem aud_self {a : List Int} (h : spOk a = true) : audF a a = a := by
  rw [aud_yes h h]
  exact List.filter_eq_self.2 fun x hx => hasK_iff.2 hx
theorem aud_nil (a : List Int) : audF a [] = [] := by
  cases hc : spOk a && spOk []
  · exact aud_no hc
  · rw [Bool.and_eq_true] at hc
    rw [aud_yes hc.1 hc.2]
    exact List.filter_eq_nil_iff.2 fun x _ => by simp [hasK]
/-- What the loop has gathered so far. -/
theorem aud_succ {a b : List Int} {k : Nat} (hk : k < a.length) : (a.take (k + 1)).filter (hasK b) = (a.take k).filter (hasK b) ++ bif hasK b (a.getD k 0) then [a.getD k 0] else [] := by
  rw [List.take_add_one, List.filter_append, List.getElem?_eq_getElem hk]
  have e : a.getD k 0 = a[k] := by rw [List.getD_eq_getElem?_getD, List.getElem?_eq_getElem hk]; rfl
  rw [e]
  cases h : hasK b a[k] <;> simp [h]
theorem getD_lt {xs : List Int} (h : xs.Pairwise (· < ·)) {i : Nat} (hi : i + 1 < xs.length) : xs.getD i 0 < xs.getD (i + 1) 0 := by
  have := List.pairwise_iff_getElem.1 h i (i + 1) (by omega) hi (by omega)
  rw [List.getD_eq_getElem?_getD, List.getElem?_eq_getElem (by omega : i < xs.length), List.getD_eq_getElem?_getD, List.getElem?_eq_getElem hi]
  exact this
theorem getD_in {xs : List Int} {i : Nat} (hi : i < xs.length) : xs.getD i 0 ∈ xs := by
  rw [List.getD_eq_getElem?_getD, List.getElem?_eq_getElem hi]
  exact List.getElem_mem _
end Tk
end Go.Proofs.YtecdoibdpimlaaaDoor
