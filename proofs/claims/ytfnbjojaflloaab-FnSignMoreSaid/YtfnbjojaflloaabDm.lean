/-
  Plain facts on directories: valid ones, digests, signatures, picks and paths. Nothing of any program.
-/
import Derived.Test.YtfnbjojaflloaabEc
import Derived.Test.YtfnbjojaflloaabTm
import Derived.Test.YtfnbjojaflloaabGmm
namespace Go.Proofs.Ytfnbjojaflloaab
namespace Dm
open Gm Tm Ec

def inN (x : Int) : Bool := decide (0 ≤ x ∧ x ≤ 7)
def wtB (x : Int) : Bool := decide (0 ≤ x ∧ x ≤ 9)
def epB (x : Int) : Bool := decide (0 ≤ x ∧ x ≤ 99)
def okE (e : En) : Bool := inN e.nm && (inG e.pu && wtB e.wt)
def stepOk (es : List En) (i : Nat) : Bool := okE (enAt es i) && (i == 0 || decide ((enAt es (i - 1)).nm < (enAt es i).nm))
def esOk (es : List En) : Bool := (List.range es.length).all (stepOk es)
def dirOk (ep : Int) (es : List En) : Bool := esOk es && (epB ep && decide (es.length ≤ 6))
theorem okE_iff {e : En} : okE e = true ↔ (0 ≤ e.nm ∧ e.nm ≤ 7) ∧ (1 ≤ e.pu ∧ e.pu ≤ 996) ∧ 0 ≤ e.wt ∧ e.wt ≤ 9 := by
  unfold okE inN wtB
  simp only [Bool.and_eq_true, decide_eq_true_eq, inG_iff]
theorem esOk_iff {es : List En} : esOk es = true ↔ ∀ i, i < es.length → stepOk es i = true := by
  unfold esOk
  rw [List.all_eq_true]
  exact ⟨fun h i hi => h i (List.mem_range.2 hi), fun h i hi => h i (List.mem_range.1 hi)⟩
theorem esOk_no {es : List En} {i : Nat} (hi : i < es.length) (h : stepOk es i = false) : esOk es = false := by
  cases hb : esOk es
  · rfl
  · rw [esOk_iff.1 hb i hi] at h; cases h
theorem step_succ {es : List En} {k : Nat} (h : ∀ i, i < k → stepOk es i = true) (h2 : stepOk es k = true) : ∀ i, i < k + 1 → stepOk es i = true := fun i hi => by
  rcases Nat.lt_or_ge i k with h3 | h3
  · exact h i h3
  · obtain rfl : i = k := by omega
    exact h2
theorem stepOk_iff {es : List En} {i : Nat} : stepOk es i = true ↔ okE (enAt es i) = true ∧ (i = 0 ∨ (enAt es (i - 1)).nm < (enAt es i).nm) := by
  unfold stepOk
  simp only [Bool.and_eq_true, Bool.or_eq_true, beq_iff_eq, decide_eq_true_eq]
theorem ok_ix {es : List En} (h : esOk es = true) {k : Nat} (hk : k < es.length) : okE (enAt es k) = true := (stepOk_iff.1 (esOk_iff.1 h k hk)).1
theorem ok_at {es : List En} (h : esOk es = true) {e : En} (he : e ∈ es) : okE e = true := by
  obtain ⟨i, hi, rfl⟩ := List.getElem_of_mem he
  have := ok_ix h hi
  have h2 := enAt_get hi
  rw [List.getElem?_eq_getElem hi] at h2
  rw [Option.some.inj h2]; exact this
theorem ok_lt {es : List En} (h : esOk es = true) {i j : Nat} (hij : i < j) (hj : j < es.length) : (enAt es i).nm < (enAt es j).nm := by
  induction j with
  | zero => omega
  | succ j ih =>
    have h2 := (stepOk_iff.1 (esOk_iff.1 h (j + 1) hj)).2
    rw [Nat.add_sub_cancel] at h2
    rcases Nat.lt_or_ge i j with h3 | h3
    · have := ih h3 (by omega); omega
    · obtain rfl : i = j := by omega
      omega
theorem ok_low {es : List En} (h : esOk es = true) {k : Nat} (hk : k < es.length) : (k : Int) ≤ (enAt es k).nm := by
  induction k with
  | zero => exact (okE_iff.1 (ok_ix h hk)).1.1
  | succ k ih =>
    have h1 := ih (by omega)
    have h2 := ok_lt h (i := k) (j := k + 1) (by omega) hk
    omega
theorem ok_len {es : List En} (h : esOk es = true) : es.length ≤ 8 := by
  rcases Nat.lt_or_ge 8 es.length with h1 | h1
  · have h2 := ok_low h (k := 8) h1
    have h3 := (okE_iff.1 (ok_ix h h1)).1.2
    omega
  · exact h1
theorem dirOk_iff {ep : Int} {es : List En} : dirOk ep es = true ↔ esOk es = true ∧ (0 ≤ ep ∧ ep ≤ 99) ∧ es.length ≤ 6 := by
  unfold dirOk epB
  simp only [Bool.and_eq_true, decide_eq_true_eq]
/-- Ascending lists, place by place: what 'esOk' says of any list. -/
theorem esOk_of {es : List En} (h1 : ∀ e ∈ es, okE e = true) (h2 : ∀ i, i + 1 < es.length → (enAt es i).nm < (enAt es (i + 1)).nm) : esOk es = true := by
  refine esOk_iff.2 fun i hi => stepOk_iff.2 ⟨h1 _ (enAt_mem hi), ?_⟩
  cases i with
  | zero => exact .inl rfl
  | succ i => right; rw [Nat.add_sub_cancel]; exact h2 i hi
theorem enAt_app {xs ys : List En} {i : Nat} : enAt (xs ++ ys) i = if i < xs.length then enAt xs i else enAt ys (i - xs.length) := by
  unfold enAt
  simp only [List.getD_eq_getElem?_getD]
  split
  · rw [List.getElem?_append_left (by omega)]
  · rw [List.getElem?_append_right (by omega)]
theorem enAt_take {xs : List En} {i k : Nat} (h : i < k) : enAt (xs.take k) i = enAt xs i := by
  unfold enAt
  simp only [List.getD_eq_getElem?_getD]
  rw [List.getElem?_take_of_lt h]
theorem enAt_drop {xs : List En} {i k : Nat} : enAt (xs.drop k) i = enAt xs (k + i) := by
  unfold enAt
  simp only [List.getD_eq_getElem?_getD]
  rw [List.getElem?_drop]
/-- Promise 74: without any one mix. -/
theorem without_ok {ep : Int} {es : List En} {k : Nat} (h : dirOk ep es = true) (hk : k < es.length) : dirOk ep (es.take k ++ es.drop (k + 1)) = true := by
  obtain ⟨h1, h2, h3⟩ := dirOk_iff.1 h
  have hl : (es.take k ++ es.drop (k + 1)).length = es.length - 1 := by rw [List.length_append, List.length_take, List.length_drop]; omega
  have hlt : (es.take k).length = k := by rw [List.length_take]; omega
  refine dirOk_iff.2 ⟨esOk_of (fun e he => ok_at h1 ?_) fun i hi => ?_, h2, by omega⟩
  · rcases List.mem_append.1 he with he | he
    · exact List.mem_of_mem_take he
    · exact List.mem_of_mem_drop he
  · rw [hl] at hi
    rw [enAt_app, enAt_app, hlt]
    by_cases q1 : i + 1 < k
    · rw [if_pos (by omega), if_pos q1, enAt_take (by omega), enAt_take (by omega)]
      exact ok_lt h1 (by omega) (by omega)
    · by_cases q2 : i < k
      · rw [if_pos q2, if_neg q1, enAt_take q2, enAt_drop]
        exact ok_lt h1 (by omega) (by omega)
      · rw [if_neg q2, if_neg q1, enAt_drop, enAt_drop]
        exact ok_lt h1 (by omega) (by omega)
/-- .. with one twice. -/
theorem twice_no {ep : Int} {es : List En} {k : Nat} (hk : k < es.length) : dirOk ep (es.take (k + 1) ++ es.drop k) = false := by
  cases hb : dirOk ep (es.take (k + 1) ++ es.drop k)
  · rfl
  · obtain ⟨h1, _, _⟩ := dirOk_iff.1 hb
    have hlt : (es.take (k + 1)).length = k + 1 := by rw [List.length_take]; omega
    have hl : (es.take (k + 1) ++ es.drop k).length = es.length + 1 := by rw [List.length_append, hlt, List.length_drop]; omega
    have := ok_lt h1 (i := k) (j := k + 1) (by omega) (by omega)
    rw [enAt_app, enAt_app, hlt, if_pos (by omega), if_neg (by omega), enAt_take (by omega), enAt_drop, Nat.sub_self, Nat.add_zero] at this
    omega

/-! ### digests -/
def dstep (t : Int) (e : En) : Int := Tm.step (Tm.step (Tm.step t e.nm) e.pu) e.wt
def ini9 (ep : Int) (n : Nat) : Int := (41 * (n : Int) + 7 * ep + 1) % 991
def digL (ep : Int) (es : List En) : Int := es.foldl dstep (ini9 ep es.length)
def digTo (ep : Int) (es : List En) (k : Nat) : Int := (es.take k).foldl dstep (ini9 ep es.length)
def digF (ep : Int) (es : List En) : Int := bif dirOk ep es then digL ep es else -1
theorem dstep_bd (t : Int) (e : En) : 0 ≤ dstep t e ∧ dstep t e ≤ 990 := step_bd _ _
theorem ini9_bd (ep : Int) (n : Nat) : 0 ≤ ini9 ep n ∧ ini9 ep n ≤ 990 := by unfold ini9; omega
theorem dfold_bd (es : List En) (t : Int) (h : 0 ≤ t ∧ t ≤ 990) : 0 ≤ es.foldl dstep t ∧ es.foldl dstep t ≤ 990 := by
  induction es generalizing t with
  | nil => exact h
  | cons a l ih => exact ih _ (dstep_bd t a)
theorem digL_bd (ep : Int) (es : List En) : 0 ≤ digL ep es ∧ digL ep es ≤ 990 := dfold_bd _ _ (ini9_bd _ _)
theorem digTo_bd (ep : Int) (es : List En) (k : Nat) : 0 ≤ digTo ep es k ∧ digTo ep es k ≤ 990 := dfold_bd _ _ (ini9_bd _ _)
theorem digTo_zero (ep : Int) (es : List En) : digTo ep es 0 = ini9 ep es.length := rfl
theorem digTo_succ (ep : Int) {es : List En} {k : Nat} (h : k < es.length) : digTo ep es (k + 1) = dstep (digTo ep es k) (enAt es k) := by
  unfold digTo; rw [take_en h, List.foldl_append]; rfl
theorem digTo_all (ep : Int) (es : List En) : digTo ep es es.length = digL ep es := by unfold digTo digL; rw [List.take_length]
theorem digF_yes {ep : Int} {es : List En} (h : dirOk ep es = true) : digF ep es = digL ep es := by rw [digF, h]; rfl
theorem digF_no {ep : Int} {es : List En} (h : dirOk ep es = false) : digF ep es = -1 := by rw [digF, h]; rfl
theorem digF_ok {ep : Int} {es : List En} (h : 0 ≤ digF ep es) : dirOk ep es = true := by
  cases hb : dirOk ep es
  · rw [digF_no hb] at h; omega
  · rfl
theorem dfold_inj (es : List En) {t u : Int} (ht : 0 ≤ t ∧ t ≤ 990) (hu : 0 ≤ u ∧ u ≤ 990) (h : es.foldl dstep t = es.foldl dstep u) : t = u := by
  induction es generalizing t u with
  | nil => exact h
  | cons a l ih =>
    have h1 := ih (dstep_bd t a) (dstep_bd u a) h
    unfold dstep at h1
    exact step_inj ht hu (step_inj (step_bd _ _) (step_bd _ _) (step_inj (step_bd _ _) (step_bd _ _) h1))
theorem dfold_set (es : List En) (k : Nat) (e : En) (t : Int) (hk : k < es.length) (ht : 0 ≤ t ∧ t ≤ 990) (h : (es.set k e).foldl dstep t = es.foldl dstep t) : ∃ u, (0 ≤ u ∧ u ≤ 990) ∧ dstep u e = dstep u (enAt es k) := by
  induction es generalizing k t with
  | nil => simp at hk
  | cons a l ih =>
    cases k with
    | zero => exact ⟨t, ht, dfold_inj l (dstep_bd t e) (dstep_bd t a) h⟩
    | succ k => exact ih k (dstep t a) (by simpa using hk) (dstep_bd t a) h
theorem dstep_wt {u : Int} {e f : En} (h1 : e.nm = f.nm) (h2 : e.pu = f.pu) (he : 0 ≤ e.wt ∧ e.wt ≤ 9) (hf : 0 ≤ f.wt ∧ f.wt ≤ 9) (h : dstep u e = dstep u f) : e.wt = f.wt := by
  unfold dstep at h
  rw [h1, h2] at h
  exact step_inj2 (by omega) (by omega) h
theorem dstep_pu {u : Int} {e f : En} (h1 : e.nm = f.nm) (h3 : e.wt = f.wt) (h : dstep u e = dstep u f) : e.pu % 991 = f.pu % 991 := by
  unfold dstep at h
  rw [h1, h3] at h
  have h2 := step_inj (step_bd _ _) (step_bd _ _) h
  unfold Tm.step at h2
  omega
/-- Promise 75: another weight. -/
theorem dig_wt {ep : Int} {es : List En} {k : Nat} {x : Int} (hd : dirOk ep es = true) (hk : k < es.length) (hx : 0 ≤ x ∧ x ≤ 9) (hne : x ≠ (enAt es k).wt) : digF ep (es.set k ⟨(enAt es k).nm, (enAt es k).pu, x⟩) ≠ digF ep es := by
  have hp : (0 : Int) ≤ digL ep es := (digL_bd _ _).1
  rw [digF_yes hd]
  cases hb : dirOk ep (es.set k ⟨(enAt es k).nm, (enAt es k).pu, x⟩)
  · rw [digF_no hb]; omega
  · rw [digF_yes hb]
    intro h
    unfold digL at h
    rw [List.length_set] at h
    obtain ⟨u, hu, h2⟩ := dfold_set es k _ _ hk (ini9_bd _ _) h
    exact hne (dstep_wt (e := ⟨(enAt es k).nm, (enAt es k).pu, x⟩) (f := enAt es k) rfl rfl hx (okE_iff.1 (ok_ix (dirOk_iff.1 hd).1 hk)).2.2 h2)
/-- .. another public key. -/
theorem dig_pu {ep : Int} {es : List En} {k : Nat} {x : Int} (hd : dirOk ep es = true) (hk : k < es.length) (hne : x % 991 ≠ (enAt es k).pu % 991) : digF ep (es.set k ⟨(enAt es k).nm, x, (enAt es k).wt⟩) ≠ digF ep es := by
  have hp : (0 : Int) ≤ digL ep es := (digL_bd _ _).1
  rw [digF_yes hd]
  cases hb : dirOk ep (es.set k ⟨(enAt es k).nm, x, (enAt es k).wt⟩)
  · rw [digF_no hb]; omega
  · rw [digF_yes hb]
    intro h
    unfold digL at h
    rw [List.length_set] at h
    obtain ⟨u, hu, h2⟩ := dfold_set es k _ _ hk (ini9_bd _ _) h
    exact hne (dstep_pu (e := ⟨(enAt es k).nm, x, (enAt es k).wt⟩) (f := enAt es k) rfl rfl h2)
/-- Promise 76: another epoch. -/
theorem dig_ep {ep ep2 : Int} {es : List En} (h1 : 0 ≤ ep ∧ ep ≤ 99) (h2 : 0 ≤ ep2 ∧ ep2 ≤ 99) (hne : ep ≠ ep2) : digL ep es ≠ digL ep2 es := by
  intro h
  have := dfold_inj es (ini9_bd _ _) (ini9_bd _ _) h
  unfold ini9 at this
  omega
theorem digF_ep {ep ep2 : Int} {es : List En} (hd : dirOk ep es = true) (hne : ep ≠ ep2) : digF ep2 es ≠ digF ep es := by
  have hp : (0 : Int) ≤ digL ep es := (digL_bd _ _).1
  rw [digF_yes hd]
  cases hb : dirOk ep2 es
  · rw [digF_no hb]; omega
  · rw [digF_yes hb]
    exact fun h => dig_ep (dirOk_iff.1 hd).2.1 (dirOk_iff.1 hb).2.1 hne h.symm

end Dm
end Go.Proofs.Ytfnbjojaflloaab
