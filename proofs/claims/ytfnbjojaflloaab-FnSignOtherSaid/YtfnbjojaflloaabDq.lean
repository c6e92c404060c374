/-
  Plain facts on directories as the program goes about them: which entries break the order, what is left of the entries behind each choice. Nothing of any program.
-/
import Derived.Test.YtfnbjojaflloaabDp
namespace Go.Proofs.Ytfnbjojaflloaab
namespace Dm
open Gm Tm Ec

/-- The name that the program remembers ahead of place k. -/
def lastOf (es : List En) (k : Nat) : Int := bif k == 0 then -1 else (enAt es (k - 1)).nm
def brk (es : List En) (k : Nat) : Bool := decide ((enAt es k).nm ≤ lastOf es k)
theorem lastOf_zero (es : List En) : lastOf es 0 = -1 := rfl
theorem lastOf_succ (es : List En) (k : Nat) : lastOf es (k + 1) = (enAt es k).nm := rfl
theorem dirOk_yes {ep : Int} {es : List En} (h1 : epB ep = true) (h2 : es.length ≤ 6) (h3 : ∀ i, i < es.length → okE (enAt es i) = true) (h4 : ∀ i, i < es.length → brk es i = false) : dirOk ep es = true := by
  have h5 : esOk es = true := esOk_iff.2 fun i hi => stepOk_iff.2 ⟨h3 i hi, by
    cases i with
    | zero => exact .inl rfl
    | succ i =>
      have := h4 _ hi
      unfold brk at this
      rw [lastOf_succ, decide_eq_false_iff_not] at this
      right; rw [Nat.add_sub_cancel]; omega⟩
  unfold dirOk
  rw [h5, h1, decide_eq_true h2]; rfl
theorem dirOk_noE {ep : Int} {es : List En} (h : epB ep = false) : dirOk ep es = false := by unfold dirOk; rw [h, Bool.false_and, Bool.and_false]
theorem dirOk_noL {ep : Int} {es : List En} (h : ¬ es.length ≤ 6) : dirOk ep es = false := by unfold dirOk; rw [decide_eq_false h, Bool.and_false, Bool.and_false]
theorem dirOk_noI {ep : Int} {es : List En} {i : Nat} (hi : i < es.length) (h : okE (enAt es i) = false) : dirOk ep es = false := by
  unfold dirOk
  rw [esOk_no hi (by unfold stepOk; rw [h]; rfl)]; rfl
theorem dirOk_noB {ep : Int} {es : List En} {i : Nat} (h3 : ∀ i, i < es.length → okE (enAt es i) = true) (hi : i < es.length) (h : brk es i = true) : dirOk ep es = false := by
  have hs : stepOk es i = false := by
    cases hb : stepOk es i
    · rfl
    · obtain ⟨a1, a2⟩ := stepOk_iff.1 hb
      have b1 := (okE_iff.1 (h3 i hi)).1.1
      unfold brk at h
      rw [decide_eq_true_eq] at h
      cases i with
      | zero => rw [lastOf_zero] at h; omega
      | succ i =>
        rw [lastOf_succ] at h
        rcases a2 with a2 | a2
        · omega
        · rw [Nat.add_sub_cancel] at a2; omega
  unfold dirOk
  rw [esOk_no hi hs]; rfl

/-! ### what is left -/
def idsR (ch : List Int) (k r : Nat) : List Nat := (List.range' k r).filter (fun i => !has ch i)
def restOf (es : List En) (ch : List Int) : List En := (idsR ch 0 es.length).map (enAt es)
def sumW (l : List En) : Int := (l.map En.wt).sum
/-- The place in a list at a point; its length if there is none. -/
def pk : List En → Int → Nat
  | [], _ => 0
  | e :: l, p => bif decide (p < e.wt) then 0 else pk l (p - e.wt) + 1
theorem sum_app (a b : List Int) : (a ++ b).sum = a.sum + b.sum := List.sum_append
theorem idsR_succ (ch : List Int) (k r : Nat) : idsR ch k (r + 1) = idsR ch k r ++ (bif has ch (k + r) then [] else [k + r]) := by
  unfold idsR
  rw [List.range'_concat, List.filter_append, Nat.one_mul]
  cases h : has ch (k + r) <;> simp [h]
theorem idsR_cons (ch : List Int) (k r : Nat) : idsR ch k (r + 1) = (bif has ch k then [] else [k]) ++ idsR ch (k + 1) r := by
  unfold idsR
  rw [List.range'_succ]
  cases h : has ch k <;> simp [h]
theorem wtTo_ids (ch : List Int) (es : List En) (n : Nat) : wtTo ch es n = (((idsR ch 0 n).map (enAt es)).map En.wt).sum := by
  induction n with
  | zero => rfl
  | succ n ih =>
    rw [idsR_succ, List.map_append, List.map_append, sum_app, ← ih]
    show wtTo ch es n + wtI ch es n = _
    unfold wtI
    rw [Nat.zero_add]
    cases has ch n <;> simp
theorem idsR_nil (k r : Nat) : idsR [] k r = List.range' k r := by
  unfold idsR
  exact List.filter_eq_self.2 fun a _ => rfl
theorem rest_nil (es : List En) : restOf es [] = es := by
  unfold restOf
  rw [idsR_nil]
  refine List.ext_getElem (by simp) fun i h1 h2 => ?_
  rw [List.getElem_map, List.getElem_range', Nat.zero_add, Nat.one_mul]
  have := enAt_get h2
  rw [List.getElem?_eq_getElem h2] at this
  exact (Option.some.inj this).symm
theorem wtL_sum (l : List En) : wtL [] l = sumW l := by
  show wtTo [] l l.length = _
  rw [wtTo_ids]
  show ((restOf l []).map En.wt).sum = _
  rw [rest_nil]; rfl
theorem wtL_rest (es : List En) (ch : List Int) : wtL [] (restOf es ch) = wtL ch es := by
  rw [wtL_sum]
  exact (wtTo_ids ch es es.length).symm
theorem pickR_ids (ch : List Int) (es : List En) (r k : Nat) (p : Int) : pickR ch es r k p = bif decide (pk ((idsR ch k r).map (enAt es)) p < (idsR ch k r).length) then (((idsR ch k r).getD (pk ((idsR ch k r).map (enAt es)) p) 0 : Nat) : Int) else -1 := by
  induction r generalizing k p with
  | zero => rfl
  | succ r ih =>
    rw [idsR_cons, pickR]
    cases h : has ch k
    · rw [cond_false, cond_false]
      show _ = bif decide (pk (enAt es k :: (idsR ch (k + 1) r).map (enAt es)) p < (idsR ch (k + 1) r).length + 1) then (((k :: idsR ch (k + 1) r).getD (pk (enAt es k :: (idsR ch (k + 1) r).map (enAt es)) p) 0 : Nat) : Int) else -1
      rw [pk]
      cases h2 : decide (p < (enAt es k).wt)
      · rw [cond_false, cond_false, ih, List.getD_cons_succ]
        by_cases h3 : pk ((idsR ch (k + 1) r).map (enAt es)) (p - (enAt es k).wt) < (idsR ch (k + 1) r).length
        · rw [decide_eq_true h3, decide_eq_true (by omega)]
        · rw [decide_eq_false h3, decide_eq_false (by omega)]
      · rw [cond_true, cond_true, decide_eq_true (by omega)]; rfl
    · rw [cond_true, cond_true, List.nil_append, ih]
theorem pickL_pk (l : List En) (p : Int) : pickL [] l p = bif decide (pk l p < l.length) then ((pk l p : Nat) : Int) else -1 := by
  show pickR [] l l.length 0 p = _
  rw [pickR_ids]
  have e : (idsR [] 0 l.length).map (enAt l) = l := rest_nil l
  have e2 : (idsR [] 0 l.length).length = l.length := by rw [idsR_nil, List.length_range']
  rw [e, e2]
  by_cases h : pk l p < l.length
  · rw [decide_eq_true h, cond_true, cond_true, idsR_nil, List.getD_eq_getElem?_getD, List.getElem?_range' h, Nat.zero_add, Nat.one_mul]; rfl
  · rw [decide_eq_false h]; rfl
theorem filt_erase {d : List Nat} (h : d.Nodup) {i x : Nat} (hi : d[i]? = some x) : d.filter (fun k => !decide (k = x)) = d.eraseIdx i := by
  induction d generalizing i with
  | nil => rfl
  | cons a l ih =>
    rw [List.nodup_cons] at h
    cases i with
    | zero =>
      simp only [List.getElem?_cons_zero, Option.some.injEq] at hi
      subst hi
      rw [List.filter_cons]
      simp only [decide_true, Bool.not_true, Bool.false_eq_true, if_false, List.eraseIdx_zero, List.tail_cons]
      refine List.filter_eq_self.2 fun b hb => ?_
      have : b ≠ a := fun e => h.1 (e ▸ hb)
      simp [this]
    | succ i =>
      rw [List.getElem?_cons_succ] at hi
      have hm : x ∈ l := List.mem_of_getElem? hi
      have : a ≠ x := fun e => h.1 (e ▸ hm)
      rw [List.filter_cons, List.eraseIdx_cons_succ, ih h.2 hi]
      simp [this]
theorem map_erase {α β : Type} (f : α → β) (l : List α) (i : Nat) : (l.map f).eraseIdx i = (l.eraseIdx i).map f := by
  induction l generalizing i with
  | nil => rfl
  | cons a l ih =>
    cases i with
    | zero => rfl
    | succ i => simp [ih]
theorem ids_next (ch : List Int) {n i j : Nat} (hi : (idsR ch 0 n)[i]? = some j) : idsR (ch ++ [(j : Int)]) 0 n = (idsR ch 0 n).eraseIdx i := by
  have hnd : (idsR ch 0 n).Nodup := List.Nodup.sublist List.filter_sublist List.nodup_range'
  rw [← filt_erase hnd hi]
  unfold idsR
  rw [List.filter_filter]
  refine List.filter_congr fun k _ => ?_
  rw [has_app, Bool.not_or, Bool.and_comm]
theorem rest_next (es : List En) (ch : List Int) {i j : Nat} (hi : (idsR ch 0 es.length)[i]? = some j) : restOf es (ch ++ [(j : Int)]) = (restOf es ch).eraseIdx i := by
  unfold restOf
  rw [map_erase, ids_next ch hi]
theorem rest_len (es : List En) (ch : List Int) : (restOf es ch).length = (idsR ch 0 es.length).length := List.length_map _
/-- What the program finds among the rest is what is found among all that were not chosen. -/
theorem pick_rest {es : List En} (hn : NN es) {ch : List Int} {p : Int} (h0 : 0 ≤ p) (h1 : p < wtL ch es) : ∃ i j : Nat, i < (restOf es ch).length ∧ j < es.length ∧ pickL [] (restOf es ch) p = (i : Int) ∧ pickL ch es p = (j : Int) ∧ enAt (restOf es ch) i = enAt es j ∧ restOf es (ch ++ [(j : Int)]) = (restOf es ch).eraseIdx i := by
  obtain ⟨j, hj, e, _, _⟩ := pickL_some (ch := ch) hn h0 h1
  have q : pickL ch es p = _ := pickR_ids ch es es.length 0 p
  have hr : (idsR ch 0 es.length).map (enAt es) = restOf es ch := rfl
  rw [hr] at q
  by_cases h : pk (restOf es ch) p < (idsR ch 0 es.length).length
  · rw [decide_eq_true h, cond_true, e] at q
    have hjj : (idsR ch 0 es.length)[pk (restOf es ch) p]? = some j := by
      rw [List.getElem?_eq_getElem h]
      rw [List.getD_eq_getElem?_getD, List.getElem?_eq_getElem h] at q
      exact congrArg some (Int.ofNat.inj q).symm
    refine ⟨pk (restOf es ch) p, j, by rw [rest_len]; exact h, hj, ?_, e, ?_, rest_next es ch hjj⟩
    · rw [pickL_pk, decide_eq_true (by rw [rest_len]; exact h)]; rfl
    · show (restOf es ch).getD _ _ = _
      unfold restOf at hjj ⊢
      rw [List.getD_eq_getElem?_getD, List.getElem?_map]
      unfold restOf at *
      rw [hjj]; rfl
  · rw [decide_eq_false h, cond_false] at q
    omega
/-- Every weight of what is left is one of the directory's. -/
theorem rest_nn {es : List En} (hn : NN es) (ch : List Int) : NN (restOf es ch) := fun k => by
  rcases Nat.lt_or_ge k (restOf es ch).length with h | h
  · have := enAt_mem h
    unfold restOf at this
    obtain ⟨i, _, hi⟩ := List.mem_map.1 this
    unfold restOf
    rw [← hi]; exact hn i
  · unfold enAt
    rw [List.getD_eq_getElem?_getD, List.getElem?_eq_none h]
    exact Int.le_refl 0
theorem rest_le (es : List En) (ch : List Int) : (restOf es ch).length ≤ es.length := by
  rw [rest_len]
  unfold idsR
  exact Nat.le_trans (List.length_filter_le _ _) (by rw [List.length_range']; exact Nat.le_refl _)

end Dm
end Go.Proofs.Ytfnbjojaflloaab
