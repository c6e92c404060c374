/-
  Plain arithmetic of replies: blocks, their packets, what opens them. Nothing of any program.
-/
import Derived.Test.YtljfhddgifacnaaPo
namespace Go.Proofs.Ytljfhddgifacnaa.Rm
open Gm Mm Tm Lm Pm Po

/-- What the maker of a block gets: the head of its packet, and the keys in place of a body. -/
def repF (x : Int) (ps ns : List Int) (r : Int) : Pkt :=
  bif makeOk x ps ns r [] then ⟨(makeF x ps ns r []).el, (makeF x ps ns r []).hd, (makeF x ps ns r []).tag, keysF x ps⟩ else Pkt.zero
def fstF (x : Int) (ps ns : List Int) (r : Int) : Int := bif makeOk x ps ns r [] then ns.getD 0 0 else 0
def fillOk (f el : Int) (hd : List Int) (tag : Int) (ls : List Int) : Bool := packOk ls && (inName f && pktOk ⟨el, hd, tag, packL ls⟩)
def fillR (f el : Int) (hd : List Int) (tag : Int) (ls : List Int) : Pkt := bif fillOk f el hd tag ls then ⟨el, hd, tag, packL ls⟩ else Pkt.zero
def opnOk (ks b : List Int) : Bool := pubsOk ks && (okL b && (decide (b.length = 6) && openOk (bodyF b ks)))
def opnF (ks b : List Int) : List Int := bif opnOk ks b then openF (bodyF b ks) else []

theorem repF_yes {x : Int} {ps ns : List Int} {r : Int} (h : makeOk x ps ns r [] = true) : repF x ps ns r = ⟨(makeF x ps ns r []).el, (makeF x ps ns r []).hd, (makeF x ps ns r []).tag, keysF x ps⟩ := by simp [repF, h]
theorem repF_no {x : Int} {ps ns : List Int} {r : Int} (h : makeOk x ps ns r [] = false) : repF x ps ns r = Pkt.zero := by simp [repF, h]
theorem fstF_yes {x : Int} {ps ns : List Int} {r : Int} (h : makeOk x ps ns r [] = true) : fstF x ps ns r = ns.getD 0 0 := by simp [fstF, h]
theorem fstF_no {x : Int} {ps ns : List Int} {r : Int} (h : makeOk x ps ns r [] = false) : fstF x ps ns r = 0 := by simp [fstF, h]
theorem fillOk_iff {f el : Int} {hd : List Int} {tag : Int} {ls : List Int} : fillOk f el hd tag ls = true ↔ packOk ls = true ∧ inName f = true ∧ pktOk ⟨el, hd, tag, packL ls⟩ = true := by simp [fillOk]
theorem fillR_yes {f el : Int} {hd : List Int} {tag : Int} {ls : List Int} (h : fillOk f el hd tag ls = true) : fillR f el hd tag ls = ⟨el, hd, tag, packL ls⟩ := by simp [fillR, h]
theorem fillR_no {f el : Int} {hd : List Int} {tag : Int} {ls : List Int} (h : fillOk f el hd tag ls = false) : fillR f el hd tag ls = Pkt.zero := by simp [fillR, h]
theorem opnOk_iff {ks b : List Int} : opnOk ks b = true ↔ pubsOk ks = true ∧ okL b = true ∧ b.length = 6 ∧ openOk (bodyF b ks) = true := by simp [opnOk]
theorem opnF_yes {ks b : List Int} (h : opnOk ks b = true) : opnF ks b = openF (bodyF b ks) := by simp [opnF, h]
theorem opnF_no {ks b : List Int} (h : opnOk ks b = false) : opnF ks b = [] := by simp [opnF, h]
theorem opnF_le (ks b : List Int) : (opnF ks b).length ≤ 6 := by
  cases h : opnOk ks b
  · rw [opnF_no h]; exact Nat.zero_le _
  · rw [opnF_yes h]; exact openF_le _

/-- The masks of all keys, as the program lays them: what is no list of numbers is left with nothing. -/
def onsF (b ks : List Int) : List Int := ks.foldl onF b
theorem onF_nil (k : Int) : onF [] k = [] := by
  unfold onF
  cases inG k
  · simp
  · simp [onL, okL]
theorem onsF_nil (ks : List Int) : onsF [] ks = [] := by
  unfold onsF
  induction ks with
  | nil => rfl
  | cons k ks ih => rw [List.foldl_cons, onF_nil]; exact ih
theorem onsF_ok {b ks : List Int} (h : okL b = true) (hk : ∀ k ∈ ks, inG k = true) : onsF b ks = bodyF b ks := by
  unfold onsF bodyF
  induction ks generalizing b with
  | nil => rfl
  | cons k ks ih =>
    rw [List.foldl_cons, List.foldl_cons, onF_yes h (hk k (by simp))]
    exact ih (onL_ok k (okL_iff.1 h).2) (fun y hy => hk y (by simp [hy]))
theorem onsF_bad {b ks : List Int} (h : okL b = false) (hn : ks ≠ []) : onsF b ks = [] := by
  cases ks with
  | nil => exact absurd rfl hn
  | cons k ks =>
    show onsF (onF b k) ks = []
    rw [onF_no1 h, onsF_nil]
theorem pubs_all {ks : List Int} (h : pubsOk ks = true) : (∀ k ∈ ks, inG k = true) ∧ 1 ≤ ks.length ∧ ks.length ≤ 3 := by
  unfold pubsOk at h
  simp at h
  exact ⟨h.1, by omega, by omega⟩
/-- What the program's check by opening alone says. -/
theorem opn_is {ks b : List Int} (h : pubsOk ks = true) : openOk (onsF b ks) = opnOk ks b ∧ openF (onsF b ks) = opnF ks b := by
  obtain ⟨h1, h2, h3⟩ := pubs_all h
  have key : openOk (onsF b ks) = opnOk ks b := by
    unfold opnOk
    rw [h, Bool.true_and]
    cases hb : okL b
    · rw [onsF_bad hb (by intro e; rw [e] at h2; simp at h2)]
      rfl
    · rw [onsF_ok hb h1, Bool.true_and]
      by_cases hl : b.length = 6
      · rw [decide_eq_true hl, Bool.true_and]
      · rw [decide_eq_false hl, Bool.false_and]
        cases ho : openOk (bodyF b ks)
        · rfl
        · have := (openOk_iff.1 ho).2.1
          rw [body_len] at this
          exact absurd this hl
  refine ⟨key, ?_⟩
  cases ho : opnOk ks b
  · rw [opnF_no ho, openF_no (key.trans ho)]
  · rw [opnF_yes ho, onsF_ok (opnOk_iff.1 ho).2.1 h1]
theorem opn_no {ks b : List Int} (h : pubsOk ks = false) : opnOk ks b = false := by simp [opnOk, h]
theorem onsF_take {b ks : List Int} {k : Nat} (h : k < ks.length) : onsF b (ks.take (k + 1)) = onF (onsF b (ks.take k)) (ks.getD k 0) := by
  unfold onsF
  rw [take_succ_getD h, List.foldl_append]
  rfl
theorem bodyF_take {b ks : List Int} {k : Nat} (h : k < ks.length) : bodyF b (ks.take (k + 1)) = onL (bodyF b (ks.take k)) (ks.getD k 0) := by
  unfold bodyF
  rw [take_succ_getD h, List.foldl_append]
  rfl
theorem onsF_le (b ks : List Int) (h : ks ≠ []) : (onsF b ks).length ≤ 24 := by
  cases ks with
  | nil => exact absurd rfl h
  | cons k ks =>
    show (onsF (onF b k) ks).length ≤ 24
    have h1 := onF_len b k
    generalize onF b k = b at h1 ⊢
    unfold onsF
    induction ks generalizing b with
    | nil => exact h1
    | cons k ks ih => exact ih (by simp) _ (onF_len _ _)
/-- The order of keys does not matter. -/
theorem body_perm {ks js : List Int} (h : List.Perm ks js) (b : List Int) : bodyF b ks = bodyF b js := by
  unfold bodyF
  induction h generalizing b with
  | nil => rfl
  | cons x _ ih => exact ih _
  | swap x y l => rw [List.foldl_cons, List.foldl_cons, List.foldl_cons, List.foldl_cons, on_on]
  | trans _ _ ih1 ih2 => rw [ih1, ih2]
theorem opn_back {ks b : List Int} (h : opnOk ks b = true) : opnOk ks.reverse b = true ∧ opnF ks.reverse b = opnF ks b := by
  obtain ⟨h1, h2, h3, h4⟩ := opnOk_iff.1 h
  have hp : pubsOk ks.reverse = true := by unfold pubsOk at h1 ⊢; rw [List.all_reverse, List.length_reverse]; exact h1
  have e := body_perm (List.reverse_perm ks) b
  have ho : opnOk ks.reverse b = true := opnOk_iff.2 ⟨hp, h2, h3, by rw [e]; exact h4⟩
  exact ⟨ho, by rw [opnF_yes ho, opnF_yes h, e]⟩
/-- Masks are taken off in any order. -/
def offsF (b ks : List Int) : List Int := ks.foldl offL b
theorem offs_len (ks b : List Int) : (offsF b ks).length = b.length := by
  unfold offsF
  induction ks generalizing b with
  | nil => rfl
  | cons k ks ih => rw [List.foldl_cons, ih, offL_len]
theorem offs_ok (ks b : List Int) (h : okL b = true) : okL (offsF b ks) = true := by
  unfold offsF
  induction ks generalizing b with
  | nil => exact h
  | cons k ks ih => exact ih _ (offL_ok k (okL_iff.1 h).2)
theorem on_offs {b ks : List Int} (h : okL b = true) : bodyF (offsF b ks) ks = b := by
  unfold bodyF offsF
  induction ks generalizing b with
  | nil => rfl
  | cons k ks ih =>
    rw [List.foldl_cons, List.foldl_cons, body_comm]
    rw [ih (offL_ok k (okL_iff.1 h).2), on_off k h]
/-- A changed body is not opened. -/
theorem body_getD (ks b : List Int) {j : Nat} (hj : j < b.length) : ∃ m : Int, 0 ≤ m ∧ ∀ c : List Int, c.length = b.length → (bodyF c ks).getD j 0 % 991 = (c.getD j 0 + m) % 991 := by
  unfold bodyF
  induction ks with
  | nil => exact ⟨0, Int.le_refl _, fun c _ => by simp⟩
  | cons k ks ih =>
    obtain ⟨m, hm, h⟩ := ih
    have := at2_bd k j
    refine ⟨m + at2 k j, by omega, fun c hc => ?_⟩
    rw [List.foldl_cons, h _ (by rw [onL_len, hc]), getD_on _ _ (by omega)]
    omega
theorem body_set {ks b : List Int} {k : Nat} {y : Int} (hb : okL b = true) (hk : k < b.length) (hy : 0 ≤ y ∧ y ≤ 990) (hne : y ≠ b.getD k 0) :
    ∃ z, (0 ≤ z ∧ z ≤ 990) ∧ z ≠ (bodyF b ks).getD k 0 ∧ bodyF (b.set k y) ks = (bodyF b ks).set k z := by
  refine ⟨(bodyF (b.set k y) ks).getD k 0, ?_, ?_, ?_⟩
  · exact okL_at (body_ok ks _ (set_ok hb hy)) (by rw [body_len]; simpa using hk)
  · obtain ⟨m, hm, h⟩ := body_getD ks b hk
    have h1 := h b rfl
    have h2 := h (b.set k y) (by simp)
    have h3 : (b.set k y).getD k 0 = y := by simp [List.getD_eq_getElem?_getD, hk]
    have h4 := okL_at hb hk
    rw [h3] at h2
    intro e
    rw [e] at h2
    omega
  · refine ext_getD (by rw [body_len, List.length_set, List.length_set, body_len]) fun j hj => ?_
    rw [body_len, List.length_set] at hj
    by_cases hjk : j = k
    · subst hjk
      simp [List.getD_eq_getElem?_getD, body_len, hk]
    · obtain ⟨m, hm, h⟩ := body_getD ks b hj
      have h1 := h b rfl
      have h2 := h (b.set k y) (by simp)
      have h3 : (b.set k y).getD j 0 = b.getD j 0 := by simp [List.getD_eq_getElem?_getD, Ne.symm hjk]
      have h4 : ((bodyF b ks).set k ((bodyF (b.set k y) ks).getD k 0)).getD j 0 = (bodyF b ks).getD j 0 := by simp [List.getD_eq_getElem?_getD, Ne.symm hjk]
      rw [h4]
      have h5 := okL_at (body_ok ks b hb) (k := j) (by rw [body_len]; exact hj)
      have h6 := okL_at (body_ok ks _ (set_ok (k := k) hb hy)) (k := j) (by rw [body_len]; simpa using hj)
      rw [h3] at h2
      omega
theorem opn_set {ks b : List Int} {k : Nat} {y : Int} (h : opnOk ks b = true) (hk : k < b.length) (hy : 0 ≤ y ∧ y ≤ 990) (hne : y ≠ b.getD k 0) : opnOk ks (b.set k y) = false := by
  obtain ⟨h1, h2, h3, h4⟩ := opnOk_iff.1 h
  cases ho : opnOk ks (b.set k y)
  · rfl
  · obtain ⟨_, _, _, o4⟩ := opnOk_iff.1 ho
    obtain ⟨z, hz, hzn, e⟩ := body_set (ks := ks) h2 hk hy hne
    obtain ⟨p1, p2⟩ := pack_open h4
    rw [packF_yes p1] at p2
    rw [e, ← p2] at o4
    rw [← p2] at hzn
    rw [openOk_set p1 (by omega) hz hzn] at o4
    cases o4
/-- A reply of a block that was made: its packet is one of the path, around the body from which all masks are taken. -/
theorem fill_pkt {x r : Int} {ps ns ls : List Int} (h : makeOk x ps ns r [] = true) (hl : packOk ls = true) :
    fillOk (fstF x ps ns r) (repF x ps ns r).el (repF x ps ns r).hd (repF x ps ns r).tag ls = true ∧
    fillR (fstF x ps ns r) (repF x ps ns r).el (repF x ps ns r).hd (repF x ps ns r).tag ls = pkt x ps ns r (fillF (keysF x ps)) (offsF (packL ls) (keysF x ps)) := by
  obtain ⟨q1, q2, q3, q4, q5, q6⟩ := makeOk_iff.1 h
  obtain ⟨v1, v2, v3, v4, v5, v6⟩ := pktOk_iff.1 (make_valid h).1
  have hl4 := (packOk_iff.1 hl).2
  have hn : inName (ns.getD 0 0) = true := q5 _ (getD_mem (by rw [q4]; exact (pubs_all q3).2.1))
  rw [repF_yes h, fstF_yes h]
  have ho : fillOk (ns.getD 0 0) (makeF x ps ns r []).el (makeF x ps ns r []).hd (makeF x ps ns r []).tag ls = true :=
    fillOk_iff.2 ⟨hl, hn, pktOk_iff.2 ⟨v1, v2, v3, v4, packL_ok hl, packL_len hl4⟩⟩
  refine ⟨ho, ?_⟩
  show fillR (ns.getD 0 0) (makeF x ps ns r []).el (makeF x ps ns r []).hd (makeF x ps ns r []).tag ls = _
  rw [fillR_yes ho, makeF_yes h]
  unfold pkt
  rw [on_offs (packL_ok hl)]
/-- It is opened by its keys. -/
theorem opn_reply {x : Int} {ps ls : List Int} (hx : inG x = true) (hp : pubsOk ps = true) (hl : packOk ls = true) :
    opnOk (keysF x ps) (offsF (packL ls) (keysF x ps)) = true ∧ opnF (keysF x ps) (offsF (packL ls) (keysF x ps)) = ls := by
  have hk := keysF_in x ps hx (pubs_all hp).1
  have hp2 : pubsOk (keysF x ps) = true := by
    unfold pubsOk
    rw [List.all_eq_true.2 hk, keysF_len, Bool.true_and]
    exact decide_eq_true ⟨(pubs_all hp).2.1, (pubs_all hp).2.2⟩
  have hl4 := (packOk_iff.1 hl).2
  have e := on_offs (ks := keysF x ps) (packL_ok hl)
  have ho : opnOk (keysF x ps) (offsF (packL ls) (keysF x ps)) = true :=
    opnOk_iff.2 ⟨hp2, offs_ok _ _ (packL_ok hl), by rw [offs_len, packL_len hl4], by rw [e]; exact openOk_pack hl⟩
  exact ⟨ho, by rw [opnF_yes ho, e, openF_pack hl]⟩

end Go.Proofs.Ytljfhddgifacnaa.Rm
