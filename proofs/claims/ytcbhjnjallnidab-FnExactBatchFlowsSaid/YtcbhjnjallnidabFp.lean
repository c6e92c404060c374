/-
  Chapter 32, plain: names in the order of their appearance, views, batches. Nothing of any program.
-/
import Derived.Test.YtcbhjnjallnidabFd
import Derived.Test.YtcbhjnjallnidabPm
namespace Go.Proofs.Ytcbhjnjallnidab
namespace Fp
open Fc Pm

/-! ### names are numbered -/
/-- Where x stands first, or the length. -/
def ix (x : Int) : List Int → Nat
  | [] => 0
  | d :: ds => if d = x then 0 else ix x ds + 1
theorem ix_le (x : Int) : ∀ ds : List Int, ix x ds ≤ ds.length
  | [] => Nat.le_refl 0
  | d :: ds => by
    unfold ix
    split
    · exact Nat.zero_le _
    · have := ix_le x ds
      simp only [List.length_cons]; omega
theorem ix_not {x : Int} : ∀ {ds : List Int}, x ∉ ds → ix x ds = ds.length
  | [], _ => rfl
  | d :: ds, h => by
    have h1 : ¬ d = x := fun e => h (by rw [e]; exact List.mem_cons_self)
    have h2 : x ∉ ds := fun e => h (List.mem_cons_of_mem _ e)
    unfold ix
    rw [if_neg h1, ix_not h2, List.length_cons]
theorem ix_get {x : Int} : ∀ {ds : List Int}, x ∈ ds → ix x ds < ds.length ∧ ds.getD (ix x ds) 0 = x
  | d :: ds, h => by
    unfold ix
    by_cases e : d = x
    · rw [if_pos e]; exact ⟨by simp, by simpa using e⟩
    · rw [if_neg e]
      have h2 : x ∈ ds := by
        rcases List.mem_cons.1 h with q | q
        · exact absurd q.symm e
        · exact q
      have := ix_get h2
      exact ⟨by simp only [List.length_cons]; omega, by simpa using this.2⟩
theorem ix_app {x : Int} : ∀ {ds : List Int} (es : List Int), x ∈ ds → ix x (ds ++ es) = ix x ds
  | d :: ds, es, h => by
    rw [List.cons_append]
    unfold ix
    by_cases e : d = x
    · rw [if_pos e, if_pos e]
    · rw [if_neg e, if_neg e]
      have h2 : x ∈ ds := by
        rcases List.mem_cons.1 h with q | q
        · exact absurd q.symm e
        · exact q
      rw [ix_app es h2]
theorem ix_new {x : Int} : ∀ {ds : List Int}, x ∉ ds → ix x (ds ++ [x]) = ds.length
  | [], _ => by simp [ix]
  | d :: ds, h => by
    have h1 : ¬ d = x := fun e => h (by rw [e]; exact List.mem_cons_self)
    have h2 : x ∉ ds := fun e => h (List.mem_cons_of_mem _ e)
    rw [List.cons_append]
    unfold ix
    rw [if_neg h1, ix_new h2, List.length_cons]
/-- Nothing stands ahead of it. -/
theorem ix_first {x : Int} : ∀ {ds : List Int} {k : Nat}, k ≤ ds.length → (∀ i, i < k → ds.getD i 0 ≠ x) → (k < ds.length → ds.getD k 0 = x) → ix x ds = k
  | [], k, h, _, _ => by
    obtain rfl : k = 0 := by simpa using h
    rfl
  | d :: ds, 0, _, _, h2 => by
    unfold ix
    rw [if_pos (by simpa using h2 (by simp))]
  | d :: ds, k + 1, h, h1, h2 => by
    unfold ix
    rw [if_neg (by simpa using h1 0 (by omega)), ix_first (k := k) (by simpa using h) (fun i hi => by simpa using h1 (i + 1) (by omega)) (fun hk => by simpa using h2 (by simpa using hk))]
def addN (ds : List Int) (x : Int) : List Int := if x ∈ ds then ds else ds ++ [x]
def dis (xs : List Int) : List Int := xs.foldl addN []
theorem dis_snoc (xs : List Int) (x : Int) : dis (xs ++ [x]) = addN (dis xs) x := by
  unfold dis
  rw [List.foldl_append]; rfl
theorem mem_addN {ds : List Int} {x y : Int} : y ∈ addN ds x ↔ y ∈ ds ∨ y = x := by
  unfold addN
  split
  · constructor
    · exact .inl
    · rintro (h | rfl)
      · exact h
      · assumption
  · rw [List.mem_append, List.mem_singleton]
theorem mem_fold {y : Int} : ∀ (xs ds : List Int), y ∈ xs.foldl addN ds ↔ y ∈ ds ∨ y ∈ xs
  | [], ds => by simp
  | x :: xs, ds => by
    rw [List.foldl_cons, mem_fold xs, mem_addN, List.mem_cons, or_assoc]
theorem mem_dis {y : Int} {xs : List Int} : y ∈ dis xs ↔ y ∈ xs := by
  unfold dis
  rw [mem_fold]; simp
theorem dis_len (xs : List Int) : (dis xs).length ≤ xs.length := by
  have : ∀ (xs ds : List Int), (xs.foldl addN ds).length ≤ ds.length + xs.length := fun xs => by
    induction xs with
    | nil => intro ds; simp
    | cons x xs ih =>
      intro ds
      rw [List.foldl_cons]
      have h1 := ih (addN ds x)
      have h2 : (addN ds x).length ≤ ds.length + 1 := by unfold addN; split <;> simp
      simp only [List.length_cons]; omega
  simpa [dis] using this xs []
theorem ix_addN (x : Int) (ds : List Int) : ix x (addN ds x) = ix x ds := by
  unfold addN
  split
  · rfl
  · rename_i h
    rw [ix_new h, ix_not h]
theorem ix_keep {x : Int} {ds : List Int} (h : x ∈ ds) (y : Int) : ix x (addN ds y) = ix x ds := by
  unfold addN
  split
  · rfl
  · exact ix_app _ h
/-- The number of the i-th name. -/
def numAt (xs : List Int) (i : Nat) : Int := (ix (xs.getD i 0) (dis (xs.take i)) : Nat)
/-- How many different names are ahead of the i-th. -/
def cntD (xs : List Int) (i : Nat) : Nat := (dis (xs.take i)).length
theorem take_snoc {xs : List Int} {i : Nat} (h : i < xs.length) : xs.take (i + 1) = xs.take i ++ [xs.getD i 0] := by
  rw [List.take_add_one, List.getD_eq_getElem?_getD, List.getElem?_eq_getElem h]; rfl
theorem dis_step {xs : List Int} {i : Nat} (h : i < xs.length) : dis (xs.take (i + 1)) = addN (dis (xs.take i)) (xs.getD i 0) := by
  rw [take_snoc h, dis_snoc]
theorem mem_take {xs : List Int} {i : Nat} (y : Int) : y ∈ xs.take i ↔ ∃ k, k < i ∧ k < xs.length ∧ xs.getD k 0 = y := by
  constructor
  · intro h
    obtain ⟨k, hk, e⟩ := List.getElem_of_mem h
    rw [List.length_take] at hk
    refine ⟨k, by omega, by omega, ?_⟩
    rw [List.getElem_take] at e
    rw [List.getD_eq_getElem?_getD, List.getElem?_eq_getElem (by omega)]; exact e
  · rintro ⟨k, h1, h2, rfl⟩
    rw [List.getD_eq_getElem?_getD, List.getElem?_eq_getElem h2]
    exact List.mem_iff_getElem.2 ⟨k, by rw [List.length_take]; omega, by rw [List.getElem_take]; rfl⟩
theorem numAt_from {xs : List Int} {i j : Nat} (hij : i < j) (hj : j ≤ xs.length) : numAt xs i = (ix (xs.getD i 0) (dis (xs.take j)) : Nat) := by
  induction j with
  | zero => omega
  | succ j ih =>
    rw [dis_step (by omega)]
    by_cases h : i = j
    · subst h
      rw [ix_addN]; rfl
    · rw [ix_keep (mem_dis.2 ((mem_take _).2 ⟨i, by omega, by omega, rfl⟩))]
      exact ih (by omega) (by omega)
theorem mem_dis_at {xs : List Int} {i : Nat} (h : i < xs.length) : xs.getD i 0 ∈ dis xs := by
  rw [mem_dis, List.getD_eq_getElem?_getD, List.getElem?_eq_getElem h]
  exact List.getElem_mem h
theorem numAt_all {xs : List Int} {i : Nat} (hi : i < xs.length) : numAt xs i = (ix (xs.getD i 0) (dis xs) : Nat) := by
  have := numAt_from hi (Nat.le_refl xs.length)
  rwa [List.take_length] at this
theorem numAt_eq {xs : List Int} {i k : Nat} (hi : i < xs.length) (hk : k < xs.length) : numAt xs i = numAt xs k ↔ xs.getD i 0 = xs.getD k 0 := by
  rw [numAt_all hi, numAt_all hk]
  constructor
  · intro h
    have h1 := (ix_get (mem_dis_at hi)).2
    have h2 := (ix_get (mem_dis_at hk)).2
    rw [← h1, ← h2, show ix (xs.getD i 0) (dis xs) = ix (xs.getD k 0) (dis xs) by omega]
  · intro h; rw [h]
theorem numAt_le (xs : List Int) (i : Nat) : 0 ≤ numAt xs i ∧ numAt xs i ≤ cntD xs i := by
  unfold numAt cntD
  have := ix_le (xs.getD i 0) (dis (xs.take i))
  omega
theorem cntD_le (xs : List Int) (i : Nat) : cntD xs i ≤ i := by
  unfold cntD
  have := dis_len (xs.take i)
  rw [List.length_take] at this
  omega
theorem numAt_cnt {xs : List Int} {i : Nat} : numAt xs i = cntD xs i ↔ xs.getD i 0 ∉ xs.take i := by
  unfold numAt cntD
  rw [← mem_dis]
  constructor
  · intro h hm
    have := (ix_get hm).1
    omega
  · intro h; rw [ix_not h]
theorem cntD_succ {xs : List Int} {i : Nat} (h : i < xs.length) : cntD xs (i + 1) = if numAt xs i = cntD xs i then cntD xs i + 1 else cntD xs i := by
  have e : cntD xs (i + 1) = (addN (dis (xs.take i)) (xs.getD i 0)).length := by unfold cntD; rw [dis_step h]
  rw [e]
  unfold addN
  by_cases hm : xs.getD i 0 ∈ xs.take i
  · rw [if_pos (mem_dis.2 hm), if_neg (fun q => numAt_cnt.1 q hm)]; rfl
  · rw [if_neg (fun q => hm (mem_dis.1 q)), if_pos (numAt_cnt.2 hm), List.length_append]; rfl
/-- Lists in which the same places are equal are numbered alike. -/
theorem num_same {xs ys : List Int} (hl : xs.length = ys.length) (hp : ∀ i k, i < xs.length → k < i → (xs.getD i 0 = xs.getD k 0 ↔ ys.getD i 0 = ys.getD k 0)) :
    ∀ j, j ≤ xs.length → cntD xs j = cntD ys j ∧ ∀ i, i < j → numAt xs i = numAt ys i := by
  intro j
  induction j with
  | zero => intro _; exact ⟨by unfold cntD; simp [dis], fun i hi => absurd hi (by omega)⟩
  | succ j ih =>
    intro hj
    obtain ⟨h1, h2⟩ := ih (by omega)
    have hm : xs.getD j 0 ∈ xs.take j ↔ ys.getD j 0 ∈ ys.take j := by
      rw [mem_take, mem_take]
      constructor
      · rintro ⟨k, q1, q2, q3⟩
        exact ⟨k, q1, by omega, ((hp j k (by omega) q1).1 q3.symm).symm⟩
      · rintro ⟨k, q1, q2, q3⟩
        exact ⟨k, q1, by omega, ((hp j k (by omega) q1).2 q3.symm).symm⟩
    have hn : numAt xs j = numAt ys j := by
      by_cases hx : xs.getD j 0 ∈ xs.take j
      · obtain ⟨k, q1, q2, q3⟩ := (mem_take _).1 hx
        have e1 : numAt xs j = numAt xs k := (numAt_eq (by omega) q2).2 q3.symm
        have e2 : numAt ys j = numAt ys k := (numAt_eq (by omega) (by omega)).2 ((hp j k (by omega) q1).1 q3.symm)
        rw [e1, e2, h2 k q1]
      · rw [numAt_cnt.2 hx, numAt_cnt.2 (fun q => hx (hm.2 q)), h1]
    refine ⟨?_, fun i hi => ?_⟩
    · rw [cntD_succ (by omega), cntD_succ (by omega), hn, h1]
    · by_cases e : i = j
      · rw [e]; exact hn
      · exact h2 i (by omega)
theorem num_take {xs : List Int} {i k : Nat} (hi : i < k) : numAt (xs.take k) i = numAt xs i := by
  unfold numAt
  rw [List.take_take, Nat.min_eq_left (by omega), List.getD_eq_getElem?_getD, List.getD_eq_getElem?_getD, List.getElem?_take_of_lt hi]
/-- Different names are numbered by their places. -/
theorem num_diff {xs : List Int} (hp : ∀ i k, i < xs.length → k < i → xs.getD i 0 ≠ xs.getD k 0) : ∀ j, j ≤ xs.length → cntD xs j = j ∧ ∀ i, i < j → numAt xs i = i := by
  intro j
  induction j with
  | zero => intro _; exact ⟨by unfold cntD; simp [dis], fun i hi => absurd hi (by omega)⟩
  | succ j ih =>
    intro hj
    obtain ⟨h1, h2⟩ := ih (by omega)
    have hn : numAt xs j = cntD xs j := numAt_cnt.2 fun hm => by
      obtain ⟨k, q1, q2, q3⟩ := (mem_take _).1 hm
      exact hp j k (by omega) q1 q3.symm
    refine ⟨by rw [cntD_succ (by omega), if_pos hn, h1], fun i hi => ?_⟩
    by_cases e : i = j
    · rw [e, hn, h1]
    · exact h2 i (by omega)
/-! ### views -/
instance : DecidableEq Fl := fun a b =>
  if h : a.fr = b.fr ∧ a.to = b.to ∧ a.nm = b.nm then isTrue (fl_eq h.1 h.2.1 h.2.2) else isFalse fun e => h (by rw [e]; exact ⟨rfl, rfl, rfl⟩)
def nms (xs : List Fl) : List Int := xs.map Fl.nm
theorem nms_len (xs : List Fl) : (nms xs).length = xs.length := List.length_map ..
theorem nms_at {xs : List Fl} {i : Nat} (h : i < xs.length) : (nms xs).getD i 0 = (flAt xs i).nm := by
  unfold nms flAt
  rw [List.getD_eq_getElem?_getD, List.getElem?_map, List.getD_eq_getElem?_getD, List.getElem?_eq_getElem h]; rfl
def vwAt (xs : List Fl) (i : Nat) : Fl := ⟨(flAt xs i).fr, (flAt xs i).to, numAt (nms xs) i⟩
def viewL (xs : List Fl) : List Fl := (List.range xs.length).map (vwAt xs)
theorem view_len (xs : List Fl) : (viewL xs).length = xs.length := by unfold viewL; rw [List.length_map, List.length_range]
theorem view_at {xs : List Fl} {i : Nat} (h : i < xs.length) : flAt (viewL xs) i = vwAt xs i := by
  unfold flAt viewL
  rw [List.getD_eq_getElem?_getD, List.getElem?_map, List.getElem?_range h]; rfl
theorem list_eq {a b : List Fl} (hl : a.length = b.length) (h : ∀ i, i < a.length → flAt a i = flAt b i) : a = b := by
  refine List.ext_getElem? fun i => ?_
  by_cases hi : i < a.length
  · rw [flAt_get hi, flAt_get (by omega), h i hi]
  · rw [List.getElem?_eq_none (by omega), List.getElem?_eq_none (by omega)]
theorem range_snoc (f : Nat → Fl) (i : Nat) : (List.range (i + 1)).map f = (List.range i).map f ++ [f i] := by
  rw [List.range_succ, List.map_append]; rfl
def endOk (x : Int) : Bool := decide (-1 ≤ x ∧ x ≤ 7)
theorem endOk_iff {x : Int} : endOk x = true ↔ -1 ≤ x ∧ x ≤ 7 := by unfold endOk; simp
def flOk (f : Fl) : Bool := endOk f.fr && (endOk f.to && decide (0 ≤ f.nm))
theorem flOk_iff {f : Fl} : flOk f = true ↔ (-1 ≤ f.fr ∧ f.fr ≤ 7) ∧ (-1 ≤ f.to ∧ f.to ≤ 7) ∧ 0 ≤ f.nm := by unfold flOk; simp [endOk_iff]
def okTo (xs : List Fl) (k : Nat) : Prop := ∀ i, i < k → flOk (flAt xs i) = true
theorem okTo_zero (xs : List Fl) : okTo xs 0 := fun i hi => absurd hi (by omega)
theorem okTo_succ {xs : List Fl} {k : Nat} (h : okTo xs k) (hk : flOk (flAt xs k) = true) : okTo xs (k + 1) := fun i hi => by
  by_cases e : i = k
  · rw [e]; exact hk
  · exact h i (by omega)
def flsOk (xs : List Fl) : Bool := xs.all flOk && decide (xs.length ≤ 16)
theorem flsOk_iff {xs : List Fl} : flsOk xs = true ↔ okTo xs xs.length ∧ xs.length ≤ 16 := by
  unfold flsOk okTo
  rw [Bool.and_eq_true, decide_eq_true_eq, List.all_eq_true]
  refine and_congr_left fun _ => ⟨fun h i hi => h _ (List.mem_of_getElem? (flAt_get hi)), fun h x hx => ?_⟩
  obtain ⟨i, hi, rfl⟩ := List.getElem_of_mem hx
  have := h i hi
  have e : flAt xs i = xs[i] := by
    have := flAt_get hi
    rw [List.getElem?_eq_getElem hi] at this
    exact (Option.some.inj this).symm
  rwa [e] at this
theorem flsOk_bad {xs : List Fl} {k : Nat} (hk : k < xs.length) (h : flOk (flAt xs k) = false) : flsOk xs = false := by
  cases e : flsOk xs
  · rfl
  · rw [(flsOk_iff.1 e).1 k hk] at h; cases h
theorem flsOk_long {xs : List Fl} (h : ¬ xs.length ≤ 16) : flsOk xs = false := by
  cases e : flsOk xs
  · rfl
  · exact absurd (flsOk_iff.1 e).2 h
theorem flsOk_all {xs : List Fl} (h : okTo xs xs.length) (h2 : xs.length ≤ 16) : flsOk xs = true := flsOk_iff.2 ⟨h, h2⟩
def viewF (xs : List Fl) : List Fl := if flsOk xs = true then viewL xs else []
theorem viewF_yes {xs : List Fl} (h : flsOk xs = true) : viewF xs = viewL xs := if_pos h
theorem viewF_no {xs : List Fl} (h : flsOk xs = false) : viewF xs = [] := if_neg (by rw [h]; decide)
theorem viewF_pos {xs : List Fl} (h : (viewF xs).length ≠ 0) : flsOk xs = true := by
  cases e : flsOk xs
  · rw [viewF_no e] at h; exact absurd rfl h
  · rfl
def sameV (a b : List Fl) : Bool := flsOk a && (flsOk b && decide (viewL a = viewL b))
theorem sameV_yes {a b : List Fl} (h1 : flsOk a = true) (h2 : flsOk b = true) (h : viewL a = viewL b) : sameV a b = true := by
  unfold sameV
  rw [h1, h2, decide_eq_true h]; rfl
theorem sameV_iff {a b : List Fl} : sameV a b = true ↔ flsOk a = true ∧ flsOk b = true ∧ viewL a = viewL b := by
  unfold sameV; simp
theorem sameV_symm (a b : List Fl) : sameV b a = sameV a b := by
  refine Bool.eq_iff_iff.2 ?_
  rw [sameV_iff, sameV_iff]
  exact ⟨fun h => ⟨h.2.1, h.1, h.2.2.symm⟩, fun h => ⟨h.2.1, h.1, h.2.2.symm⟩⟩
/-- Views of flows whose names are equal at the same places. -/
theorem view_same {xs ys : List Fl} (hl : xs.length = ys.length) (he : ∀ i, i < xs.length → (flAt xs i).fr = (flAt ys i).fr ∧ (flAt xs i).to = (flAt ys i).to)
    (hp : ∀ i k, i < xs.length → k < i → ((flAt xs i).nm = (flAt xs k).nm ↔ (flAt ys i).nm = (flAt ys k).nm)) : viewL xs = viewL ys := by
  refine list_eq (by rw [view_len, view_len, hl]) fun i hi => ?_
  rw [view_len] at hi
  rw [view_at hi, view_at (by omega)]
  have hn : numAt (nms xs) i = numAt (nms ys) i := by
    refine (num_same (by rw [nms_len, nms_len, hl]) (fun i k h1 h2 => ?_) xs.length (by rw [nms_len]; exact Nat.le_refl _)).2 i hi
    rw [nms_len] at h1
    rw [nms_at h1, nms_at (by omega), nms_at (by omega), nms_at (by omega)]
    exact hp i k h1 h2
  unfold vwAt
  rw [hn, (he i hi).1, (he i hi).2]
theorem view_nm {xs : List Fl} {i k : Nat} (hi : i < xs.length) (hk : k < xs.length) : numAt (nms xs) i = numAt (nms xs) k ↔ (flAt xs i).nm = (flAt xs k).nm := by
  rw [numAt_eq (by rw [nms_len]; exact hi) (by rw [nms_len]; exact hk), nms_at hi, nms_at hk]
theorem view_view (xs : List Fl) : viewL (viewL xs) = viewL xs := by
  refine view_same (view_len xs) (fun i hi => ?_) fun i k hi hk => ?_
  · rw [view_len] at hi
    rw [view_at hi]; exact ⟨rfl, rfl⟩
  · rw [view_len] at hi
    rw [view_at hi, view_at (by omega)]
    exact view_nm hi (by omega)
theorem view_ok {xs : List Fl} (h : flsOk xs = true) : flsOk (viewL xs) = true := by
  obtain ⟨h1, h2⟩ := flsOk_iff.1 h
  refine flsOk_iff.2 ⟨fun i hi => ?_, by rw [view_len]; exact h2⟩
  rw [view_len] at hi
  rw [view_at hi]
  have := flOk_iff.1 (h1 i hi)
  exact flOk_iff.2 ⟨this.1, this.2.1, (numAt_le _ i).1⟩
theorem view_take {xs : List Fl} {k : Nat} (hk : k ≤ xs.length) : viewL (xs.take k) = (viewL xs).take k := by
  have hl : (xs.take k).length = k := by rw [List.length_take]; omega
  have hat : ∀ (ys : List Fl) {i : Nat}, i < k → flAt (ys.take k) i = flAt ys i := fun ys i hi => by
    unfold flAt
    rw [List.getD_eq_getElem?_getD, List.getD_eq_getElem?_getD, List.getElem?_take_of_lt hi]
  refine list_eq (by rw [view_len, hl, List.length_take, view_len]; omega) fun i hi => ?_
  rw [view_len, hl] at hi
  rw [view_at (by omega), hat _ hi, view_at (by omega)]
  unfold vwAt
  rw [hat _ hi]
  have : nms (xs.take k) = (nms xs).take k := List.map_take ..
  rw [this, num_take hi]
theorem ok_take {xs : List Fl} (k : Nat) (h : flsOk xs = true) : flsOk (xs.take k) = true := by
  obtain ⟨h1, h2⟩ := flsOk_iff.1 h
  refine flsOk_iff.2 ⟨fun i hi => ?_, by rw [List.length_take]; omega⟩
  rw [List.length_take] at hi
  have := h1 i (by omega)
  unfold flAt at *
  rwa [List.getD_eq_getElem?_getD, List.getElem?_take_of_lt (by omega), ← List.getD_eq_getElem?_getD]
/-- A number is added to all names. -/
def addV (q : Int) (xs : List Fl) : List Fl := xs.map fun f => ⟨f.fr, f.to, f.nm + q⟩
theorem addV_len (q : Int) (xs : List Fl) : (addV q xs).length = xs.length := List.length_map ..
theorem addV_at {q : Int} {xs : List Fl} {i : Nat} (h : i < xs.length) : flAt (addV q xs) i = ⟨(flAt xs i).fr, (flAt xs i).to, (flAt xs i).nm + q⟩ := by
  unfold flAt addV
  rw [List.getD_eq_getElem?_getD, List.getElem?_map, List.getD_eq_getElem?_getD, List.getElem?_eq_getElem h]; rfl
theorem addV_ok {q : Int} (hq : 0 ≤ q) {xs : List Fl} (h : flsOk xs = true) : flsOk (addV q xs) = true := by
  obtain ⟨h1, h2⟩ := flsOk_iff.1 h
  refine flsOk_iff.2 ⟨fun i hi => ?_, by rw [addV_len]; exact h2⟩
  rw [addV_len] at hi
  rw [addV_at hi]
  obtain ⟨a, b, c⟩ := flOk_iff.1 (h1 i hi)
  exact flOk_iff.2 ⟨a, b, by show 0 ≤ (flAt xs i).nm + q; omega⟩
theorem addV_view (q : Int) (xs : List Fl) : viewL xs = viewL (addV q xs) := by
  refine view_same (addV_len q xs).symm (fun i hi => ?_) fun i k hi hk => ?_
  · rw [addV_at hi]; exact ⟨rfl, rfl⟩
  · rw [addV_at hi, addV_at (by omega)]
    show _ ↔ (flAt xs i).nm + q = (flAt xs k).nm + q
    omega
theorem fl_take {xs : List Fl} {i : Nat} (h : i < xs.length) : xs.take (i + 1) = xs.take i ++ [flAt xs i] := by
  rw [List.take_add_one, flAt_get h]; rfl
theorem addV_take {q : Int} {xs : List Fl} {i : Nat} (h : i < xs.length) : addV q (xs.take (i + 1)) = addV q (xs.take i) ++ [⟨(flAt xs i).fr, (flAt xs i).to, (flAt xs i).nm + q⟩] := by
  rw [fl_take h]
  unfold addV
  rw [List.map_append]; rfl
/-- Flows whose names differ are numbered by their places. -/
theorem view_diff {xs : List Fl} (hp : ∀ i k, i < xs.length → k < i → (flAt xs i).nm ≠ (flAt xs k).nm) {i : Nat} (hi : i < xs.length) : flAt (viewL xs) i = ⟨(flAt xs i).fr, (flAt xs i).to, i⟩ := by
  rw [view_at hi]
  unfold vwAt
  rw [(num_diff (xs := nms xs) (fun i k h1 h2 => by rw [nms_len] at h1; rw [nms_at h1, nms_at (by omega)]; exact hp i k h1 h2) xs.length (by rw [nms_len]; exact Nat.le_refl _)).2 i hi]
/-! ### batches -/
def batOk (ss rs : List Int) (nm : Int) : Bool := ss.all inName && (rs.all inName && (decide (ss.length = rs.length) && (decide (2 * ss.length ≤ 16) && decide (0 ≤ nm ∧ nm ≤ 990))))
theorem batOk_iff {ss rs : List Int} {nm : Int} : batOk ss rs nm = true ↔ ss.all inName = true ∧ rs.all inName = true ∧ ss.length = rs.length ∧ ss.length ≤ 8 ∧ 0 ≤ nm ∧ nm ≤ 990 := by
  unfold batOk
  simp only [Bool.and_eq_true, decide_eq_true_eq]
  constructor
  · rintro ⟨a, b, c, d, e, f⟩; exact ⟨a, b, c, by omega, e, f⟩
  · rintro ⟨a, b, c, d, e, f⟩; exact ⟨a, b, c, by omega, e, f⟩
def sentAt (ss : List Int) (nm : Int) (i : Nat) : Fl := ⟨ss.getD i 0, -1, nm + i⟩
def sentL (ss : List Int) (nm : Int) : List Fl := (List.range ss.length).map (sentAt ss nm)
def passAt (rs : List Int) (base : Int) (i : Nat) : Fl := ⟨-1, rs.getD i 0, base + i⟩
/-- The flows to r, of the first k letters. -/
def passR (rs : List Int) (base : Int) (r k : Nat) : List Fl := ((List.range k).filter fun i => rs.getD i 0 == (r : Int)).map (passAt rs base)
/-- The flows to the receivers below R. -/
def passTo (rs : List Int) (base : Int) (R : Nat) : List Fl := (List.range R).flatMap fun r => passR rs base r rs.length
def passL (rs : List Int) (base : Int) : List Fl := passTo rs base 8
def batL (ss rs : List Int) (nm : Int) : List Fl := sentL ss nm ++ passL rs (nm + ss.length)
def batF (ss rs : List Int) (nm : Int) : List Fl := if batOk ss rs nm = true then batL ss rs nm else []
theorem batF_yes {ss rs : List Int} {nm : Int} (h : batOk ss rs nm = true) : batF ss rs nm = batL ss rs nm := if_pos h
theorem batF_no {ss rs : List Int} {nm : Int} (h : batOk ss rs nm = false) : batF ss rs nm = [] := if_neg (by rw [h]; decide)
theorem batF_pos {ss rs : List Int} {nm : Int} (h : (batF ss rs nm).length ≠ 0) : batOk ss rs nm = true := by
  cases e : batOk ss rs nm
  · rw [batF_no e] at h; exact absurd rfl h
  · rfl
theorem passR_zero (rs : List Int) (base : Int) (r : Nat) : passR rs base r 0 = [] := rfl
theorem passR_yes {rs : List Int} {base : Int} {r k : Nat} (h : rs.getD k 0 = (r : Int)) : passR rs base r (k + 1) = passR rs base r k ++ [⟨-1, r, base + k⟩] := by
  unfold passR
  rw [List.range_succ, List.filter_append, List.map_append]
  have hb : (rs.getD k 0 == (r : Int)) = true := by rw [h]; exact beq_self_eq_true _
  have : [k].filter (fun i => rs.getD i 0 == (r : Int)) = [k] := List.filter_cons_of_pos hb
  rw [this]
  show _ ++ [passAt rs base k] = _
  unfold passAt
  rw [h]
theorem passR_no {rs : List Int} {base : Int} {r k : Nat} (h : ¬ rs.getD k 0 = (r : Int)) : passR rs base r (k + 1) = passR rs base r k := by
  unfold passR
  rw [List.range_succ, List.filter_append, List.map_append]
  have hb : ¬ (rs.getD k 0 == (r : Int)) = true := by rw [beq_iff_eq]; exact h
  have : [k].filter (fun i => rs.getD i 0 == (r : Int)) = [] := List.filter_cons_of_neg hb
  rw [this]
  exact List.append_nil _
theorem passTo_succ (rs : List Int) (base : Int) (R : Nat) : passTo rs base (R + 1) = passTo rs base R ++ passR rs base R rs.length := by
  unfold passTo
  rw [List.range_succ, List.flatMap_append]
  simp
theorem sent_len (ss : List Int) (nm : Int) : (sentL ss nm).length = ss.length := by unfold sentL; rw [List.length_map, List.length_range]
theorem sent_at {ss : List Int} {nm : Int} {i : Nat} (h : i < ss.length) : flAt (sentL ss nm) i = sentAt ss nm i := by
  unfold flAt sentL
  rw [List.getD_eq_getElem?_getD, List.getElem?_map, List.getElem?_range h]; rfl
/-- By receiver and then by name. -/
def ltX (a b : Fl) : Bool := decide (a.to < b.to ∨ (a.to = b.to ∧ a.nm < b.nm))
theorem ltX_iff {a b : Fl} : ltX a b = true ↔ a.to < b.to ∨ (a.to = b.to ∧ a.nm < b.nm) := by unfold ltX; simp
theorem ltX_no {a b : Fl} : ltX a b = false ↔ ¬ (a.to < b.to ∨ (a.to = b.to ∧ a.nm < b.nm)) := by
  rw [← ltX_iff]; simp
def passO (rs : List Int) (base : Int) : List Fl := (List.range rs.length).map (passAt rs base)
theorem passO_len (rs : List Int) (base : Int) : (passO rs base).length = rs.length := by unfold passO; rw [List.length_map, List.length_range]
theorem mem_passR {rs : List Int} {base : Int} {r k : Nat} {f : Fl} : f ∈ passR rs base r k ↔ ∃ i, i < k ∧ rs.getD i 0 = (r : Int) ∧ f = passAt rs base i := by
  unfold passR
  rw [List.mem_map]
  constructor
  · rintro ⟨i, hi, rfl⟩
    rw [List.mem_filter, List.mem_range] at hi
    exact ⟨i, hi.1, by simpa using hi.2, rfl⟩
  · rintro ⟨i, h1, h2, rfl⟩
    exact ⟨i, by rw [List.mem_filter, List.mem_range]; exact ⟨h1, by simpa using h2⟩, rfl⟩
theorem mem_passTo {rs : List Int} {base : Int} {R : Nat} {f : Fl} : f ∈ passTo rs base R ↔ ∃ i r, r < R ∧ i < rs.length ∧ rs.getD i 0 = (r : Int) ∧ f = passAt rs base i := by
  unfold passTo
  rw [List.mem_flatMap]
  constructor
  · rintro ⟨r, hr, hf⟩
    obtain ⟨i, h1, h2, h3⟩ := mem_passR.1 hf
    exact ⟨i, r, by simpa using hr, h1, h2, h3⟩
  · rintro ⟨i, r, hr, h1, h2, h3⟩
    exact ⟨r, by simpa using hr, mem_passR.2 ⟨i, h1, h2, h3⟩⟩
theorem all_at {xs : List Int} (h : xs.all inName = true) {i : Nat} (hi : i < xs.length) : 0 ≤ xs.getD i 0 ∧ xs.getD i 0 ≤ 7 := by
  rw [List.all_eq_true] at h
  have := h (xs.getD i 0) (by rw [List.getD_eq_getElem?_getD, List.getElem?_eq_getElem hi]; exact List.getElem_mem hi)
  exact inName_iff.1 this
theorem mem_passL {rs : List Int} {base : Int} (h : rs.all inName = true) {f : Fl} : f ∈ passL rs base ↔ ∃ i, i < rs.length ∧ f = passAt rs base i := by
  unfold passL
  rw [mem_passTo]
  constructor
  · rintro ⟨i, r, _, h1, _, h3⟩; exact ⟨i, h1, h3⟩
  · rintro ⟨i, h1, h3⟩
    have := all_at h h1
    exact ⟨i, (rs.getD i 0).toNat, by omega, h1, by omega, h3⟩
theorem mem_passO {rs : List Int} {base : Int} {f : Fl} : f ∈ passO rs base ↔ ∃ i, i < rs.length ∧ f = passAt rs base i := by
  unfold passO
  rw [List.mem_map]
  constructor
  · rintro ⟨i, hi, rfl⟩; exact ⟨i, by simpa using hi, rfl⟩
  · rintro ⟨i, hi, rfl⟩; exact ⟨i, by simpa using hi, rfl⟩
theorem passR_sorted (rs : List Int) (base : Int) (r k : Nat) : (passR rs base r k).Pairwise (fun a b => ltX a b = true) := by
  unfold passR
  rw [List.pairwise_map]
  have hr : (List.range k).Pairwise (· < ·) := List.pairwise_lt_range
  refine List.Pairwise.imp_of_mem ?_ (hr.filter _)
  intro a b ha hb hab
  rw [List.mem_filter] at ha hb
  have h1 : rs.getD a 0 = (r : Int) := by simpa using ha.2
  have h2 : rs.getD b 0 = (r : Int) := by simpa using hb.2
  refine ltX_iff.2 (.inr ⟨by show rs.getD a 0 = rs.getD b 0; rw [h1, h2], ?_⟩)
  show base + (a : Int) < base + (b : Int)
  omega
theorem passTo_sorted (rs : List Int) (base : Int) : ∀ R, (passTo rs base R).Pairwise (fun a b => ltX a b = true)
  | 0 => List.Pairwise.nil
  | R + 1 => by
    rw [passTo_succ, List.pairwise_append]
    refine ⟨passTo_sorted rs base R, passR_sorted _ _ _ _, fun a ha b hb => ?_⟩
    obtain ⟨i, r, h1, h2, h3, rfl⟩ := mem_passTo.1 ha
    obtain ⟨k, h4, h5, rfl⟩ := mem_passR.1 hb
    refine ltX_iff.2 (.inl ?_)
    show rs.getD i 0 < rs.getD k 0
    omega
theorem ltX_irr {a b : Fl} (h : ltX a b = true) : a ≠ b := by
  rintro rfl
  rw [ltX_iff] at h
  omega
theorem passO_nodup (rs : List Int) (base : Int) : (passO rs base).Nodup := by
  unfold passO
  refine List.pairwise_map.2 ?_
  have hr : (List.range rs.length).Pairwise (· < ·) := List.pairwise_lt_range
  refine hr.imp fun {a b} hab => ?_
  intro e
  have : base + (a : Int) = base + (b : Int) := congrArg Fl.nm e
  omega
theorem passL_perm {rs : List Int} (base : Int) (h : rs.all inName = true) : (passL rs base).Perm (passO rs base) := by
  refine (List.perm_ext_iff_of_nodup ?_ (passO_nodup rs base)).2 fun f => ?_
  · exact (passTo_sorted rs base 8).imp fun {a b} q => ltX_irr q
  · rw [mem_passL h, mem_passO]
theorem pass_len {rs : List Int} (base : Int) (h : rs.all inName = true) : (passL rs base).length = rs.length := by
  rw [(passL_perm base h).length_eq, passO_len]
/-- Whatever holds the same flows in that order is that list. -/
theorem pass_unique {rs : List Int} {base : Int} (h : rs.all inName = true) {ys : List Fl} (hp : ys.Perm (passO rs base)) (hs : ys.Pairwise (fun a b => ltX b a = false)) : ys = passL rs base := by
  have hp2 : ys.Perm (passL rs base) := hp.trans (passL_perm base h).symm
  refine hp2.eq_of_pairwise (le := fun a b => ltX b a = false) ?_ hs ((passTo_sorted rs base 8).imp fun {a b} q => ?_)
  · intro a b ha hb h1 h2
    rw [ltX_no] at h1 h2
    have ha' := (mem_passL h).1 (hp2.mem_iff.1 ha)
    have hb' := (mem_passL h).1 hb
    obtain ⟨i, _, rfl⟩ := ha'
    obtain ⟨k, _, rfl⟩ := hb'
    have e1 : (passAt rs base i).to = (passAt rs base k).to := by omega
    have e2 : (passAt rs base i).nm = (passAt rs base k).nm := by omega
    exact fl_eq rfl e1 e2
  · rw [ltX_no]
    rw [ltX_iff] at q
    omega
/-- The receivers, in order. -/
def tos (rs : List Int) (base : Int) : List Int := (passL rs base).map Fl.to
theorem passO_to (rs : List Int) (base : Int) : (passO rs base).map Fl.to = rs := by
  unfold passO
  rw [List.map_map]
  refine List.ext_getElem (by simp) fun i h1 h2 => ?_
  simp only [List.getElem_map, List.getElem_range, Function.comp]
  show rs.getD i 0 = _
  rw [List.getD_eq_getElem?_getD, List.getElem?_eq_getElem h2]; rfl
theorem tos_perm {rs : List Int} (base : Int) (h : rs.all inName = true) : (tos rs base).Perm rs := by
  have := (passL_perm base h).map Fl.to
  rwa [passO_to] at this
theorem tos_sorted (rs : List Int) (base : Int) : (tos rs base).Pairwise (· ≤ ·) := by
  unfold tos
  rw [List.pairwise_map]
  refine (passTo_sorted rs base 8).imp fun {a b} q => ?_
  rw [ltX_iff] at q
  omega
theorem tos_same {rs qs : List Int} {b c : Int} (h : rs.all inName = true) (hq : qs.all inName = true) (hp : rs.Perm qs) : tos rs b = tos qs c := by
  refine (((tos_perm b h).trans hp).trans (tos_perm c hq).symm).eq_of_pairwise (le := fun x y : Int => x ≤ y) ?_ (tos_sorted rs b) (tos_sorted qs c)
  intro x y _ _ h1 h2
  exact Int.le_antisymm h1 h2
theorem tos_inj {rs qs : List Int} {b c : Int} (h : rs.all inName = true) (hq : qs.all inName = true) (e : tos rs b = tos qs c) : rs.Perm qs :=
  ((tos_perm b h).symm.trans (e ▸ tos_perm c hq))
section
variable {ss rs : List Int} {nm : Int}
theorem bat_len (h : batOk ss rs nm = true) : (batL ss rs nm).length = 2 * ss.length := by
  obtain ⟨_, h2, h3, _⟩ := batOk_iff.1 h
  unfold batL
  rw [List.length_append, sent_len, pass_len _ h2]; omega
theorem flAt_left {xs ys : List Fl} {i : Nat} (h : i < xs.length) : flAt (xs ++ ys) i = flAt xs i := by
  unfold flAt
  rw [List.getD_eq_getElem?_getD, List.getD_eq_getElem?_getD, List.getElem?_append_left h]
theorem flAt_right {xs ys : List Fl} {i : Nat} (h : xs.length ≤ i) : flAt (xs ++ ys) i = flAt ys (i - xs.length) := by
  unfold flAt
  rw [List.getD_eq_getElem?_getD, List.getD_eq_getElem?_getD, List.getElem?_append_right h]
theorem bat_sent {i : Nat} (hi : i < ss.length) : flAt (batL ss rs nm) i = sentAt ss nm i := by
  unfold batL
  rw [flAt_left (by rw [sent_len]; exact hi), sent_at hi]
theorem flAt_mem {xs : List Fl} {i : Nat} (h : i < xs.length) : flAt xs i ∈ xs := List.mem_of_getElem? (flAt_get h)
theorem bat_pass (h : batOk ss rs nm = true) {i : Nat} (h1 : ss.length ≤ i) (h2 : i < 2 * ss.length) : flAt (batL ss rs nm) i = flAt (passL rs (nm + ss.length)) (i - ss.length) ∧ ∃ k, k < rs.length ∧ flAt (batL ss rs nm) i = passAt rs (nm + ss.length) k := by
  obtain ⟨_, q2, q3, _⟩ := batOk_iff.1 h
  have e : flAt (batL ss rs nm) i = flAt (passL rs (nm + ss.length)) (i - ss.length) := by
    unfold batL
    rw [flAt_right (by rw [sent_len]; exact h1), sent_len]
  refine ⟨e, ?_⟩
  rw [e]
  exact (mem_passL q2).1 (flAt_mem (by rw [pass_len _ q2]; omega))
theorem bat_to (h : batOk ss rs nm = true) {i : Nat} (h1 : ss.length ≤ i) (h2 : i < 2 * ss.length) : (flAt (batL ss rs nm) i).fr = -1 ∧ (flAt (batL ss rs nm) i).to = (tos rs (nm + ss.length)).getD (i - ss.length) 0 := by
  obtain ⟨_, q2, q3, _⟩ := batOk_iff.1 h
  obtain ⟨e, k, _, e2⟩ := bat_pass h h1 h2
  refine ⟨by rw [e2]; rfl, ?_⟩
  rw [e]
  unfold tos flAt
  rw [List.getD_eq_getElem?_getD, List.getD_eq_getElem?_getD, List.getElem?_map, List.getElem?_eq_getElem (by rw [pass_len _ q2]; omega)]; rfl
theorem sorted_at {xs : List Fl} (h : xs.Pairwise (fun a b => ltX a b = true)) {i k : Nat} (hi : i < xs.length) (hk : k < i) : ltX (flAt xs k) (flAt xs i) = true := by
  have := (List.pairwise_iff_getElem.1 h) k i (by omega) hi hk
  have e1 := flAt_get hi
  have e2 := flAt_get (show k < xs.length by omega)
  rw [List.getElem?_eq_getElem hi] at e1
  rw [List.getElem?_eq_getElem (show k < xs.length by omega)] at e2
  rw [Option.some.inj e1, Option.some.inj e2] at this
  exact this
/-- All names of a batch differ. -/
theorem bat_fresh (h : batOk ss rs nm = true) {i k : Nat} (hi : i < (batL ss rs nm).length) (hk : k < i) : (flAt (batL ss rs nm) i).nm ≠ (flAt (batL ss rs nm) k).nm := by
  obtain ⟨_, q2, q3, _⟩ := batOk_iff.1 h
  rw [bat_len h] at hi
  by_cases h1 : i < ss.length
  · rw [bat_sent h1, bat_sent (by omega)]
    show nm + (i : Int) ≠ nm + (k : Int)
    omega
  · obtain ⟨e, j, hj, e2⟩ := bat_pass h (by omega) hi
    by_cases h2 : k < ss.length
    · rw [bat_sent h2, e2]
      show nm + (ss.length : Int) + (j : Int) ≠ nm + (k : Int)
      omega
    · obtain ⟨e', j', hj', e2'⟩ := bat_pass h (show ss.length ≤ k by omega) (by omega)
      intro en
      have hs := sorted_at (passTo_sorted rs (nm + ss.length) 8) (i := i - ss.length) (k := k - ss.length) (by have := pass_len (nm + ss.length) q2; unfold passL at this; omega) (by omega)
      rw [show passTo rs (nm + ss.length) 8 = passL rs (nm + ss.length) from rfl, ← e, ← e', e2, e2', ltX_iff] at hs
      rw [e2, e2'] at en
      have : nm + (ss.length : Int) + (j : Int) = nm + (ss.length : Int) + (j' : Int) := en
      obtain rfl : j = j' := by omega
      omega
theorem bat_flow (h : batOk ss rs nm = true) {i : Nat} (hi : i < (batL ss rs nm).length) : flOk (flAt (batL ss rs nm) i) = true ∧ nm ≤ (flAt (batL ss rs nm) i).nm ∧ (flAt (batL ss rs nm) i).nm < nm + 2 * ss.length := by
  obtain ⟨q1, q2, q3, q4, q5, q6⟩ := batOk_iff.1 h
  rw [bat_len h] at hi
  by_cases h1 : i < ss.length
  · rw [bat_sent h1]
    have := all_at q1 h1
    refine ⟨flOk_iff.2 ⟨by show -1 ≤ ss.getD i 0 ∧ ss.getD i 0 ≤ 7; omega, by show (-1 : Int) ≤ -1 ∧ (-1 : Int) ≤ 7; omega, by show 0 ≤ nm + (i : Int); omega⟩, by show nm ≤ nm + (i : Int); omega, by show nm + (i : Int) < nm + 2 * ss.length; omega⟩
  · obtain ⟨e, j, hj, e2⟩ := bat_pass h (show ss.length ≤ i by omega) hi
    rw [e2]
    have := all_at q2 hj
    refine ⟨flOk_iff.2 ⟨by show (-1 : Int) ≤ -1 ∧ (-1 : Int) ≤ 7; omega, by show -1 ≤ rs.getD j 0 ∧ rs.getD j 0 ≤ 7; omega, by show 0 ≤ nm + (ss.length : Int) + (j : Int); omega⟩, by show nm ≤ nm + (ss.length : Int) + (j : Int); omega, by show nm + (ss.length : Int) + (j : Int) < nm + 2 * ss.length; omega⟩
theorem bat_ok (h : batOk ss rs nm = true) : flsOk (batL ss rs nm) = true := by
  refine flsOk_iff.2 ⟨fun i hi => (bat_flow h hi).1, ?_⟩
  have := (batOk_iff.1 h).2.2.2.1
  rw [bat_len h]; omega
/-- Batches with the same senders and the same receivers, in whatever order, look alike. -/
theorem bat_view {qs : List Int} {nq : Int} (h : batOk ss rs nm = true) (hq : batOk ss qs nq = true) (hp : rs.Perm qs) : viewL (batL ss rs nm) = viewL (batL ss qs nq) := by
  have hl := bat_len h
  have hl2 := bat_len hq
  refine view_same (by rw [hl, hl2]) (fun i hi => ?_) fun i k hi hk => ?_
  · rw [hl] at hi
    by_cases h1 : i < ss.length
    · rw [bat_sent h1, bat_sent h1]; exact ⟨rfl, rfl⟩
    · rw [(bat_to h (by omega) hi).1, (bat_to hq (by omega) hi).1, (bat_to h (by omega) hi).2, (bat_to hq (by omega) hi).2, tos_same (batOk_iff.1 h).2.1 (batOk_iff.1 hq).2.1 hp]
      exact ⟨rfl, rfl⟩
  · constructor
    · intro e; exact absurd e (bat_fresh h hi hk)
    · intro e; exact absurd e (bat_fresh hq (by omega) hk)
theorem bat_view_inj {qs : List Int} {nq : Int} (h : batOk ss rs nm = true) (hq : batOk ss qs nq = true) (e : viewL (batL ss rs nm) = viewL (batL ss qs nq)) : rs.Perm qs := by
  have hl := bat_len h
  have hl2 := bat_len hq
  have a2 := (batOk_iff.1 h).2
  have b2 := (batOk_iff.1 hq).2
  have t1 := (tos_perm (nm + ss.length) a2.1).length_eq
  have t2 := (tos_perm (nq + ss.length) b2.1).length_eq
  refine tos_inj a2.1 b2.1 (b := nm + ss.length) (c := nq + ss.length) (List.ext_getElem? fun i => ?_)
  by_cases hi : i < ss.length
  · have h1 : flAt (viewL (batL ss rs nm)) (i + ss.length) = flAt (viewL (batL ss qs nq)) (i + ss.length) := by rw [e]
    rw [view_at (by omega), view_at (by omega)] at h1
    have h2 : (vwAt (batL ss rs nm) (i + ss.length)).to = (vwAt (batL ss qs nq) (i + ss.length)).to := congrArg Fl.to h1
    unfold vwAt at h2
    rw [(bat_to h (by omega) (by omega)).2, (bat_to hq (by omega) (by omega)).2, Nat.add_sub_cancel, List.getD_eq_getElem?_getD, List.getD_eq_getElem?_getD] at h2
    rw [List.getElem?_eq_getElem (by omega), List.getElem?_eq_getElem (by omega)] at h2 ⊢
    exact congrArg some h2
  · rw [List.getElem?_eq_none (by omega), List.getElem?_eq_none (by omega)]
end
theorem flOk_fr {f : Fl} (h : endOk f.fr = false) : flOk f = false := by unfold flOk; rw [h]; rfl
theorem flOk_to {f : Fl} (h : endOk f.to = false) : flOk f = false := by unfold flOk; rw [h]; simp
theorem flOk_nm {f : Fl} (h : decide (0 ≤ f.nm) = false) : flOk f = false := by unfold flOk; rw [h]; simp
theorem flOk_yes {f : Fl} (h1 : endOk f.fr = true) (h2 : endOk f.to = true) (h3 : decide (0 ≤ f.nm) = true) : flOk f = true := by unfold flOk; rw [h1, h2, h3]; rfl
end Fp
end Go.Proofs.Ytcbhjnjallnidab
