/-
  Plain: pieces of long letters, their parity, what is lost and found again. Nothing of any program.
-/
import Derived.Test.YtoghgliijjfppabGmm
namespace Go.Proofs.Ytoghgliijjfppab.Pc
open Gm Mm

theorem getD_far {xs : List Int} {i : Nat} (h : xs.length ≤ i) : xs.getD i 0 = 0 := by
  rw [List.getD_eq_getElem?_getD, List.getElem?_eq_none h]; rfl
abbrev T3 := Int × Int × Int
def l3 (p : T3) : List Int := [p.1, p.2.1, p.2.2]
def z3 : T3 := (0, 0, 0)
theorem l3_len (p : T3) : (l3 p).length = 3 := rfl
/-- The first three of a list, and where it is too short those of f. -/
def fil (f : T3) (xs : List Int) : T3 := (xs.getD 0 f.1, xs.getD 1 f.2.1, xs.getD 2 f.2.2)
theorem three {xs : List Int} (h : xs.length = 3) : ∃ a b c, xs = [a, b, c] := by
  match xs, h with
  | [a, b, c], _ => exact ⟨_, _, _, rfl⟩
theorem fil_full {f : T3} {xs : List Int} (h : xs.length = 3) : l3 (fil f xs) = xs := by
  obtain ⟨a, b, c, rfl⟩ := three h
  rfl
theorem fil_nil (f : T3) : fil f [] = f := rfl
theorem fil_l3 (f p : T3) : fil f (l3 p) = p := rfl

def pieceOk (xs : List Int) : Bool := okL xs && decide (xs.length = 3)
theorem pieceOk_iff {xs : List Int} : pieceOk xs = true ↔ okL xs = true ∧ xs.length = 3 := by simp [pieceOk]
/-- A piece, or a missing one. -/
def maybe (xs : List Int) : Bool := xs.isEmpty || pieceOk xs
def nMiss (ps : List (List Int)) : Nat := (ps.filter List.isEmpty).length
theorem nMiss_snoc (ps : List (List Int)) (x : List Int) : nMiss (ps ++ [x]) = nMiss ps + if x.isEmpty then 1 else 0 := by
  unfold nMiss
  rw [List.filter_append, List.length_append]
  cases h : x.isEmpty <;> simp [h]
theorem nMiss_le (ps : List (List Int)) : nMiss ps ≤ ps.length := List.length_filter_le _ _
def cntOk (n : Nat) : Bool := decide (1 ≤ n ∧ n ≤ 5)
/-- The number of pieces that are missing, or -1 if one is not a piece or the number of pieces is wrong. -/
def missF (ps : List (List Int)) : Int := bif ps.all maybe && cntOk ps.length then (nMiss ps : Int) else -1
def pcsOk (ps : List (List Int)) (m : Nat) : Bool := cntOk ps.length && (ps.all maybe && decide (nMiss ps ≤ m))
theorem pcs_miss (ps : List (List Int)) (m : Nat) : pcsOk ps m = decide (0 ≤ missF ps ∧ missF ps ≤ m) := by
  unfold pcsOk missF
  cases h1 : ps.all maybe <;> cases h2 : cntOk ps.length <;> simp
theorem pcsOk_iff {ps : List (List Int)} {m : Nat} : pcsOk ps m = true ↔ (1 ≤ ps.length ∧ ps.length ≤ 5) ∧ (∀ x ∈ ps, maybe x = true) ∧ nMiss ps ≤ m := by
  simp [pcsOk, cntOk, List.all_eq_true]
theorem miss_none {ps : List (List Int)} (h : nMiss ps = 0) : ∀ x ∈ ps, x ≠ [] := by
  intro x hx e
  have : x ∈ ps.filter List.isEmpty := List.mem_filter.2 ⟨hx, by rw [e]; rfl⟩
  unfold nMiss at h
  rw [List.length_eq_zero_iff] at h
  rw [h] at this
  simp at this
theorem pcs0 {ps : List (List Int)} : pcsOk ps 0 = true ↔ (1 ≤ ps.length ∧ ps.length ≤ 5) ∧ ∀ x ∈ ps, pieceOk x = true := by
  rw [pcsOk_iff]
  constructor
  · rintro ⟨h1, h2, h3⟩
    refine ⟨h1, fun x hx => ?_⟩
    have h4 := h2 x hx
    have h5 := miss_none (by omega) x hx
    simp only [maybe, Bool.or_eq_true] at h4
    rcases h4 with h4 | h4
    · rw [List.isEmpty_iff] at h4; exact absurd h4 h5
    · exact h4
  · rintro ⟨h1, h2⟩
    refine ⟨h1, fun x hx => by simp [maybe, h2 x hx], ?_⟩
    unfold nMiss
    rw [List.filter_eq_nil_iff.2]
    · simp
    · intro x hx
      have := (pieceOk_iff.1 (h2 x hx)).2
      rw [List.isEmpty_iff]
      intro e
      rw [e] at this
      simp at this

/-- One step of a sum, number by number. -/
def ad (s : Int) (f p : T3) : T3 := ((f.1 + s * p.1 + 991) % 991, (f.2.1 + s * p.2.1 + 991) % 991, (f.2.2 + s * p.2.2 + 991) % 991)
def sumP (s : Int) (f : T3) (ps : List (List Int)) : T3 := ps.foldl (fun a xs => ad s a (fil z3 xs)) f
theorem sumP_snoc (s : Int) (f : T3) (ps : List (List Int)) (x : List Int) : sumP s f (ps ++ [x]) = ad s (sumP s f ps) (fil z3 x) := by simp [sumP]
def in3 (p : T3) : Prop := (0 ≤ p.1 ∧ p.1 ≤ 990) ∧ (0 ≤ p.2.1 ∧ p.2.1 ≤ 990) ∧ 0 ≤ p.2.2 ∧ p.2.2 ≤ 990
theorem mod_in (x : Int) : 0 ≤ x % 991 ∧ x % 991 ≤ 990 := by omega
theorem ad_in (s : Int) (f p : T3) : in3 (ad s f p) := ⟨mod_in _, mod_in _, mod_in _⟩
theorem sumP_in {s : Int} {f : T3} (hf : in3 f) (ps : List (List Int)) : in3 (sumP s f ps) := by
  induction ps generalizing f with
  | nil => exact hf
  | cons x ps ih => exact ih (ad_in _ _ _)
theorem z3_in : in3 z3 := ⟨⟨by decide, by decide⟩, ⟨by decide, by decide⟩, by decide, by decide⟩
theorem piece_in {xs : List Int} (h : pieceOk xs = true) (f : T3) : in3 (fil f xs) := by
  obtain ⟨h1, h2⟩ := pieceOk_iff.1 h
  obtain ⟨a, b, c, rfl⟩ := three h2
  have := (okL_iff.1 h1).1
  exact ⟨this a (by simp), this b (by simp), this c (by simp)⟩
theorem maybe_in {xs : List Int} (h : maybe xs = true) {f : T3} (hf : in3 f) : in3 (fil f xs) := by
  simp only [maybe, Bool.or_eq_true] at h
  rcases h with h | h
  · rw [List.isEmpty_iff] at h; rw [h]; exact hf
  · exact piece_in h f
theorem l3_ok {p : T3} (h : in3 p) : pieceOk (l3 p) = true := by
  refine pieceOk_iff.2 ⟨okL_iff.2 ⟨fun x hx => ?_, by simp [l3]⟩, rfl⟩
  obtain ⟨h1, h2, h3⟩ := h
  simp only [l3, List.mem_cons, List.not_mem_nil, or_false] at hx
  rcases hx with rfl | rfl | rfl <;> assumption

def parF (ps : List (List Int)) : List Int := bif pcsOk ps 0 then l3 (sumP 1 z3 ps) else []
theorem parF_yes {ps : List (List Int)} (h : pcsOk ps 0 = true) : parF ps = l3 (sumP 1 z3 ps) := by simp [parF, h]
theorem parF_no {ps : List (List Int)} (h : pcsOk ps 0 = false) : parF ps = [] := by simp [parF, h]
def repOk (ps : List (List Int)) (q : List Int) : Bool := pcsOk ps 1 && pieceOk q
def lost (ps : List (List Int)) (q : List Int) : T3 := sumP (-1) (fil z3 q) ps
def repL (ps : List (List Int)) (q : List Int) : List (List Int) := ps.map fun xs => l3 (fil (lost ps q) xs)
def repF (ps : List (List Int)) (q : List Int) : List (List Int) := bif repOk ps q then repL ps q else []
theorem repF_yes {ps : List (List Int)} {q : List Int} (h : repOk ps q = true) : repF ps q = repL ps q := by simp [repF, h]
theorem repF_no {ps : List (List Int)} {q : List Int} (h : repOk ps q = false) : repF ps q = [] := by simp [repF, h]
theorem repOk_iff {ps : List (List Int)} {q : List Int} : repOk ps q = true ↔ pcsOk ps 1 = true ∧ pieceOk q = true := by simp [repOk]

/-- The length, then the letter. -/
def numF (xs : List Int) : List Int := (xs.length : Int) :: xs
def at3 (ys : List Int) (j : Nat) : List Int := [ys.getD (3 * j) 0, ys.getD (3 * j + 1) 0, ys.getD (3 * j + 2) 0]
def cnt3 (n : Nat) : Nat := (n + 3) / 3
def cutL (xs : List Int) : List (List Int) := (List.range (cnt3 xs.length)).map (at3 (numF xs))
def cutOk (xs : List Int) : Bool := okL xs && decide (xs.length ≤ 14)
def cutF (xs : List Int) : List (List Int) := bif cutOk xs then cutL xs else []
theorem cutF_yes {xs : List Int} (h : cutOk xs = true) : cutF xs = cutL xs := by simp [cutF, h]
theorem cutF_no {xs : List Int} (h : cutOk xs = false) : cutF xs = [] := by simp [cutF, h]
theorem cutOk_iff {xs : List Int} : cutOk xs = true ↔ okL xs = true ∧ xs.length ≤ 14 := by simp [cutOk]
theorem cutL_len (xs : List Int) : (cutL xs).length = cnt3 xs.length := by simp [cutL]
theorem cutF_ne {xs : List Int} (h : ¬ cutF xs = []) : cutOk xs = true := by
  cases h1 : cutOk xs
  · exact absurd (cutF_no h1) h
  · rfl
theorem cutF_len {xs : List Int} : (cutF xs).length ≤ 5 := by
  cases h : cutOk xs
  · rw [cutF_no h]; simp
  · rw [cutF_yes h, cutL_len]; have := (cutOk_iff.1 h).2; unfold cnt3; omega
theorem numF_len (xs : List Int) : (numF xs).length = xs.length + 1 := rfl
theorem numF_in {xs : List Int} (h : cutOk xs = true) (i : Nat) : 0 ≤ (numF xs).getD i 0 ∧ (numF xs).getD i 0 ≤ 990 := by
  obtain ⟨h1, h2⟩ := cutOk_iff.1 h
  rcases Nat.lt_or_ge i (numF xs).length with hi | hi
  · cases i with
    | zero => show 0 ≤ (xs.length : Int) ∧ (xs.length : Int) ≤ 990; omega
    | succ i =>
      show 0 ≤ xs.getD i 0 ∧ xs.getD i 0 ≤ 990
      exact okL_at h1 (by rw [numF_len] at hi; omega)
  · rw [getD_far hi]; omega
theorem at3_ok {xs : List Int} (h : cutOk xs = true) (j : Nat) : pieceOk (at3 (numF xs) j) = true :=
  l3_ok (p := ((numF xs).getD (3 * j) 0, (numF xs).getD (3 * j + 1) 0, (numF xs).getD (3 * j + 2) 0)) ⟨numF_in h _, numF_in h _, numF_in h _⟩
theorem cut_pcs {xs : List Int} (h : cutOk xs = true) : pcsOk (cutL xs) 0 = true := by
  refine pcs0.2 ⟨by rw [cutL_len]; have := (cutOk_iff.1 h).2; unfold cnt3; omega, fun x hx => ?_⟩
  obtain ⟨j, _, rfl⟩ := List.mem_map.1 hx
  exact at3_ok h j
/-- What a chunk of three is filled up to. -/
theorem chunk3 (ys : List Int) (j : Nat) : l3 (fil z3 ((ys.drop (3 * j)).take 3)) = at3 ys j := by
  have h : ∀ i, i < 3 → ((ys.drop (3 * j)).take 3).getD i 0 = ys.getD (3 * j + i) 0 := fun i hi => by
    simp only [List.getD_eq_getElem?_getD, List.getElem?_take, List.getElem?_drop, hi, if_true]
  show [((ys.drop (3 * j)).take 3).getD 0 0, ((ys.drop (3 * j)).take 3).getD 1 0, ((ys.drop (3 * j)).take 3).getD 2 0] = _
  rw [h 0 (by omega), h 1 (by omega), h 2 (by omega)]
  rfl

/-- All numbers of pieces. -/
def flat (ps : List (List Int)) : List Int := ps.flatten
theorem flat_len {ps : List (List Int)} (h : ∀ x ∈ ps, x.length = 3) : (flat ps).length = 3 * ps.length := by
  induction ps with
  | nil => rfl
  | cons x ps ih =>
    have := ih fun y hy => h y (by simp [hy])
    have h2 := h x (by simp)
    unfold flat at *
    rw [List.flatten_cons, List.length_append, List.length_cons]
    omega
theorem flat_at {ps : List (List Int)} (h : ∀ x ∈ ps, x.length = 3) : ∀ (j i : Nat), i < 3 → (flat ps).getD (3 * j + i) 0 = (ps.getD j []).getD i 0 := by
  induction ps with
  | nil => intro j i _; simp [flat]
  | cons x ps ih =>
    intro j i hi
    have h2 := h x (by simp)
    obtain ⟨a, b, c, rfl⟩ := three h2
    cases j with
    | zero =>
      obtain rfl | rfl | rfl : i = 0 ∨ i = 1 ∨ i = 2 := by omega
      all_goals rfl
    | succ j =>
      have := ih (fun y hy => h y (by simp [hy])) j i hi
      rw [show 3 * (j + 1) + i = 3 * j + i + 3 from by omega]
      exact this
theorem pieces_at3 {ps : List (List Int)} (h : ∀ x ∈ ps, x.length = 3) : (List.range ps.length).map (at3 (flat ps)) = ps := by
  refine List.ext_getElem (by simp) fun j h1 h2 => ?_
  have h3 := h _ (List.getElem_mem h2)
  rw [List.getElem_map, List.getElem_range]
  obtain ⟨a, b, c, e⟩ := three h3
  have e2 : ps.getD j [] = [a, b, c] := by rw [List.getD_eq_getElem?_getD, List.getElem?_eq_getElem h2, e]; rfl
  unfold at3
  have f0 := flat_at h j 0 (by omega)
  have f1 := flat_at h j 1 (by omega)
  have f2 := flat_at h j 2 (by omega)
  rw [e2] at f0 f1 f2
  rw [Nat.add_zero] at f0
  rw [f0, f1, f2, e]
  rfl

def zeroB (ys : List Int) (n : Nat) : Bool := (ys.drop n).all (· == 0)
theorem zeroB_iff {ys : List Int} {n : Nat} : zeroB ys n = true ↔ ∀ i, n ≤ i → i < ys.length → ys.getD i 0 = 0 := by
  unfold zeroB
  rw [List.all_eq_true]
  constructor
  · intro h i h1 h2
    have : ys.getD i 0 ∈ ys.drop n := by
      rw [List.getD_eq_getElem?_getD, List.getElem?_eq_getElem h2]
      exact List.mem_iff_getElem.2 ⟨i - n, by rw [List.length_drop]; omega, by rw [List.getElem_drop]; simp only [Option.getD_some]; congr 1; omega⟩
    simpa using h _ this
  · intro h x hx
    obtain ⟨i, hi, rfl⟩ := List.getElem_of_mem hx
    rw [List.length_drop] at hi
    have := h (n + i) (by omega) (by omega)
    rw [List.getD_eq_getElem?_getD, List.getElem?_eq_getElem (by omega)] at this
    rw [List.getElem_drop]
    simpa using this
def hdN (ps : List (List Int)) : Nat := ((flat ps).getD 0 0).toNat
def joinOk (ps : List (List Int)) : Bool := pcsOk ps 0 && (decide (cnt3 (hdN ps) = ps.length) && zeroB (flat ps) (hdN ps + 1))
def joinL (ps : List (List Int)) : List Int := ((flat ps).drop 1).take (hdN ps)
def joinF (ps : List (List Int)) : List Int := bif joinOk ps then joinL ps else []
theorem joinF_yes {ps : List (List Int)} (h : joinOk ps = true) : joinF ps = joinL ps := by simp [joinF, h]
theorem joinF_no {ps : List (List Int)} (h : joinOk ps = false) : joinF ps = [] := by simp [joinF, h]
theorem joinOk_iff {ps : List (List Int)} : joinOk ps = true ↔ pcsOk ps 0 = true ∧ cnt3 (hdN ps) = ps.length ∧ zeroB (flat ps) (hdN ps + 1) = true := by simp [joinOk]
theorem pcs_len {ps : List (List Int)} (h : pcsOk ps 0 = true) : ∀ x ∈ ps, x.length = 3 := fun x hx => (pieceOk_iff.1 ((pcs0.1 h).2 x hx)).2
theorem flat_in {ps : List (List Int)} (h : pcsOk ps 0 = true) (i : Nat) : 0 ≤ (flat ps).getD i 0 ∧ (flat ps).getD i 0 ≤ 990 := by
  rcases Nat.lt_or_ge i (flat ps).length with hi | hi
  · have : (flat ps).getD i 0 ∈ flat ps := getD_mem hi
    obtain ⟨x, hx, hm⟩ := List.mem_flatten.1 this
    exact (okL_iff.1 (pieceOk_iff.1 ((pcs0.1 h).2 x hx)).1).1 _ hm
  · rw [getD_far hi]; omega
theorem hdN_eq {ps : List (List Int)} (h : pcsOk ps 0 = true) : (flat ps).getD 0 0 = (hdN ps : Int) ∧ hdN ps ≤ 990 := by
  have := flat_in h 0
  unfold hdN
  omega
theorem joinL_len {ps : List (List Int)} (h : pcsOk ps 0 = true) (hl : hdN ps ≤ 3 * ps.length - 1) : (joinL ps).length = hdN ps := by
  have h2 := flat_len (pcs_len h)
  have h3 := (pcs0.1 h).1
  unfold joinL
  rw [List.length_take, List.length_drop]
  omega
theorem joinL_at {ps : List (List Int)} {i : Nat} (hi : i < hdN ps) : (joinL ps).getD i 0 = (flat ps).getD (i + 1) 0 := by
  unfold joinL
  simp only [List.getD_eq_getElem?_getD, List.getElem?_take, List.getElem?_drop, hi, if_true]
  rw [Nat.add_comm]
theorem num_at {ps : List (List Int)} (h : pcsOk ps 0 = true) (hl : hdN ps ≤ 3 * ps.length - 1) {i : Nat} (hi : i < hdN ps + 1) : (numF (joinL ps)).getD i 0 = (flat ps).getD i 0 := by
  cases i with
  | zero => show ((joinL ps).length : Int) = _; rw [joinL_len h hl, (hdN_eq h).1]
  | succ i => exact joinL_at (by omega)
theorem joinL_cutOk {ps : List (List Int)} (h : pcsOk ps 0 = true) (hl : hdN ps ≤ 3 * ps.length - 1) : cutOk (joinL ps) = true := by
  have h3 := (pcs0.1 h).1
  have h4 := joinL_len h hl
  refine cutOk_iff.2 ⟨okL_iff.2 ⟨fun x hx => ?_, by omega⟩, by omega⟩
  obtain ⟨i, hi, rfl⟩ := List.getElem_of_mem hx
  have := joinL_at (ps := ps) (i := i) (by omega)
  rw [List.getD_eq_getElem?_getD, List.getElem?_eq_getElem hi] at this
  simp only [Option.getD_some] at this
  rw [this]
  exact flat_in h _
theorem at3_ext {xs ys : List Int} {k : Nat} (h : ∀ i, i < 3 * k → xs.getD i 0 = ys.getD i 0) : (List.range k).map (at3 xs) = (List.range k).map (at3 ys) := by
  refine List.map_congr_left fun j hj => ?_
  have := List.mem_range.1 hj
  unfold at3
  rw [h _ (by omega), h _ (by omega), h _ (by omega)]
theorem at3_inj {xs ys : List Int} {k : Nat} (h : (List.range k).map (at3 xs) = (List.range k).map (at3 ys)) : ∀ i, i < 3 * k → xs.getD i 0 = ys.getD i 0 := by
  intro i hi
  have h1 : ((List.range k).map (at3 xs))[i / 3]? = ((List.range k).map (at3 ys))[i / 3]? := by rw [h]
  rw [List.getElem?_map, List.getElem?_map, List.getElem?_range (by omega)] at h1
  simp only [Option.map_some, Option.some.injEq, at3, List.cons.injEq, and_true] at h1
  obtain ⟨h2, h3, h4⟩ := h1
  obtain e | e | e : i = 3 * (i / 3) ∨ i = 3 * (i / 3) + 1 ∨ i = 3 * (i / 3) + 2 := by omega
  · rw [e]; exact h2
  · rw [e]; exact h3
  · rw [e]; exact h4
theorem join_cut {ps : List (List Int)} (h : joinOk ps = true) : cutF (joinL ps) = ps := by
  obtain ⟨h1, h2, h3⟩ := joinOk_iff.1 h
  have hl : hdN ps ≤ 3 * ps.length - 1 := by unfold cnt3 at h2; have := (pcs0.1 h1).1; omega
  rw [cutF_yes (joinL_cutOk h1 hl)]
  have e : cutL (joinL ps) = (List.range ps.length).map (at3 (flat ps)) := by
    unfold cutL
    rw [joinL_len h1 hl, h2]
    refine at3_ext fun i hi => ?_
    rcases Nat.lt_or_ge i (hdN ps + 1) with h4 | h4
    · exact num_at h1 hl h4
    · rw [getD_far (by rw [numF_len, joinL_len h1 hl]; exact h4)]
      exact (zeroB_iff.1 h3 i h4 (by rw [flat_len (pcs_len h1)]; exact hi)).symm
  rw [e]
  exact pieces_at3 (pcs_len h1)
/-- What the program asks. -/
theorem join_is {ps : List (List Int)} (h : pcsOk ps 0 = true) : joinOk ps = (decide (hdN ps ≤ 3 * ps.length - 1) && decide (cutF (joinL ps) = ps)) := by
  cases hj : joinOk ps
  · refine Eq.symm ?_
    rw [Bool.and_eq_false_iff]
    refine (Nat.lt_or_ge (3 * ps.length - 1) (hdN ps)).elim (fun h1 => .inl (decide_eq_false (by omega))) fun hl => .inr (decide_eq_false fun h2 => ?_)
    rw [cutF_yes (joinL_cutOk h hl)] at h2
    have h3 : cnt3 (hdN ps) = ps.length := by have := congrArg List.length h2; rw [cutL_len, joinL_len h hl] at this; exact this
    have : joinOk ps = true := by
      refine joinOk_iff.2 ⟨h, h3, zeroB_iff.2 fun i h4 h5 => ?_⟩
      rw [flat_len (pcs_len h)] at h5
      have h6 : (List.range ps.length).map (at3 (numF (joinL ps))) = (List.range ps.length).map (at3 (flat ps)) := by
        rw [pieces_at3 (pcs_len h)]
        unfold cutL at h2
        rw [joinL_len h hl, h3] at h2
        exact h2
      rw [← at3_inj h6 i h5]
      exact getD_far (by rw [numF_len, joinL_len h hl]; exact h4)
    rw [this] at hj
    cases hj
  · have h2 := (joinOk_iff.1 hj).2.1
    have hl : hdN ps ≤ 3 * ps.length - 1 := by unfold cnt3 at h2; have := (pcs0.1 h).1; omega
    rw [decide_eq_true hl, decide_eq_true (join_cut hj)]
    rfl
theorem cut_flat_at {xs : List Int} (h : cutOk xs = true) {i : Nat} (hi : i < 3 * cnt3 xs.length) : (flat (cutL xs)).getD i 0 = (numF xs).getD i 0 := by
  have h1 := cut_pcs h
  have h2 := pieces_at3 (pcs_len h1)
  rw [cutL_len] at h2
  exact at3_inj h2 i hi
theorem cut_hd {xs : List Int} (h : cutOk xs = true) : hdN (cutL xs) = xs.length := by
  unfold hdN
  rw [cut_flat_at h (by unfold cnt3; omega)]
  rfl
theorem cut_join {xs : List Int} (h : cutOk xs = true) : joinOk (cutL xs) = true ∧ joinL (cutL xs) = xs := by
  have h1 := cut_pcs h
  have h2 := cut_hd h
  have h3 := flat_len (pcs_len h1)
  rw [cutL_len] at h3
  refine ⟨joinOk_iff.2 ⟨h1, by rw [h2, cutL_len], zeroB_iff.2 fun i h4 h5 => ?_⟩, ?_⟩
  · rw [h2] at h4
    rw [cut_flat_at h (by omega)]
    exact getD_far h4
  · have hl : hdN (cutL xs) ≤ 3 * (cutL xs).length - 1 := by rw [h2, cutL_len]; unfold cnt3; omega
    refine List.ext_getElem (by rw [joinL_len h1 hl, h2]) fun i h4 h5 => ?_
    have h6 := joinL_at (ps := cutL xs) (i := i) (by rw [h2]; exact h5)
    rw [cut_flat_at h (by unfold cnt3; omega)] at h6
    have h7 : (joinL (cutL xs)).getD i 0 = xs.getD i 0 := h6
    rw [List.getD_eq_getElem?_getD, List.getD_eq_getElem?_getD, List.getElem?_eq_getElem h4, List.getElem?_eq_getElem h5] at h7
    exact h7

/-! Repairs. -/
theorem fil_piece {xs : List Int} (h : pieceOk xs = true) (f : T3) : l3 (fil f xs) = xs := fil_full (pieceOk_iff.1 h).2
theorem repL_len (ps : List (List Int)) (q : List Int) : (repL ps q).length = ps.length := by simp [repL]
theorem repL_at {ps : List (List Int)} {q : List Int} {k : Nat} (hk : k < ps.length) : (repL ps q).getD k [] = l3 (fil (lost ps q) (ps.getD k [])) := by
  simp only [repL, List.getD_eq_getElem?_getD, List.getElem?_map, List.getElem?_eq_getElem hk, Option.map_some, Option.getD_some]
theorem repL_none {ps : List (List Int)} {q : List Int} (h : pcsOk ps 0 = true) : repL ps q = ps := by
  unfold repL
  conv => rhs; rw [← List.map_id ps]
  exact List.map_congr_left fun x hx => fil_piece ((pcs0.1 h).2 x hx) _
/-- Sums do not ask for the order. -/
theorem ad_swap (s : Int) (f p q : T3) : ad s (ad s f p) q = ad s (ad s f q) p := by
  simp only [ad, Prod.mk.injEq]
  refine ⟨?_, ?_, ?_⟩ <;> omega
theorem sumP_cons (s : Int) (f : T3) (x : List Int) (ps : List (List Int)) : sumP s f (x :: ps) = sumP s (ad s f (fil z3 x)) ps := rfl
theorem sumP_ad (s : Int) (f p : T3) (ps : List (List Int)) : sumP s (ad s f p) ps = ad s (sumP s f ps) p := by
  induction ps generalizing f with
  | nil => rfl
  | cons x ps ih => rw [sumP_cons, sumP_cons, ad_swap, ih]
theorem sumP_rev (s : Int) (f : T3) (ps : List (List Int)) : sumP s f ps.reverse = sumP s f ps := by
  induction ps generalizing f with
  | nil => rfl
  | cons x ps ih => rw [List.reverse_cons, sumP_snoc, ih, sumP_cons, sumP_ad]
theorem ad_back {f : T3} (hf : in3 f) (p : T3) : ad (-1) (ad 1 f p) p = f := by
  obtain ⟨a, b, c⟩ := f
  obtain ⟨x, y, z⟩ := p
  simp only [in3] at hf
  simp only [ad, Prod.mk.injEq]
  refine ⟨?_, ?_, ?_⟩ <;> omega
theorem ad_zero {f : T3} (hf : in3 f) (s : Int) : ad s f z3 = f := by
  obtain ⟨a, b, c⟩ := f
  simp only [in3] at hf
  simp only [ad, z3, Prod.mk.injEq, Int.mul_zero]
  refine ⟨?_, ?_, ?_⟩ <;> omega
theorem ad_mix (f p q : T3) : ad (-1) (ad 1 f p) q = ad 1 (ad (-1) f q) p := by
  simp only [ad, Prod.mk.injEq]
  refine ⟨?_, ?_, ?_⟩ <;> omega
theorem sumP_mix (f p : T3) (ps : List (List Int)) : sumP (-1) (ad 1 f p) ps = ad 1 (sumP (-1) f ps) p := by
  induction ps generalizing f with
  | nil => rfl
  | cons x ps ih => rw [sumP_cons, sumP_cons, ad_mix, ih]
theorem sum_back {f : T3} (hf : in3 f) (ps : List (List Int)) : sumP (-1) (sumP 1 f ps) ps = f := by
  induction ps generalizing f with
  | nil => rfl
  | cons x ps ih =>
    rw [sumP_cons, sumP_cons, sumP_ad, ih (ad_in _ _ _), ad_back hf]
/-- With one piece lost, the sum of all less the others is the lost one. -/
theorem sum_lost {f : T3} : ∀ (ps : List (List Int)) (k : Nat), k < ps.length → (∀ x ∈ ps, pieceOk x = true) → sumP (-1) (sumP 1 f ps) (ps.set k []) = ad 1 f (fil z3 (ps.getD k []))
  | [], k, h, _ => absurd h (by simp)
  | x :: ps, 0, _, _ => by
    rw [List.set_cons_zero, sumP_cons, fil_nil, sumP_cons, ad_zero (sumP_in (ad_in _ _ _) _)]
    exact sum_back (ad_in _ _ _) ps
  | x :: ps, k + 1, h, hx => by
    rw [List.set_cons_succ, sumP_cons, sumP_cons, sumP_ad, sum_lost ps k (by simpa using h) fun y hy => hx y (by simp [hy]), ad_swap, ad_back (ad_in _ _ _)]
    rfl
theorem ad_z3 {p : T3} (hp : in3 p) : ad 1 z3 p = p := by
  obtain ⟨a, b, c⟩ := p
  simp only [in3] at hp
  simp only [ad, z3, Prod.mk.injEq]
  refine ⟨?_, ?_, ?_⟩ <;> omega
theorem nMiss_set {ps : List (List Int)} (h : ∀ x ∈ ps, pieceOk x = true) {k : Nat} (hk : k < ps.length) : nMiss (ps.set k []) = 1 := by
  induction ps generalizing k with
  | nil => exact absurd hk (by simp)
  | cons x ps ih =>
    have hp : ∀ y ∈ x :: ps, y.isEmpty = false := fun y hy => by
      have := (pieceOk_iff.1 (h y hy)).2
      cases y with
      | nil => simp at this
      | cons a b => rfl
    cases k with
    | zero =>
      unfold nMiss
      rw [List.set_cons_zero, List.filter_cons, if_pos (by rfl), List.filter_eq_nil_iff.2 fun y hy => by rw [hp y (by simp [hy])]; simp]
      rfl
    | succ k =>
      have := ih (fun y hy => h y (by simp [hy])) (k := k) (by simpa using hk)
      unfold nMiss at *
      rw [List.set_cons_succ, List.filter_cons, if_neg (by rw [hp x (by simp)]; simp)]
      exact this
theorem set_maybe {ps : List (List Int)} (h : ∀ x ∈ ps, maybe x = true) (k : Nat) : ∀ x ∈ ps.set k [], maybe x = true := fun x hx => by
  rcases List.mem_or_eq_of_mem_set hx with h1 | rfl
  · exact h x h1
  · rfl
theorem rep_one {ps : List (List Int)} (h : pcsOk ps 0 = true) {k : Nat} (hk : k < ps.length) : repOk (ps.set k []) (parF ps) = true ∧ repL (ps.set k []) (parF ps) = ps := by
  have h1 := pcs0.1 h
  have hpo : pieceOk (parF ps) = true := by rw [parF_yes h]; exact l3_ok (sumP_in z3_in _)
  refine ⟨repOk_iff.2 ⟨pcsOk_iff.2 ⟨by rw [List.length_set]; exact h1.1, set_maybe (fun x hx => by simp [maybe, h1.2 x hx]) k, by rw [nMiss_set h1.2 hk]; omega⟩, hpo⟩, ?_⟩
  have hkk : ps.getD k [] ∈ ps := by rw [List.getD_eq_getElem?_getD, List.getElem?_eq_getElem hk]; exact List.getElem_mem hk
  have hlost : lost (ps.set k []) (parF ps) = fil z3 (ps.getD k []) := by
    unfold lost
    rw [parF_yes h, fil_l3, sum_lost ps k hk h1.2, ad_z3 (piece_in (h1.2 _ hkk) _)]
  refine List.ext_getElem (by rw [repL_len, List.length_set]) fun i h2 h3 => ?_
  have h4 := repL_at (ps := ps.set k []) (q := parF ps) (k := i) (by rw [List.length_set]; exact h3)
  rw [List.getD_eq_getElem?_getD, List.getElem?_eq_getElem h2] at h4
  simp only [Option.getD_some] at h4
  rw [h4, hlost]
  by_cases e : i = k
  · subst e
    have e2 : (ps.set i []).getD i [] = [] := by rw [List.getD_eq_getElem?_getD, List.getElem?_set_self hk]; rfl
    rw [e2, fil_nil, fil_piece (h1.2 _ hkk), List.getD_eq_getElem?_getD, List.getElem?_eq_getElem h3]
    rfl
  · have e2 : (ps.set k []).getD i [] = ps[i] := by rw [List.getD_eq_getElem?_getD, List.getElem?_set_ne (Ne.symm e), List.getElem?_eq_getElem h3]; rfl
    rw [e2]
    exact fil_piece (h1.2 _ (List.getElem_mem h3)) _
theorem nMiss_two {ps : List (List Int)} {k j : Nat} (hk : k < ps.length) (hj : j < ps.length) (hne : k ≠ j) (h1 : ps.getD k [] = []) (h2 : ps.getD j [] = []) : 2 ≤ nMiss ps := by
  have hsub : [ps.getD k [], ps.getD j []].length ≤ nMiss ps := by
    have hw : ∀ (a b : Nat), a < b → b < ps.length → ps.getD a [] = [] → ps.getD b [] = [] → 2 ≤ nMiss ps := fun a b hab hb ha hb2 => by
      have e1 : ps = ps.take b ++ ps.drop b := (List.take_append_drop _ _).symm
      unfold nMiss
      rw [e1, List.filter_append, List.length_append]
      have m1 : ps.getD a [] ∈ (ps.take b).filter List.isEmpty := List.mem_filter.2 ⟨by
        rw [List.getD_eq_getElem?_getD, List.getElem?_eq_getElem (by omega)]
        exact List.mem_iff_getElem.2 ⟨a, by rw [List.length_take]; omega, by rw [List.getElem_take]; rfl⟩, by rw [ha]; rfl⟩
      have m2 : ps.getD b [] ∈ (ps.drop b).filter List.isEmpty := List.mem_filter.2 ⟨by
        rw [List.getD_eq_getElem?_getD, List.getElem?_eq_getElem hb]
        exact List.mem_iff_getElem.2 ⟨0, by rw [List.length_drop]; omega, by rw [List.getElem_drop]; simp⟩, by rw [hb2]; rfl⟩
      have := List.length_pos_of_mem m1
      have := List.length_pos_of_mem m2
      omega
    rcases Nat.lt_or_gt_of_ne hne with h | h
    · exact hw k j h hj h1 h2
    · exact hw j k h hk h2 h1
  simpa using hsub
theorem rep_two {ps : List (List Int)} {k j : Nat} (hk : k < ps.length) (hj : j < ps.length) (hne : k ≠ j) (h1 : ps.getD k [] = []) (h2 : ps.getD j [] = []) (q : List Int) : repOk ps q = false := by
  cases h : repOk ps q
  · rfl
  · have := (pcsOk_iff.1 (repOk_iff.1 h).1).2.2
    have := nMiss_two hk hj hne h1 h2
    omega
theorem rep_keeps {ps : List (List Int)} {q : List Int} (h : repOk ps q = true) {k : Nat} (hk : k < ps.length) : ((repL ps q).getD k []).length = 3 ∧ (0 < (ps.getD k []).length → (repL ps q).getD k [] = ps.getD k []) := by
  rw [repL_at hk]
  refine ⟨rfl, fun h0 => ?_⟩
  have hkk : ps.getD k [] ∈ ps := by rw [List.getD_eq_getElem?_getD, List.getElem?_eq_getElem hk]; exact List.getElem_mem hk
  have := (pcsOk_iff.1 (repOk_iff.1 h).1).2.1 _ hkk
  simp only [maybe, Bool.or_eq_true] at this
  rcases this with h2 | h2
  · rw [List.isEmpty_iff] at h2; rw [h2] at h0; simp at h0
  · exact fil_piece h2 _
/-- The plain sums of the k-th numbers. -/
def colS (ps : List (List Int)) (k : Nat) : Int := (ps.map fun x => x.getD k 0).sum
theorem colS_snoc (ps : List (List Int)) (x : List Int) (k : Nat) : colS (ps ++ [x]) k = colS ps k + x.getD k 0 := by simp [colS]
theorem colS_cons (ps : List (List Int)) (x : List Int) (k : Nat) : colS (x :: ps) k = x.getD k 0 + colS ps k := by simp [colS]
theorem par_gen (ps : List (List Int)) : ∀ {f : T3}, in3 f → sumP 1 f ps = ((f.1 + colS ps 0) % 991, (f.2.1 + colS ps 1) % 991, (f.2.2 + colS ps 2) % 991) := by
  induction ps with
  | nil =>
    rintro ⟨a, b, c⟩ hf
    simp only [in3] at hf
    simp only [sumP, List.foldl_nil, colS, List.map_nil, List.sum_nil, Prod.mk.injEq]
    refine ⟨?_, ?_, ?_⟩ <;> omega
  | cons x ps ih =>
    rintro ⟨a, b, c⟩ hf
    rw [sumP_cons, ih (ad_in _ _ _), colS_cons, colS_cons, colS_cons]
    simp only [ad, fil, z3, Prod.mk.injEq]
    refine ⟨?_, ?_, ?_⟩ <;> omega
theorem par_col (ps : List (List Int)) : sumP 1 z3 ps = (colS ps 0 % 991, colS ps 1 % 991, colS ps 2 % 991) := by
  rw [par_gen ps z3_in]
  simp only [z3, Int.zero_add]
/-- The first k numbers of a sum. -/
def mixT (s : Int) (f p : T3) (k : Nat) : T3 := (if 0 < k then (ad s f p).1 else f.1, if 1 < k then (ad s f p).2.1 else f.2.1, if 2 < k then (ad s f p).2.2 else f.2.2)
theorem mix0 (s : Int) (f p : T3) : mixT s f p 0 = f := rfl
theorem mix3 (s : Int) (f p : T3) : mixT s f p 3 = ad s f p := rfl
theorem mix_in {s : Int} {f p : T3} (hf : in3 f) {k i : Nat} (hi : i < 3) : 0 ≤ (l3 (mixT s f p k)).getD i 0 ∧ (l3 (mixT s f p k)).getD i 0 ≤ 990 := by
  have h2 := ad_in s f p
  obtain ⟨⟨a1, a2⟩, ⟨a3, a4⟩, a5, a6⟩ := hf
  obtain ⟨⟨b1, b2⟩, ⟨b3, b4⟩, b5, b6⟩ := h2
  obtain rfl | rfl | rfl : i = 0 ∨ i = 1 ∨ i = 2 := by omega
  · show 0 ≤ (mixT s f p k).1 ∧ (mixT s f p k).1 ≤ 990
    unfold mixT
    dsimp only
    split <;> omega
  · show 0 ≤ (mixT s f p k).2.1 ∧ (mixT s f p k).2.1 ≤ 990
    unfold mixT
    dsimp only
    split <;> omega
  · show 0 ≤ (mixT s f p k).2.2 ∧ (mixT s f p k).2.2 ≤ 990
    unfold mixT
    dsimp only
    split <;> omega
theorem l3_in {p : T3} (hp : in3 p) {i : Nat} (hi : i < 3) : 0 ≤ (l3 p).getD i 0 ∧ (l3 p).getD i 0 ≤ 990 := by
  obtain ⟨h1, h2, h3⟩ := hp
  obtain rfl | rfl | rfl : i = 0 ∨ i = 1 ∨ i = 2 := by omega
  · exact h1
  · exact h2
  · exact h3
theorem plus_mod (a x : Int) : (a + x) % 991 = (a + 1 * x + 991) % 991 := by omega
theorem minus_mod (a x : Int) : (a + 991 - x) % 991 = (a + -1 * x + 991) % 991 := by omega
theorem mix_put (f p : T3) {k : Nat} (hk : k < 3) : (l3 (mixT 1 f p k)).set k (((l3 (mixT 1 f p k)).getD k 0 + (l3 p).getD k 0) % 991) = l3 (mixT 1 f p (k + 1)) := by
  rw [plus_mod]
  obtain rfl | rfl | rfl : k = 0 ∨ k = 1 ∨ k = 2 := by omega
  all_goals rfl
theorem mix_sub (f p : T3) {k : Nat} (hk : k < 3) : (l3 (mixT (-1) f p k)).set k (((l3 (mixT (-1) f p k)).getD k 0 + 991 - (l3 p).getD k 0) % 991) = l3 (mixT (-1) f p (k + 1)) := by
  rw [minus_mod]
  obtain rfl | rfl | rfl : k = 0 ∨ k = 1 ∨ k = 2 := by omega
  all_goals rfl
end Go.Proofs.Ytoghgliijjfppab.Pc
