/-
  Plain arithmetic of the layers of a packet: pairs of a key and the next name, from the first mix to the last. Nothing of any program.
-/
import Derived.Test.YtnjcpbkpcmemeacPm
namespace Go.Proofs.Ytnjcpbkpcmemeac.Pn
open Gm Mm Tm Lm Pm

/-- The layers of a path. -/
def layL : List Int → List Int → Int → List (Int × Int)
  | [], _, _ => []
  | [k], _, r => [(k, r)]
  | k :: k2 :: ks, ns, r => (k, ns.getD 1 0) :: layL (k2 :: ks) ns.tail r
/-- The name that stands ahead of mix s: the receiver behind the last one. -/
def nxAt (ns : List Int) (n : Nat) (r : Int) (s : Nat) : Int := if s = n then r else ns.getD s 0

theorem layL_step {ks ns : List Int} {r : Int} {s : Nat} (h : s < ks.length) :
    layL (ks.drop s) (ns.drop s) r = (ks.getD s 0, nxAt ns ks.length r (s + 1)) :: layL (ks.drop (s + 1)) (ns.drop (s + 1)) r := by
  rw [drop_getD h]
  unfold nxAt
  by_cases e : s + 1 = ks.length
  · rw [if_pos e, e, List.drop_length]
    rfl
  · rw [if_neg e, drop_getD (xs := ks) (k := s + 1) (by omega)]
    show (_, _) :: _ = _
    rw [getD_drop, List.tail_drop]
theorem layL_cons (k : Int) (ks ns : List Int) (r : Int) : ∃ x L, layL (k :: ks) ns r = (k, x) :: L := by
  cases ks with
  | nil => exact ⟨_, _, rfl⟩
  | cons k2 ks => exact ⟨_, _, rfl⟩
theorem layL_keys (ks ns : List Int) (r : Int) : (layL ks ns r).map Prod.fst = ks := by
  induction ks generalizing ns with
  | nil => rfl
  | cons k ks ih =>
    cases ks with
    | nil => rfl
    | cons k2 ks => show k :: _ = _; rw [ih]
theorem layL_len (ks ns : List Int) (r : Int) : (layL ks ns r).length = ks.length := by
  have := congrArg List.length (layL_keys ks ns r)
  simpa using this
theorem layL_in (ks ns : List Int) (r : Int) (hk : ∀ k ∈ ks, inG k = true) (hl : ns.length = ks.length) (hn : ∀ x ∈ ns, inName x = true) (hr : inName r = true) : ∀ p ∈ layL ks ns r, inG p.1 = true ∧ inName p.2 = true := by
  induction ks generalizing ns with
  | nil => intro p hp; cases hp
  | cons k ks ih =>
    cases ks with
    | nil =>
      intro p hp
      obtain rfl : p = (k, r) := by simpa [layL] using hp
      exact ⟨hk k (by simp), hr⟩
    | cons k2 ks =>
      match ns, hl with
      | _ :: n2 :: ns, hl =>
        intro p hp
        rcases List.mem_cons.1 (show p ∈ (k, n2) :: layL (k2 :: ks) (n2 :: ns) r from hp) with rfl | h
        · exact ⟨hk k (by simp), hn n2 (by simp)⟩
        · exact ih (n2 :: ns) (fun q hq => hk q (by simp [hq])) (by simpa using hl) (fun q hq => hn q (by simp [hq])) p h

/-- The header of layers; f: the filler. -/
def hdrL (f : List Int) : List (Int × Int) → List Int
  | [] => []
  | [(k, x)] => onL (lastL x f.length) k ++ f
  | (k, x) :: y :: L => onL ([0, x, tagL y.1 (hdrL f (y :: L))] ++ (hdrL f (y :: L)).take 6) k
theorem hdrL_lay (f ks ns : List Int) (r : Int) : hdrL f (layL ks ns r) = hdr r f ks ns := by
  induction ks generalizing ns with
  | nil => rfl
  | cons k ks ih =>
    cases ks with
    | nil => rfl
    | cons k2 ks =>
      have e : layL (k :: k2 :: ks) ns r = (k, ns.getD 1 0) :: layL (k2 :: ks) ns.tail r := rfl
      obtain ⟨x, L, e2⟩ := layL_cons k2 ks ns.tail r
      have h2 := ih ns.tail
      rw [e2] at h2
      rw [e, e2]
      show onL ([0, _, tagL k2 (hdrL f _)] ++ (hdrL f _).take 6) k = onL _ k
      rw [h2]
theorem hdrL_len (f : List Int) (hf : f.length ≤ 6) (p : Int × Int) (L : List (Int × Int)) : (hdrL f (p :: L)).length = 9 := by
  induction L generalizing p with
  | nil =>
    obtain ⟨k, x⟩ := p
    simp [hdrL, onL_len, lastL_len x hf]; omega
  | cons q L ih =>
    obtain ⟨k, x⟩ := p
    simp [hdrL, onL_len, ih q]
theorem onL_in (l : List Int) (k x : Int) (hx : x ∈ onL l k) : 0 ≤ x ∧ x ≤ 990 := by
  unfold onL at hx
  obtain ⟨j, hj, e⟩ := List.getElem_of_mem hx
  rw [List.getElem_mapIdx] at e
  omega
theorem hdrL_in (f : List Int) (hi : ∀ x ∈ f, 0 ≤ x ∧ x ≤ 990) (L : List (Int × Int)) : ∀ x ∈ hdrL f L, 0 ≤ x ∧ x ≤ 990 := by
  match L with
  | [] => intro x hx; cases hx
  | [(k, y)] =>
    intro x hx
    rcases List.mem_append.1 (show x ∈ onL (lastL y f.length) k ++ f from hx) with h | h
    · exact onL_in _ _ _ h
    · exact hi x h
  | (k, y) :: q :: L =>
    intro x hx
    exact onL_in _ _ _ (show x ∈ onL ([0, y, tagL q.1 (hdrL f (q :: L))] ++ (hdrL f (q :: L)).take 6) k from hx)
theorem hdrL_ok (f : List Int) (hf : f.length ≤ 6) (hi : ∀ x ∈ f, 0 ≤ x ∧ x ≤ 990) (p : Int × Int) (L : List (Int × Int)) : okL (hdrL f (p :: L)) = true :=
  okL_iff.2 ⟨hdrL_in f hi _, by rw [hdrL_len f hf]; omega⟩
theorem plainL_ok (f : List Int) (hf : f.length ≤ 6) (hi : ∀ x ∈ f, 0 ≤ x ∧ x ≤ 990) (p : Int × Int) (L : List (Int × Int)) (x k : Int) (hx : 0 ≤ x ∧ x ≤ 990) :
    okL ([0, x, tagL k (hdrL f (p :: L))] ++ (hdrL f (p :: L)).take 6) = true := by
  refine okL_iff.2 ⟨fun y hy => ?_, by simp [hdrL_len f hf p L]⟩
  rcases List.mem_append.1 hy with h | h
  · have := tagL_bd k (hdrL f (p :: L))
    simp at h
    omega
  · exact hdrL_in f hi _ y (List.mem_of_mem_take h)

/-- What a sender takes off nine numbers that end with the filler so far. -/
theorem fill_eq {F : List Int} {m : Nat} (k : Int) (hm : F.length = m) (h6 : m ≤ 6) :
    (offL ((List.replicate (9 - m) 0 ++ F) ++ [0, 0, 0]) k).drop (9 - m) = fillStep F k := by
  apply ext_getD
  · simp [offL_len, fillStep_len, hm] <;> omega
  · intro j hj
    have hj2 : j < m + 3 := by simp [offL_len, hm] at hj; omega
    rw [getD_drop, getD_off _ _ (by simp [hm]; omega), getD_fill F k (by omega), List.append_assoc, getD_right (by simp)]
    have e1 : 9 - m + j - (List.replicate (9 - m) (0 : Int)).length = j := by simp
    have e2 : 12 - (F.length + 3) + j = 9 - m + j := by omega
    rw [e1, e2]
theorem last_eq (x : Int) {m : Nat} (h : m ≤ 6) : ((List.replicate (9 - m) (0 : Int)).set 0 1).set 1 x = lastL x m := by
  obtain ⟨q, hq⟩ : ∃ q, 9 - m = q + 3 := ⟨6 - m, by omega⟩
  have e : 6 - m = q := by omega
  unfold lastL
  rw [hq, e]
  rfl
theorem bodyTo_succ {b ks : List Int} {s : Nat} (h : s < ks.length) : (ks.take (s + 1)).foldl onL b = onL ((ks.take s).foldl onL b) (ks.getD s 0) := by
  rw [take_succ_getD h, List.foldl_append]; rfl

end Go.Proofs.Ytnjcpbkpcmemeac.Pn
