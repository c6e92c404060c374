/-
  Batches, plain: what the laws on batches want. Nothing of any program.
-/
import Derived.Test.YtcbhjnjallnidabFp
namespace Go.Proofs.Ytcbhjnjallnidab
namespace Fp
open Fc Pm

theorem cnt_snoc {zs : List Int} {t : Nat} (h : t < zs.length) (r : Int) : (zs.take (t + 1)).count r = (zs.take t).count r + (if zs.getD t 0 = r then 1 else 0) := by
  rw [take_snoc h, List.count_append, List.count_singleton]
  by_cases e : zs.getD t 0 = r
  · rw [if_pos e, if_pos (by simpa using e)]
  · rw [if_neg e, if_neg (by simpa using e)]
theorem swp_perm {rs : List Int} {a b : Nat} (ha : a < rs.length) (hb : b < rs.length) : ((rs.set a (rs.getD b 0)).set b (rs.getD a 0)).Perm rs := by
  have h := Array.swap_perm (xs := rs.toArray) (i := a) (j := b) (by simpa using ha) (by simpa using hb)
  have e := Array.perm_iff_toList_perm.1 h
  rw [Array.toList_swap] at e
  have ga : rs.getD a 0 = rs[a] := by rw [List.getD_eq_getElem?_getD, List.getElem?_eq_getElem ha]; rfl
  have gb : rs.getD b 0 = rs[b] := by rw [List.getD_eq_getElem?_getD, List.getElem?_eq_getElem hb]; rfl
  rw [ga, gb]
  simpa using e
theorem all_perm {xs ys : List Int} (h : xs.Perm ys) (hy : ys.all inName = true) : xs.all inName = true := by
  rw [List.all_eq_true] at *
  exact fun x hx => hy x (h.mem_iff.1 hx)
theorem set_other {rs : List Int} {k : Nat} (hk : k < rs.length) {y : Int} (hy : y ≠ rs.getD k 0) : ¬ rs.Perm (rs.set k y) := by
  intro h
  have hg : rs.getD k 0 = rs[k] := by rw [List.getD_eq_getElem?_getD, List.getElem?_eq_getElem hk]; rfl
  have hc := h.count_eq (rs.getD k 0)
  rw [List.count_set hk, hg] at hc
  have h1 : (rs[k] == rs[k]) = true := beq_self_eq_true _
  have h2 : (y == rs[k]) = false := by rw [beq_eq_false_iff_ne, ← hg]; exact hy
  rw [h1, h2] at hc
  have hpos : 0 < rs.count rs[k] := List.count_pos_iff.2 (List.getElem_mem hk)
  simp at hc
  omega
theorem all_set {rs : List Int} {k : Nat} {y : Int} (h : rs.all inName = true) (hy : inName y = true) : (rs.set k y).all inName = true := by
  rw [List.all_eq_true] at *
  intro x hx
  rcases List.mem_or_eq_of_mem_set hx with q | rfl
  · exact h x q
  · exact hy
section
variable {ss rs qs : List Int} {nm nq : Int}
theorem bat_same (h : batOk ss rs nm = true) (hq : batOk ss qs nq = true) (hp : rs.Perm qs) : sameV (batL ss rs nm) (batL ss qs nq) = true := sameV_yes (bat_ok h) (bat_ok hq) (bat_view h hq hp)
theorem bat_diff (h : batOk ss rs nm = true) (hq : batOk ss qs nq = true) (hp : ¬ rs.Perm qs) : sameV (batL ss rs nm) (batL ss qs nq) = false := by
  cases e : sameV (batL ss rs nm) (batL ss qs nq)
  · rfl
  · exact absurd (bat_view_inj h hq (sameV_iff.1 e).2.2) hp
theorem bat_two (h : batOk ss rs nm = true) (h2 : batOk ss rs nq = true) (hn : nq = nm + 2 * ss.length) (h4 : ss.length ≤ 4) :
    flsOk (batL ss rs nm ++ batL ss rs nq) = true ∧ ∀ i, i < 4 * ss.length → (flAt (viewL (batL ss rs nm ++ batL ss rs nq)) i).nm = i := by
  have l1 := bat_len h
  have l2 := bat_len h2
  have hl : (batL ss rs nm ++ batL ss rs nq).length = 4 * ss.length := by rw [List.length_append, l1, l2]; omega
  have hat : ∀ i, i < 4 * ss.length → (flOk (flAt (batL ss rs nm ++ batL ss rs nq) i) = true ∧ (i < 2 * ss.length → (flAt (batL ss rs nm ++ batL ss rs nq) i).nm < nq) ∧ (2 * ss.length ≤ i → nq ≤ (flAt (batL ss rs nm ++ batL ss rs nq) i).nm)) := fun i hi => by
    by_cases e : i < 2 * ss.length
    · rw [flAt_left (by omega)]
      obtain ⟨q1, q2, q3⟩ := bat_flow h (i := i) (by omega)
      exact ⟨q1, fun _ => by omega, fun _ => by omega⟩
    · rw [flAt_right (by omega)]
      obtain ⟨q1, q2, q3⟩ := bat_flow h2 (i := i - (batL ss rs nm).length) (by omega)
      exact ⟨q1, fun _ => by omega, fun _ => q2⟩
  refine ⟨flsOk_iff.2 ⟨fun i hi => (hat i (by omega)).1, by omega⟩, fun i hi => ?_⟩
  rw [view_diff (fun i k hi hk => ?_) (by omega)]
  rw [hl] at hi
  have a1 := hat i hi
  have a2 := hat k (by omega)
  by_cases e : i < 2 * ss.length
  · rw [flAt_left (by omega), flAt_left (by omega)]
    exact bat_fresh h (by omega) hk
  · by_cases e2 : k < 2 * ss.length
    · have := a1.2.2 (by omega)
      have := a2.2.1 e2
      omega
    · rw [flAt_right (by omega), flAt_right (by omega)]
      exact bat_fresh h2 (by omega) (by omega)
theorem tos_len (h : batOk ss rs nm = true) (base : Int) : (tos rs base).length = ss.length := by
  obtain ⟨_, h2, h3, _⟩ := batOk_iff.1 h
  rw [(tos_perm base h2).length_eq, h3]
theorem tos_mono {base : Int} {i k : Nat} (hk : k < (tos rs base).length) (h : i ≤ k) : (tos rs base).getD i 0 ≤ (tos rs base).getD k 0 := by
  by_cases e : i = k
  · rw [e]; exact Int.le_refl _
  · have := (List.pairwise_iff_getElem.1 (tos_sorted rs base)) i k (by omega) hk (by omega)
    rw [List.getD_eq_getElem?_getD, List.getD_eq_getElem?_getD, List.getElem?_eq_getElem hk, List.getElem?_eq_getElem (by omega)]
    exact this
/-- One flow of a batch, by its place. -/
theorem bat_head {ys : List Fl} (e : batL ss rs nm = ys) {i : Nat} (hi : i < ss.length) : (flAt ys i).fr = ss.getD i 0 ∧ (flAt ys i).to = -1 := by
  rw [← e, bat_sent hi]; exact ⟨rfl, rfl⟩
theorem bat_rest (h : batOk ss rs nm = true) {ys : List Fl} (e : batL ss rs nm = ys) {t : Nat} (ht : t < ss.length) : (flAt ys (ss.length + t)).fr = -1 ∧ (flAt ys (ss.length + t)).to = (tos rs (nm + ss.length)).getD t 0 := by
  rw [← e]
  have := bat_to h (i := ss.length + t) (by omega) (by omega)
  rwa [Nat.add_sub_cancel_left] at this
end
end Fp
end Go.Proofs.Ytcbhjnjallnidab
