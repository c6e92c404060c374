/-
  What counting loops does to each link, and blamed mixes: plain lists. Nothing of any program.
-/
import Derived.Test.YtbhafchdcofceaaLs
namespace Go.Proofs.Ytbhafchdcofceaa
namespace Lc
open Nm

theorem last_one {ys : List Cnt} (h : Sd ys) (f t : Int) (b : Bool) (a c : Int) : lastL (cntOne ys f t b) a c = if f = a ∧ t = c then bump (lastL ys f t) b else lastL ys a c := by
  have hs := sd_one h f t b
  by_cases e : f = a ∧ t = c
  · rw [if_pos e]
    obtain ⟨rfl, rfl⟩ := e
    exact last_of hs (mem_cntOne.2 (.inr (.inl rfl))) (bump_key ys f t b).1 (bump_key ys f t b).2
  · rw [if_neg e]
    have hk := lastL_key ys a c
    rcases lastL_mem ys a c with h1 | h1
    · refine last_of hs (mem_cntOne.2 ?_) hk.1 hk.2
      rcases less_tri (lastL ys a c) f t with q | ⟨q1, q2⟩ | q
      · exact .inl ⟨h1, q⟩
      · exact absurd ⟨q1.symm.trans hk.1, q2.symm.trans hk.2⟩ e
      · exact .inr (.inr ⟨h1, q⟩)
    · have hk2 := lastL_key (cntOne ys f t b) a c
      rcases lastL_mem (cntOne ys f t b) a c with h2 | h2
      · rcases mem_cntOne.1 h2 with ⟨hm, _⟩ | hb | ⟨hm, _⟩
        · exact (last_of h hm hk2.1 hk2.2).symm
        · have hkb := bump_key ys f t b
          rw [← hb] at hkb
          exact absurd ⟨hkb.1.symm.trans hk2.1, hkb.2.symm.trans hk2.2⟩ e
        · exact (last_of h hm hk2.1 hk2.2).symm
      · rw [h1, h2]
/-- How often the first k steps of a path lead over a link. -/
def stp (p : List Int) (a c : Int) : Nat → Nat
  | 0 => 0
  | k + 1 => stp p a c k + (if p.getD k 0 = a ∧ p.getD (k + 1) 0 = c then 1 else 0)
theorem stp_le (p : List Int) (a c : Int) : ∀ k, stp p a c k ≤ k
  | 0 => Nat.le_refl _
  | k + 1 => by
    have := stp_le p a c k
    unfold stp
    split <;> omega
theorem addP_last {xs : List Cnt} (h : Sd xs) (p : List Int) (b : Bool) (a c : Int) : ∀ k, (lastL (addP xs p b k) a c).se = (lastL xs a c).se + (stp p a c k : Int) ∧ (lastL (addP xs p b k) a c).ba = (lastL xs a c).ba + (if b = true then (stp p a c k : Int) else 0)
  | 0 => by
    refine ⟨?_, ?_⟩
    · show (lastL xs a c).se = _; simp [stp]
    · show (lastL xs a c).ba = _; cases b <;> simp [stp]
  | k + 1 => by
    obtain ⟨h1, h2⟩ := addP_last h p b a c k
    have e : addP xs p b (k + 1) = cntOne (addP xs p b k) (p.getD k 0) (p.getD (k + 1) 0) b := rfl
    rw [e, last_one (addP_sd h p b k)]
    by_cases q : p.getD k 0 = a ∧ p.getD (k + 1) 0 = c
    · rw [if_pos q]
      have e2 : stp p a c (k + 1) = stp p a c k + 1 := by show stp p a c k + _ = _; rw [if_pos q]
      rw [e2]
      obtain ⟨rfl, rfl⟩ := q
      unfold bump
      simp only
      rw [h1, h2]
      cases b <;> simp <;> omega
    · rw [if_neg q]
      have e2 : stp p a c (k + 1) = stp p a c k := by show stp p a c k + _ = _; rw [if_neg q]; rfl
      rw [e2]
      exact ⟨h1, h2⟩
theorem rate_last {xs : List Cnt} (h : loopsOk xs = true) (a c : Int) : rateL xs a c = ((lastL xs a c).ba, (lastL xs a c).se) := by
  unfold rateL
  rw [h]
  cases hf : xs.find? (isL a c) with
  | some x =>
    have hi := isL_eq (List.find?_some hf)
    rw [last_of (ok_sd.1 h).1 (List.mem_of_find?_eq_some hf) hi.1 hi.2]
    rfl
  | none =>
    rcases lastL_mem xs a c with h1 | h1
    · have hk := lastL_key xs a c
      have := List.find?_eq_none.1 hf _ h1
      exact absurd (show isL a c (lastL xs a c) = true by unfold isL; simp [hk.1, hk.2]) this
    · rw [h1]; rfl
theorem rate_add {xs : List Cnt} {p : List Int} {b : Bool} (h : loopsOk xs = true) (h2 : loopsOk (addL xs p b) = true) (a c : Int) :
    (rateL (addL xs p b) a c).2 = (rateL xs a c).2 + (stp p a c (p.length - 1) : Int) ∧ (rateL (addL xs p b) a c).1 = (rateL xs a c).1 + (if b = true then (stp p a c (p.length - 1) : Int) else 0) := by
  rw [rate_last h, rate_last h2]
  exact addP_last (ok_sd.1 h).1 p b a c (p.length - 1)

/-- Every link was used. -/
def Pos (xs : List Cnt) : Prop := ∀ c ∈ xs, 1 ≤ c.se
theorem pos_ok {xs : List Cnt} (h : loopsOk xs = true) : Pos xs := fun c hc => by
  have := okC_iff.1 (ok_at h hc)
  omega
theorem pos_one {xs : List Cnt} (h : Pos xs) (f t : Int) (b : Bool) : Pos (cntOne xs f t b) := fun c hc => by
  rcases mem_cntOne.1 hc with ⟨hm, _⟩ | rfl | ⟨hm, _⟩
  · exact h c hm
  · show 1 ≤ (lastL xs f t).se + 1
    rcases lastL_mem xs f t with q | q
    · have := h _ q; omega
    · rw [q]; show (1 : Int) ≤ 0 + 1; omega
  · exact h c hm
theorem pos_addP {xs : List Cnt} (h : Pos xs) (p : List Int) (b : Bool) : ∀ k, Pos (addP xs p b k)
  | 0 => h
  | k + 1 => pos_one (pos_addP h p b k) _ _ b
theorem mem_last {xs : List Cnt} (hs : Sd xs) (hp : Pos xs) (c : Cnt) : c ∈ xs ↔ lastL xs c.fr c.to_ = c ∧ 1 ≤ c.se := by
  constructor
  · intro hc
    exact ⟨last_of hs hc rfl rfl, hp c hc⟩
  · rintro ⟨h1, h2⟩
    rcases lastL_mem xs c.fr c.to_ with q | q
    · rw [h1] at q; exact q
    · rw [h1] at q
      rw [q] at h2
      exact absurd h2 (by show ¬ (1 : Int) ≤ 0; omega)
theorem sd_ext {xs ys : List Cnt} (hx : Sd xs) (hy : Sd ys) (px : Pos xs) (py : Pos ys) (h : ∀ a c, (lastL xs a c).se = (lastL ys a c).se ∧ (lastL xs a c).ba = (lastL ys a c).ba) : xs = ys := by
  have hl : ∀ a c, lastL xs a c = lastL ys a c := fun a c => by
    have k1 := lastL_key xs a c
    have k2 := lastL_key ys a c
    exact cnt_eq (k1.1.trans k2.1.symm) (k1.2.trans k2.2.symm) (h a c).1 (h a c).2
  have hnd : ∀ {l : List Cnt}, Sd l → l.Nodup := fun hl => List.Pairwise.imp (fun {a b} hab (e : a = b) => by subst e; exact less_irr hab rfl rfl) hl
  refine List.Perm.eq_of_pairwise (le := fun a b => less a b = true) (fun a b _ _ h1 h2 => ?_) hx hy ((List.perm_ext_iff_of_nodup (hnd hx) (hnd hy)).2 fun c => ?_)
  · rw [less_iff] at h1 h2; omega
  · rw [mem_last hx px, mem_last hy py, hl]
/-- Two loops count alike in either order. -/
theorem add_comm {xs : List Cnt} (h : loopsOk xs = true) (p q : List Int) (b d : Bool) : addL (addL xs p b) q d = addL (addL xs q d) p b := by
  have h1 := (ok_sd.1 h).1
  have h2 := pos_ok h
  unfold addL
  have s1 := addP_sd h1 p b (p.length - 1)
  have s2 := addP_sd h1 q d (q.length - 1)
  refine sd_ext (addP_sd s1 q d _) (addP_sd s2 p b _) (pos_addP (pos_addP h2 p b _) q d _) (pos_addP (pos_addP h2 q d _) p b _) fun a c => ?_
  have e1 := addP_last h1 p b a c (p.length - 1)
  have e2 := addP_last h1 q d a c (q.length - 1)
  have e3 := addP_last s1 q d a c (q.length - 1)
  have e4 := addP_last s2 p b a c (p.length - 1)
  refine ⟨by rw [e3.1, e4.1, e1.1, e2.1]; omega, by rw [e3.2, e4.2, e1.2, e2.2]; omega⟩
theorem addB_iff {xs : List Cnt} {p : List Int} {b : Bool} : addB xs p b = true ↔ loopsOk xs = true ∧ lpOk p = true ∧ loopsOk (addL xs p b) = true := by
  unfold addB
  simp only [Bool.and_eq_true]
theorem addR_ok {xs : List Cnt} {p : List Int} {b : Bool} (h : addB xs p b = true) : addR xs p b = addL xs p b := by
  obtain ⟨h1, h2, h3⟩ := addB_iff.1 h
  unfold addR
  rw [h1, h2, h3]; rfl
theorem order_ok {xs : List Cnt} {p q : List Int} {b d : Bool} (h1 : addB xs p b = true) (h2 : addB (addR xs p b) q d = true) (h3 : addB xs q d = true) : addB (addR xs q d) p b = true ∧ addR (addR xs q d) p b = addR (addR xs p b) q d := by
  rw [addR_ok h1] at h2 ⊢
  rw [addR_ok h3]
  obtain ⟨a1, a2, a3⟩ := addB_iff.1 h1
  obtain ⟨b1, b2, b3⟩ := addB_iff.1 h2
  obtain ⟨c1, c2, c3⟩ := addB_iff.1 h3
  have h4 : addB (addL xs q d) p b = true := addB_iff.2 ⟨c3, a2, by rw [← add_comm a1 p q b d]; exact b3⟩
  exact ⟨h4, by rw [addR_ok h4, addR_ok h2, add_comm a1 p q b d]⟩

/-! ### who drops everything -/
/-- All loops came back but those over a mix. -/
def dropC (n : Int) (c : Cnt) : Cnt := ⟨c.fr, c.to_, c.se, bif touch n c then 0 else c.se⟩
theorem drop_touch (m n : Int) (c : Cnt) : touch m (dropC n c) = touch m c := rfl
theorem drop_susp {n : Int} {c : Cnt} (h : okC c = true) : suspC 1 1 (dropC n c) = touch n c := by
  have := okC_iff.1 h
  unfold suspC dropC
  cases touch n c <;> simp <;> omega
theorem drop_ok {xs : List Cnt} (n : Int) (h : loopsOk xs = true) : loopsOk (xs.map (dropC n)) = true := by
  obtain ⟨h1, h2⟩ := ok_sd.1 h
  refine ok_sd.2 ⟨List.pairwise_map.2 (h1.imp fun {a b} hab => hab), fun c hc => ?_⟩
  obtain ⟨x, hx, rfl⟩ := List.mem_map.1 hc
  have := okC_iff.1 (h2 x hx)
  rw [okC_iff]
  unfold dropC
  cases touch n x <;> simp <;> omega
theorem drop_cnt {xs : List Cnt} (h : loopsOk xs = true) (n m : Int) : cntN (suspL (xs.map (dropC n)) 1 1) m = xs.countP (fun c => touch m c && touch n c) ∧ cntN (xs.map (dropC n)) m = xs.countP (touch m) := by
  have h2 := (ok_sd.1 h).2
  constructor
  · unfold suspL cntN
    rw [drop_ok n h]
    show ((xs.map (dropC n)).filter (suspC 1 1)).countP (touch m) = _
    rw [List.countP_filter, List.countP_map]
    refine List.countP_congr fun c hc => ?_
    show (touch m (dropC n c) && suspC 1 1 (dropC n c)) = true ↔ _
    rw [drop_susp (h2 c hc)]
    exact Iff.rfl
  · unfold cntN
    rw [List.countP_map]
    exact List.countP_congr fun c hc => Iff.rfl
/-- Who is blamed. -/
theorem drop_blame {xs : List Cnt} (h : loopsOk xs = true) (n m : Int) : m ∈ blamedL (xs.map (dropC n)) 1 1 ↔ m ∈ names ∧ (∃ c ∈ xs, touch m c = true) ∧ ∀ c ∈ xs, touch m c = true → touch n c = true := by
  have hc := drop_cnt h n m
  unfold blamedL
  rw [drop_ok n h]
  show m ∈ names.filter (blameB (xs.map (dropC n)) 1 1) ↔ _
  rw [List.mem_filter]
  refine and_congr_right fun _ => ?_
  have e : blameB (xs.map (dropC n)) 1 1 m = (decide (0 < xs.countP (touch m)) && decide (xs.countP (fun c => touch m c && touch n c) = xs.countP (touch m))) := by
    unfold blameB
    rw [← hc.1, ← hc.2]
    unfold suspL
    rw [drop_ok n h]; rfl
  rw [e, Bool.and_eq_true, decide_eq_true_eq, decide_eq_true_eq]
  have e2 : xs.countP (fun c => touch m c && touch n c) = (xs.filter (touch m)).countP (touch n) := by
    rw [List.countP_filter]
    exact List.countP_congr fun c _ => by rw [Bool.and_comm]
  have e3 : xs.countP (touch m) = (xs.filter (touch m)).length := List.countP_eq_length_filter
  rw [e2, e3, List.countP_eq_length]
  constructor
  · rintro ⟨h1, h2⟩
    obtain ⟨c, hc⟩ := List.exists_mem_of_length_pos h1
    exact ⟨⟨c, (List.mem_filter.1 hc).1, (List.mem_filter.1 hc).2⟩, fun c hc ht => h2 c (List.mem_filter.2 ⟨hc, ht⟩)⟩
  · rintro ⟨⟨c, hc, ht⟩, h2⟩
    exact ⟨List.length_pos_of_mem (List.mem_filter.2 ⟨hc, ht⟩), fun c hc => h2 c (List.mem_filter.1 hc).1 (List.mem_filter.1 hc).2⟩

end Lc
end Go.Proofs.Ytbhafchdcofceaa
