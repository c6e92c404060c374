/-
  Lists of counts in order, and what maps hold of them: plain lists. Nothing of any program.
-/
import Derived.Test.YtbhafchdcofceaaLr
namespace Go.Proofs.Ytbhafchdcofceaa
namespace Lc
open Nm

/-- In strict order. -/
def Sd (xs : List Cnt) : Prop := xs.Pairwise (fun a b => less a b = true)
theorem less_trans {a b c : Cnt} (h1 : less a b = true) (h2 : less b c = true) : less a c = true := by
  rw [less_iff] at *; omega
theorem less_irr {a b : Cnt} (h1 : less a b = true) (hf : a.fr = b.fr) (ht : a.to_ = b.to_) : False := by
  rw [less_iff] at h1; omega
theorem less_tri (c : Cnt) (f t : Int) : less c (key f t) = true ∨ (c.fr = f ∧ c.to_ = t) ∨ less (key f t) c = true := by
  simp only [less_iff, key]; omega
theorem Sd.uniq {xs : List Cnt} (h : Sd xs) {a b : Cnt} (ha : a ∈ xs) (hb : b ∈ xs) (hf : a.fr = b.fr) (ht : a.to_ = b.to_) : a = b := by
  induction xs with
  | nil => simp at ha
  | cons x xs ih =>
    obtain ⟨h1, h2⟩ := List.pairwise_cons.1 h
    rcases List.mem_cons.1 ha with rfl | ha'
    · rcases List.mem_cons.1 hb with rfl | hb'
      · rfl
      · exact (less_irr (h1 b hb') hf ht).elim
    · rcases List.mem_cons.1 hb with rfl | hb'
      · exact (less_irr (h1 a ha') hf.symm ht.symm).elim
      · exact ih h2 ha' hb'
theorem cntAt_eq {xs : List Cnt} {i : Nat} (hi : i < xs.length) : cntAt xs i = xs[i] := by
  have := cntAt_get hi
  rw [List.getElem?_eq_getElem hi] at this
  exact (Option.some.inj this).symm
theorem ok_sd {xs : List Cnt} : loopsOk xs = true ↔ Sd xs ∧ ∀ c ∈ xs, okC c = true := by
  constructor
  · intro h
    refine ⟨?_, fun c hc => ok_at h hc⟩
    have step : ∀ i, i + 1 < xs.length → less (cntAt xs i) (cntAt xs (i + 1)) = true := fun i hi => ok_less h hi
    have all : ∀ j i, i < j → j < xs.length → less (cntAt xs i) (cntAt xs j) = true := by
      intro j
      induction j with
      | zero => intro i hi; omega
      | succ j ih =>
        intro i hi hj
        rcases Nat.lt_or_ge i j with q | q
        · exact less_trans (ih i q (by omega)) (step j hj)
        · obtain rfl : i = j := by omega
          exact step i hj
    refine List.pairwise_iff_getElem.2 fun i j hi hj hij => ?_
    have := all j i hij hj
    rwa [cntAt_eq hi, cntAt_eq hj] at this
  · rintro ⟨h1, h2⟩
    refine loopsOk_iff.2 fun i hi => ?_
    unfold stepOk
    rw [Bool.and_eq_true, Bool.or_eq_true]
    refine ⟨h2 _ (cntAt_mem hi), ?_⟩
    rcases Nat.eq_zero_or_pos i with rfl | h0
    · exact .inl rfl
    · right
      rw [cntAt_eq hi, cntAt_eq (show i - 1 < xs.length by omega)]
      exact List.pairwise_iff_getElem.1 h1 (i - 1) i (by omega) hi (by omega)
theorem mem_cntOne {xs : List Cnt} {f t : Int} {b : Bool} {c : Cnt} : c ∈ cntOne xs f t b ↔ (c ∈ xs ∧ less c (key f t) = true) ∨ c = bump (lastL xs f t) b ∨ (c ∈ xs ∧ less (key f t) c = true) := by
  unfold cntOne
  simp only [List.mem_append, List.mem_filter, List.mem_singleton]
  exact or_assoc
theorem bump_key (xs : List Cnt) (f t : Int) (b : Bool) : (bump (lastL xs f t) b).fr = f ∧ (bump (lastL xs f t) b).to_ = t := lastL_key xs f t
theorem less_to {c d : Cnt} {f t : Int} (hd : d.fr = f ∧ d.to_ = t) : less c d = less c (key f t) ∧ less d c = less (key f t) c := by
  obtain ⟨rfl, rfl⟩ := hd
  exact ⟨rfl, rfl⟩
theorem sd_one {xs : List Cnt} (h : Sd xs) (f t : Int) (b : Bool) : Sd (cntOne xs f t b) := by
  have hk := bump_key xs f t b
  unfold Sd cntOne
  refine List.pairwise_append.2 ⟨List.pairwise_append.2 ⟨List.Pairwise.filter _ h, List.pairwise_singleton _ _, fun a ha c hc => ?_⟩, List.Pairwise.filter _ h, fun a ha c hc => ?_⟩
  · rw [List.mem_singleton] at hc
    subst hc
    rw [(less_to hk).1]
    exact (List.mem_filter.1 ha).2
  · have h2 := (List.mem_filter.1 hc).2
    rcases List.mem_append.1 ha with ha | ha
    · exact less_trans (List.mem_filter.1 ha).2 h2
    · rw [List.mem_singleton] at ha
      subst ha
      rw [(less_to hk).2]
      exact h2
theorem last_of {xs : List Cnt} (h : Sd xs) {c : Cnt} (hc : c ∈ xs) {f t : Int} (hf : c.fr = f) (ht : c.to_ = t) : lastL xs f t = c := by
  have hm : lastL xs f t ∈ xs := by
    rcases lastL_mem xs f t with h1 | h1
    · exact h1
    · -- the fold meets c
      suffices hs : ∀ (ys : List Cnt) (x : Cnt), c ∈ ys → (ys.foldl (fun x c => bif isL f t c then c else x) x) ∈ ys from hs xs _ hc
      intro ys
      induction ys with
      | nil => intro x hx; simp at hx
      | cons y ys ih =>
        intro x hx
        rw [List.foldl_cons]
        rcases List.mem_cons.1 hx with rfl | hx'
        · have : isL f t c = true := by unfold isL; simp [hf, ht]
          rw [this]
          have hgen : ∀ (ys : List Cnt) (x : Cnt), (ys.foldl (fun x c => bif isL f t c then c else x) x) ∈ ys ∨ (ys.foldl (fun x c => bif isL f t c then c else x) x) = x := by
            intro ys
            induction ys with
            | nil => intro x; exact .inr rfl
            | cons z zs ih2 =>
              intro x
              rw [List.foldl_cons]
              rcases ih2 (bif isL f t z then z else x) with q | q
              · exact .inl (List.mem_cons_of_mem _ q)
              · rw [q]
                cases isL f t z
                · exact .inr rfl
                · exact .inl List.mem_cons_self
          rcases hgen ys c with q | q
          · exact List.mem_cons_of_mem _ q
          · simp only [cond_true]; rw [q]; exact List.mem_cons_self
        · exact List.mem_cons_of_mem _ (ih _ hx')
  have hk := lastL_key xs f t
  exact h.uniq hm hc (hk.1.trans hf.symm) (hk.2.trans ht.symm)

/-- What a map holds that holds the counts ys. -/
def GL (G : Int × Int → Option (Int × Int)) (ys : List Cnt) : Prop := ∀ q v, G q = some v ↔ ∃ c ∈ ys, c.fr = q.1 ∧ c.to_ = q.2 ∧ v = (c.se, c.ba)
theorem GL.look {G : Int × Int → Option (Int × Int)} {ys : List Cnt} (h : GL G ys) (hs : Sd ys) (f t : Int) : (match G (f, t) with | some v => v | none => (0, 0)) = ((lastL ys f t).se, (lastL ys f t).ba) := by
  cases hg : G (f, t) with
  | some v =>
    obtain ⟨c, hc, h1, h2, h3⟩ := (h (f, t) v).1 hg
    rw [last_of hs hc h1 h2]
    exact h3
  | none =>
    rcases lastL_mem ys f t with h1 | h1
    · have hk := lastL_key ys f t
      have := (h (f, t) _).2 ⟨_, h1, hk.1, hk.2, rfl⟩
      rw [hg] at this; cases this
    · rw [h1]; rfl
theorem GL.step {G : Int × Int → Option (Int × Int)} {ys : List Cnt} (h : GL G ys) (f t : Int) (b : Bool) :
    GL (fun q => if q = (f, t) then some ((lastL ys f t).se + 1, (lastL ys f t).ba + (bif b then 1 else 0)) else G q) (cntOne ys f t b) := by
  intro q v
  have hk := bump_key ys f t b
  show (if q = (f, t) then _ else _) = some v ↔ _
  by_cases e : q = (f, t)
  · subst e
    rw [if_pos rfl]
    constructor
    · intro hv
      exact ⟨_, mem_cntOne.2 (.inr (.inl rfl)), hk.1, hk.2, (Option.some.inj hv).symm⟩
    · rintro ⟨c, hc, h1, h2, rfl⟩
      rcases mem_cntOne.1 hc with ⟨_, hl⟩ | rfl | ⟨_, hl⟩
      · exact (less_irr hl h1 h2).elim
      · rfl
      · exact (less_irr hl h1.symm h2.symm).elim
  · rw [if_neg e, h q v]
    constructor
    · rintro ⟨c, hc, h1, h2, h3⟩
      refine ⟨c, mem_cntOne.2 ?_, h1, h2, h3⟩
      rcases less_tri c f t with q1 | ⟨q1, q2⟩ | q1
      · exact .inl ⟨hc, q1⟩
      · exact absurd (Prod.ext (h1.symm.trans q1) (h2.symm.trans q2)) e
      · exact .inr (.inr ⟨hc, q1⟩)
    · rintro ⟨c, hc, h1, h2, h3⟩
      rcases mem_cntOne.1 hc with ⟨hm, _⟩ | rfl | ⟨hm, _⟩
      · exact ⟨c, hm, h1, h2, h3⟩
      · exact absurd (Prod.ext (h1.symm.trans hk.1) (h2.symm.trans hk.2)) e
      · exact ⟨c, hm, h1, h2, h3⟩
/-- The counts of the sorted keys of a map are the counts that it holds. -/
def cntOf (G : Int × Int → Option (Int × Int)) (p : Int × Int) : Cnt := match G p with | some v => ⟨p.1, p.2, v.1, v.2⟩ | none => ⟨p.1, p.2, 0, 0⟩
def lt2 (p q : Int × Int) : Bool := decide (p.1 < q.1) || (decide (p.1 = q.1) && decide (p.2 < q.2))
theorem lt2_iff {p q : Int × Int} : lt2 p q = true ↔ p.1 < q.1 ∨ (p.1 = q.1 ∧ p.2 < q.2) := by
  unfold lt2
  simp
theorem GL.list {G : Int × Int → Option (Int × Int)} {ys : List Cnt} (h : GL G ys) (hs : Sd ys) {ss : List (Int × Int)} (hm : ∀ a, a ∈ ss ↔ ∃ v, G a = some v) (hp : ss.Pairwise (fun a b => lt2 a b = true)) : ss.map (cntOf G) = ys := by
  have hnd : ∀ {l : List (Int × Int)}, l.Pairwise (fun a b => lt2 a b = true) → l.Nodup := fun hl => hl.imp fun {a b} hab e => by
    subst e; rw [lt2_iff] at hab; omega
  have hys : (ys.map fun c => (c.fr, c.to_)).Pairwise (fun a b => lt2 a b = true) := List.pairwise_map.2 (hs.imp fun {a b} hab => by
    rw [less_iff] at hab; exact lt2_iff.2 hab)
  have hmem : ∀ a, a ∈ ss ↔ a ∈ ys.map fun c => (c.fr, c.to_) := fun a => by
    rw [hm a, List.mem_map]
    constructor
    · rintro ⟨v, hv⟩
      obtain ⟨c, hc, h1, h2, _⟩ := (h a v).1 hv
      exact ⟨c, hc, Prod.ext h1 h2⟩
    · rintro ⟨c, hc, rfl⟩
      exact ⟨_, (h _ _).2 ⟨c, hc, rfl, rfl, rfl⟩⟩
  have e : ss = ys.map fun c => (c.fr, c.to_) := List.Perm.eq_of_pairwise (le := fun a b => lt2 a b = true) (fun a b _ _ h1 h2 => by rw [lt2_iff] at h1 h2; omega) hp hys ((List.perm_ext_iff_of_nodup (hnd hp) (hnd hys)).2 hmem)
  rw [e, List.map_map]
  conv => rhs; rw [← List.map_id ys]
  refine List.map_congr_left fun c hc => ?_
  have hg : G (c.fr, c.to_) = some (c.se, c.ba) := (h _ _).2 ⟨c, hc, rfl, rfl, rfl⟩
  show cntOf G (c.fr, c.to_) = c
  unfold cntOf
  rw [hg]

/-! ### numbers that become too large -/
theorem big_one {ys : List Cnt} (hs : Sd ys) (h : ∃ c ∈ ys, 99 < c.se) (f t : Int) (b : Bool) : ∃ c ∈ cntOne ys f t b, 99 < c.se := by
  obtain ⟨c, hc, hb⟩ := h
  rcases less_tri c f t with q1 | ⟨q1, q2⟩ | q1
  · exact ⟨c, mem_cntOne.2 (.inl ⟨hc, q1⟩), hb⟩
  · refine ⟨_, mem_cntOne.2 (.inr (.inl rfl)), ?_⟩
    rw [last_of hs hc q1 q2]
    show 99 < c.se + 1
    omega
  · exact ⟨c, mem_cntOne.2 (.inr (.inr ⟨hc, q1⟩)), hb⟩
theorem ok_one {ys : List Cnt} (h : ∀ c ∈ ys, okC c = true) {f t : Int} (hf : 0 ≤ f ∧ f ≤ 7) (ht : 0 ≤ t ∧ t ≤ 7) (hne : f ≠ t) (b : Bool) (hl : (lastL ys f t).se < 99) : ∀ c ∈ cntOne ys f t b, okC c = true := fun c hc => by
  rcases mem_cntOne.1 hc with ⟨hm, _⟩ | rfl | ⟨hm, _⟩
  · exact h c hm
  · have hk := lastL_key ys f t
    rw [okC_iff]
    rcases lastL_mem ys f t with h1 | h1
    · have := okC_iff.1 (h _ h1)
      unfold bump
      cases b <;> simp <;> omega
    · unfold bump
      rw [h1]
      unfold key
      cases b <;> simp <;> omega
  · exact h c hm
theorem addP_sd {xs : List Cnt} (h : Sd xs) (p : List Int) (b : Bool) : ∀ k, Sd (addP xs p b k)
  | 0 => h
  | k + 1 => sd_one (addP_sd h p b k) _ _ b
theorem big_addP {xs : List Cnt} (hs : Sd xs) (p : List Int) (b : Bool) {k j : Nat} (hkj : k ≤ j) (h : ∃ c ∈ addP xs p b k, 99 < c.se) : ∃ c ∈ addP xs p b j, 99 < c.se := by
  induction j with
  | zero => obtain rfl : k = 0 := by omega
            exact h
  | succ j ih =>
    rcases Nat.lt_or_ge j k with q | q
    · obtain rfl : k = j + 1 := by omega
      exact h
    · exact big_one (addP_sd hs p b j) (ih q) _ _ b
theorem addB_big {xs : List Cnt} (hx : loopsOk xs = true) {p : List Int} {b : Bool} {k : Nat} (hk : k + 1 < p.length) (h : (lastL (addP xs p b k) (p.getD k 0) (p.getD (k + 1) 0)).se = 99) : loopsOk (addL xs p b) = false := by
  have hs := (ok_sd.1 hx).1
  obtain ⟨c, hc, hb⟩ := big_addP hs p b (k := k + 1) (j := p.length - 1) (by omega) ⟨_, mem_cntOne.2 (.inr (.inl rfl)), by show 99 < _ + 1; rw [h]; omega⟩
  cases hl : loopsOk (addL xs p b)
  · rfl
  · have := okC_iff.1 (ok_at hl hc)
    omega
/-- The first k steps of a path fit. -/
theorem addP_ok {xs : List Cnt} {p : List Int} (hp : lpOk p = true) {b : Bool} {k : Nat} (hk : k + 1 < p.length) (h : loopsOk (addP xs p b k) = true) (hl : (lastL (addP xs p b k) (p.getD k 0) (p.getD (k + 1) 0)).se ≠ 99) : loopsOk (addP xs p b (k + 1)) = true := by
  obtain ⟨h1, h2⟩ := ok_sd.1 h
  obtain ⟨ha, hn, _⟩ := lpOk_iff.1 hp
  have hna : ∀ i, i < p.length → 0 ≤ p.getD i 0 ∧ p.getD i 0 ≤ 7 := fun i hi => by
    have := List.all_eq_true.1 hn _ (getD_mem hi)
    exact inName_iff.1 this
  refine ok_sd.2 ⟨sd_one h1 _ _ b, ok_one h2 (hna k (by omega)) (hna (k + 1) hk) (adj_iff.1 ha k hk) b ?_⟩
  have hsm : (lastL (addP xs p b k) (p.getD k 0) (p.getD (k + 1) 0)).se ≤ 99 := by
    rcases lastL_mem (addP xs p b k) (p.getD k 0) (p.getD (k + 1) 0) with q | q
    · have := okC_iff.1 (h2 _ q); omega
    · rw [q]; show (0 : Int) ≤ 99; omega
  omega
theorem last_small {ys : List Cnt} (h : loopsOk ys = true) (f t : Int) : 0 ≤ (lastL ys f t).se ∧ (lastL ys f t).se ≤ 99 ∧ 0 ≤ (lastL ys f t).ba ∧ (lastL ys f t).ba ≤ 99 := by
  rcases lastL_mem ys f t with q | q
  · have := okC_iff.1 (ok_at h q); omega
  · rw [q]; simp [key]

end Lc
end Go.Proofs.Ytbhafchdcofceaa
