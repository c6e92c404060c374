/-
  Plain arithmetic of mixes: valid ones, taking a packet, the order of passing on. Nothing of any program.
-/
import Derived.Test.YtnjcpbkpcmemeacPo2
import Derived.Test.YtnjcpbkpcmemeacSl
namespace Go.Proofs.Ytnjcpbkpcmemeac
namespace Mm6
open Gm Mm Tm Lm Pm Po Sl

def has (xs : List Int) (x : Int) : Bool := xs.contains x
theorem has_iff {xs : List Int} {x : Int} : has xs x = true ↔ x ∈ xs := List.contains_iff_mem
def knd01 (k : Int) : Bool := decide (0 ≤ k ∧ k ≤ 1)
def pldOk (p : Pld) : Bool := knd01 p.kind && (inName p.next && pktOk p.pk)
theorem pldOk_iff {p : Pld} : pldOk p = true ↔ (0 ≤ p.kind ∧ p.kind ≤ 1) ∧ inName p.next = true ∧ pktOk p.pk = true := by simp [pldOk, knd01]
def poolOk (ps : List Pld) : Bool := ps.all pldOk
/-- The first k keys are right, and each is new. -/
def seenTo (xs : List Int) (k : Nat) : Prop := ∀ i, i < k → inG (xs.getD i 0) = true ∧ has (xs.take i) (xs.getD i 0) = false
def seenAt (xs : List Int) (i : Nat) : Bool := inG (xs.getD i 0) && !(has (xs.take i) (xs.getD i 0))
def seenB (xs : List Int) : Bool := (List.range xs.length).all (seenAt xs)
theorem seenB_iff {xs : List Int} : seenB xs = true ↔ ∀ i, i < xs.length → seenAt xs i = true := by simp [seenB, List.all_eq_true]
theorem seenB_no {xs : List Int} {i : Nat} (hi : i < xs.length) (h : seenAt xs i = false) : seenB xs = false := by
  cases hb : seenB xs
  · rfl
  · rw [seenB_iff.1 hb i hi] at h; cases h
def mixOk (m : Mx) : Bool := inG m.sec && (seenB m.seen && (decide (m.seen.length ≤ 12) && (poolOk m.pool && decide (m.pool.length ≤ 5))))
theorem mixOk_iff {m : Mx} : mixOk m = true ↔ inG m.sec = true ∧ seenB m.seen = true ∧ m.seen.length ≤ 12 ∧ poolOk m.pool = true ∧ m.pool.length ≤ 5 := by simp [mixOk]

/-- What comes of a packet: a code, and the mix behind it. -/
def takeC (m : Mx) (p : Pkt) : Int :=
  bif peelOk m.sec p then (bif has m.seen (mulG m.sec p.el) then 1 else (bif decide (12 ≤ m.seen.length ∨ 5 ≤ m.pool.length) then 3 else 0)) else 2
def takeM (m : Mx) (p : Pkt) : Mx :=
  bif decide (takeC m p = 0) then ⟨m.sec, m.seen ++ [mulG m.sec p.el], m.pool ++ [peelF m.sec p]⟩ else m
def mtakeC (m : Mx) (p : Pkt) : Int := bif mixOk m && pktOk p then takeC m p else 4
def mtakeM (m : Mx) (p : Pkt) : Mx := bif mixOk m && pktOk p then takeM m p else Mx.zero
theorem takeC_wrong {m : Mx} {p : Pkt} (h : peelOk m.sec p = false) : takeC m p = 2 := by simp [takeC, h]
theorem takeC_replay {m : Mx} {p : Pkt} (h : peelOk m.sec p = true) (h2 : has m.seen (mulG m.sec p.el) = true) : takeC m p = 1 := by rw [takeC, h, h2]; rfl
theorem takeC_full {m : Mx} {p : Pkt} (h : peelOk m.sec p = true) (h2 : has m.seen (mulG m.sec p.el) = false) (h3 : 12 ≤ m.seen.length ∨ 5 ≤ m.pool.length) : takeC m p = 3 := by rw [takeC, h, h2, decide_eq_true h3]; rfl
theorem takeC_done {m : Mx} {p : Pkt} (h : peelOk m.sec p = true) (h2 : has m.seen (mulG m.sec p.el) = false) (h3 : ¬ (12 ≤ m.seen.length ∨ 5 ≤ m.pool.length)) : takeC m p = 0 := by rw [takeC, h, h2, decide_eq_false h3]; rfl
theorem takeM_no {m : Mx} {p : Pkt} (h : takeC m p ≠ 0) : takeM m p = m := by rw [takeM, decide_eq_false h]; rfl
theorem takeM_yes {m : Mx} {p : Pkt} (h : takeC m p = 0) : takeM m p = ⟨m.sec, m.seen ++ [mulG m.sec p.el], m.pool ++ [peelF m.sec p]⟩ := by rw [takeM, decide_eq_true h]; rfl
theorem takeC_zero {m : Mx} {p : Pkt} (h : takeC m p = 0) : peelOk m.sec p = true ∧ has m.seen (mulG m.sec p.el) = false ∧ m.seen.length < 12 ∧ m.pool.length < 5 := by
  cases h1 : peelOk m.sec p
  · rw [takeC_wrong h1] at h; omega
  · cases h2 : has m.seen (mulG m.sec p.el)
    · by_cases h3 : 12 ≤ m.seen.length ∨ 5 ≤ m.pool.length
      · rw [takeC_full h1 h2 h3] at h; omega
      · exact ⟨rfl, rfl, by omega, by omega⟩
    · rw [takeC_replay h1 h2] at h; omega
theorem takeC_bd (m : Mx) (p : Pkt) : 0 ≤ takeC m p ∧ takeC m p ≤ 3 := by
  cases h1 : peelOk m.sec p
  · rw [takeC_wrong h1]; omega
  · cases h2 : has m.seen (mulG m.sec p.el)
    · by_cases h3 : 12 ≤ m.seen.length ∨ 5 ≤ m.pool.length
      · rw [takeC_full h1 h2 h3]; omega
      · rw [takeC_done h1 h2 h3]; omega
    · rw [takeC_replay h1 h2]; omega
theorem mtake_no {m : Mx} {p : Pkt} (h : mixOk m = false ∨ pktOk p = false) : mtakeC m p = 4 ∧ mtakeM m p = Mx.zero := by
  have : (mixOk m && pktOk p) = false := by rcases h with h | h <;> simp [h]
  rw [mtakeC, mtakeM, this]; exact ⟨rfl, rfl⟩
theorem mtake_yes {m : Mx} {p : Pkt} (h : mixOk m = true) (h2 : pktOk p = true) : mtakeC m p = takeC m p ∧ mtakeM m p = takeM m p := by
  rw [mtakeC, mtakeM, h, h2]; exact ⟨rfl, rfl⟩

theorem peel_ok {x : Int} {p : Pkt} (h : peelOk x p = true) : pldOk (peelF x p) = true := by
  obtain ⟨hv, _, _⟩ := peel_valid h
  obtain ⟨o1, o2, o3, o4, o5⟩ := peelOk_iff.1 h
  rw [← peelF_yes h] at o4 o5
  exact pldOk_iff.2 ⟨o4, o5, hv⟩
theorem seen_snoc {xs : List Int} {k : Int} (h : seenB xs = true) (hk : inG k = true) (hn : has xs k = false) : seenB (xs ++ [k]) = true := by
  refine seenB_iff.2 fun i hi => ?_
  rw [List.length_append, List.length_singleton] at hi
  unfold seenAt
  by_cases e : i < xs.length
  · rw [getD_left e, List.take_append_of_le_length (by omega)]
    exact seenB_iff.1 h i e
  · have e' : i = xs.length := by omega
    subst e'
    rw [getD_right (Nat.le_refl _), Nat.sub_self, List.take_append_of_le_length (Nat.le_refl _), List.take_of_length_le (Nat.le_refl _)]
    show (inG k && !has xs k) = true
    rw [hk, hn]; rfl
/-- A taken packet leaves a mix right. -/
theorem take_ok {m : Mx} {p : Pkt} (h : mixOk m = true) (hp : pktOk p = true) : mixOk (takeM m p) = true := by
  by_cases hz : takeC m p = 0
  · obtain ⟨q1, q2, q3, q4⟩ := takeC_zero hz
    obtain ⟨m1, m2, m3, m4, m5⟩ := mixOk_iff.1 h
    rw [takeM_yes hz]
    refine mixOk_iff.2 ⟨m1, seen_snoc m2 (mulG_pos m1 (pktOk_iff.1 hp).1) q2, by simp; omega, ?_, by simp; omega⟩
    unfold poolOk at *
    rw [List.all_append, m4]
    simp [peel_ok q1]
  · rw [takeM_no hz]; exact h

/-- The order of passing on. -/
def less (a b : Pld) : Bool :=
  bif a.kind != b.kind then decide (a.kind < b.kind) else bif a.next != b.next then decide (a.next < b.next) else bif a.pk.el != b.pk.el then decide (a.pk.el < b.pk.el) else decide (a.pk.tag < b.pk.tag)
def Lt (a b : Pld) : Prop := a.kind < b.kind ∨ (a.kind = b.kind ∧ (a.next < b.next ∨ (a.next = b.next ∧ (a.pk.el < b.pk.el ∨ (a.pk.el = b.pk.el ∧ a.pk.tag < b.pk.tag)))))
theorem less_iff {a b : Pld} : less a b = true ↔ Lt a b := by
  unfold less Lt
  by_cases h1 : a.kind = b.kind
  · by_cases h2 : a.next = b.next
    · by_cases h3 : a.pk.el = b.pk.el
      · simp [h1, h2, h3]
      · simp [h1, h2, h3]
    · simp [h1, h2]
  · simp [h1]
theorem lt_irr (a : Pld) : ¬ Lt a a := by unfold Lt; omega
theorem lt_trans {a b c : Pld} (h : Lt a b) (h2 : Lt b c) : Lt a c := by unfold Lt at *; omega
theorem lt_asym {a b : Pld} (h : Lt a b) : ¬ Lt b a := fun h2 => lt_irr a (lt_trans h h2)
/-- Not less is an order, too. -/
theorem nlt_trans {a b c : Pld} (h : ¬ Lt b a) (h2 : ¬ Lt c b) : ¬ Lt c a := by unfold Lt at *; omega

/-- How many places of out stand ahead of x. -/
def cutAt (x : Pld) (out : List Pld) : Nat := (out.takeWhile fun y => !less x y).length
def insP (x : Pld) (out : List Pld) : List Pld := out.take (cutAt x out) ++ x :: out.drop (cutAt x out)
def sortP (l : List Pld) : List Pld := l.foldl (fun out x => insP x out) []
theorem cutAt_le (x : Pld) (out : List Pld) : cutAt x out ≤ out.length := (List.takeWhile_sublist _).length_le
theorem insP_len (x : Pld) (out : List Pld) : (insP x out).length = out.length + 1 := by
  have := cutAt_le x out
  unfold insP
  simp; omega
theorem sortP_len (l : List Pld) : (sortP l).length = l.length := by
  suffices ∀ (l out : List Pld), (l.foldl (fun out x => insP x out) out).length = out.length + l.length by simpa [sortP] using this l []
  intro l
  induction l with
  | nil => intro out; rfl
  | cons x l ih => intro out; rw [List.foldl_cons, ih, insP_len, List.length_cons]; omega
def flushM (m : Mx) (all : Bool) : Mx := bif mixOk m then (bif decide (m.pool.length < 2) && !all then m else ⟨m.sec, m.seen, []⟩) else Mx.zero
def flushL (m : Mx) (all : Bool) : List Pld := bif mixOk m && !(decide (m.pool.length < 2) && !all) then sortP m.pool else []
def epochB (m : Mx) (s : Int) : Bool := mixOk m && (inG s && decide (s ≠ m.sec))
def epochM (m : Mx) (s : Int) : Mx := bif mixOk m && inG s then (bif decide (s = m.sec) then m else ⟨s, [], m.pool⟩) else Mx.zero

end Mm6
end Go.Proofs.Ytnjcpbkpcmemeac
