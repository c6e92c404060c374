/-
  Ranging over a map in memory, by what it holds. Nothing of any program.
-/
import Derived.Test.YtbhafchdcofceaaMp
import Derived.Sort.MapsRangeIn
import Derived.RangeFuncKeeps
namespace Go.Proofs.Ytbhafchdcofceaa
open Go.RowKit
open Go.MapKept Go.ChangeMaps
namespace Mp
open Go.Maps (Keyed)

section
variable {κ ν : Type} {P : Program} {k : TypeId} {mk : κ → Value} {mv : ν → Value} {w w' : World} {b r n : Nat} {G : κ → Option ν} {ss : List κ} {left : Nat}

/-- A loop over the map in block b is under way, its iterator in block r: the keys ss have come, left are still to come. -/
def RngG (P : Program) (k : TypeId) (mk : κ → Value) (mv : ν → Value) (w : World) (b r n : Nat) (G : κ → Option ν) (ss : List κ) (left : Nat) : Prop :=
  ∃ es clock since seen c0, w.heap[b]? = some (.map es clock) ∧ w.heap[r]? = some (.mapIter (some b) since seen c0) ∧ es.size ≤ n ∧ Stamped es clock ∧
    (∀ x ∈ es.toList, ∃ a v, x.key = mk a ∧ x.val = mv v ∧ G a = some v ∧ ∃ l, keyOf P k (mk a) = some l) ∧ (∀ a v, G a = some v → ∃ x ∈ es.toList, x.key = mk a) ∧
    (∀ x ∈ es.toList, x.born < since) ∧ since ≤ c0 ∧ since ≤ clock ∧ (leftOf es seen).size = left ∧ ss.length + left ≤ n ∧ ss.Nodup ∧ ∀ a, a ∈ ss ↔ ∃ x ∈ es.toList, x.key = mk a ∧ seen.contains x.born = true

theorem RngG.left_eq (h : RngG P k mk mv w b r n G ss left) : w.rangeLeft b r = left := by
  obtain ⟨es, clock, since, seen, c0, hb, hr, _, _, _, _, _, _, _, hc, _⟩ := h
  simp only [World.rangeLeft, hb, hr]
  exact hc
theorem RngG.len (h : RngG P k mk mv w b r n G ss left) : ss.length + left ≤ n := by
  obtain ⟨es, clock, since, seen, c0, _, _, _, _, _, _, _, _, _, _, hc, _⟩ := h
  exact hc
theorem RngG.same (h : RngG P k mk mv w b r n G ss left) (hb : w'.heap[b]? = w.heap[b]?) (hr : w'.heap[r]? = w.heap[r]?) : RngG P k mk mv w' b r n G ss left := by
  obtain ⟨es, clock, since, seen, c0, h1, h2, rest⟩ := h
  exact ⟨es, clock, since, seen, c0, hb.trans h1, hr.trans h2, rest⟩
theorem RngG.walks (h : RngG P k mk mv w b r n G ss left) (hk : KeepsWalks w w') : RngG P k mk mv w' b r n G ss left := by
  obtain ⟨es, clock, since, seen, c0, h1, h2, rest⟩ := h
  exact ⟨es, clock, since, seen, c0, hk.same _ _ h1 rfl, hk.same _ _ h2 rfl, rest⟩
theorem RngG.alloc (h : RngG P k mk mv w b r n G ss left) (o : Obj) : RngG P k mk mv (w.alloc o) b r n G ss left := h.walks (KeepsWalks.alloc _ _)
theorem RngG.iter (h : RngG P k mk mv w b r n G ss left) : ∃ o : Obj, w.heap[r]? = some o ∧ o.isWalk = true := by
  obtain ⟨es, clock, since, seen, c0, h1, h2, rest⟩ := h
  exact ⟨_, h2, rfl⟩

/-- range m -/
theorem MapG.range (h : MapG P k mk mv w b n G) {t e : TypeId} (ht : P.underlying t = some (.map k e)) :
    ∃ w' left, (Instr.range t (.map (some b))).run P w = .ok (.pointer (some ⟨w.heap.size, 0, none⟩)) w' ∧ RngG P k mk mv w' b w.heap.size n G [] left ∧ w.grownBy w' none ∧ w'.heap.size = w.heap.size + 1 := by
  have hlt := h.lt
  obtain ⟨es, clock, hb, hs, hst, h3, h4⟩ := h
  refine ⟨_, _, run_range_map w t k e b es clock ht hb, ⟨es, clock, clock, #[], clock, ((MapKept.heap_alloc w _).2 b hlt).trans hb, (MapKept.heap_alloc w _).1, hs, hst, h3, h4, hst.1, Nat.le_refl _, Nat.le_refl _, rfl, ?_, List.nodup_nil, fun a => ?_⟩, World.grownBy_alloc w _ none, by simp⟩
  · have : (leftOf es #[]).size ≤ es.size := Array.size_filter_le
    simp only [List.length_nil]; omega
  · simp

/-- The step. -/
theorem RngG.next (h : RngG P k mk mv w b r n G ss left) (hi : ∀ a c, mk a = mk c → a = c) (ty : TypeId) :
    (left = 0 ∧ (∀ a, a ∈ ss ↔ ∃ v, G a = some v) ∧ (Instr.next (.pointer (some ⟨r, 0, none⟩)) false ty).run P w = .ok (.tuple #[.bool false]) w) ∨
    ∃ a v w' left', G a = some v ∧ a ∉ ss ∧ (Instr.next (.pointer (some ⟨r, 0, none⟩)) false ty).run P w = .ok (.tuple #[.bool true, mk a, mv v]) w' ∧ RngG P k mk mv w' b r n G (ss ++ [a]) left' ∧ left' < left ∧ w.grownBy w' (some r) ∧ w'.heap.size = w.heap.size ∧
      (Instr.entry (.pointer (some ⟨r, 0, none⟩))).run P w' = .ok (.tuple #[mk a, mv v]) w' := by
  obtain ⟨es, clock, since, seen, c0, hb, hr, hs, hst, h3, h4, hold, hsc, hsk, rfl, hln, hnd, hss⟩ := h
  have hst' := (stamped_iff es clock).1 hst
  have hne : r ≠ b := fun e => by rw [e, hb] at hr; cases hr
  rcases run_next_at (P := P) w ty r b since c0 seen es clock hr hb hold hsc with ⟨h0, hrun⟩ | ⟨e, he, w1, hal, hrun⟩
  · refine .inl ⟨h0, fun a => ?_, hrun⟩
    rw [hss]
    constructor
    · rintro ⟨x, hx, hk, _⟩
      obtain ⟨a', v, e1, _, e3, _⟩ := h3 x hx
      rw [hi _ _ (hk.symm.trans e1)]
      exact ⟨v, e3⟩
    · rintro ⟨v, hv⟩
      obtain ⟨x, hx, hk⟩ := h4 a v hv
      exact ⟨x, hx, hk, all_seen es seen h0 x hx⟩
  · obtain ⟨hem, hes⟩ := mem_left he
    obtain ⟨a, v, ek, ev, eG, l, hl⟩ := h3 e hem
    have hr1 : w1.heap[r]? = some (.mapIter (some b) since seen c0) := by rcases hal with rfl | rfl <;> exact hr
    have hb1 : w1.heap[b]? = some (.map es clock) := by rcases hal with rfl | rfl <;> exact hb
    have hset := heap_set (o' := .mapIter (some b) since (seen.push e.born) clock) hr1
    have hb' : (setBlock w1 r (.mapIter (some b) since (seen.push e.born) clock)).heap[b]? = some (.map es clock) := (hset.2 b (fun e1 => hne e1.symm)).trans hb1
    have hnew : a ∉ ss := fun hm => by
      obtain ⟨x, hx, hk, hsn⟩ := (hss a).1 hm
      obtain rfl := entry_eq_of_key hst'.2.2 hx hem (hk.trans ek.symm)
      rw [hes] at hsn; cases hsn
    have hlt := left_shrinks es seen e he
    refine .inr ⟨a, v, _, _, eG, hnew, by rw [ek, ev] at hrun; exact hrun,
      ⟨es, clock, since, seen.push e.born, clock, hb', hset.1, hs, hst, h3, h4, hold, hsk, hsk, rfl, ?_, ?_, fun c => ?_⟩, hlt, ?_, ?_, ?_⟩
    · rw [List.length_append, List.length_singleton]; omega
    · exact List.nodup_append.2 ⟨hnd, by simp, fun c hc d hd => by simp at hd; subst hd; exact fun e => hnew (e ▸ hc)⟩
    · rw [List.mem_append, List.mem_singleton, hss]
      constructor
      · rintro (⟨x, hx, hk, hsn⟩ | rfl)
        · exact ⟨x, hx, hk, by rw [contains_push, hsn]; rfl⟩
        · exact ⟨e, hem, ek, by rw [contains_push]; simp⟩
      · rintro ⟨x, hx, hk, hsn⟩
        rw [contains_push] at hsn
        cases hc : seen.contains x.born with
        | true => exact .inl ⟨x, hx, hk, hc⟩
        | false =>
          rw [hc] at hsn
          have hbe : x.born = e.born := by simpa using hsn
          obtain rfl := born_inj hst'.2.1 hx hem hbe
          exact .inr (hi _ _ (hk.symm.trans ek))
    · rcases hal with rfl | rfl <;> exact ⟨rfl, rfl, rfl, by simp [setBlock], fun i _ hi => hset.2 i (fun e1 => hi (by rw [e1]))⟩
    · rcases hal with rfl | rfl <;> simp [setBlock]
    · rw [← ek, ← ev]
      exact run_entry_at _ r b since seen es clock e hset.1 hb' hem hst'.2.1
end

/-! ### at the operation, inside a fence -/
section
variable {κ ν : Type} {F : Fence} {nF : Nat} {P : Program} {k : TypeId} {mk : κ → Value} {mv : ν → Value} (w : World) {ops : Array Oper} {rest : List Oper} {o : Oper} {a : Act} {Q : Exit → Act → World → Prop}
theorem wpListIn_rangeG (hg : o.guard = none) (m : Operand) (t : TypeId) (hop : o.op = Op.range t m) {e : TypeId} (ht : P.underlying t = some (.map k e)) (b n : Nat) (G : κ → Option ν)
    (hm : a.eval m = .map (some b)) (h : MapG P k mk mv w b n G)
    (hK : ∀ w' left, RngG P k mk mv w' b w.heap.size n G [] left → w.grownBy w' none → w'.heap.size = w.heap.size + 1 → wpListIn F nF P ops Q rest (a.put o.dst (.pointer (some ⟨w.heap.size, 0, none⟩))) w') :
    wpListIn F nF P ops Q (o :: rest) a w := by
  refine wpListIn_plain hg fun K' hK' => ?_
  obtain ⟨w', left, hrun, r1, r2, r3⟩ := h.range ht
  unfold Oper.wpIn
  refine ⟨?_, ?_⟩
  · simp [Oper.about, hop]
  · rw [Oper.semAt_plain F _ _ (by rw [hop]; intro c hc'; cases hc')]
    simp [execOp, hop, hm, hrun, Result.andThen]
    exact hK' _ _ (hK w' left r1 r2 r3)
theorem wpListIn_nextG (hg : o.guard = none) (it : Operand) (hop : o.op = Op.next it false) (hi : ∀ a c, mk a = mk c → a = c) (b r n : Nat) (G : κ → Option ν) (ss : List κ) (left : Nat)
    (hit : a.eval it = .pointer (some ⟨r, 0, none⟩)) (h : RngG P k mk mv w b r n G ss left)
    (hDone : left = 0 → (∀ a, a ∈ ss ↔ ∃ v, G a = some v) → wpListIn F nF P ops Q rest (a.put o.dst (.tuple #[.bool false])) w)
    (hMore : ∀ (x : κ) (v : ν) (w' : World) (left' : Nat), G x = some v → x ∉ ss → RngG P k mk mv w' b r n G (ss ++ [x]) left' → left' < left → w.grownBy w' (some r) → w'.heap.size = w.heap.size →
      (Instr.entry (.pointer (some ⟨r, 0, none⟩))).run P w' = .ok (.tuple #[mk x, mv v]) w' → wpListIn F nF P ops Q rest (a.put o.dst (.tuple #[.bool true, mk x, mv v])) w') :
    wpListIn F nF P ops Q (o :: rest) a w := by
  refine wpListIn_plain hg fun K' hK' => ?_
  unfold Oper.wpIn
  refine ⟨by simp [Oper.about, hop], ?_⟩
  rw [Oper.semAt_plain F _ _ (by rw [hop]; intro c hc'; cases hc')]
  rcases h.next hi o.type with ⟨h0, hl, hrun⟩ | ⟨x, v, w', left', q1, q2, hrun, q3, q4, q5, q6, q7⟩
  · simp [execOp, hop, hit, hrun, Result.andThen]
    exact hK' _ _ (hDone h0 hl)
  · simp [execOp, hop, hit, hrun, Result.andThen]
    exact hK' _ _ (hMore x v w' left' q1 q2 q3 q4 q5 q6 q7)
end

end Mp
end Go.Proofs.Ytbhafchdcofceaa
