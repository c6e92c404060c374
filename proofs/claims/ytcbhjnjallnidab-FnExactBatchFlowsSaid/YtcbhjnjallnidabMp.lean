/-
  Maps in memory, by what they hold at each key. Nothing of any program.
-/
import Derived.Test.YtcbhjnjallnidabIla
import Derived.Maps.RangeWalk
import Derived.DeepKeys4
namespace Go.Proofs.Ytcbhjnjallnidab
open Go.RowKit
open Go.MapKept Go.ChangeMaps
namespace Mp
open Go.Maps (Keyed)

/-- Block b is a map of at most n entries that holds G: keys are spelt by mk, elements by mv. -/
def MapG {κ ν : Type} (P : Program) (k : TypeId) (mk : κ → Value) (mv : ν → Value) (w : World) (b n : Nat) (G : κ → Option ν) : Prop :=
  ∃ es clock, w.heap[b]? = some (.map es clock) ∧ es.size ≤ n ∧ Stamped es clock ∧ (∀ x ∈ es.toList, ∃ a v, x.key = mk a ∧ x.val = mv v ∧ G a = some v ∧ ∃ l, keyOf P k (mk a) = some l) ∧ ∀ a v, G a = some v → ∃ x ∈ es.toList, x.key = mk a

section
variable {κ ν : Type} {P : Program} {k : TypeId} {mk : κ → Value} {mv : ν → Value} {w w' : World} {b n : Nat} {G : κ → Option ν}
theorem MapG.lt (h : MapG P k mk mv w b n G) : b < w.heap.size := by
  obtain ⟨es, clock, hb, _⟩ := h
  exact (Array.getElem?_eq_some_iff.1 hb).1
theorem MapG.same (h : MapG P k mk mv w b n G) (hs : w'.heap[b]? = w.heap[b]?) : MapG P k mk mv w' b n G := by
  obtain ⟨es, clock, hb, h2⟩ := h
  exact ⟨es, clock, hs.trans hb, h2⟩
theorem MapG.below {B : Nat} (h : MapG P k mk mv w b n G) (hb : Below B w w') (hB : b < B) : MapG P k mk mv w' b n G := h.same (hb.block b hB)
theorem MapG.below' (h : MapG P k mk mv w b n G) (hb : Below w.heap.size w w') : MapG P k mk mv w' b n G := h.same (hb.block b h.lt)
theorem MapG.drewN (h : MapG P k mk mv w b n G) (d : Nat) : MapG P k mk mv (w.drewN d) b n G := h
theorem MapG.mono {m : Nat} (h : MapG P k mk mv w b n G) (hm : n ≤ m) : MapG P k mk mv w b m G := by
  obtain ⟨es, clock, hb, h1, h2⟩ := h
  exact ⟨es, clock, hb, Nat.le_trans h1 hm, h2⟩
theorem mapG_made (P : Program) (k : TypeId) (mk : κ → Value) (mv : ν → Value) (w : World) : MapG P k mk mv (w.alloc (.map #[] 0)) w.heap.size 0 (fun _ => none) :=
  ⟨#[], 0, (MapKept.heap_alloc w _).1, Nat.le_refl _, stamped_empty 0, fun x hx => by simp at hx, fun a v h => by cases h⟩
theorem MapG.others {T : TypeId} (h : MapG P k mk mv w b n G) (hO : ∀ (q : Nat) (o : Obj), w.heap[q]? = some o → (∀ cs fr, o ≠ Obj.cells cs T fr) → w'.heap[q]? = some o) : MapG P k mk mv w' b n G := by
  obtain ⟨es, clock, hb, h2⟩ := h
  exact ⟨es, clock, hO b _ hb (fun cs fr e => by cases e), h2⟩

/-- m[key] -/
theorem MapG.lookup (h : MapG P k mk mv w b n G) (K : Keyed P k) (hi : ∀ a c, mk a = mk c → a = c) {t e : TypeId} (ht : P.underlying t = some (.map k e)) {z : Value} (hz : (zeroValue e).run P w = .ok z w) {a : κ} {l : Lit} (hkey : keyOf P k (mk a) = some l) :
    (Instr.lookup t (.map (some b)) (mk a) false).run P w = .ok (match G a with | some v => mv v | none => z) w := by
  obtain ⟨es, clock, hb, h1, h2, h3, h4⟩ := h
  have hks : ∀ e ∈ es.toList, ∃ l, keyOf P k e.key = some l := fun x hx => by
    obtain ⟨a, v, e1, _, _, l, hl⟩ := h3 x hx
    exact ⟨l, by rw [e1]; exact hl⟩
  rcases K.find w hkey es.toList hks with ⟨q1, q2⟩ | ⟨j, e0, q1, q2, q3⟩
  · have hG : G a = none := by
      cases hg : G a with
      | none => rfl
      | some v =>
        obtain ⟨x, hx, e1⟩ := h4 a v hg
        exact absurd e1 (q2 x hx)
    rw [hG]
    simp [Instr.lookup, run_underlying ht, MapKept.run_getObj_map hb, K.check w _ hkey, q1, hz, Result.andThen]
  · have hm := List.mem_of_getElem? q2
    obtain ⟨c, v, e1, e2, e3, _⟩ := h3 e0 hm
    have : c = a := hi _ _ (e1.symm.trans q3)
    subst this
    rw [e3]
    simp [Instr.lookup, run_underlying ht, MapKept.run_getObj_map hb, K.check w _ hkey, q1, e2, Result.andThen]

/-- m[key] = val -/
theorem MapG.update [DecidableEq κ] (h : MapG P k mk mv w b n G) (K : Keyed P k) (hi : ∀ a c, mk a = mk c → a = c) {t e : TypeId} (ht : P.underlying t = some (.map k e)) {a : κ} {l : Lit} (hkey : keyOf P k (mk a) = some l) (v : ν) :
    ∃ w', (Instr.mapUpdate t (.map (some b)) (mk a) (mv v)).run P w = .ok () w' ∧ MapG P k mk mv w' b (n + 1) (fun c => if c = a then some v else G c) ∧ w.grownBy w' (some b) ∧ w'.heap.size = w.heap.size := by
  obtain ⟨es, clock, hb, h1, h2, h3, h4⟩ := h
  have hks : ∀ e ∈ es.toList, ∃ l, keyOf P k e.key = some l := fun x hx => by
    obtain ⟨a, v, e1, _, _, l, hl⟩ := h3 x hx
    exact ⟨l, by rw [e1]; exact hl⟩
  have hgr : ∀ o, w.grownBy (setBlock w b o) (some b) := fun o => ⟨rfl, rfl, rfl, by simp [setBlock], fun i _ hi => heap_setBlock_other hb _ (fun e => hi (by rw [e]))⟩
  rcases K.find w hkey es.toList hks with ⟨q1, q2⟩ | ⟨j, e0, q1, q2, q3⟩
  · refine ⟨setBlock w b (.map (es.push ⟨mk a, mv v, clock⟩) (clock + 1)), ?_, ⟨_, _, heap_setBlock_same hb _, ?_, stamped_push h2 q2, ?_, ?_⟩, hgr _, by simp [setBlock]⟩
    · simp [Instr.mapUpdate, run_underlying ht, MapKept.run_getObj_map hb, K.check w false hkey, q1, MapKept.run_setObj_map _ hb, Result.andThen, setBlock]
    · simp; omega
    · intro x hx
      simp only [Array.toList_push, List.mem_append, List.mem_singleton] at hx
      rcases hx with hx | rfl
      · obtain ⟨c, u, e1, e2, e3, e4⟩ := h3 x hx
        refine ⟨c, u, e1, e2, ?_, e4⟩
        show (if c = a then some v else G c) = some u
        rw [if_neg (fun (e : c = a) => q2 x hx (by rw [e1, e]))]
        exact e3
      · exact ⟨a, v, rfl, rfl, if_pos rfl, l, hkey⟩
    · intro c u hc
      by_cases hca : c = a
      · subst hca
        exact ⟨⟨mk c, mv v, clock⟩, by simp, rfl⟩
      · simp only [hca, if_false] at hc
        obtain ⟨x, hx, e1⟩ := h4 c u hc
        exact ⟨x, by simp [hx], e1⟩
  · have hj : es[j]? = some e0 := by simpa using q2
    have hjl : j < es.toList.length := (List.getElem?_eq_some_iff.1 q2).1
    have hlist : (es.modify j (fun e' => { e' with key := mk a, val := mv v })).toList = es.toList.set j { e0 with key := mk a, val := mv v } := by rw [Array.toList_modify, modify_eq_set _ _ _ _ q2]
    have hap : es.toList.Pairwise (fun x y => x.key ≠ y.key) := ((stamped_iff es clock).1 h2).2.2
    refine ⟨setBlock w b (.map (es.modify j (fun e' => { e' with key := mk a, val := mv v })) clock), ?_, ⟨_, _, heap_setBlock_same hb _, by simp; omega, stamped_modify h2 _ _ (fun _ _ => rfl) (fun e' _ he' => by rw [hj] at he'; cases he'; exact q3.symm), ?_, ?_⟩, hgr _, by simp [setBlock]⟩
    · simp [Instr.mapUpdate, run_underlying ht, MapKept.run_getObj_map hb, K.check w false hkey, q1, hj, q3, K.stays w hkey, MapKept.run_setObj_map _ hb, Result.andThen, setBlock]
    · intro x hx
      rw [hlist] at hx
      obtain ⟨i, hil, ex⟩ := List.getElem_of_mem hx
      rw [List.getElem_set] at ex
      split at ex
      · subst ex
        exact ⟨a, v, rfl, rfl, if_pos rfl, l, hkey⟩
      · rename_i hne
        have hi' : i < es.toList.length := by simpa using hil
        have hxm : x ∈ es.toList := ex ▸ List.getElem_mem hi'
        obtain ⟨c, u, e1, e2, e3, e4⟩ := h3 x hxm
        refine ⟨c, u, e1, e2, ?_, e4⟩
        show (if c = a then some v else G c) = some u
        rw [if_neg (fun (e : c = a) => ?_)]
        · exact e3
        · subst e
          have hk0 : x.key = e0.key := e1.trans q3.symm
          have e0g : es.toList[j] = e0 := by
            have := q2
            rw [List.getElem?_eq_getElem hjl] at this
            exact Option.some.inj this
          rcases Nat.lt_or_ge i j with hij | hij
          · have := (List.pairwise_iff_getElem.1 hap) i j hi' hjl hij
            rw [ex, e0g] at this
            exact this hk0
          · have := (List.pairwise_iff_getElem.1 hap) j i hjl hi' (by omega)
            rw [ex, e0g] at this
            exact this hk0.symm
    · intro c u hc
      by_cases hca : c = a
      · subst hca
        refine ⟨{ e0 with key := mk c, val := mv v }, ?_, rfl⟩
        rw [hlist]
        exact List.mem_iff_getElem.2 ⟨j, by simpa using hjl, by simp⟩
      · simp only [hca, if_false] at hc
        obtain ⟨x, hx, e1⟩ := h4 c u hc
        refine ⟨x, ?_, e1⟩
        rw [hlist]
        obtain ⟨i, hil, ex⟩ := List.getElem_of_mem hx
        refine List.mem_iff_getElem.2 ⟨i, by simpa using hil, ?_⟩
        rw [List.getElem_set_ne ?_]
        · exact ex
        · rintro rfl
          have e0g : es.toList[j] = e0 := by
            have := q2
            rw [List.getElem?_eq_getElem hil] at this
            exact Option.some.inj this
          rw [e0g] at ex
          subst ex
          exact hca (hi _ _ (e1.symm.trans q3))

end

/-! ### at the operation -/
section
variable {κ ν : Type} {P : Program} {k : TypeId} {mk : κ → Value} {mv : ν → Value} (w : World) {ops : Array Oper} {rest : List Oper} {o : Oper} {a : Act} {Q : Exit → Act → World → Prop}
theorem wpList_lookup (hg : o.guard = none) (m x : Operand) (t : TypeId) (hop : o.op = Op.lookup t m x false) (K : Keyed P k) (hi : ∀ a c, mk a = mk c → a = c) {e : TypeId} (ht : P.underlying t = some (.map k e)) {z : Value} (hz : (zeroValue e).run P w = .ok z w)
    (b n : Nat) (G : κ → Option ν) (h : MapG P k mk mv w b n G) (hm : a.eval m = .map (some b)) (key : κ) {l : Lit} (hkey : keyOf P k (mk key) = some l) (hx : a.eval x = mk key)
    (hK : wpList P ops Q rest (a.put o.dst (match G key with | some v => mv v | none => z)) w) : wpList P ops Q (o :: rest) a w := by
  refine wpList_plain hg fun K' hK' => ?_
  have hrun := h.lookup K hi ht hz hkey
  unfold Oper.wp
  simp [execOp, hop, hm, hx, hrun, Result.andThen]
  exact hK' _ _ hK
theorem wpList_update [DecidableEq κ] (hg : o.guard = none) (m x y : Operand) (t : TypeId) (hop : o.op = Op.mapUpdate t m x y) (K : Keyed P k) (hi : ∀ a c, mk a = mk c → a = c) {e : TypeId} (ht : P.underlying t = some (.map k e))
    (b n : Nat) (G : κ → Option ν) (h : MapG P k mk mv w b n G) (hm : a.eval m = .map (some b)) (key : κ) {l : Lit} (hkey : keyOf P k (mk key) = some l) (hx : a.eval x = mk key) (v : ν) (hv : a.eval y = mv v)
    (hK : ∀ w', MapG P k mk mv w' b (n + 1) (fun c => if c = key then some v else G c) → w.grownBy w' (some b) → w'.heap.size = w.heap.size → wpList P ops Q rest (a.put o.dst undef) w') : wpList P ops Q (o :: rest) a w := by
  refine wpList_plain hg fun K' hK' => ?_
  obtain ⟨w', hrun, r1, r2, r3⟩ := h.update K hi ht hkey v
  unfold Oper.wp
  simp [execOp, hop, hm, hx, hv, hrun, Result.andThen]
  exact hK' _ _ (hK w' r1 r2 r3)
end

end Mp
end Go.Proofs.Ytcbhjnjallnidab
