/-
  Slices of any elements that a call gathers by append, with the block that they lie in; the slice may be an empty one of somebody else's.
-/
import Derived.Test.YtnjcpbkpcmemeacRw
import Derived.ArgAppend
namespace Go.Proofs.Ytnjcpbkpcmemeac
open Go.RowKit
namespace Sl
open Il

/-- What is known of a slice's type. -/
structure ElT (t e : TypeId) (z : Value) (sz bytes : Nat) : Prop where
  under : Try.prog.underlying t = some (.slice e)
  info : (Try.prog.info? e).map (fun i => (i.zero, i.size, i.bytes)) = some (some z, sz, bytes)
  zs : z.cells.size = sz
  pos : 0 < sz
  small : bytes ≤ 10000

/-- The slice v lies in block g from its beginning on and holds vs. -/
def AccV (e : TypeId) (sz g : Nat) (w : World) (v : Value) (n : Nat) (vs : List Value) : Prop := ∃ cap, v = .slice (some ⟨g, 0, none⟩) n cap ∧ w.ownsRow g e sz v n vs
/-- .. or it is empty and has no room. -/
def Dest (e : TypeId) (sz : Nat) (g : Option Nat) (w : World) (v : Value) (n : Nat) (vs : List Value) : Prop :=
  (g = none ∧ n = 0 ∧ vs = [] ∧ ∃ A, v = .slice A 0 0) ∨ ∃ k, g = some k ∧ AccV e sz k w v n vs

section
variable {e : TypeId} {sz g : Nat} {w w' : World} {v : Value} {n : Nat} {vs : List Value}
theorem AccV.lt (h : AccV e sz g w v n vs) : g < w.heap.size := by
  obtain ⟨cap, rfl, ho⟩ := h
  exact (ho.lt g rfl).2
theorem AccV.row (h : AccV e sz g w v n vs) : ∃ cap, v = .slice (some ⟨g, 0, none⟩) n cap ∧ RowO g (g + 1) w (some ⟨g, 0, none⟩) n cap sz vs := by
  obtain ⟨cap, rfl, ho⟩ := h
  obtain ⟨A, c, e, hr⟩ := row_of ho
  simp only [Value.slice.injEq] at e
  obtain ⟨rfl, _, rfl⟩ := e
  refine ⟨cap, rfl, ⟨hr.1.1, hr.1.2.1, hr.1.2.2.1, fun hn => ?_⟩, hr.2⟩
  obtain ⟨b, off, e, h1, h2, h3, h4⟩ := hr.1.2.2.2 hn
  have e' := e
  simp only [Option.some.injEq, Addr.mk.injEq, and_true] at e'
  obtain ⟨rfl, rfl⟩ := e'
  exact ⟨g, 0, e, Nat.le_refl _, by omega, h3, h4⟩
theorem AccV.keep {row : Option Nat} (h : AccV e sz g w v n vs) (hg : w.grownBy w' row) (hr : row ≠ some g) : AccV e sz g w' v n vs := by
  obtain ⟨cap, rfl, ho⟩ := h
  exact ⟨cap, rfl, ho.kept hg (.inr (fun e => hr e.symm))⟩
theorem AccV.alloc (h : AccV e sz g w v n vs) (o : Obj) : AccV e sz g (w.alloc o) v n vs := h.keep (World.grownBy_alloc w o none) (by simp)
theorem AccV.block (h : AccV e sz g w v n vs) (hs : w'.heap[g]? = w.heap[g]?) : AccV e sz g w' v n vs := by
  obtain ⟨cap, rfl, ho⟩ := h
  refine ⟨cap, rfl, ho.1, ?_⟩
  rcases ho.2 with ⟨q, _⟩ | ⟨g1, cap1, cur, q, hb, hh, rest⟩
  · simp at q
  · have q' := q
    simp only [Value.slice.injEq, Option.some.injEq, Addr.mk.injEq, and_true] at q'
    obtain ⟨rfl, _, rfl⟩ := q'
    exact .inr ⟨g, cap, cur, rfl, hb, hs.trans hh, rest⟩
/-- One cell is written. -/
theorem AccV.set (h : AccV e sz g w v n vs) (i : Nat) (u : Value) : AccV e sz g (w.setCell ⟨g, i, none⟩ u) v n (vs.set i u) := by
  obtain ⟨cap, rfl, ho⟩ := h
  refine ⟨cap, rfl, by rw [List.length_set]; exact ho.1, ?_⟩
  rcases ho.2 with ⟨q, _⟩ | ⟨g1, cap1, cur, q, hb, hh, h1, h2, h3, h4⟩
  · simp at q
  · have q' := q
    simp only [Value.slice.injEq, Option.some.injEq, Addr.mk.injEq, and_true] at q'
    obtain ⟨rfl, _, rfl⟩ := q'
    refine .inr ⟨g, cap, cur.setIfInBounds i u, rfl, hb, ?_, h1, h2, by simpa using h3, ?_⟩
    · simp [World.setCell, Array.getElem?_modify, hh]
    · rw [← h4]
      rw [Array.toList_setIfInBounds, List.take_set]
theorem accV_new (w : World) (e : TypeId) (sz : Nat) : AccV e sz w.heap.size (w.alloc (.cells #[] e)) (.slice (some ⟨w.heap.size, 0, none⟩) 0 0) 0 [] :=
  ⟨0, rfl, World.ownsRow_made w #[] 0 (Nat.le_refl _) (Nat.zero_le _) (by simp)⟩
end

theorem el_parts {t e : TypeId} {z : Value} {sz bytes : Nat} (h : ElT t e z sz bytes) : ∃ i0, Try.prog.info? e = some i0 ∧ i0.zero = some z ∧ i0.size = sz ∧ i0.bytes = bytes := by
  have hi := h.info
  cases hq : Try.prog.info? e with
  | none => rw [hq] at hi; simp at hi
  | some i0 =>
    rw [hq] at hi
    simp only [Option.map_some, Option.some.injEq, Prod.mk.injEq] at hi
    exact ⟨i0, rfl, hi.1, hi.2.1, hi.2.2⟩

/-- append(v, list...). -/
theorem run_appDL {t e : TypeId} {z : Value} {sz bytes : Nat} (hT : ElT t e z sz bytes) (ty : TypeId) {g : Option Nat} {w : World} {v : Value} {n : Nat} {vs : List Value} (h : Dest e sz g w v n vs)
    {lo hi : Nat} {B : Option Addr} {m c : Nat} {us : List Value} (hx : Row lo hi w B m c sz us) (h1 : ∀ u ∈ us, u.oneCell' = true) (hl : n + m ≤ 10000000) :
    ∃ g' v' w', (Builtin.append_ #[t, t] ty #[v, .slice B m c]).run Try.prog w = .ok v' w' ∧ Dest e sz g' w' v' (n + m) (vs ++ us) ∧ (g' = g ∨ ∃ k, g' = some k ∧ w.heap.size ≤ k) ∧ w.grownBy w' g := by
  obtain ⟨i0, hi0, hz0, hz1, hz2⟩ := el_parts hT
  have hul := hx.1
  have hsm : (n + m) * bytes ≤ 140737488355328 := by
    have := Nat.mul_le_mul hl hT.small
    omega
  have h63 : n + m ≤ maxLen := by unfold maxLen; omega
  rcases Nat.eq_zero_or_pos m with rfl | hm
  · have hue : us = [] := List.eq_nil_of_length_eq_zero (by omega)
    subst hue
    refine ⟨g, v, w, ?_, by rw [List.append_nil, Nat.add_zero]; exact h, .inl rfl, World.grownBy.refl _ _⟩
    have hcap : ∃ A c0, v = .slice A n c0 ∧ n ≤ c0 := by
      rcases h with ⟨_, rfl, _, A, rfl⟩ | ⟨k, _, cap, rfl, ho⟩
      · exact ⟨A, 0, rfl, Nat.le_refl _⟩
      · refine ⟨_, cap, rfl, ?_⟩
        rcases ho.2 with ⟨q, _⟩ | ⟨g1, cap1, cur, q, _, _, hnc, _⟩
        · simp at q
        · simp only [Value.slice.injEq, Option.some.injEq, Addr.mk.injEq, and_true] at q
          omega
    obtain ⟨A, c0, rfl, hnc⟩ := hcap
    cases B with
    | none => cases A <;> simp [Builtin.append_, run_underlying hT.under, sizeOf, typeInfo, hi0, Builtin.lenOf, Builtin.firstCells, hnc, storeCells]
    | some ad =>
      cases A with
      | none => simp [Builtin.append_, run_underlying hT.under, sizeOf, typeInfo, hi0, Builtin.lenOf, Builtin.firstCells, hnc, loadCells, loadCellsFrom]
      | some ad2 =>
        simp [Builtin.append_, run_underlying hT.under, sizeOf, typeInfo, hi0, Builtin.lenOf, Builtin.firstCells, hnc, storeCells, loadCells, loadCellsFrom]
  · obtain ⟨b2, off2, rfl, _, _, hz, hc2⟩ := hx.2.2.2 hm
    have hnews : ∀ j u, us[j]? = some u → w.cell? ((⟨b2, off2, none⟩ : Addr).add j) = some u := fun j u hj => by
      have e2 : (Addr.add ⟨b2, off2, none⟩ j) = ⟨b2, off2 + j, none⟩ := by
        unfold Addr.add; split <;> simp_all
      rw [e2]; exact hc2 j u hj
    -- a new block
    have hnew : ∀ v' w', w'.ownsRow w.heap.size e sz v' (n + m) (vs ++ us) → w.grownBy w' none → ∃ k, w.heap.size ≤ k ∧ AccV e sz k w' v' (n + m) (vs ++ us) := fun v' w' ho hg => by
      rcases ho.2 with ⟨_, q⟩ | ⟨g1, cap1, cur, q, hb, hh, r1, r2, r3, r4⟩
      · omega
      · subst q
        exact ⟨g1, hb, cap1, rfl, ho.1, .inr ⟨g1, cap1, cur, rfl, Nat.le_refl _, hh, r1, r2, r3, r4⟩⟩
    rcases h with ⟨rfl, rfl, rfl, A, rfl⟩ | ⟨k, rfl, cap, rfl, ho⟩
    · cases A with
      | none =>
        obtain ⟨v', w', hr, h2, h3, _⟩ := run_append_own (P := Try.prog) w w.heap.size t ty e i0 z sz bytes hT.under hi0 hz0 hz1 hz2 hT.zs hT.pos _ 0 [] (World.ownsRow_nil w w.heap.size e sz) ⟨b2, off2, none⟩ m c us hul hnews h1 h63 hsm (Nat.le_refl _)
        obtain ⟨k, hk, ha⟩ := hnew v' w' h2 h3
        exact ⟨some k, v', w', hr, .inr ⟨k, rfl, ha⟩, .inr ⟨k, rfl, hk⟩, h3⟩
      | some ad =>
        obtain ⟨v', w', hr, h2, h3⟩ := run_append_arg_grows (P := Try.prog) w t ty e i0 z sz bytes hT.under hi0 hz0 hz1 hz2 hT.zs hT.pos ad 0 0 [] (by simp) (fun j u hj => by simp at hj) ⟨b2, off2, none⟩ m c us hul hnews (by omega) h63 hsm
        obtain ⟨k, hk, ha⟩ := hnew v' w' h2 h3
        exact ⟨some k, v', w', hr, .inr ⟨k, rfl, ha⟩, .inr ⟨k, rfl, hk⟩, h3⟩
    · have hlt := (ho.lt k rfl).2
      have hxs := ho.1
      obtain ⟨v', w', hr, h2, h3, _⟩ := run_append_own (P := Try.prog) w k t ty e i0 z sz bytes hT.under hi0 hz0 hz1 hz2 hT.zs hT.pos _ n _ ho ⟨b2, off2, none⟩ m c us hul hnews h1 h63 hsm (by omega)
      rcases ho.2 with ⟨q, _⟩ | ⟨g1, cap1, cur, q, _, hh, hnc, hmx, hsz, _⟩
      · simp at q
      · simp only [Value.slice.injEq, Option.some.injEq, Addr.mk.injEq, and_true] at q
        obtain ⟨rfl, _, rfl⟩ := q
        by_cases hroom : n + m ≤ cap
        · have hc : ∀ j, j < us.length → (w.cell? ⟨k, 0 + n * i0.size + j, none⟩).isSome = true := fun j hj => by
            rw [cell_of_row _ _ _ _ _ _ hh, hz1]
            have h5 : (n + m) * sz ≤ cap * sz := Nat.mul_le_mul_right _ hroom
            rw [Nat.add_mul] at h5
            have : 0 + n * sz + j < cur.size := by omega
            rw [Array.getElem?_eq_getElem this]; rfl
          have hf : ∀ j, j < us.length → w.frozen? ⟨k, 0 + n * i0.size + j, none⟩ = false := fun j _ => by simp [World.frozen?, hh]
          have hq := run_append_room_cells (P := Try.prog) w t ty e i0 hT.under hi0 k 0 n cap ⟨b2, off2, none⟩ m c us (by rw [hz1]; exact hul) hnews h1 hroom hc hf
          rw [hr] at hq
          simp only [Result.ok.injEq] at hq
          obtain ⟨q1, q2⟩ := hq
          refine ⟨some k, v', w', hr, .inr ⟨k, rfl, cap, q1, ?_⟩, .inl rfl, h3⟩
          exact h2
        · obtain ⟨v2, w2, hq, ho2, hg2⟩ := run_append_arg_grows (P := Try.prog) w t ty e i0 z sz bytes hT.under hi0 hz0 hz1 hz2 hT.zs hT.pos ⟨k, 0, none⟩ n cap vs hxs (fun j u hj => ho.cells (g := k) rfl j u hj) ⟨b2, off2, none⟩ m c us hul hnews (by omega) h63 hsm
          rw [hr] at hq
          simp only [Result.ok.injEq] at hq
          obtain ⟨q1, q2⟩ := hq
          subst q1
          subst q2
          obtain ⟨k2, hk2, ha⟩ := hnew _ _ ho2 hg2
          exact ⟨some k2, _, _, hr, .inr ⟨k2, rfl, ha⟩, .inr ⟨k2, rfl, hk2⟩, h3⟩
theorem run_appD {t e : TypeId} {z : Value} {sz bytes : Nat} (hT : ElT t e z sz bytes) (ty : TypeId) {g : Option Nat} {w : World} {v : Value} {n : Nat} {vs : List Value} (h : Dest e sz g w v n vs)
    {lo hi : Nat} {B : Option Addr} {m c : Nat} {us : List Value} (hx : Row lo hi w B m c sz us) (h1 : ∀ u ∈ us, u.oneCell' = true) (hl : n + m ≤ 1000000) :
    ∃ g' v' w', (Builtin.append_ #[t, t] ty #[v, .slice B m c]).run Try.prog w = .ok v' w' ∧ Dest e sz g' w' v' (n + m) (vs ++ us) ∧ (g' = g ∨ ∃ k, g' = some k ∧ w.heap.size ≤ k) ∧ w.grownBy w' g := run_appDL hT ty h hx h1 (by omega)


section
variable {o : Oper} {a : Act} {Q : Exit → Act → World → Prop} {K : Act → World → Prop}
/-- append(v, list...), in a region of a fixed order. -/
theorem wpList_appD {ops : Array Oper} {rest : List Oper} {t e : TypeId} {z : Value} {sz bytes : Nat} (hT : ElT t e z sz bytes) (g : Option Nat) (w : World) (v : Value) (n : Nat) (vs : List Value) (hd : Dest e sz g w v n vs)
    (lo hi : Nat) (B : Option Addr) (m c : Nat) (us : List Value) (hx : Row lo hi w B m c sz us) (h1 : ∀ u ∈ us, u.oneCell' = true) (hl : n + m ≤ 1000000) (s y : Operand)
    (hgd : o.guard = none) (ho : o.op = .call { callee := .builtin .append, args := #[s, y], argTypes := #[t, t] }) (hs : a.eval s = v) (hy : a.eval y = .slice B m c)
    (h : ∀ g' v' w', Dest e sz g' w' v' (n + m) (vs ++ us) → (g' = g ∨ ∃ k, g' = some k ∧ w.heap.size ≤ k) → w.grownBy w' g → wpList Try.prog ops Q rest (a.put o.dst v') w') : wpList Try.prog ops Q (o :: rest) a w := by
  obtain ⟨g', v', w', hr, q1, q2, q3⟩ := run_appD hT o.type hd hx h1 hl
  refine wpList_plain hgd fun _ hK => ?_
  unfold Oper.wp execOp
  simp only [ho, resolve, invoke, builtin, Sem.run_bind, Sem.run_pure, Result.andThen_ok, List.map_toArray, List.map_cons, List.map_nil, hs, hy, hr]
  exact hK _ _ (h g' v' w' q1 q2 q3)
/-- .. in a region that draws its order. -/
theorem step_appD {ops : Array Oper} {E : Prop} {t e : TypeId} {z : Value} {sz bytes : Nat} (hT : ElT t e z sz bytes) (g : Option Nat) (w : World) (v : Value) (n : Nat) (vs : List Value) (hd : Dest e sz g w v n vs)
    (lo hi : Nat) (B : Option Addr) (m c : Nat) (us : List Value) (hx : Row lo hi w B m c sz us) (h1 : ∀ u ∈ us, u.oneCell' = true) (hl : n + m ≤ 1000000) (s y : Operand)
    (hgd : o.guard = none) (ho : o.op = .call { callee := .builtin .append, args := #[s, y], argTypes := #[t, t] }) (hs : a.eval s = v) (hy : a.eval y = .slice B m c)
    (h : ∀ g' v' w', Dest e sz g' w' v' (n + m) (vs ++ us) → (g' = g ∨ ∃ k, g' = some k ∧ w.heap.size ≤ k) → w.grownBy w' g → K (a.put o.dst v') w') : if Region.wanted o (yielded ops a.tmps) = true then Oper.wp Try.prog o a w K Q else E := by
  have hw : Region.wanted o (yielded ops a.tmps) = true := by simp [Region.wanted, hgd]
  rw [if_pos hw]
  obtain ⟨g', v', w', hr, q1, q2, q3⟩ := run_appD hT o.type hd hx h1 hl
  unfold Oper.wp execOp
  simp only [ho, resolve, invoke, builtin, Sem.run_bind, Sem.run_pure, Result.andThen_ok, List.map_toArray, List.map_cons, List.map_nil, hs, hy, hr]
  exact h g' v' w' q1 q2 q3
/-- .. of longer lists. -/
theorem wpList_appDL {ops : Array Oper} {rest : List Oper} {t e : TypeId} {z : Value} {sz bytes : Nat} (hT : ElT t e z sz bytes) (g : Option Nat) (w : World) (v : Value) (n : Nat) (vs : List Value) (hd : Dest e sz g w v n vs)
    (lo hi : Nat) (B : Option Addr) (m c : Nat) (us : List Value) (hx : Row lo hi w B m c sz us) (h1 : ∀ u ∈ us, u.oneCell' = true) (hl : n + m ≤ 10000000) (s y : Operand)
    (hgd : o.guard = none) (ho : o.op = .call { callee := .builtin .append, args := #[s, y], argTypes := #[t, t] }) (hs : a.eval s = v) (hy : a.eval y = .slice B m c)
    (h : ∀ g' v' w', Dest e sz g' w' v' (n + m) (vs ++ us) → (g' = g ∨ ∃ k, g' = some k ∧ w.heap.size ≤ k) → w.grownBy w' g → wpList Try.prog ops Q rest (a.put o.dst v') w') : wpList Try.prog ops Q (o :: rest) a w := by
  obtain ⟨g', v', w', hr, q1, q2, q3⟩ := run_appDL hT o.type hd hx h1 hl
  refine wpList_plain hgd fun _ hK => ?_
  unfold Oper.wp execOp
  simp only [ho, resolve, invoke, builtin, Sem.run_bind, Sem.run_pure, Result.andThen_ok, List.map_toArray, List.map_cons, List.map_nil, hs, hy, hr]
  exact hK _ _ (h g' v' w' q1 q2 q3)
/-- .. in a region that draws its order. -/
theorem step_appDL {ops : Array Oper} {E : Prop} {t e : TypeId} {z : Value} {sz bytes : Nat} (hT : ElT t e z sz bytes) (g : Option Nat) (w : World) (v : Value) (n : Nat) (vs : List Value) (hd : Dest e sz g w v n vs)
    (lo hi : Nat) (B : Option Addr) (m c : Nat) (us : List Value) (hx : Row lo hi w B m c sz us) (h1 : ∀ u ∈ us, u.oneCell' = true) (hl : n + m ≤ 10000000) (s y : Operand)
    (hgd : o.guard = none) (ho : o.op = .call { callee := .builtin .append, args := #[s, y], argTypes := #[t, t] }) (hs : a.eval s = v) (hy : a.eval y = .slice B m c)
    (h : ∀ g' v' w', Dest e sz g' w' v' (n + m) (vs ++ us) → (g' = g ∨ ∃ k, g' = some k ∧ w.heap.size ≤ k) → w.grownBy w' g → K (a.put o.dst v') w') : if Region.wanted o (yielded ops a.tmps) = true then Oper.wp Try.prog o a w K Q else E := by
  have hw : Region.wanted o (yielded ops a.tmps) = true := by simp [Region.wanted, hgd]
  rw [if_pos hw]
  obtain ⟨g', v', w', hr, q1, q2, q3⟩ := run_appDL hT o.type hd hx h1 hl
  unfold Oper.wp execOp
  simp only [ho, resolve, invoke, builtin, Sem.run_bind, Sem.run_pure, Result.andThen_ok, List.map_toArray, List.map_cons, List.map_nil, hs, hy, hr]
  exact h g' v' w' q1 q2 q3
end

/-- []T{x} -/
theorem row_lit (w : World) (e : TypeId) (cs : List Value) {sz : Nat} (hs : cs.length = sz) : Row w.heap.size (w.heap.size + 1) (w.alloc (.cells cs.toArray e)) (some ⟨w.heap.size, 0, none⟩) 1 1 sz cs := by
  have hh : (w.alloc (.cells cs.toArray e)).heap[w.heap.size]? = some (.cells cs.toArray e (0, 0)) := heap_alloc_new _ _
  refine ⟨by omega, Nat.le_refl _, by unfold maxLen; omega, fun _ => ⟨_, 0, rfl, Nat.le_refl _, by omega, by simp, fun j v hj => ?_⟩⟩
  rw [Nat.zero_add, cell_of_row _ _ j _ _ _ hh]
  simpa using hj
theorem elInt : ElT 23 3 (.int .i64 0) 1 8 := ⟨Try.underlying23, infoInt, rfl, by omega, by omega⟩
theorem ints_row {lo hi : Nat} {w : World} {A : Option Addr} {n c : Nat} {xs : List Int} (h : Ints lo hi w A n c xs) : Row lo hi w A n c 1 (xs.map (Value.int .i64)) := by
  refine ⟨by simp [h.1], h.2.1, h.2.2.1, fun hn => ?_⟩
  obtain ⟨b, off, e, q1, q2, q3, q4⟩ := h.2.2.2 hn
  refine ⟨b, off, e, q1, q2, q3, fun j v hj => ?_⟩
  have hjl : j < n := by
    have := (List.getElem?_eq_some_iff.1 hj).1
    simpa [h.1] using this
  rw [q4 j hjl, ← hj, List.getElem?_map, List.getD_eq_getElem?_getD, List.getElem?_eq_getElem (by rw [h.1]; exact hjl)]
  rfl
theorem ints_one_cell (xs : List Int) : ∀ u ∈ xs.map (Value.int .i64), u.oneCell' = true := fun u hu => by
  obtain ⟨z, _, rfl⟩ := List.mem_map.1 hu
  rfl
/-- Numbers that were gathered. -/
theorem dest_ints {g : Option Nat} {w : World} {v : Value} {n : Nat} {xs : List Int} (h : Dest 3 1 g w v n (xs.map (Value.int .i64))) : ∃ A c b, v = .slice A n c ∧ Il.Own b (b + 1) w A n c xs ∧ ∀ k, g = some k → b = k := by
  rcases h with ⟨rfl, rfl, hx, A, rfl⟩ | ⟨k, rfl, cap, rfl, ho⟩
  · have : xs = [] := by simpa using hx
    subst this
    exact ⟨A, 0, 0, rfl, Own.nil_ (Nat.zero_le _), fun k h => by simp at h⟩
  · obtain ⟨A', c', e, hown⟩ := own_of ho
    simp only [Value.slice.injEq] at e
    obtain ⟨rfl, _, rfl⟩ := e
    refine ⟨_, cap, k, rfl, ⟨⟨hown.1.1, hown.1.2.1, hown.1.2.2.1, fun hn => ?_⟩, hown.2⟩, fun k' h => by simpa using h⟩
    obtain ⟨b, off, e, h1, h2, h3, h4⟩ := hown.1.2.2.2 hn
    have e' := e
    simp only [Option.some.injEq, Addr.mk.injEq, and_true] at e'
    obtain ⟨rfl, rfl⟩ := e'
    exact ⟨k, 0, e, Nat.le_refl _, by omega, h3, h4⟩

end Sl
end Go.Proofs.Ytnjcpbkpcmemeac
