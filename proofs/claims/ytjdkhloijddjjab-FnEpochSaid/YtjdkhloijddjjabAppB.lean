/-
  A slice of ints that a call gathers by append, with the block that it lies in: appending stays there or goes to a new block. So several can be gathered side by side.
-/
import Derived.Test.YtjdkhloijddjjabApp
import Derived.ArgAppend
namespace Go.Proofs.Ytjdkhloijddjjab
open Go.RowKit
namespace Il

/-- The slice v lies in block g from its beginning on and holds ys. -/
def AccB (g : Nat) (w : World) (v : Value) (ys : List Int) : Prop :=
  ∃ cap, v = .slice (some ⟨g, 0, none⟩) ys.length cap ∧ w.ownsRow g 3 1 v ys.length (ys.map (Value.int .i64))

theorem AccB.lt {g : Nat} {w : World} {v : Value} {ys : List Int} (h : AccB g w v ys) : g < w.heap.size := by
  obtain ⟨cap, rfl, ho⟩ := h
  exact (ho.lt g rfl).2
theorem AccB.own {g : Nat} {w : World} {v : Value} {ys : List Int} (h : AccB g w v ys) : ∃ cap, v = .slice (some ⟨g, 0, none⟩) ys.length cap ∧ Own g (g + 1) w (some ⟨g, 0, none⟩) ys.length cap ys := by
  obtain ⟨cap, rfl, ho⟩ := h
  obtain ⟨A, c, e, hown⟩ := own_of ho
  simp only [Value.slice.injEq] at e
  obtain ⟨rfl, _, rfl⟩ := e
  refine ⟨cap, rfl, ⟨hown.1.1, hown.1.2.1, hown.1.2.2.1, fun hn => ?_⟩, hown.2⟩
  obtain ⟨b, off, e, h1, h2, h3, h4⟩ := hown.1.2.2.2 hn
  have e' := e
  simp only [Option.some.injEq, Addr.mk.injEq, and_true] at e'
  obtain ⟨rfl, rfl⟩ := e'
  exact ⟨g, 0, e, Nat.le_refl _, by omega, h3, h4⟩
theorem AccB.keep {g : Nat} {w w' : World} {v : Value} {ys : List Int} {row : Option Nat} (h : AccB g w v ys) (hg : w.grownBy w' row) (hr : row ≠ some g) : AccB g w' v ys := by
  obtain ⟨cap, rfl, ho⟩ := h
  exact ⟨cap, rfl, ho.kept hg (.inr (fun e => hr e.symm))⟩
theorem AccB.alloc {g : Nat} {w : World} {v : Value} {ys : List Int} (h : AccB g w v ys) (o : Obj) : AccB g (w.alloc o) v ys := h.keep (World.grownBy_alloc w o none) (by simp)
/-- []int{} -/
theorem accB_new (w : World) : AccB w.heap.size (w.alloc (.cells #[] 3)) (.slice (some ⟨w.heap.size, 0, none⟩) 0 0) [] :=
  ⟨0, rfl, World.ownsRow_made w #[] 0 (Nat.le_refl _) (Nat.zero_le _) rfl⟩

theorem run_app1B {g : Nat} {w : World} {v : Value} {ys : List Int} (ty : TypeId) (h : AccB g w v ys) (hl : ys.length ≤ 10000000) (x : Int) (ad : Addr) (had : w.cell? (ad.add 0) = some (.int .i64 x)) :
    ∃ g' v' w', (Builtin.append_ #[24, 24] ty #[v, .slice (some ad) 1 1]).run Try.prog w = .ok v' w' ∧ AccB g' w' v' (ys ++ [x]) ∧ (g' = g ∨ w.heap.size ≤ g') ∧ w.grownBy w' (some g) := by
  obtain ⟨i0, hi, hz0, hz1, hz2⟩ := info_parts infoInt
  have hlt := h.lt
  obtain ⟨cap, rfl, ho⟩ := h
  have hnews : ∀ j u, ([.int .i64 x] : List Value)[j]? = some u → w.cell? (ad.add j) = some u := fun j u hj => by
    match j, hj with
    | 0, hj => simp at hj; subst hj; exact had
  obtain ⟨v', w', hr, h2, h3, _⟩ := run_append_own (P := Try.prog) w g 24 ty 3 i0 (.int .i64 0) 1 8 Try.underlying24 hi hz0 hz1 hz2 rfl (by decide) _ ys.length _ ho ad 1 1 [.int .i64 x] rfl hnews (fun u hu => by simp at hu; subst hu; rfl) (by unfold maxLen; omega) (by omega) (by omega)
  have hw : ∃ g', (g' = g ∨ w.heap.size ≤ g') ∧ v'.ownBlock = some g' := by
    rcases ho.2 with ⟨e, _⟩ | ⟨g1, cap1, cur, e, _, hh, hnc, hm, hs, _⟩
    · simp at e
    · simp only [Value.slice.injEq, Option.some.injEq, Addr.mk.injEq, and_true] at e
      obtain ⟨rfl, _, rfl⟩ := e
      by_cases hroom : ys.length + 1 ≤ cap
      · have hc : ∀ j, j < ([.int .i64 x] : List Value).length → (w.cell? ⟨g, 0 + ys.length * i0.size + j, none⟩).isSome = true := fun j hj => by
          rw [cell_of_row _ _ _ _ _ _ hh, hz1]
          have : 0 + ys.length * 1 + j < cur.size := by simp at hj; omega
          rw [Array.getElem?_eq_getElem this]; rfl
        have hf : ∀ j, j < ([.int .i64 x] : List Value).length → w.frozen? ⟨g, 0 + ys.length * i0.size + j, none⟩ = false := fun j _ => by simp [World.frozen?, hh]
        have hq := run_append_room_cells (P := Try.prog) w 24 ty 3 i0 Try.underlying24 hi g 0 ys.length cap ad 1 1 [.int .i64 x] (by rw [hz1]; rfl) hnews (fun u hu => by simp at hu; subst hu; rfl) hroom hc hf
        rw [hr] at hq
        simp only [Result.ok.injEq] at hq
        exact ⟨g, .inl rfl, by rw [hq.1]; rfl⟩
      · obtain ⟨v2, w2, hq, ho2, _⟩ := run_append_arg_grows (P := Try.prog) w 24 ty 3 i0 (.int .i64 0) 1 8 Try.underlying24 hi hz0 hz1 hz2 rfl (by decide) ⟨g, 0, none⟩ ys.length cap (ys.map (Value.int .i64)) (by simp) (fun j u hj => ho.cells (g := g) rfl j u hj) ad 1 1 [.int .i64 x] rfl hnews (by omega) (by unfold maxLen; omega) (by omega)
        rw [hr] at hq
        simp only [Result.ok.injEq] at hq
        rcases ho2.2 with ⟨_, e⟩ | ⟨g2, cap2, cur2, e, hg2, _⟩
        · exact absurd e (by simp)
        · exact ⟨g2, .inr hg2, by rw [hq.1, e]; rfl⟩
  obtain ⟨g', hg', hb⟩ := hw
  refine ⟨g', v', w', hr, ?_, hg', h3⟩
  rcases h2.2 with ⟨e, _⟩ | ⟨g1, cap1, cur, e, hbg, hh, hnc, hm, hs, ht⟩
  · rw [e] at hb; simp [Value.ownBlock] at hb
  · subst e
    obtain rfl : g1 = g' := by simpa [Value.ownBlock] using hb
    refine ⟨cap1, by simp, ?_⟩
    have hlen : (ys ++ [x]).length = ys.length + 1 := by simp
    rw [hlen, List.map_append]
    exact ⟨h2.1, .inr ⟨g1, cap1, cur, rfl, Nat.le_refl _, hh, hnc, hm, hs, ht⟩⟩

theorem run_appLB {g : Nat} {w : World} {v : Value} {ys : List Int} (ty : TypeId) (h : AccB g w v ys) (lo hi : Nat) (B : Option Addr) (n c : Nat) (xs : List Int) (hx : Ints lo hi w B n c xs) (hl : ys.length + n ≤ 10000000) :
    ∃ g' v' w', (Builtin.append_ #[24, 24] ty #[v, .slice B n c]).run Try.prog w = .ok v' w' ∧ AccB g' w' v' (ys ++ xs) ∧ (g' = g ∨ w.heap.size ≤ g') ∧ w.grownBy w' (some g) := by
  obtain ⟨i0, hi0, hz0, hz1, hz2⟩ := info_parts infoInt
  have hlt := h.lt
  rcases Nat.eq_zero_or_pos n with rfl | hn
  · have hxe : xs = [] := List.eq_nil_of_length_eq_zero hx.1
    subst hxe
    refine ⟨g, v, w, ?_, by rw [List.append_nil]; exact h, .inl rfl, World.grownBy.refl _ _⟩
    obtain ⟨cap, rfl, ho⟩ := h
    have hcap : ys.length ≤ cap := by
      rcases ho.2 with ⟨e, _⟩ | ⟨g1, cap1, cur, e, _, _, hnc, _⟩
      · simp at e
      · simp only [Value.slice.injEq, Option.some.injEq, Addr.mk.injEq, and_true] at e
        omega
    cases B with
    | none => simp [Builtin.append_, run_underlying Try.underlying24, sizeOf, typeInfo, hi0, Builtin.lenOf, Builtin.firstCells, hcap, storeCells]
    | some ad =>
      have hq := run_append_room_cells (P := Try.prog) w 24 ty 3 i0 Try.underlying24 hi0 g 0 ys.length cap ad 0 c [] (by simp) (fun j u hj => by simp at hj) (fun u hu => by simp at hu) (by omega) (fun j hj => by simp at hj) (fun j hj => by simp at hj)
      simpa [World.setCells] using hq
  · obtain ⟨cap, rfl, ho⟩ := h
    have hxl := hx.1
    obtain ⟨b2, off2, rfl, _, _, hz, hc2⟩ := hx.2.2.2 hn
    have hnews : ∀ j u, (xs.map (Value.int .i64))[j]? = some u → w.cell? ((⟨b2, off2, none⟩ : Addr).add j) = some u := fun j u hj => by
      have hjl : j < n := by
        rcases Nat.lt_or_ge j n with h | h
        · exact h
        · rw [List.getElem?_eq_none (by simpa [hxl] using h)] at hj; cases hj
      have e2 : (Addr.add ⟨b2, off2, none⟩ j) = ⟨b2, off2 + j, none⟩ := by
        unfold Addr.add; split <;> simp_all
      rw [e2, hc2 j hjl, ← hj, List.getElem?_map, List.getD_eq_getElem?_getD, List.getElem?_eq_getElem (by omega)]
      rfl
    have h1c : ∀ u ∈ xs.map (Value.int .i64), u.oneCell' = true := fun u hu => by
      obtain ⟨z, _, rfl⟩ := List.mem_map.1 hu
      rfl
    have hnl : (xs.map (Value.int .i64)).length = n * 1 := by simp [hxl]
    obtain ⟨v', w', hr, h2, h3, _⟩ := run_append_own (P := Try.prog) w g 24 ty 3 i0 (.int .i64 0) 1 8 Try.underlying24 hi0 hz0 hz1 hz2 rfl (by decide) _ ys.length _ ho ⟨b2, off2, none⟩ n c (xs.map (Value.int .i64)) hnl hnews h1c (by unfold maxLen; omega) (by omega) (by omega)
    have hw : ∃ g', (g' = g ∨ w.heap.size ≤ g') ∧ v'.ownBlock = some g' := by
      rcases ho.2 with ⟨e, _⟩ | ⟨g1, cap1, cur, e, _, hh, hnc, hm, hs, _⟩
      · simp at e
      · simp only [Value.slice.injEq, Option.some.injEq, Addr.mk.injEq, and_true] at e
        obtain ⟨rfl, _, rfl⟩ := e
        by_cases hroom : ys.length + n ≤ cap
        · have hc : ∀ j, j < (xs.map (Value.int .i64)).length → (w.cell? ⟨g, 0 + ys.length * i0.size + j, none⟩).isSome = true := fun j hj => by
            rw [cell_of_row _ _ _ _ _ _ hh, hz1]
            have : 0 + ys.length * 1 + j < cur.size := by simp [hxl] at hj; omega
            rw [Array.getElem?_eq_getElem this]; rfl
          have hf : ∀ j, j < (xs.map (Value.int .i64)).length → w.frozen? ⟨g, 0 + ys.length * i0.size + j, none⟩ = false := fun j _ => by simp [World.frozen?, hh]
          have hq := run_append_room_cells (P := Try.prog) w 24 ty 3 i0 Try.underlying24 hi0 g 0 ys.length cap ⟨b2, off2, none⟩ n c (xs.map (Value.int .i64)) (by rw [hz1]; exact hnl) hnews h1c hroom hc hf
          rw [hr] at hq
          simp only [Result.ok.injEq] at hq
          exact ⟨g, .inl rfl, by rw [hq.1]; rfl⟩
        · obtain ⟨v2, w2, hq, ho2, _⟩ := run_append_arg_grows (P := Try.prog) w 24 ty 3 i0 (.int .i64 0) 1 8 Try.underlying24 hi0 hz0 hz1 hz2 rfl (by decide) ⟨g, 0, none⟩ ys.length cap (ys.map (Value.int .i64)) (by simp) (fun j u hj => ho.cells (g := g) rfl j u hj) ⟨b2, off2, none⟩ n c (xs.map (Value.int .i64)) hnl hnews (by omega) (by unfold maxLen; omega) (by omega)
          rw [hr] at hq
          simp only [Result.ok.injEq] at hq
          rcases ho2.2 with ⟨_, e⟩ | ⟨g2, cap2, cur2, e, hg2, _⟩
          · exact absurd e (by omega)
          · exact ⟨g2, .inr hg2, by rw [hq.1, e]; rfl⟩
    obtain ⟨g', hg', hb⟩ := hw
    refine ⟨g', v', w', hr, ?_, hg', h3⟩
    rcases h2.2 with ⟨e, _⟩ | ⟨g1, cap1, cur, e, hbg, hh, hnc, hm, hs, ht⟩
    · rw [e] at hb; simp [Value.ownBlock] at hb
    · subst e
      obtain rfl : g1 = g' := by simpa [Value.ownBlock] using hb
      refine ⟨cap1, by simp [hxl], ?_⟩
      have hlen : (ys ++ xs).length = ys.length + n := by simp [hxl]
      rw [hlen, List.map_append]
      exact ⟨h2.1, .inr ⟨g1, cap1, cur, rfl, Nat.le_refl _, hh, hnc, hm, hs, ht⟩⟩

section
variable {o : Oper} {a : Act} {Q : Exit → Act → World → Prop}
/-- append(out, x), in a region of a fixed order. -/
theorem wpList_app1B {ops : Array Oper} {rest : List Oper} (g : Nat) (w : World) (v : Value) (ys : List Int) (x : Int) (hacc : AccB g w v ys) (hl : ys.length ≤ 10000000) (s y : Operand)
    (hgd : o.guard = none) (ho : o.op = .call { callee := .builtin .append, args := #[s, y], argTypes := #[24, 24] })
    (hs : a.eval s = v) (hy : a.eval y = .slice (some ⟨w.heap.size, 0, none⟩) 1 1)
    (h : ∀ g' v' w', AccB g' w' v' (ys ++ [x]) → (g' = g ∨ w.heap.size < g') → w.grownBy w' (some g) → wpList Try.prog ops Q rest (a.put o.dst v') w') : wpList Try.prog ops Q (o :: rest) a (w.alloc (.cells #[.int .i64 x] 3)) := by
  obtain ⟨g', v', w', hr, h1, h2, h3⟩ := run_app1B (w := w.alloc (.cells #[.int .i64 x] 3)) o.type (hacc.alloc _) hl x ⟨w.heap.size, 0, none⟩ (by simp [Addr.add])
  refine wpList_plain hgd fun _ hK => ?_
  unfold Oper.wp execOp
  simp only [ho, resolve, invoke, builtin, Sem.run_bind, Sem.run_pure, Result.andThen_ok, List.map_toArray, List.map_cons, List.map_nil, hs, hy, hr]
  exact hK _ _ (h g' v' w' h1 (by simp at h2; omega) (grown_trans (World.grownBy_alloc _ _ _) h3))
/-- append(out, list...), in a region of a fixed order. -/
theorem wpList_appLB {ops : Array Oper} {rest : List Oper} (g : Nat) (w : World) (v : Value) (ys : List Int) (hacc : AccB g w v ys) (lo hi : Nat) (B : Option Addr) (n c : Nat) (xs : List Int) (hx : Ints lo hi w B n c xs) (hl : ys.length + n ≤ 10000000) (s y : Operand)
    (hgd : o.guard = none) (ho : o.op = .call { callee := .builtin .append, args := #[s, y], argTypes := #[24, 24] })
    (hs : a.eval s = v) (hy : a.eval y = .slice B n c)
    (h : ∀ g' v' w', AccB g' w' v' (ys ++ xs) → (g' = g ∨ w.heap.size ≤ g') → w.grownBy w' (some g) → wpList Try.prog ops Q rest (a.put o.dst v') w') : wpList Try.prog ops Q (o :: rest) a w := by
  obtain ⟨g', v', w', hr, h1, h2, h3⟩ := run_appLB o.type hacc lo hi B n c xs hx hl
  refine wpList_plain hgd fun _ hK => ?_
  unfold Oper.wp execOp
  simp only [ho, resolve, invoke, builtin, Sem.run_bind, Sem.run_pure, Result.andThen_ok, List.map_toArray, List.map_cons, List.map_nil, hs, hy, hr]
  exact hK _ _ (h g' v' w' h1 h2 h3)
end

end Il
end Go.Proofs.Ytjdkhloijddjjab
