/-
  A slice of ints that a call gathers by append, one number at a time: what it owns, and append's law for one number.
-/
import Derived.Test.YtjdkhloijddjjabChecked
import Derived.Test.YtjdkhloijddjjabIl
import Derived.Deep.AppendLies
import Derived.OwnWalk
namespace Go.Proofs.Ytjdkhloijddjjab
open Go.RowKit
namespace Il

theorem infoInt : (Try.prog.info? 3).map (fun i => (i.zero, i.size, i.bytes)) = some (some (.int .i64 0), 1, 8) := by kernel_rfl

/-- The slice v, gathered since the world was w0, holds ys; of what was there only block 'row' may have turned. -/
def AccR (row : Option Nat) (w0 w : World) (v : Value) (ys : List Int) : Prop :=
  w.ownsRow w0.heap.size 3 1 v ys.length (ys.map (Value.int .i64)) ∧ w0.grownBy w row
/-- .. nothing that was there has turned. -/
abbrev Acc (w0 w : World) (v : Value) (ys : List Int) : Prop := AccR none w0 w v ys

theorem AccR.drewN {row : Option Nat} {w0 w : World} {v : Value} {ys : List Int} (h : AccR row w0 w v ys) (d : Nat) : AccR row w0 (w.drewN d) v ys := ⟨h.1, ⟨h.2.os, h.2.tape, h.2.output, h.2.size, h.2.block⟩⟩
theorem AccR.drew {row : Option Nat} {w0 w : World} {v : Value} {ys : List Int} (h : AccR row w0 w v ys) : AccR row w0 w.drew v ys := ⟨h.1, ⟨h.2.os, h.2.tape, h.2.output, h.2.size, h.2.block⟩⟩
/-- A call in between that turns no block of the slice's own. -/
theorem AccR.step {row : Option Nat} {w0 w w' : World} {v : Value} {ys : List Int} (h : AccR row w0 w v ys) (hg : w.grownBy w' row) (hr : ∀ g, row = some g → g < w0.heap.size) : AccR row w0 w' v ys := by
  refine ⟨h.1.kept hg ?_, grown_trans h.2 hg⟩
  cases hv : v.ownBlock with
  | none => exact .inl rfl
  | some k =>
    right
    intro e
    have h1 := (h.1.lt k hv).1
    have h2 := hr k e.symm
    omega
theorem AccR.alloc {row : Option Nat} {w0 w : World} {v : Value} {ys : List Int} (h : AccR row w0 w v ys) (o : Obj) : AccR row w0 (w.alloc o) v ys := ⟨h.1.alloc o, grown_alloc h.2 o⟩
/-- []int{x, y, z} -/
theorem ints_three (w : World) (x y z : Int) : Ints w.heap.size (w.heap.size + 1) (w.alloc (.cells #[.int .i64 x, .int .i64 y, .int .i64 z] 3)) (some ⟨w.heap.size, 0, none⟩) 3 3 [x, y, z] := by
  have hh : (w.alloc (.cells #[.int .i64 x, .int .i64 y, .int .i64 z] 3)).heap[w.heap.size]? = some (.cells #[.int .i64 x, .int .i64 y, .int .i64 z] 3 (0, 0)) := heap_alloc_new _ _
  refine ⟨rfl, Nat.le_refl _, by unfold maxLen; omega, fun _ => ⟨_, 0, rfl, Nat.le_refl _, by omega, by simp, fun j hj => ?_⟩⟩
  rw [Nat.zero_add, cell_of_row _ _ j _ _ _ hh]
  obtain rfl | rfl | rfl : j = 0 ∨ j = 1 ∨ j = 2 := by omega
  all_goals rfl
theorem acc_three (w : World) (x y z : Int) : AccR none w (w.alloc (.cells #[.int .i64 x, .int .i64 y, .int .i64 z] 3)) (.slice (some ⟨w.heap.size, 0, none⟩) 3 3) [x, y, z] :=
  ⟨⟨rfl, .inr ⟨w.heap.size, 3, #[.int .i64 x, .int .i64 y, .int .i64 z], rfl, Nat.le_refl _, heap_alloc_new w _, Nat.le_refl _, by unfold maxLen; omega, rfl, rfl⟩⟩, World.grownBy_alloc _ _ _⟩
theorem Acc.below {w0 w : World} {v : Value} {ys : List Int} (h : Acc w0 w v ys) : Below w0.heap.size w0 w := below_of_grown h.2

/-- []int{} -/
theorem acc_new (w : World) : Acc w (w.alloc (.cells #[] 3)) (.slice (some ⟨w.heap.size, 0, none⟩) 0 0) [] :=
  ⟨World.ownsRow_made w #[] 0 (Nat.le_refl _) (Nat.zero_le _) rfl, World.grownBy_alloc _ _ _⟩
theorem accR_new (row : Option Nat) (w : World) : AccR row w (w.alloc (.cells #[] 3)) (.slice (some ⟨w.heap.size, 0, none⟩) 0 0) [] :=
  ⟨World.ownsRow_made w #[] 0 (Nat.le_refl _) (Nat.zero_le _) rfl, World.grownBy_alloc _ _ _⟩
/-- []int{x} -/
theorem acc_one (w : World) (x : Int) : Acc w (w.alloc (.cells #[.int .i64 x] 3)) (.slice (some ⟨w.heap.size, 0, none⟩) 1 1) [x] :=
  ⟨⟨rfl, .inr ⟨w.heap.size, 1, #[.int .i64 x], rfl, Nat.le_refl _, heap_alloc_new w _, Nat.le_refl _, by unfold maxLen; omega, rfl, rfl⟩⟩, World.grownBy_alloc _ _ _⟩
/-- var out []int -/
theorem acc_nil (w : World) : Acc w w (.slice none 0 0) [] := ⟨World.ownsRow_nil _ _ _ _, World.grownBy.refl _ _⟩

theorem Acc.post {w0 w : World} {v : Value} {ys : List Int} (h : Acc w0 w v ys) : NewInts w0 ys (.returned v) w := by
  obtain ⟨A, c, rfl, ho⟩ := own_of h.1
  exact ⟨A, c, rfl, ho, Acc.below h⟩

/-- A slice that the call has gathered is returned. -/
def AccPost (xs : List Int) (w : World) (e : Ending) (w' : World) : Prop := ∃ v, e = .returned v ∧ Acc w w' v xs
theorem AccPost.new_ {xs : List Int} {w : World} {e : Ending} {w' : World} (h : AccPost xs w e w') : NewInts w xs e w' := by
  obtain ⟨v, rfl, ha⟩ := h
  exact ha.post

/-- A gathered slice, laid open at one of its places. -/
theorem acc_open {w0 w : World} {v : Value} {ys : List Int} (h : Acc w0 w v ys) {q : Nat} (hq : q < ys.length) : ∃ b f c, v = .slice (some ⟨b, f, none⟩) ys.length c ∧ Hid (Own w0.heap.size w.heap.size w (some ⟨b, f, none⟩) ys.length c ys) ∧
    w0.heap.size ≤ b ∧ b < w.heap.size ∧ w.cell? ⟨b, f + q, none⟩ = some (.int .i64 (ys.getD q 0)) ∧ w.frozen? ⟨b, f + q, none⟩ = false ∧ Hid (Below w0.heap.size w0 w) := by
  obtain ⟨A, c, rfl, ho⟩ := own_of h.1
  obtain ⟨b, f, rfl, h1, h2, hc⟩ := ho.1.at_ hq
  exact ⟨b, f, c, rfl, ho, h1, h2, hc, ho.2 b f (by omega) rfl q hq, Acc.below h⟩

section
variable {o : Oper} {a : Act} {K : Act → World → Prop} {Q : Exit → Act → World → Prop}

theorem acc_step {row : Option Nat} {w0 w w' : World} {v v' : Value} {ys : List Int} {x : Int} {o2 : Obj} (hacc : AccR row w0 w v ys) (h2 : w'.ownsRow w0.heap.size 3 1 v' (ys.length + 1) (ys.map (Value.int .i64) ++ [.int .i64 x]))
    (h3 : (w.alloc o2).grownBy w' v.ownBlock) : AccR row w0 w' v' (ys ++ [x]) :=
  ⟨by simpa using h2, grown_trans' (grown_alloc hacc.2 o2) h3 fun k hk => (hacc.1.lt k hk).1⟩

theorem acc_below {row : Option Nat} {w0 w w' : World} {v : Value} {ys : List Int} {o2 : Obj} (hacc : AccR row w0 w v ys) (h3 : (w.alloc o2).grownBy w' v.ownBlock) : Below w0.heap.size w w' :=
  ((Below.refl _ _).alloc hacc.2.size o2).grown h3 (by have := hacc.2.size; simp; omega) fun k hk => (hacc.1.lt k hk).1

/-- append(out, x), in a region of a fixed order. -/
theorem wpList_app1 {ops : Array Oper} {rest : List Oper} {row : Option Nat} (w0 w : World) (v : Value) (ys : List Int) (x : Int) (hacc : AccR row w0 w v ys) (hl : ys.length ≤ 10000000) (s y : Operand)
    (hgd : o.guard = none) (ho : o.op = .call { callee := .builtin .append, args := #[s, y], argTypes := #[24, 24] })
    (hs : a.eval s = v) (hy : a.eval y = .slice (some ⟨w.heap.size, 0, none⟩) 1 1)
    (h : ∀ v' w', AccR row w0 w' v' (ys ++ [x]) → Below w0.heap.size w w' → wpList Try.prog ops Q rest (a.put o.dst v') w') : wpList Try.prog ops Q (o :: rest) a (w.alloc (.cells #[.int .i64 x] 3)) := by
  obtain ⟨i0, hi, hz0, hz1, hz2⟩ := info_parts infoInt
  refine wpList_append_own _ hgd s y 24 ho w0.heap.size 3 i0 (.int .i64 0) 1 8 Try.underlying24 hi hz0 hz1 hz2 rfl (by decide) v ys.length _ hs (hacc.1.alloc _) ⟨w.heap.size, 0, none⟩ 1 1 [.int .i64 x] hy rfl
    ?_ ?_ (by unfold maxLen; omega) (by omega) (by have := hacc.2.size; simp; omega) ?_
  · intro j u hj
    match j, hj with
    | 0, hj => simp at hj; subst hj; simp [Addr.add]
  · intro u hu; simp at hu; subst hu; rfl
  · intro v' w' h2 h3 _
    exact h v' w' (acc_step hacc h2 h3) (acc_below hacc h3)

/-- append(out, x), in a region that draws its order. -/
theorem step_app1 {ops : Array Oper} {E : Prop} {row : Option Nat} (w0 w : World) (v : Value) (ys : List Int) (x : Int) (hacc : AccR row w0 w v ys) (hl : ys.length ≤ 10000000) (s y : Operand)
    (hgd : o.guard = none) (ho : o.op = .call { callee := .builtin .append, args := #[s, y], argTypes := #[24, 24] })
    (hs : a.eval s = v) (hy : a.eval y = .slice (some ⟨w.heap.size, 0, none⟩) 1 1)
    (h : ∀ v' w', AccR row w0 w' v' (ys ++ [x]) → Below w0.heap.size w w' → K (a.put o.dst v') w') : if Region.wanted o (yielded ops a.tmps) = true then Oper.wp Try.prog o a (w.alloc (.cells #[.int .i64 x] 3)) K Q else E := by
  have hw : Region.wanted o (yielded ops a.tmps) = true := by simp [Region.wanted, hgd]
  rw [if_pos hw]
  obtain ⟨i0, hi, hz0, hz1, hz2⟩ := info_parts infoInt
  refine wp_append_own _ s y 24 ho w0.heap.size 3 i0 (.int .i64 0) 1 8 Try.underlying24 hi hz0 hz1 hz2 rfl (by decide) v ys.length _ hs (hacc.1.alloc _) ⟨w.heap.size, 0, none⟩ 1 1 [.int .i64 x] hy rfl
    ?_ ?_ (by unfold maxLen; omega) (by omega) (by have := hacc.2.size; simp; omega) ?_
  · intro j u hj
    match j, hj with
    | 0, hj => simp at hj; subst hj; simp [Addr.add]
  · intro u hu; simp at hu; subst hu; rfl
  · intro v' w' h2 h3 _
    exact h v' w' (acc_step hacc h2 h3) (acc_below hacc h3)

/-- append(out, list...), in a region of a fixed order; the list has numbers. -/
theorem wpList_appL {ops : Array Oper} {rest : List Oper} {row : Option Nat} (w0 w : World) (v : Value) (ys : List Int) (hacc : AccR row w0 w v ys) (lo hi : Nat) (ad : Addr) (n c : Nat) (xs : List Int) (hx : Ints lo hi w (some ad) n c xs) (hn : 0 < n)
    (hl : ys.length + n ≤ 10000000) (s y : Operand)
    (hgd : o.guard = none) (ho : o.op = .call { callee := .builtin .append, args := #[s, y], argTypes := #[24, 24] })
    (hs : a.eval s = v) (hy : a.eval y = .slice (some ad) n c)
    (h : ∀ v' w', AccR row w0 w' v' (ys ++ xs) → Below w0.heap.size w w' → wpList Try.prog ops Q rest (a.put o.dst v') w') : wpList Try.prog ops Q (o :: rest) a w := by
  obtain ⟨i0, hi0, hz0, hz1, hz2⟩ := info_parts infoInt
  have hxl := hx.1
  obtain ⟨b, off, e, _, _, _, hc⟩ := hx.2.2.2 hn
  obtain rfl : ad = ⟨b, off, none⟩ := by simpa using e
  refine wpList_append_own _ hgd s y 24 ho w0.heap.size 3 i0 (.int .i64 0) 1 8 Try.underlying24 hi0 hz0 hz1 hz2 rfl (by decide) v ys.length _ hs hacc.1 ⟨b, off, none⟩ n c (xs.map (Value.int .i64)) hy (by simp [hxl])
    ?_ ?_ (by unfold maxLen; omega) (by omega) hacc.2.size ?_
  · intro j u hj
    have hjl : j < n := by
      rcases Nat.lt_or_ge j n with h | h
      · exact h
      · rw [List.getElem?_eq_none (by simpa [hxl] using h)] at hj; cases hj
    have e2 : (Addr.add ⟨b, off, none⟩ j) = ⟨b, off + j, none⟩ := by
      unfold Addr.add; split <;> simp_all
    rw [e2, hc j hjl, ← hj, List.getElem?_map, List.getD_eq_getElem?_getD, List.getElem?_eq_getElem (by omega)]
    rfl
  · intro u hu
    obtain ⟨z, _, rfl⟩ := List.mem_map.1 hu
    rfl
  · intro v' w' h2 h3 _
    refine h v' w' ⟨by simpa [hxl] using h2, grown_trans' hacc.2 h3 fun k hk => (hacc.1.lt k hk).1⟩ ?_
    exact (Below.refl _ _).grown h3 hacc.2.size fun k hk => (hacc.1.lt k hk).1

/-- append(out, list...), in a region that draws its order; the list has numbers. -/
theorem step_appL {ops : Array Oper} {E : Prop} {row : Option Nat} (w0 w : World) (v : Value) (ys : List Int) (hacc : AccR row w0 w v ys) (lo hi : Nat) (ad : Addr) (n c : Nat) (xs : List Int) (hx : Ints lo hi w (some ad) n c xs) (hn : 0 < n)
    (hl : ys.length + n ≤ 10000000) (s y : Operand)
    (hgd : o.guard = none) (ho : o.op = .call { callee := .builtin .append, args := #[s, y], argTypes := #[24, 24] })
    (hs : a.eval s = v) (hy : a.eval y = .slice (some ad) n c)
    (h : ∀ v' w', AccR row w0 w' v' (ys ++ xs) → Below w0.heap.size w w' → K (a.put o.dst v') w') : if Region.wanted o (yielded ops a.tmps) = true then Oper.wp Try.prog o a w K Q else E := by
  have hw : Region.wanted o (yielded ops a.tmps) = true := by simp [Region.wanted, hgd]
  rw [if_pos hw]
  obtain ⟨i0, hi0, hz0, hz1, hz2⟩ := info_parts infoInt
  have hxl := hx.1
  obtain ⟨b, off, e, _, _, _, hc⟩ := hx.2.2.2 hn
  obtain rfl : ad = ⟨b, off, none⟩ := by simpa using e
  refine wp_append_own _ s y 24 ho w0.heap.size 3 i0 (.int .i64 0) 1 8 Try.underlying24 hi0 hz0 hz1 hz2 rfl (by decide) v ys.length _ hs hacc.1 ⟨b, off, none⟩ n c (xs.map (Value.int .i64)) hy (by simp [hxl])
    ?_ ?_ (by unfold maxLen; omega) (by omega) hacc.2.size ?_
  · intro j u hj
    have hjl : j < n := by
      rcases Nat.lt_or_ge j n with h | h
      · exact h
      · rw [List.getElem?_eq_none (by simpa [hxl] using h)] at hj; cases hj
    have e2 : (Addr.add ⟨b, off, none⟩ j) = ⟨b, off + j, none⟩ := by
      unfold Addr.add; split <;> simp_all
    rw [e2, hc j hjl, ← hj, List.getElem?_map, List.getD_eq_getElem?_getD, List.getElem?_eq_getElem (by omega)]
    rfl
  · intro u hu
    obtain ⟨z, _, rfl⟩ := List.mem_map.1 hu
    rfl
  · intro v' w' h2 h3 _
    refine h v' w' ⟨by simpa [hxl] using h2, grown_trans' hacc.2 h3 fun k hk => (hacc.1.lt k hk).1⟩ ?_
    exact (Below.refl _ _).grown h3 hacc.2.size fun k hk => (hacc.1.lt k hk).1

/-- Nothing is appended: the slice is as it was. -/
theorem run_app_nil {row : Option Nat} {w0 w : World} {v : Value} {ys : List Int} (hacc : AccR row w0 w v ys) (ty : TypeId) (c : Nat) : (Builtin.append_ #[24, 24] ty #[v, .slice none 0 c]).run Try.prog w = .ok v w := by
  obtain ⟨i0, hi, _, _, _⟩ := info_parts infoInt
  rcases hacc.1.2 with ⟨rfl, _⟩ | ⟨g, cap, cur, rfl, _, _, hnc, _⟩
  · simp [Builtin.append_, run_underlying Try.underlying24, sizeOf, typeInfo, hi, Builtin.lenOf, Builtin.firstCells]
  · simp [Builtin.append_, run_underlying Try.underlying24, sizeOf, typeInfo, hi, Builtin.lenOf, Builtin.firstCells, hnc, storeCells]

/-- append(out, list...), in a region of a fixed order; the list may be nil or empty. -/
theorem wpList_appAny {ops : Array Oper} {rest : List Oper} {row : Option Nat} (w0 w : World) (v : Value) (ys : List Int) (hacc : AccR row w0 w v ys) (lo hi : Nat) (B : Option Addr) (n c : Nat) (xs : List Int) (hx : Ints lo hi w B n c xs)
    (hl : ys.length + n ≤ 10000000) (s y : Operand)
    (hgd : o.guard = none) (ho : o.op = .call { callee := .builtin .append, args := #[s, y], argTypes := #[24, 24] })
    (hs : a.eval s = v) (hy : a.eval y = .slice B n c)
    (h : ∀ v' w', AccR row w0 w' v' (ys ++ xs) → Below w0.heap.size w w' → wpList Try.prog ops Q rest (a.put o.dst v') w') : wpList Try.prog ops Q (o :: rest) a w := by
  rcases Nat.eq_zero_or_pos n with rfl | hn
  · have hxe : xs = [] := List.eq_nil_of_length_eq_zero hx.1
    subst hxe
    rw [List.append_nil] at h
    cases B with
    | none =>
      refine wpList_plain hgd fun _ hK => ?_
      unfold Oper.wp execOp
      simp only [ho, resolve, invoke, builtin, Sem.run_bind, Sem.run_pure, Result.andThen_ok, List.map_toArray, List.map_cons, List.map_nil, hs, hy, run_app_nil hacc]
      exact hK _ _ (h v w hacc (Below.refl _ _))
    | some ad =>
      obtain ⟨i0, hi0, hz0, hz1, hz2⟩ := info_parts infoInt
      refine wpList_append_own _ hgd s y 24 ho w0.heap.size 3 i0 (.int .i64 0) 1 8 Try.underlying24 hi0 hz0 hz1 hz2 rfl (by decide) v ys.length _ hs hacc.1 ad 0 c [] hy rfl
        (fun j u hj => by simp at hj) (fun u hu => by simp at hu) (by unfold maxLen; omega) (by omega) hacc.2.size ?_
      intro v' w' h2 h3 _
      exact h v' w' ⟨by simpa using h2, grown_trans' hacc.2 h3 fun k hk => (hacc.1.lt k hk).1⟩ ((Below.refl _ _).grown h3 hacc.2.size fun k hk => (hacc.1.lt k hk).1)
  · obtain ⟨b, off, rfl, _⟩ := hx.2.2.2 hn
    exact wpList_appL w0 w v ys hacc lo hi ⟨b, off, none⟩ n c xs hx hn hl s y hgd ho hs hy h

end
end Il
end Go.Proofs.Ytjdkhloijddjjab
