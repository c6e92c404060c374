/-
  Slots from the second one on, and an empty one behind them.
-/
import Derived.Test.YtoghgliijjfppaaGk
import Derived.ArgAppend
namespace Go.Proofs.Ytoghgliijjfppaa
open Go.RowKit
namespace Cs
open Il Sl Fo Cm

/-- append(out[1:], []int{}) -/
theorem run_tailK {lo M : Nat} {w : World} {v : Value} {ss : List Sk} (h : GatK lo M w v ss) (hn : 1 ≤ ss.length) (hl : ss.length ≤ 1000) (B : Option Addr) (d : Nat) (hd : d ≤ maxLen) (ty : TypeId) :
    ∃ k cap, v = .slice (some ⟨k, 0, none⟩) ss.length cap ∧ ss.length ≤ cap ∧ cap ≤ maxLen ∧
      ∃ v' w', (Builtin.append_ #[25, 25] ty #[.slice (some ⟨k, 1, none⟩) (ss.length - 1) (cap - 1), .slice (some ⟨w.heap.size, 0, none⟩) 1 1]).run Try.prog (w.alloc (.cells #[.slice B 0 d] 23)) = .ok v' w' ∧
        (∃ A' c', v' = .slice A' ss.length c' ∧ ∀ w'' : World, w'.heap.size ≤ w''.heap.size → (∀ y, y < M ∨ w.heap.size ≤ y → w''.heap[y]? = w'.heap[y]?) → Sts lo w''.heap.size w'' A' ss.length c' ((ss.map (·.xs)).drop 1 ++ [[]])) ∧ Below lo w w' ∧ (∀ y, y < w.heap.size → y < lo ∨ M ≤ y → w'.heap[y]? = w.heap[y]?) := by
  have hal : Below w.heap.size w (w.alloc (.cells #[.slice B 0 d] 23)) := (Below.refl _ _).alloc (Nat.le_refl _) _
  have hsz : (w.alloc (.cells #[.slice B 0 d] 23)).heap.size = w.heap.size + 1 := by simp
  obtain ⟨i0, hi0, hz0, hz1, hz2⟩ := el_parts elSk
  obtain ⟨g, h1, h2, h3, h4⟩ := h
  rcases h1 with ⟨_, hz, _⟩ | ⟨k, rfl, ha⟩
  · omega
  have hkm := h4 _ List.mem_cons_self k (by simp)
  have hklt := ha.lt
  have ha1 := ha.alloc (.cells #[.slice B 0 d] 23)
  obtain ⟨cap, rfl, ho⟩ := ha
  obtain ⟨cap', e', ho1⟩ := ha1
  simp only [Value.slice.injEq, true_and] at e'
  subst e'
  rcases ho1.2 with ⟨q, _⟩ | ⟨g1, cap1, cur, q, _, hh, hnc, hmx, hcs, htk⟩
  · simp at q
  simp only [Value.slice.injEq, Option.some.injEq, Addr.mk.injEq, and_true] at q
  obtain ⟨rfl, _, rfl⟩ := q
  refine ⟨k, cap, rfl, hnc, hmx, ?_⟩
  have hcells : ∀ j u, (ss.map Sk.cell)[j]? = some u → (w.alloc (.cells #[.slice B 0 d] 23)).cell? ⟨k, j, none⟩ = some u := fun j u hj => by
    rw [cell_of_row _ k j cur _ (0, 0) hh]
    have hjl := (List.getElem?_eq_some_iff.1 hj).1
    rw [List.length_map] at hjl
    rw [← htk, List.getElem?_take_of_lt (by omega), Array.getElem?_toList] at hj
    exact hj
  have hnews : ∀ j u, [Value.slice B 0 d][j]? = some u → (w.alloc (.cells #[.slice B 0 d] 23)).cell? ((⟨w.heap.size, 0, none⟩ : Addr).add j) = some u := fun j u hj => by
    match j, hj with
    | 0, hj => simp at hj; subst hj; simp [Addr.add]
  -- a slot of the list, in a world in which its block lies as it lay
  have hslot : ∀ w' : World, w.heap.size ≤ w'.heap.size → (∀ y, y < M → y < w.heap.size → y ≠ k → w'.heap[y]? = w.heap[y]?) → ∀ s ∈ ss, Ints lo w'.heap.size w' s.A s.xs.length s.c s.xs := fun w' hs' hkp s hs => by
    have hso : SkO w' s := (h2 s hs).keepC hs' fun y hy => hkp y (h4 _ (List.mem_cons_of_mem _ (List.mem_map_of_mem hs)) y hy).2 ((h2 s hs).lt_ y hy) fun e => (List.pairwise_cons.1 h3).1 _ (List.mem_map_of_mem hs) k (by simp) (e ▸ hy)
    exact ints_in hso.1 fun hn => ⟨(h4 _ (List.mem_cons_of_mem _ (List.mem_map_of_mem hs)) _ (mem_fp.2 ⟨hn, rfl⟩)).1, own_ltC hso hn⟩
  have hxs : ((ss.drop 1 ++ [(⟨[], B, d, 0⟩ : Sk)]).map (fun s : Sk => s.xs)) = (ss.map (·.xs)).drop 1 ++ [[]] := by rw [List.map_append, List.map_drop]; rfl
  have hcs' : (ss.drop 1 ++ [(⟨[], B, d, 0⟩ : Sk)]).map Sk.cell = (ss.map Sk.cell).drop 1 ++ [.slice B 0 d] := by rw [List.map_append, List.map_drop]; rfl
  have hfin : ∀ w' : World, w.heap.size ≤ w'.heap.size → (∀ y, y < M → y < w.heap.size → y ≠ k → w'.heap[y]? = w.heap[y]?) → ∀ A' c', Row lo w'.heap.size w' A' ss.length c' 1 ((ss.map Sk.cell).drop 1 ++ [.slice B 0 d]) → Sts lo w'.heap.size w' A' ss.length c' ((ss.map (·.xs)).drop 1 ++ [[]]) := fun w' hs' hkp A' c' hr => by
    refine ⟨ss.drop 1 ++ [⟨[], B, d, 0⟩], hxs, by rw [hcs']; exact hr, fun s hs => ?_⟩
    rcases List.mem_append.1 hs with h | h
    · exact hslot w' hs' hkp s (List.mem_of_mem_drop h)
    · simp only [List.mem_singleton] at h
      subst h
      exact Ints.nil_ hd
  by_cases hroom : ss.length ≤ cap - 1
  · have hc : ∀ j, j < [Value.slice B 0 d].length → ((w.alloc (.cells #[.slice B 0 d] 23)).cell? ⟨k, 1 + (ss.length - 1) * i0.size + j, none⟩).isSome = true := fun j hj => by
      rw [cell_of_row _ _ _ _ _ _ hh, hz1]
      simp only [List.length_singleton] at hj
      have : 1 + (ss.length - 1) * 1 + j < cur.size := by omega
      rw [Array.getElem?_eq_getElem this]; rfl
    have hf : ∀ j, j < [Value.slice B 0 d].length → (w.alloc (.cells #[.slice B 0 d] 23)).frozen? ⟨k, 1 + (ss.length - 1) * i0.size + j, none⟩ = false := fun j _ => by simp [World.frozen?, hh]
    have hr := run_append_room_cells (P := Try.prog) (w.alloc (.cells #[.slice B 0 d] 23)) 25 ty 23 i0 elSk.under hi0 k 1 (ss.length - 1) (cap - 1) ⟨w.heap.size, 0, none⟩ 1 1 [.slice B 0 d] (by rw [hz1]; rfl) hnews (fun u hu => by simp at hu; subst hu; rfl) (by omega) hc hf
    have e1 : ss.length - 1 + 1 = ss.length := by omega
    have e2 : 1 + (ss.length - 1) * i0.size = ss.length := by rw [hz1]; omega
    rw [e1, e2] at hr
    have e3 : (w.alloc (.cells #[.slice B 0 d] 23)).setCells k ss.length [.slice B 0 d] = (w.alloc (.cells #[.slice B 0 d] 23)).setCell ⟨k, ss.length, none⟩ (.slice B 0 d) := rfl
    rw [e3] at hr
    have hsz2 : ((w.alloc (.cells #[.slice B 0 d] 23)).setCell ⟨k, ss.length, none⟩ (.slice B 0 d)).heap.size = w.heap.size + 1 := by simp [World.setCell]
    refine ⟨_, _, hr, ⟨_, _, rfl, fun w'' hs'' hk'' => ?_⟩, (hal.mono (by omega)).setCell (p := ⟨k, ss.length, none⟩) hkm.1 _, fun y hy hd2 => (Below.heap_setCell _ _ _ _ (show y ≠ k by omega)).trans (hal.block y hy)⟩
    refine hfin _ (by omega) (fun y hy1 hy hne => (hk'' y (.inl hy1)).trans ((Below.heap_setCell _ _ _ _ (show y ≠ k from hne)).trans (hal.block y hy))) _ _ ⟨?_, hroom, by omega, fun _ => ⟨k, 1, rfl, hkm.1, by omega, by omega, fun j u hj => (World.cell?_of_block (hk'' k (.inl hkm.2))).trans ?_⟩⟩
    · rw [List.length_append, List.length_drop, List.length_map, List.length_singleton]; omega
    · have hdl : ((ss.map Sk.cell).drop 1).length = ss.length - 1 := by rw [List.length_drop, List.length_map]
      by_cases hjl : j < ss.length - 1
      · rw [List.getElem?_append_left (by omega), List.getElem?_drop] at hj
        rw [World.cell?_setCell_other _ _ _ _ (by simp only [ne_eq, Addr.mk.injEq, true_and, and_true]; omega)]
        exact hcells _ u hj
      · rw [List.getElem?_append_right (by omega), hdl] at hj
        have hj0 : j - (ss.length - 1) = 0 := by
          have := (List.getElem?_eq_some_iff.1 hj).1
          simp at this; omega
        rw [hj0] at hj
        simp at hj
        subst hj
        have e4 : 1 + j = ss.length := by omega
        rw [e4]
        have h5 := hc 0 (by simp)
        rw [e2, Nat.add_zero] at h5
        obtain ⟨u0, hu0⟩ := Option.isSome_iff_exists.1 h5
        exact World.cell?_setCell_same _ _ _ hu0
  · obtain ⟨v', w', hr, how, hgr⟩ := run_append_arg_grows (P := Try.prog) (w.alloc (.cells #[.slice B 0 d] 23)) 25 ty 23 i0 _ 1 24 elSk.under hi0 hz0 hz1 hz2 elSk.zs elSk.pos ⟨k, 1, none⟩ (ss.length - 1) (cap - 1) ((ss.map Sk.cell).drop 1) (by rw [List.length_drop, List.length_map]; omega) (fun j u hj => by
        rw [List.getElem?_drop] at hj
        have e2 : (Addr.add ⟨k, 1, none⟩ j) = ⟨k, 1 + j, none⟩ := by unfold Addr.add; split <;> simp_all
        rw [e2]
        exact hcells _ u hj) ⟨w.heap.size, 0, none⟩ 1 1 [.slice B 0 d] rfl hnews (by omega) (by unfold maxLen; omega) (by omega)
    have e1 : ss.length - 1 + 1 = ss.length := by omega
    rw [e1] at how
    obtain ⟨A', c', rfl, hrow⟩ := row_of how
    have hgs := hgr.size
    have hkp : ∀ y, y < w.heap.size → w'.heap[y]? = w.heap[y]? := fun y hy => (hgr.block y (by omega) (by simp)).trans (hal.block y hy)
    exact ⟨_, _, hr, ⟨A', c', rfl, fun w'' hs'' hk'' => hfin _ (by omega) (fun y hy1 hy _ => (hk'' y (.inl hy1)).trans (hkp y hy)) _ _ ((hrow.1.keep hs'' fun b q1 q2 q3 => hk'' b (.inr (by omega))).mono (by omega) hs'')⟩, (hal.mono (by omega)).grown hgr (by omega) fun q e => by simp at e, fun y hy _ => hkp y hy⟩
section
variable {o : Oper} {a : Act} {Q : Exit → Act → World → Prop}
theorem wpList_tailK {ops : Array Oper} {rest : List Oper} {lo M m : Nat} {w : World} {k cap : Nat} {ss : List Sk} (hgp : GatK lo M w (.slice (some ⟨k, 0, none⟩) m cap) ss) (hm : ss.length = m) (hn : 1 ≤ m) (hl : m ≤ 1000) (B : Option Addr) (d : Nat) (hd : d ≤ maxLen) (s y : Operand)
    (hgd : o.guard = none) (ho : o.op = .call { callee := .builtin .append, args := #[s, y], argTypes := #[25, 25] }) (hsv : a.eval s = .slice (some ⟨k, 1, none⟩) (m - 1) (cap - 1)) (hy : a.eval y = .slice (some ⟨w.heap.size, 0, none⟩) 1 1)
    (h : ∀ A' c' w', (∀ w'' : World, w'.heap.size ≤ w''.heap.size → (∀ y, y < M ∨ w.heap.size ≤ y → w''.heap[y]? = w'.heap[y]?) → Sts lo w''.heap.size w'' A' m c' ((ss.map (·.xs)).drop 1 ++ [[]])) → Below lo w w' → (∀ y, y < w.heap.size → y < lo ∨ M ≤ y → w'.heap[y]? = w.heap[y]?) → wpList Try.prog ops Q rest (a.put o.dst (.slice A' m c')) w') : wpList Try.prog ops Q (o :: rest) a (w.alloc (.cells #[.slice B 0 d] 23)) := by
  subst hm
  obtain ⟨k', cap', e, _, _, v', w', hr, ⟨A', c', rfl, q1⟩, q2, q3⟩ := run_tailK hgp hn hl B d hd o.type
  simp only [Value.slice.injEq, Option.some.injEq, Addr.mk.injEq, and_true, true_and] at e
  obtain ⟨rfl, rfl⟩ := e
  refine wpList_plain hgd fun _ hK => ?_
  unfold Oper.wp execOp
  simp only [ho, resolve, invoke, builtin, Sem.run_bind, Sem.run_pure, Result.andThen_ok, List.map_toArray, List.map_cons, List.map_nil, hsv, hy, hr]
  exact hK _ _ (h A' c' w' q1 q2 q3)
theorem GatK.first {lo hi : Nat} {w : World} {v : Value} {ss : List Sk} {m : Nat} (h : GatK lo hi w v ss) (hm : ss.length = m) (hn : 1 ≤ m) : ∃ k cap, v = .slice (some ⟨k, 0, none⟩) m cap ∧ m ≤ cap ∧ cap ≤ maxLen := by
  subst hm
  obtain ⟨g, h1, _⟩ := h
  rcases h1 with ⟨_, hz, _⟩ | ⟨k, rfl, ha⟩
  · omega
  · obtain ⟨cap, rfl, ho⟩ := ha
    rcases ho.2 with ⟨q, _⟩ | ⟨g1, cap1, cur, q, _, hh, hnc, hmx, _⟩
    · simp at q
    · simp only [Value.slice.injEq, Option.some.injEq, Addr.mk.injEq, and_true] at q
      obtain ⟨rfl, _, rfl⟩ := q
      exact ⟨k, cap, rfl, hnc, hmx⟩
end

end Cs
end Go.Proofs.Ytoghgliijjfppaa
