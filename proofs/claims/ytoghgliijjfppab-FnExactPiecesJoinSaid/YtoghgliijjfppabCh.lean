/-
  Channels of one goroutine, for the walks of the plain kind: a region's operations by steps of the machine, so that a send into a buffer with room and a receive that finds a value, or finds the channel closed, stand among them.
-/
import Derived.Conc.LoneCalls
import Derived.Tactics
namespace Go.Proofs.Ytoghgliijjfppab.Chn
open Go.Conc

theorem step_value {P : Program} {ops : Array Oper} {o : Oper} {b : Frame} {a : Act} {k : List Item} {cs : List Frame} {w w' : World} {i : Nat} {rest : List Nat} {v : Value} (ho : ops[i]? = some o) (hw : Region.wanted o (yielded ops a.tmps) = true)
    (hr : (execOp a.eval o).run P w = .ok (.value v) w') :
    step P (lone (b.at a (.inRegion ops (i :: rest) :: k)) cs w) = .next (lone (b.at (a.put o.dst v) (.inRegion ops rest :: k)) cs w') := by
  have hfin : (b.at a (.inRegion ops (i :: rest) :: k)).finish v = b.at (a.put o.dst v) (.inRegion ops rest :: k) := by rw [Frame.finish_at, ho]; rfl
  refine step_lone_go ?_
  rw [stepG_op ho hw, ← hfin]
  simp [stepG.apply, hr]

theorem comm_any {P : Program} {ops : Array Oper} {o : Oper} {b : Frame} {a : Act} {k : List Item} {cs : List Frame} {w w' : World} {i : Nat} {rest : List Nat} {cases : Array CommCase} {blocking : Bool} {shape : CommShape} (ho : ops[i]? = some o) (hw : Region.wanted o (yielded ops a.tmps) = true)
    (hr : (execOp a.eval o).run P w = .ok (.comm cases blocking shape) w') :
    ∃ es, stepG P true (G (b.at a (.inRegion ops (i :: rest) :: k)) cs) w = .comm (G (b.at a (.inRegion ops (i :: rest) :: k)) cs) cases blocking shape w' es := by
  rw [stepG_oper ho hw]
  simp [stepG.apply, hr, G, Frame.at, GStep.after]

/-- What is left of a region, from its i-th operation on. -/
def ListTo (P : Program) (ops : Array Oper) (Q : Exit → Act → World → Prop) (i : Nat) (a : Act) (w : World) : Prop :=
  ∀ (b : Frame) (k : List Item) (cs : List Frame), ∃ e a' w', Q e a' w' ∧ Arrives P (lone (b.at a (.inRegion ops (List.range' i (ops.size - i)) :: k)) cs w) b k cs e a' w'

theorem wp_region_to {P : Program} {ops : Array Oper} {Q : Exit → Act → World → Prop} {a : Act} {w : World} {id : Nat} (h : ListTo P ops Q 0 a w) : (Code.region id ops false).wp P Q a w := fun b k cs => by
  obtain ⟨e, a', w', q, r⟩ := h b k cs
  rw [Nat.sub_zero, ← List.range_eq_range'] at r
  exact ⟨e, a', w', q, .of_steps (.one step_region) r⟩

theorem range_from {n i : Nat} (h : i < n) : List.range' i (n - i) = i :: List.range' (i + 1) (n - (i + 1)) := by
  rw [show n - i = (n - (i + 1)) + 1 from by omega, List.range'_succ]

theorem ListTo.rest {P : Program} {ops : Array Oper} {Q : Exit → Act → World → Prop} {a : Act} {w : World} {i : Nat} (h : wpList P ops Q (ops.toList.drop i) a w) : ListTo P ops Q i a w := by
  have e := wpOps_eq_wpList (P := P) (ops := ops) (Q := Q) (ops.toList.drop i) i (fun j => by simp)
  rw [List.length_drop, Array.length_toList] at e
  rw [← e] at h
  exact fun b k cs => wp_ops _ a w h b k cs

theorem ListTo.value {P : Program} {ops : Array Oper} {Q : Exit → Act → World → Prop} {o : Oper} {a : Act} {w w' : World} {i : Nat} {v : Value} (ho : ops[i]? = some o) (hw : Region.wanted o (yielded ops a.tmps) = true)
    (hr : (execOp a.eval o).run P w = .ok (.value v) w') (h : ListTo P ops Q (i + 1) (a.put o.dst v) w') : ListTo P ops Q i a w := fun b k cs => by
  obtain ⟨e, a', w2, q, r⟩ := h b k cs
  rw [range_from (Array.getElem?_eq_some_iff.1 ho).1]
  exact ⟨e, a', w2, q, .of_steps (.one (step_value ho hw hr)) r⟩

theorem ListTo.stepped {P : Program} {ops : Array Oper} {Q : Exit → Act → World → Prop} {o : Oper} {a : Act} {w w' : World} {i : Nat} {v : Value} (ho : ops[i]? = some o)
    (hs : ∀ (b : Frame) (k : List Item) (cs : List Frame) (rest : List Nat), step P (solo (G (b.at a (.inRegion ops (i :: rest) :: k)) cs) w) = .next (solo (G ((b.at a (.inRegion ops (i :: rest) :: k)).finish v) cs) w'))
    (h : ListTo P ops Q (i + 1) (a.put o.dst v) w') : ListTo P ops Q i a w := fun b k cs => by
  obtain ⟨e, a', w2, q, r⟩ := h b k cs
  rw [range_from (Array.getElem?_eq_some_iff.1 ho).1]
  refine ⟨e, a', w2, q, .of_steps (.one ?_) r⟩
  have := hs b k cs (List.range' (i + 1) (ops.size - (i + 1)))
  rw [Frame.finish_at, ho] at this
  exact this

/-- A send into a buffer with room. -/
theorem ListTo.send {P : Program} {ops : Array Oper} {Q : Exit → Act → World → Prop} {o : Oper} {a : Act} {w : World} {i c cap s r : Nat} {buf : Array Value} {v z : Value} {tm : Bool} (ho : ops[i]? = some o) (hw : Region.wanted o (yielded ops a.tmps) = true)
    (hr : (execOp a.eval o).run P w = .ok (.comm #[scase c v z] true .send) w) (hc : w.heap[c]? = some (.chan cap buf false s r tm)) (hroom : buf.size < cap)
    (h : ListTo P ops Q (i + 1) (a.put o.dst undef) (w.setChan c cap (buf.push v) false (s + 1) r tm)) : ListTo P ops Q i a w :=
  ListTo.stepped ho (fun _ _ _ _ => (comm_any ho hw hr).elim fun _ he => step_lone_send_room he hc hroom) h

/-- A receive that finds a value. -/
theorem ListTo.recv {P : Program} {ops : Array Oper} {Q : Exit → Act → World → Prop} {o : Oper} {a : Act} {w : World} {i c cap s r : Nat} {buf : Array Value} {z : Value} {tm closed : Bool} (ho : ops[i]? = some o) (hw : Region.wanted o (yielded ops a.tmps) = true)
    (hr : (execOp a.eval o).run P w = .ok (.comm #[rcase c z] true (.recv true)) w) (hc : w.heap[c]? = some (.chan cap buf closed s r tm)) (hsome : 0 < buf.size)
    (h : ListTo P ops Q (i + 1) (a.put o.dst (.tuple #[buf.getD 0 undef, .bool true])) (w.setChan c cap (buf.extract 1 buf.size) closed s (r + 1) tm)) : ListTo P ops Q i a w :=
  ListTo.stepped ho (fun _ _ _ _ => (comm_any ho hw hr).elim fun _ he => step_lone_recv_buf true he hc hsome) h

/-- A receive that finds the channel closed and empty. -/
theorem ListTo.shut {P : Program} {ops : Array Oper} {Q : Exit → Act → World → Prop} {o : Oper} {a : Act} {w : World} {i c cap s r : Nat} {z : Value} {tm : Bool} (ho : ops[i]? = some o) (hw : Region.wanted o (yielded ops a.tmps) = true)
    (hr : (execOp a.eval o).run P w = .ok (.comm #[rcase c z] true (.recv true)) w) (hc : w.heap[c]? = some (.chan cap #[] true s r tm))
    (h : ListTo P ops Q (i + 1) (a.put o.dst (.tuple #[z, .bool false])) w) : ListTo P ops Q i a w :=
  ListTo.stepped ho (fun _ _ _ _ => (comm_any ho hw hr).elim fun _ he => step_lone_recv_shut true he hc) h
end Go.Proofs.Ytoghgliijjfppab.Chn
