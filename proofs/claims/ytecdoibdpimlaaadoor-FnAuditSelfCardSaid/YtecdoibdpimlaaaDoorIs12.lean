/-
  errors.Is at sentinels of errors.New: the same one, nil, another one; and what the three reasons of the program are in memory.
-/
import Derived.Test.YtecdoibdpimlaaaDoorIm12
import Derived.WalkKit
import Derived.LaidEql
import Derived.Stop.Asserts
import Derived.RowKitTokens
namespace Go.Proofs.YtecdoibdpimlaaaDoor
open Go.RowKit Go.Extern.Stop Go.Stop Go.Extern
namespace Im12
open Il Sl Gm Cm Cs Tk Sp12

theorem isTypeOf (v : Value) (w : World) : (Extern.ReflectliteType.typeOf #[.iface 84 v]).run Tryd.prog w = .ok (.iface 74 (.agg #[.pointer (some ⟨3, 84, none⟩)])) w := by kernel_rfl
def cmpF : Array Value → Sem Value := (Go.Extern.ReflectliteType.rows.getD 2 ("", fun _ => pure (.bool false))).2
theorem isComparable (w : World) : (cmpF #[.agg #[.pointer (some ⟨3, 84, none⟩)]]).run Tryd.prog w = .ok (.bool true) w := by kernel_rfl
theorem isMethodComparable (n : Nat) (v : Value) (w : World) : (Go.method (n + 1) 74 v "Comparable").run Tryd.prog w = .ok (73, v) w := by kernel_rfl
theorem isComp : (Tryd.prog.info? 84).map (·.comparable) = some true := by kernel_rfl
theorem isSize : (Tryd.prog.info? 110).map (·.size) = some 1 := by kernel_rfl
theorem noIsE (v : Value) (xT : TypeId) (w : World) : (Instr.typeAssert (.iface 84 v) xT 76 true).run Tryd.prog w = .ok (.tuple #[.nilIface, .bool false]) w := run_typeAssert_lacksB Tryd.underlying76 (by kernel_rfl) (by kernel_rfl) v xT w
theorem noUnwrapE (v : Value) (xT : TypeId) (w : World) : (Instr.typeAssert (.iface 84 v) xT 78 true).run Tryd.prog w = .ok (.tuple #[.nilIface, .bool false]) w := run_typeAssert_lacksB Tryd.underlying78 (by kernel_rfl) (by kernel_rfl) v xT w
theorem noUnwrapsE (v : Value) (xT : TypeId) (w : World) : (Instr.typeAssert (.iface 84 v) xT 80 true).run Tryd.prog w = .ok (.tuple #[.nilIface, .bool false]) w := run_typeAssert_lacksB Tryd.underlying80 (by kernel_rfl) (by kernel_rfl) v xT w

/-- What an error is: the sentinel at a. -/
def sen (a : Addr) : Value := .iface 84 (.pointer (some a))
theorem is_same (a : Addr) (w : World) :
    Calls Tryd.prog 38 #[.iface 84 (.pointer (some a)), .iface 84 (.pointer (some a))] w fun e w' => e = .returned (.bool true) ∧ w = w' := by
  obtain ⟨i, hi, hcmp⟩ := Option.map_eq_some_iff.1 isComp
  obtain ⟨j, hj, hjs⟩ := Option.map_eq_some_iff.1 isSize
  have h8 := @run_callFunc_extern Tryd.prog 48 _ Extern.ReflectliteType.typeOf Tryd.func48 (by kernel_rfl) (by kernel_rfl) (by kernel_rfl) (by kernel_rfl)
  have h32 := @run_callFunc_extern Tryd.prog 73 _ cmpF Tryd.func73 (by kernel_rfl) (by kernel_rfl) (by kernel_rfl) (by kernel_rfl)
  have tT := isTypeOf
  have cT := isComparable
  have mR := isMethodComparable
  have heq := run_eql_iface_ptr_same (P := Tryd.prog) w a Tryd.underlying43 Tryd.underlying84 hi hcmp hj
  go_enter Tryd.func38, Tryd.ntmps38
  go_wp2
  refine wp_loop_rounds 1 ?_
  rw [rounds_succ]
  go_wp2
  go_ret
  exact ⟨rfl, rfl⟩
theorem is_nil (b : Addr) (w : World) :
    Calls Tryd.prog 38 #[.nilIface, .iface 84 (.pointer (some b))] w fun e w' => e = .returned (.bool false) ∧ w = w' := by
  have hn := run_eql_iface_nil_left (P := Tryd.prog) w 84 (.pointer (some b)) Tryd.underlying43
  go_enter Tryd.func38, Tryd.ntmps38
  go_wp2
  go_ret
  exact ⟨rfl, rfl⟩
theorem is_other (a b : Addr) (w : World) (hne : a ≠ b) (ha : ∃ ca ta, w.heap[a.block]? = some (.cells ca ta (0, 0))) (hb : ∃ cb tb, w.heap[b.block]? = some (.cells cb tb (0, 0))) :
    Calls Tryd.prog 38 #[.iface 84 (.pointer (some a)), .iface 84 (.pointer (some b))] w fun e w' => e = .returned (.bool false) ∧ w = w' := by
  obtain ⟨ca, ta, ha⟩ := ha
  obtain ⟨cb, tb, hb⟩ := hb
  obtain ⟨i, hi, hcmp⟩ := Option.map_eq_some_iff.1 isComp
  obtain ⟨j, hj, hjs⟩ := Option.map_eq_some_iff.1 isSize
  have h8 := @run_callFunc_extern Tryd.prog 48 _ Extern.ReflectliteType.typeOf Tryd.func48 (by kernel_rfl) (by kernel_rfl) (by kernel_rfl) (by kernel_rfl)
  have h32 := @run_callFunc_extern Tryd.prog 73 _ cmpF Tryd.func73 (by kernel_rfl) (by kernel_rfl) (by kernel_rfl) (by kernel_rfl)
  have tT := isTypeOf
  have cT := isComparable
  have mR := isMethodComparable
  have nE := noIsE
  have uE := noUnwrapE
  have vE := noUnwrapsE
  have heq := run_eql_iface_ptr_other (P := Tryd.prog) w Tryd.underlying43 Tryd.underlying84 hi hcmp hj (by rw [hjs]; decide) hne ha hb
  go_enter Tryd.func38, Tryd.ntmps38
  go_wp2
  refine wp_loop_rounds 1 ?_
  rw [rounds_succ]
  go_wp2
  go_ret
  exact ⟨rfl, rfl⟩

/-- The three reasons, in memory: each variable holds a sentinel of its own. -/
structure Snt (w : World) (a0 a1 a2 : Addr) : Prop where
  c0 : w.cell? ⟨0, 0, none⟩ = some (.iface 84 (.pointer (some a0)))
  c1 : w.cell? ⟨1, 0, none⟩ = some (.iface 84 (.pointer (some a1)))
  c2 : w.cell? ⟨2, 0, none⟩ = some (.iface 84 (.pointer (some a2)))
  b0 : ∃ c t, w.heap[a0.block]? = some (.cells c t (0, 0))
  b1 : ∃ c t, w.heap[a1.block]? = some (.cells c t (0, 0))
  b2 : ∃ c t, w.heap[a2.block]? = some (.cells c t (0, 0))
  n01 : a0 ≠ a1
  n02 : a0 ≠ a2
  n12 : a1 ≠ a2
theorem blk_keep {K : Nat} {w w' : World} (hb : Below K w w') (hK : w.heap.size ≤ K) {b : Nat} (h : ∃ c t, w.heap[b]? = some (.cells c t (0, 0))) : ∃ c t, w'.heap[b]? = some (.cells c t (0, 0)) := by
  obtain ⟨c, t, h⟩ := h
  have hz := (Array.getElem?_eq_some_iff.1 h).1
  exact ⟨c, t, (hb.block b (by omega)).trans h⟩
theorem cell_keep {K : Nat} {w w' : World} (hb : Below K w w') (hK : w.heap.size ≤ K) {b : Nat} {v : Value} (h : w.cell? ⟨b, 0, none⟩ = some v) : w'.cell? ⟨b, 0, none⟩ = some v := by
  have hz := World.block_lt_of_cell? w ⟨b, 0, none⟩ h
  exact (World.cell?_of_block (a := ⟨b, 0, none⟩) (hb.block b (by have : b < w.heap.size := hz; omega))).trans h
theorem Snt.below {K : Nat} {w w' : World} {a0 a1 a2 : Addr} (h : Snt w a0 a1 a2) (hb : Below K w w') (hK : w.heap.size ≤ K) : Snt w' a0 a1 a2 :=
  ⟨cell_keep hb hK h.c0, cell_keep hb hK h.c1, cell_keep hb hK h.c2, blk_keep hb hK h.b0, blk_keep hb hK h.b1, blk_keep hb hK h.b2, h.n01, h.n02, h.n12⟩
/-- An error that a ticket is refused for, or none. -/
inductive Rsn (a0 a1 a2 : Addr) : Value → Bool → Prop
  | no : Rsn a0 a1 a2 .nilIface false
  | rejected : Rsn a0 a1 a2 (.iface 84 (.pointer (some a0))) true
  | spent : Rsn a0 a1 a2 (.iface 84 (.pointer (some a1))) true
  | full : Rsn a0 a1 a2 (.iface 84 (.pointer (some a2))) true
set_option maxRecDepth 20000 in
theorem refused (a0 a1 a2 : Addr) (v : Value) (b : Bool) (w : World) (h : Rsn a0 a1 a2 v b) (hs : Snt w a0 a1 a2) : Calls Tryd.prog 21 #[v] w fun e w' => e = .returned (.bool b) ∧ w = w' := by
  have z0 := hs.c0
  have z1 := hs.c1
  have z2 := hs.c2
  have HS := Lib.hid hs
  clear hs
  cases h with
  | no =>
    go_enter Tryd.func21, Tryd.ntmps21
    go_wp2_with fail
    ((with_reducible refine (is_nil a0 _).mono ?_); rintro e w1 ⟨rfl, rfl⟩)
    go_wp2_with fail
    ((with_reducible refine (is_nil a1 _).mono ?_); rintro e w1 ⟨rfl, rfl⟩)
    go_wp2_with fail
    ((with_reducible refine (is_nil a2 _).mono ?_); rintro e w1 ⟨rfl, rfl⟩)
    go_wp2
    go_ret
    exact ⟨rfl, rfl⟩
  | rejected =>
    go_enter Tryd.func21, Tryd.ntmps21
    go_wp2_with fail
    ((with_reducible refine (is_same a0 _).mono ?_); rintro e w1 ⟨rfl, rfl⟩)
    go_wp2
    go_ret
    exact ⟨rfl, rfl⟩
  | spent =>
    go_enter Tryd.func21, Tryd.ntmps21
    go_wp2_with fail
    ((with_reducible refine (is_other a1 a0 _ HS.out.n01.symm HS.out.b1 HS.out.b0).mono ?_); rintro e w1 ⟨rfl, rfl⟩)
    go_wp2_with fail
    ((with_reducible refine (is_same a1 _).mono ?_); rintro e w1 ⟨rfl, rfl⟩)
    go_wp2
    go_ret
    exact ⟨rfl, rfl⟩
  | full =>
    go_enter Tryd.func21, Tryd.ntmps21
    go_wp2_with fail
    ((with_reducible refine (is_other a2 a0 _ HS.out.n02.symm HS.out.b2 HS.out.b0).mono ?_); rintro e w1 ⟨rfl, rfl⟩)
    go_wp2_with fail
    ((with_reducible refine (is_other a2 a1 _ HS.out.n12.symm HS.out.b2 HS.out.b1).mono ?_); rintro e w1 ⟨rfl, rfl⟩)
    go_wp2_with fail
    ((with_reducible refine (is_same a2 _).mono ?_); rintro e w1 ⟨rfl, rfl⟩)
    go_wp2
    go_ret
    exact ⟨rfl, rfl⟩
end Im12
end Go.Proofs.YtecdoibdpimlaaaDoor
