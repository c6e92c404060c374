/-
  Contracts of the exact laws' helpers on tickets.
-/
import Derived.Test.YtecdoibdpimlaabKi
import Derived.Test.YtecdoibdpimlaabIla
namespace Go.Proofs.Ytecdoibdpimlaab
open Go.RowKit
namespace Ht12
open Il Sl Cs
theorem results_cell1' {fn : Func} {p : Tmp} {t : TypeId} (h : fn.results = #[.cell p t]) (tmps : Array Value) (P : Program) (w : World) : (results fn tmps).run P w = ((asAddr (tmps.getD p undef)).run P w).andThen fun a w₁ => (loadVar t a).run P w₁ := by
  simp only [results, h]
  simp [Sem.run_bind]
set_option maxRecDepth 20000 in
theorem toTicket (s g : Int) (w : World) :
    Calls Try.prog 10 #[.agg #[.int .i64 s, .int .i64 g]] w fun e w' => e = .returned (.agg #[.int .i64 s, .int .i64 g]) ∧ Below w.heap.size w w' := by
  go_enter Try.func10, Try.ntmps10
  go_wp2
  refine bodyPost_ret (v := .agg #[.int .i64 s, .int .i64 g]) ?_ rfl ?_
  · rw [results_cell1' rfl]
    go_simp
  · refine ⟨rfl, ?_⟩
    repeat first
      | exact Below.refl _ _
      | refine Below.setCell ?_ (by simp) _
      | refine Below.alloc ?_ (by simp; try omega) _
set_option maxRecDepth 20000 in
theorem eqTicket (s g : Int) (w : World) :
    Calls Try.prog 8 #[.agg #[.int .i64 s, .int .i64 g], .agg #[.int .i64 s, .int .i64 g]] w (BoolB true w) := by
  have h0 : Below w.heap.size w (w.alloc (.cells #[.int .i64 s, .int .i64 g] 23)) := (Below.refl _ _).alloc (Nat.le_refl _) _
  have B0 := Lib.hid (h0.alloc h0.size (.cells #[.int .i64 s, .int .i64 g] 23))
  clear h0
  go_enter Try.func8, Try.ntmps8
  go_wp2
  go_ret
  exact ⟨rfl, B0.out⟩
end Ht12
end Go.Proofs.Ytecdoibdpimlaab
