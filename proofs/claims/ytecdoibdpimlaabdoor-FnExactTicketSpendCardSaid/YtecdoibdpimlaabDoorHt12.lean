/-
  Contracts of the exact laws' helpers on tickets.
-/
import Derived.Test.YtecdoibdpimlaabDoorKi
import Derived.Test.YtecdoibdpimlaabDoorIla
namespace Go.Proofs.YtecdoibdpimlaabDoor
open Go.RowKit
namespace Ht12
open Il Sl Cs
theorem results_cell1' {fn : Func} {p : Tmp} {t : TypeId} (h : fn.results = #[.cell p t]) (tmps : Array Value) (P : Program) (w : World) : (results fn tmps).run P w = ((asAddr (tmps.getD p undef)).run P w).andThen fun a w₁ => (loadVar t a).run P w₁ := by
  simp only [results, h]
  simp [Sem.run_bind]
set_option maxRecDepth 20000 in
theorem toTicket (s g : Int) (w : World) :
    Calls Tryd.prog 6 #[.agg #[.int .i64 s, .int .i64 g]] w fun e w' => e = .returned (.agg #[.int .i64 s, .int .i64 g]) ∧ Below w.heap.size w w' := by
  go_enter Tryd.func6, Tryd.ntmps6
  go_wp2
  refine bodyPost_ret (v := .agg #[.int .i64 s, .int .i64 g]) ?_ rfl ?_
  · rw [results_cell1' rfl]
    go_simp
  · refine ⟨rfl, ?_⟩
    repeat first
      | exact Below.refl _ _
      | refine Below.setCell ?_ (by simp) _
      | refine Below.alloc ?_ (by simp; try omega) _
end Ht12
end Go.Proofs.YtecdoibdpimlaabDoor
