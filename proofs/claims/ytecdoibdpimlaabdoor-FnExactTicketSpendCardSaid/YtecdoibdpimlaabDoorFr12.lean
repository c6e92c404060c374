/-
  What the three reasons read as when a call begins, and a world in which they do so.
-/
import Derived.Test.YtecdoibdpimlaabDoorRows
import Derived.Test.YtecdoibdpimlaabDoorIm12b
import Derived.ProofKit
import Derived.LaidMore
import Derived.LaidLaws
import Derived.OpenShut
import Derived.RowKitTokens
import Derived.ChangeVars
import Derived.MakeChecks
import Derived.Stop.Joined
import Derived.Stop.LaidErr
namespace Go.Proofs.YtecdoibdpimlaabDoor
open Go.ChangeShapes Go.WideShapes Go.ChangeAt Go.WideMaps Go.WideElems Go.RowKit
namespace Fr12
theorem own : ownKnob Tryd.prog.godebug = none := by kernel_rfl
theorem laidOut : laidOutB Tryd.prog = true := by kernel_rfl
theorem g0 : Tryd.prog.globalNamed "loop.example/mixrelay/impl.errRejected" = some 0 := by kernel_rfl
theorem g1 : Tryd.prog.globalNamed "loop.example/mixrelay/impl.errSpent" = some 1 := by kernel_rfl
theorem g2 : Tryd.prog.globalNamed "loop.example/mixrelay/impl.errNoSpace" = some 2 := by kernel_rfl
theorem t0 : (Tryd.prog.globals[0]?).map (·.type) = some 37 := by kernel_rfl
theorem t1 : (Tryd.prog.globals[1]?).map (·.type) = some 37 := by kernel_rfl
theorem t2 : (Tryd.prog.globals[2]?).map (·.type) = some 37 := by kernel_rfl
theorem cellsE : Tryd.prog.cellsOf 96 = 1 := by kernel_rfl
theorem cellsS : Tryd.prog.cellsOf 9 = 1 := by kernel_rfl
theorem star : "*" ++ "errors.errorString" = "*errors.errorString" := by decide
theorem rowE (u : TypeId) (h : Tryd.prog.typeName? 3 u = some "*errors.errorString") : u = 70 :=
  typeName_ptr_named (nm := "errors.errorString") (by rw [star]; kernel_rfl) (by kernel_rfl) (by decide) u (by rw [star]; exact h)
/-- What the rows list. -/
abbrev laid3 : List (String × DataW Unit) := [("loop.example/mixrelay/impl.errRejected", Rows.laid_loop_example_mixrelay_impl_errRejected), ("loop.example/mixrelay/impl.errSpent", Rows.laid_loop_example_mixrelay_impl_errSpent), ("loop.example/mixrelay/impl.errNoSpace", Rows.laid_loop_example_mixrelay_impl_errNoSpace)]
/-- The variables' values: sentinels, each at a place of its own. -/
structure Sens (W : World) (a0 a1 a2 : Addr) : Prop where
  v0 : W.var? Tryd.prog "loop.example/mixrelay/impl.errRejected" = some #[.iface 70 (.pointer (some a0))]
  v1 : W.var? Tryd.prog "loop.example/mixrelay/impl.errSpent" = some #[.iface 70 (.pointer (some a1))]
  v2 : W.var? Tryd.prog "loop.example/mixrelay/impl.errNoSpace" = some #[.iface 70 (.pointer (some a2))]
  snt : Im12.Snt W a0 a1 a2
set_option maxRecDepth 100000 in
theorem sens_of {W : World} (hH : laidMetH Tryd.prog laid3 W) : ∃ a0 a1 a2, Sens W a0 a1 a2 := by
  rw [MakeChecks.laidMetH_plain _ _ _ (by kernel_rfl)] at hH
  obtain ⟨ps, ⟨g0', t0', cs0, f0, p0, q0, hg0', ht0', hv0, hd0, ⟨g1', t1', cs1, f1, p1, q1, hg1', ht1', hv1, hd1, ⟨g2', t2', cs2, f2, p2, q2, hg2', ht2', hv2, hd2, _, e2⟩, e1⟩, e0⟩, hnd, hrows⟩ := hH
  obtain rfl := Option.some.inj (g0.symm.trans hg0')
  obtain rfl := Option.some.inj (g1.symm.trans hg1')
  obtain rfl := Option.some.inj (g2.symm.trans hg2')
  obtain rfl := Option.some.inj (t0.symm.trans ht0')
  obtain rfl := Option.some.inj (t1.symm.trans ht1')
  obtain rfl := Option.some.inj (t2.symm.trans ht2')
  subst e2
  subst e1
  subst e0
  obtain ⟨l0⟩ := cs0
  obtain ⟨l1⟩ := cs1
  obtain ⟨l2⟩ := cs2
  have ok0 : ∀ u v, l0 = [.iface u v] → Value.okWide Tryd.prog W .any 0 u v := fun u v e => by
    subst e
    exact (hrows 0 0 (by simp [MemPlace.row])).2 u v (by simpa using World.var?_cell hg0' hv0 0)
  have ok1 : ∀ u v, l1 = [.iface u v] → Value.okWide Tryd.prog W .any 0 u v := fun u v e => by
    subst e
    exact (hrows 1 0 (by simp [MemPlace.row])).2 u v (by simpa using World.var?_cell hg1' hv1 0)
  have ok2 : ∀ u v, l2 = [.iface u v] → Value.okWide Tryd.prog W .any 0 u v := fun u v e => by
    subst e
    exact (hrows 2 0 (by simp [MemPlace.row])).2 u v (by simpa using World.var?_cell hg2' hv2 0)
  obtain ⟨a0, s0, rfl, hc0, hs0, hz0, rfl⟩ := errorString_of_trod Tryd.underlying37 rowE Tryd.underlying70 Tryd.underlying96 rfl rfl Tryd.underlying9 cellsE cellsS hd0 ok0
  obtain ⟨a1, s1, rfl, hc1, hs1, hz1, rfl⟩ := errorString_of_trod Tryd.underlying37 rowE Tryd.underlying70 Tryd.underlying96 rfl rfl Tryd.underlying9 cellsE cellsS hd1 ok1
  obtain ⟨a2, s2, rfl, hc2, hs2, hz2, rfl⟩ := errorString_of_trod Tryd.underlying37 rowE Tryd.underlying70 Tryd.underlying96 rfl rfl Tryd.underlying9 cellsE cellsS hd2 ok2
  have b0 := (hrows a0.block a0.off (by simp [MemPlace.row])).1
  have b1 := (hrows a1.block a1.off (by simp [MemPlace.row])).1
  have b2 := (hrows a2.block a2.off (by simp [MemPlace.row])).1
  have c0 : W.cell? ⟨0, 0, none⟩ = some (.iface 70 (.pointer (some a0))) := by simpa using World.var?_cell g0 hv0 0
  have c1 : W.cell? ⟨1, 0, none⟩ = some (.iface 70 (.pointer (some a1))) := by simpa using World.var?_cell g1 hv1 0
  have c2 : W.cell? ⟨2, 0, none⟩ = some (.iface 70 (.pointer (some a2))) := by simpa using World.var?_cell g2 hv2 0
  refine ⟨a0, a1, a2, hv0, hv1, hv2, c0, c1, c2, b0, b1, b2, ?_, ?_, ?_⟩
  · rintro rfl
    simp [MemPlace.row] at hnd
  · rintro rfl
    simp [MemPlace.row] at hnd
  · rintro rfl
    simp [MemPlace.row] at hnd
theorem var_below {W W' : World} {n : String} {cs : Array Value} (hb : Below W.heap.size W W') (h : W.var? Tryd.prog n = some cs) : W'.var? Tryd.prog n = some cs := by
  unfold World.var? at h ⊢
  cases hg : Tryd.prog.globalNamed n with
  | none => simp [hg] at h
  | some g =>
    simp only [hg, Option.bind_some] at h ⊢
    have hlt : g < W.heap.size := by
      rcases Nat.lt_or_ge g W.heap.size with h' | h'
      · exact h'
      · simp [Array.getElem?_eq_none h'] at h
    rw [hb.block g hlt]
    exact h
/-- The variables read as tokens of what they hold. -/
theorem vars_read {H : Type} (enc : TypeId × Value → H) {W : World} {a0 a1 a2 : Addr} (h : Sens W a0 a1 a2) (sp : Nat → Bool) :
    DataW.TrodVars enc Tryd.prog W sp ["loop.example/mixrelay/impl.errRejected", "loop.example/mixrelay/impl.errSpent", "loop.example/mixrelay/impl.errNoSpace"]
      [tok enc (.iface 70 (.pointer (some a0))), tok enc (.iface 70 (.pointer (some a1))), tok enc (.iface 70 (.pointer (some a2)))]
      [.cell 0 0, .cell 1 0, .cell 2 0] :=
  ⟨0, 37, #[.iface 70 (.pointer (some a0))], 1, [], [.cell 1 0, .cell 2 0], g0, t0, h.v0, trod_held Tryd.underlying37 (show IsIface (.iface 70 (.pointer (some a0))) from trivial) 0, ⟨1, 37, #[.iface 70 (.pointer (some a1))], 1, [], [.cell 2 0], g1, t1, h.v1, trod_held Tryd.underlying37 (show IsIface (.iface 70 (.pointer (some a1))) from trivial) 0, ⟨2, 37, #[.iface 70 (.pointer (some a2))], 1, [], [], g2, t2, h.v2, trod_held Tryd.underlying37 (show IsIface (.iface 70 (.pointer (some a2))) from trivial) 0, rfl, rfl⟩, rfl⟩, rfl⟩
theorem Sens.below {W W' : World} {a0 a1 a2 : Addr} (h : Sens W a0 a1 a2) (hb : Below W.heap.size W W') : Sens W' a0 a1 a2 := ⟨var_below hb h.v0, var_below hb h.v1, var_below hb h.v2, h.snt.below hb (Nat.le_refl _)⟩
/-- The heap that the initialisers' own run leaves meets the condition. -/
theorem door_met (os : Os) (args : Array Value) : laidMetH Tryd.prog laid3 ((World.doorLaid Tryd.prog 400 os).forCall (fun _ _ => 0) ⟨#[], args, []⟩).memory :=
  laidMetH_of_parts3 (fuel := 8) (laidMet_of_run' 8 (by kernel_rfl) (by kernel_rfl)) (by kernel_rfl) (by kernel_rfl)
end Fr12
end Go.Proofs.YtecdoibdpimlaabDoor
