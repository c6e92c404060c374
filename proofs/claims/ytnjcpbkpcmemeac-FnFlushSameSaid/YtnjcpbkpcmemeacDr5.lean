/-
  Contracts of the functions that draw paths and what a packet is made of out of a code.
-/
import Derived.Test.YtnjcpbkpcmemeacRda
import Derived.Test.YtnjcpbkpcmemeacIla
namespace Go.Proofs.Ytnjcpbkpcmemeac
open Go.RowKit
namespace Rd
open Il

set_option maxRecDepth 20000 in
theorem l91Good (rb N : Nat) (w : World) (hr : Reader w rb N) (hN : N ≤ 90000) :
    Calls Try.prog 64 #[.pointer (some ⟨rb, 0, none⟩)] w (NumPost 1 996 rb (N + 2) w) := by
  have HR := Lib.hid hr
  clear hr
  go_enter Try.func64, Try.ntmps64
  go_wp2_with fail
  ((with_reducible refine (pick rb N _ _ HR.out (by omega) (by omega) (by omega)).mono ?_); rintro e w1 ⟨v1, rfl, hv0, hv1, r1, g1, s1⟩)
  have R1 := Lib.hid r1
  have G1 := Lib.hid g1
  clear r1 g1 s1
  go_wp2_with fail
  ((with_reducible refine (pick rb (N + 1) _ _ R1.out (by omega) (by omega) (by omega)).mono ?_); rintro e w2 ⟨v2, rfl, hu0, hu1, r2, g2, s2⟩)
  have H : Hid (∀ v : Int, 1 ≤ v → v ≤ 996 → NumPost 1 996 rb (N + 2) w (.returned (.int .i64 v)) w2) := fun v a b => ⟨v, rfl, a, b, r2.mono (by omega), grown_trans G1.out g2⟩
  clear r2 g2 s2
  go_wp2
  go_ret
  exact H.out _ (by omega) (by omega)



theorem results_tmp5 {fn : Func} {t u v x y : Tmp} (h : fn.results = #[.tmp t, .tmp u, .tmp v, .tmp x, .tmp y]) (tmps : Array Value) (P : Program) (w : World) :
    (results fn tmps).run P w = .ok (.tuple #[tmps.getD t undef, tmps.getD u undef, tmps.getD v undef, tmps.getD x undef, tmps.getD y undef]) w := by
  simp [results, h]


end Rd
end Go.Proofs.Ytnjcpbkpcmemeac
