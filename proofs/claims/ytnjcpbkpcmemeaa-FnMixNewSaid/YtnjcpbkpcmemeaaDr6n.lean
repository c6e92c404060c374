/-
  The draw of a new mix's secret.
-/
import Derived.Test.YtnjcpbkpcmemeaaRda
namespace Go.Proofs.Ytnjcpbkpcmemeaa
open Go.RowKit
namespace Rd
open Il

theorem DrawMixNew (A : Option Addr) (n c : Nat) (w : World) (h : CodeIs w A n c) :
    Calls Try.prog 9 #[.slice A n c] w (OnePost (-1) 997 w) := by
  have HC := Lib.hid h
  clear h
  go_enter Try.func9, Try.ntmps9
  go_wp2_with fail
  ((with_reducible refine (l6Open _ _ _ _ HC.out).mono ?_); rintro e w1 ⟨rfl, r1, b1, s1⟩)
  have R1 := Lib.hid r1
  have B1 := Lib.hid b1
  clear r1 b1 s1
  go_wp2_with fail
  ((with_reducible refine (l91Is _ _ _ R1.out (by omega)).mono ?_); rintro e w2 ⟨v, rfl, hv0, hv1, r2, g2⟩)
  have hpost : OnePost (-1) 997 w (.returned (.int .i64 v)) w2 := ⟨v, rfl, hv0, hv1, B1.out.trans (grown_below g2 (Nat.le_of_lt R1.out.lt))⟩
  have H := Lib.hid hpost
  clear hpost r2 g2
  go_wp2
  go_ret
  exact H.out

end Rd
end Go.Proofs.Ytnjcpbkpcmemeaa
