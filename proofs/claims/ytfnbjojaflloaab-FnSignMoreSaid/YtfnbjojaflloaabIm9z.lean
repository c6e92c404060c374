/-
  All contracts of the program's chapter 21.
-/
import Derived.Test.YtfnbjojaflloaabIm9g
import Derived.Test.YtfnbjojaflloaabIm9h
namespace Go.Proofs.Ytfnbjojaflloaab
namespace Im9
theorem all_here : True := trivial
end Im9
end Go.Proofs.Ytfnbjojaflloaab
