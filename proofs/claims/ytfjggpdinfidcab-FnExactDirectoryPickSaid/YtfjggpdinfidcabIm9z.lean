/-
  All contracts of the program's chapter 21.
-/
import Derived.Test.YtfjggpdinfidcabIm9g
import Derived.Test.YtfjggpdinfidcabIm9h
namespace Go.Proofs.Ytfjggpdinfidcab
namespace Im9
theorem all_here : True := trivial
end Im9
end Go.Proofs.Ytfjggpdinfidcab
