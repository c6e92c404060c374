/-
  All contracts of the program's chapter 21.
-/
import Derived.Test.YtfjggpdinfidcaaIm9g
import Derived.Test.YtfjggpdinfidcaaIm9h
namespace Go.Proofs.Ytfjggpdinfidcaa
namespace Im9
theorem all_here : True := trivial
end Im9
end Go.Proofs.Ytfjggpdinfidcaa
