/-
  The library's stable sort of lives: the merge in place as a whole, and the sort. Conditions: the function that compares tells a strict weak order of the elements.
-/
import Derived.Test.YtplfmdjccmhclabSrtL3
namespace Go.Proofs.Ytplfmdjccmhclab
open Go.RowKit Liv Flt Go.Sort Stb
end Go.Proofs.Ytplfmdjccmhclab
