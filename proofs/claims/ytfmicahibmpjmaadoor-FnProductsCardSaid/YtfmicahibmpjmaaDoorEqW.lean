/-
  The laws' comparison of two slices of float32 numbers. Conditions: both hold the same numbers.
-/
import Derived.Test.YtfmicahibmpjmaaDoorSlW
namespace Go.Proofs.YtfmicahibmpjmaaDoor
open Go.RowKit Flt
end Go.Proofs.YtfmicahibmpjmaaDoor
