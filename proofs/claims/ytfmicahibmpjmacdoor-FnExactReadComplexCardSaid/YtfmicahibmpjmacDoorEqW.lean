/-
  The laws' comparison of two slices of float32 numbers. Conditions: both hold the same numbers.
-/
import Derived.Test.YtfmicahibmpjmacDoorSlW
namespace Go.Proofs.YtfmicahibmpjmacDoor
open Go.RowKit Flt
end Go.Proofs.YtfmicahibmpjmacDoor
