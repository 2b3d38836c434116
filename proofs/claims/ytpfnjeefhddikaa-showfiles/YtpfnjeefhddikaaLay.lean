/- No contract of the library is laid in this program: those that it wants are proved over its own text. -/
import Derived.WalkKit
import Derived.Shelf.Unicode.DecodeAny
namespace Go.Proofs.Ytpfnjeefhddikaa
end Go.Proofs.Ytpfnjeefhddikaa
