/- For core. -/
import Derived.Test.YtkmgdfcambdeeaaGreatDoorQbp
import Derived.Test.YtkmgdfcambdeeaaGreatDoorQbw
namespace Go.Proofs.YtkmgdfcambdeeaaGreatDoor
theorem all10 : True := trivial
end Go.Proofs.YtkmgdfcambdeeaaGreatDoor
