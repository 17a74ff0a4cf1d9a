/- Contract of the reference's value (dialtoneref02). A text has at most 2^21 bytes. -/
import Derived.Test.YtjkkcoiebnmkcaaGreatDoorAdRm
namespace Go.Proofs.YtjkkcoiebnmkcaaGreatDoor
namespace Ad
open Go.RowKit Lx

end Ad
end Go.Proofs.YtjkkcoiebnmkcaaGreatDoor
