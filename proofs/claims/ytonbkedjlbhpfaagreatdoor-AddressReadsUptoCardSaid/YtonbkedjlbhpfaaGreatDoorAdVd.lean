/- Contract of the reference's lowered (dialtoneref02). Names have at most 2^21 bytes. -/
import Derived.Test.YtonbkedjlbhpfaaGreatDoorAdTu
import Derived.Test.YtonbkedjlbhpfaaGreatDoorAdSo
namespace Go.Proofs.YtonbkedjlbhpfaaGreatDoor
namespace Ad
open Go.RowKit Lx

end Ad
end Go.Proofs.YtonbkedjlbhpfaaGreatDoor
