/- Contract of the reference's named (dialtoneref02). Names and values have at most 2^21 bytes. -/
import Derived.Test.YtonbkedjlbhpfaaGreatDoorAdVd
import Derived.Test.YtonbkedjlbhpfaaGreatDoorAdRp
namespace Go.Proofs.YtonbkedjlbhpfaaGreatDoor
namespace Ad
open Go.RowKit Lx

end Ad
end Go.Proofs.YtonbkedjlbhpfaaGreatDoor
