/- Contract of the reference's Normal (dialtoneref02). Texts have at most 2^21 bytes, lists at most 2^21 elements. -/
import Derived.Test.YtonbkedjlbhpfaaGreatDoorAdVe
import Derived.Test.YtonbkedjlbhpfaaGreatDoorAdVc
namespace Go.Proofs.YtonbkedjlbhpfaaGreatDoor
namespace Ad
open Go.RowKit Lx

end Ad
end Go.Proofs.YtonbkedjlbhpfaaGreatDoor
