/- Contracts of the reference's telephoned and index (dialtoneref02). A text has at most 2^21 bytes. -/
import Derived.Test.YtonbkedjlbhpfaaGreatDoorAdVb
namespace Go.Proofs.YtonbkedjlbhpfaaGreatDoor
namespace Ad
open Go.RowKit Lx

end Ad
end Go.Proofs.YtonbkedjlbhpfaaGreatDoor
