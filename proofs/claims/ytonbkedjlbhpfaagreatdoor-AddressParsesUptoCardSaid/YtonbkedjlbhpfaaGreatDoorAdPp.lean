/- Contract of printValue of package address. Texts have at most 2^21 bytes. -/
import Derived.Test.YtonbkedjlbhpfaaGreatDoorM8
namespace Go.Proofs.YtonbkedjlbhpfaaGreatDoor
namespace Ad
open Go.RowKit Lx

end Ad
end Go.Proofs.YtonbkedjlbhpfaaGreatDoor
