/- Contract of the reference's display (dialtoneref02). A text has at most 2^20 bytes. -/
import Derived.Test.YtmmjfofdnpafkaaGreatDoorAdWb
import Derived.Test.YtmmjfofdnpafkaaGreatDoorAdVb
import Derived.Test.YtmmjfofdnpafkaaGreatDoorAdRn
import Derived.Test.YtmmjfofdnpafkaaGreatDoorM7
namespace Go.Proofs.YtmmjfofdnpafkaaGreatDoor
namespace Ad
open Go.RowKit Lx

theorem results_four {fn : Func} {t u v x : Tmp} (h : fn.results = #[.tmp t, .tmp u, .tmp v, .tmp x]) (tmps : Array Value) (P : Program) (w : World) :
    (results fn tmps).run P w = .ok (.tuple #[tmps.getD t undef, tmps.getD u undef, tmps.getD v undef, tmps.getD x undef]) w := by
  simp [results, h]
end Ad
end Go.Proofs.YtmmjfofdnpafkaaGreatDoor
