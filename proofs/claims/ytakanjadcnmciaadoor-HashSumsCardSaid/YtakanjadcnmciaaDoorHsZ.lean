/- The zero value of a state of layer 6 as the model makes it. No conditions. -/
import Derived.Test.YtakanjadcnmciaaDoorHsB
namespace Go.Proofs.YtakanjadcnmciaaDoor
namespace Hs
open Go.RowKit Ad

/-- A state as a row of cells. -/
def stC (s : St) : List Value := s.h.map wv ++ ([.int .u64 (s.n : Int)] ++ s.t.map bv)
def zsL : St := ⟨List.replicate 8 0, 0, pad 64⟩
/-- The cells of the zero value. -/
def zst : Array Value := (stC zsL).toArray
theorem zst_run (w : World) : Sem.run Tryd.prog (zeroValue 32) w = .ok (.agg zst) w := by kernel_rfl
theorem zst_size : zst.size = 73 := by kernel_rfl
theorem zst_ne : ¬ zst = #[] := fun h => by have := congrArg Array.size h; rw [zst_size] at this; cases this
end Hs
end Go.Proofs.YtakanjadcnmciaaDoor
