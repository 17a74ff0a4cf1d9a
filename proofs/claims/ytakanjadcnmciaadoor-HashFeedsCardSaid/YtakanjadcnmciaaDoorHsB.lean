/- Contract of the reference's table of constants (layer 6). No conditions. -/
import Derived.Test.YtakanjadcnmciaaDoorHsA
namespace Go.Proofs.YtakanjadcnmciaaDoor
namespace Hs
open Go.RowKit Ad

def wv (x : UInt32) : Value := .int .u32 (x.toNat : Int)
def bv (c : UInt8) : Value := .int .u8 (c.toNat : Int)
def KeyP (w : World) (e : Ending) (w' : World) : Prop := ∃ g T, e = .returned (.slice (some ⟨g, 0, none⟩) 64 64) ∧ w.heap.size ≤ g ∧ Blk w' g T (keyL.map wv).toArray ∧ Kp [] w w'
set_option maxRecDepth 100000 in
set_option maxHeartbeats 1000000 in
theorem rkeys_any (w : World) : Calls Tryd.prog 36 #[] w (KeyP w) := by
  go_enter Tryd.func36, Tryd.ntmps36
  go_wp2_with fail
  go_ret
  refine ⟨w.heap.size, 27, rfl, Nat.le_refl _, ?_, (Kp.refl _ _).alloc _⟩
  unfold Blk
  rw [World.alloc_heap_new]
  kernel_rfl
end Hs
end Go.Proofs.YtakanjadcnmciaaDoor
