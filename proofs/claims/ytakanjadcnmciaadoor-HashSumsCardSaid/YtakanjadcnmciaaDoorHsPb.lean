/- Contract of the program's afterRound (layer 6). No conditions. -/
import Derived.Test.YtakanjadcnmciaaDoorHsPa
import Derived.Test.YtakanjadcnmciaaDoorHsZ
namespace Go.Proofs.YtakanjadcnmciaaDoor
namespace Hs
open Go.RowKit Ad

def rgC (r : Rg) : Array Value := #[wv r.a, wv r.b, wv r.c, wv r.d, wv r.e, wv r.f, wv r.g, wv r.h]
def AggP (C : Array Value) (w : World) (e : Ending) (w' : World) : Prop := e = .returned (.agg C) ∧ Kp [] w w'
theorem w_not (a : UInt32) : bits .xor .u32 IntKind.u32.max (a.toNat : Int) = ((~~~a).toNat : Int) := by
  have h : IntKind.u32.max = (((0xffffffff : UInt32).toNat : Nat) : Int) := by decide
  rw [h, w_xor]
  congr 2
def tW (r : Rg) (x : UInt32) : UInt32 := r.h + lg1 r.e + ((r.e &&& r.f) ^^^ ((~~~ r.e) &&& r.g)) + x
def uW (r : Rg) : UInt32 := lg0 r.a + ((r.a &&& r.b) ^^^ (r.a &&& r.c) ^^^ (r.b &&& r.c))
def rndA (r : Rg) (x : UInt32) : Rg := ⟨tW r x + uW r, r.a, r.b, r.c, r.d + tW r x, r.e, r.f, r.g⟩
theorem rnd_is (r : Rg) (k w : UInt32) : rnd r k w = rndA r (k + w) := by
  unfold rnd rndA tW uW
  simp only [UInt32.add_assoc]
theorem t_is (a b c d e f g h x : UInt32) : ((h.toNat : Int) + ((lg1 e).toNat : Int) + bits .xor .u32 (bits .and .u32 e.toNat f.toNat) (bits .and .u32 (bits .xor .u32 IntKind.u32.max e.toNat) g.toNat) + (x.toNat : Int)) % 4294967296 = ((tW ⟨a, b, c, d, e, f, g, h⟩ x).toNat : Int) := by
  rw [w_not, w_and, w_and, w_xor]
  unfold tW
  dsimp only
  rw [UInt32.toNat_add, UInt32.toNat_add, UInt32.toNat_add]
  omega
theorem u_is (a b c d e f g h : UInt32) : (((lg0 a).toNat : Int) + bits .xor .u32 (bits .xor .u32 (bits .and .u32 a.toNat b.toNat) (bits .and .u32 a.toNat c.toNat)) (bits .and .u32 b.toNat c.toNat)) % 4294967296 = ((uW ⟨a, b, c, d, e, f, g, h⟩).toNat : Int) := by
  rw [w_and, w_and, w_and, w_xor, w_xor]
  unfold uW
  dsimp only
  rw [UInt32.toNat_add]
  omega
theorem tu_is (x y : Int) (t u : UInt32) (h1 : x % 4294967296 = (t.toNat : Int)) (h2 : y % 4294967296 = (u.toNat : Int)) : (x + y) % 4294967296 = ((t + u).toNat : Int) := by
  rw [UInt32.toNat_add]
  omega
theorem dt_is (d : UInt32) (y : Int) (u : UInt32) (h2 : y % 4294967296 = (u.toNat : Int)) : ((d.toNat : Int) + y) % 4294967296 = ((d + u).toNat : Int) := by
  rw [UInt32.toNat_add]
  omega
theorem blk_set8 {w : World} {g : Nat} {t : TypeId} {c0 c1 c2 c3 c4 c5 c6 c7 : Value} (B : Blk w g t #[c0, c1, c2, c3, c4, c5, c6, c7]) (v0 v1 v2 v3 v4 v5 v6 v7 : Value) :
    Blk ((((((((w.setCell ⟨g, 0, none⟩ v0).setCell ⟨g, 1, none⟩ v1).setCell ⟨g, 2, none⟩ v2).setCell ⟨g, 3, none⟩ v3).setCell ⟨g, 4, none⟩ v4).setCell ⟨g, 5, none⟩ v5).setCell ⟨g, 6, none⟩ v6).setCell ⟨g, 7, none⟩ v7) g t #[v0, v1, v2, v3, v4, v5, v6, v7] := by
  have B1 : Blk _ g t #[v0, c1, c2, c3, c4, c5, c6, c7] := B.set_ 0 v0
  have B2 : Blk _ g t #[v0, v1, c2, c3, c4, c5, c6, c7] := B1.set_ 1 v1
  have B3 : Blk _ g t #[v0, v1, v2, c3, c4, c5, c6, c7] := B2.set_ 2 v2
  have B4 : Blk _ g t #[v0, v1, v2, v3, c4, c5, c6, c7] := B3.set_ 3 v3
  have B5 : Blk _ g t #[v0, v1, v2, v3, v4, c5, c6, c7] := B4.set_ 4 v4
  have B6 : Blk _ g t #[v0, v1, v2, v3, v4, v5, c6, c7] := B5.set_ 5 v5
  have B7 : Blk _ g t #[v0, v1, v2, v3, v4, v5, v6, c7] := B6.set_ 6 v6
  have B8 : Blk _ g t #[v0, v1, v2, v3, v4, v5, v6, v7] := B7.set_ 7 v7
  exact B8
theorem kp_set {w0 w : World} {g : Nat} (K : Kp [g] w0 w) (i : Nat) (v : Value) : Kp [g] w0 (w.setCell ⟨g, i, none⟩ v) := K.setCell (.inl (List.mem_singleton.2 rfl)) v
theorem kp_set8 {w0 w : World} {g : Nat} (K : Kp [g] w0 w) (v0 v1 v2 v3 v4 v5 v6 v7 : Value) :
    Kp [g] w0 ((((((((w.setCell ⟨g, 0, none⟩ v0).setCell ⟨g, 1, none⟩ v1).setCell ⟨g, 2, none⟩ v2).setCell ⟨g, 3, none⟩ v3).setCell ⟨g, 4, none⟩ v4).setCell ⟨g, 5, none⟩ v5).setCell ⟨g, 6, none⟩ v6).setCell ⟨g, 7, none⟩ v7) :=
  kp_set (kp_set (kp_set (kp_set (kp_set (kp_set (kp_set (kp_set K 0 v0) 1 v1) 2 v2) 3 v3) 4 v4) 5 v5) 6 v6) 7 v7
set_option maxRecDepth 100000 in
set_option maxHeartbeats 1000000 in
theorem around_any (a b c d e f g z x : UInt32) (w : World) : Calls Tryd.prog 33 #[.agg #[wv a, wv b, wv c, wv d, wv e, wv f, wv g, wv z], .int .u32 x.toNat] w (AggP (rgC (rndA ⟨a, b, c, d, e, f, g, z⟩ x)) w) := by
  have H1 := Lib.hid (fun wz => plg1_any e wz)
  have H2 := Lib.hid (fun wz => plg0_any a wz)
  have HT := Lib.hid (t_is a b c d e f g z x)
  have HU := Lib.hid (u_is a b c d e f g z)
  unfold wv
  go_enter Tryd.func33, Tryd.ntmps33
  go_wp2_with fail
  go_quiet (fail)
  go_wp2_with fail
  refine (H1.out _).mono ?_
  rintro e w1 ⟨rfl, rfl⟩
  go_wp2_with fail
  refine (H2.out _).mono ?_
  rintro e w2 ⟨rfl, rfl⟩
  go_wp2_with fail
  rw [tu_is _ _ _ _ HT.out HU.out, dt_is _ _ _ HT.out]
  refine bodyPost_ret (results_cell_row rfl _ _ (w.heap.size + 1) 28 (rgC (rndA ⟨a, b, c, d, e, f, g, z⟩ x)) (0, 0) _ rfl ?_ Tryd.underlying28 rfl (by kernel_rfl)) rfl ?_
  · exact blk_set8 (show Blk _ _ _ _ from heap_alloc2_new w _ _) _ _ _ _ _ _ _ _
  · exact ⟨rfl, ((((Kp.refl [] w).alloc _).alloc _).drewN _).to_ (kp_set8 (Kp.refl _ _) _ _ _ _ _ _ _ _) (by simp)⟩
end Hs
end Go.Proofs.YtakanjadcnmciaaDoor
