/- Contract of the program's expanded (layer 6). A block of 64 bytes. -/
import Derived.Test.YtakanjadcnmciaaDoorHsPb
import Derived.Test.YtakanjadcnmciaaDoorHsXp
import Derived.StillTailTactics
namespace Go.Proofs.YtakanjadcnmciaaDoor
namespace Hs
open Go.RowKit Ad

def zW : Array Value := ((accW [] 0).map wv).toArray
theorem zero64 : (#[.int .u32 0, .int .u32 0, .int .u32 0, .int .u32 0, .int .u32 0, .int .u32 0, .int .u32 0, .int .u32 0, .int .u32 0, .int .u32 0, .int .u32 0, .int .u32 0, .int .u32 0, .int .u32 0, .int .u32 0, .int .u32 0, .int .u32 0, .int .u32 0, .int .u32 0, .int .u32 0, .int .u32 0, .int .u32 0, .int .u32 0, .int .u32 0, .int .u32 0, .int .u32 0, .int .u32 0, .int .u32 0, .int .u32 0, .int .u32 0, .int .u32 0, .int .u32 0, .int .u32 0, .int .u32 0, .int .u32 0, .int .u32 0, .int .u32 0, .int .u32 0, .int .u32 0, .int .u32 0, .int .u32 0, .int .u32 0, .int .u32 0, .int .u32 0, .int .u32 0, .int .u32 0, .int .u32 0, .int .u32 0, .int .u32 0, .int .u32 0, .int .u32 0, .int .u32 0, .int .u32 0, .int .u32 0, .int .u32 0, .int .u32 0, .int .u32 0, .int .u32 0, .int .u32 0, .int .u32 0, .int .u32 0, .int .u32 0, .int .u32 0, .int .u32 0] : Array Value) = zW := by kernel_rfl
theorem zW_is (bl : List UInt8) : zW = ((accW bl 0).map wv).toArray := rfl
theorem infoA64 : (Tryd.prog.info? 52).map (·.size) = some 64 := by kernel_rfl
theorem hi_is2 (a b c d : UInt32) : ((a.toNat : Int) + (b.toNat : Int) + (c.toNat : Int) + (d.toNat : Int)) % 4294967296 = ((a + b + c + d).toNat : Int) := by
  rw [UInt32.toNat_add, UInt32.toNat_add, UInt32.toNat_add]
  omega
theorem kp_setRow (w : World) (g : Nat) (cs : Array Value) : Kp [g] w (w.setRow g cs) := ⟨rfl, rfl, rfl, Nat.le_of_eq (by simp), fun i _ hx => setRow_other w g i cs (by simpa using hx)⟩
theorem wv_cell {w : World} {g : Nat} {t : TypeId} {l : List UInt32} (B : Blk w g t (l.map wv).toArray) (p : Nat) (h : p < l.length) (x : UInt32) (hx : l.getD p 0 = x) : w.cell? ⟨g, p, none⟩ = some (.int .u32 (x.toNat : Int)) := by
  rw [B.cell p, ← hx]
  simp [List.getD_eq_getElem?_getD, List.getElem?_eq_getElem h, wv]
theorem wv_set {w : World} {g : Nat} {t : TypeId} {l : List UInt32} (B : Blk w g t (l.map wv).toArray) (p : Nat) (x : UInt32) : Blk (w.setCell ⟨g, p, none⟩ (.int .u32 (x.toNat : Int))) g t ((l.set p x).map wv).toArray := by
  have := B.set_ p (.int .u32 (x.toNat : Int))
  rw [List.setIfInBounds_toArray] at this
  rw [List.map_set]
  exact this
theorem wv_one (l : List UInt32) : (l.map wv).toArray.all (·.oneCell') = true := by
  unfold wv
  simp [Value.oneCell']
theorem or_is (a : UInt32) (c : UInt8) : bits .or .u32 ((a.toNat : Int) * 256 % 4294967296) (c.toNat : Int) = ((a <<< 8 ||| c.toUInt32).toNat : Int) := by
  have h := w_shl a 8 (by decide)
  rw [IntKind.wrap_u32'] at h
  have h2 : ((c.toNat : Nat) : Int) = ((c.toUInt32).toNat : Int) := by rw [UInt8.toNat_toUInt32]
  rw [show ((256 : Int)) = 2 ^ 8 from rfl, h, h2, w_or]
  rfl
set_option maxRecDepth 100000 in
set_option maxHeartbeats 1000000 in
theorem pexp_any (bl : List UInt8) (hl : bl.length = 64) (w : World) : Calls Tryd.prog 32 #[.agg (bl.map bv).toArray] w (AggP ((wordsL bl 64).map wv).toArray w) := by
  have hne : ¬ (bl.map bv).toArray = #[] := fun h => by have := congrArg Array.size h; simp [hl] at this
  go_enter Tryd.func32, Tryd.ntmps32
  go_wp2_with fail
  rw [zero64]
  obtain ⟨w0, hw0⟩ : ∃ x, (((w.alloc (.cells (bl.map bv).toArray 30)).alloc (.cells zW 52)).alloc (.cells zW 52)) = x := ⟨_, rfl⟩
  have hs0 : w0.heap.size = w.heap.size + 3 := by rw [← hw0, alloc_sz, alloc_sz, alloc_sz]
  have B0 : Blk w0 w.heap.size 30 (bl.map bv).toArray := by rw [← hw0]; exact ((Blk.new w _ _).alloc _).alloc _
  have B1 : Blk w0 (w.heap.size + 1) 52 zW := by
    rw [← hw0]
    have := Blk.new (w.alloc (.cells (bl.map bv).toArray 30)) 52 zW
    rw [alloc_sz] at this
    exact this.alloc _
  have B2 : Blk w0 (w.heap.size + 1 + 1) 52 zW := by
    rw [← hw0]
    have := Blk.new ((w.alloc (.cells (bl.map bv).toArray 30)).alloc (.cells zW 52)) 52 zW
    rw [alloc_sz, alloc_sz] at this
    exact this
  have K0 : Kp [] w w0 := by rw [← hw0]; exact (((Kp.refl _ _).alloc _).alloc _).alloc _
  rw [hw0]
  clear hw0
  have Hl := Lib.hid hl
  clear hl hne
  go_loopw [4, 6] (fun _ i wr => ∃ j : Nat, j ≤ 64 ∧ i = .int .i64 j ∧ Blk wr (w.heap.size + 1 + 1) 52 ((accW bl j).map wv).toArray ∧ Kp [w.heap.size + 1 + 1] w0 wr) (fun _ i _ => 64 - (intOf i).toNat)
  case atStart => exact ⟨0, by omega, rfl, B2, Kp.refl _ _⟩
  case round =>
    obtain ⟨j, hj, rfl, hB, hK⟩ := hrel
    by_cases hlt : j < 64
    · obtain ⟨k, hk⟩ : ∃ k, j / 4 = k := ⟨_, rfl⟩
      have hk2 : (j : Int) / 4 = (k : Int) := by omega
      have wk : IntKind.i64.wrap (k : Int) = (k : Int) := IntWalk.i64_in _ (by omega)
      obtain ⟨c, hc⟩ : ∃ c, bl.getD j 0 = c := ⟨_, rfl⟩
      obtain ⟨a, ha⟩ : ∃ c, (accW bl j).getD k 0 = c := ⟨_, rfl⟩
      have HA := Lib.hid (by rw [accW_s bl j k hk, ha, hc] : accW bl (j + 1) = (accW bl j).set k (a <<< 8 ||| c.toUInt32))
      have HO := Lib.hid (or_is a c)
      have c0 := bl_cell (B0.kp hK (by simp; omega)) j c (by rw [Hl.out]; omega) hc
      have d0 := wv_cell hB k (by rw [accW_len]; omega) a ha
      have hf := hB.frozen k
      have k0 : (0 : Int) ≤ (k : Int) := by omega
      have k1 : (k : Int) < 64 := by omega
      have j0 : (0 : Int) ≤ (j : Int) := by omega
      have j1 : (j : Int) < 64 := by omega
      have HB := Lib.hid hB
      have HK := Lib.hid hK
      have vc : IntKind.u32.wrap (c.toNat : Int) = (c.toNat : Int) := w_wrap _ (by have := c.toNat_lt; omega)
      clear hk hc ha hB hK
      go_wp2_with fail
      go_still_tail 13, (by kernel_rfl)
      change wpList _ _ _ _ _ wr.drew
      obtain ⟨w2, hw2⟩ : ∃ w2, wr.drew = w2 := ⟨_, rfl⟩
      rw [hw2]
      have B2 := Lib.hid (show Blk w2 (w.heap.size + 1 + 1) 52 ((accW bl j).map wv).toArray from by rw [← hw2]; exact HB.out.drew)
      have K2 := Lib.hid (show Kp [w.heap.size + 1 + 1] w0 w2 from by rw [← hw2]; exact HK.out.drew)
      clear hw2 c0 d0 hf
      have hf := B2.out.frozen k
      obtain ⟨y, hy⟩ : ∃ y, w2.cell? ⟨w.heap.size + 1 + 1, k, none⟩ = some y := ⟨_, wv_cell B2.out k (by rw [accW_len]; omega) _ rfl⟩
      go_wp2_with fail
      go_roundw
      case rel => exact ⟨j + 1, by omega, by go_num, by rw [HA.out, HO.out]; exact wv_set B2.out k _, kp_set K2.out _ _⟩
      case measure => simp [intOf]; omega
    · obtain rfl : j = 64 := by omega
      rw [show accW bl 64 = fillW bl 16 from accW_4 bl 16 (Nat.le_refl _)] at hB
      have HB0 := Lib.hid hB
      have HK0 := Lib.hid hK
      clear hB hK hj hlt
      rw [show (((64 : Nat) : Int)) = 64 from rfl]
      go_wp2_with fail
      go_loopw [5] (fun i wr => ∃ j : Nat, 16 ≤ j ∧ j ≤ 64 ∧ i = .int .i64 j ∧ Blk wr (w.heap.size + 1 + 1) 52 ((fillW bl j).map wv).toArray ∧ Kp [w.heap.size + 1 + 1] w0 wr) (fun i _ => 64 - (intOf i).toNat)
      case atStart => exact ⟨16, by omega, by omega, rfl, HB0.out, HK0.out⟩
      case round =>
        obtain ⟨j, hj0, hj, rfl, hB, hK⟩ := hrel
        by_cases hlt : j < 64
        · obtain ⟨k2, hk2⟩ : ∃ k, j - 2 = k := ⟨_, rfl⟩
          obtain ⟨k7, hk7⟩ : ∃ k, j - 7 = k := ⟨_, rfl⟩
          obtain ⟨k15, hk15⟩ : ∃ k, j - 15 = k := ⟨_, rfl⟩
          obtain ⟨k16, hk16⟩ : ∃ k, j - 16 = k := ⟨_, rfl⟩
          obtain ⟨a, ha⟩ : ∃ x, (fillW bl j).getD k2 0 = x := ⟨_, rfl⟩
          obtain ⟨b, hb⟩ : ∃ x, (fillW bl j).getD k7 0 = x := ⟨_, rfl⟩
          obtain ⟨c, hc⟩ : ∃ x, (fillW bl j).getD k15 0 = x := ⟨_, rfl⟩
          obtain ⟨d, hd⟩ : ∃ x, (fillW bl j).getD k16 0 = x := ⟨_, rfl⟩
          have HS := Lib.hid (by have := fillW_set bl j hj0 hlt; rw [hk2, hk7, hk15, hk16, ha, hb, hc, hd] at this; exact this.symm : fillW bl (j + 1) = (fillW bl j).set j (sm1 a + b + sm0 c + d))
          have hfl := fillW_len bl j hj
          have c2 := wv_cell hB k2 (by omega) a ha
          have c7 := wv_cell hB k7 (by omega) b hb
          have c15 := wv_cell hB k15 (by omega) c hc
          have c16 := wv_cell hB k16 (by omega) d hd
          have hf := hB.frozen j
          have HF := Lib.hid hfl
          have HW := Lib.hid (hi_is2 (sm1 a) b (sm0 c) d)
          have H1 := Lib.hid (fun wz => psm1_any a wz)
          have H2 := Lib.hid (fun wz => psm0_any c wz)
          have e2 : (j : Int) - 2 = (k2 : Int) := by omega
          have e7 : (j : Int) - 7 = (k7 : Int) := by omega
          have e15 : (j : Int) - 15 = (k15 : Int) := by omega
          have e16 : (j : Int) - 16 = (k16 : Int) := by omega
          have y2 : IntKind.i64.wrap (k2 : Int) = (k2 : Int) := IntWalk.i64_in _ (by omega)
          have y7 : IntKind.i64.wrap (k7 : Int) = (k7 : Int) := IntWalk.i64_in _ (by omega)
          have y15 : IntKind.i64.wrap (k15 : Int) = (k15 : Int) := IntWalk.i64_in _ (by omega)
          have y16 : IntKind.i64.wrap (k16 : Int) = (k16 : Int) := IntWalk.i64_in _ (by omega)
          have z2 : (0 : Int) ≤ (k2 : Int) := by omega
          have z7 : (0 : Int) ≤ (k7 : Int) := by omega
          have z15 : (0 : Int) ≤ (k15 : Int) := by omega
          have z16 : (0 : Int) ≤ (k16 : Int) := by omega
          have l2 : (k2 : Int) < 64 := by omega
          have l7 : (k7 : Int) < 64 := by omega
          have l15 : (k15 : Int) < 64 := by omega
          have l16 : (k16 : Int) < 64 := by omega
          have lj : (j : Int) < 64 := by omega
          have zj : (0 : Int) ≤ (j : Int) := by omega
          have HB := Lib.hid hB
          have HK := Lib.hid hK
          clear hB hK ha hb hc hd hk2 hk7 hk15 hk16 hfl
          go_wp2_with fail
          go_still_tail 23, (by kernel_rfl)
          refine wpStill_step (fun K hK => ?_)
          go_simp
          refine ⟨_, (H1.out _).mono (fun _ _ h => ⟨h.1, h.2.symm⟩), hK _ ?_⟩
          clear hK K
          repeat still_step
          refine wpStill_step (fun K hK => ?_)
          go_simp
          refine ⟨_, (H2.out _).mono (fun _ _ h => ⟨h.1, h.2.symm⟩), hK _ ?_⟩
          clear hK K
          repeat still_step
          refine wpStill_nil ?_
          change wpList _ _ _ _ _ wr.drew
          obtain ⟨w2, hw2⟩ : ∃ w2, wr.drew = w2 := ⟨_, rfl⟩
          rw [hw2]
          have B2 := Lib.hid (show Blk w2 (w.heap.size + 1 + 1) 52 ((fillW bl j).map wv).toArray from by rw [← hw2]; exact HB.out.drew)
          have K2 := Lib.hid (show Kp [w.heap.size + 1 + 1] w0 w2 from by rw [← hw2]; exact HK.out.drew)
          clear hw2 c2 c7 c15 c16 hf
          have hf := B2.out.frozen j
          obtain ⟨y, hy⟩ : ∃ y, w2.cell? ⟨w.heap.size + 1 + 1, j, none⟩ = some y := ⟨_, wv_cell B2.out j (by rw [HF.out]; omega) _ rfl⟩
          go_wp2_with fail
          go_roundw
          case rel => exact ⟨j + 1, by omega, by omega, by go_num, by rw [HS.out, HW.out]; exact wv_set B2.out j _, kp_set K2.out _ _⟩
          case measure => simp [intOf]; omega
        · obtain rfl : j = 64 := by omega
          rw [fillW_64] at hB
          have HB := Lib.hid hB
          have HK := Lib.hid hK
          have hB1 : Blk wr (w.heap.size + 1) 52 zW := B1.kp hK (by simp)
          have hone := wv_one (wordsL bl 64)
          have hsz : ((wordsL bl 64).map wv).toArray.size = 64 := by simp [words_len]
          have hz : zW.size = 64 := by kernel_rfl
          obtain ⟨C, hC⟩ : ∃ C, ((wordsL bl 64).map wv).toArray = C := ⟨_, rfl⟩
          rw [hC] at hB hsz hone ⊢
          unfold Blk at hB hB1
          have HC := Lib.hid hC
          clear hK hC
          go_wp2_with (first
            | refine wpList_load_row rfl 52 (.tmp 3) rfl (w.heap.size + 1 + 1) rfl 52 C (0, 0) _ hB Tryd.underlying52 rfl (by rw [infoA64, hsz]) ?_
            | refine wpList_store_row rfl 52 (.tmp 2) (.tmp 50) rfl (w.heap.size + 1) C rfl rfl 52 _ hB1 (by rw [infoA64, hsz]) (by rw [hz, hsz]) hone ?_)
          refine bodyPost_ret (results_cell_row rfl _ _ (w.heap.size + 1) 52 C (0, 0) _ rfl (setRow_heap _ _ _ _ _ _ hB1) Tryd.underlying52 rfl (by rw [infoA64, hsz])) rfl ?_
          unfold AggP
          rw [HC.out]
          have KA := K0.to_ HK.out (fun y hy => .inr (by rw [List.mem_singleton.1 hy]; omega))
          have KB := KA.to_ (kp_setRow wr (w.heap.size + 1) C) (fun y hy => .inr (by rw [List.mem_singleton.1 hy]; omega))
          exact ⟨rfl, KB⟩
end Hs
end Go.Proofs.YtakanjadcnmciaaDoor
