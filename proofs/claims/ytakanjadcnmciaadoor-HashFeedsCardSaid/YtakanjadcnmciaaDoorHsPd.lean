/- Contract of the program's process (layer 6). A hash value of eight words, a block of 64 bytes; the table of constants holds what the program's text says. -/
import Derived.Test.YtakanjadcnmciaaDoorHsPc
import Derived.Deep.Cut
import Derived.Great.BuildSlice
namespace Go.Proofs.YtakanjadcnmciaaDoor
namespace Hs
open Go.RowKit Ad

/-- The table of constants. -/
structure KE (w : World) : Prop where
  c : ∀ i x, keyL[i]? = some x → w.cell? ⟨0, i, none⟩ = some (.int .u32 (x.toNat : Int))
  s : 0 < w.heap.size
theorem KE.kp {X : List Nat} {w w' : World} (h : KE w) (k : Kp X w w') (hX : 0 ∉ X) : KE w' :=
  ⟨fun i x hx => (k.cell (p := ⟨0, i, none⟩) h.s hX).trans (h.c i x hx), Nat.lt_of_lt_of_le h.s k.size⟩
theorem key_at (j : Nat) (h : j < 64) : keyL[j]? = some (keyL.getD j 0) := by
  have hl : keyL.length = 64 := rfl
  rw [List.getD_eq_getElem?_getD, List.getElem?_eq_getElem (by omega)]
  rfl
def addN (a v : List UInt32) : Nat → List UInt32
  | 0 => a
  | j + 1 => (addN a v j).set j ((addN a v j).getD j 0 + v.getD j 0)
theorem addN_len (a v : List UInt32) (j : Nat) : (addN a v j).length = a.length := by
  induction j with
  | zero => rfl
  | succ j ih => unfold addN; rw [List.length_set, ih]
def rgL (r : Rg) : List UInt32 := [r.a, r.b, r.c, r.d, r.e, r.f, r.g, r.h]
theorem rgC_is (r : Rg) : rgC r = ((rgL r).map wv).toArray := rfl
theorem addN_8 (a : List UInt32) (r : Rg) (h : a.length = 8) : addN a (rgL r) 8 = addR a r := by
  match a, h with
  | [a0, a1, a2, a3, a4, a5, a6, a7], _ => rfl
theorem regs_C (a : List UInt32) (h : a.length = 8) : (a.map wv).toArray = rgC (regs a) := by
  match a, h with
  | [a0, a1, a2, a3, a4, a5, a6, a7], _ => rfl
theorem infoA8 : (Tryd.prog.info? 28).map (·.size) = some 8 := by kernel_rfl
theorem infoB64 : (Tryd.prog.info? 30).map (·.size) = some 64 := by kernel_rfl
def zA : Array Value := ((List.replicate 8 (0 : UInt32)).map wv).toArray
theorem zero8 : (#[.int .u32 0, .int .u32 0, .int .u32 0, .int .u32 0, .int .u32 0, .int .u32 0, .int .u32 0, .int .u32 0] : Array Value) = zA := by kernel_rfl
theorem add_is (a b : UInt32) : ((a.toNat : Int) + (b.toNat : Int)) % 4294967296 = ((a + b).toNat : Int) := by
  rw [UInt32.toNat_add]
  omega
theorem pexp_c (bl : List UInt8) (hl : bl.length = 64) (C1 CW : Array Value) (h1 : (bl.map bv).toArray = C1) (N : Nat) (hN : N = 64) (h2 : ((wordsL bl N).map wv).toArray = CW) (wz : World) : Calls Tryd.prog 32 #[.agg C1] wz (AggP CW wz) := by
  subst hN
  subst h1
  subst h2
  exact pexp_any bl hl wz
def blkN (hL : List UInt32) (bl : List UInt8) (N : Nat) : List UInt32 := addR hL (rounds (wordsL bl N) (regs hL) N)
set_option maxRecDepth 100000 in
set_option maxHeartbeats 1000000 in
theorem pproc_c (N : Nat) (hN : Hid (N = 64)) (hL : List UInt32) (hh : hL.length = 8) (bl : List UInt8) (hl : bl.length = 64) (C0 C1 CR : Array Value) (hC0 : (hL.map wv).toArray = C0) (hC1 : (bl.map bv).toArray = C1) (hCR : Hid (((blkN hL bl N).map wv).toArray = CR)) (w : World) (E : KE w) :
    Calls Tryd.prog 28 #[.agg C0, .agg C1] w (AggP CR w) := by
  have hn1 : ¬ (bl.map bv).toArray = #[] := fun h => by have := congrArg Array.size h; simp [hl] at this
  have hn2 : ¬ (hL.map wv).toArray = #[] := fun h => by have := congrArg Array.size h; simp [hh] at this
  have hs1 : C1.size = 64 := by rw [← hC1]; simp [hl]
  have hs0 : C0.size = 8 := by rw [← hC0]; simp [hh]
  have HC1 := Lib.hid hC1
  have HC0 := Lib.hid hC0
  have HS1 := Lib.hid hs1
  have HS0 := Lib.hid hs0
  obtain ⟨CW, hCW⟩ : ∃ C, ((wordsL bl N).map wv).toArray = C := ⟨_, rfl⟩
  have hsW : CW.size = 64 := by rw [← hCW, List.size_toArray, List.length_map, words_len, hN.out]
  have hneW : ¬ CW = #[] := fun h => by rw [h] at hsW; cases hsW
  have honeW : CW.all (·.oneCell') = true := by rw [← hCW]; exact wv_one _
  have H1 := Lib.hid (fun wz => pexp_c bl hl C1 CW hC1 N hN.out hCW wz)
  have HCW := Lib.hid hCW
  have HSW := Lib.hid hsW
  rw [hC1] at hn1
  rw [hC0] at hn2
  have HE := Lib.hid E
  clear hC1 hC0 hs1 hs0 hCW hsW E
  go_enter Tryd.func28, Tryd.ntmps28
  go_upto_region 1 with fail
  rw [zero8]
  obtain ⟨w0, hw0⟩ : ∃ x, (((w.alloc (.cells C0 28)).alloc (.cells C1 30)).alloc (.cells zA 28)) = x := ⟨_, rfl⟩
  have hs0 : w0.heap.size = w.heap.size + 3 := by rw [← hw0, alloc_sz, alloc_sz, alloc_sz]
  have B0 : Blk w0 w.heap.size 28 C0 := by rw [← hw0]; exact ((Blk.new w _ _).alloc _).alloc _
  have B1 : Blk w0 (w.heap.size + 1) 30 C1 := by
    rw [← hw0]
    have := Blk.new (w.alloc (.cells C0 28)) 30 C1
    rw [alloc_sz] at this
    exact this.alloc _
  have B2 : Blk w0 (w.heap.size + 1 + 1) 28 zA := by
    rw [← hw0]
    have := Blk.new ((w.alloc (.cells C0 28)).alloc (.cells C1 30)) 28 zA
    rw [alloc_sz, alloc_sz] at this
    exact this
  have K0 : Kp [] w w0 := by rw [← hw0]; exact (((Kp.refl _ _).alloc _).alloc _).alloc _
  rw [hw0]
  clear hw0
  have HK0 := Lib.hid K0
  have HB0 := Lib.hid B0
  have HB1 := Lib.hid B1
  have HB2 := Lib.hid B2
  unfold Blk at B1
  clear K0 B0 B2
  go_wp2_with (first
    | refine wpList_load_row rfl 30 (.tmp 3) rfl (w.heap.size + 1) rfl 30 C1 (0, 0) _ B1 Tryd.underlying30 rfl (by rw [infoB64, HS1.out]) ?_)
  refine (H1.out _).mono ?_
  rintro e w1 ⟨rfl, hK1⟩
  have HK1 := Lib.hid (HK0.out.nil_to hK1)
  have HBb0 := Lib.hid (HB0.out.kp hK1 (by simp))
  have HBb2 := Lib.hid (HB2.out.kp hK1 (by simp))
  have hz1 := hK1.size
  obtain ⟨g5, hg5⟩ : ∃ g, w1.heap.size = g := ⟨_, rfl⟩
  have HG5 := Lib.hid (show w.heap.size + 3 ≤ g5 by omega)
  have hN5 := Blk.new w1 52 zW
  rw [hg5] at hN5
  have hzz : zW.size = 64 := by kernel_rfl
  have HN5 := Lib.hid hN5
  have HZ := Lib.hid hzz
  have HG := Lib.hid hg5
  clear hK1 hz1 hN5 hzz hs0 B1
  go_upto_region 2 with (refine wpList_store_rowTo rfl 52 (.tmp 5) (.tmp 10) rfl rfl g5 CW rfl rfl 52 zW (by rw [zero64]; exact HN5.out) (by rw [infoA64, HSW.out]) (by rw [HZ.out, HSW.out]) honeW ?_)
  rw [zero64]
  obtain ⟨w2, hw2⟩ : ∃ x, (w1.alloc (.cells zW 52)).setRow g5 CW = x := ⟨_, rfl⟩
  have B5 : Blk w2 g5 52 CW := by rw [← hw2]; exact setRow_heap _ _ _ _ _ _ HN5.out
  have hs2 : w2.heap.size = g5 + 1 := by rw [← hw2, size_setRow, alloc_sz, HG.out]
  have K2 : Kp [g5] w1 w2 := by rw [← hw2]; exact ((Kp.refl [g5] w1).alloc _).trans (kp_setRow _ _ _)
  rw [hw2]
  have hb0 := HBb0.out.kp K2 (by have := HG5.out; simp; omega)
  have HC0b := Lib.hid hb0
  have HC2b := Lib.hid (HBb2.out.kp K2 (by have := HG5.out; simp; omega))
  have HC5 := Lib.hid B5
  have HK2 := Lib.hid (HK1.out.to_ K2 (fun y hy => .inr (by have := HG5.out; rw [List.mem_singleton.1 hy]; omega)))
  clear hw2 K2 B5 hg5
  unfold Blk at hb0
  have hN6 : Blk (w2.alloc (.cells zA 28)) (g5 + 1) 28 zA := by
    have := Blk.new w2 28 zA
    rwa [hs2] at this
  have hone0 : C0.all (·.oneCell') = true := by rw [← HC0.out]; exact wv_one _
  have hzA : zA.size = 8 := by kernel_rfl
  have HN6 := Lib.hid hN6
  have HZA := Lib.hid hzA
  clear hN6 hzA
  go_upto_region 3 with (first
    | refine wpList_load_row rfl 28 (.tmp 2) rfl w.heap.size rfl 28 C0 (0, 0) _ hb0 Tryd.underlying28 rfl (by rw [infoA8, HS0.out]) ?_
    | refine wpList_store_rowTo rfl 28 (.tmp 6) (.tmp 11) rfl rfl (g5 + 1) C0 rfl rfl 28 zA (by rw [zero8]; exact HN6.out) (by rw [infoA8, HS0.out]) (by rw [HZA.out, HS0.out]) hone0 ?_)
  rw [zero8]
  obtain ⟨w3, hw3⟩ : ∃ x, (w2.alloc (.cells zA 28)).setRow (g5 + 1) C0 = x := ⟨_, rfl⟩
  have B6 : Blk w3 (g5 + 1) 28 C0 := by rw [← hw3]; exact setRow_heap _ _ _ _ _ _ HN6.out
  have K3 : Kp [g5 + 1] w2 w3 := by rw [← hw3]; exact ((Kp.refl [g5 + 1] w2).alloc _).trans (kp_setRow _ _ _)
  rw [hw3]
  have HD0 := Lib.hid (HC0b.out.kp K3 (by have := HG5.out; simp; omega))
  have HD2 := Lib.hid (HC2b.out.kp K3 (by have := HG5.out; simp; omega))
  have HD5 := Lib.hid (HC5.out.kp K3 (by simp))
  have HK3 := Lib.hid (HK2.out.to_ K3 (fun y hy => .inr (by have := HG5.out; rw [List.mem_singleton.1 hy]; omega)))
  have HE3 := Lib.hid (HE.out.kp HK3.out (by simp))
  have HB6 := Lib.hid B6
  clear hw3 K3 B6 hb0 hs2 hone0
  clear hn1 hn2 hneW honeW
  go_wp2_with fail
  go_loopw [7, 12] (fun _ i wr => ∃ j : Nat, j ≤ 64 ∧ i = .int .i64 j ∧ Blk wr (g5 + 1) 28 (rgC (rounds (wordsL bl N) (regs hL) j)) ∧ Kp [g5 + 1] w3 wr) (fun _ i _ => 64 - (intOf i).toNat)
  case atStart => exact ⟨0, by omega, rfl, by rw [show rounds (wordsL bl N) (regs hL) 0 = regs hL from rfl, ← regs_C hL hh, HC0.out]; exact HB6.out, Kp.refl _ _⟩
  case round =>
    obtain ⟨j, hj, rfl, hB, hK⟩ := hrel
    by_cases hlt : j < 64
    · obtain ⟨r, hr⟩ : ∃ r, rounds (wordsL bl N) (regs hL) j = r := ⟨_, rfl⟩
      obtain ⟨x, hx⟩ : ∃ x, keyL.getD j 0 = x := ⟨_, rfl⟩
      obtain ⟨y, hy⟩ : ∃ y, (wordsL bl N).getD j 0 = y := ⟨_, rfl⟩
      have HR := Lib.hid (by show rnd (rounds (wordsL bl N) (regs hL) j) (keyL.getD j 0) ((wordsL bl N).getD j 0) = _; rw [hr, hx, hy, rnd_is] : rounds (wordsL bl N) (regs hL) (j + 1) = rndA r (x + y))
      have ck := (HE3.out.kp hK (by have := HG5.out; simp)).c j x (by rw [key_at j hlt, hx])
      have cw := wv_cell (show Blk wr g5 52 ((wordsL bl N).map wv).toArray from by rw [HCW.out]; exact HD5.out.kp hK (by simp)) j (by rw [words_len, hN.out]; exact hlt) y hy
      rw [hr] at hB
      obtain ⟨a, b, c, d, e, f, g, z⟩ := r
      have c0 := hB.cell 0
      have c1 := hB.cell 1
      have c2 := hB.cell 2
      have c3 := hB.cell 3
      have c4 := hB.cell 4
      have c5 := hB.cell 5
      have c6 := hB.cell 6
      have c7 := hB.cell 7
      simp only [rgC, wv, List.getElem?_toArray, List.getElem?_cons_zero, List.getElem?_cons_succ] at c0 c1 c2 c3 c4 c5 c6 c7
      have j0 : (0 : Int) ≤ (j : Int) := by omega
      have j1 : (j : Int) < 64 := by omega
      have HB := Lib.hid hB
      have HK := Lib.hid hK
      clear hr hx hy hB hK
      go_wp2_with fail
      go_still_tail 8, (by kernel_rfl)
      change wpList _ _ _ _ _ wr.drew
      rw [w_add]
      obtain ⟨w4, hw4⟩ : ∃ w4, wr.drew = w4 := ⟨_, rfl⟩
      rw [hw4]
      have HB4 := Lib.hid (show Blk w4 (g5 + 1) 28 (rgC ⟨a, b, c, d, e, f, g, z⟩) from by rw [← hw4]; exact HB.out.drew)
      have HK4 := Lib.hid (show Kp [g5 + 1] w3 w4 from by rw [← hw4]; exact HK.out.drew)
      have HKA := Lib.hid (around_any a b c d e f g z (x + y))
      clear hw4 c0 c1 c2 c3 c4 c5 c6 c7 ck cw
      go_wp2_with fail
      refine (HKA.out _).mono ?_
      rintro e5 w5 ⟨rfl, hK5⟩
      have HB5 := Lib.hid (HB4.out.kp hK5 (by simp))
      have HK5 := Lib.hid (HK4.out.trans hK5.of_nil)
      clear hK5
      obtain ⟨CN, hCN⟩ : ∃ C, rgC (rndA ⟨a, b, c, d, e, f, g, z⟩ (x + y)) = C := ⟨_, rfl⟩
      have hsN : CN.size = 8 := by rw [← hCN]; rfl
      have hoN : CN.all (·.oneCell') = true := by rw [← hCN, rgC_is]; exact wv_one _
      have HCN := Lib.hid hCN
      have HSN := Lib.hid hsN
      rw [hCN]
      clear hCN hsN
      go_wp2_with (refine wpList_store_rowTo rfl 28 (.tmp 6) (.tmp 23) rfl rfl (g5 + 1) CN rfl rfl 28 _ HB5.out (by rw [infoA8, HSN.out]) (by rw [HSN.out]; rfl) hoN ?_)
      go_roundw
      case rel => exact ⟨j + 1, by omega, by go_num, by rw [HR.out, HCN.out]; exact setRow_heap _ _ _ _ _ _ HB5.out, HK5.out.trans (kp_setRow _ _ _)⟩
      case measure => simp [intOf]; omega
    · obtain rfl : j = 64 := by omega
      rw [show (((64 : Nat) : Int)) = 64 from rfl]
      obtain ⟨r, hr⟩ : ∃ r, rounds (wordsL bl N) (regs hL) N = r := ⟨_, rfl⟩
      rw [show rounds (wordsL bl N) (regs hL) 64 = r by rw [← hr, hN.out], rgC_is] at hB
      have HRE := Lib.hid hr
      have HB := Lib.hid hB
      have HK := Lib.hid hK
      have HF0 := Lib.hid (HD0.out.kp hK (by have := HG5.out; simp; omega))
      clear hB hK hr hj hlt
      go_wp2_with fail
      go_loopw [8, 25] (fun _ i wr' => ∃ j : Nat, j ≤ 8 ∧ i = .int .i64 j ∧ Blk wr' w.heap.size 28 ((addN hL (rgL r) j).map wv).toArray ∧ Kp [w.heap.size] wr wr') (fun _ i _ => 8 - (intOf i).toNat)
      case atStart => exact ⟨0, by omega, rfl, by rw [show addN hL (rgL r) 0 = hL from rfl, HC0.out]; exact HF0.out, Kp.refl _ _⟩
      case round =>
        obtain ⟨j, hj, rfl, hB, hK⟩ := hrel
        by_cases hlt : j < 8
        · obtain ⟨a, ha⟩ : ∃ a, (addN hL (rgL r) j).getD j 0 = a := ⟨_, rfl⟩
          obtain ⟨b, hb⟩ : ∃ a, (rgL r).getD j 0 = a := ⟨_, rfl⟩
          have HS := Lib.hid (by show (addN hL (rgL r) j).set j ((addN hL (rgL r) j).getD j 0 + (rgL r).getD j 0) = _; rw [ha, hb] : addN hL (rgL r) (j + 1) = (addN hL (rgL r) j).set j (a + b))
          have ca := wv_cell hB j (by rw [addN_len]; omega) a ha
          have cb := wv_cell (HB.out.kp hK (by have := HG5.out; simp; omega)) j (by rw [show (rgL r).length = 8 from rfl]; omega) b hb
          have hf := hB.frozen j
          have HB2 := Lib.hid hB
          have HK2 := Lib.hid hK
          have j0 : (0 : Int) ≤ (j : Int) := by omega
          have j1 : (j : Int) < 8 := by omega
          clear ha hb hB hK
          go_wp2_with fail
          go_still_tail 8, (by kernel_rfl)
          change wpList _ _ _ _ _ wr.drew
          rw [w_add]
          obtain ⟨w4, hw4⟩ : ∃ w4, wr.drew = w4 := ⟨_, rfl⟩
          rw [hw4]
          have HB4 := Lib.hid (show Blk w4 w.heap.size 28 ((addN hL (rgL r) j).map wv).toArray from by rw [← hw4]; exact HB2.out.drew)
          have HK4 := Lib.hid (HK2.out.trans (show Kp [w.heap.size] wr w4 from by rw [← hw4]; exact (Kp.refl _ _).drew))
          clear hw4 ca cb hf
          have hf := HB4.out.frozen j
          obtain ⟨y, hy⟩ : ∃ y, w4.cell? ⟨w.heap.size, j, none⟩ = some y := ⟨_, wv_cell HB4.out j (by rw [addN_len]; omega) _ rfl⟩
          go_wp2_with fail
          go_roundw
          case rel => exact ⟨j + 1, by omega, by go_num, by rw [HS.out, add_is]; exact wv_set HB4.out j _, kp_set HK4.out _ _⟩
          case measure => simp [intOf]; omega
        · obtain rfl : j = 8 := by omega
          rw [show (((8 : Nat) : Int)) = 8 from rfl]
          have hCF : ((addN hL (rgL r) 8).map wv).toArray = CR := by rw [addN_8 _ _ hh, ← hCR.out, ← HRE.out]; rfl
          rw [hCF] at hB
          have hone : CR.all (·.oneCell') = true := by rw [← hCF]; exact wv_one _
          have hsz : CR.size = 8 := by rw [← hCF, List.size_toArray, List.length_map, addN_len, hh]
          have hB2 : Blk wr (w.heap.size + 1 + 1) 28 zA := (HD2.out.kp HK.out (by have := HG5.out; simp; omega)).kp hK (by simp; omega)
          have HKF := Lib.hid ((HK3.out.to_ HK.out (fun y hy => .inr (by have := HG5.out; rw [List.mem_singleton.1 hy]; omega))).to_ hK (fun y hy => .inr (by rw [List.mem_singleton.1 hy]; omega)))
          have HB2 := Lib.hid hB2
          have HSZ := Lib.hid hsz
          unfold Blk at hB
          clear hCF hK hB2 hsz hj hlt
          go_wp2_with (first
            | refine wpList_load_row rfl 28 (.tmp 2) rfl w.heap.size rfl 28 CR (0, 0) _ hB Tryd.underlying28 rfl (by rw [infoA8, HSZ.out]) ?_
            | refine wpList_store_rowTo rfl 28 (.tmp 4) (.tmp 37) rfl rfl (w.heap.size + 1 + 1) CR rfl rfl 28 zA HB2.out (by rw [infoA8, HSZ.out]) (by rw [HZA.out, HSZ.out]) hone ?_)
          refine bodyPost_ret (results_cell_row rfl _ _ (w.heap.size + 1 + 1) 28 CR (0, 0) _ rfl (setRow_heap _ _ _ _ _ _ HB2.out) Tryd.underlying28 rfl (by rw [infoA8, HSZ.out])) rfl ?_
          exact ⟨rfl, HKF.out.to_ (kp_setRow _ _ _) (fun y hy => .inr (by rw [List.mem_singleton.1 hy]; omega))⟩
theorem pproc_any (hL : List UInt32) (hh : hL.length = 8) (bl : List UInt8) (hl : bl.length = 64) (w : World) (E : KE w) :
    Calls Tryd.prog 28 #[.agg (hL.map wv).toArray, .agg (bl.map bv).toArray] w (AggP ((blk hL bl).map wv).toArray w) :=
  pproc_c 64 rfl hL hh bl hl _ _ _ rfl rfl rfl w E
end Hs
end Go.Proofs.YtakanjadcnmciaaDoor
