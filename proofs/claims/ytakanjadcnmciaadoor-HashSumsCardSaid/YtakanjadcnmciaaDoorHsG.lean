/- Contract of the reference's Canon (layer 6). A state: eight words, a number, 64 bytes. -/
import Derived.Test.YtakanjadcnmciaaDoorHsZ
import Derived.Test.YtakanjadcnmciaaDoorHsHex
import Derived.Laws.Rows
import Derived.Laws.Tables
namespace Go.Proofs.YtakanjadcnmciaaDoor
namespace Hs
open Go.RowKit Ad

structure Wf (s : St) : Prop where
  h : s.h.length = 8
  n : s.n < 18446744073709551616
  t : s.t.length = 64
theorem stC_len (s : St) (h : Wf s) : (stC s).length = 73 := by unfold stC; simp [h.h, h.t]
theorem stC_n (s : St) (h : Wf s) : (stC s)[8]? = some (.int .u64 (s.n : Int)) := by
  unfold stC
  rw [List.getElem?_append_right (by simp [h.h])]
  simp [h.h]
theorem stC_t (s : St) (h : Wf s) (i : Nat) : (stC s)[9 + i]? = (s.t[i]?).map bv := by
  unfold stC
  rw [List.getElem?_append_right (by simp [h.h]; omega)]
  simp only [List.length_map, h.h]
  rw [show 9 + i - 8 = i + 1 by omega]
  simp
theorem stC_set (s : St) (h : Wf s) (i : Nat) (c : UInt8) : (stC s).set (9 + i) (bv c) = stC ⟨s.h, s.n, s.t.set i c⟩ := by
  unfold stC
  rw [List.set_append_right _ _ (by simp [h.h]; omega)]
  simp only [List.length_map, h.h]
  rw [show 9 + i - 8 = i + 1 by omega]
  simp [List.map_set]
def CanP (s : St) (w : World) (e : Ending) (w' : World) : Prop := e = .returned (.agg (stC s).toArray) ∧ Kp [] w w'
theorem infoSt : (Tryd.prog.info? 32).map (·.size) = some 73 := by kernel_rfl
theorem kp_setRow (w : World) (g : Nat) (cs : Array Value) : Kp [g] w (w.setRow g cs) := ⟨rfl, rfl, rfl, Nat.le_of_eq (by simp), fun i _ hx => setRow_other w g i cs (by simpa using hx)⟩
theorem stC_one (s : St) : (stC s).toArray.all (·.oneCell') = true := by
  unfold stC wv bv
  simp [Value.oneCell']
theorem alloc_sz2 (w : World) (o : Obj) : (w.alloc o).heap.size = w.heap.size + 1 := Array.size_push _
/-- The bytes of which those from k to j are cleared. -/
def clr (s : St) (k j : Nat) : List UInt8 := s.t.take k ++ pad (j - k) ++ s.t.drop j
theorem clr_len (s : St) (h : Wf s) (k j : Nat) (h1 : k ≤ j) (h2 : j ≤ 64) : (clr s k j).length = 64 := by
  have := h.t
  unfold clr pad
  simp
  omega
theorem clr_at (s : St) (h : Wf s) (k j : Nat) (h1 : k ≤ j) (h2 : j < 64) : ∃ c, (clr s k j)[j]? = some c := ⟨_, List.getElem?_eq_getElem (by rw [clr_len s h k j h1 (by omega)]; omega)⟩
theorem clr_set (s : St) (h : Wf s) (k j : Nat) (h1 : k ≤ j) (h2 : j < 64) : (clr s k j).set j 0 = clr s k (j + 1) := by
  have ht := h.t
  have hd : s.t.drop j = s.t[j] :: s.t.drop (j + 1) := List.drop_eq_getElem_cons (by omega)
  have hl : (s.t.take k ++ pad (j - k)).length = j := by unfold pad; simp; omega
  unfold clr
  rw [hd]
  have := set_mid (s.t.take k ++ pad (j - k)) (s.t.drop (j + 1)) s.t[j] 0
  rw [hl] at this
  rw [this, show j + 1 - k = (j - k) + 1 by omega]
  unfold pad
  rw [List.replicate_succ']
  simp
set_option maxRecDepth 100000 in
set_option maxHeartbeats 1000000 in
theorem rcanon_any (s : St) (h : Wf s) (w : World) : Calls Tryd.prog 22 #[.agg (stC s).toArray] w (CanP (cn s) w) := by
  have hn := stC_n s h
  obtain ⟨k, hk⟩ : ∃ k, s.n % 64 = k := ⟨_, rfl⟩
  have ek : (s.n : Int) % 64 = (k : Int) := by omega
  have ek2 : (s.n : Int).tmod 64 = (k : Int) := by rw [Int.tmod_eq_emod_of_nonneg (by omega)]; omega
  have wk : IntKind.i64.wrap (k : Int) = (k : Int) := IntWalk.i64_in _ (by omega)
  have wk2 : IntKind.u64.wrap (k : Int) = (k : Int) := by simp [IntKind.wrap, IntKind.bits, IntKind.signed]; omega
  have Hk := Lib.hid hk
  have hz1 := zst_run
  have hz2 := zst_ne
  clear hk
  go_enter Tryd.func22, Tryd.ntmps22
  go_wp2_with fail
  obtain ⟨w0, hw0⟩ : ∃ x, ((w.alloc (.cells (stC s).toArray 32)).alloc (.cells zst 32)) = x := ⟨_, rfl⟩
  have hs0 : w0.heap.size = w.heap.size + 2 := by rw [← hw0, alloc_sz2, alloc_sz2]
  have B0 : Blk w0 w.heap.size 32 (stC s).toArray := by rw [← hw0]; exact (Blk.new w _ _).alloc _
  have B2 : Blk w0 (w.heap.size + 1) 32 zst := by
    rw [← hw0]
    have := Blk.new (w.alloc (.cells (stC s).toArray 32)) 32 zst
    rwa [alloc_sz2] at this
  have K0 : Kp [] w w0 := by rw [← hw0]; exact ((Kp.refl _ _).alloc _).alloc _
  rw [hw0]
  clear hw0 hn
  go_loopw [3] (fun i wr => ∃ j : Nat, k ≤ j ∧ j ≤ 64 ∧ i = .int .i64 j ∧ Blk wr w.heap.size 32 (stC ⟨s.h, s.n, clr s k j⟩).toArray ∧ Kp [w.heap.size] w0 wr) (fun i _ => 64 - (intOf i).toNat)
  case atStart =>
    refine ⟨k, Nat.le_refl _, by have := Hk.out; omega, rfl, ?_, Kp.refl _ _⟩
    have : clr s k k = s.t := by unfold clr pad; simp
    rw [this]
    exact B0
  case round =>
    obtain ⟨j, hkj, hj, rfl, hBl, hK⟩ := hrel
    by_cases hlt : j < 64
    · have hwf : Wf ⟨s.h, s.n, clr s k j⟩ := ⟨h.h, h.n, clr_len s h k j hkj hj⟩
      obtain ⟨c, hc⟩ := clr_at s h k j hkj hlt
      have hcell := hBl.cell (9 + j)
      have hfr := hBl.frozen (9 + j)
      have hcc : (stC ⟨s.h, s.n, clr s k j⟩).toArray[9 + j]? = some (bv c) := by
        rw [List.getElem?_toArray, stC_t _ hwf, show (⟨s.h, s.n, clr s k j⟩ : St).t = clr s k j from rfl, hc]; rfl
      rw [hcc] at hcell
      unfold bv at hcell
      have jl : (j : Int) < 64 := by omega
      have j0 : (0 : Int) ≤ (j : Int) := by omega
      have HB := Lib.hid hBl
      have HK := Lib.hid hK
      have HS := Lib.hid (by
        have := hBl.set_ (9 + j) (bv 0)
        rw [List.setIfInBounds_toArray, stC_set _ hwf, show (⟨s.h, s.n, clr s k j⟩ : St).t = clr s k j from rfl, clr_set s h k j hkj hlt] at this
        exact this)
      clear hBl hK hcc hc hwf
      go_wp2_with fail
      go_roundw
      case rel => exact ⟨j + 1, by omega, by omega, by go_num, HS.out, HK.out.setCell (.inl (by simp)) _⟩
      case measure => simp [intOf]; omega
    · obtain rfl : j = 64 := by omega
      have hfin : (⟨s.h, s.n, clr s k 64⟩ : St) = cn s := by
        unfold clr cn
        rw [Hk.out, List.drop_eq_nil_of_le (by rw [h.t]; omega), List.append_nil]
      rw [hfin] at hBl
      have HB := Lib.hid hBl
      have HK := Lib.hid hK
      have hwc : Wf (cn s) := ⟨h.h, h.n, (cn_ca s h.t).l⟩
      have hsz : (stC (cn s)).toArray.size = 73 := by rw [List.size_toArray, stC_len _ hwc]
      have hB2 : Blk wr (w.heap.size + 1) 32 zst := B2.kp hK (by simp)
      have hz : zst.size = 73 := by kernel_rfl
      have hone := stC_one (cn s)
      obtain ⟨C, hC⟩ : ∃ C, (stC (cn s)).toArray = C := ⟨_, rfl⟩
      rw [hC] at hBl hsz hone
      unfold Blk at hBl hB2
      clear hK hfin
      go_wp2_with (first
        | refine wpList_load_row rfl 32 (.tmp 1) rfl w.heap.size rfl 32 C (0, 0) _ hBl Tryd.underlying32 rfl (by rw [infoSt, hsz]) ?_
        | refine wpList_store_row rfl 32 (.tmp 2) (.tmp 15) rfl (w.heap.size + 1) C rfl rfl 32 _ hB2 (by rw [infoSt, hsz]) (by rw [hz, hsz]) hone ?_)
      refine bodyPost_ret (results_cell_row rfl _ _ (w.heap.size + 1) 32 C (0, 0) _ rfl (setRow_heap _ _ _ _ _ _ hB2) Tryd.underlying32 rfl (by rw [infoSt, hsz])) rfl ?_
      unfold CanP
      rw [hC]
      exact ⟨rfl, (K0.to_ HK.out (by simp)).to_ (kp_setRow _ _ _) (by simp)⟩
end Hs
end Go.Proofs.YtakanjadcnmciaaDoor
