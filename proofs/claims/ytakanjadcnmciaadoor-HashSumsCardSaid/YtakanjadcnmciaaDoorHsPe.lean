/- Contract of the program's Feed (layer 6). A state; bytes; the table of constants holds what the program's text says. -/
import Derived.Test.YtakanjadcnmciaaDoorHsPd
import Derived.Test.YtakanjadcnmciaaDoorHsG
import Derived.Test.YtakanjadcnmciaaDoorHsE
import Derived.Test.YtakanjadcnmciaaDoorHsSt
import Derived.Deep.Cut
import Derived.Lib.SliceRun
namespace Go.Proofs.YtakanjadcnmciaaDoor
namespace Hs
open Go.RowKit Ad

theorem zeroU8 (w : World) : Sem.run Tryd.prog (zeroValue 5) w = .ok (.int .u8 0) w := by kernel_rfl
theorem infoU8 : (Tryd.prog.info? 5).map (·.size) = some 1 := by kernel_rfl
theorem pad_bv (n : Nat) : (pad n).map bv = List.replicate n (.int .u8 0) := by unfold pad; rw [List.map_replicate]; rfl
theorem tl_pad (hh : List UInt32) (M p : Nat) (x r : List UInt8) (hp : x.length = p) (h : p + r.length ≤ 64) : tl ⟨hh, M, x ++ pad (64 - p)⟩ p r = ⟨hh, M, (x ++ r) ++ pad (64 - (p + r.length))⟩ := by
  subst hp
  unfold tl pad
  dsimp only
  rw [List.take_left, List.drop_append, List.drop_eq_nil_of_le (by omega), List.nil_append, List.drop_replicate]
  congr 3
  omega
theorem blk_copy {w : World} {g : Nat} {t : TypeId} {s : St} (B : Blk w g t (stC s).toArray) (h : Wf s) (p : Nat) (y : List UInt8) :
    Blk (w.setRow g ((stC s).toArray.toList.take (9 + p) ++ (y.map bv ++ (stC s).toArray.toList.drop (9 + p + (y.map bv).length))).toArray) g t (stC (tl s p y)).toArray := by
  have := setRow_heap w g _ ((stC s).toArray.toList.take (9 + p) ++ (y.map bv ++ (stC s).toArray.toList.drop (9 + p + (y.map bv).length))).toArray t _ B
  rw [← stC_splice s h p y]
  rw [List.append_assoc]
  exact this
theorem wf_pad (hh : List UInt32) (M : Nat) (x : List UInt8) (h8 : hh.length = 8) (hM : M < 18446744073709551616) (hx : x.length ≤ 64) : Wf ⟨hh, M, x ++ pad (64 - x.length)⟩ := ⟨h8, hM, by unfold pad; simp; omega⟩
theorem tl_nil (s : St) (p : Nat) : tl s p [] = s := by
  unfold tl
  simp
theorem tl_wf (s : St) (h : Wf s) (p : Nat) (y : List UInt8) (hp : p + y.length ≤ 64) : Wf (tl s p y) := by
  have := h.t
  exact ⟨h.h, h.n, by unfold tl; simp; omega⟩
theorem byin_cell {w wr : World} {X : List Nat} {b o : Nat} {r : List UInt8} (h : ∀ i c, r[i]? = some c → w.cell? ⟨b, o + i, none⟩ = some (.int .u8 (c.toNat : Int))) (hb : b < w.heap.size) (K : Kp X w wr) (hX : b ∉ X) (n : Nat) :
    ∀ j v, ((r.take n).map bv)[j]? = some v → wr.cell? ((⟨b, o, none⟩ : Addr).add j) = some v := fun j v hv => by
  rw [List.getElem?_map] at hv
  obtain ⟨c, hc, rfl⟩ := Option.map_eq_some_iff.1 hv
  rw [Addr.add_mid, K.cell (p := ⟨b, o + j, none⟩) hb hX]
  refine h j c ?_
  rw [List.getElem?_take] at hc
  split at hc
  · exact hc
  · cases hc
theorem wpList_copy_st {w : World} {ops : Array Oper} {rest : List Oper} {op : Oper} {a : Act} {Q : Exit → Act → World → Prop} (hgd : op.guard = none) (d sr : Operand)
    (ho : op.op = .call { callee := .builtin .copy, args := #[d, sr], argTypes := #[22, 22] })
    (g p dLen dCap b o sLen sCap : Nat) (hd : a.eval d = .slice (some ⟨g, 9 + p, none⟩) dLen dCap) (hs : a.eval sr = .slice (some ⟨b, o, none⟩) sLen sCap)
    (st : St) (hst : Wf st) (B : Blk w g 32 (stC st).toArray) (y : List UInt8) (q : Nat) (hq : y.length = q) (hm : q = min sLen dLen) (hf : p + q ≤ 64)
    (hsrc : ∀ j v, (y.map bv)[j]? = some v → w.cell? ((⟨b, o, none⟩ : Addr).add j) = some v)
    (h : ∀ w', Hid (Blk w' g 32 (stC (tl st p y)).toArray) → Hid (Kp [g] w w') → wpList Tryd.prog ops Q rest (a.put op.dst (.int .i64 (q : Int))) w') : wpList Tryd.prog ops Q (op :: rest) a w := by
  have hl : (y.map bv).length = q := by rw [List.length_map, hq]
  refine wpList_copy_own hgd d sr 22 22 ho 5 Tryd.underlying22 infoU8 g (9 + p) dLen dCap ⟨b, o, none⟩ sLen sCap hd hs (stC st).toArray 32 B (y.map bv) (by rw [hl, hm]) hsrc (by rw [hl, List.size_toArray, stC_len _ hst]; omega) (fun v hv => by obtain ⟨c, _, rfl⟩ := List.mem_map.1 hv; rfl) ?_
  have := h _ (blk_copy B hst p y) (kp_setRow _ _ _)
  rw [← hl] at this
  exact this
/-- How long a slice is. -/
def slLen : Value → Nat
  | .slice _ n _ => n
  | _ => 0
/-- What holds at the head of Feed's loop. -/
structure FeR (F : St) (M : Nat) (w w2 : World) (v1 v5 : Value) (wr : World) (x r : List UInt8) (hh : List UInt32) (m : Nat) (A : Option Addr) (c : Nat) : Prop where
  e1 : v1 = .slice A r.length c
  e5 : v5 = .int .i64 (x.length : Int)
  x64 : x.length < 64
  m64 : m % 64 = x.length
  mlt : m < 18446744073709551616
  mM : (m + r.length) % 18446744073709551616 = M
  h8 : hh.length = 8
  bi : ByIn w A r
  rl : r.length ≤ 4611686018427387904
  rc : r.length ≤ c
  fe : F = r.foldl f1 ⟨hh, m, x ++ pad (64 - x.length)⟩
  bl : Blk wr w.heap.size 32 (stC ⟨hh, M, x ++ pad (64 - x.length)⟩).toArray
  kp : Kp [w.heap.size] w2 wr
theorem feR_next {F : St} {M : Nat} {w w2 wr : World} {r : List UInt8} {H : List UInt32} {m q n : Nat} {A : Option Addr} {c : Nat} (hn : (r.drop q).length = n)
    (hmod : (m + q) % 18446744073709551616 % 64 = 0) (hM : (m + r.length) % 18446744073709551616 = M) (hq : q ≤ r.length) (h8 : H.length = 8) (hb : ByIn w A (r.drop q)) (hl : n ≤ 4611686018427387904) (hc : n ≤ c)
    (hF : F = (r.drop q).foldl f1 ⟨H, (m + q) % 18446744073709551616, pad 64⟩) (hB : Blk wr w.heap.size 32 (stC ⟨H, M, pad 64⟩).toArray) (hK : Kp [w.heap.size] w2 wr) :
    FeR F M w w2 (.slice A n c) (.int .i64 0) wr [] (r.drop q) H ((m + q) % 18446744073709551616) A c :=
  ⟨by rw [hn], rfl, by decide, hmod, Nat.mod_lt _ (by decide), by rw [List.length_drop]; omega, h8, hb, by rw [hn]; exact hl, by rw [hn]; exact hc, hF, hB, hK⟩
set_option maxRecDepth 100000 in
set_option maxHeartbeats 1000000 in
theorem pfeed_c (s : St) (h : Wf s) (l : List UInt8) (A : Option Addr) (c : Nat) (hc : l.length ≤ c) (C : Array Value) (hC : (stC s).toArray = C) (w : World) (E : KE w) (hA : ByIn w A l) (hl : l.length ≤ 4611686018427387904) :
    Calls Tryd.prog 15 #[.agg C, .slice A l.length c] w (AggP (stC (feed s l)).toArray w) := by
  have hn := stC_n s h
  obtain ⟨k, hk⟩ : ∃ k, s.n % 64 = k := ⟨_, rfl⟩
  have hk64 : k < 64 := by omega
  have ek : (s.n : Int) % 64 = (k : Int) := by omega
  have ek2 : (s.n : Int).tmod 64 = (k : Int) := by rw [Int.tmod_eq_emod_of_nonneg (by omega)]; omega
  have wk : IntKind.i64.wrap (k : Int) = (k : Int) := IntWalk.i64_in _ (by omega)
  have wk2 : IntKind.u64.wrap (k : Int) = (k : Int) := by simp [IntKind.wrap, IntKind.bits, IntKind.signed]; omega
  have hsz : C.size = 73 := by rw [← hC, List.size_toArray, stC_len s h]
  have hne : ¬ C = #[] := fun h => by rw [h] at hsz; cases hsz
  have hz1 := zst_run
  have hz2 := zst_ne
  have HS := Lib.hid hsz
  have Hk := Lib.hid hk
  have HC := Lib.hid hC
  have Hn := Lib.hid hn
  have HE := Lib.hid E
  have HA := Lib.hid hA
  clear hsz hk hC hn E hA
  go_enter Tryd.func15, Tryd.ntmps15
  go_upto_region 1 with fail
  obtain ⟨w0, hw0⟩ : ∃ x, ((w.alloc (.cells C 32)).alloc (.cells zst 32)) = x := ⟨_, rfl⟩
  have hs0 : w0.heap.size = w.heap.size + 2 := by rw [← hw0, alloc_sz, alloc_sz]
  have B0 : Blk w0 w.heap.size 32 C := by rw [← hw0]; exact (Blk.new w _ _).alloc _
  have B2 : Blk w0 (w.heap.size + 1) 32 zst := by
    rw [← hw0]
    have := Blk.new (w.alloc (.cells C 32)) 32 zst
    rwa [alloc_sz] at this
  have K0 : Kp [] w w0 := by rw [← hw0]; exact ((Kp.refl _ _).alloc _).alloc _
  rw [hw0]
  clear hw0 hz1 hz2 hne
  have c8 := B0.cell 8
  rw [← HC.out, List.getElem?_toArray, Hn.out] at c8
  have f8 := B0.frozen 8
  have HK0 := Lib.hid K0
  have HB0 := Lib.hid B0
  have HB2 := Lib.hid B2
  have HS0 := Lib.hid hs0
  obtain ⟨M, hM⟩ : ∃ M, (s.n + l.length) % 18446744073709551616 = M := ⟨_, rfl⟩
  have hwA : IntKind.u64.wrap ((s.n : Int) + (l.length : Int)) = (M : Int) := by simp [IntKind.wrap, IntKind.bits, IntKind.signed]; omega
  have hwB : IntKind.u64.wrap (l.length : Int) = (l.length : Int) := by simp [IntKind.wrap, IntKind.bits, IntKind.signed]; omega
  have HM := Lib.hid hM
  clear K0 B0 B2 hs0 hM
  go_upto_region 3 with fail
  obtain ⟨w1, hw1⟩ : ∃ x, w0.setCell ⟨w.heap.size, 8, none⟩ (.int .u64 (M : Int)) = x := ⟨_, rfl⟩
  rw [hw1]
  obtain ⟨s1, hs1⟩ : ∃ x : St, (⟨s.h, M, s.t⟩ : St) = x := ⟨_, rfl⟩
  have h1 : Wf s1 := by rw [← hs1]; exact ⟨h.h, by have := HM.out; show M < _; omega, h.t⟩
  have B1 : Blk w1 w.heap.size 32 (stC s1).toArray := by
    rw [← hw1, ← hs1, ← stC_num s h M]
    have := (HC.out ▸ HB0.out : Blk w0 w.heap.size 32 (stC s).toArray).set_ 8 (.int .u64 (M : Int))
    rwa [List.setIfInBounds_toArray] at this
  have K1 : Kp [w.heap.size] w0 w1 := by rw [← hw1]; exact kp_set (Kp.refl _ _) _ _
  have HB1 := Lib.hid B1
  have HK1 := Lib.hid K1
  have HS1 := Lib.hid hs1
  have HW1 := Lib.hid h1
  clear hw1 B1 K1 hs1 h1 c8 f8
  have k0 : (0 : Int) ≤ (k : Int) := by omega
  have k1 : (k : Int) ≤ 64 := by omega
  have hclr := Lib.run_clear_slice (P := Tryd.prog) w1 22 5 0 (.int .u8 0) Tryd.underlying22 zeroU8 rfl rfl w.heap.size (9 + k) (64 - k) (64 - k) (by omega) (fun j hj => (there_st HB1.out HW1.out (9 + k) (64 - k) (by omega) j hj).1) (fun j hj => (there_st HB1.out HW1.out (9 + k) (64 - k) (by omega) j hj).2)
  have B2a := blk_setCells (List.replicate (64 - k) (.int .u8 0)) (9 + k) w1 (stC s1) HB1.out (by rw [stC_len _ HW1.out, List.length_replicate]; omega)
  rw [← pad_bv, stC_splice s1 HW1.out k (pad (64 - k))] at B2a
  rw [← pad_bv] at hclr
  obtain ⟨w2, hw2⟩ : ∃ x, w1.setCells w.heap.size (9 + k) ((pad (64 - k)).map bv) = x := ⟨_, rfl⟩
  have K2 : Kp [w.heap.size] w1 w2 := by rw [← hw2]; exact kp_setCells _ _ _ _
  rw [hw2] at hclr B2a
  have HK2 := Lib.hid (HK1.out.trans K2)
  have HB2a := Lib.hid B2a
  clear hw2 K2 B2a
  go_wp2_with fail
  clear hclr
  go_loopw [1, 5] (fun v1 v5 wr => ∃ x r hh m A' c', FeR (feed s l) M w w2 v1 v5 wr x r hh m A' c') (fun v1 _ _ => slLen v1)
  case atStart =>
    refine ⟨s.t.take k, l, s.h, s.n, A, c, rfl, ?_, ?_, ?_, h.n, HM.out, h.h, HA.out, hl, hc, ?_, ?_, Kp.refl _ _⟩
    · rw [List.length_take, h.t, Nat.min_eq_left (by omega)]
    · rw [List.length_take, h.t]; omega
    · rw [List.length_take, h.t, Hk.out]; omega
    · unfold feed cn
      rw [Hk.out, List.length_take, h.t, Nat.min_eq_left (by omega)]
    · have := HB2a.out
      rw [← HS1.out] at this
      unfold tl at this
      dsimp only at this
      rw [List.drop_eq_nil_of_le (by rw [h.t]; unfold pad; simp; omega), List.append_nil] at this
      rw [List.length_take, h.t, Nat.min_eq_left (by omega)]
      exact this
  case round =>
    obtain ⟨x, r, hh, m, A', c', R⟩ := hrel
    obtain ⟨e1, e5, hx64, hm64, hmlt, hmM, hh8, hbi, hrl, hrc, hfe, hbl, hkp⟩ := R
    subst e1
    subst e5
    have hMlt : M < 18446744073709551616 := by omega
    have hwf := wf_pad hh M x hh8 hMlt (by omega)
    have HX := Lib.hid hm64
    have HFE := Lib.hid hfe
    have HML := Lib.hid hmlt
    have HMM := Lib.hid hmM
    have HH8 := Lib.hid hh8
    obtain ⟨p, hp⟩ : ∃ p, x.length = p := ⟨_, rfl⟩
    obtain ⟨st, hst⟩ : ∃ t : St, (⟨hh, M, x ++ pad (64 - x.length)⟩ : St) = t := ⟨_, rfl⟩
    rw [hst] at hbl hwf
    rw [hp] at hx64 ⊢
    have HP := Lib.hid hp
    have HST := Lib.hid hst
    have HWF := Lib.hid hwf
    have HKP := Lib.hid ((HK0.out.to_ HK2.out (fun y hy => .inr (by rw [List.mem_singleton.1 hy]; exact Nat.le_refl _))).to_ hkp (fun y hy => .inr (by rw [List.mem_singleton.1 hy]; exact Nat.le_refl _)))
    have HKW := Lib.hid hkp
    have HB2r := Lib.hid ((HB2.out.kp HK2.out (by simp)).kp hkp (by simp))
    have HBL := Lib.hid hbl
    have p0 : (0 : Int) ≤ (p : Int) := by omega
    have p1 : (p : Int) ≤ 64 := by omega
    have HBI := Lib.hid hbi
    obtain ⟨n, hn⟩ : ∃ n, r.length = n := ⟨_, rfl⟩
    rw [hn] at hrl hrc ⊢
    have HN := Lib.hid hn
    clear hm64 hfe hmlt hmM hh8 hp hst hkp hbl hwf hbi hn k0 k1 ek ek2 wk wk2 hwA hwB hMlt
    by_cases hfit : p + n < 64
    · have HFI := Lib.hid (by rw [HFE.out, fill r hh m x HML.out (by rw [HX.out]) (by rw [HP.out, HN.out]; exact hfit), HMM.out, HP.out, ← tl_pad hh M p x r HP.out (by rw [HN.out]; omega), show (⟨hh, M, x ++ pad (64 - p)⟩ : St) = st from by rw [← HST.out, HP.out]] : feed s l = tl st p r)
      by_cases h0 : n = 0
      · skip
        obtain ⟨CF, hCF⟩ : ∃ C, (stC st).toArray = C := ⟨_, rfl⟩
        have hsF : CF.size = 73 := by rw [← hCF, List.size_toArray, stC_len _ HWF.out]
        have hoF : CF.all (·.oneCell') = true := by rw [← hCF]; exact stC_one _
        have hzs := zst_size
        have HCF := Lib.hid hCF
        have HSF := Lib.hid hsF
        have HZS := Lib.hid hzs
        have HBF := HBL.out
        rw [hCF] at HBF
        have HBF2 := Lib.hid HBF
        unfold Blk at HBF
        clear hCF hsF hzs
        clear hfit
        subst h0
        have HR0 := Lib.hid (List.eq_nil_of_length_eq_zero HN.out)
        go_wp2_with (first
          | refine wpList_copy_nothing rfl (.tmp 23) (.tmp 24) 22 22 rfl 5 Tryd.underlying22 infoU8 _ _ (64 - p) (64 - p) 0 c' rfl rfl (by simp) ?_
          | refine wpList_load_row rfl 32 (.tmp 2) rfl w.heap.size rfl 32 CF (0, 0) _ HBF Tryd.underlying32 rfl (by rw [infoSt, HSF.out]) ?_
          | refine wpList_store_rowTo rfl 32 (.tmp 4) (.tmp 30) rfl rfl (w.heap.size + 1) CF rfl rfl 32 zst HB2r.out (by rw [infoSt, HSF.out]) (by rw [HZS.out, HSF.out]) hoF ?_)
        have HFI2 := Lib.hid (by rw [HFI.out, HR0.out, tl_nil] : feed s l = st)
        refine bodyPost_ret (results_cell_row rfl _ _ (w.heap.size + 1) 32 CF (0, 0) _ rfl (setRow_heap _ _ _ _ _ _ HB2r.out) Tryd.underlying32 rfl (by rw [infoSt, HSF.out])) rfl ?_
        unfold AggP
        rw [HFI2.out, HCF.out]
        exact ⟨rfl, HKP.out.to_ (kp_setRow _ _ _) (fun y hy => .inr (by rw [List.mem_singleton.1 hy]; omega))⟩
      · skip
        obtain ⟨b, o, rfl, hb, hc⟩ := HBI.out.resolve_left (fun e => h0 (by rw [← HN.out, e]; rfl))
        have HSrc := Lib.hid (byin_cell hc hb HKP.out (by simp) n)
        have HBb := Lib.hid hb
        have HCc := Lib.hid hc
        clear hb hc
        go_upto_region 5 with (refine wpList_copy_st rfl (.tmp 23) (.tmp 24) rfl w.heap.size p (64 - p) (64 - p) b o n c' rfl rfl st HWF.out HBL.out (r.take n) n (by rw [List.length_take, HN.out]; omega) (by omega) (by omega) HSrc.out ?_; intro wS HBS HKS)
        have HWS := Lib.hid (tl_wf st HWF.out p (r.take n) (by rw [List.length_take, HN.out]; omega))
        have HRS := Lib.hid (HB2r.out.kp HKS.out (by simp))
        have HKT := Lib.hid (HKP.out.to_ HKS.out (fun y hy => .inr (by rw [List.mem_singleton.1 hy]; exact Nat.le_refl _)))
        obtain ⟨CF, hCF⟩ : ∃ C, (stC (tl st p (r.take n))).toArray = C := ⟨_, rfl⟩
        have hsF : CF.size = 73 := by rw [← hCF, List.size_toArray, stC_len _ HWS.out]
        have hoF : CF.all (·.oneCell') = true := by rw [← hCF]; exact stC_one _
        have hzs := zst_size
        have HCF := Lib.hid hCF
        have HSF := Lib.hid hsF
        have HZS := Lib.hid hzs
        have HBF := HBS.out
        rw [hCF] at HBF
        have HBF2 := Lib.hid HBF
        unfold Blk at HBF
        clear hCF hsF hzs
        have HFI2 := Lib.hid (by rw [HFI.out, List.take_of_length_le (by rw [HN.out]; exact Nat.le_refl _)] : feed s l = tl st p (r.take n))
        have s0 : (p : Int) + (n : Int) < 64 := by omega
        have s1 : IntKind.i64.wrap ((p : Int) + (n : Int)) = (p : Int) + (n : Int) := IntWalk.i64_in _ (by omega)
        go_wp2_with (first
          | refine wpList_load_row rfl 32 (.tmp 2) rfl w.heap.size rfl 32 CF (0, 0) _ HBF Tryd.underlying32 rfl (by rw [infoSt, HSF.out]) ?_
          | refine wpList_store_rowTo rfl 32 (.tmp 4) (.tmp 30) rfl rfl (w.heap.size + 1) CF rfl rfl 32 zst HRS.out (by rw [infoSt, HSF.out]) (by rw [HZS.out, HSF.out]) hoF ?_)
        refine bodyPost_ret (results_cell_row rfl _ _ (w.heap.size + 1) 32 CF (0, 0) _ rfl (setRow_heap _ _ _ _ _ _ HRS.out) Tryd.underlying32 rfl (by rw [infoSt, HSF.out])) rfl ?_
        unfold AggP
        rw [HFI2.out, HCF.out]
        exact ⟨rfl, HKT.out.to_ (kp_setRow _ _ _) (fun y hy => .inr (by rw [List.mem_singleton.1 hy]; omega))⟩
    · obtain ⟨q, hq⟩ : ∃ q, 64 - p = q := ⟨_, rfl⟩
      have hqn : q ≤ n := by omega
      have h0 : n ≠ 0 := by omega
      have h0q : q ≠ 0 := by omega
      have hpq : p + q = 64 := by omega
      obtain ⟨b, o, rfl, hb, hc⟩ := HBI.out.resolve_left (fun e => h0 (by rw [← HN.out, e]; rfl))
      have HSrc := Lib.hid (byin_cell hc hb HKP.out (by simp) q)
      have HBb := Lib.hid hb
      have HCc := Lib.hid hc
      have HQ := Lib.hid hq
      have HQN := Lib.hid hqn
      have HPQ := Lib.hid hpq
      have HQ0 := Lib.hid h0q
      clear hb hc hq hqn h0 h0q hpq hfit
      go_upto_region 5 with (refine wpList_copy_st rfl (.tmp 23) (.tmp 24) rfl w.heap.size p (64 - p) (64 - p) b o n c' rfl rfl st HWF.out HBL.out (r.take q) q (by rw [List.length_take, HN.out]; have := HQN.out; omega) (by have := HQ.out; have := HQN.out; omega) (by have := HPQ.out; omega) HSrc.out ?_; intro wS HBS HKS)
      have HRS := Lib.hid (HB2r.out.kp HKS.out (by simp))
      have HKT := Lib.hid (HKP.out.to_ HKS.out (fun y hy => .inr (by rw [List.mem_singleton.1 hy]; exact Nat.le_refl _)))
      obtain ⟨z, hz⟩ : ∃ z, x ++ r.take q = z := ⟨_, rfl⟩
      have hyl : (r.take q).length = q := by rw [List.length_take, HN.out]; have := HQN.out; omega
      have hzl : z.length = 64 := by rw [← hz, List.length_append, hyl, HP.out]; exact HPQ.out
      have hZ : tl st p (r.take q) = ⟨hh, M, z⟩ := by
        rw [← HST.out, HP.out, tl_pad hh M p x _ HP.out (by rw [hyl]; have := HPQ.out; omega), hyl, hz, HPQ.out]
        unfold pad
        simp
      have hBZ := HBS.out
      rw [hZ] at hBZ
      have HBZ := Lib.hid hBZ
      have HZL := Lib.hid hzl
      have HYL := Lib.hid hyl
      have HZE := Lib.hid hz
      have HWZ := Lib.hid (show Wf ⟨hh, M, z⟩ from ⟨HH8.out, by have := HMM.out; show M < _; omega, hzl⟩)
      have HFS := Lib.hid (by
        have e : feed s l = (r.drop q).foldl f1 ⟨blk hh z, (m + q) % 18446744073709551616, pad 64⟩ := by
          rw [HFE.out]
          conv => lhs; rw [← List.take_append_drop q r]
          rw [List.foldl_append, fill_block (r.take q) hh m x HML.out HX.out.symm (by rw [hyl, HP.out]; exact HPQ.out) (fun e => HQ0.out (by rw [← hyl, e]; rfl)), hyl, hz]
        exact e : feed s l = (r.drop q).foldl f1 ⟨blk hh z, (m + q) % 18446744073709551616, pad 64⟩)
      have s0 : ¬ (p : Int) + (q : Int) < 64 := by have := HPQ.out; omega
      have s1 : IntKind.i64.wrap ((p : Int) + (q : Int)) = (p : Int) + (q : Int) := IntWalk.i64_in _ (by have := HPQ.out; omega)
      have rh := range_h HBZ.out HWZ.out
      have rt := range_t HBZ.out HWZ.out
      have HRH := Lib.hid rh
      have HRT := Lib.hid rt
      have HPR := Lib.hid (pproc_any hh HH8.out z hzl wS (HE.out.kp HKT.out (by simp)))
      clear hz hyl hzl hZ hBZ rh rt
      go_wp2_with (first
        | refine wpList_load_mid rfl 28 (.tmp 31) rfl w.heap.size 0 rfl (hh.map wv) _ HRH.out Tryd.underlying28 rfl (by rw [infoA8, List.length_map, HH8.out]) ?_
        | refine wpList_load_mid rfl 30 (.tmp 33) rfl w.heap.size 9 rfl (z.map bv) _ HRT.out Tryd.underlying30 rfl (by rw [infoB64, List.length_map, HZL.out]) ?_)
      obtain ⟨HB8, hHB8⟩ : ∃ x, blk hh z = x := ⟨_, rfl⟩
      have hB8 : HB8.length = 8 := by rw [← hHB8]; rfl
      rw [hHB8] at HPR HFS
      have HE8 := Lib.hid hB8
      clear hHB8 hB8 s0 s1
      refine HPR.out.mono ?_
      rintro e w5 ⟨rfl, hK5⟩
      have HB5 := Lib.hid (HBZ.out.kp hK5 (by simp))
      have HR5 := Lib.hid (HRS.out.kp hK5 (by simp))
      have HK5 := Lib.hid (HKS.out.nil_to hK5)
      obtain ⟨CB, hCB⟩ : ∃ C, (HB8.map wv).toArray = C := ⟨_, rfl⟩
      have hsB : CB.size = 8 := by rw [← hCB, List.size_toArray, List.length_map, HE8.out]
      have hoB : CB.all (·.oneCell') = true := by rw [← hCB]; exact wv_one _
      have HCB := Lib.hid hCB
      have HSB := Lib.hid hsB
      have HTH := Lib.hid (by rw [hsB]; exact there_st HB5.out HWZ.out 0 8 (by omega) : w5.there w.heap.size 0 CB.size)
      rw [hCB]
      clear hCB hsB hK5
      go_upto_region 8 with (refine wpList_store_mid rfl 28 (.tmp 36) (.tmp 35) rfl w.heap.size 0 CB rfl rfl HTH.out (by rw [infoA8, HSB.out]) hoB ?_)
      obtain ⟨w6, hw6⟩ : ∃ x, w5.setCells w.heap.size 0 CB.toList = x := ⟨_, rfl⟩
      have hB6 : Blk w6 w.heap.size 32 (stC ⟨HB8, M, z⟩).toArray := by
        have := blk_setCells (HB8.map wv) 0 w5 (stC ⟨hh, M, z⟩) HB5.out (by rw [stC_len _ HWZ.out, List.length_map, HE8.out]; omega)
        rw [stC_head _ HWZ.out HB8 HE8.out] at this
        rw [← hw6, ← HCB.out]
        exact this
      have hK6 : Kp [w.heap.size] w5 w6 := by rw [← hw6]; exact kp_setCells _ _ _ _
      rw [hw6]
      have HB6 := Lib.hid hB6
      have HK6 := Lib.hid (HK5.out.trans hK6)
      have HR6 := Lib.hid (HR5.out.kp hK6 (by simp))
      have HW6 := Lib.hid (show Wf ⟨HB8, M, z⟩ from ⟨HE8.out, HWZ.out.n, HWZ.out.t⟩)
      clear hw6 hB6 hK6 hoB
      obtain ⟨CZ, hCZ⟩ : ∃ C, ((pad 64).map bv).toArray = C := ⟨_, rfl⟩
      have hsZ : CZ.size = 64 := by rw [← hCZ]; rfl
      have hoZ : CZ.all (·.oneCell') = true := by rw [← hCZ]; exact bv_one _
      have HCZ := Lib.hid hCZ
      have HSZ := Lib.hid hsZ
      have HTZ := Lib.hid (by rw [hsZ]; exact there_st HB6.out HW6.out 9 64 (by omega) : w6.there w.heap.size 9 CZ.size)
      clear hCZ hsZ
      go_upto_region 9 with (refine wpList_store_mid rfl 30 (.tmp 38) (.tmp 37) rfl w.heap.size 9 CZ rfl (by show _ = Value.agg CZ; rw [← HCZ.out]; kernel_rfl) HTZ.out (by rw [infoB64, HSZ.out]) hoZ ?_)
      obtain ⟨w7, hw7⟩ : ∃ x, w6.setCells w.heap.size 9 CZ.toList = x := ⟨_, rfl⟩
      have hB7 : Blk w7 w.heap.size 32 (stC ⟨HB8, M, pad 64⟩).toArray := by
        have := blk_setCells ((pad 64).map bv) 9 w6 (stC ⟨HB8, M, z⟩) HB6.out (by rw [stC_len _ HW6.out, List.length_map]; unfold pad; rw [List.length_replicate]; omega)
        have e := stC_splice _ HW6.out 0 (pad 64)
        rw [Nat.add_zero] at e
        rw [e] at this
        unfold tl at this
        dsimp only at this
        rw [List.drop_eq_nil_of_le (by rw [HZL.out]; unfold pad; simp), List.append_nil, List.take_zero, List.nil_append] at this
        rw [← hw7, ← HCZ.out]
        exact this
      have hK7 : Kp [w.heap.size] w6 w7 := by rw [← hw7]; exact kp_setCells _ _ _ _
      rw [hw7]
      have HB7 := Lib.hid hB7
      have HK7 := Lib.hid (HK6.out.trans hK7)
      clear hw7 hB7 hK7 hoZ
      have q0 : (0 : Int) ≤ (q : Int) := by omega
      have q1 : (q : Int) ≤ (n : Int) := by have := HQN.out; omega
      have hrest : (r.drop q).length = n - q := by rw [List.length_drop, HN.out]
      have HRE := Lib.hid hrest
      have hmod : (m + q) % 18446744073709551616 % 64 = 0 := by
        have := HX.out
        have := HP.out
        have := HPQ.out
        omega
      have HMo := Lib.hid hmod
      clear hrest hmod
      by_cases hqc : q = c'
      · subst hqc
        obtain rfl : n = q := by omega
        go_quiet (fail)
        go_wp2_with fail
        go_roundw
        case rel => exact ⟨[], r.drop n, HB8, _, _, _, feR_next (by rw [HRE.out]; omega) HMo.out HMM.out (by rw [HN.out]; exact Nat.le_refl _) HE8.out (.inl (List.drop_eq_nil_of_le (by rw [HN.out]; exact Nat.le_refl _))) (by omega) (Nat.le_refl _) HFS.out (HB7.out.drewN nq) ((HKW.out.trans HK7.out).drewN nq)⟩
        case measure => have := HQ0.out; simp [slLen]; omega
      · have hcc : (n : Int) ≤ (c' : Int) := by omega
        have hqc2 : (q : Int) < (c' : Int) := by omega
        go_quiet (fail)
        go_wp2_with fail
        go_roundw
        case rel => exact ⟨[], r.drop q, HB8, _, _, _, feR_next HRE.out HMo.out HMM.out (by rw [HN.out]; exact HQN.out) HE8.out (.inr ⟨b, o + q, if_neg (fun e => hqc e.symm), HBb.out, fun i c hi => by rw [List.getElem?_drop] at hi; rw [show o + q + i = o + (q + i) by omega]; exact HCc.out (q + i) c hi⟩) (by omega) (by omega) HFS.out (HB7.out.drewN nq) ((HKW.out.trans HK7.out).drewN nq)⟩
        case measure => have := HQ0.out; have := HQN.out; simp [slLen]; omega
theorem pfeed_any (s : St) (h : Wf s) (l : List UInt8) (A : Option Addr) (c : Nat) (hc : l.length ≤ c) (w : World) (E : KE w) (hA : ByIn w A l) (hl : l.length ≤ 4611686018427387904) :
    Calls Tryd.prog 15 #[.agg (stC s).toArray, .slice A l.length c] w (AggP (stC (feed s l)).toArray w) := pfeed_c s h l A c hc _ rfl w E hA hl
end Hs
end Go.Proofs.YtakanjadcnmciaaDoor
