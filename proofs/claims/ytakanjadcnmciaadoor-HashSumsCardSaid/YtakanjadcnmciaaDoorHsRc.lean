/- Contract of the reference's Block (layer 6). A hash value of eight words, a block of 64 bytes. -/
import Derived.Test.YtakanjadcnmciaaDoorHsC
import Derived.Test.YtakanjadcnmciaaDoorHsQt
import Derived.Test.YtakanjadcnmciaaDoorHsPd
import Derived.Test.YtakanjadcnmciaaDoorHsLv
import Derived.Deep.Cut
namespace Go.Proofs.YtakanjadcnmciaaDoor
namespace Hs
open Go.RowKit Ad

def tR (r : Rg) (k w : UInt32) : UInt32 := r.h + lg1 r.e + ((r.e &&& r.f) ^^^ ((~~~ r.e) &&& r.g)) + k + w
theorem rt_is (a b c d e f g h x y : UInt32) : (((h.toNat : Int) + ((lg1 e).toNat : Int) + bits .xor .u32 (bits .and .u32 e.toNat f.toNat) (bits .and .u32 (bits .xor .u32 (if IntKind.u32.signed = true then -1 else IntKind.u32.max) e.toNat) g.toNat) + (x.toNat : Int)) % 4294967296 + (y.toNat : Int)) % 4294967296 = ((tR ⟨a, b, c, d, e, f, g, h⟩ x y).toNat : Int) := by
  rw [show (if IntKind.u32.signed = true then (-1 : Int) else IntKind.u32.max) = IntKind.u32.max from rfl, w_not, w_and, w_and, w_xor]
  unfold tR
  dsimp only
  rw [UInt32.toNat_add, UInt32.toNat_add, UInt32.toNat_add, UInt32.toNat_add]
  omega
set_option maxRecDepth 100000 in
set_option maxHeartbeats 1000000 in
theorem rblock_c (N : Nat) (hN : Hid (N = 64)) (h0 h1 h2 h3 h4 h5 h6 h7 : UInt32) (bl : List UInt8) (hl : bl.length = 64) (CR : Array Value) (hCR : Hid (((blkN [h0, h1, h2, h3, h4, h5, h6, h7] bl N).map wv).toArray = CR)) (w : World) :
    Calls Tryd.prog 29 #[.agg #[wv h0, wv h1, wv h2, wv h3, wv h4, wv h5, wv h6, wv h7], .agg (bl.map bv).toArray] w (AggP CR w) := by
  obtain ⟨i0, hi, hz0, hz1, hz2⟩ := info_parts' infoWd
  go_enter Tryd.func29, Tryd.ntmps29
  go_wp2_with fail
  obtain ⟨w0, hw0⟩ : ∃ x, (((w.alloc (.cells #[wv h0, wv h1, wv h2, wv h3, wv h4, wv h5, wv h6, wv h7] 28)).alloc (.cells (bl.map bv).toArray 30)).alloc (.cells #[.int .u32 0, .int .u32 0, .int .u32 0, .int .u32 0, .int .u32 0, .int .u32 0, .int .u32 0, .int .u32 0] 28)) = x := ⟨_, rfl⟩
  have hs0 : w0.heap.size = w.heap.size + 3 := by rw [← hw0, alloc_sz, alloc_sz, alloc_sz]
  have B0 : Blk w0 w.heap.size 28 #[wv h0, wv h1, wv h2, wv h3, wv h4, wv h5, wv h6, wv h7] := by rw [← hw0]; exact ((Blk.new w _ _).alloc _).alloc _
  have B1 : Blk w0 (w.heap.size + 1) 30 (bl.map bv).toArray := by
    rw [← hw0]
    have := Blk.new (w.alloc (.cells #[wv h0, wv h1, wv h2, wv h3, wv h4, wv h5, wv h6, wv h7] 28)) 30 (bl.map bv).toArray
    rw [alloc_sz] at this
    exact this.alloc _
  rw [hw0]
  go_loopw [5, 6] (fun v i wr => ∃ j : Nat, j ≤ 16 ∧ i = .int .i64 j ∧ wr.ownsRow w0.heap.size 27 1 v j ((wordsL bl j).map wv) ∧ Below w0.heap.size w0 wr) (fun _ i _ => 16 - (intOf i).toNat)
  case atStart => exact ⟨0, by omega, rfl, World.ownsRow_nil _ _ _ _, Below.refl _ _⟩
  case round =>
    obtain ⟨j, hj, rfl, hown, hB⟩ := hrel
    by_cases hlt : j < 16
    · have Ho := Lib.hid hown
      have hsz := hB.size
      obtain ⟨a, ha⟩ : ∃ a, bl.getD (4 * j) 0 = a := ⟨_, rfl⟩
      obtain ⟨b, hb⟩ : ∃ a, bl.getD (4 * j + 1) 0 = a := ⟨_, rfl⟩
      obtain ⟨c, hc⟩ : ∃ a, bl.getD (4 * j + 2) 0 = a := ⟨_, rfl⟩
      obtain ⟨d, hd⟩ : ∃ a, bl.getD (4 * j + 3) 0 = a := ⟨_, rfl⟩
      have HCs := Lib.hid (fun (wz : World) (hz : Below w0.heap.size w0 wz) => And.intro (bl_cell (B1.below hz (by omega)) (4 * j) a (by omega) ha) (And.intro (bl_cell (B1.below hz (by omega)) (4 * j + 1) b (by omega) hb) (And.intro (bl_cell (B1.below hz (by omega)) (4 * j + 2) c (by omega) hc) (bl_cell (B1.below hz (by omega)) (4 * j + 3) d (by omega) hd))))
      have HWj := Lib.hid (show wd bl j = a.toUInt32 <<< 24 + b.toUInt32 <<< 16 + c.toUInt32 <<< 8 + d.toUInt32 from by rw [← ha, ← hb, ← hc, ← hd]; rfl)
      clear hown ha hb hc hd
      have HW := Lib.hid (wd_isW a b c d)
      obtain ⟨p0, hp0⟩ : ∃ p, 4 * j = p := ⟨_, rfl⟩
      obtain ⟨p1, hp1⟩ : ∃ p, 4 * j + 1 = p := ⟨_, rfl⟩
      obtain ⟨p2, hp2⟩ : ∃ p, 4 * j + 2 = p := ⟨_, rfl⟩
      obtain ⟨p3, hp3⟩ : ∃ p, 4 * j + 3 = p := ⟨_, rfl⟩
      rw [hp3, hp2, hp1, hp0] at HCs
      have e0 : 4 * (j : Int) = (p0 : Int) := by omega
      have e1 : (p0 : Int) + 1 = (p1 : Int) := by omega
      have e2 : (p0 : Int) + 2 = (p2 : Int) := by omega
      have e3 : (p0 : Int) + 3 = (p3 : Int) := by omega
      have y0 : IntKind.i64.wrap (p0 : Int) = (p0 : Int) := IntWalk.i64_in _ (by omega)
      have y1 : IntKind.i64.wrap (p1 : Int) = (p1 : Int) := IntWalk.i64_in _ (by omega)
      have y2 : IntKind.i64.wrap (p2 : Int) = (p2 : Int) := IntWalk.i64_in _ (by omega)
      have y3 : IntKind.i64.wrap (p3 : Int) = (p3 : Int) := IntWalk.i64_in _ (by omega)
      have z0 : (0 : Int) ≤ (p0 : Int) := by omega
      have z1 : (0 : Int) ≤ (p1 : Int) := by omega
      have z2 : (0 : Int) ≤ (p2 : Int) := by omega
      have z3 : (0 : Int) ≤ (p3 : Int) := by omega
      have l0 : (p0 : Int) < 64 := by omega
      have l1 : (p1 : Int) < 64 := by omega
      have l2 : (p2 : Int) < 64 := by omega
      have l3 : (p3 : Int) < 64 := by omega
      clear hp0 hp1 hp2 hp3
      have va : IntKind.u32.wrap (a.toNat : Int) = (a.toNat : Int) := w_wrap _ (by have := a.toNat_lt; omega)
      have vb : IntKind.u32.wrap (b.toNat : Int) = (b.toNat : Int) := w_wrap _ (by have := b.toNat_lt; omega)
      have vc : IntKind.u32.wrap (c.toNat : Int) = (c.toNat : Int) := w_wrap _ (by have := c.toNat_lt; omega)
      have vd : IntKind.u32.wrap (d.toNat : Int) = (d.toNat : Int) := w_wrap _ (by have := d.toNat_lt; omega)
      have HB := Lib.hid hB
      go_wp2_with fail
      have Hod := Lib.hid (show World.ownsRow (World.drew wr) w0.heap.size 27 1 _ _ _ from Ho.out)
      have hzz : (World.drew wr).heap.size = wr.heap.size := rfl
      go_region_held_law (fun w' => w'.cell? ⟨w.heap.size + 1, p0, none⟩ = some (.int .u8 a.toNat) ∧ w'.cell? ⟨w.heap.size + 1, p1, none⟩ = some (.int .u8 b.toNat) ∧ w'.cell? ⟨w.heap.size + 1, p2, none⟩ = some (.int .u8 c.toNat) ∧ w'.cell? ⟨w.heap.size + 1, p3, none⟩ = some (.int .u8 d.toNat)) (first | exact HCs.out _ HB.out | exact HCs.out _ HB.out.drew | exact HCs.out _ (HB.out.alloc (by omega) _) | exact HCs.out _ (HB.out.drew.alloc (by show _ ≤ wr.heap.size; omega) _) | exact HCs.out _ ((HB.out.alloc (by omega) _).grown hgrow (by simp; omega) (fun k' hk' => (Hod.out.lt k' hk').1)) | exact HCs.out _ ((HB.out.drew.alloc (by show _ ≤ wr.heap.size; omega) _).grown hgrow (by simp; omega) (fun k' hk' => (Hod.out.lt k' hk').1)))
        ((refine step_append_lies _ (by rfl) _ _ 55 (by rfl) w0.heap.size 27 i0 (.int .u32 0) 1 4 Tryd.underlying55 hi hz0 hz1 hz2 (by rfl) (by decide) _ _ _ (by rfl) (Hod.out.alloc _) ⟨wr.heap.size, 0, none⟩ 1 1 _ (by rfl) (by rfl) (World.news_of_block (heap_alloc_new _ _)) (by simp [Value.oneCell']) (by decide) (by unfold maxLen; omega) (by omega) (by simp; omega) _ rfl ?_; intro g cap w4 hown' hgrow hat hlt2))
      have HO4 := Lib.hid (hown' : w4.ownsRow w0.heap.size 27 1 (.slice (some ⟨g, 0, none⟩) (j + 1) cap) (j + 1) _)
      have hB4 := Lib.hid ((HB.out.drew.alloc (by show _ ≤ wr.heap.size; omega) _).grown hgrow (by simp; omega) (fun k' hk' => (Hod.out.lt k' hk').1))
      clear hown' hgrow hat hlt2
      go_wp2_with fail
      go_roundw
      case rel => exact ⟨j + 1, by omega, by go_num, by rw [words_lo bl j hlt, HWj.out, List.map_append]; unfold wv; rw [List.map_singleton, ← HW.out]; exact HO4.out, hB4.out⟩
      case measure => simp [intOf]; omega
    · obtain rfl : j = 16 := by omega
      rw [show (((16 : Nat) : Int)) = 16 from rfl]
      go_wp2_with fail
      go_loopw [5, 7] (fun v i wr => ∃ j : Nat, 16 ≤ j ∧ j ≤ 64 ∧ i = .int .i64 j ∧ wr.ownsRow w0.heap.size 27 1 v j ((wordsL bl j).map wv) ∧ Below w0.heap.size w0 wr) (fun _ i _ => 64 - (intOf i).toNat)
      case atStart => exact ⟨16, by omega, by omega, rfl, hown, hB⟩
      case round =>
        obtain ⟨j, hj0, hj, rfl, hown, hB⟩ := hrel
        by_cases hlt : j < 64
        · obtain ⟨g1, cap1, rfl, hg1, hg2⟩ := hown.form (by omega)
          have Ho := Lib.hid hown
          have hsz := hB.size
          have HB := Lib.hid hB
          obtain ⟨k2, hk2⟩ : ∃ k, j - 2 = k := ⟨_, rfl⟩
          obtain ⟨k7, hk7⟩ : ∃ k, j - 7 = k := ⟨_, rfl⟩
          obtain ⟨k15, hk15⟩ : ∃ k, j - 15 = k := ⟨_, rfl⟩
          obtain ⟨k16, hk16⟩ : ∃ k, j - 16 = k := ⟨_, rfl⟩
          obtain ⟨a, ha⟩ : ∃ x, (wordsL bl j).getD k2 0 = x := ⟨_, rfl⟩
          obtain ⟨b, hb⟩ : ∃ x, (wordsL bl j).getD k7 0 = x := ⟨_, rfl⟩
          obtain ⟨c, hc⟩ : ∃ x, (wordsL bl j).getD k15 0 = x := ⟨_, rfl⟩
          obtain ⟨d, hd⟩ : ∃ x, (wordsL bl j).getD k16 0 = x := ⟨_, rfl⟩
          have HCs := Lib.hid (fun (wz : World) (hz : wz.ownsRow w0.heap.size 27 1 (.slice (some ⟨g1, 0, none⟩) j cap1) j ((wordsL bl j).map wv)) => And.intro (own_wd hz (words_len bl j) k2 (by omega) a ha) (And.intro (own_wd hz (words_len bl j) k7 (by omega) b hb) (And.intro (own_wd hz (words_len bl j) k15 (by omega) c hc) (own_wd hz (words_len bl j) k16 (by omega) d hd))))
          have HWj := Lib.hid (show wordsL bl (j + 1) = wordsL bl j ++ [sm1 a + b + sm0 c + d] from by rw [words_hi bl j (by omega), hk2, hk7, hk15, hk16, ha, hb, hc, hd])
          have HW := Lib.hid (hi_is2 (sm1 a) b (sm0 c) d)
          have H1 := Lib.hid (fun (n : Gw wr) => Calls.grew_of (v := .int .u32 ((sm1 a).toNat : Int)) (rsm1_any a (grew wr n)) (fun _ _ h => ⟨h.1, by obtain ⟨m, hm⟩ := h.2; rw [hm]; exact (Kp.refl [] _).drewN m⟩))
          have H2 := Lib.hid (fun (n : Gw wr) => Calls.grew_of (v := .int .u32 ((sm0 c).toNat : Int)) (rsm0_any c (grew wr n)) (fun _ _ h => ⟨h.1, by obtain ⟨m, hm⟩ := h.2; rw [hm]; exact (Kp.refl [] _).drewN m⟩))
          have e2 : (j : Int) - 2 = (k2 : Int) := by omega
          have e7 : (j : Int) - 7 = (k7 : Int) := by omega
          have e15 : (j : Int) - 15 = (k15 : Int) := by omega
          have e16 : (j : Int) - 16 = (k16 : Int) := by omega
          have y2 : IntKind.i64.wrap (k2 : Int) = (k2 : Int) := IntWalk.i64_in _ (by omega)
          have y7 : IntKind.i64.wrap (k7 : Int) = (k7 : Int) := IntWalk.i64_in _ (by omega)
          have y15 : IntKind.i64.wrap (k15 : Int) = (k15 : Int) := IntWalk.i64_in _ (by omega)
          have y16 : IntKind.i64.wrap (k16 : Int) = (k16 : Int) := IntWalk.i64_in _ (by omega)
          have z2 : (0 : Int) ≤ (k2 : Int) := by omega
          have z7 : (0 : Int) ≤ (k7 : Int) := by omega
          have z15 : (0 : Int) ≤ (k15 : Int) := by omega
          have z16 : (0 : Int) ≤ (k16 : Int) := by omega
          have l2 : (k2 : Int) < (j : Int) := by omega
          have l7 : (k7 : Int) < (j : Int) := by omega
          have l15 : (k15 : Int) < (j : Int) := by omega
          have l16 : (k16 : Int) < (j : Int) := by omega
          clear hown hB ha hb hc hd hk2 hk7 hk15 hk16
          go_wp2_with fail
          obtain ⟨q2, q7, q15, q16⟩ := HCs.out _ Ho.out
          have c2 := grew_cell q2
          have c7 := grew_cell q7
          have c15 := grew_cell q15
          have c16 := grew_cell q16
          clear q2 q7 q15 q16
          refine wp_region_free_tail 26 (by kernel_rfl) (by kernel_rfl) (fun _ _ d _ _ h => by cases d <;> exact h) (.slice (some ⟨g1, 0, none⟩) j cap1) rfl (fun _ => rfl) ?_
          simp only [Act.put, List.setIfInBounds_toArray, List.set_cons_succ, List.set_cons_zero, List.take_succ_cons, List.take_zero, List.drop_succ_cons, List.drop_zero]
          repeat (go_big_quiet_step ((first
            | (go_at_call 34; with_reducible exact H1.out _)
            | (go_at_call 35; with_reducible exact H2.out _))))
          refine wpQuiet_nil ?_
          intro _ hw'
          obtain ⟨nq, hw''⟩ := hw'
          subst hw''
          clear c2 c7 c15 c16
          have hO2 := own_kpn Ho.out (grew_kp wr nq)
          have hB2 : Below w0.heap.size w0 (grew wr nq) := HB.out.trans ((grew_kp wr nq).toBelow hsz (fun _ hx => by cases hx))
          have hzw : w0.heap.size ≤ (grew wr nq).heap.size := Nat.le_trans hsz (grew_kp wr nq).size
          obtain ⟨w2, hw2⟩ : ∃ x, grew wr nq = x := ⟨_, rfl⟩
          rw [hw2] at hO2 hB2 hzw ⊢
          have HO2 := Lib.hid hO2
          have HB2 := Lib.hid hB2
          clear hw2 hO2 hB2
          go_wp2_with (at_builtin; refine wpList_append_own _ rfl _ _ 55 rfl w0.heap.size 27 i0 (.int .u32 0) 1 4 Tryd.underlying55 hi hz0 hz1 hz2 rfl (by decide) _ _ _ rfl (HO2.out.alloc _) ⟨w2.heap.size, 0, none⟩ 1 1 [.int .u32 ((((sm1 a).toNat : Int) + (b.toNat : Int) + ((sm0 c).toNat : Int) + (d.toNat : Int)) % 4294967296)] rfl rfl (World.news_of_block (heap_alloc_new _ _)) (by simp [Value.oneCell']) ?c3 ?c4 ?c5 ?_)
          case c3 => unfold maxLen; omega
          case c4 => omega
          case c5 => first | omega | (simp; omega)
          intro v' w4 hown' hgrow _
          have HO4 := Lib.hid (show w4.ownsRow w0.heap.size 27 1 v' (j + 1) ((wordsL bl (j + 1)).map wv) from by rw [HWj.out, List.map_append, List.map_singleton, hs0, show wv (sm1 a + b + sm0 c + d) = .int .u32 _ from congrArg (Value.int .u32) HW.out.symm]; exact hown')
          have hB4 := Lib.hid ((HB2.out.alloc hzw _).grown hgrow (by rw [alloc_sz]; omega) (fun k' hk' => (HO2.out.lt k' hk').1))
          clear hown' hgrow
          go_wp2_with fail
          go_roundw
          case rel => exact ⟨j + 1, by omega, by omega, by go_num, HO4.out, hB4.out⟩
          case measure => simp [intOf]; omega
        · obtain rfl : N = j := by have := hN.out; omega
          obtain ⟨g1, cap1, rfl, hg1, hg2⟩ := hown.form (by omega)
          have Ho := Lib.hid hown
          have HB := Lib.hid hB
          have hsz := hB.size
          have hnl : ¬ (N : Int) < 64 := by have := hN.out; omega
          clear hown hB hj hj0 hlt
          go_wp2_with fail
          refine (rkeys_any wr).mono ?_
          rintro e w2 ⟨gk, tk, rfl, hgk, hKB, hK2⟩
          have hB2 : Below w0.heap.size w0 w2 := HB.out.trans (hK2.toBelow hsz (fun _ hx => by cases hx))
          have HO2 := Lib.hid (own_kpn Ho.out hK2)
          have HKB := Lib.hid hKB
          have b0 := B0.below hB2 (by omega)
          have HB0 := Lib.hid b0
          have HB2 := Lib.hid hB2
          have c0 := b0.cell 0
          have c1 := b0.cell 1
          have c2 := b0.cell 2
          have c3 := b0.cell 3
          have c4 := b0.cell 4
          have c5 := b0.cell 5
          have c6 := b0.cell 6
          have c7 := b0.cell 7
          simp only [wv, List.getElem?_toArray, List.getElem?_cons_zero, List.getElem?_cons_succ] at c0 c1 c2 c3 c4 c5 c6 c7
          clear hB2 hK2 hKB b0 hgk
          go_wp2_with fail
          go_quiet (fail)
          have HO3 := Lib.hid (own_kpn HO2.out ((Kp.refl [] w2).drewN nq))
          have HKB3 := Lib.hid (HKB.out.kp ((Kp.refl [] w2).drewN nq) (by simp))
          have HB3 := Lib.hid (HB2.out.trans (((Kp.refl [] w2).drewN nq).toBelow (B := w0.heap.size) HB2.out.size (fun _ hx => by cases hx)))
          obtain ⟨w3, hw3⟩ : ∃ x, w2.drewN nq = x := ⟨_, rfl⟩
          rw [hw3] at HO3 HKB3 HB3 ⊢
          clear hw3 c0 c1 c2 c3 c4 c5 c6 c7
          go_wp2_with fail
          go_loopw [9, 10, 11, 12, 13, 14, 15, 16, 17] (fun ra rb rc rd re rf rg rh i wr' => ∃ (j : Nat) (r : Rg), j ≤ 64 ∧ i = .int .i64 j ∧ rounds (wordsL bl N) (regs [h0, h1, h2, h3, h4, h5, h6, h7]) j = r ∧ ra = .int .u32 r.a.toNat ∧ rb = .int .u32 r.b.toNat ∧ rc = .int .u32 r.c.toNat ∧ rd = .int .u32 r.d.toNat ∧ re = .int .u32 r.e.toNat ∧ rf = .int .u32 r.f.toNat ∧ rg = .int .u32 r.g.toNat ∧ rh = .int .u32 r.h.toNat ∧ Kp [] w3 wr') (fun _ _ _ _ _ _ _ _ i _ => 64 - (intOf i).toNat)
          case atStart => exact ⟨0, regs [h0, h1, h2, h3, h4, h5, h6, h7], by omega, rfl, rfl, rfl, rfl, rfl, rfl, rfl, rfl, rfl, rfl, Kp.refl _ _⟩
          case round =>
            obtain ⟨j, r, hj, rfl, hr, rfl, rfl, rfl, rfl, rfl, rfl, rfl, rfl, hK⟩ := hrel
            by_cases hlt : j < 64
            · obtain ⟨x, hx⟩ : ∃ x, keyL.getD j 0 = x := ⟨_, rfl⟩
              obtain ⟨y, hy⟩ : ∃ y, (wordsL bl N).getD j 0 = y := ⟨_, rfl⟩
              have HR := Lib.hid (by show rnd (rounds (wordsL bl N) (regs [h0, h1, h2, h3, h4, h5, h6, h7]) j) (keyL.getD j 0) ((wordsL bl N).getD j 0) = _; rw [hr, hx, hy] : rounds (wordsL bl N) (regs [h0, h1, h2, h3, h4, h5, h6, h7]) (j + 1) = rnd r x y)
              have ck := grew_cell (wv_cell (HKB3.out.kp hK (by simp)) j (by rw [show keyL.length = 64 from rfl]; exact hlt) x hx)
              have cw := grew_cell (own_wd (own_kpn HO3.out hK) (words_len bl N) j (by have := hN.out; omega) y hy)
              obtain ⟨a, b, c, d, e, f, g, z⟩ := r
              dsimp only
              have H1 := Lib.hid (fun (n : Gw wr) => Calls.grew_of (v := .int .u32 ((lg1 e).toNat : Int)) (rlg1_any e (grew wr n)) (fun _ _ h => ⟨h.1, by obtain ⟨m, hm⟩ := h.2; rw [hm]; exact (Kp.refl [] _).drewN m⟩))
              have H2 := Lib.hid (fun wz => rlg0_any a wz)
              have j0 : (0 : Int) ≤ (j : Int) := by omega
              have j1 : (j : Int) < 64 := by omega
              have j2 : (j : Int) < (N : Int) := by have := hN.out; omega
              have HK := Lib.hid hK
              clear hr hx hy hK hnl
              go_wp2_with fail
              refine wp_region_grew (by kernel_rfl) (by kernel_rfl) ?_
              repeat (go_big_quiet_step ((go_at_call 37; with_reducible exact H1.out _)))
              refine wpQuiet_nil ?_
              intro _ hw'
              obtain ⟨nq, hw''⟩ := hw'
              subst hw''
              rw [rt_is a b c d e f g z x y]
              obtain ⟨t, ht⟩ : ∃ t, tR ⟨a, b, c, d, e, f, g, z⟩ x y = t := ⟨_, rfl⟩
              rw [ht]
              have HR2 := Lib.hid (show rounds (wordsL bl N) (regs [h0, h1, h2, h3, h4, h5, h6, h7]) (j + 1) = ⟨t + uW ⟨a, b, c, d, e, f, g, z⟩, a, b, c, d + t, e, f, g⟩ from by rw [HR.out, ← ht]; rfl)
              have HK4 := Lib.hid (HK.out.trans (grew_kp wr nq))
              obtain ⟨w4, hw4⟩ : ∃ x, grew wr nq = x := ⟨_, rfl⟩
              rw [hw4] at HK4 ⊢
              clear hw4 ck cw ht
              go_wp2_with fail
              refine (H2.out _).mono ?_
              rintro e5 w5 ⟨rfl, n5, rfl⟩
              go_wp2_with fail
              rw [u_is a b c d e f g z]
              obtain ⟨u, hu⟩ : ∃ u, uW ⟨a, b, c, d, e, f, g, z⟩ = u := ⟨_, rfl⟩
              rw [hu] at HR2 ⊢
              clear hu
              go_wp2_with fail
              go_roundw
              case rel => exact ⟨j + 1, ⟨t + u, a, b, c, d + t, e, f, g⟩, by omega, by go_num, HR2.out, by dsimp only; rw [← add_is], rfl, rfl, rfl, by dsimp only; rw [← add_is], rfl, rfl, rfl, HK4.out.drewN n5⟩
              case measure => simp [intOf]; omega
            · obtain rfl : j = 64 := by omega
              rw [show (((64 : Nat) : Int)) = 64 from rfl]
              rw [show rounds (wordsL bl N) (regs [h0, h1, h2, h3, h4, h5, h6, h7]) 64 = rounds (wordsL bl N) (regs [h0, h1, h2, h3, h4, h5, h6, h7]) N by rw [hN.out]] at hr
              obtain ⟨a, b, c, d, e, f, g, z⟩ := r
              have HCR := Lib.hid (show CR = #[wv (h0 + a), wv (h1 + b), wv (h2 + c), wv (h3 + d), wv (h4 + e), wv (h5 + f), wv (h6 + g), wv (h7 + z)] from by rw [← hCR.out]; unfold blkN; rw [hr]; rfl)
              dsimp only
              have hBw : Below w0.heap.size w0 wr := HB3.out.trans (hK.toBelow HB3.out.size (fun _ hx => by cases hx))
              have b0 := B0.below hBw (by omega)
              have b2 : Blk w0 (w.heap.size + 1 + 1) 28 zA := by
                rw [← hw0, zero8]
                have := Blk.new ((w.alloc (.cells #[wv h0, wv h1, wv h2, wv h3, wv h4, wv h5, wv h6, wv h7] 28)).alloc (.cells (bl.map bv).toArray 30)) 28 zA
                rw [alloc_sz, alloc_sz] at this
                exact this
              have HZ := Lib.hid (b2.below hBw (by omega))
              have K0 : Kp [] w w0 := by rw [← hw0]; exact (((Kp.refl _ _).alloc _).alloc _).alloc _
              have HKW := Lib.hid (K0.belowB hBw (by omega))
              have c0 := b0.cell 0
              have c1 := b0.cell 1
              have c2 := b0.cell 2
              have c3 := b0.cell 3
              have c4 := b0.cell 4
              have c5 := b0.cell 5
              have c6 := b0.cell 6
              have c7 := b0.cell 7
              simp only [wv, List.getElem?_toArray, List.getElem?_cons_zero, List.getElem?_cons_succ] at c0 c1 c2 c3 c4 c5 c6 c7
              obtain ⟨CN, hCN⟩ : ∃ C : Array Value, #[.int .u32 (((h0.toNat : Int) + (a.toNat : Int)) % 4294967296), .int .u32 (((h1.toNat : Int) + (b.toNat : Int)) % 4294967296), .int .u32 (((h2.toNat : Int) + (c.toNat : Int)) % 4294967296), .int .u32 (((h3.toNat : Int) + (d.toNat : Int)) % 4294967296), .int .u32 (((h4.toNat : Int) + (e.toNat : Int)) % 4294967296), .int .u32 (((h5.toNat : Int) + (f.toNat : Int)) % 4294967296), .int .u32 (((h6.toNat : Int) + (g.toNat : Int)) % 4294967296), .int .u32 (((h7.toNat : Int) + (z.toNat : Int)) % 4294967296)] = C := ⟨_, rfl⟩
              have hce : CN = CR := by rw [← hCN, HCR.out]; unfold wv; rw [add_is, add_is, add_is, add_is, add_is, add_is, add_is, add_is]
              have hsz : CN.size = 8 := by rw [← hCN]; rfl
              have hone : CN.all (·.oneCell') = true := by rw [hce, HCR.out]; exact wv_one [h0 + a, h1 + b, h2 + c, h3 + d, h4 + e, h5 + f, h6 + g, h7 + z]
              have HSZ := Lib.hid hsz
              clear b0 b2 K0 hBw hK hr hnl hj hlt hw0
              have HCE := Lib.hid hce
              clear hce
              go_wp2_with (refine wpList_store_rowTo rfl 28 (.tmp 4) (.tmp 190) rfl rfl (w.heap.size + 1 + 1) CN rfl (by show Value.agg _ = Value.agg CN; rw [← hCN]) 28 zA HZ.out (by rw [infoA8, HSZ.out]) (by rw [HSZ.out]; kernel_rfl) hone ?_)
              refine bodyPost_ret (results_cell_row rfl _ _ (w.heap.size + 1 + 1) 28 CN (0, 0) _ rfl (setRow_heap _ _ _ _ _ _ HZ.out) Tryd.underlying28 rfl (by rw [infoA8, HSZ.out])) rfl ?_
              refine ⟨by rw [HCE.out], HKW.out.to_ (kp_setRow _ _ _) (fun y hy => .inr (by rw [List.mem_singleton.1 hy]; omega))⟩
theorem rblock_any (hL : List UInt32) (hh : hL.length = 8) (bl : List UInt8) (hl : bl.length = 64) (w : World) :
    Calls Tryd.prog 29 #[.agg (hL.map wv).toArray, .agg (bl.map bv).toArray] w (AggP ((blk hL bl).map wv).toArray w) := by
  match hL, hh with
  | [a0, a1, a2, a3, a4, a5, a6, a7], _ => exact rblock_c 64 rfl a0 a1 a2 a3 a4 a5 a6 a7 bl hl _ rfl w
end Hs
end Go.Proofs.YtakanjadcnmciaaDoor
