/- The contract of Split of package dialtoneref01. Condition: a text has at most 2^21 bytes. -/
import Derived.Test.YtmmjfofdnpafkaaGreatDoorM10
import Derived.Test.YtmmjfofdnpafkaaGreatDoorM2
namespace Go.Proofs.YtmmjfofdnpafkaaGreatDoor
namespace Lx
open Go.RowKit

set_option maxRecDepth 100000 in
set_option maxHeartbeats 4000000 in
theorem rsplit_any (s : ByteArray) (sep : Int) (w : World) (hs : s.size ≤ 2097152) :
    Calls Tryz.prog 98 #[.string s, .int .u8 sep] w (SplPost (spF s.data.toList sep) w) := by
  obtain ⟨R, hR⟩ : ∃ R, spF s.data.toList sep = R := ⟨_, rfl⟩
  rw [hR]
  cases hb : blankI sep
  · have Hb := Lib.hid hb
    by_cases hq : sep = 34 ∨ sep = 60 ∨ sep = 62
    · have HR := Lib.hid (by rw [← hR]; unfold spF sepBad; rw [hb]; rcases hq with rfl | rfl | rfl <;> rfl : R = ([], 0, 2))
      clear hR hb
      rcases hq with rfl | rfl | rfl
      all_goals
        go_enter Tryz.func98, Tryz.ntmps98
        go_wp2_with fail
        refine (rblank_any _ _).mono ?_
        rintro e w' ⟨rfl, rfl⟩
        rw [Hb.out]
        go_wp2_with fail
        go_ret3
        refine ⟨_, by rw [HR.out]; rfl, ?_, Below.refl _ _⟩
        rw [HR.out]; exact World.ownsRow_nil _ _ _ _
    · have b1 : (sep == 34) = false := by rw [beq_eq_false_iff_ne]; omega
      have b2 : (sep == 60) = false := by rw [beq_eq_false_iff_ne]; omega
      have b3 : (sep == 62) = false := by rw [beq_eq_false_iff_ne]; omega
      have HR := Lib.hid (by rw [← hR]; unfold spF sepBad; rw [hb, b1, b2, b3]; simp : R = spR s.data.toList sep s.size 0 0 [])
      clear hR hb hq
      obtain ⟨i0, hi, hz0, hz1, hz2⟩ := info_parts infoPiece
      go_enter Tryz.func98, Tryz.ntmps98
      go_wp2_with fail
      refine (rblank_any _ _).mono ?_
      rintro e w' ⟨rfl, rfl⟩
      rw [Hb.out]
      go_wp2_with fail
      go_loopw [7, 8, 9, 10, 11, 12] (fun v f i _ _ _ wr => ∃ (a k n : Nat) (acc : List (Nat × List UInt8)), a ≤ k ∧ k ≤ s.size ∧ s.size - k ≤ n ∧ acc.length ≤ k ∧ f = .int .i64 a ∧ i = .int .i64 k ∧ spR s.data.toList sep n a k acc = R ∧ wr.ownsRow w.heap.size 110 2 v acc.length (pcells acc) ∧ Below w.heap.size w wr) (fun _ _ i _ _ _ _ => s.size - (intOf i).toNat)
      case atStart => exact ⟨0, 0, s.size, [], by omega, by omega, by omega, by simp, rfl, rfl, HR.out.symm, World.ownsRow_nil _ _ _ _, Below.refl _ _⟩
      case round =>
        obtain ⟨a, k, n, acc, hak, hk, hn, hal, rfl, rfl, hr, hown, hB⟩ := hrel
        have Hr := Lib.hid hr
        have Ho := Lib.hid hown
        have hsz := hB.size
        clear hr hown
        by_cases hlt : k < s.size
        · obtain ⟨n, rfl⟩ : ∃ m, n = m + 1 := ⟨n - 1, by omega⟩
          by_cases hse : (s[k].toNat : Int) = sep
          · have hX := spR_sep s sep n a k acc hlt hse
            have HX := Lib.hid (hX.symm.trans Hr.out)
            have bs : ((s[k].toNat : Int) == sep) = true := by rw [beq_iff_eq]; exact hse
            clear hX hse
            obtain ⟨px, hpx⟩ : ∃ x, (pcOf s.data.toList a k).1 = x := ⟨_, rfl⟩
            obtain ⟨pt, hpt⟩ : ∃ x, (pcOf s.data.toList a k).2 = x := ⟨_, rfl⟩
            have Hpx := Lib.hid hpx
            have Hpt := Lib.hid hpt
            have Hpc := Lib.hid (by rw [← hpx, ← hpt] : pcOf s.data.toList a k = (px, pt))
            clear hpx hpt
            go_wp2_with fail
            refine (rpiece_any s a k _ hs (by omega) (by omega)).mono ?_
            rintro e w2 ⟨rfl, hB2⟩
            rw [Hpx.out, Hpt.out]
            have hs2 := hB2.size
            have Hr2 := Lib.hid ((keep_of_below hB2 []).owns Ho.out (by simp))
            go_wp2_with (at_builtin; refine wpList_append_own _ rfl _ _ 106 rfl w.heap.size 110 i0 (.agg #[.int .i64 0, .string .empty]) 2 24 Tryz.underlying106 hi hz0 hz1 hz2 rfl (by decide) _ _ _ rfl (Hr2.out.alloc _) ⟨w2.heap.size, 0, none⟩ 1 1 [.int .i64 px, .string ⟨pt.toArray⟩] rfl rfl (cell_two_new _ _ _ _) (by simp [Value.oneCell']) ?c3 ?c4 ?c5 ?_)
            case c3 => unfold maxLen; omega
            case c4 => omega
            case c5 => simp; omega
            intro v' w3 hown' hgrow _
            have hB3 := ((hB.trans (hB2.mono (by omega))).alloc (by omega) (.cells #[.int .i64 px, .string ⟨pt.toArray⟩] 110)).grown hgrow (by simp; omega) (fun k' hk' => (Hr2.out.lt k' hk').1)
            have HO3 := Lib.hid (by rw [Hpc.out, pcells_append]; simpa [pcells] using hown' : w3.ownsRow w.heap.size 110 2 v' (acc ++ [pcOf s.data.toList a k]).length (pcells (acc ++ [pcOf s.data.toList a k])))
            clear hown' hgrow
            go_wp2_with fail
            go_roundw
            case rel => exact ⟨k + 1, k + 1, n, _, by omega, by omega, by omega, by simp; omega, by go_num, by go_num, HX.out, HO3.out, hB3⟩
            case measure => simp [intOf]; omega
          · have bs : ((s[k].toNat : Int) == sep) = false := by rw [beq_eq_false_iff_ne]; exact hse
            have Hs := Lib.hid (skR_at s k hlt)
            have hok := skR_ok s k hlt
            have HX0 := Lib.hid (spR_skip s sep n a k acc hlt hse)
            have HXE := Lib.hid (spR_err s sep n a k acc hlt hse)
            have Hok := Lib.hid hok
            clear hok hse
            by_cases h34 : s[k].toNat = 34
            · have b34 : ((s[k].toNat : Int) == 34) = true := by simp; omega
              have Hq := Lib.hid (by rw [Hs.out, if_pos h34] : skR s.data.toList k = qEnd (s.data.toList.drop (k + 1)) (k + 1))
              have Hu := Lib.hid (uq_at s k hlt h34)
              clear h34
              by_cases h0 : (skR s.data.toList k).2 = 0
              · have HX := Lib.hid ((HX0.out h0).symm.trans Hr.out)
                have hok := Hok.out h0
                obtain ⟨j, hj⟩ : ∃ j, (skR s.data.toList k).1 = j := ⟨_, rfl⟩
                rw [hj] at hok
                have Hj := Lib.hid (by rw [← Hq.out, hj] : (qEnd (s.data.toList.drop (k + 1)) (k + 1)).1 = j)
                have H0 := Lib.hid (by rw [← Hq.out, h0] : (qEnd (s.data.toList.drop (k + 1)) (k + 1)).2 = 0)
                have Hjj := Lib.hid hj
                clear h0 hj
                go_wp2_with fail
                refine (runquote_any s k _ (by omega)).mono ?_
                rintro e w2 ⟨rfl, hB2⟩
                rw [Hu.out.1, Hu.out.2, Hj.out, H0.out]
                have Hr2 := Lib.hid ((keep_of_below hB2 []).owns Ho.out (by simp))
                go_wp2_with fail
                go_roundw
                case rel => exact ⟨a, j, n, acc, by omega, by omega, by omega, by omega, rfl, by go_num, by rw [← Hjj.out]; exact HX.out, Hr2.out, hB.trans (hB2.mono hsz)⟩
                case measure => simp [intOf]; omega
              · have HX := Lib.hid (Hr.out.symm.trans (HXE.out h0))
                obtain ⟨j, hj⟩ : ∃ j, (skR s.data.toList k).1 = j := ⟨_, rfl⟩
                obtain ⟨x, hx⟩ : ∃ j, (skR s.data.toList k).2 = j := ⟨_, rfl⟩
                rw [hx] at h0
                have hxb : (x != 0) = true := by simpa using h0
                have Hj := Lib.hid (by rw [← Hq.out, hj] : (qEnd (s.data.toList.drop (k + 1)) (k + 1)).1 = j)
                have Hx := Lib.hid (by rw [← Hq.out, hx] : (qEnd (s.data.toList.drop (k + 1)) (k + 1)).2 = x)
                have Hjj := Lib.hid hj
                have Hxx := Lib.hid hx
                clear h0 hj hx
                go_wp2_with fail
                refine (runquote_any s k _ (by omega)).mono ?_
                rintro e w2 ⟨rfl, hB2⟩
                rw [Hu.out.1, Hu.out.2, Hj.out, Hx.out]
                go_wp2_with fail
                go_ret3
                refine ⟨_, by rw [HX.out, Hjj.out, Hxx.out]; rfl, ?_, hB.trans (hB2.mono hsz)⟩
                rw [HX.out]; exact World.ownsRow_nil _ _ _ _
            · have b34 : ((s[k].toNat : Int) == 34) = false := by simp; omega
              by_cases h62 : s[k].toNat = 62
              · have b62 : ((s[k].toNat : Int) == 62) = true := by simp; omega
                have hk' : skR s.data.toList k = (k, 5) := by rw [Hs.out, if_neg h34, if_neg (by omega), if_pos h62]
                have HX := Lib.hid (by rw [Hr.out.symm.trans (HXE.out (by rw [hk']; simp)), hk'] : R = ([], k, 5))
                clear h34 h62 hk'
                go_wp2_with fail
                go_ret3
                refine ⟨_, by rw [HX.out]; rfl, ?_, hB⟩
                rw [HX.out]; exact World.ownsRow_nil _ _ _ _
              · have b62 : ((s[k].toNat : Int) == 62) = false := by simp; omega
                by_cases h60 : s[k].toNat = 60
                · have b60 : ((s[k].toNat : Int) == 60) = true := by simp; omega
                  obtain ⟨x, hx⟩ : ∃ x, Lib.indexByte (s.data.toList.drop k) 62 = x := ⟨_, rfl⟩
                  have hi' := indexByte_lt (s.data.toList.drop k) 62
                  rw [List.length_drop, len_list, hx] at hi'
                  have hk' : skR s.data.toList k = if x < 0 then (s.size, 6) else (k + x.toNat + 1, 0) := by rw [Hs.out, if_neg h34, if_pos h60, hx]
                  have Hk' := Lib.hid hk'
                  have Hx := Lib.hid hx
                  clear h34 h62 h60 hk' hx
                  have H0' := Lib.hid hi'
                  go_wp2_with fail
                  go_loop [9] (fun i => ∃ j : Nat, k ≤ j ∧ j ≤ s.size ∧ i = .int .i64 j ∧ ((x < 0 ∧ Lib.indexByte (s.data.toList.drop j) 62 < 0) ∨ (0 ≤ x ∧ (j : Int) + Lib.indexByte (s.data.toList.drop j) 62 = k + x ∧ 0 ≤ Lib.indexByte (s.data.toList.drop j) 62))) (fun i => s.size - (intOf i).toNat)
                  case atStart =>
                    refine ⟨k, Nat.le_refl _, by omega, rfl, ?_⟩
                    rw [Hx.out]
                    rcases Int.lt_or_le x 0 with h | h
                    · exact .inl ⟨h, h⟩
                    · exact .inr ⟨h, rfl, h⟩
                  case round =>
                    obtain ⟨j, hkj, hjs, rfl, hor⟩ := hrel
                    by_cases hjl : j < s.size
                    · rw [drop_step s j hjl] at hor
                      unfold Lib.indexByte at hor
                      by_cases hj62 : s[j].toNat = 62
                      · have hjb : ((s[j].toNat : Int) != 62) = false := by simp; omega
                        have hbe : (s[j] == (62 : UInt8)) = true := by rw [beq_iff_eq, ← UInt8.toNat_inj]; exact hj62
                        rw [hbe] at hor
                        simp only [if_true] at hor
                        have hxx : 0 ≤ x ∧ (j : Int) = k + x := by
                          rcases hor with h | h
                          · omega
                          · exact ⟨h.1, by omega⟩
                        have hkk : skR s.data.toList k = (j + 1, 0) := by
                          rw [Hk'.out, if_neg (by omega)]
                          congr 1; omega
                        have HX := Lib.hid (by have := (HX0.out (by rw [hkk])).symm.trans Hr.out; rw [hkk] at this; exact this : spR s.data.toList sep n a (j + 1) acc = R)
                        have hne : ((j : Int) == (s.size : Int)) = false := by rw [beq_eq_false_iff_ne]; omega
                        clear hor hj62 hbe hkk hxx
                        go_wp2_with fail
                        go_roundw
                        case rel => exact ⟨a, j + 1, n, acc, by omega, by omega, by omega, by omega, rfl, by go_num, HX.out, Ho.out, hB⟩
                        case measure => simp only [intOf, Int.toNat_natCast]; omega
                      · have hjb : ((s[j].toNat : Int) != 62) = true := by simp; omega
                        have hbe : (s[j] == (62 : UInt8)) = false := by rw [beq_eq_false_iff_ne]; intro h; apply hj62; rw [h]; rfl
                        rw [hbe] at hor
                        simp only [Bool.false_eq_true, if_false] at hor
                        have hi2 := indexByte_lt (s.data.toList.drop (j + 1)) 62
                        obtain ⟨y, hy⟩ : ∃ y, Lib.indexByte (s.data.toList.drop (j + 1)) 62 = y := ⟨_, rfl⟩
                        rw [hy] at hor hi2
                        have Hor := Lib.hid (by
                          rw [hy]
                          by_cases hy1 : y = -1
                          · rw [if_pos (by rw [beq_iff_eq]; exact hy1)] at hor; omega
                          · rw [if_neg (by rw [beq_iff_eq]; exact hy1)] at hor; omega : (x < 0 ∧ Lib.indexByte (s.data.toList.drop (j + 1)) 62 < 0) ∨ (0 ≤ x ∧ ((j + 1 : Nat) : Int) + Lib.indexByte (s.data.toList.drop (j + 1)) 62 = k + x ∧ 0 ≤ Lib.indexByte (s.data.toList.drop (j + 1)) 62))
                        clear hor hj62 hbe hy hi2
                        go_wp2_with fail
                        go_round
                        case rel => exact ⟨j + 1, by omega, by omega, by go_num, Hor.out⟩
                        case measure => simp [intOf]; omega
                    · rw [drop_end s j (by omega)] at hor
                      have hxx : x < 0 := by
                        rcases hor with h | h
                        · exact h.1
                        · have := h.2.2; simp [Lib.indexByte] at this
                      have hkk : skR s.data.toList k = (s.size, 6) := by rw [Hk'.out, if_pos hxx]
                      have HX := Lib.hid (by rw [Hr.out.symm.trans (HXE.out (by rw [hkk]; simp)), hkk] : R = ([], s.size, 6))
                      have hne : ((j : Int) == (s.size : Int)) = true := by rw [beq_iff_eq]; omega
                      clear hor hkk
                      go_wp2_with fail
                      go_ret3
                      refine ⟨_, by rw [HX.out]; rfl, ?_, hB⟩
                      rw [HX.out]; exact World.ownsRow_nil _ _ _ _
                · have b60 : ((s[k].toNat : Int) == 60) = false := by simp; omega
                  have hk' : skR s.data.toList k = (k + 1, 0) := by rw [Hs.out, if_neg h34, if_neg h60, if_neg h62]
                  have HX := Lib.hid (by have := (HX0.out (by rw [hk'])).symm.trans Hr.out; rw [hk'] at this; exact this : spR s.data.toList sep n a (k + 1) acc = R)
                  clear h34 h62 h60 hk'
                  go_wp2_with fail
                  go_roundw
                  case rel => exact ⟨a, k + 1, n, acc, by omega, by omega, by omega, by omega, rfl, by go_num, HX.out, Ho.out, hB⟩
                  case measure => simp [intOf]; omega
        · have hX := spR_end s sep n a k acc (by omega)
          have HX := Lib.hid (Hr.out.symm.trans hX)
          clear hX
          obtain ⟨px, hpx⟩ : ∃ x, (pcOf s.data.toList a s.size).1 = x := ⟨_, rfl⟩
          obtain ⟨pt, hpt⟩ : ∃ x, (pcOf s.data.toList a s.size).2 = x := ⟨_, rfl⟩
          have Hpx := Lib.hid hpx
          have Hpt := Lib.hid hpt
          have Hpc := Lib.hid (by rw [← hpx, ← hpt] : pcOf s.data.toList a s.size = (px, pt))
          clear hpx hpt
          go_wp2_with fail
          refine (rpiece_any s a s.size _ hs (by omega) (by omega)).mono ?_
          rintro e w2 ⟨rfl, hB2⟩
          rw [Hpx.out, Hpt.out]
          have hs2 := hB2.size
          have Hr2 := Lib.hid ((keep_of_below hB2 []).owns Ho.out (by simp))
          go_wp2_with (at_builtin; refine wpList_append_own _ rfl _ _ 106 rfl w.heap.size 110 i0 (.agg #[.int .i64 0, .string .empty]) 2 24 Tryz.underlying106 hi hz0 hz1 hz2 rfl (by decide) _ _ _ rfl (Hr2.out.alloc _) ⟨w2.heap.size, 0, none⟩ 1 1 [.int .i64 px, .string ⟨pt.toArray⟩] rfl rfl (cell_two_new _ _ _ _) (by simp [Value.oneCell']) ?c3 ?c4 ?c5 ?_)
          case c3 => unfold maxLen; omega
          case c4 => omega
          case c5 => simp; omega
          intro v' w3 hown' hgrow _
          have hB3 := ((hB.trans (hB2.mono (by omega))).alloc (by omega) (.cells #[.int .i64 px, .string ⟨pt.toArray⟩] 110)).grown hgrow (by simp; omega) (fun k' hk' => (Hr2.out.lt k' hk').1)
          have HO3 := Lib.hid (by rw [Hpc.out, pcells_append]; simpa [pcells] using hown' : w3.ownsRow w.heap.size 110 2 v' (acc ++ [pcOf s.data.toList a s.size]).length (pcells (acc ++ [pcOf s.data.toList a s.size])))
          clear hown' hgrow
          go_wp2_with fail
          go_ret3
          refine ⟨_, by rw [HX.out]; rfl, ?_, hB3⟩
          rw [HX.out]; exact HO3.out
  · have HR := Lib.hid (by rw [← hR]; unfold spF sepBad; rw [hb]; rfl : R = ([], 0, 2))
    have Hb := Lib.hid hb
    clear hR hb
    go_enter Tryz.func98, Tryz.ntmps98
    go_wp2_with fail
    refine (rblank_any _ _).mono ?_
    rintro e w' ⟨rfl, rfl⟩
    rw [Hb.out]
    go_wp2_with fail
    go_ret3
    refine ⟨_, by rw [HR.out]; rfl, ?_, Below.refl _ _⟩
    rw [HR.out]; exact World.ownsRow_nil _ _ _ _
end Lx
end Go.Proofs.YtmmjfofdnpafkaaGreatDoor
