/- The contract of Split of package lexis. Condition: a text has at most 2^21 bytes. -/
import Derived.Test.YtjbjaofbdbkjaaaDoorLxSpSpec
namespace Go.Proofs.YtjbjaofbdbkjaaaDoor
namespace Lx
open Go.RowKit

/-- What Split hands back. -/
def SplPost (R : SpRes) (w : World) (e : Ending) (w' : World) : Prop :=
  ∃ v, e = .returned (.tuple #[v, .int .i64 (R.2.1 : Nat), .int .u8 R.2.2]) ∧ w'.ownsRow w.heap.size 43 2 v R.1.length (pcells R.1) ∧ Below w.heap.size w w'

set_option maxRecDepth 100000 in
set_option maxHeartbeats 4000000 in
theorem split_any (s : ByteArray) (sep : Int) (w : World) (hs : s.size ≤ 2097152) :
    Calls Tryd.prog 29 #[.string s, .int .u8 sep] w (SplPost (spF s.data.toList sep) w) := by
  obtain ⟨R, hR⟩ : ∃ R, spF s.data.toList sep = R := ⟨_, rfl⟩
  rw [hR]
  cases hb : blankI sep
  · have Hb := Lib.hid hb
    by_cases hq : sep = 34 ∨ sep = 60 ∨ sep = 62
    · have HR := Lib.hid (by rw [← hR]; unfold spF sepBad; rw [hb]; rcases hq with rfl | rfl | rfl <;> rfl : R = ([], 0, 2))
      clear hR hb
      rcases hq with rfl | rfl | rfl
      all_goals
        go_enter Tryd.func29, Tryd.ntmps29
        go_wp2_with fail
        refine (blank_any _ _).mono ?_
        rintro e w' ⟨rfl, rfl⟩
        rw [Hb.out]
        go_wp2_with fail
        go_ret3
        refine ⟨_, by rw [HR.out]; rfl, ?_, Below.refl _ _⟩
        rw [HR.out]; exact World.ownsRow_nil _ _ _ _
    · have b1 : (sep == 34) = false := by rw [beq_eq_false_iff_ne]; omega
      have b2 : (sep == 60) = false := by rw [beq_eq_false_iff_ne]; omega
      have b3 : (sep == 62) = false := by rw [beq_eq_false_iff_ne]; omega
      have HR := Lib.hid (by rw [← hR]; unfold spF sepBad; rw [hb, b1, b2, b3]; simp : R = spR s.data.toList sep s.size 0 0 [])
      clear hR hb hq
      obtain ⟨i0, hi, hz0, hz1, hz2⟩ := info_parts infoPiece
      go_enter Tryd.func29, Tryd.ntmps29
      go_wp2_with fail
      refine (blank_any _ _).mono ?_
      rintro e w' ⟨rfl, rfl⟩
      rw [Hb.out]
      go_wp2_with fail
      go_loopw [7, 8, 9, 10, 11] (fun v f i _ _ wr => ∃ (a k n : Nat) (acc : List (Nat × List UInt8)), a ≤ k ∧ k ≤ s.size ∧ s.size - k ≤ n ∧ acc.length ≤ k ∧ f = .int .i64 a ∧ i = .int .i64 k ∧ spR s.data.toList sep n a k acc = R ∧ wr.ownsRow w.heap.size 43 2 v acc.length (pcells acc) ∧ Below w.heap.size w wr) (fun _ _ i _ _ _ => s.size - (intOf i).toNat)
      case atStart => exact ⟨0, 0, s.size, [], by omega, by omega, by omega, by simp, rfl, rfl, HR.out.symm, World.ownsRow_nil _ _ _ _, Below.refl _ _⟩
      case round =>
        obtain ⟨a, k, n, acc, hak, hk, hn, hal, rfl, rfl, hr, hown, hB⟩ := hrel
        have Hr := Lib.hid hr
        have Ho := Lib.hid hown
        have hsz := hB.size
        clear hr hown
        by_cases hlt : k < s.size
        · obtain ⟨n, rfl⟩ : ∃ m, n = m + 1 := ⟨n - 1, by omega⟩
          by_cases hse : (s[k].toNat : Int) = sep
          · have hX := spR_sep s sep n a k acc hlt hse
            have HX := Lib.hid (hX.symm.trans Hr.out)
            have bs : ((s[k].toNat : Int) == sep) = true := by rw [beq_iff_eq]; exact hse
            clear hX hse
            obtain ⟨px, hpx⟩ : ∃ x, (pcOf s.data.toList a k).1 = x := ⟨_, rfl⟩
            obtain ⟨pt, hpt⟩ : ∃ x, (pcOf s.data.toList a k).2 = x := ⟨_, rfl⟩
            have Hpx := Lib.hid hpx
            have Hpt := Lib.hid hpt
            have Hpc := Lib.hid (by rw [← hpx, ← hpt] : pcOf s.data.toList a k = (px, pt))
            clear hpx hpt
            go_wp2_with fail
            refine (piece_any s a k _ hs (by omega) (by omega)).mono ?_
            rintro e w2 ⟨rfl, hB2⟩
            rw [Hpx.out, Hpt.out]
            have hs2 := hB2.size
            have Hr2 := Lib.hid ((keep_of_below hB2 []).owns Ho.out (by simp))
            go_wp2_with (at_builtin; refine wpList_append_own _ rfl _ _ 33 rfl w.heap.size 43 i0 (.agg #[.int .i64 0, .string .empty]) 2 24 Tryd.underlying33 hi hz0 hz1 hz2 rfl (by decide) _ _ _ rfl (Hr2.out.alloc _) ⟨w2.heap.size, 0, none⟩ 1 1 [.int .i64 px, .string ⟨pt.toArray⟩] rfl rfl (cell_two_new _ _ _ _) (by simp [Value.oneCell']) ?c3 ?c4 ?c5 ?_)
            case c3 => unfold maxLen; omega
            case c4 => omega
            case c5 => simp; omega
            intro v' w3 hown' hgrow _
            have hB3 := ((hB.trans (hB2.mono (by omega))).alloc (by omega) (.cells #[.int .i64 px, .string ⟨pt.toArray⟩] 43)).grown hgrow (by simp; omega) (fun k' hk' => (Hr2.out.lt k' hk').1)
            have HO3 := Lib.hid (by rw [Hpc.out, pcells_append]; simpa [pcells] using hown' : w3.ownsRow w.heap.size 43 2 v' (acc ++ [pcOf s.data.toList a k]).length (pcells (acc ++ [pcOf s.data.toList a k])))
            clear hown' hgrow
            go_wp2_with fail
            go_roundw
            case rel => exact ⟨k + 1, k + 1, n, _, by omega, by omega, by omega, by simp; omega, by go_num, by go_num, HX.out, HO3.out, hB3⟩
            case measure => simp [intOf]; omega
          · have bs : ((s[k].toNat : Int) == sep) = false := by rw [beq_eq_false_iff_ne]; exact hse
            by_cases h0 : (skR s.data.toList k).2 = 0
            · have hX := spR_skip s sep n a k acc hlt hse h0
              have HX := Lib.hid (hX.symm.trans Hr.out)
              have hok := skR_ok s k hlt h0
              obtain ⟨j, hj⟩ : ∃ j, (skR s.data.toList k).1 = j := ⟨_, rfl⟩
              rw [hj] at hok
              have Hj := Lib.hid hj
              have H0 := Lib.hid h0
              clear hX h0 hj hse
              go_wp2_with fail
              refine (skip_any s k _ hs hlt).mono ?_
              rintro e w' ⟨rfl, rfl⟩
              rw [Hj.out, H0.out]
              go_wp2_with fail
              go_roundw
              case rel => exact ⟨a, j, n, acc, by omega, by omega, by omega, by omega, rfl, by go_num, by rw [← Hj.out]; exact HX.out, Ho.out, hB⟩
              case measure => simp [intOf]; omega
            · have hX := spR_err s sep n a k acc hlt hse h0
              have HX := Lib.hid (Hr.out.symm.trans hX)
              obtain ⟨j, hj⟩ : ∃ j, (skR s.data.toList k).1 = j := ⟨_, rfl⟩
              obtain ⟨x, hx⟩ : ∃ j, (skR s.data.toList k).2 = j := ⟨_, rfl⟩
              rw [hx] at h0
              have hxb : (x != 0) = true := by simpa using h0
              have Hj := Lib.hid hj
              have Hx := Lib.hid hx
              clear hX h0 hj hx hse
              go_wp2_with fail
              refine (skip_any s k _ hs hlt).mono ?_
              rintro e w' ⟨rfl, rfl⟩
              rw [Hj.out, Hx.out]
              go_wp2_with fail
              go_ret3
              refine ⟨_, by rw [HX.out, Hj.out, Hx.out]; rfl, ?_, hB⟩
              rw [HX.out]; exact World.ownsRow_nil _ _ _ _
        · have hX := spR_end s sep n a k acc (by omega)
          have HX := Lib.hid (Hr.out.symm.trans hX)
          clear hX
          obtain ⟨px, hpx⟩ : ∃ x, (pcOf s.data.toList a s.size).1 = x := ⟨_, rfl⟩
          obtain ⟨pt, hpt⟩ : ∃ x, (pcOf s.data.toList a s.size).2 = x := ⟨_, rfl⟩
          have Hpx := Lib.hid hpx
          have Hpt := Lib.hid hpt
          have Hpc := Lib.hid (by rw [← hpx, ← hpt] : pcOf s.data.toList a s.size = (px, pt))
          clear hpx hpt
          go_wp2_with fail
          refine (piece_any s a s.size _ hs (by omega) (by omega)).mono ?_
          rintro e w2 ⟨rfl, hB2⟩
          rw [Hpx.out, Hpt.out]
          have hs2 := hB2.size
          have Hr2 := Lib.hid ((keep_of_below hB2 []).owns Ho.out (by simp))
          go_wp2_with (at_builtin; refine wpList_append_own _ rfl _ _ 33 rfl w.heap.size 43 i0 (.agg #[.int .i64 0, .string .empty]) 2 24 Tryd.underlying33 hi hz0 hz1 hz2 rfl (by decide) _ _ _ rfl (Hr2.out.alloc _) ⟨w2.heap.size, 0, none⟩ 1 1 [.int .i64 px, .string ⟨pt.toArray⟩] rfl rfl (cell_two_new _ _ _ _) (by simp [Value.oneCell']) ?c3 ?c4 ?c5 ?_)
          case c3 => unfold maxLen; omega
          case c4 => omega
          case c5 => simp; omega
          intro v' w3 hown' hgrow _
          have hB3 := ((hB.trans (hB2.mono (by omega))).alloc (by omega) (.cells #[.int .i64 px, .string ⟨pt.toArray⟩] 43)).grown hgrow (by simp; omega) (fun k' hk' => (Hr2.out.lt k' hk').1)
          have HO3 := Lib.hid (by rw [Hpc.out, pcells_append]; simpa [pcells] using hown' : w3.ownsRow w.heap.size 43 2 v' (acc ++ [pcOf s.data.toList a s.size]).length (pcells (acc ++ [pcOf s.data.toList a s.size])))
          clear hown' hgrow
          go_wp2_with fail
          go_ret3
          refine ⟨_, by rw [HX.out]; rfl, ?_, hB3⟩
          rw [HX.out]; exact HO3.out
  · have HR := Lib.hid (by rw [← hR]; unfold spF sepBad; rw [hb]; rfl : R = ([], 0, 2))
    have Hb := Lib.hid hb
    clear hR hb
    go_enter Tryd.func29, Tryd.ntmps29
    go_wp2_with fail
    refine (blank_any _ _).mono ?_
    rintro e w' ⟨rfl, rfl⟩
    rw [Hb.out]
    go_wp2_with fail
    go_ret3
    refine ⟨_, by rw [HR.out]; rfl, ?_, Below.refl _ _⟩
    rw [HR.out]; exact World.ownsRow_nil _ _ _ _
end Lx
end Go.Proofs.YtjbjaofbdbkjaaaDoor
