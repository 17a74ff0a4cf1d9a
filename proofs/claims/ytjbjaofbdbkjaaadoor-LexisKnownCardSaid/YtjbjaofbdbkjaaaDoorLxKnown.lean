/- The law of LexisKnown: the chapter's examples. Condition: the library's variable bytealg.MaxLen holds an int. -/
import Derived.Test.YtjbjaofbdbkjaaaDoorLxKnA
namespace Go.Proofs.YtjbjaofbdbkjaaaDoor
namespace Lx
open Go.RowKit

set_option maxRecDepth 100000 in
set_option maxHeartbeats 4000000 in
theorem known_law (m : Int) (w : World) (hm : w.cell? ⟨0, 0, none⟩ = some (.int .i64 m)) :
    Calls Tryd.prog 13 #[] w fun e w' => e = .returned (.bool true) ∧ Below w.heap.size w w' := by
  have h0 := cell_lt hm
  have Hm := Lib.hid hm
  clear hm
  go_enter Tryd.func13, Tryd.ntmps13
  go_wp2_with fail
  refine (kn_q1 _).mono ?_
  rintro e w1 ⟨rfl, hb1⟩
  have hB1 := hb1
  have hs1 := hB1.size
  have hs1' := hb1.size
  go_wp2_with fail
  refine (kn_q2 _).mono ?_
  rintro e w2 ⟨rfl, hb2⟩
  have hB2 := hB1.trans (hb2.mono (by omega))
  have hs2 := hB2.size
  have hs2' := hb2.size
  go_wp2_with fail
  refine (kn_n1 _).mono ?_
  rintro e w' ⟨rfl, rfl⟩
  go_wp2_with fail
  refine (kn_n2 _).mono ?_
  rintro e w' ⟨rfl, rfl⟩
  go_wp2_with fail
  refine (kn_t1 _).mono ?_
  rintro e w' ⟨rfl, rfl⟩
  go_wp2_with fail
  refine (kn_t2 _).mono ?_
  rintro e w' ⟨rfl, rfl⟩
  go_wp2_with fail
  refine (kn_t3 _).mono ?_
  rintro e w' ⟨rfl, rfl⟩
  go_wp2_with fail
  refine (kn_t4 _).mono ?_
  rintro e w' ⟨rfl, rfl⟩
  go_wp2_with fail
  refine (kn_b _).mono ?_
  rintro e w' ⟨rfl, rfl⟩
  go_wp2_with fail
  refine (kn_u1 _).mono ?_
  rintro e w3 ⟨⟨x0, rfl⟩, hb3⟩
  have hB3 := hB2.trans (hb3.mono (by omega))
  have hs3 := hB3.size
  have hs3' := hb3.size
  go_wp2_with fail
  refine (kn_u2 _).mono ?_
  rintro e w4 ⟨⟨x1, rfl⟩, hb4⟩
  have hB4 := hB3.trans (hb4.mono (by omega))
  have hs4 := hB4.size
  have hs4' := hb4.size
  go_wp2_with fail
  refine (kn_u3 _).mono ?_
  rintro e w5 ⟨⟨x2, rfl⟩, hb5⟩
  have hB5 := hB4.trans (hb5.mono (by omega))
  have hs5 := hB5.size
  have hs5' := hb5.size
  go_wp2_with fail
  refine (kn_u4 _).mono ?_
  rintro e w6 ⟨⟨x3, rfl⟩, hb6⟩
  have hB6 := hB5.trans (hb6.mono (by omega))
  have hs6 := hB6.size
  have hs6' := hb6.size
  go_wp2_with fail
  refine (kn_c1 _).mono ?_
  rintro e w7 ⟨⟨y1, rfl⟩, hb7⟩
  have hB7 := hB6.trans (hb7.mono (by omega))
  have hs7 := hB7.size
  have hs7' := hb7.size
  go_wp2_with fail
  refine (kn_c2 _).mono ?_
  rintro e w8 ⟨⟨y2, rfl⟩, hb8⟩
  have hB8 := hB7.trans (hb8.mono (by omega))
  have hs8 := hB8.size
  have hs8' := hb8.size
  go_wp2_with fail
  refine (kn_s1 _).mono ?_
  rintro e w9 ⟨⟨v1, rfl, hp1⟩, hb9⟩
  have hB9 := hB8.trans (hb9.mono (by omega))
  have hs9 := hB9.size
  have hs9' := hb9.size
  have Hp1 := Lib.hid hp1
  obtain ⟨va, vc, rfl, _⟩ := id hp1
  clear hp1
  go_wp2_with fail
  refine (kn_s2 _).mono ?_
  rintro e w10 ⟨⟨v2, rfl, hq2⟩, hb10⟩
  have hB10 := hB9.trans (hb10.mono (by omega))
  have hs10 := hB10.size
  have hs10' := hb10.size
  have Hp2 := Lib.hid (Hp1.out.below hb10)
  clear hq2
  go_wp2_with fail
  refine (kn_s3 _).mono ?_
  rintro e w11 ⟨⟨v3, rfl, hq3⟩, hb11⟩
  have hB11 := hB10.trans (hb11.mono (by omega))
  have hs11 := hB11.size
  have hs11' := hb11.size
  have Hp3 := Lib.hid (Hp2.out.below hb11)
  clear hq3
  go_wp2_with fail
  refine (kn_s4 _).mono ?_
  rintro e w12 ⟨⟨v4, rfl, hq4⟩, hb12⟩
  have hB12 := hB11.trans (hb12.mono (by omega))
  have hs12 := hB12.size
  have hs12' := hb12.size
  have Hp4 := Lib.hid (Hp3.out.below hb12)
  clear hq4
  go_wp2_with fail
  have hal := (Below.refl w12.heap.size w12).alloc (Nat.le_refl _) (.cells #[.int .i64 0, .string ⟨#[97]⟩, .int .i64 4, .string ⟨#[34, 98, 44, 99, 34, 32, 60, 100, 44, 101, 62]⟩, .int .i64 16, .string ⟨#[]⟩, .int .i64 17, .string ⟨#[]⟩] 43)
  refine (same_any _ _ knL knL _ (Hp4.out.below hal) (PcIn.new w12 knL _ rfl) (by decide) (by decide)).mono ?_
  rintro e wS ⟨rfl, n, rfl⟩
  rw [show decide (knL = knL) = true from by decide]
  have hBa := hB12.trans (hal.mono (by omega))
  have hBS : Below w.heap.size w ((w12.alloc (.cells #[.int .i64 0, .string ⟨#[97]⟩, .int .i64 4, .string ⟨#[34, 98, 44, 99, 34, 32, 60, 100, 44, 101, 62]⟩, .int .i64 16, .string ⟨#[]⟩, .int .i64 17, .string ⟨#[]⟩] 43)).drewN n) := ⟨hBa.os, hBa.tape, hBa.output, hBa.size, hBa.block⟩
  have hsS := hBS.size
  have hsS' := hB12.size
  go_wp2_with fail
  go_loop [43, 44] (fun v i => ∃ j : Nat, j ≤ 40 ∧ i = .int .i64 j ∧ v = .string ⟨(List.replicate j 97).toArray⟩) (fun _ i => 40 - (intOf i).toNat)
  case atStart => exact ⟨0, by omega, rfl, rfl⟩
  case round =>
    obtain ⟨j, hj, rfl, rfl⟩ := hrel
    obtain ⟨X, hX⟩ : ∃ X, (⟨(List.replicate j 97).toArray⟩ : ByteArray) = X := ⟨_, rfl⟩
    have hXs : X.size = j := by rw [← hX]; exact kn_size j
    have HX := Lib.hid hX
    rw [hX]
    clear hX
    by_cases hlt : j < 40
    · go_wp2_with fail
      go_round
      case rel => exact ⟨j + 1, by omega, by go_num, by rw [← HX.out]; exact congrArg Value.string (kn_row j)⟩
      case measure => simp [intOf]; omega
    · obtain rfl : j = 40 := by omega
      have HK := Lib.hid HX.out.symm
      have hB13 := hBS
      have hs13 := hBS.size
      go_wp2_with fail
      refine (kn_f1 X HK.out _).mono ?_
      rintro e w14 ⟨rfl, hb14⟩
      have hB14 := hB13.trans (hb14.mono hs13)
      have hs14 := hB14.size
      go_wp2_with fail
      refine (kn_f2 _).mono ?_
      rintro e w15 ⟨rfl, hb15⟩
      have hB15 := hB14.trans (hb15.mono hs14)
      have hs15 := hB15.size
      go_wp2_with fail
      refine (kn_f3 _).mono ?_
      rintro e w16 ⟨rfl, hb16⟩
      have hB16 := hB15.trans (hb16.mono hs15)
      have hs16 := hB16.size
      go_wp2_with fail
      refine (kn_w1 m _ ((hB16.cell (p := ⟨0, 0, none⟩) h0).trans Hm.out)).mono ?_
      rintro e w17 ⟨⟨z1, rfl⟩, hb17⟩
      have hB17 := hB16.trans (hb17.mono hs16)
      have hs17 := hB17.size
      go_wp2_with fail
      refine (kn_w2 m _ ((hB17.cell (p := ⟨0, 0, none⟩) h0).trans Hm.out)).mono ?_
      rintro e w18 ⟨⟨z2, rfl⟩, hb18⟩
      have hB18 := hB17.trans (hb18.mono hs17)
      have hs18 := hB18.size
      go_wp2_with fail
      refine (kn_w3 m _ ((hB18.cell (p := ⟨0, 0, none⟩) h0).trans Hm.out)).mono ?_
      rintro e w19 ⟨⟨z3, rfl⟩, hb19⟩
      have hB19 := hB18.trans (hb19.mono hs18)
      have hs19 := hB19.size
      go_wp2_with fail
      refine (awake_any m _ ((hB19.cell (p := ⟨0, 0, none⟩) h0).trans Hm.out)).mono ?_
      rintro e w20 ⟨rfl, hb20⟩
      have hB20 := hB19.trans (hb20.mono hs19)
      have hs20 := hB20.size
      go_wp2_with fail
      go_ret
      exact ⟨rfl, hB20⟩
end Lx
end Go.Proofs.YtjbjaofbdbkjaaaDoor
