/- AddressWrites of package dialtonelaw02 returns true for every address of moderate size, and nothing that was there is changed. -/
import Derived.Test.YtjkkcoiebnmkcaaGreatDoorAdVk
namespace Go.Proofs.YtjkkcoiebnmkcaaGreatDoor
namespace Ad
open Go.RowKit Lx

set_option maxRecDepth 100000 in
set_option maxHeartbeats 16000000 in
theorem writes_law (B : Nat) (v : Value) (a : Adr) (w : World) (hA : AdIn B w v a) (hB : B ≤ w.heap.size) (hz : SzA a) (E : Env w) :
    Calls Tryz.prog 8 #[v] w (BoK true w) := by
  obtain ⟨vp, vh, vq, rfl, hp, hh, hq⟩ := hA
  obtain ⟨A1, C1, rfl⟩ := hp.form
  obtain ⟨A2, C2, rfl⟩ := hh.form
  obtain ⟨A3, C3, rfl⟩ := hq.form
  have HZ := Lib.hid hz
  have k1 := hz.params
  have k2 := hz.uri.params
  have k3 := hz.uri.heads
  obtain ⟨wA, hwA⟩ : ∃ wz_, w.alloc (.cells #[.string (Txt a.display), .string (Txt a.uri.scheme), .string (Txt a.uri.user), .string (Txt a.uri.host), .int .i64 a.uri.port, .slice A1 a.uri.params.length C1, .slice A2 a.uri.heads.length C2, .slice A3 a.params.length C3] 51) = wz_ := ⟨_, rfl⟩
  have hK : Kp [] w wA := by rw [← hwA]; exact (Kp.refl [] w).alloc _
  have BA := Lib.hid (show Blk wA w.heap.size 51 #[.string (Txt a.display), .string (Txt a.uri.scheme), .string (Txt a.uri.user), .string (Txt a.uri.host), .int .i64 a.uri.port, .slice A1 a.uri.params.length C1, .slice A2 a.uri.heads.length C2, .slice A3 a.params.length C3] from by rw [← hwA]; exact Blk.new w _ _)
  have P1 := Lib.hid ((hp.more hB).grow hK (by intro y hy; cases hy))
  have P2 := Lib.hid ((hh.more hB).grow hK (by intro y hy; cases hy))
  have P3 := Lib.hid ((hq.more hB).grow hK (by intro y hy; cases hy))
  have KK := Lib.hid hK
  have EE := Lib.hid (E.kp hK (by simp))
  clear hK hp hh hq hz E
  by_cases h40 : 40 < a.uri.params.length + a.uri.heads.length + a.params.length
  · have b0 := BA.out.cell 0
    have b1 := BA.out.cell 1
    have b2 := BA.out.cell 2
    have b3 := BA.out.cell 3
    have b4 := BA.out.cell 4
    have b5 := BA.out.cell 5
    have b6 := BA.out.cell 6
    have b7 := BA.out.cell 7
    go_enter Tryz.func8, Tryz.ntmps8
    go_wp2_with fail
    refine (awake_any _ EE.out).mono ?_
    rintro e w1 ⟨rfl, hK⟩
    have KK2 := Lib.hid (KK.out.trans hK)
    clear hK
    go_wp2_with fail
    go_ret
    exact ⟨rfl, KK2.out⟩
  · obtain ⟨R, hR⟩ : ∃ r, adrO a = r := ⟨_, rfl⟩
    have HR := Lib.hid hR
    clear hR
    have b0 := BA.out.cell 0
    have b1 := BA.out.cell 1
    have b2 := BA.out.cell 2
    have b3 := BA.out.cell 3
    have b4 := BA.out.cell 4
    have b5 := BA.out.cell 5
    have b6 := BA.out.cell 6
    have b7 := BA.out.cell 7
    go_enter Tryz.func8, Tryz.ntmps8
    go_wp2_with fail
    refine (printAddress_any _ _ a _ ⟨_, _, _, rfl, P1.out, P2.out, P3.out⟩ (Nat.le_refl _) HZ.out EE.out).mono ?_
    rintro e w4 ⟨rfl, hK⟩
    rw [HR.out]
    have BB := Lib.hid (BA.out.kp hK (by simp))
    have Q1 := Lib.hid (P1.out.grow hK (by intro y hy; cases hy))
    have Q2 := Lib.hid (P2.out.grow hK (by intro y hy; cases hy))
    have Q3 := Lib.hid (P3.out.grow hK (by intro y hy; cases hy))
    have KB := Lib.hid (KK.out.trans hK)
    have EB := Lib.hid (EE.out.kp hK (by simp))
    obtain ⟨t, ht⟩ : ∃ t, R.getD [] = t := ⟨_, rfl⟩
    obtain ⟨x, hx⟩ : ∃ x : Int, (if R.isSome then 0 else 2) = x := ⟨_, rfl⟩
    have Ht := Lib.hid ht
    have Hx := Lib.hid hx
    rw [ht, hx]
    have bt : ((Txt t).toList == (Txt t).toList) = true := beq_self_eq_true _
    have bx : (x == x) = true := beq_self_eq_true _
    clear hK ht hx b0 b1 b2 b3 b4 b5 b6 b7
    have b0 := BB.out.cell 0
    have b1 := BB.out.cell 1
    have b2 := BB.out.cell 2
    have b3 := BB.out.cell 3
    have b4 := BB.out.cell 4
    have b5 := BB.out.cell 5
    have b6 := BB.out.cell 6
    have b7 := BB.out.cell 7
    go_wp2_with fail
    refine (rPrintAddress_any _ _ a _ ⟨_, _, _, rfl, Q1.out, Q2.out, Q3.out⟩ (Nat.le_refl _) HZ.out).mono ?_
    rintro e w5 ⟨rfl, hK⟩
    rw [HR.out, Ht.out, Hx.out]
    have KC := Lib.hid (KB.out.trans hK)
    have EC := Lib.hid (EB.out.kp hK (by simp))
    clear hK b0 b1 b2 b3 b4 b5 b6 b7
    go_wp2_with fail
    refine (awake_any _ EC.out).mono ?_
    rintro e w6 ⟨rfl, hK⟩
    have KD := Lib.hid (KC.out.trans hK)
    clear hK
    go_wp2_with fail
    go_ret
    exact ⟨rfl, KD.out⟩
end Ad
end Go.Proofs.YtjkkcoiebnmkcaaGreatDoor
