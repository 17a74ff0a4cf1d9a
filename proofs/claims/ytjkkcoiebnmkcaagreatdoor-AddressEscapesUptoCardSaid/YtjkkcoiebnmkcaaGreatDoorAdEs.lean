/- AddressEscapes of package dialtonelaw02 returns true for every text of at most 2^20 bytes and every class, and nothing that was there is changed. -/
import Derived.Test.YtjkkcoiebnmkcaaGreatDoorAdRl
import Derived.Test.YtjkkcoiebnmkcaaGreatDoorM8
namespace Go.Proofs.YtjkkcoiebnmkcaaGreatDoor
namespace Ad
open Go.RowKit Lx

set_option maxRecDepth 100000 in
set_option maxHeartbeats 4000000 in
theorem escapes_law (s : ByteArray) (c : Int) (w : World) (hs : s.size ≤ 1048576) (E : Env w) : Calls Tryz.prog 3 #[.string s, .int .i64 c] w (BoK true w) := by
  have HE := Lib.hid E
  clear E
  go_enter Tryz.func3, Tryz.ntmps3
  go_wp2_with fail
  go_loopw [5] (fun i wr => ∃ j : Nat, j ≤ 5 ∧ i = .int .i64 ((j : Int) - 1) ∧ Below w.heap.size w wr) (fun i _ => (4 - intOf i).toNat)
  case atStart => exact ⟨0, by omega, by simp, Below.refl _ _⟩
  case round =>
    obtain ⟨j, hj, rfl, hB⟩ := hrel
    have hsz := hB.size
    have HEw := Lib.hid (HE.out.below hB)
    by_cases hlt : j < 5
    · obtain ⟨k, hk⟩ : ∃ k : Int, (j : Int) - 1 = k := ⟨_, rfl⟩
      have k3 : k ≤ 3 := by omega
      have k0 : -1 ≤ k := by omega
      have Hk := Lib.hid hk
      rw [hk]
      obtain ⟨t, ht⟩ : ∃ t, escpL k s.data.toList = t := ⟨_, rfl⟩
      have HT := Lib.hid ht
      have bt : ((ByteArray.mk t.toArray).toList == (ByteArray.mk t.toArray).toList) = true := beq_self_eq_true _
      clear ht hk
      go_wp2_with fail
      refine (Escape_any k s _ (by omega) HEw.out).mono ?_
      rintro e w1 ⟨rfl, hB1⟩
      rw [HT.out]
      go_wp2_with fail
      refine (rEscape_any k s _ (by omega)).mono ?_
      rintro e w2 ⟨rfl, hB2⟩
      rw [HT.out]
      have hB3 := hB.trans ((hB1.trans (hB2.mono hB1.size)).mono hsz)
      clear hB1 hB2
      go_wp2_with fail
      go_roundw
      case rel => exact ⟨j + 1, by omega, by rw [← Hk.out]; go_num, hB3⟩
      case measure => simp [intOf]; omega
    · obtain ⟨t, ht⟩ : ∃ t, escpL c s.data.toList = t := ⟨_, rfl⟩
      have HT := Lib.hid ht
      obtain ⟨ut, hut⟩ : ∃ ut, unT s.data.toList = ut := ⟨_, rfl⟩
      have HU := Lib.hid hut
      obtain ⟨un, hun⟩ : ∃ un, unN s.data.toList = un := ⟨_, rfl⟩
      have HUn := Lib.hid hun
      obtain ⟨ue, hue⟩ : ∃ ue, unE s.data.toList = ue := ⟨_, rfl⟩
      have HUe := Lib.hid hue
      obtain ⟨ho, hho⟩ : ∃ ho, hostO s.data.toList = ho := ⟨_, rfl⟩
      have HO := Lib.hid hho
      have bt : ((ByteArray.mk t.toArray).toList == (ByteArray.mk t.toArray).toList) = true := beq_self_eq_true _
      have bu : ((ByteArray.mk ut.toArray).toList == (ByteArray.mk ut.toArray).toList) = true := beq_self_eq_true _
      obtain ⟨hx, hhx⟩ : ∃ hx, Txt (ho.getD []) = hx := ⟨_, rfl⟩
      have HX := Lib.hid hhx
      obtain ⟨hb, hhb⟩ : ∃ hb, ho.isSome = hb := ⟨_, rfl⟩
      have HBo := Lib.hid hhb
      have bh : (hx.toList == hx.toList) = true := beq_self_eq_true _
      clear ht hut hun hue hho hhx hhb
      have hj5 : 5 ≤ j := by omega
      go_wp2_with fail
      refine (Unescape_any s _ (by omega)).mono ?_
      rintro e w1 ⟨rfl, hB1⟩
      rw [HU.out, HUn.out, HUe.out]
      go_wp2_with fail
      refine (rUnescape_any s _ (by omega)).mono ?_
      rintro e w2 ⟨rfl, hB2⟩
      rw [HU.out, HUn.out, HUe.out]
      have HB2 := Lib.hid (hB1.trans (hB2.mono hB1.size))
      clear hB1 hB2
      go_wp2_with fail
      refine (Host_any s _ (by omega) (HEw.out.below HB2.out)).mono ?_
      rintro e w3 ⟨rfl, hB3⟩
      rw [HO.out, HX.out, HBo.out]
      have HB3 := Lib.hid (HB2.out.trans (hB3.mono HB2.out.size))
      clear hB3
      go_wp2_with fail
      refine (rHost_any s _ (by omega)).mono ?_
      rintro e w4 ⟨rfl, hB4⟩
      rw [HO.out, HX.out, HBo.out]
      have HB4 := Lib.hid (HB3.out.trans (hB4.mono HB3.out.size))
      clear hB4
      go_wp2_with fail
      refine (Escape_any c s _ (by omega) (HEw.out.below HB4.out)).mono ?_
      rintro e w5 ⟨rfl, hB5⟩
      rw [HT.out]
      have HB5 := Lib.hid (HB4.out.trans (hB5.mono HB4.out.size))
      clear hB5
      go_wp2_with fail
      refine (rEscape_any c s _ (by omega)).mono ?_
      rintro e w6 ⟨rfl, hB6⟩
      rw [HT.out]
      have HB6 := Lib.hid (hB.trans ((HB5.out.trans (hB6.mono HB5.out.size)).mono hsz))
      clear hB6
      go_wp2_with fail
      refine (awake_any _ (HE.out.below HB6.out)).mono ?_
      rintro e w7 ⟨rfl, hK⟩
      go_wp2_with fail
      go_ret
      exact ⟨rfl, ((Kp.refl [] w).below HB6.out).trans hK⟩
end Ad
end Go.Proofs.YtjkkcoiebnmkcaaGreatDoor
