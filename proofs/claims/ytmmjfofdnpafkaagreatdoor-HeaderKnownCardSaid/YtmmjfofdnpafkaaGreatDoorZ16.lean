/- Texts of one set of library modules: HeKa. -/
import Derived.Test.YtmmjfofdnpafkaaGreatDoorZ9
import Derived.Test.YtmmjfofdnpafkaaGreatDoorZ13
import Derived.Test.YtmmjfofdnpafkaaGreatDoorZ7
import Derived.Test.YtmmjfofdnpafkaaGreatDoorZ1
import Derived.Test.YtmmjfofdnpafkaaGreatDoorZ15
import Derived.Test.YtmmjfofdnpafkaaGreatDoorZ6
namespace Go.Proofs.YtmmjfofdnpafkaaGreatDoor
namespace Ad
open Go.RowKit Lx
def tidI (l : List UInt8) : List UInt8 × Int :=
 if (itmR l).2 ≠ 0 then ([], (itmR l).2) else ((pitO (itmR l).1.1 (itmR l).1.2).getD [], if (pitO (itmR l).1.1 (itmR l).1.2).isSome then 0 else 2)
theorem itm_md (l : List UInt8) (hl : l.length ≤ 2097152) : (itmR l).1.1.length ≤ 2097152 ∧ (itmR l).1.2.length ≤ 16 ∧ SzL (l.length + 86) (itmR l).1.2 := by
 have hd : ∀ x : List UInt8, (parR x).1.length ≤ 16 ∧ SzL (x.length + 86) (parR x).1 := fun x => ⟨parF_len _ _ _ _ (Nat.zero_le _), parF_sz _ _ _ _ (fun p hp => by cases hp)⟩
 have ht := trS_len l
 unfold itmR itT
 split
 ·unfold itP
  split
  ·exact ⟨Nat.zero_le _, Nat.zero_le _, fun p hp => by cases hp⟩
  ·obtain ⟨h1, h2⟩ := hd ((trS l).drop (itE (trS l)))
   refine ⟨?_, h1, fun p hp => ?_⟩
   ·dsimp only; rw [List.length_take]; omega
   ·have h3 := h2 p hp
    rw [List.length_drop] at h3
    exact ⟨by have := h3.1; omega, by have := h3.2; omega⟩
 ·exact ⟨Nat.zero_le _, Nat.zero_le _, fun p hp => by cases hp⟩
set_option maxRecDepth 100000 in
set_option maxHeartbeats 4000000 in
theorem rewrI_any (s : ByteArray) (w : World) (hs : s.size ≤ 2097000) (E : Env w) :
   Calls Tryz.prog 179 #[.string s, .func (.func 43) #[] #[], .func (.func 45) #[] #[]] w (TxE (tidI s.data.toList) w) := by
 obtain ⟨v, l, x, hr⟩ : ∃ a' b' c', itmR s.data.toList = ((a', b'), c') := ⟨_, _, _, rfl⟩
 have hmd := itm_md s.data.toList (by rw [len_list]; omega)
 have hsl := len_list s
 have HA := Lib.hid (item_any2 s w (by omega) E)
 rw [hr] at hmd HA
 have HV := Lib.hid (by unfold tidI; rw [hr] : tidI s.data.toList = if x ≠ 0 then ([], x) else ((pitO v l).getD [], if (pitO v l).isSome then 0 else 2))
 dsimp only at hmd
 obtain ⟨hm1, hm2, hm3⟩ := hmd
 have HZ := Lib.hid (show SzP l from fun p hp => by have := hm3 p hp; exact ⟨by have := this.1; omega, by have := this.2; omega⟩)
 have HE := Lib.hid E
 clear hr E hm3 hsl
 by_cases hx : x = 0
 ·have bx : (x != 0) = false := by rw [hx]; rfl
  have HF := Lib.hid (HV.out.trans (if_neg (fun h => h hx)))
  clear hx
  go_enter Tryz.func179, Tryz.ntmps179
  go_wp2_with fail
  refine HA.out.mono ?_
  rintro e w2 ⟨v2, rfl, hP, hK2⟩
  have K2 := Lib.hid hK2
  obtain ⟨A, c, rfl⟩ := hP.form
  have Hv := Lib.hid hP
  clear hP hK2
  dsimp only at Hv ⊢
  obtain ⟨n, hn⟩ : ∃ n, l.length = n := ⟨_, rfl⟩
  obtain ⟨T, hT⟩ : ∃ T, Txt v = T := ⟨_, rfl⟩
  obtain ⟨g, hg⟩ : ∃ x, w2.heap.size = x := ⟨_, rfl⟩
  obtain ⟨w3, hw3⟩ : ∃ x, w2.alloc (.cells #[.string T, .slice A n c] 59) = x := ⟨_, rfl⟩
  have hKa : Kp [] w2 w3 := by rw [← hw3]; exact (Kp.refl _ _).alloc _
  have K3 := Lib.hid (K2.out.trans hKa)
  have B3 := Lib.hid (show Blk w3 g 59 #[.string T, .slice A n c] from by rw [← hw3, ← hg]; exact Blk.new w2 _ _)
  have V3 := Lib.hid (Hv.out.grow hKa (by intro y hy; cases hy))
  have HP := Lib.hid (by
   have h := printItem_any w3.heap.size v A c l w3 V3.out (Nat.le_refl _) hm1 HZ.out (by omega) (HE.out.kp K3.out (by simp))
   rw [hn, hT] at h
   exact h)
  rw [hn, hT]
  have HF2 := HF.out
  unfold PrK at HP
  obtain ⟨pt, hpt⟩ : ∃ z, (pitO v l).getD [] = z := ⟨_, rfl⟩
  obtain ⟨pe, hpe⟩ : ∃ z : Int, (if (pitO v l).isSome then 0 else 2) = z := ⟨_, rfl⟩
  rw [hpt, hpe] at HP HF2
  have HF3 := Lib.hid HF2
  clear HF2 hpt hpe HF hKa Hv V3 hn hT
  go_upto_region 4 with fail
  try rw [hw3]
  have u0 := B3.out.cell 0
  have u1 := B3.out.cell 1
  clear hw3
  go_wp2_with fail
  refine HP.out.mono ?_
  rintro e w4 ⟨rfl, hK4⟩
  have K4 := Lib.hid (K3.out.trans hK4)
  clear hK4
  go_wp2_with fail
  go_ret2
  unfold TxE
  rw [HF3.out]
  exact ⟨rfl, K4.out⟩
 ·have bx : (x != 0) = true := by rw [bne_iff_ne]; exact hx
  have HF := Lib.hid (HV.out.trans (if_pos hx))
  clear hx
  go_enter Tryz.func179, Tryz.ntmps179
  go_wp2_with fail
  refine HA.out.mono ?_
  rintro e w2 ⟨v2, rfl, hP, hK2⟩
  have K2 := Lib.hid hK2
  obtain ⟨A, c, rfl⟩ := hP.form
  clear hP hK2
  dsimp only
  obtain ⟨n, hn⟩ : ∃ n, l.length = n := ⟨_, rfl⟩
  obtain ⟨T, hT⟩ : ∃ T, Txt v = T := ⟨_, rfl⟩
  rw [hn, hT]
  obtain ⟨w3, hw3⟩ : ∃ x, w2.alloc (.cells #[.string T, .slice A n c] 59) = x := ⟨_, rfl⟩
  have hKa : Kp [] w2 w3 := by rw [← hw3]; exact (Kp.refl _ _).alloc _
  have K3 := Lib.hid (K2.out.trans hKa)
  clear hKa hn hT
  go_upto_region 3 with fail
  try rw [hw3]
  go_wp2_with fail
  go_ret2
  unfold TxE
  rw [HF.out]
  exact ⟨rfl, K3.out⟩
set_option maxRecDepth 100000 in
set_option maxHeartbeats 4000000 in
theorem tidyOne_token (s : ByteArray) (w : World) (hs : s.size ≤ 2097000) (E : Env w) :
   Calls Tryz.prog 106 #[.int .u8 7, .string s] w (TxE (tidI s.data.toList) w) := by
 have HR := Lib.hid (rewrI_any s w hs E)
 obtain ⟨t, x, hr⟩ : ∃ a b, tidI s.data.toList = (a, b) := ⟨_, _, rfl⟩
 rw [hr] at HR ⊢
 clear hr E
 go_enter Tryz.func106, Tryz.ntmps106
 go_wp2_with fail
 refine HR.out.mono ?_
 rintro e w2 ⟨rfl, hK2⟩
 have K2 := Lib.hid hK2
 clear hK2
 go_wp2_with fail
 go_ret2
 exact ⟨rfl, K2.out⟩
set_option maxRecDepth 100000 in
set_option maxHeartbeats 4000000 in
theorem tidyOne_number (s : ByteArray) (w : World) (hs : s.size ≤ 1048576) (E : Env w) (hhi : numN (trS s.data.toList) ≤ 9223372036854775807) :
   Calls Tryz.prog 106 #[.int .u8 5, .string s] w (TxE (tidN s.data.toList) w) := by
 have HR := Lib.hid (tidyNumber_any s w hs E hhi)
 obtain ⟨t, x, hr⟩ : ∃ a b, tidN s.data.toList = (a, b) := ⟨_, _, rfl⟩
 rw [hr] at HR ⊢
 clear hr E hhi
 go_enter Tryz.func106, Tryz.ntmps106
 go_wp2_with fail
 refine HR.out.mono ?_
 rintro e w2 ⟨rfl, hK2⟩
 have K2 := Lib.hid hK2
 clear hK2
 go_wp2_with fail
 go_ret2
 exact ⟨rfl, K2.out⟩
set_option maxRecDepth 100000 in
set_option maxHeartbeats 4000000 in
theorem tidyOne_text (s : ByteArray) (w : World) (hs : s.size ≤ 1048576) :
   Calls Tryz.prog 106 #[.int .u8 0, .string s] w (TxE (tidX s.data.toList) w) := by
 have HR := Lib.hid (tidyText_any s w hs)
 obtain ⟨t, x, hr⟩ : ∃ a b, tidX s.data.toList = (a, b) := ⟨_, _, rfl⟩
 rw [hr] at HR ⊢
 clear hr
 go_enter Tryz.func106, Tryz.ntmps106
 go_wp2_with fail
 refine HR.out.mono ?_
 rintro e w2 ⟨rfl, hK2⟩
 have K2 := Lib.hid hK2
 clear hK2
 go_wp2_with fail
 go_ret2
 exact ⟨rfl, K2.out⟩
end Ad
end Go.Proofs.YtmmjfofdnpafkaaGreatDoor
