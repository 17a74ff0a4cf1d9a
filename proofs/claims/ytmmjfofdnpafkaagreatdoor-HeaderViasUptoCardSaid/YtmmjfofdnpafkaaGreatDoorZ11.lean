/- Texts of one set of library modules: AdRe, AdRf, AdRg, AdRh, AdRi, AdRj, AdRk, AdRl, AdRm, AdRn, AdRo, AdWb, AdRp, AdSt, AdTu, AdSo, AdPw, AdPx, AdVa, AdVb, AdVq, AdVt, AdWd, AdWf, AdVh, AdLi. -/
import Derived.Test.YtmmjfofdnpafkaaGreatDoorZ10
import Derived.Test.YtmmjfofdnpafkaaGreatDoorZ2
import Derived.StillTailTactics
import Derived.Sort.CutIn
import Derived.Deep.RegionHeldLaw
import Derived.Deep.AppendLies
import Derived.Test.YtmmjfofdnpafkaaGreatDoorZ1
import Derived.Laws.IdiomStrings
import Derived.Deep.LoopGhost
import Derived.Test.YtmmjfofdnpafkaaGreatDoorZ4
import Derived.Laws.ResultCell
import Derived.Test.YtmmjfofdnpafkaaGreatDoorZ9
namespace Go.Proofs.YtmmjfofdnpafkaaGreatDoor
namespace Ad
open Go.RowKit Lx
theorem ret_i' {k : IntKind} {a b : Int} (h : a = b) : Ending.returned (.int k a) = .returned (.int k b) := by rw [h]
set_option maxRecDepth 100000 in
set_option maxHeartbeats 1000000 in
theorem rhex_any (c : Int) (w : World) (h0 : 0 ≤ c) (h1 : c < 256) : Calls Tryz.prog 340 #[.int .u8 c] w (Ret (.int .i64 (hexV c)) w) := by
 cases hd : digitI c
 ·have Hd := Lib.hid hd
  by_cases hu : 65 ≤ c ∧ c ≤ 70
  ·have HV := Lib.hid (by unfold hexV; rw [hd, if_neg (by simp), if_pos hu] : hexV c = c - 55)
   obtain ⟨n, rfl⟩ : ∃ n : Nat, c = n := ⟨c.toNat, by omega⟩
   have u1 : 65 ≤ n := by omega
   have u2 : n ≤ 70 := by omega
   clear hd hu
   go_enter Tryz.func340, Tryz.ntmps340
   go_wp2_with fail
   refine (rdigit_any _ _).mono ?_
   rintro e w' ⟨rfl, rfl⟩
   rw [Hd.out]
   go_wp2_with fail
   go_ret
   exact ⟨ret_i' (by rw [HV.out]; omega), rfl⟩
  ·by_cases hv : 97 ≤ c ∧ c ≤ 102
   ·have HV := Lib.hid (by unfold hexV; rw [hd, if_neg (by simp), if_neg hu, if_pos hv] : hexV c = c - 87)
    obtain ⟨n, rfl⟩ : ∃ n : Nat, c = n := ⟨c.toNat, by omega⟩
    have u1 : 97 ≤ n := by omega
    have u2 : n ≤ 102 := by omega
    clear hd hu hv
    go_enter Tryz.func340, Tryz.ntmps340
    go_wp2_with fail
    refine (rdigit_any _ _).mono ?_
    rintro e w' ⟨rfl, rfl⟩
    rw [Hd.out]
    go_wp2_with fail
    go_ret
    exact ⟨ret_i' (by rw [HV.out]; omega), rfl⟩
   ·have HV := Lib.hid (by unfold hexV; rw [hd, if_neg (by simp), if_neg hu, if_neg hv] : hexV c = -1)
    rcases (by omega : c < 65 ∨ (70 < c ∧ c < 97) ∨ 102 < c) with q | ⟨q, q'⟩ | q
    all_goals
     clear hd hu hv
     go_enter Tryz.func340, Tryz.ntmps340
     go_wp2_with fail
     refine (rdigit_any _ _).mono ?_
     rintro e w' ⟨rfl, rfl⟩
     rw [Hd.out]
     go_wp2_with fail
     go_ret
     exact ⟨ret_i' (by rw [HV.out]), rfl⟩
 ·have Hd := Lib.hid hd
  have HV := Lib.hid (by unfold hexV; rw [hd, if_pos rfl] : hexV c = c - 48)
  have hr : 48 ≤ c ∧ c ≤ 57 := by simpa [digitI] using hd
  obtain ⟨n, rfl⟩ : ∃ n : Nat, c = n := ⟨c.toNat, by omega⟩
  have u1 : 48 ≤ n := by omega
  have u2 : n ≤ 57 := by omega
  clear hd hr
  go_enter Tryz.func340, Tryz.ntmps340
  go_wp2_with fail
  refine (rdigit_any _ _).mono ?_
  rintro e w' ⟨rfl, rfl⟩
  rw [Hd.out]
  go_wp2_with fail
  go_ret
  exact ⟨ret_i' (by rw [HV.out]), rfl⟩
end Ad
end Go.Proofs.YtmmjfofdnpafkaaGreatDoor
namespace Go.Proofs.YtmmjfofdnpafkaaGreatDoor
namespace Ad
open Go.RowKit Lx
set_option maxRecDepth 100000 in
set_option maxHeartbeats 1000000 in
theorem rnum_any (s : ByteArray) (w : World) (hs : s.size ≤ 2097152) :
   Calls Tryz.prog 154 #[.string s] w (Ret (.bool (numB s.data.toList)) w) := by
 by_cases h1 : 1 ≤ s.size
 ·by_cases h3 : s.size ≤ 3
  ·by_cases hz : s.size ≤ 1 ∨ s[0] ≠ 48
   ·have hnum := Lib.hid (by unfold numB; rw [head_at s h1, len_list]; rcases hz with hz | hz <;> simp [h1, h3, hz] : numB s.data.toList = (allD s.data.toList && decide (valL s.data.toList ≤ 255)))
    have hzt : (decide (1 < s.size) && ((s[0].toNat : Int) == 48)) = false := by
     rcases hz with hz | hz
     ·rw [show decide (1 < s.size) = false from decide_eq_false (by omega)]; rfl
     ·have := (u8_ne s[0] 48 (by omega)).1 hz
      rw [bne_iff_ne] at this
      rw [show ((s[0].toNat : Int) == 48) = false from beq_eq_false_iff_ne.2 this]; simp
    have Hzt := Lib.hid hzt;have HL := Lib.hid (len_list s);clear hzt
    have hz2 : 1 < s.size → ((s[0].toNat : Int) == 48) = false := fun h => by
     rcases hz with hz | hz
     ·omega
     ·have := (u8_ne s[0] 48 (by omega)).1 hz; rw [bne_iff_ne] at this; exact beq_eq_false_iff_ne.2 this
    have Hz2 := Lib.hid hz2;clear hz hz2
    by_cases h1s : 1 < s.size
    all_goals
     try have hz3 := Hz2.out h1s
     go_enter Tryz.func154, Tryz.ntmps154
     go_wp2_with fail
     go_loop [3, 4] (fun n i => ∃ k : Nat, k ≤ s.size ∧ i = .int .i64 k ∧ n = .int .i64 (valL (s.data.toList.take k)) ∧ allD (s.data.toList.take k) = true) (fun _ i => s.size - (intOf i).toNat)
     case atStart => exact ⟨0, by omega, rfl, rfl, rfl⟩
     case round =>
      obtain ⟨k, hk, rfl, rfl, ha⟩ := hrel
      have hv := valL_small (s.data.toList.take k) ha (by simp; omega)
      have Ha := Lib.hid ha;clear ha
      by_cases hlt : k < s.size
      ·have hsn := Lib.hid (by rw [take_snoc s k hlt, valL_snoc] : valL (s.data.toList.take (k + 1)) = valL (s.data.toList.take k) * 10 + ((s[k].toNat : Int) - 48))
       have hsd := Lib.hid (by rw [take_snoc s k hlt, allD_snoc] : allD (s.data.toList.take (k + 1)) = (allD (s.data.toList.take k) && digitI s[k].toNat))
       cases hd : digitI s[k].toNat
       ·have HF := Lib.hid (by rw [hnum.out, allD_true_at s k hlt hd]; rfl : numB s.data.toList = false)
        have Hd := Lib.hid hd;clear hd
        go_wp2_with fail
        refine (rdigit_any _ _).mono ?_
        rintro e w' ⟨rfl, rfl⟩
        rw [Hd.out]
        go_wp2_with fail
        go_ret
        exact ⟨ret_bool (by rw [HF.out]), rfl⟩
       ·have hd' : 48 ≤ (s[k].toNat : Int) ∧ (s[k].toNat : Int) ≤ 57 := by simpa [digitI] using hd
        obtain ⟨d1, d2⟩ := hd'
        have Hd := Lib.hid hd;clear hd
        go_wp2_with fail
        refine (rdigit_any _ _).mono ?_
        rintro e w' ⟨rfl, rfl⟩
        rw [Hd.out]
        go_wp2_with fail
        go_round
        case rel => exact ⟨k + 1, by omega, by go_num, by rw [hsn.out, Int.mul_comm], by rw [hsd.out, Ha.out, Hd.out]; rfl⟩
        case measure => simp [intOf]; omega
      ·have hF := Lib.hid (by have := Ha.out; rw [List.take_of_length_le (by rw [HL.out]; omega)] at this; rw [hnum.out, this, List.take_of_length_le (by rw [HL.out]; omega)]; rfl : numB s.data.toList = decide (valL (s.data.toList.take k) ≤ 255))
       go_wp2_with fail
       go_ret
       exact ⟨ret_bool (by rw [hF.out]), rfl⟩
   ·have hz' : ¬ s.size ≤ 1 ∧ s[0] = 48 := by
      constructor
      ·intro h; exact hz (.inl h)
      ·exact Decidable.byContradiction fun h => hz (.inr h)
    obtain ⟨hz1, hz2⟩ := hz'
    have t0 : ((s[0].toNat : Int) == 48) = true := by rw [hz2]; rfl
    have h1s : 1 < s.size := by omega
    have HF := Lib.hid (by unfold numB; rw [head_at s h1, len_list]; simp [hz1, hz2] : numB s.data.toList = false)
    clear hz hz2
    go_enter Tryz.func154, Tryz.ntmps154
    go_wp2_with fail
    go_ret
    exact ⟨ret_bool (by rw [HF.out]), rfl⟩
  ·have HF := Lib.hid (by unfold numB; rw [len_list]; simp [h3] : numB s.data.toList = false)
   go_enter Tryz.func154, Tryz.ntmps154
   go_wp2_with fail
   go_ret
   exact ⟨ret_bool (by rw [HF.out]), rfl⟩
 ·have HF := Lib.hid (by unfold numB; rw [len_list]; simp [h1] : numB s.data.toList = false)
  go_enter Tryz.func154, Tryz.ntmps154
  go_wp2_with fail
  go_ret
  exact ⟨ret_bool (by rw [HF.out]), rfl⟩
theorem all_take (p : UInt8 → Bool) (s : ByteArray) (k : Nat) (hk : k < s.size) (h : (s.data.toList.take k).all p = true) (hp : p s[k] = true) : (s.data.toList.take (k + 1)).all p = true := by
 rw [take_snoc s k hk, List.all_append, h]; simp [hp]
theorem all_not (p : UInt8 → Bool) (s : ByteArray) (k : Nat) (hk : k < s.size) (hp : p s[k] = false) : s.data.toList.all p = false := by
 rw [Bool.eq_false_iff]; intro ha
 have := List.all_eq_true.1 ha s[k] (Array.getElem_mem_toList (xs := s.data) hk)
 rw [hp] at this; cases this
def wdB (l : List UInt8) : Bool := l.any fun c => !digitI c.toNat
theorem wdB_snoc (s : ByteArray) (k : Nat) (hk : k < s.size) : wdB (s.data.toList.take (k + 1)) = (wdB (s.data.toList.take k) || !digitI s[k].toNat) := by
 unfold wdB; rw [take_snoc s k hk]; simp
set_option maxRecDepth 100000 in
set_option maxHeartbeats 2000000 in
theorem rlabel_any (s : ByteArray) (w : World) (hs : s.size ≤ 2097152) :
   Calls Tryz.prog 153 #[.string s] w (Ret (.tuple #[.bool (lblB s.data.toList), .bool (lblB s.data.toList && wdB s.data.toList)]) w) := by
 by_cases h1 : 1 ≤ s.size
 ·by_cases h63 : s.size ≤ 63
  ·have hL := Lib.hid (by unfold lblB; rw [head_at s h1, last_at s h1, len_list]; simp only [h1, h63, decide_true, Bool.true_and] : lblB s.data.toList = (decide (s[0] ≠ 45) && decide (s[s.size - 1] ≠ 45) && s.data.toList.all fun c => lblC c.toNat))
   by_cases ha : s[0] = 45
   ·have ta : ((s[0].toNat : Int) == 45) = true := by rw [ha]; rfl
    have HL := Lib.hid (by rw [hL.out]; simp [ha] : lblB s.data.toList = false)
    clear ha hL
    go_enter Tryz.func153, Tryz.ntmps153
    go_wp2_with fail
    go_ret2
    exact ⟨ret_bb HL.out.symm (by rw [HL.out]; rfl), rfl⟩
   ·have ta : ((s[0].toNat : Int) == 45) = false := by have := (u8_ne _ 45 (by omega)).1 ha; rw [bne_iff_ne] at this; exact beq_eq_false_iff_ne.2 this
    by_cases hb : s[s.size - 1] = 45
    ·have tb : ((s[s.size - 1].toNat : Int) == 45) = true := by rw [hb]; rfl
     have HL := Lib.hid (by rw [hL.out]; simp [hb] : lblB s.data.toList = false)
     clear ha hb hL
     go_enter Tryz.func153, Tryz.ntmps153
     go_wp2_with fail
     go_ret2
     exact ⟨ret_bb HL.out.symm (by rw [HL.out]; rfl), rfl⟩
    ·have tb : ((s[s.size - 1].toNat : Int) == 45) = false := by have := (u8_ne _ 45 (by omega)).1 hb; rw [bne_iff_ne] at this; exact beq_eq_false_iff_ne.2 this
     have HA := Lib.hid (by rw [hL.out]; simp [ha, hb] : lblB s.data.toList = s.data.toList.all fun c => lblC c.toNat)
     clear ha hb hL
     go_enter Tryz.func153, Tryz.ntmps153
     go_wp2_with fail
     go_loop [4, 5] (fun v i => ∃ k : Nat, k ≤ s.size ∧ i = .int .i64 k ∧ v = .bool (wdB (s.data.toList.take k)) ∧ ((s.data.toList.take k).all fun c => lblC c.toNat) = true) (fun _ i => s.size - (intOf i).toNat)
     case atStart => exact ⟨0, by omega, rfl, rfl, rfl⟩
     case round =>
      obtain ⟨k, hk, rfl, rfl, hal⟩ := hrel
      have Hal := Lib.hid hal;clear hal
      by_cases hlt : k < s.size
      ·have HW := Lib.hid (wdB_snoc s k hlt)
       obtain ⟨bw, hbw⟩ : ∃ bw, wdB (s.data.toList.take k) = bw := ⟨_, rfl⟩
       rw [hbw]
       have Hbw := Lib.hid hbw;clear hbw
       cases hl : letterI s[k].toNat
       ·cases hd : digitI s[k].toNat
        ·by_cases h45 : s[k].toNat = 45
         ·have t45 : ((s[k].toNat : Int) != 45) = false := by rw [h45]; rfl
          have HC := Lib.hid (by unfold lblC; rw [h45]; simp : lblC s[k].toNat = true)
          have Hl := Lib.hid hl;have Hd := Lib.hid hd;clear hl hd h45
          cases bw
          ·skip
           go_wp2_with fail
           refine (rletter_any _ _).mono ?_
           rintro e w' ⟨rfl, rfl⟩
           rw [Hl.out]
           go_wp2_with fail
           refine (rdigit_any _ _).mono ?_
           rintro e w' ⟨rfl, rfl⟩
           rw [Hd.out]
           go_wp2_with fail
           refine (rdigit_any _ _).mono ?_
           rintro e w' ⟨rfl, rfl⟩
           rw [Hd.out]
           go_wp2_with fail
           go_round
           case rel => exact ⟨k + 1, by omega, by go_num, by rw [HW.out, Hbw.out, Hd.out]; rfl, all_take _ s k hlt Hal.out HC.out⟩
           case measure => simp [intOf]; omega
          ·skip
           go_wp2_with fail
           refine (rletter_any _ _).mono ?_
           rintro e w' ⟨rfl, rfl⟩
           rw [Hl.out]
           go_wp2_with fail
           refine (rdigit_any _ _).mono ?_
           rintro e w' ⟨rfl, rfl⟩
           rw [Hd.out]
           go_wp2_with fail
           go_round
           case rel => exact ⟨k + 1, by omega, by go_num, by rw [HW.out, Hbw.out, Hd.out]; rfl, all_take _ s k hlt Hal.out HC.out⟩
           case measure => simp [intOf]; omega
         ·have t45 : ((s[k].toNat : Int) != 45) = true := by rw [bne_iff_ne]; omega
          have HC := Lib.hid (by unfold lblC; rw [hl, hd]; simp; omega : lblC s[k].toNat = false)
          have HF := Lib.hid (by rw [HA.out]; exact all_not _ s k hlt HC.out : lblB s.data.toList = false)
          have Hl := Lib.hid hl;have Hd := Lib.hid hd;clear hl hd h45
          go_wp2_with fail
          refine (rletter_any _ _).mono ?_
          rintro e w' ⟨rfl, rfl⟩
          rw [Hl.out]
          go_wp2_with fail
          refine (rdigit_any _ _).mono ?_
          rintro e w' ⟨rfl, rfl⟩
          rw [Hd.out]
          go_wp2_with fail
          go_ret2
          exact ⟨ret_bb HF.out.symm (by rw [HF.out]; rfl), rfl⟩
        ·have HC := Lib.hid (by unfold lblC; rw [hd]; simp : lblC s[k].toNat = true)
         have Hl := Lib.hid hl;have Hd := Lib.hid hd;clear hl hd
         cases bw
         ·skip
          go_wp2_with fail
          refine (rletter_any _ _).mono ?_
          rintro e w' ⟨rfl, rfl⟩
          rw [Hl.out]
          go_wp2_with fail
          refine (rdigit_any _ _).mono ?_
          rintro e w' ⟨rfl, rfl⟩
          rw [Hd.out]
          go_wp2_with fail
          refine (rdigit_any _ _).mono ?_
          rintro e w' ⟨rfl, rfl⟩
          rw [Hd.out]
          go_wp2_with fail
          go_round
          case rel => exact ⟨k + 1, by omega, by go_num, by rw [HW.out, Hbw.out, Hd.out]; rfl, all_take _ s k hlt Hal.out HC.out⟩
          case measure => simp [intOf]; omega
         ·skip
          go_wp2_with fail
          refine (rletter_any _ _).mono ?_
          rintro e w' ⟨rfl, rfl⟩
          rw [Hl.out]
          go_wp2_with fail
          refine (rdigit_any _ _).mono ?_
          rintro e w' ⟨rfl, rfl⟩
          rw [Hd.out]
          go_wp2_with fail
          go_round
          case rel => exact ⟨k + 1, by omega, by go_num, by rw [HW.out, Hbw.out, Hd.out]; rfl, all_take _ s k hlt Hal.out HC.out⟩
          case measure => simp [intOf]; omega
       ·have hd : digitI s[k].toNat = false := by
          have h1 : ((65 : Int) ≤ s[k].toNat ∧ (s[k].toNat : Int) ≤ 90) ∨ ((97 : Int) ≤ s[k].toNat ∧ (s[k].toNat : Int) ≤ 122) := by simpa [letterI] using hl
          simp [digitI]; omega
        have HC := Lib.hid (by unfold lblC; rw [hl]; simp : lblC s[k].toNat = true)
        have Hl := Lib.hid hl;have Hd := Lib.hid hd;clear hl hd
        cases bw
        ·skip
         go_wp2_with fail
         refine (rletter_any _ _).mono ?_
         rintro e w' ⟨rfl, rfl⟩
         rw [Hl.out]
         go_wp2_with fail
         refine (rdigit_any _ _).mono ?_
         rintro e w' ⟨rfl, rfl⟩
         rw [Hd.out]
         go_wp2_with fail
         go_round
         case rel => exact ⟨k + 1, by omega, by go_num, by rw [HW.out, Hbw.out, Hd.out]; rfl, all_take _ s k hlt Hal.out HC.out⟩
         case measure => simp [intOf]; omega
        ·skip
         go_wp2_with fail
         refine (rletter_any _ _).mono ?_
         rintro e w' ⟨rfl, rfl⟩
         rw [Hl.out]
         go_wp2_with fail
         go_round
         case rel => exact ⟨k + 1, by omega, by go_num, by rw [HW.out, Hbw.out, Hd.out]; rfl, all_take _ s k hlt Hal.out HC.out⟩
         case measure => simp [intOf]; omega
      ·have htk : s.data.toList.take k = s.data.toList := List.take_of_length_le (by rw [len_list]; omega)
       have HF := Lib.hid (by have := Hal.out; rw [htk] at this; rw [HA.out, this] : lblB s.data.toList = true)
       have HG := Lib.hid (by rw [htk] : wdB (s.data.toList.take k) = wdB s.data.toList)
       clear htk
       go_wp2_with fail
       go_ret2
       exact ⟨ret_bb HF.out.symm (by rw [HF.out, HG.out]; rfl), rfl⟩
  ·have HL := Lib.hid (by unfold lblB; rw [len_list]; simp [h63] : lblB s.data.toList = false)
   go_enter Tryz.func153, Tryz.ntmps153
   go_wp2_with fail
   go_ret2
   exact ⟨ret_bb HL.out.symm (by rw [HL.out]; rfl), rfl⟩
 ·have HL := Lib.hid (by unfold lblB; rw [len_list]; simp [h1] : lblB s.data.toList = false)
  go_enter Tryz.func153, Tryz.ntmps153
  go_wp2_with fail
  go_ret2
  exact ⟨ret_bb HL.out.symm (by rw [HL.out]; rfl), rfl⟩
end Ad
end Go.Proofs.YtmmjfofdnpafkaaGreatDoor
namespace Go.Proofs.YtmmjfofdnpafkaaGreatDoor
namespace Ad
open Go.RowKit Lx
def lwAt (s : ByteArray) (j i : Nat) (h : i < s.size) : Int := if i < j then (lowB s[i]).toNat else s[i].toNat
theorem lwAt_zero (s : ByteArray) (i : Nat) (h : i < s.size) : lwAt s 0 i h = s[i].toNat := by unfold lwAt; rw [if_neg (by omega)]
theorem lwAt_at (s : ByteArray) (i : Nat) (h : i < s.size) : lwAt s i i h = s[i].toNat := by unfold lwAt; rw [if_neg (by omega)]
theorem lwAt_next (s : ByteArray) (j i : Nat) (h : i < s.size) (hn : i ≠ j) : lwAt s (j + 1) i h = lwAt s j i h := by
 unfold lwAt
 by_cases hl : i < j
 ·rw [if_pos hl, if_pos (by omega)]
 ·rw [if_neg hl, if_neg (by omega)]
theorem lwAt_new (s : ByteArray) (j : Nat) (h : j < s.size) : lwAt s (j + 1) j h = (lowB s[j]).toNat := by unfold lwAt; rw [if_pos (by omega)]
theorem lwAt_end (s : ByteArray) (j i : Nat) (h : i < s.size) (hj : s.size ≤ j) : lwAt s j i h = (lowB s[i]).toNat := by unfold lwAt; rw [if_pos (by omega)]
structure LwR (s : ByteArray) (B j : Nat) (w : World) : Prop where
 cell : ∀ i (h : i < s.size), w.cell? ⟨B, i, none⟩ = some (.int .u8 (lwAt s j i h))
 soft : ∀ i, i < s.size → w.frozen? ⟨B, i, none⟩ = false
theorem LwR.skip {s : ByteArray} {B j : Nat} {w : World} (h : LwR s B j w) (hj : j < s.size) (he : (lowB s[j]).toNat = s[j].toNat) : LwR s B (j + 1) w := by
 refine ⟨fun i hi => ?_, h.soft⟩
 by_cases hij : i = j
 ·subst hij
  rw [lwAt_new, he, ← lwAt_at s i hi]; exact h.cell i hi
 ·rw [lwAt_next s j i hi hij]; exact h.cell i hi
theorem LwR.put {s : ByteArray} {B j : Nat} {w : World} (h : LwR s B j w) (hj : j < s.size) (x : Int) (he : ((lowB s[j]).toNat : Int) = x) : LwR s B (j + 1) (w.setCell ⟨B, j, none⟩ (.int .u8 x)) := by
 refine ⟨fun i hi => ?_, fun i hi => by rw [World.frozen?_setCell]; exact h.soft i hi⟩
 by_cases hij : i = j
 ·subst hij
  rw [lwAt_new, he]; exact World.cell?_setCell_same _ _ _ (h.cell i hi)
 ·rw [lwAt_next s j i hi hij]; exact (World.cell?_setCell_other _ _ _ _ (by intro e; injection e with _ e2; exact hij e2.symm)).trans (h.cell i hi)
theorem LwR.start (s : ByteArray) (cap : Nat) (w : World) : LwR s w.heap.size 0 (w.alloc (.cells (bytesRow s cap) 5 ((bytesRow s cap).size, (bytesRow s cap).size + 1))) := by
 have hsz : ∀ i, i < s.size → i < (bytesRow s cap).size := fun i hi => by unfold bytesRow; simp; omega
 refine ⟨fun i hi => ?_, fun i hi => ?_⟩
 ·rw [World.cell?_alloc_mark, bytesRow_at s cap i hi, lwAt_zero]; rfl
 ·rw [World.frozen?_alloc_mark, decide_eq_false (by have := hsz i hi; omega)]; rfl
theorem LwR.back {s : ByteArray} {B j cap : Nat} {w : World} (h : LwR s B j w) (hj : s.size ≤ j) : (convert 118 9 (.slice (some ⟨B, 0, none⟩) s.size cap)).run Tryz.prog w = .ok (.string ⟨(lowL s.data.toList).toArray⟩) w := by
 have hl : s.size = (lowL s.data.toList).length := by rw [lowL_len, len_list]
 have := run_convert_bytes_back (P := Tryz.prog) w 118 9 5 ⟨B, 0, none⟩ cap (lowL s.data.toList) Tryz.underlying118 Tryz.underlying5 Tryz.underlying9 (fun i hi => by
  have hi2 : i < s.size := by omega
  have hadd : (⟨B, 0, none⟩ : Addr).add i = ⟨B, i, none⟩ := by unfold Addr.add; split <;> simp_all
  rw [hadd, h.cell i hi2, lwAt_end s j i hi2 hj]
  simp [lowL]
  rfl)
 rw [← hl] at this
 exact this
set_option maxRecDepth 100000 in
set_option maxHeartbeats 2000000 in
theorem rLower_any (s : ByteArray) (w : World) (hs : s.size ≤ 1099511627776) :
   Calls Tryz.prog 53 #[.string s] w (RetNew (lowL s.data.toList) w) := by
 have hconv := run_bytes_of_string (P := Tryz.prog) w 9 118 5 s Tryz.underlying9 Tryz.underlying118 Tryz.underlying5
 obtain ⟨cap, hcap⟩ : ∃ cap, grownCap w s.size 0 5 = cap := ⟨_, rfl⟩
 have HS := Lib.hid (LwR.start s cap w)
 rw [hcap] at hconv
 obtain ⟨C, hC⟩ : ∃ C, bytesRow s cap = C := ⟨_, rfl⟩
 rw [hC] at hconv
 have HS := Lib.hid (by have := HS.out; rw [hC] at this; exact this : LwR s w.heap.size 0 (w.alloc (.cells C 5 (C.size, C.size + 1))))
 clear hcap hC
 go_enter Tryz.func53, Tryz.ntmps53
 go_wp2_with fail
 go_loopw [4] (fun i wr => ∃ j : Nat, j ≤ s.size ∧ i = .int .i64 j ∧ LwR s w.heap.size j wr ∧ Below w.heap.size w wr) (fun i _ => s.size - (intOf i).toNat)
 case atStart => exact ⟨0, by omega, rfl, ⟨HS.out.cell, HS.out.soft⟩, ((Below.refl _ w).alloc (Nat.le_refl _) _).drew⟩
 case round =>
  obtain ⟨j, hj, rfl, hL, hB⟩ := hrel
  have HL := Lib.hid hL;clear hL;have hsz := hB.size
  by_cases hlt : j < s.size
  ·have hcj := HL.out.cell j hlt
   rw [lwAt_at] at hcj
   have hfj := HL.out.soft j hlt
   have hn := lowB_nat s[j]
   by_cases hu : 65 ≤ s[j].toNat ∧ s[j].toNat ≤ 90
   ·rw [if_pos hu] at hn
    have Hn := Lib.hid (by omega : ((lowB s[j]).toNat : Int) = (s[j].toNat : Int) + 32)
    obtain ⟨u1, u2⟩ := hu
    clear hn
    go_wp2_with fail
    go_roundw
    case rel => exact ⟨j + 1, by omega, by go_num, HL.out.put hlt _ Hn.out, hB.setCell (by simp) _⟩
    case measure => simp [intOf]; omega
   ·rw [if_neg hu] at hn
    have Hn := Lib.hid hn
    by_cases u1 : 65 ≤ s[j].toNat
    ·have u2 : ¬ s[j].toNat ≤ 90 := fun h => hu ⟨u1, h⟩
     clear hu hn
     go_wp2_with fail
     go_roundw
     case rel => exact ⟨j + 1, by omega, by go_num, HL.out.skip hlt Hn.out, hB⟩
     case measure => simp [intOf]; omega
    ·clear hu hn
     go_wp2_with fail
     go_roundw
     case rel => exact ⟨j + 1, by omega, by go_num, HL.out.skip hlt Hn.out, hB⟩
     case measure => simp [intOf]; omega
  ·have hbk := HL.out.back (cap := cap) (by omega)
   go_wp2_with fail
   go_ret
   exact ⟨rfl, hB⟩
theorem two_at (t : ByteArray) (h : 1 < t.size) : t.data.toList = t[0] :: t[1] :: t.data.toList.drop 2 := by
 have h0 := drop_step t 0 (by omega)
 have h1 := drop_step t 1 h
 rw [List.drop_zero] at h0
 rw [h1] at h0
 exact h0
theorem strip_zero (t : ByteArray) (h : 1 < t.size) (h48 : t[0].toNat = 48) : stripZ t.data.toList.tail = stripZ t.data.toList := by
 have h' : t[0] = 48 := by rw [← UInt8.toNat_inj, h48]; rfl
 rw [two_at t h, List.tail_cons, stripZ, if_pos h']
theorem strip_stay (t : ByteArray) (h : 1 < t.size) (h48 : ¬ t[0].toNat = 48) : stripZ t.data.toList = t.data.toList := by
 have h' : ¬ t[0] = 48 := by rw [← UInt8.toNat_inj]; exact h48
 rw [two_at t h, stripZ, if_neg h']
theorem strip_one (t : ByteArray) (h : t.size = 1) : stripZ t.data.toList = t.data.toList := stripZ_self _ (.inr (by rw [len_list]; exact h))
def GpP (l : List UInt8) (w : World) (e : Ending) (w' : World) : Prop := e = .returned (.tuple #[.string ⟨(if grpB l then grpN l else []).toArray⟩, .bool (grpB l)]) ∧ Below w.heap.size w w'
theorem GpP.no {l : List UInt8} {w w' : World} (h : grpB l = false) (hB : Below w.heap.size w w') : GpP l w (.returned (.tuple #[.string ⟨#[]⟩, .bool false])) w' := by
 unfold GpP; rw [h]; exact ⟨rfl, hB⟩
set_option maxRecDepth 100000 in
set_option maxHeartbeats 2000000 in
theorem rgroup_any (s : ByteArray) (w : World) (hs : s.size ≤ 2097152) :
   Calls Tryz.prog 303 #[.string s] w (GpP s.data.toList w) := by
 by_cases h1 : 1 ≤ s.size
 ·by_cases h4 : s.size ≤ 4
  ·have HA := Lib.hid (by unfold grpB; rw [len_list]; simp only [h1, h4, decide_true, Bool.true_and] : grpB s.data.toList = s.data.toList.all fun c => hexC c.toNat)
   go_enter Tryz.func303, Tryz.ntmps303
   go_wp2_with fail
   go_loop [4] (fun i => ∃ k : Nat, k ≤ s.size ∧ i = .int .i64 k ∧ ((s.data.toList.take k).all fun c => hexC c.toNat) = true) (fun i => s.size - (intOf i).toNat)
   case atStart => exact ⟨0, by omega, rfl, rfl⟩
   case round =>
    obtain ⟨k, hk, rfl, hal⟩ := hrel
    have Hal := Lib.hid hal;clear hal
    by_cases hlt : k < s.size
    ·by_cases hx : 0 ≤ hexV s[k].toNat
     ·have HC := Lib.hid (by unfold hexC; exact decide_eq_true hx : hexC s[k].toNat = true)
      have g1 : decide (hexV s[k].toNat < 0) = false := by rw [decide_eq_false_iff_not]; omega
      go_wp2_with fail
      refine (rhex_any _ _ (byte_lo _) (byte_hi _)).mono ?_
      rintro e w' ⟨rfl, rfl⟩
      go_wp2_with fail
      go_round
      case rel => exact ⟨k + 1, by omega, by go_num, all_take _ s k hlt Hal.out HC.out⟩
      case measure => simp [intOf]; omega
     ·have HC := Lib.hid (by unfold hexC; exact decide_eq_false hx : hexC s[k].toNat = false)
      have HF := Lib.hid (by rw [HA.out]; exact all_not _ s k hlt HC.out : grpB s.data.toList = false)
      have g1 : decide (hexV s[k].toNat < 0) = true := by rw [decide_eq_true_iff]; omega
      go_wp2_with fail
      refine (rhex_any _ _ (byte_lo _) (byte_hi _)).mono ?_
      rintro e w' ⟨rfl, rfl⟩
      go_wp2_with fail
      go_ret2
      exact GpP.no HF.out (Below.refl _ _)
    ·have HG := Lib.hid (by have := Hal.out; rw [List.take_of_length_le (by rw [len_list]; omega)] at this; rw [HA.out, this] : grpB s.data.toList = true)
     clear Hal HA
     go_wp2_with fail
     go_loop [0] (fun v => ∃ t : ByteArray, v = .string t ∧ 1 ≤ t.size ∧ t.size ≤ s.size ∧ stripZ t.data.toList = stripZ s.data.toList) (fun v => match v with | .string t => t.size | _ => 0)
     case atStart => exact ⟨s, rfl, h1, Nat.le_refl _, rfl⟩
     case round =>
      obtain ⟨t, rfl, t1, t2, ht⟩ := hrel
      have Ht := Lib.hid ht;clear ht
      by_cases hg : 1 < t.size
      ·by_cases h48 : t[0].toNat = 48
       ·have t48 : ((t[0].toNat : Int) == 48) = true := by rw [h48]; rfl
        have HZ := Lib.hid (strip_zero t hg h48);clear h48
        go_wp2_with fail
        go_round
        case rel => exact ⟨t.extract 1 t.size, rfl, by simp; omega, by simp; omega, by rw [tail_data, HZ.out, Ht.out]⟩
        case measure => simp; omega
       ·have t48 : ((t[0].toNat : Int) == 48) = false := by rw [beq_eq_false_iff_ne]; omega
        have HZ := Lib.hid (strip_stay t hg h48);clear h48
        go_wp2_with fail
        refine (rLower_any t _ (by omega)).mono ?_
        rintro e w' ⟨rfl, hB⟩
        go_wp2_with fail
        go_ret2
        exact ⟨by rw [HG.out, if_pos rfl]; unfold grpN; rw [← Ht.out, HZ.out]; rfl, hB⟩
      ·have HZ := Lib.hid (strip_one t (by omega))
       go_wp2_with fail
       refine (rLower_any t _ (by omega)).mono ?_
       rintro e w' ⟨rfl, hB⟩
       go_wp2_with fail
       go_ret2
       exact ⟨by rw [HG.out, if_pos rfl]; unfold grpN; rw [← Ht.out, HZ.out]; rfl, hB⟩
  ·have HF := Lib.hid (by unfold grpB; rw [len_list]; simp [h4] : grpB s.data.toList = false)
   go_enter Tryz.func303, Tryz.ntmps303
   go_wp2_with fail
   go_ret2
   exact GpP.no HF.out (Below.refl _ _)
 ·have HF := Lib.hid (by unfold grpB; rw [len_list]; simp [h1] : grpB s.data.toList = false)
  go_enter Tryz.func303, Tryz.ntmps303
  go_wp2_with fail
  go_ret2
  exact GpP.no HF.out (Below.refl _ _)
end Ad
end Go.Proofs.YtmmjfofdnpafkaaGreatDoor
namespace Go.Proofs.YtmmjfofdnpafkaaGreatDoor
namespace Ad
open Go.RowKit Lx
theorem ext_txt (s : ByteArray) (a b : Nat) : s.extract a b = Txt (slc s.data.toList a b) := by
 rw [← slc_data]; rfl
theorem pcs_hit (c : UInt8) (t : List UInt8) : pcs c (c :: t) = [] :: pcs c t := by rw [pcs, if_pos rfl]
theorem pcs_miss (c d : UInt8) (t : List UInt8) (h : d ≠ c) : pcs c (d :: t) = (d :: (pcs c t).headD []) :: (pcs c t).tail := by rw [pcs, if_neg h]
theorem slc_snoc (s : ByteArray) (a k : Nat) (ha : a ≤ k) (hk : k < s.size) : slc s.data.toList a (k + 1) = slc s.data.toList a k ++ [s[k]] := by
 unfold slc
 rw [take_snoc s k hk, List.drop_append_of_le_length (by simp; omega)]
def PcP (l : List UInt8) (c : UInt8) (w : World) (e : Ending) (w' : World) : Prop :=
 ∃ v, e = .returned v ∧ w'.ownsRow w.heap.size 9 1 v (pcs c l).length (tkc (pcs c l)) ∧ Below w.heap.size w w'
set_option maxRecDepth 100000 in
set_option maxHeartbeats 2000000 in
theorem rpieces_any (s : ByteArray) (c : UInt8) (w : World) (hs : s.size ≤ 2097152) :
   Calls Tryz.prog 152 #[.string s, .int .u8 c.toNat] w (PcP s.data.toList c w) := by
 obtain ⟨i0, hi, hz0, hz1, hz2⟩ := info_parts infoStr
 obtain ⟨R, hR⟩ : ∃ R, pcs c s.data.toList = R := ⟨_, rfl⟩
 have HR := Lib.hid hR;clear hR
 go_enter Tryz.func152, Tryz.ntmps152
 go_wp2_with fail
 go_loopw [5, 6, 7] (fun v f i wr => ∃ (a k : Nat) (acc : List (List UInt8)), a ≤ k ∧ k ≤ s.size ∧ f = .int .i64 a ∧ i = .int .i64 k ∧ acc.length ≤ k ∧ R = acc ++ ((slc s.data.toList a k ++ (pcs c (s.data.toList.drop k)).headD []) :: (pcs c (s.data.toList.drop k)).tail) ∧ wr.ownsRow w.heap.size 9 1 v acc.length (tkc acc) ∧ Below w.heap.size w wr) (fun _ _ i _ => s.size - (intOf i).toNat)
 case atStart => exact ⟨0, 0, [], Nat.le_refl _, by omega, rfl, rfl, by simp, by rw [slc_nil _ _ _ (Nat.le_refl _), List.nil_append, List.nil_append, List.drop_zero, ← HR.out]; exact pcs_split c _, World.ownsRow_nil _ _ _ _, Below.refl _ _⟩
 case round =>
  obtain ⟨a, k, acc, hak, hk, rfl, rfl, hal, hr, hown, hB⟩ := hrel
  have Hr := Lib.hid hr;have Ho := Lib.hid hown;have hsz := hB.size;clear hr hown
  by_cases hlt : k < s.size
  ·have hd := drop_step s k hlt
   by_cases hc : s[k] = c
   ·have t1 : ((s[k].toNat : Int) == c.toNat) = true := by rw [hc]; simp
    have HX := Lib.hid (by
     have h := Hr.out
     rw [hd, hc, pcs_hit, List.headD_cons, List.append_nil, List.tail_cons] at h
     rw [h, pcs_split c (s.data.toList.drop (k + 1)), slc_nil _ _ _ (Nat.le_refl _)]
     simp : R = (acc ++ [slc s.data.toList a k]) ++ ((slc s.data.toList (k + 1) (k + 1) ++ (pcs c (s.data.toList.drop (k + 1))).headD []) :: (pcs c (s.data.toList.drop (k + 1))).tail))
    clear hd hc
    obtain ⟨x, hx⟩ : ∃ x, s.extract a k = x := ⟨_, rfl⟩
    have HE := Lib.hid (hx.symm.trans (ext_txt s a k));have Hx := Lib.hid hx;clear hx
    go_wp2_with (at_builtin; refine wpList_append_own _ rfl _ _ 45 rfl w.heap.size 9 i0 (.string .empty) 1 16 Tryz.underlying45 hi hz0 hz1 hz2 rfl (by decide) _ _ _ rfl (Ho.out.alloc _) ⟨wr.heap.size, 0, none⟩ 1 1 [.string (s.extract a k)] rfl rfl (cell_one_new _ _ _) (by simp [Value.oneCell']) ?c3 ?c4 ?c5 ?_)
    case c3 => unfold maxLen; omega
    case c4 => omega
    case c5 => simp; omega
    intro v4 w4 hown' hgrow _
    rw [Hx.out, HE.out] at hown'
    have HO4 := Lib.hid (by simpa [tkc] using hown' : w4.ownsRow w.heap.size 9 1 v4 (acc ++ [slc s.data.toList a k]).length (tkc (acc ++ [slc s.data.toList a k])))
    have hB4 := (hB.alloc (by omega) (.cells #[.string (s.extract a k)] 9)).grown hgrow (by simp; omega) (fun k' hk' => (Ho.out.lt k' hk').1)
    have hs4 := hB4.size;clear hown' hgrow
    go_wp2_with fail
    go_roundw
    case rel => exact ⟨k + 1, k + 1, acc ++ [slc s.data.toList a k], Nat.le_refl _, by omega, by go_num, by go_num, by simp; omega, HX.out, HO4.out, hB4⟩
    case measure => simp [intOf]; omega
   ·have t1 : ((s[k].toNat : Int) == c.toNat) = false := by
      rw [beq_eq_false_iff_ne]; intro h; exact hc (by rw [← UInt8.toNat_inj]; omega)
    have HX := Lib.hid (by
     have h := Hr.out
     rw [hd, pcs_miss c _ _ hc, List.headD_cons, List.tail_cons] at h
     rw [h, slc_snoc s a k hak hlt]
     simp : R = acc ++ ((slc s.data.toList a (k + 1) ++ (pcs c (s.data.toList.drop (k + 1))).headD []) :: (pcs c (s.data.toList.drop (k + 1))).tail))
    clear hd hc
    go_wp2_with fail
    go_roundw
    case rel => exact ⟨a, k + 1, acc, by omega, by omega, rfl, by go_num, by omega, HX.out, Ho.out, hB⟩
    case measure => simp [intOf]; omega
  ·have hke : k = s.size := by omega
   have HX := Lib.hid (by
    have h := Hr.out
    rw [List.drop_eq_nil_of_le (by rw [len_list]; omega)] at h
    rw [h, hke]
    simp [pcs] : R = acc ++ [slc s.data.toList a s.size])
   clear hke
   obtain ⟨x, hx⟩ : ∃ x, s.extract a s.size = x := ⟨_, rfl⟩
   have HE := Lib.hid (hx.symm.trans (ext_txt s a s.size));have Hx := Lib.hid hx;clear hx
   go_wp2_with (at_builtin; refine wpList_append_own _ rfl _ _ 45 rfl w.heap.size 9 i0 (.string .empty) 1 16 Tryz.underlying45 hi hz0 hz1 hz2 rfl (by decide) _ _ _ rfl (Ho.out.alloc _) ⟨wr.heap.size, 0, none⟩ 1 1 [.string (s.extract a s.size)] rfl rfl (cell_one_new _ _ _) (by simp [Value.oneCell']) ?c3 ?c4 ?c5 ?_)
   case c3 => unfold maxLen; omega
   case c4 => omega
   case c5 => simp; omega
   intro v4 w4 hown' hgrow _
   rw [Hx.out, HE.out] at hown'
   have HO4 := Lib.hid (by simpa [tkc] using hown' : w4.ownsRow w.heap.size 9 1 v4 (acc ++ [slc s.data.toList a s.size]).length (tkc (acc ++ [slc s.data.toList a s.size])))
   have hB4 := (hB.alloc (by omega) (.cells #[.string (s.extract a s.size)] 9)).grown hgrow (by simp; omega) (fun k' hk' => (Ho.out.lt k' hk').1)
   clear hown' hgrow
   go_wp2_with fail
   go_ret
   refine ⟨_, rfl, ?_, hB4⟩
   rw [HR.out, HX.out]
   exact HO4.out
end Ad
end Go.Proofs.YtmmjfofdnpafkaaGreatDoor
namespace Go.Proofs.YtmmjfofdnpafkaaGreatDoor
namespace Ad
open Go.RowKit Lx
theorem own_txs {w : World} {B : Nat} {v : Value} {xs : List (List UInt8)} (h : w.ownsRow B 9 1 v xs.length (tkc xs)) (hn : 0 < xs.length) :
   ∃ g cap, v = .slice (some ⟨g, 0, none⟩) xs.length cap ∧ xs.length ≤ cap ∧ g < w.heap.size ∧ Txs w g xs := by
 rcases h.2 with ⟨_, h0⟩ | ⟨g, cap, cur, hv, hb, hg, hnc, hcm, hsz, htk⟩
 ·omega
 ·refine ⟨g, cap, hv, hnc, ?_, ?_⟩
  ·rcases Nat.lt_or_ge g w.heap.size with hlt | hge
   ·exact hlt
   ·rw [Array.getElem?_eq_none hge] at hg; cases hg
  ·intro j x hx
   have hj : j < xs.length := (List.getElem?_eq_some_iff.1 hx).1
   rw [cell_of_row w g j cur _ _ hg]
   have h2 : (List.take (xs.length * 1) cur.toList)[j]? = (tkc xs)[j]? := by rw [htk]
   rw [List.getElem?_take_of_lt (by omega)] at h2
   rw [← Array.getElem?_toList, h2]
   unfold tkc
   rw [List.getElem?_map, hx]
   rfl
theorem Txs.below {w w' : World} {g : Nat} {xs : List (List UInt8)} (h : Txs w g xs) (hg : g < w.heap.size) (hB : Below w.heap.size w w') : Txs w' g xs := fun j x hx => (hB.cell (p := ⟨g, j, none⟩) hg).trans (h j x hx)
theorem jn_snoc (c : UInt8) : ∀ (xs : List (List UInt8)) (g : List UInt8), joinL c (xs ++ [g]) = if xs = [] then g else joinL c xs ++ c :: g
 | [], g => rfl
 | [a], g => rfl
 | a :: b :: r, g => by
   have ih := jn_snoc c (b :: r) g
   rw [if_neg (by simp)] at ih ⊢
   have e : (a :: b :: r) ++ [g] = a :: (b :: r ++ [g]) := rfl
   rw [e]
   have e2 : b :: r ++ [g] = b :: (r ++ [g]) := rfl
   rw [e2] at ih ⊢
   rw [joinL, ih, joinL]
   simp
theorem grpN_len (l : List UInt8) (h : grpB l = true) : (grpN l).length ≤ 4 := by
 unfold grpB at h
 simp only [Bool.and_eq_true, decide_eq_true_eq] at h
 unfold grpN; rw [lowL_len]; have := stripZ_len l; omega
def GsP (l : List UInt8) (w : World) (e : Ending) (w' : World) : Prop :=
 e = .returned (.tuple #[.string (Txt (joinL 58 ((grps l).getD []))), .int .i64 ((grps l).getD []).length, .bool (grps l).isSome]) ∧ Below w.heap.size w w'
theorem GsP.no {l : List UInt8} {w w' : World} (h : grps l = none) (hB : Below w.heap.size w w') : GsP l w (.returned (.tuple #[.string ⟨#[]⟩, .int .i64 0, .bool false])) w' := by
 unfold GsP; rw [h]; exact ⟨rfl, hB⟩
theorem GsP.yes {l : List UInt8} {x : List (List UInt8)} {a : ByteArray} {n : Int} {w w' : World} (h : grps l = some x) (ha : a = Txt (joinL 58 x)) (hn : n = x.length) (hB : Below w.heap.size w w') : GsP l w (.returned (.tuple #[.string a, .int .i64 n, .bool true])) w' := by
 unfold GsP; rw [h, ha, hn]; exact ⟨rfl, hB⟩
theorem take_at {α : Type} (xs : List α) (k : Nat) (x : α) (h : xs[k]? = some x) : xs.take (k + 1) = xs.take k ++ [x] := by
 rw [List.take_add_one, h]; rfl
set_option maxRecDepth 100000 in
set_option maxHeartbeats 2000000 in
theorem rgroups_any (s : ByteArray) (w : World) (hs : s.size ≤ 2097152) :
   Calls Tryz.prog 244 #[.string s] w (GsP s.data.toList w) := by
 by_cases h1 : 1 ≤ s.size
 ·have he := isEmpty_no s h1
  have hn := toList_ne s h1
  have hne : s.data.toList ≠ [] := by intro h; have := len_list s; rw [h] at this; simp at this; omega
  obtain ⟨ps, hps⟩ : ∃ ps, pcs 58 s.data.toList = ps := ⟨_, rfl⟩
  have hpl : ps.length ≤ s.size + 1 := by rw [← hps, ← len_list]; exact pcs_len 58 _
  have hpp : 1 ≤ ps.length := by rw [← hps]; exact pcs_pos 58 _
  have hsm : ∀ x ∈ ps, x.length ≤ s.size := fun x hx => by have := pcs_small 58 _ x (hps ▸ hx); rwa [len_list] at this
  have HP := Lib.hid hps;have Hsm := Lib.hid hsm
  have HGo := Lib.hid (by unfold grps; rw [if_neg hne, hps] : grps s.data.toList = if ps.all grpB then some (ps.map grpN) else none)
  clear hne hps hsm
  go_enter Tryz.func244, Tryz.ntmps244
  go_wp2_with fail
  refine (rpieces_any s 58 w hs).mono ?_
  rintro e w1 ⟨v, rfl, hown, hB1⟩
  rw [HP.out] at hown
  obtain ⟨g, cap, rfl, hcap, hgl, htx⟩ := own_txs hown hpp
  have HT := Lib.hid htx;have hs1 := hB1.size;clear hown htx
  go_wp2_with fail
  go_loopw [6, 7, 8, 9] (fun o i _ _ wr => ∃ (k : Nat) (q : List UInt8), k ≤ ps.length ∧ i = .int .i64 k ∧ o = .string (Txt q) ∧ q = joinL 58 ((ps.take k).map grpN) ∧ q.length ≤ 5 * k ∧ (ps.take k).all grpB = true ∧ Below w1.heap.size w1 wr) (fun _ i _ _ _ => ps.length - (intOf i).toNat)
  case atStart => exact ⟨0, [], by omega, rfl, rfl, rfl, by simp, rfl, Below.refl _ _⟩
  case round =>
   obtain ⟨k, q, hk, rfl, rfl, hq, hql, hal, hB⟩ := hrel
   have Hq := Lib.hid hq;have Hal := Lib.hid hal;have hsz := hB.size;clear hq hal
   by_cases hlt : k < ps.length
   ·obtain ⟨x, hx⟩ : ∃ x, ps[k]? = some x := ⟨ps[k], List.getElem?_eq_getElem hlt⟩
    have hcx := (HT.out.below hgl hB) k x hx
    have hxs := Hsm.out x (List.mem_of_getElem? hx)
    have hTk := Lib.hid (take_at ps k x hx)
    have hxm := Lib.hid (List.mem_of_getElem? hx)
    clear hx
    change wr.cell? ⟨g, k, none⟩ = some (.string (Txt x)) at hcx
    cases hg : grpB x
    ·have HF := Lib.hid (by rw [HGo.out, if_neg (fun h => by have := List.all_eq_true.1 h x hxm.out; rw [hg] at this; exact Bool.noConfusion this)] : grps s.data.toList = none)
     have Hg := Lib.hid hg;clear hg
     go_wp2_with fail
     refine (rgroup_any (Txt x) _ (by rw [txt_size]; omega)).mono ?_
     rintro e w2 ⟨rfl, hB2⟩
     rw [txt_list, Hg.out]
     go_wp2_with fail
     go_ret3
     exact GsP.no HF.out (hB1.trans ((hB.trans (hB2.mono hsz)).mono hs1))
    ·have hgl4 := grpN_len x hg
     have Hg := Lib.hid hg
     obtain ⟨y, hy⟩ : ∃ y, grpN x = y := ⟨_, rfl⟩
     rw [hy] at hgl4
     have Hy := Lib.hid hy
     have HAl := Lib.hid (by rw [hTk.out, List.all_append, Hal.out]; simp [hg] : (ps.take (k + 1)).all grpB = true)
     have HM := Lib.hid (by rw [hTk.out, List.map_append, List.map_cons, List.map_nil, hy, jn_snoc, ← Hq.out] : joinL 58 ((ps.take (k + 1)).map grpN) = if (ps.take k).map grpN = [] then y else q ++ 58 :: y)
     clear hg hy
     have hqs : (Txt q).size ≤ 5 * k := by rw [txt_size]; exact hql
     have hys : (Txt y).size ≤ 4 := by rw [txt_size]; exact hgl4
     by_cases hk0 : k = 0
     ·have HM2 := Lib.hid (by rw [HM.out, if_pos (by rw [hk0]; rfl)] : joinL 58 ((ps.take (k + 1)).map grpN) = y)
      have HQ0 := Lib.hid (by rw [Hq.out, hk0]; rfl : q = [])
      have hk0' : k ≤ 0 := by omega
      clear hk0
      go_wp2_with fail
      refine (rgroup_any (Txt x) _ (by rw [txt_size]; omega)).mono ?_
      rintro e w2 ⟨rfl, hB2⟩
      rw [txt_list, Hg.out, if_pos rfl, Hy.out]
      go_wp2_with fail
      go_roundw
      case rel => exact ⟨k + 1, y, by omega, by go_num, by rw [HQ0.out]; exact congrArg Value.string (cat_txt [] y), HM2.out.symm, by omega, HAl.out, hB.trans (hB2.mono hsz)⟩
      case measure => simp [intOf]; omega
     ·have HM2 := Lib.hid (by rw [HM.out, if_neg (by intro h; rw [List.map_eq_nil_iff, List.take_eq_nil_iff] at h; rcases h with h | h; exact hk0 h; rw [h] at hpp; simp at hpp)] : joinL 58 ((ps.take (k + 1)).map grpN) = q ++ 58 :: y)
      have hk0' : 0 < k := by omega
      clear hk0
      have hq58 : (Txt q ++ (⟨#[58]⟩ : ByteArray)).size ≤ 5 * k + 1 := by rw [ByteArray.size_append]; have : (⟨#[58]⟩ : ByteArray).size = 1 := rfl; omega
      go_wp2_with fail
      refine (rgroup_any (Txt x) _ (by rw [txt_size]; omega)).mono ?_
      rintro e w2 ⟨rfl, hB2⟩
      rw [txt_list, Hg.out, if_pos rfl, Hy.out]
      go_wp2_with fail
      go_roundw
      case rel => exact ⟨k + 1, q ++ 58 :: y, by omega, by go_num, congrArg Value.string (((congrArg (· ++ Txt y) (cat_txt q [58])).trans (cat_txt (q ++ [58]) y)).trans (by simp)), HM2.out.symm, by simp; omega, HAl.out, hB.trans (hB2.mono hsz)⟩
      case measure => simp [intOf]; omega
   ·have htk : ps.take k = ps := List.take_of_length_le (by omega)
    have HF := Lib.hid (by have := Hal.out; rw [htk] at this; rw [HGo.out, if_pos this] : grps s.data.toList = some (ps.map grpN))
    have HQ := Lib.hid (by rw [Hq.out, htk] : q = joinL 58 (ps.map grpN))
    clear htk
    go_wp2_with fail
    go_ret3
    exact GsP.yes HF.out (congrArg Txt HQ.out) (by simp) (hB1.trans (hB.mono hs1))
 ·have he := isEmpty_yes s h1
  have hn := toList_nil s h1
  have HF := Lib.hid (by unfold grps; rw [if_pos (List.eq_nil_of_length_eq_zero (by rw [len_list]; omega))] : grps s.data.toList = some [])
  go_enter Tryz.func244, Tryz.ntmps244
  go_wp2_with fail
  go_ret3
  exact GsP.yes HF.out rfl rfl (Below.refl _ _)
end Ad
end Go.Proofs.YtmmjfofdnpafkaaGreatDoor
namespace Go.Proofs.YtmmjfofdnpafkaaGreatDoor
namespace Ad
open Go.RowKit Lx
theorem grps_bd (l : List UInt8) (x : List (List UInt8)) (h : grps l = some x) : x.length ≤ l.length + 1 ∧ (joinL 58 x).length ≤ 5 * (l.length + 1) := by
 unfold grps at h
 by_cases h0 : l = []
 ·rw [if_pos h0] at h; cases h; simp [joinL]
 ·rw [if_neg h0] at h
  by_cases h1 : (pcs 58 l).all grpB = true
  ·rw [if_pos h1] at h
   injection h with h
   have hl : x.length ≤ l.length + 1 := by rw [← h, List.length_map]; exact pcs_len 58 l
   refine ⟨hl, ?_⟩
   have := joinL_len 58 x 4 (fun y hy => by
    rw [← h, List.mem_map] at hy
    obtain ⟨z, hz, rfl⟩ := hy
    exact grpN_len z (List.all_eq_true.1 h1 z hz))
   omega
  ·rw [if_neg h1] at h; cases h
theorem cut2_two (a b : UInt8) (t : List UInt8) (h : a.toNat = 58) (h2 : b.toNat = 58) : cut2 (a :: b :: t) = some ([], t) := by
 have ha : a = 58 := by rw [← UInt8.toNat_inj, h]; rfl
 have hb : b = 58 := by rw [← UInt8.toNat_inj, h2]; rfl
 rw [cut2, if_pos ⟨ha, hb⟩]
theorem cut2_next (a b : UInt8) (t : List UInt8) (h : ¬ (a.toNat = 58 ∧ b.toNat = 58)) : cut2 (a :: b :: t) = (cut2 (b :: t)).map fun p => (a :: p.1, p.2) := by
 rw [cut2, if_neg]
 rintro ⟨rfl, rfl⟩; exact h ⟨rfl, rfl⟩
theorem cut2_short (l : List UInt8) (h : l.length ≤ 1) : cut2 l = none := by
 match l, h with
 | [], _ => rfl
 | [_], _ => rfl
theorem six_cut (l a b : List UInt8) (x y : List (List UInt8)) (h : cut2 l = some (a, b)) (ha : grps a = some x) (hb : grps b = some y) : six l = if x.length + y.length < 8 then some (joinL 58 x ++ [58, 58] ++ joinL 58 y) else none := by
 unfold six; rw [h]; simp only [ha, hb]
theorem six_cutA (l a b : List UInt8) (h : cut2 l = some (a, b)) (ha : grps a = none) : six l = none := by
 unfold six; rw [h]; simp only [ha]
theorem six_cutB (l a b : List UInt8) (h : cut2 l = some (a, b)) (hb : grps b = none) : six l = none := by
 unfold six; rw [h]
 cases ha : grps a <;> simp only [hb, ha]
theorem six_none (l : List UInt8) (h : cut2 l = none) (hg : grps l = none) : six l = none := by
 unfold six; rw [h]; simp only [hg]
theorem six_eight (l : List UInt8) (x : List (List UInt8)) (h : cut2 l = none) (hg : grps l = some x) : six l = if x.length = 8 then some (joinL 58 x) else none := by
 unfold six; rw [h]; simp only [hg]
def SxP (l : List UInt8) (w : World) (e : Ending) (w' : World) : Prop :=
 ∃ (a : ByteArray) (b : Bool), e = .returned (.tuple #[.string a, .bool b]) ∧ b = (six l).isSome ∧ (∀ x, six l = some x → a = Txt x) ∧ Below w.heap.size w w'
theorem SxP.no {l : List UInt8} {w w' : World} (a : ByteArray) (h : six l = none) (hB : Below w.heap.size w w') : SxP l w (.returned (.tuple #[.string a, .bool false])) w' :=
 ⟨a, false, rfl, by rw [h]; rfl, fun x hx => (by rw [h] at hx; cases hx), hB⟩
theorem SxP.yes {l x : List UInt8} {a : ByteArray} {w w' : World} (h : six l = some x) (ha : a = Txt x) (hB : Below w.heap.size w w') : SxP l w (.returned (.tuple #[.string a, .bool true])) w' :=
 ⟨a, true, rfl, by rw [h]; rfl, fun y hy => by rw [h] at hy; cases hy; exact ha, hB⟩
set_option maxRecDepth 100000 in
set_option maxHeartbeats 4000000 in
theorem rsix_any (s : ByteArray) (w : World) (hs : s.size ≤ 2097152) :
   Calls Tryz.prog 151 #[.string s] w (SxP s.data.toList w) := by
 obtain ⟨R, hR⟩ : ∃ R, cut2 s.data.toList = R := ⟨_, rfl⟩
 have HR := Lib.hid hR;have hS := len_list s;have HS := Lib.hid hS;clear hR hS
 go_enter Tryz.func151, Tryz.ntmps151
 go_wp2_with fail
 go_loop [4, 5, 6, 7, 8, 9, 10] (fun i _ _ _ _ _ _ => ∃ k : Nat, k ≤ s.size ∧ i = .int .i64 k ∧ R = (cut2 (s.data.toList.drop k)).map (fun p => (s.data.toList.take k ++ p.1, p.2))) (fun i _ _ _ _ _ _ => s.size - (intOf i).toNat)
 case atStart => exact ⟨0, by omega, rfl, by rw [← HR.out, List.drop_zero]; cases cut2 s.data.toList <;> simp⟩
 case round =>
  obtain ⟨k, hk, rfl, hr⟩ := hrel
  have Hr := Lib.hid hr;clear hr
  by_cases hlt : k + 1 < s.size
  ·have hd : s.data.toList.drop k = s[k] :: s[k + 1] :: s.data.toList.drop (k + 2) := by rw [drop_step s k (by omega), drop_step s (k + 1) hlt]
   have hd1 : s.data.toList.drop (k + 1) = s[k + 1] :: s.data.toList.drop (k + 2) := drop_step s (k + 1) hlt
   by_cases h2 : s[k].toNat = 58 ∧ s[k + 1].toNat = 58
   ·obtain ⟨c1, c2⟩ := h2
    have t1 : ((s[k].toNat : Int) != 58) = false := by rw [c1]; rfl
    have t2 : ((s[k + 1].toNat : Int) != 58) = false := by rw [c2]; rfl
    have HC := Lib.hid (by rw [HR.out, Hr.out, hd, cut2_two _ _ _ c1 c2]; simp : cut2 s.data.toList = some (s.data.toList.take k, s.data.toList.drop (k + 2)))
    obtain ⟨A, hA⟩ : ∃ A, s.extract 0 k = A := ⟨_, rfl⟩
    obtain ⟨B, hB⟩ : ∃ B, s.extract (k + 2) s.size = B := ⟨_, rfl⟩
    have HAl := Lib.hid (by rw [← hA, slc_data]; unfold slc; rw [List.drop_zero] : A.data.toList = s.data.toList.take k)
    have HBl := Lib.hid (by rw [← hB, drop_data] : B.data.toList = s.data.toList.drop (k + 2))
    have hAs : A.size ≤ 2097152 := by rw [← hA]; simp; omega
    have hBs : B.size ≤ 2097152 := by rw [← hB]; simp; omega
    have HEA := Lib.hid hA;have HEB := Lib.hid hB;clear hd hd1 c1 c2 hA hB
    cases hga : grps (s.data.toList.take k) with
    | none =>
      have HN := Lib.hid (six_cutA _ _ _ HC.out hga);have HA := Lib.hid hga;clear hga
      obtain ⟨gb, hgb⟩ : ∃ gb, grps (s.data.toList.drop (k + 2)) = gb := ⟨_, rfl⟩
      have HB := Lib.hid hgb;clear hgb
      go_wp2_with fail
      rw [HEA.out]
      refine (rgroups_any A _ (by omega)).mono ?_
      rintro e w1 ⟨rfl, hB1⟩
      rw [HAl.out, HA.out]
      go_wp2_with fail
      rw [HEB.out]
      refine (rgroups_any B _ (by omega)).mono ?_
      rintro e w2 ⟨rfl, hB2⟩
      rw [HBl.out, HB.out]
      have hBB := hB1.trans (hB2.mono hB1.size)
      go_wp2_with fail
      go_ret2
      exact SxP.no _ HN.out hBB
    | some x =>
      have HA := Lib.hid hga
      obtain ⟨bx, bxj⟩ := grps_bd _ _ hga
      rw [List.length_take, HS.out] at bx bxj
      cases hgb : grps (s.data.toList.drop (k + 2)) with
      | none =>
        have HN := Lib.hid (six_cutB _ _ _ HC.out hgb);have HB := Lib.hid hgb;clear hga hgb
        go_wp2_with fail
        rw [HEA.out]
        refine (rgroups_any A _ (by omega)).mono ?_
        rintro e w1 ⟨rfl, hB1⟩
        rw [HAl.out, HA.out]
        go_wp2_with fail
        rw [HEB.out]
        refine (rgroups_any B _ (by omega)).mono ?_
        rintro e w2 ⟨rfl, hB2⟩
        rw [HBl.out, HB.out]
        have hBB := hB1.trans (hB2.mono hB1.size)
        go_wp2_with fail
        go_ret2
        exact SxP.no _ HN.out hBB
      | some y =>
        have HB := Lib.hid hgb
        obtain ⟨by', byj⟩ := grps_bd _ _ hgb
        rw [List.length_drop, HS.out] at by' byj
        have HN := Lib.hid (six_cut _ _ _ _ _ HC.out hga hgb)
        have sx : (Txt (joinL 58 x)).size ≤ 20971520 := by rw [txt_size]; omega
        have sy : (Txt (joinL 58 y)).size ≤ 20971520 := by rw [txt_size]; omega
        have sx2 : (Txt (joinL 58 x) ++ (⟨#[58, 58]⟩ : ByteArray)).size ≤ 20971522 := by rw [ByteArray.size_append]; have : (⟨#[58, 58]⟩ : ByteArray).size = 2 := rfl; omega
        have bxx : x.length ≤ 2097153 := by omega
        have byy : y.length ≤ 2097153 := by omega
        clear hga hgb bx bxj by' byj
        by_cases h8 : x.length + y.length < 8
        ·have HY := Lib.hid (by rw [HN.out, if_pos h8] : six s.data.toList = some (joinL 58 x ++ [58, 58] ++ joinL 58 y))
         go_wp2_with fail
         rw [HEA.out]
         refine (rgroups_any A _ (by omega)).mono ?_
         rintro e w1 ⟨rfl, hB1⟩
         rw [HAl.out, HA.out]
         go_wp2_with fail
         rw [HEB.out]
         refine (rgroups_any B _ (by omega)).mono ?_
         rintro e w2 ⟨rfl, hB2⟩
         rw [HBl.out, HB.out]
         have hBB := hB1.trans (hB2.mono hB1.size)
         go_wp2_with fail
         go_ret2
         exact SxP.yes HY.out ((congrArg (· ++ Txt (joinL 58 y)) (cat_txt (joinL 58 x) [58, 58])).trans (cat_txt _ _)) hBB
        ·have HY := Lib.hid (by rw [HN.out, if_neg h8] : six s.data.toList = none)
         go_wp2_with fail
         rw [HEA.out]
         refine (rgroups_any A _ (by omega)).mono ?_
         rintro e w1 ⟨rfl, hB1⟩
         rw [HAl.out, HA.out]
         go_wp2_with fail
         rw [HEB.out]
         refine (rgroups_any B _ (by omega)).mono ?_
         rintro e w2 ⟨rfl, hB2⟩
         rw [HBl.out, HB.out]
         have hBB := hB1.trans (hB2.mono hB1.size)
         go_wp2_with fail
         go_ret2
         exact SxP.no _ HY.out hBB
   ·have HX := Lib.hid (by
      rw [Hr.out, hd, cut2_next _ _ _ h2, hd1, take_snoc s k (by omega)]
      cases cut2 (s[k + 1] :: s.data.toList.drop (k + 2)) <;> simp : R = (cut2 (s.data.toList.drop (k + 1))).map (fun p => (s.data.toList.take (k + 1) ++ p.1, p.2)))
    clear hd hd1
    by_cases c1 : s[k].toNat = 58
    ·have c2 : ¬ s[k + 1].toNat = 58 := fun h => h2 ⟨c1, h⟩
     have t1 : ((s[k].toNat : Int) != 58) = false := by rw [c1]; rfl
     have t2 : ((s[k + 1].toNat : Int) != 58) = true := by rw [bne_iff_ne]; omega
     clear c1 c2 h2
     go_wp2_with fail
     go_round
     case rel => exact ⟨k + 1, by omega, by go_num, HX.out⟩
     case measure => simp [intOf]; omega
    ·have t1 : ((s[k].toNat : Int) != 58) = true := by rw [bne_iff_ne]; omega
     clear c1 h2
     go_wp2_with fail
     go_round
     case rel => exact ⟨k + 1, by omega, by go_num, HX.out⟩
     case measure => simp [intOf]; omega
  ·have HC := Lib.hid (by rw [HR.out, Hr.out, cut2_short _ (by rw [List.length_drop, HS.out]; omega)]; rfl : cut2 s.data.toList = none)
   cases hg : grps s.data.toList with
   | none =>
     have HG := Lib.hid hg;have HN := Lib.hid (six_none _ HC.out hg);clear hg
     go_wp2_with fail
     refine (rgroups_any s _ hs).mono ?_
     rintro e w1 ⟨rfl, hB1⟩
     rw [HG.out]
     go_wp2_with fail
     go_ret2
     exact SxP.no _ HN.out hB1
   | some x =>
     have HG := Lib.hid hg;have HN := Lib.hid (six_eight _ _ HC.out hg);clear hg
     by_cases h8 : x.length = 8
     ·have HY := Lib.hid (by rw [HN.out, if_pos h8] : six s.data.toList = some (joinL 58 x))
      have t8 : ((x.length : Int) == 8) = true := by rw [h8]; rfl
      clear h8
      go_wp2_with fail
      refine (rgroups_any s _ hs).mono ?_
      rintro e w1 ⟨rfl, hB1⟩
      rw [HG.out]
      go_wp2_with fail
      go_ret2
      exact SxP.yes HY.out rfl hB1
     ·have HY := Lib.hid (by rw [HN.out, if_neg h8] : six s.data.toList = none)
      have t8 : ((x.length : Int) == 8) = false := by rw [beq_eq_false_iff_ne]; omega
      clear h8
      go_wp2_with fail
      refine (rgroups_any s _ hs).mono ?_
      rintro e w1 ⟨rfl, hB1⟩
      rw [HG.out]
      go_wp2_with fail
      go_ret2
      exact SxP.no _ HY.out hB1
end Ad
end Go.Proofs.YtmmjfofdnpafkaaGreatDoor
namespace Go.Proofs.YtmmjfofdnpafkaaGreatDoor
namespace Ad
open Go.RowKit Lx
def wdA (ps : List (List UInt8)) : Bool := ps.any wdB
def fourA (ps : List (List UInt8)) : Bool := decide (ps.length = 4) && ps.all numB
theorem lbl_chars (l : List UInt8) (h : lblB l = true) : ∀ c ∈ l, lblC c.toNat = true := by
 unfold lblB at h
 simp only [Bool.and_eq_true] at h
 exact fun c hc => List.all_eq_true.1 h.2 c hc
theorem word_iff (c : UInt8) (h : lblC c.toNat = true) : wordC c.toNat = !digitI c.toNat := by
 unfold lblC at h
 unfold wordC
 cases hl : letterI c.toNat
 ·cases hd : digitI c.toNat
  ·rw [hl, hd] at h; simpa using h
  ·have h1 : (48 : Int) ≤ c.toNat ∧ (c.toNat : Int) ≤ 57 := by simpa [digitI] using hd
   simp; omega
 ·have h1 : ((65 : Int) ≤ c.toNat ∧ (c.toNat : Int) ≤ 90) ∨ ((97 : Int) ≤ c.toNat ∧ (c.toNat : Int) ≤ 122) := by simpa [letterI] using hl
  have hd : digitI c.toNat = false := by simp [digitI]; omega
  rw [hd]; rfl
theorem pcs_any (p : UInt8 → Bool) (hp : p 46 = false) (l : List UInt8) : l.any p = (pcs 46 l).any (fun x => x.any p) := by
 induction l with
 | nil => rfl
 | cons d t ih =>
   rw [List.any_cons, ih]
   by_cases h : d = 46
   ·rw [h, hp, Bool.false_or, pcs_hit]; rfl
   ·rw [pcs_miss _ _ _ h, List.any_cons, List.any_cons]
    conv => lhs; rw [pcs_split 46 t]
    rw [List.any_cons, Bool.or_assoc]
theorem any_congr' {α : Type} (p q : α → Bool) : ∀ l : List α, (∀ x ∈ l, p x = q x) → l.any p = l.any q
 | [], _ => rfl
 | a :: r, h => by
   rw [List.any_cons, List.any_cons, h a (by simp), any_congr' p q r (fun x hx => h x (by simp [hx]))]
theorem word_pcs (l : List UInt8) (h : (pcs 46 l).all lblB = true) : (l.any fun c => wordC c.toNat) = wdA (pcs 46 l) := by
 rw [pcs_any (fun c => wordC c.toNat) (by decide)]
 unfold wdA
 refine any_congr' _ _ _ fun x hx => ?_
 unfold wdB
 exact any_congr' _ _ _ fun c hc => word_iff c (lbl_chars x (List.all_eq_true.1 h x hx) c hc)
theorem num_lbl (x : List UInt8) (h : numB x = true) : lblB x = true ∧ x.length ≤ 3 ∧ ∀ c ∈ x, digitI c.toNat = true := by
 unfold numB at h
 simp only [Bool.and_eq_true, decide_eq_true_eq] at h
 obtain ⟨⟨⟨⟨h1, h2⟩, _⟩, h4⟩, _⟩ := h
 have hd : ∀ c ∈ x, digitI c.toNat = true := fun c hc => List.all_eq_true.1 h4 c hc
 refine ⟨?_, h2, hd⟩
 have n45 : ∀ c ∈ x, c ≠ 45 := fun c hc e => by have := hd c hc; rw [e] at this; exact absurd this (by decide)
 have hne : x ≠ [] := by rintro rfl; simp at h1
 unfold lblB
 simp only [Bool.and_eq_true, decide_eq_true_eq]
 refine ⟨⟨⟨⟨h1, by omega⟩, ?_⟩, ?_⟩, ?_⟩
 ·cases x with
  | nil => exact absurd rfl hne
  | cons a r => exact n45 a (by simp)
 ·rw [List.getLastD_eq_getLast?, List.getLast?_eq_some_getLast hne]
  exact n45 _ (List.getLast_mem hne)
 ·exact List.all_eq_true.2 fun c hc => by unfold lblC; rw [hd c hc]; simp
theorem four_len (l : List UInt8) (h : fourB l = true) : l.length ≤ 255 ∧ (pcs 46 l).all lblB = true ∧ lowL l = l := by
 unfold fourB at h
 simp only [Bool.and_eq_true, decide_eq_true_eq] at h
 obtain ⟨h4, hn⟩ := h
 have hx := fun x hx => num_lbl x (List.all_eq_true.1 hn x hx)
 have hj := join_pcs 46 l
 refine ⟨?_, List.all_eq_true.2 fun x hx' => (hx x hx').1, ?_⟩
 ·have := joinL_len 46 (pcs 46 l) 3 (fun x hx' => (hx x hx').2.1)
  rw [hj, h4] at this; omega
 ·have hc : ∀ d ∈ l, d.toNat = 46 ∨ digitI d.toNat = true := by
    rw [← hj]
    exact join_chars 46 (pcs 46 l) (fun d => d.toNat = 46 ∨ digitI d.toNat = true) (.inl rfl) (fun g hg d hd => .inr ((hx g hg).2.2 d hd))
  unfold lowL
  refine (List.map_congr_left (fun d hd => ?_)).trans (List.map_id l)
  show lowB d = d
  rw [← UInt8.toNat_inj, lowB_nat, if_neg]
  rcases hc d hd with h | h
  ·omega
  ·have : (48 : Int) ≤ d.toNat ∧ (d.toNat : Int) ≤ 57 := by simpa [digitI] using h
   omega
theorem host_plain (l : List UInt8) (h : l.head? ≠ some 91) : hostO l = if (pcs 46 l).all lblB = true ∧ l.length ≤ 255 ∧ (wdA (pcs 46 l) = true ∨ fourA (pcs 46 l) = true) then some (lowL l) else none := by
 unfold hostO
 rw [if_neg h]
 have hf : fourB l = fourA (pcs 46 l) := rfl
 by_cases hl : (pcs 46 l).all lblB = true
 ·have hw := word_pcs l hl
  by_cases h255 : l.length ≤ 255
  ·have hn : nameB l = wdA (pcs 46 l) := by unfold nameB; rw [hl, hw]; simp [h255]
   cases hb : wdA (pcs 46 l)
   ·rw [hn, hb, if_neg (by simp)]
    cases hff : fourA (pcs 46 l)
    ·rw [hf, hff, if_neg (by simp), if_neg]; rintro ⟨_, _, h | h⟩ <;> cases h
    ·rw [hf, hff, if_pos rfl, if_pos ⟨hl, h255, .inr rfl⟩, (four_len l (hf.trans hff)).2.2]
   ·rw [hn, hb, if_pos rfl, if_pos ⟨hl, h255, .inl rfl⟩]
  ·have hn : nameB l = false := by unfold nameB; simp [h255]
   rw [hn, if_neg (by simp), if_neg (fun h => h255 (four_len l h).1), if_neg (fun h => h255 h.2.1)]
 ·have hn : nameB l = false := by unfold nameB; rw [Bool.eq_false_iff.2 hl]; simp
  rw [hn, if_neg (by simp), if_neg (fun h => hl (four_len l h).2.1), if_neg (fun h => hl h.1)]
theorem lbl_bracket (l : List UInt8) (h : l.head? = some 91) : (pcs 46 l).all lblB = false := by
 match l, h with
 | c :: t, h =>
   have hc : c = 91 := by simpa using h
   subst hc
   rw [pcs_miss 46 91 t (by decide), List.all_cons, Bool.and_eq_false_iff]
   left
   rw [Bool.eq_false_iff]
   intro hb
   have := lbl_chars _ hb 91 (by simp)
   exact absurd this (by decide)
theorem host_open (l : List UInt8) (h : l.head? = some 91) (h2 : l.tail.getLast? ≠ some 93) : hostO l = none := by
 unfold hostO; rw [if_pos h, if_neg h2]
theorem host_six (l : List UInt8) (h : l.head? = some 91) (h2 : l.tail.getLast? = some 93) : hostO l = (six l.tail.dropLast).map fun x => [91] ++ x ++ [93] := by
 unfold hostO; rw [if_pos h, if_pos h2]
end Ad
end Go.Proofs.YtmmjfofdnpafkaaGreatDoor
namespace Go.Proofs.YtmmjfofdnpafkaaGreatDoor
namespace Ad
open Go.RowKit Lx
theorem HoP.no {l : List UInt8} {w w' : World} (h : hostO l = none) (hB : Below w.heap.size w w') : HoP (hostO l) w (.returned (.tuple #[.string ⟨#[]⟩, .bool false])) w' := by
 unfold HoP; rw [h]; exact ⟨rfl, hB⟩
theorem HoP.yes {l x : List UInt8} {a : ByteArray} {w w' : World} (h : hostO l = some x) (ha : a = Txt x) (hB : Below w.heap.size w w') : HoP (hostO l) w (.returned (.tuple #[.string a, .bool true])) w' := by
 unfold HoP; rw [h, ha]; exact ⟨rfl, hB⟩
theorem head_one (s : ByteArray) (h : 0 < s.size) : s.data.toList.head? = some s[0] := by
 have := drop_step s 0 h
 rw [List.drop_zero] at this; rw [this]; rfl
theorem head_91 (s : ByteArray) (h : 0 < s.size) : s.data.toList.head? = some 91 ↔ s[0].toNat = 91 := by
 rw [head_one s h, Option.some_inj, ← UInt8.toNat_inj]; rfl
theorem tail_last (s : ByteArray) (h : 2 ≤ s.size) : s.data.toList.tail.getLast? = some s[s.size - 1] := by
 rw [List.getLast?_eq_getElem?]
 have hl : s.data.toList.tail.length = s.size - 1 := by rw [List.length_tail, len_list]
 rw [hl, List.getElem?_tail]
 have e : s.size - 1 - 1 + 1 = s.size - 1 := by omega
 rw [e, List.getElem?_eq_getElem (by rw [len_list]; omega)]
 simp
 rfl
theorem tail_one (s : ByteArray) (h : s.size = 1) : s.data.toList.tail.getLast? = none := by
 have hl : s.data.toList.tail.length = 0 := by rw [List.length_tail, len_list, h]
 rw [List.eq_nil_of_length_eq_zero hl]; rfl
theorem inner (s : ByteArray) (h : 2 ≤ s.size) : (s.extract 1 (s.size - 1)).data.toList = s.data.toList.tail.dropLast := by
 rw [slc_data]
 unfold slc
 rw [List.drop_take, List.drop_one, List.dropLast_eq_take, List.length_tail, len_list]
theorem wdA_snoc (ps : List (List UInt8)) (k : Nat) (x : List UInt8) (h : ps[k]? = some x) : wdA (ps.take (k + 1)) = (wdA (ps.take k) || wdB x) := by
 unfold wdA; rw [take_at ps k x h]; simp
theorem num_snoc (ps : List (List UInt8)) (k : Nat) (x : List UInt8) (h : ps[k]? = some x) : (ps.take (k + 1)).all numB = ((ps.take k).all numB && numB x) := by
 rw [take_at ps k x h]; simp
theorem lbl_snoc (ps : List (List UInt8)) (k : Nat) (x : List UInt8) (h : ps[k]? = some x) : (ps.take (k + 1)).all lblB = ((ps.take k).all lblB && lblB x) := by
 rw [take_at ps k x h]; simp
theorem grps_el (l : List UInt8) (x : List (List UInt8)) (h : grps l = some x) : ∀ g ∈ x, g.length ≤ 4 := by
 unfold grps at h
 by_cases h0 : l = []
 ·rw [if_pos h0] at h; cases h; simp
 ·rw [if_neg h0] at h
  by_cases h1 : (pcs 58 l).all grpB = true
  ·rw [if_pos h1] at h
   injection h with h
   intro y hy
   rw [← h, List.mem_map] at hy
   obtain ⟨z, hz, rfl⟩ := hy
   exact grpN_len z (List.all_eq_true.1 h1 z hz)
  ·rw [if_neg h1] at h; cases h
theorem six_lenR (l x : List UInt8) (h : six l = some x) : x.length ≤ 100 := by
 cases hc : cut2 l with
 | none =>
   cases hg : grps l with
   | none => rw [six_none l hc hg] at h; cases h
   | some y =>
     rw [six_eight l y hc hg] at h
     by_cases h8 : y.length = 8
     ·rw [if_pos h8] at h; injection h with h
      have := joinL_len 58 y 4 (grps_el l y hg)
      rw [← h]; omega
     ·rw [if_neg h8] at h; cases h
 | some p =>
   obtain ⟨a, b⟩ := p
   cases ha : grps a with
   | none => rw [six_cutA l a b hc ha] at h; cases h
   | some y =>
     cases hb : grps b with
     | none => rw [six_cutB l a b hc hb] at h; cases h
     | some z =>
       rw [six_cut l a b y z hc ha hb] at h
       by_cases h8 : y.length + z.length < 8
       ·rw [if_pos h8] at h; injection h with h
        have h1 := joinL_len 58 y 4 (grps_el a y ha);have h2 := joinL_len 58 z 4 (grps_el b z hb)
        rw [← h]; simp; omega
       ·rw [if_neg h8] at h; cases h
theorem host_ref (s : ByteArray) (h : ¬ (2 ≤ s.size ∧ s.data.toList.head? = some 91 ∧ s.data.toList.tail.getLast? = some 93)) : hostO s.data.toList = if (pcs 46 s.data.toList).all lblB = true ∧ s.data.toList.length ≤ 255 ∧ (wdA (pcs 46 s.data.toList) = true ∨ fourA (pcs 46 s.data.toList) = true) then some (lowL s.data.toList) else none := by
 by_cases h91 : s.data.toList.head? = some 91
 ·have h1 : 1 ≤ s.size := by
    rw [← len_list]; cases hl : s.data.toList with
    | nil => rw [hl] at h91; cases h91
    | cons a r => simp
  have hl : s.data.toList.tail.getLast? ≠ some 93 := fun e => h ⟨by
   rcases (by omega : s.size = 1 ∨ 2 ≤ s.size) with q | q
   ·rw [tail_one s q] at e; cases e
   ·exact q, h91, e⟩
  rw [host_open _ h91 hl, if_neg]
  rw [lbl_bracket _ h91]; rintro ⟨h, _⟩; cases h
 ·exact host_plain _ h91
set_option maxRecDepth 100000 in
set_option maxHeartbeats 4000000 in
theorem rHost_any (s : ByteArray) (w : World) (hs : s.size ≤ 2097152) :
   Calls Tryz.prog 81 #[.string s] w (HoP (hostO s.data.toList) w) := by
 by_cases hbr : 2 ≤ s.size ∧ s.data.toList.head? = some 91 ∧ s.data.toList.tail.getLast? = some 93
 ·obtain ⟨h2, h91, h93⟩ := hbr
  have HH := Lib.hid (host_six _ h91 h93)
  have t1 : ((s[0].toNat : Int) == 91) = true := by rw [(head_91 s (by omega)).1 h91]; rfl
  have t2 : ((s[s.size - 1].toNat : Int) == 93) = true := by
   rw [tail_last s h2, Option.some_inj] at h93; rw [h93]; rfl
  obtain ⟨A, hA⟩ : ∃ A, s.extract 1 (s.size - 1) = A := ⟨_, rfl⟩
  have HAl := Lib.hid (by rw [← hA]; exact inner s h2 : A.data.toList = s.data.toList.tail.dropLast)
  have hAs : A.size ≤ 2097152 := by rw [← hA]; simp; omega
  have HA := Lib.hid hA;clear h91 h93 hA
  cases hx : six s.data.toList.tail.dropLast with
  | none =>
    have HN := Lib.hid (by rw [HH.out, hx]; rfl : hostO s.data.toList = none)
    have HX := Lib.hid hx;clear hx
    go_enter Tryz.func81, Tryz.ntmps81
    go_wp2_with fail
    rw [HA.out]
    refine (rsix_any A _ hAs).mono ?_
    rintro e w1 ⟨a, b, rfl, hb, _, hB⟩
    rw [HAl.out, HX.out] at hb
    subst hb
    go_wp2_with fail
    go_ret2
    exact HoP.no HN.out hB
  | some x =>
    have HN := Lib.hid (by rw [HH.out, hx]; rfl : hostO s.data.toList = some ([91] ++ x ++ [93]))
    have HX := Lib.hid hx
    have hxl : x.length ≤ 20971520 := by have := six_lenR _ _ hx; omega
    clear hx
    go_enter Tryz.func81, Tryz.ntmps81
    go_wp2_with fail
    rw [HA.out]
    refine (rsix_any A _ hAs).mono ?_
    rintro e w1 ⟨a, b, rfl, hb, ha, hB⟩
    rw [HAl.out, HX.out] at hb
    subst hb
    obtain rfl := ha x (by rw [HAl.out]; exact HX.out)
    have sx : (Txt x).size ≤ 20971520 := by rw [txt_size]; exact hxl
    have sx2 : ((⟨#[91]⟩ : ByteArray) ++ Txt x).size ≤ 20971521 := by rw [ByteArray.size_append]; have : (⟨#[91]⟩ : ByteArray).size = 1 := rfl; omega
    go_wp2_with fail
    go_ret2
    exact HoP.yes HN.out ((congrArg (· ++ (⟨#[93]⟩ : ByteArray)) (cat_txt [91] x)).trans (cat_txt _ [93])) hB
 ·have HH := Lib.hid (host_ref s hbr)
  obtain ⟨ps, hps⟩ : ∃ ps, pcs 46 s.data.toList = ps := ⟨_, rfl⟩
  have hpl : ps.length ≤ s.size + 1 := by rw [← hps, ← len_list]; exact pcs_len 46 _
  have hpp : 1 ≤ ps.length := by rw [← hps]; exact pcs_pos 46 _
  have hsm : ∀ x ∈ ps, x.length ≤ s.size := fun x hx => by have := pcs_small 46 _ x (hps ▸ hx); rwa [len_list] at this
  have HP := Lib.hid hps;have Hsm := Lib.hid hsm
  have HH := Lib.hid (by have := HH.out; rw [hps, len_list] at this; exact this : hostO s.data.toList = if ps.all lblB = true ∧ s.size ≤ 255 ∧ (wdA ps = true ∨ fourA ps = true) then some (lowL s.data.toList) else none)
  obtain ⟨b4, hb4⟩ : ∃ b4, ((ps.length : Int) == 4) = b4 := ⟨_, rfl⟩
  have HB4 := Lib.hid (by unfold fourA; rw [← hb4]; congr 1; rw [Bool.eq_iff_iff]; simp; omega : fourA ps = (b4 && ps.all numB))
  have ht : s.size < 2 ∨ (2 ≤ s.size ∧ ∃ h : 2 ≤ s.size, ((s[0].toNat : Int) == 91) = false) ∨ (2 ≤ s.size ∧ ∃ h : 2 ≤ s.size, ((s[0].toNat : Int) == 91) = true ∧ ((s[s.size - 1].toNat : Int) == 93) = false) := by
   by_cases h2 : 2 ≤ s.size
   ·right
    by_cases h91 : s[0].toNat = 91
    ·right
     refine ⟨h2, h2, by rw [h91]; rfl, ?_⟩
     rw [beq_eq_false_iff_ne]
     intro e
     refine hbr ⟨h2, (head_91 s (by omega)).2 h91, ?_⟩
     rw [tail_last s h2, Option.some_inj, ← UInt8.toNat_inj]
     have : (93 : UInt8).toNat = 93 := rfl
     omega
    ·exact .inl ⟨h2, h2, by rw [beq_eq_false_iff_ne]; omega⟩
   ·exact .inl (by omega)
  clear hps hsm hbr
  rcases ht with hz | ⟨hz, hz', t1⟩ | ⟨hz, hz', t1, t2⟩
  all_goals
   try clear hz'
   go_enter Tryz.func81, Tryz.ntmps81
   go_wp2_with fail
   refine (rpieces_any s 46 w hs).mono ?_
   rintro e w1 ⟨v, rfl, hown, hB1⟩
   rw [HP.out] at hown
   obtain ⟨g, cap, rfl, hcap, hgl, htx⟩ := own_txs hown hpp
   have HT := Lib.hid htx;have hs1 := hB1.size;clear hown htx
   go_wp2_with fail
   go_loop [8, 9, 10, 11, 12] (fun f d i _ _ => ∃ k : Nat, k ≤ ps.length ∧ f = .bool (b4 && (ps.take k).all numB) ∧ d = .bool (wdA (ps.take k)) ∧ i = .int .i64 k ∧ (ps.take k).all lblB = true) (fun _ _ i _ _ => ps.length - (intOf i).toNat)
   case atStart => exact ⟨0, by omega, by simp, rfl, rfl, rfl⟩
   case round =>
    obtain ⟨k, hk, rfl, rfl, rfl, hal⟩ := hrel
    have Hal := Lib.hid hal;clear hal
    by_cases hlt : k < ps.length
    ·obtain ⟨x, hx⟩ : ∃ x, ps[k]? = some x := ⟨ps[k], List.getElem?_eq_getElem hlt⟩
     have hcx := HT.out k x hx
     have hxs := Hsm.out x (List.mem_of_getElem? hx)
     have hxm := Lib.hid (List.mem_of_getElem? hx)
     have HNu := Lib.hid (num_snoc ps k x hx);have HWd := Lib.hid (wdA_snoc ps k x hx);have HLb := Lib.hid (lbl_snoc ps k x hx);clear hx
     change w1.cell? ⟨g, k, none⟩ = some (.string (Txt x)) at hcx
     obtain ⟨bf, hbf⟩ : ∃ bf, (b4 && (ps.take k).all numB) = bf := ⟨_, rfl⟩
     obtain ⟨bw, hbw⟩ : ∃ bw, wdA (ps.take k) = bw := ⟨_, rfl⟩
     obtain ⟨ww, hww⟩ : ∃ ww, wdB x = ww := ⟨_, rfl⟩
     rw [hbf, hbw]
     have Hbf := Lib.hid hbf;have Hbw := Lib.hid hbw;have Hww := Lib.hid hww;clear hbf hbw hww
     cases hlx : lblB x
     ·have HF := Lib.hid (by rw [HH.out, if_neg (fun h => by have := List.all_eq_true.1 h.1 x hxm.out; rw [hlx] at this; exact Bool.noConfusion this)] : hostO s.data.toList = none)
      have Hlx := Lib.hid hlx;clear hlx
      go_wp2_with fail
      refine (rlabel_any (Txt x) _ (by rw [txt_size]; omega)).mono ?_
      rintro e w2 ⟨rfl, rfl⟩
      rw [txt_list, Hlx.out]
      go_wp2_with fail
      go_ret2
      exact HoP.no HF.out hB1
     ·have Hlx := Lib.hid hlx
      clear hlx
      cases bw
      ·cases bf
       ·skip
        go_wp2_with fail
        refine (rlabel_any (Txt x) _ (by rw [txt_size]; omega)).mono ?_
        rintro e w2 ⟨rfl, rfl⟩
        rw [txt_list, Hlx.out, Hww.out]
        go_wp2_with fail
        go_round
        case rel => exact ⟨k + 1, by omega, by rw [HNu.out, ← Bool.and_assoc, Hbf.out]; rfl, by rw [HWd.out, Hbw.out, Hww.out]; rfl, by go_num, by rw [HLb.out, Hal.out, Hlx.out]; rfl⟩
        case measure => simp [intOf]; omega
       ·skip
        go_wp2_with fail
        refine (rlabel_any (Txt x) _ (by rw [txt_size]; omega)).mono ?_
        rintro e w2 ⟨rfl, rfl⟩
        rw [txt_list, Hlx.out, Hww.out]
        go_wp2_with fail
        refine (rnum_any (Txt x) _ (by rw [txt_size]; omega)).mono ?_
        rintro e w2 ⟨rfl, rfl⟩
        rw [txt_list]
        go_wp2_with fail
        go_round
        case rel => exact ⟨k + 1, by omega, by rw [HNu.out, ← Bool.and_assoc, Hbf.out]; rfl, by rw [HWd.out, Hbw.out, Hww.out]; rfl, by go_num, by rw [HLb.out, Hal.out, Hlx.out]; rfl⟩
        case measure => simp [intOf]; omega
      ·cases bf
       ·skip
        go_wp2_with fail
        refine (rlabel_any (Txt x) _ (by rw [txt_size]; omega)).mono ?_
        rintro e w2 ⟨rfl, rfl⟩
        rw [txt_list, Hlx.out, Hww.out]
        go_wp2_with fail
        go_round
        case rel => exact ⟨k + 1, by omega, by rw [HNu.out, ← Bool.and_assoc, Hbf.out]; rfl, by rw [HWd.out, Hbw.out, Hww.out]; rfl, by go_num, by rw [HLb.out, Hal.out, Hlx.out]; rfl⟩
        case measure => simp [intOf]; omega
       ·skip
        go_wp2_with fail
        refine (rlabel_any (Txt x) _ (by rw [txt_size]; omega)).mono ?_
        rintro e w2 ⟨rfl, rfl⟩
        rw [txt_list, Hlx.out, Hww.out]
        go_wp2_with fail
        refine (rnum_any (Txt x) _ (by rw [txt_size]; omega)).mono ?_
        rintro e w2 ⟨rfl, rfl⟩
        rw [txt_list]
        go_wp2_with fail
        go_round
        case rel => exact ⟨k + 1, by omega, by rw [HNu.out, ← Bool.and_assoc, Hbf.out]; rfl, by rw [HWd.out, Hbw.out, Hww.out]; rfl, by go_num, by rw [HLb.out, Hal.out, Hlx.out]; rfl⟩
        case measure => simp [intOf]; omega
    ·have htk : ps.take k = ps := List.take_of_length_le (by omega)
     have HF := Lib.hid (by have := Hal.out; rw [htk] at this; rw [HH.out, this]; simp only [true_and] : hostO s.data.toList = if s.size ≤ 255 ∧ (wdA ps = true ∨ fourA ps = true) then some (lowL s.data.toList) else none)
     have HF4 := Lib.hid (by rw [htk, HB4.out] : (b4 && (ps.take k).all numB) = fourA ps)
     have HFw := Lib.hid (by rw [htk] : wdA (ps.take k) = wdA ps)
     clear htk
     rw [HF4.out, HFw.out]
     obtain ⟨bf, hbf⟩ : ∃ bf, fourA ps = bf := ⟨_, rfl⟩
     obtain ⟨bw, hbw⟩ : ∃ bw, wdA ps = bw := ⟨_, rfl⟩
     have HF := Lib.hid (by have := HF.out; rw [hbf, hbw] at this; exact this : hostO s.data.toList = if s.size ≤ 255 ∧ (bw = true ∨ bf = true) then some (lowL s.data.toList) else none)
     rw [hbf, hbw]
     clear hbf hbw
     by_cases h255 : s.size ≤ 255
     ·cases bw
      ·cases bf
       ·have HN := Lib.hid (by rw [HF.out, if_neg (fun h => by rcases h.2 with h | h <;> exact Bool.noConfusion h)] : hostO s.data.toList = none)
        go_wp2_with fail
        go_ret2
        exact HoP.no HN.out hB1
       ·have HN := Lib.hid (by rw [HF.out, if_pos ⟨h255, .inr rfl⟩] : hostO s.data.toList = some (lowL s.data.toList))
        go_wp2_with fail
        refine (rLower_any s _ (by omega)).mono ?_
        rintro e w2 ⟨rfl, hB2⟩
        go_wp2_with fail
        go_ret2
        exact HoP.yes HN.out rfl (hB1.trans (hB2.mono hs1))
      ·have HN := Lib.hid (by rw [HF.out, if_pos ⟨h255, .inl rfl⟩] : hostO s.data.toList = some (lowL s.data.toList))
       go_wp2_with fail
       refine (rLower_any s _ (by omega)).mono ?_
       rintro e w2 ⟨rfl, hB2⟩
       go_wp2_with fail
       go_ret2
       exact HoP.yes HN.out rfl (hB1.trans (hB2.mono hs1))
     ·have HN := Lib.hid (by rw [HF.out, if_neg (fun h => h255 h.1)] : hostO s.data.toList = none)
      first
       | (exfalso; omega)
       | (go_wp2_with fail
          go_ret2
          exact HoP.no HN.out hB1)
end Ad
end Go.Proofs.YtmmjfofdnpafkaaGreatDoor
namespace Go.Proofs.YtmmjfofdnpafkaaGreatDoor
namespace Ad
open Go.RowKit Lx
theorem rlowK (l : List UInt8) (hs : l.length ≤ 2097152) (w : World) : Calls Tryz.prog 53 #[.string (Txt l)] w (TxK (lowL l) w) :=
 (rLower_any (Txt l) w (by rw [txt_size]; omega)).mono fun e w' hh => ⟨hh.1, (Kp.refl [] w).below hh.2⟩
def NoF (l : List Prm) (nm : List UInt8) (j : Nat) : Prop := ∀ m, m < j → (lowL l[m]!.1 == lowL nm) = false
theorem NoF.succ {l : List Prm} {nm : List UInt8} {j : Nat} (h : NoF l nm j) (h2 : (lowL l[j]!.1 == lowL nm) = false) : NoF l nm (j + 1) := fun m hm => by
 rcases Nat.lt_or_ge m j with h3 | h3
 ·exact h m h3
 ·have : m = j := by omega
  rw [this]; exact h2
set_option maxRecDepth 100000 in
set_option maxHeartbeats 1000000 in
theorem rfind_any (B : Nat) (v : Value) (l : List Prm) (nm : List UInt8) (w : World) (hP : PmIn B w v l) (hB : B ≤ w.heap.size) (hz : SzP l) (hl : l.length ≤ 4194304) (hn : nm.length ≤ 2097152) :
   Calls Tryz.prog 156 #[v, .string (Txt nm)] w (InK (fndI l nm) w) := by
 have HPm := Lib.hid hP
 obtain ⟨A, c, rfl⟩ := hP.form
 clear hP
 go_enter Tryz.func156, Tryz.ntmps156
 go_wp2_with fail
 go_loopg [5] (l.length + 1) (fun gg i wr => ∃ j : Nat, j ≤ l.length ∧ l.length - j < gg ∧ i = .int .i64 j ∧ NoF l nm j ∧ Kp [] w wr)
 case atStart => exact ⟨0, by omega, by omega, rfl, fun m hm => absurd hm (Nat.not_lt_zero _), Kp.refl _ _⟩
 case round =>
  obtain ⟨j, hj, hg, rfl, hN, hK⟩ := hrel
  have HN := Lib.hid hN;have HK := Lib.hid hK
  have PLr := HPm.out.kp hK hB (by simp)
  clear hN hK
  by_cases hlt : j < l.length
  ·obtain ⟨q1, q2, q3, hq⟩ : ∃ a b c, l[j]! = (a, b, c) := ⟨_, _, _, rfl⟩
   have hm : (q1, q2, q3) ∈ l := by rw [← hq, getElem!_pos l j hlt]; exact List.getElem_mem hlt
   obtain ⟨hq1, hq2⟩ := hz _ hm
   dsimp only at hq1 hq2
   have hsome : l[j]? = some (q1, q2, q3) := by rw [← hq]; exact getD_some l j hlt
   have HQ := Lib.hid hq
   obtain ⟨_, c, rfl, hc, ⟨h0, hv⟩ | ⟨bl, o, hv, hbl, hcell⟩⟩ := PLr
   ·omega
   ·injection hv with hA _ hc2
    subst hA
    have c0 : wr.cell? ⟨bl, o + j * 3, none⟩ = some (.string (Txt q1)) := hcell _ _ (pcl_at l j _ hsome 0 _ rfl)
    clear hcell hc hc2 hq hm hsome
    go_wp2_with fail
    refine (rlowK q1 hq1 _).mono ?_
    rintro e w1 ⟨rfl, hK1⟩
    have K1 := Lib.hid (HK.out.trans hK1);clear hK1 c0
    go_wp2_with fail
    refine (rlowK nm hn _).mono ?_
    rintro e w2 ⟨rfl, hK2⟩
    have K2 := Lib.hid (K1.out.trans hK2);clear hK2
    cases hc : (lowL q1 == lowL nm)
    ·have bc : ((Txt (lowL q1)).toList == (Txt (lowL nm)).toList) = false := (str_beq _ _).trans hc
     have HC := Lib.hid (by rw [HQ.out]; exact hc : (lowL l[j]!.1 == lowL nm) = false)
     clear hc
     go_wp2_with fail
     go_roundg (l.length - j)
     case measure => omega
     case rel => exact ⟨j + 1, by omega, by omega, by go_num, HN.out.succ HC.out, K2.out⟩
    ·have bc : ((Txt (lowL q1)).toList == (Txt (lowL nm)).toList) = true := (str_beq _ _).trans hc
     have HC := Lib.hid (by rw [HQ.out]; exact hc : (lowL l[j]!.1 == lowL nm) = true)
     clear hc
     go_wp2_with fail
     go_ret
     exact ⟨ret_int (fndI_some l nm j hlt HC.out HN.out).symm, K2.out⟩
  ·clear PLr
   go_wp2_with fail
   go_ret
   exact ⟨ret_int (fndI_none l nm (fun m hm => HN.out m (by omega))).symm, HK.out⟩
def roomL (l : List Prm) (nm : List UInt8) : Int := if 0 ≤ fndI l nm then 7 else if 16 ≤ l.length then 4 else 0
theorem roomL_eq (l : List Prm) (nm : List UInt8) (h1 : ∀ q ∈ l, lowL q.1 = q.1) (h2 : lowL nm = nm) (h3 : l.length ≤ 16) : roomL l nm = room l nm := by
 have key : (0 ≤ fndI l nm) ↔ (l.any (fun q => q.1 == nm) = true) := by
  rcases fndI_cases l nm with ⟨hI, hno⟩ | ⟨k, hk, hI, hyes, _⟩
  ·rw [hI]
   constructor
   ·intro h; omega
   ·intro h
    obtain ⟨q, hq, he⟩ := List.any_eq_true.1 h
    obtain ⟨j, hj, rfl⟩ := List.mem_iff_getElem.1 hq
    have := hno j hj
    rw [getElem!_pos l j hj, h1 _ hq, h2, he] at this
    cases this
  ·rw [hI]
   constructor
   ·intro _
    rw [getElem!_pos l k hk, h1 _ (List.getElem_mem hk), h2] at hyes
    exact List.any_eq_true.2 ⟨_, List.getElem_mem hk, hyes⟩
   ·intro _; omega
 unfold roomL room
 by_cases h : 0 ≤ fndI l nm
 ·rw [if_pos h, if_pos (key.1 h)]
 ·rw [if_neg h, if_neg (fun h4 => h (key.2 h4))]
  by_cases h5 : l.length = 16
  ·rw [if_pos (by omega), if_pos h5]
  ·rw [if_neg (by omega), if_neg h5]
set_option maxRecDepth 100000 in
set_option maxHeartbeats 1000000 in
theorem rroom_any (B : Nat) (v : Value) (l : List Prm) (nm : List UInt8) (w : World) (hP : PmIn B w v l) (hB : B ≤ w.heap.size) (hz : SzP l) (hl : l.length ≤ 4194304) (hn : nm.length ≤ 2097152) :
   Calls Tryz.prog 141 #[v, .string (Txt nm)] w (ErK (roomL l nm) w) := by
 have HF := Lib.hid (rfind_any B v l nm w hP hB hz hl hn)
 obtain ⟨A, c, rfl⟩ := hP.form
 obtain ⟨i, hi⟩ : ∃ i, fndI l nm = i := ⟨_, rfl⟩
 have HI := Lib.hid hi;clear hP
 by_cases h0 : 0 ≤ i
 ·have HR := Lib.hid (by unfold roomL; rw [hi, if_pos h0] : roomL l nm = 7)
  clear hi
  go_enter Tryz.func141, Tryz.ntmps141
  go_wp2_with fail
  refine HF.out.mono ?_
  rintro e w1 ⟨rfl, hK1⟩
  rw [HI.out]
  go_wp2_with fail
  go_ret
  exact ⟨ret_int HR.out.symm, hK1⟩
 ·by_cases h16 : 16 ≤ l.length
  ·have HR := Lib.hid (by unfold roomL; rw [hi, if_neg h0, if_pos h16] : roomL l nm = 4)
   clear hi
   go_enter Tryz.func141, Tryz.ntmps141
   go_wp2_with fail
   refine HF.out.mono ?_
   rintro e w1 ⟨rfl, hK1⟩
   rw [HI.out]
   go_wp2_with fail
   go_ret
   exact ⟨ret_int HR.out.symm, hK1⟩
  ·have HR := Lib.hid (by unfold roomL; rw [hi, if_neg h0, if_neg h16] : roomL l nm = 0)
   clear hi
   go_enter Tryz.func141, Tryz.ntmps141
   go_wp2_with fail
   refine HF.out.mono ?_
   rintro e w1 ⟨rfl, hK1⟩
   rw [HI.out]
   go_wp2_with fail
   go_ret
   exact ⟨ret_int HR.out.symm, hK1⟩
set_option maxRecDepth 100000 in
set_option maxHeartbeats 1000000 in
theorem rget_any (B : Nat) (v : Value) (l : List Prm) (nm : List UInt8) (w : World) (hP : PmIn B w v l) (hB : B ≤ w.heap.size) (hz : SzP l) (hl : l.length ≤ 4194304) (hn : nm.length ≤ 2097152) :
   Calls Tryz.prog 84 #[v, .string (Txt nm)] w (GeP l nm w) := by
 have HF := Lib.hid (rfind_any B v l nm w hP hB hz hl hn)
 obtain ⟨n, c, hn2, hc, ⟨h0, rfl⟩ | ⟨b, o, rfl, hb, hcell2⟩⟩ := hP
 ·have hl0 : l = [] := List.eq_nil_of_length_eq_zero (by omega)
  subst hl0
  have HI := Lib.hid (show fndI [] nm = -1 from rfl)
  have HV := Lib.hid (show getV [] nm = [] from rfl)
  have HG := Lib.hid (show getB [] nm = false from rfl)
  clear h0 hn2 hc hz
  go_enter Tryz.func84, Tryz.ntmps84
  go_wp2_with fail
  refine HF.out.mono ?_
  rintro e w1 ⟨rfl, hK1⟩
  rw [HI.out]
  go_wp2_with fail
  go_ret2
  unfold GeP
  rw [HV.out, HG.out]
  exact ⟨rfl, hK1⟩
 ·have HN := Lib.hid hn2
  rcases fndI_cases l nm with ⟨hI, _⟩ | ⟨k, hk, hI, _⟩
  ·have HI := Lib.hid hI
   have HV := Lib.hid (by unfold getV; rw [if_pos (by rw [hI]; decide)] : getV l nm = [])
   have HG := Lib.hid (by unfold getB; rw [hI]; rfl : getB l nm = false)
   clear hI hn2 hc hcell2
   go_enter Tryz.func84, Tryz.ntmps84
   go_wp2_with fail
   refine HF.out.mono ?_
   rintro e w1 ⟨rfl, hK1⟩
   rw [HI.out]
   go_wp2_with fail
   go_ret2
   unfold GeP
   rw [HV.out, HG.out]
   exact ⟨rfl, hK1⟩
  ·obtain ⟨q1, q2, q3, hq⟩ : ∃ a b c, l[k]! = (a, b, c) := ⟨_, _, _, rfl⟩
   have HI := Lib.hid hI
   have HV := Lib.hid (by unfold getV; rw [if_neg (by rw [hI]; omega), hI, Int.toNat_natCast, hq] : getV l nm = q2)
   have HG := Lib.hid (by unfold getB; rw [hI]; simp : getB l nm = true)
   have hsome : l[k]? = some (q1, q2, q3) := by rw [← hq]; exact getD_some l k hk
   have c1 : w.cell? ⟨b, o + k * 3 + 1, none⟩ = some (.string (Txt q2)) := by rw [Nat.add_assoc]; exact hcell2 _ _ (pcl_at l k _ hsome 1 _ rfl)
   have hbw : b < w.heap.size := by omega
   have HC1 := Lib.hid c1
   have hkn : k < n := by omega
   clear hI hn2 hc hcell2 hq hsome c1
   go_enter Tryz.func84, Tryz.ntmps84
   go_wp2_with fail
   refine HF.out.mono ?_
   rintro e w1 ⟨rfl, hK1⟩
   rw [HI.out]
   have d1 := (hK1.cell (p := ⟨b, o + k * 3 + 1, none⟩) hbw (by simp)).trans HC1.out
   have HK1 := Lib.hid hK1;clear hK1
   go_wp2_with fail
   go_ret2
   unfold GeP
   rw [HV.out, HG.out]
   exact ⟨rfl, HK1.out⟩
def NoC (s : ByteArray) (k : Nat) : Prop := ((s.data.toList.take k).any fun c => ctlI c.toNat) = false
theorem noC_succ (s : ByteArray) (k : Nat) (h : k < s.size) (hN : NoC s k) (hc : ctlI s[k].toNat = false) : NoC s (k + 1) := by
 unfold NoC at hN ⊢
 rw [take_snoc s k h, List.any_append, hN]; simp [hc]
theorem noC_hit (s : ByteArray) (k : Nat) (h : k < s.size) (hc : ctlI s[k].toNat = true) : hasCtl s.data.toList = true := by
 unfold hasCtl
 exact List.any_eq_true.2 ⟨s[k], by simp [ByteArray.getElem_eq_getElem_data], hc⟩
theorem noC_end (s : ByteArray) (k : Nat) (h : s.size ≤ k) (hN : NoC s k) : hasCtl s.data.toList = false := by
 unfold NoC at hN
 rw [List.take_of_length_le (by rw [len_list]; exact h)] at hN
 exact hN
set_option maxRecDepth 100000 in
set_option maxHeartbeats 1000000 in
theorem rplain_any (s : ByteArray) (w : World) (hs : s.size ≤ 2097152) : Calls Tryz.prog 140 #[.string s] w (Ret (.bool (!hasCtl s.data.toList)) w) := by
 go_enter Tryz.func140, Tryz.ntmps140
 go_wp2_with fail
 go_loop [3] (fun i => ∃ k : Nat, k ≤ s.size ∧ i = .int .i64 k ∧ NoC s k) (fun i => s.size - (intOf i).toNat)
 case atStart => exact ⟨0, by omega, rfl, by unfold NoC; simp⟩
 case round =>
  obtain ⟨k, hk, rfl, hN⟩ := hrel
  have HN := Lib.hid hN;clear hN
  by_cases hlt : k < s.size
  ·cases hc : ctlI s[k].toNat
   ·have HC := Lib.hid hc
    have HR := Lib.hid (fun wz => (rctl_any s[k].toNat wz))
    rw [hc] at HR
    clear hc
    go_wp2_with fail
    refine (HR.out _).mono ?_
    rintro e w' ⟨rfl, rfl⟩
    go_wp2_with fail
    go_round
    case rel => exact ⟨k + 1, by omega, by go_num, noC_succ s k hlt HN.out HC.out⟩
    case measure => simp [intOf]; omega
   ·have HC := Lib.hid hc
    have HR := Lib.hid (fun wz => (rctl_any s[k].toNat wz))
    rw [hc] at HR
    clear hc
    go_wp2_with fail
    refine (HR.out _).mono ?_
    rintro e w' ⟨rfl, rfl⟩
    go_wp2_with fail
    go_ret
    exact ⟨ret_bool (by rw [noC_hit s k hlt HC.out]; rfl), rfl⟩
  ·go_wp2_with fail
   go_ret
   exact ⟨ret_bool (by rw [noC_end s k (by omega) HN.out]; rfl), rfl⟩
def brkB (l : List UInt8) : Bool := decide (l.head? = some 91) && decide (hostO l = some l)
theorem pvL_brk (l : List UInt8) : pvL l = if tokB l || brkB l then l else [34] ++ escL l ++ [34] := rfl
set_option maxRecDepth 100000 in
set_option maxHeartbeats 1000000 in
theorem rBracketed_any (l : List UInt8) (w : World) (hs : l.length ≤ 2097152) : Calls Tryz.prog 142 #[.string (Txt l)] w (BoK (brkB l) w) := by
 have H0 := rHost_any (Txt l) w (by rw [txt_size]; exact hs)
 rw [txt_list] at H0
 obtain ⟨o, ho⟩ : ∃ o, hostO l = o := ⟨_, rfl⟩
 rw [ho] at H0
 have HH := Lib.hid H0;clear H0
 have hsz : (Txt l).size ≤ 2097152 := by rw [txt_size]; exact hs
 cases o with
 | none =>
   have HR := Lib.hid (by unfold brkB; rw [ho]; simp : brkB l = false)
   clear ho
   go_enter Tryz.func142, Tryz.ntmps142
   go_wp2_with fail
   refine HH.out.mono ?_
   rintro e w1 ⟨rfl, hB⟩
   go_wp2_with fail
   go_ret
   exact ⟨ret_bool HR.out.symm, (Kp.refl [] w).below hB⟩
 | some h =>
   by_cases hh : h = l
   ·subst hh
    have bs : ((Txt h).toList == (Txt h).toList) = true := beq_self_eq_true _
    have h1 : 0 < (Txt h).size := by
     rw [txt_size]
     rcases Nat.eq_zero_or_pos h.length with h0 | h0
     ·have : h = [] := List.eq_nil_of_length_eq_zero h0
      rw [this] at ho; exact absurd ho (by decide +kernel)
     ·exact h0
    have hd := head_91 (Txt h) h1
    rw [txt_list] at hd
    by_cases h91 : (Txt h)[0].toNat = 91
    ·have b9 : (((Txt h)[0].toNat : Int) == 91) = true := by rw [h91]; rfl
     have HR := Lib.hid (by unfold brkB; rw [ho, hd.2 h91]; simp : brkB h = true)
     clear ho hd h91
     go_enter Tryz.func142, Tryz.ntmps142
     go_wp2_with fail
     refine HH.out.mono ?_
     rintro e w1 ⟨rfl, hB⟩
     go_wp2_with fail
     go_ret
     exact ⟨ret_bool HR.out.symm, (Kp.refl [] w).below hB⟩
    ·have b9 : (((Txt h)[0].toNat : Int) == 91) = false := by rw [beq_eq_false_iff_ne]; omega
     have HR := Lib.hid (by unfold brkB; rw [decide_eq_false (fun h2 => h91 (hd.1 h2))]; rfl : brkB h = false)
     clear ho hd h91
     go_enter Tryz.func142, Tryz.ntmps142
     go_wp2_with fail
     refine HH.out.mono ?_
     rintro e w1 ⟨rfl, hB⟩
     go_wp2_with fail
     go_ret
     exact ⟨ret_bool HR.out.symm, (Kp.refl [] w).below hB⟩
   ·have bs : ((Txt h).toList == (Txt l).toList) = false := txt_beq _ _ hh
    have HR := Lib.hid (by unfold brkB; rw [ho]; simp [hh] : brkB l = false)
    clear ho hh
    go_enter Tryz.func142, Tryz.ntmps142
    go_wp2_with fail
    refine HH.out.mono ?_
    rintro e w1 ⟨rfl, hB⟩
    go_wp2_with fail
    go_ret
    exact ⟨ret_bool HR.out.symm, (Kp.refl [] w).below hB⟩
end Ad
end Go.Proofs.YtmmjfofdnpafkaaGreatDoor
namespace Go.Proofs.YtmmjfofdnpafkaaGreatDoor
namespace Ad
open Go.RowKit Lx
theorem rtokE (s : ByteArray) (k : Nat) (w : World) (hs : s.size ≤ 2097152) (hk : k ≤ s.size) : Calls Tryz.prog 77 #[.string s, .int .i64 k] w (Ret (.int .i64 (tokE s.data.toList k : Nat)) w) := by
 have := rtokenEnd_any s k w (by unfold maxLen; omega)
 rwa [tokE_bhd s k hk] at this
theorem rblkE (s : ByteArray) (k : Nat) (w : World) (hs : s.size ≤ 2097152) (hk : k ≤ s.size) : Calls Tryz.prog 78 #[.string s, .int .i64 k] w (Ret (.int .i64 (blkE s.data.toList k : Nat)) w) := by
 have := rblanks_any s k w (by unfold maxLen; omega)
 rwa [blkE_bhd s k hk] at this
theorem brk_end (l : List UInt8) (k : Nat) (h91 : atB l k = 91) (h : List UInt8) (ho : hostO (slc l k (min (endP (· == 93) l k + 1) l.length)) = some h) : endP (· == 93) l k < l.length := by
 have hk := atB_lt l k (by rw [h91]; decide)
 have hle := endP_le (· == 93) l k (by omega)
 rcases Nat.lt_or_ge (endP (· == 93) l k) l.length with h1 | h1
 ·exact h1
 ·exfalso
  have he : endP (· == 93) l k = l.length := by omega
  rw [he, Nat.min_eq_right (by omega), slc_full _ _ _ (Nat.le_refl _)] at ho
  have hr : runL (fun c => !(c == 93)) (l.drop k) = (l.drop k).length := by
   have he2 : k + runL (fun c => !(c == 93)) (l.drop k) = l.length := he
   rw [List.length_drop]; omega
  rw [runL_full] at hr
  have h9 : l[k].toNat = 91 := by unfold atB at h91; rw [List.getElem?_eq_getElem hk] at h91; dsimp only at h91; omega
  have hd : (l.drop k).head? = some 91 := by
   rw [List.head?_drop, List.getElem?_eq_getElem hk, Option.some_inj, ← UInt8.toNat_inj]; exact h9
  unfold hostO at ho
  rw [if_pos hd] at ho
  split at ho
  ·rename_i hlast
   have h1 := List.mem_of_getLast? hlast
   have h2 := List.mem_of_mem_tail h1;have h3 := List.all_eq_true.1 hr _ h2
   simp at h3
  ·cases ho
def VaP (r : List UInt8 × Nat × Int) (w : World) (e : Ending) (w' : World) : Prop := e = .returned (.tuple #[.string (Txt r.1), .int .i64 (r.2.1 : Nat), .int .u8 r.2.2]) ∧ Kp [] w w'
set_option maxRecDepth 100000 in
set_option maxHeartbeats 2000000 in
theorem rvalue_any (s : ByteArray) (k : Nat) (w : World) (hs : s.size ≤ 2097152) (hk : k ≤ s.size) :
   Calls Tryz.prog 155 #[.string s, .int .i64 k] w (VaP (valR s.data.toList k) w) := by
 by_cases h34 : atB s.data.toList k = 34
 ·have hlt := atB_lt _ _ (by rw [h34]; decide : atB s.data.toList k ≠ -1)
  rw [len_list] at hlt
  have h3 := h34
  rw [atB_get s k hlt] at h3
  have b34 : ((s[k].toNat : Int) == 34) = true := by rw [h3]; rfl
  have HV := Lib.hid (by unfold valR; rw [if_pos h34] : valR s.data.toList k = (uqT s.data.toList k, (uqN s.data.toList k).toNat, uqE s.data.toList k))
  have HN := Lib.hid (by rw [(uq34 _ _ h34).1, Int.toNat_natCast] : uqN s.data.toList k = ((uqN s.data.toList k).toNat : Int))
  clear h34 h3
  go_enter Tryz.func155, Tryz.ntmps155
  go_wp2_with fail
  refine (runquote_any s k _ (by omega)).mono ?_
  rintro e w1 ⟨rfl, hB⟩
  go_wp2_with fail
  go_ret3
  unfold VaP
  rw [HV.out]
  exact ⟨ret_3 rfl HN.out rfl, (Kp.refl [] w).below hB⟩
 ·by_cases h91 : atB s.data.toList k = 91
  ·have hlt := atB_lt _ _ (by rw [h91]; decide : atB s.data.toList k ≠ -1)
   rw [len_list] at hlt
   have h3 := h91
   rw [atB_get s k hlt] at h3
   have b34 : ((s[k].toNat : Int) == 34) = false := by rw [h3]; rfl
   have b91 : ((s[k].toNat : Int) == 91) = true := by rw [h3]; rfl
   obtain ⟨n, hn⟩ : ∃ n, endP (· == 93) s.data.toList k = n := ⟨_, rfl⟩
   have hnk : k ≤ n := by rw [← hn]; exact endP_ge _ _ _
   have hns : n ≤ s.size := by rw [← hn, ← len_list]; exact endP_le _ _ _ (by rw [len_list]; exact hk)
   obtain ⟨m, hm⟩ : ∃ m, min (n + 1) s.size = m := ⟨_, rfl⟩
   have HV : Hid (valR s.data.toList k = match hostO (slc s.data.toList k m) with | some h => (h, m, 0) | none => ([], k, 5)) := by
    have : valR s.data.toList k = match hostO (slc s.data.toList k m) with | some h => (h, m, 0) | none => ([], k, 5) := by
     unfold valR; rw [if_neg h34, if_pos h91, hn, len_list, hm]; rfl
    exact this
   have HEd := Lib.hid (fun h (ho : hostO (slc s.data.toList k m) = some h) => (by have := brk_end s.data.toList k h91 h (by rw [hn, len_list, hm]; exact ho); rw [hn, len_list] at this; omega : n + 1 = m))
   have hkm : k ≤ m := by omega
   have hms : m ≤ s.size := by omega
   have HM := Lib.hid (by omega : min ((n : Int) + 1) (s.size : Int) = (m : Int))
   have HX := Lib.hid (slc_txt s k m);have Hn := Lib.hid hn;clear h34 h91 h3 hn hm
   go_enter Tryz.func155, Tryz.ntmps155
   go_wp2_with fail
   go_loop [7] (fun i => ∃ j : Nat, k ≤ j ∧ j ≤ s.size ∧ i = .int .i64 j ∧ endP (· == 93) s.data.toList j = n) (fun i => s.size - (intOf i).toNat)
   case atStart => exact ⟨k, by omega, by omega, rfl, Hn.out⟩
   case round =>
    obtain ⟨j, hkj, hj, rfl, he⟩ := hrel
    by_cases hjs : j < s.size
    ·by_cases h93 : s[j].toNat = 93
     ·have b93 : ((s[j].toNat : Int) == 93) = true := by rw [h93]; rfl
      have b93n : ((s[j].toNat : Int) != 93) = false := by rw [h93]; rfl
      have hjn : j = n := by rw [← he]; exact (endP_at_k (· == 93) s j hjs b93).symm
      subst hjn
      have hmin := HM.out;have HJ := Lib.hid hjs;clear he h93
      go_wp2_with fail
      rw [HX.out]
      refine (rHost_any (Txt (slc s.data.toList k m)) _ (by rw [txt_size]; have := slc_le s.data.toList k m; omega)).mono ?_
      rintro e w3 ⟨rfl, hB⟩
      rw [txt_list]
      cases ho : hostO (slc s.data.toList k m) with
      | none =>
        have HR := Lib.hid (HV.out.trans (by rw [ho]))
        clear ho hmin
        go_wp2_with fail
        go_ret3
        unfold VaP
        rw [HR.out]
        exact ⟨rfl, (Kp.refl [] w).below hB⟩
      | some h =>
        have HR := Lib.hid (HV.out.trans (by rw [ho]))
        have HE := Lib.hid (HEd.out h ho);clear ho hmin
        go_wp2_with fail
        go_ret3
        unfold VaP
        rw [HR.out]
        exact ⟨ret_3 rfl (by have := HE.out; show ((j : Int) + 1) = ((m : Nat) : Int); omega) rfl, (Kp.refl [] w).below hB⟩
     ·have b93 : ((s[j].toNat : Int) == 93) = false := by rw [beq_eq_false_iff_ne]; omega
      have b93n : ((s[j].toNat : Int) != 93) = true := by rw [bne_iff_ne]; omega
      have HE := Lib.hid ((endP_next (· == 93) s j hjs b93).symm.trans he)
      clear he h93
      go_wp2_with fail
      go_round
      case rel => exact ⟨j + 1, by omega, by omega, by go_num, HE.out⟩
      case measure => simp [intOf]; omega
    ·have hjn : j = n := by rw [← he]; exact (endP_out (· == 93) s j (by omega)).symm
     subst hjn
     have hmin := HM.out;clear he
     go_wp2_with fail
     rw [HX.out]
     refine (rHost_any (Txt (slc s.data.toList k m)) _ (by rw [txt_size]; have := slc_le s.data.toList k m; omega)).mono ?_
     rintro e w3 ⟨rfl, hB⟩
     rw [txt_list]
     cases ho : hostO (slc s.data.toList k m) with
     | none =>
       have HR := Lib.hid (HV.out.trans (by rw [ho]))
       clear ho hmin
       go_wp2_with fail
       go_ret3
       unfold VaP
       rw [HR.out]
       exact ⟨rfl, (Kp.refl [] w).below hB⟩
     | some h =>
       exfalso
       have := HEd.out h ho
       omega
  ·have HT := fun wz => rtokE s k wz hs hk
   obtain ⟨n, hn⟩ : ∃ n, tokE s.data.toList k = n := ⟨_, rfl⟩
   obtain ⟨n1, n2⟩ := tokE_bd s k hk
   rw [hn] at n1 n2 HT
   have HT := Lib.hid HT;have HX := Lib.hid (slc_txt s k n)
   have HV := Lib.hid (by unfold valR; rw [if_neg h34, if_neg h91, hn] : valR s.data.toList k = if n = k then ([], k, 5) else (slc s.data.toList k n, n, 0))
   by_cases hlt : k < s.size
   ·have h3 := h34
    have h9 := h91
    rw [atB_get s k hlt] at h3 h9
    have b34 : ((s[k].toNat : Int) == 34) = false := by rw [beq_eq_false_iff_ne]; exact h3
    have b91 : ((s[k].toNat : Int) == 91) = false := by rw [beq_eq_false_iff_ne]; exact h9
    clear h34 h91 h3 h9 hn
    by_cases hz : n = k
    ·have bz : ((n : Int) == (k : Int)) = true := by rw [hz]; exact beq_self_eq_true _
     have HR := Lib.hid (HV.out.trans (if_pos hz));clear hz
     go_enter Tryz.func155, Tryz.ntmps155
     go_wp2_with fail
     refine (HT.out _).mono ?_
     rintro e w' ⟨rfl, rfl⟩
     go_wp2_with fail
     go_ret3
     unfold VaP
     rw [HR.out]
     exact ⟨rfl, Kp.refl _ _⟩
    ·have bz : ((n : Int) == (k : Int)) = false := by rw [beq_eq_false_iff_ne]; omega
     have HR := Lib.hid (HV.out.trans (if_neg hz));clear hz
     go_enter Tryz.func155, Tryz.ntmps155
     go_wp2_with fail
     refine (HT.out _).mono ?_
     rintro e w' ⟨rfl, rfl⟩
     go_wp2_with fail
     go_ret3
     unfold VaP
     rw [HR.out]
     exact ⟨ret_3 HX.out rfl rfl, Kp.refl _ _⟩
   ·have hz : n = k := by omega
    have bz : ((n : Int) == (k : Int)) = true := by rw [hz]; exact beq_self_eq_true _
    have HR := Lib.hid (HV.out.trans (if_pos hz));clear h34 h91 hn hz
    go_enter Tryz.func155, Tryz.ntmps155
    go_wp2_with fail
    refine (HT.out _).mono ?_
    rintro e w' ⟨rfl, rfl⟩
    go_wp2_with fail
    go_ret3
    unfold VaP
    rw [HR.out]
    exact ⟨rfl, Kp.refl _ _⟩
end Ad
end Go.Proofs.YtmmjfofdnpafkaaGreatDoor
namespace Go.Proofs.YtmmjfofdnpafkaaGreatDoor
namespace Ad
open Go.RowKit Lx
theorem pmR_none (l : List UInt8) (k : Nat) (h : tokE l k = k) : pmR l k = (([], [], false), k, 5) := by unfold pmR; rw [if_pos h]
theorem pmR_bare (l : List UInt8) (k : Nat) (h : tokE l k ≠ k) (h2 : atB l (blkE l (tokE l k)) ≠ 61) : pmR l k = ((lowL (slc l k (tokE l k)), [], false), blkE l (tokE l k), 0) := by unfold pmR; rw [if_neg h, if_neg h2]
theorem pmR_val (l : List UInt8) (k : Nat) (h : tokE l k ≠ k) (h2 : atB l (blkE l (tokE l k)) = 61) : pmR l k = ((lowL (slc l k (tokE l k)), (valR l (blkE l (blkE l (tokE l k) + 1))).1, true), (valR l (blkE l (blkE l (tokE l k) + 1))).2) := by unfold pmR; rw [if_neg h, if_pos h2]
structure AccL (acc : List Prm) : Prop where
 len : acc.length ≤ 16
 low : ∀ q ∈ acc, lowL q.1 = q.1
 sz : SzP acc
theorem AccL.nil : AccL [] := ⟨by simp, (fun q hq => nomatch hq), (fun q hq => nomatch hq)⟩
theorem AccL.snoc {acc : List Prm} (h : AccL acc) {q : Prm} (h1 : lowL q.1 = q.1) (h2 : q.1.length ≤ 2097152) (h3 : q.2.1.length ≤ 2097152) (h4 : acc.length ≤ 15) : AccL (acc ++ [q]) :=
 ⟨by rw [List.length_append, List.length_singleton]; omega, fun p hp => by
  rcases List.mem_append.1 hp with h5 | h5
  ·exact h.low p h5
  ·rw [List.mem_singleton.1 h5]; exact h1, fun p hp => by
  rcases List.mem_append.1 hp with h5 | h5
  ·exact h.sz p h5
  ·rw [List.mem_singleton.1 h5]; exact ⟨h2, h3⟩⟩
theorem AccL.room {acc : List Prm} (h : AccL acc) (nm : List UInt8) (h1 : lowL nm = nm) : roomL acc nm = Ad.room acc nm := roomL_eq acc nm h.low h1 h.len
theorem runL_drop (p : Int → Bool) : ∀ l : List UInt8, runL p (l.drop (runL p l)) = 0 := by
 intro l
 induction l with
 | nil => rfl
 | cons c t ih =>
   cases hc : p c.toNat
   ·have : runL p (c :: t) = 0 := by unfold runL; rw [hc]; rfl
    rw [this, List.drop_zero]; exact this
   ·have : runL p (c :: t) = runL p t + 1 := by rw [runL, hc]; simp
    rw [this, List.drop_succ_cons, ih]
theorem blkE_idem (l : List UInt8) (k : Nat) : blkE l (blkE l k) = blkE l k := by
 unfold blkE
 have := runL_drop blankI (l.drop k)
 rw [List.drop_drop] at this
 omega
theorem qText_len : ∀ (l : List UInt8), (qText l).length ≤ l.length := by
 intro l
 induction hn : l.length using Nat.strongRecOn generalizing l with
 | _ n ih =>
   cases l with
   | nil => rw [qText.eq_def]; simp
   | cons c t =>
     by_cases h1 : c.toNat = 34
     ·rw [qText_quote c t h1]; simp
     ·by_cases h2 : c.toNat = 92
      ·cases t with
       | nil => rw [qText.eq_def]; simp [h1, h2]
       | cons d u =>
         rw [qText_two c d u h2]
         have := ih u.length (by simp at hn; omega) u rfl
         simp at hn ⊢; omega
      ·rw [qText_one c t h1 h2]
       have := ih t.length (by simp at hn; omega) t rfl
       simp at hn ⊢; omega
theorem unq_len (l : List UInt8) (k : Int) : (uqT l k).length ≤ l.length := by
 unfold uqT
 split
 ·simp
 ·have := qText_len (l.drop (k.toNat + 1))
  rw [List.length_drop] at this; omega
theorem valR_len (l : List UInt8) (k : Nat) : (valR l k).1.length ≤ l.length + 86 := by
 unfold valR
 split
 ·have := unq_len l k; dsimp only; omega
 ·split
  ·cases ho : hostO (slc l k (min (endP (· == 93) l k + 1) l.length)) with
   | none => simp
   | some h => have h1 := hostO_len _ _ ho; have h2 := slc_lel l k (min (endP (· == 93) l k + 1) l.length); dsimp only; omega
  ·split
   ·simp
   ·have := slc_lel l k (tokE l k); dsimp only; omega
set_option maxRecDepth 100000 in
set_option maxHeartbeats 8000000 in
theorem rParams_any (s : ByteArray) (w : World) (hs : s.size ≤ 1048576) :
   Calls Tryz.prog 83 #[.string s] w (PaP (parR s.data.toList) w) := by
 obtain ⟨R, hR⟩ : ∃ R, parR s.data.toList = R := ⟨_, rfl⟩
 have HR := Lib.hid (show parF (s.data.toList.length + 1) s.data.toList (blkE s.data.toList 0) [] = R from hR)
 rw [hR]
 obtain ⟨a, ha⟩ : ∃ a, blkE s.data.toList 0 = a := ⟨_, rfl⟩
 obtain ⟨a1, a2⟩ := blkE_bd s 0 (by omega)
 rw [ha] at a1 a2
 have HA := Lib.hid ha
 have hBk := rblkE s 0 w (by omega) (by omega)
 rw [ha] at hBk
 have HBk := Lib.hid hBk
 obtain ⟨i0, hi, hz0, hz1, hz2⟩ := info_parts infoPrm3
 clear hR ha hBk
 go_enter Tryz.func83, Tryz.ntmps83
 go_wp2_with fail
 refine HBk.out.mono ?_
 rintro e w' ⟨rfl, rfl⟩
 go_wp2_with fail
 go_loopg [5, 6] (s.size + 1) (fun gg v i wr => ∃ (j n : Nat) (acc : List Prm) (vA : Option Addr) (vC : Nat), v = .slice vA acc.length vC ∧ j ≤ s.size ∧ s.size - j < n ∧ s.size - j < gg ∧ i = .int .i64 j ∧ parF n s.data.toList j acc = R ∧ wr.ownsRow w.heap.size 72 3 (.slice vA acc.length vC) acc.length (pcl acc) ∧ AccL acc ∧ Kp [] w wr)
 case atStart => exact ⟨a, s.data.toList.length + 1, [], none, 0, rfl, a2, by rw [len_list]; omega, by omega, rfl, by rw [← HA.out]; exact HR.out, World.ownsRow_nil _ _ _ _, AccL.nil, Kp.refl _ _⟩
 case round =>
  obtain ⟨j, n, acc, vA, vC, rfl, hj, hn, hg, rfl, hr, hown, hacc, hK⟩ := hrel
  have Hr := Lib.hid hr;have Ho := Lib.hid hown;have HK := Lib.hid hK;have HAc := Lib.hid hacc;have hl16 := hacc.len;have hsz := hK.size;clear hr hown hacc hK
  obtain ⟨n, rfl⟩ : ∃ m, n = m + 1 := ⟨n - 1, by omega⟩
  by_cases hlt : j < s.size
  ·have hlt' : j < s.data.toList.length := by rw [len_list]; exact hlt
   by_cases h59 : atB s.data.toList j = 59
   ·have h5 := h59
    rw [atB_get s j hlt] at h5
    have b59 : ((s[j].toNat : Int) != 59) = false := by rw [h5]; rfl
    obtain ⟨f, hf⟩ : ∃ f, blkE s.data.toList (j + 1) = f := ⟨_, rfl⟩
    obtain ⟨f1, f2⟩ := blkE_bd s (j + 1) hlt
    obtain ⟨t, ht⟩ : ∃ t, tokE s.data.toList f = t := ⟨_, rfl⟩
    obtain ⟨t1, t2⟩ := tokE_bd s f (by omega)
    have H1 := fun wz => rblkE s (j + 1) wz (by omega) (by omega)
    have H2 := fun wz => rtokE s f wz (by omega) (by omega)
    rw [hf] at f1 f2 H1
    rw [ht] at t1 t2 H2
    have H1 := Lib.hid (fun wz => (by have h := H1 wz; rwa [show (((j + 1 : Nat) : Int)) = (j : Int) + 1 from rfl] at h : Calls Tryz.prog 78 #[.string s, .int .i64 ((j : Int) + 1)] wz (Ret (.int .i64 (f : Nat)) wz)))
    have H2 := Lib.hid H2;have Hf := Lib.hid hf;have Ht := Lib.hid ht;have H59 := Lib.hid h59;clear h5 h59
    by_cases htf : t = f
    ·have btf : ((t : Int) == (f : Int)) = true := by rw [htf]; exact beq_self_eq_true _
     have HX := Lib.hid (Hr.out.symm.trans ((parF_err2 n s.data.toList j acc hlt' H59.out (by rw [hf, pmR_none _ _ (by rw [ht]; exact htf)]; simp)).trans (by rw [hf, pmR_none _ _ (by rw [ht]; exact htf)])) : R = ([], f, 5))
     clear hf ht htf
     go_wp2_with fail
     refine (H1.out _).mono ?_
     rintro e w' ⟨rfl, rfl⟩
     go_wp2_with fail
     refine (H2.out _).mono ?_
     rintro e w' ⟨rfl, rfl⟩
     go_wp2_with fail
     go_ret3
     exact ⟨_, by rw [HX.out]; rfl, by rw [HX.out]; exact PmIn.nil _ _, HK.out.nilBelow, by rw [HX.out]; simp⟩
    ·have btf : ((t : Int) == (f : Int)) = false := by rw [beq_eq_false_iff_ne]; omega
     have Hne := Lib.hid (by rw [ht]; exact htf : tokE s.data.toList f ≠ f)
     obtain ⟨nm, hnm⟩ : ∃ x, slc s.data.toList f t = x := ⟨_, rfl⟩
     have hnl : nm.length ≤ 1048576 := by rw [← hnm]; have := slc_lel s.data.toList f t; rw [len_list] at this; omega
     have HXt := Lib.hid (by rw [slc_txt, hnm] : s.extract f t = Txt nm)
     obtain ⟨L, hL⟩ : ∃ x, lowL nm = x := ⟨_, rfl⟩
     have hLl : L.length ≤ 1048576 := by rw [← hL, lowL_len]; exact hnl
     have HLL := Lib.hid (by rw [← hL]; exact lowL_idem nm : lowL L = L)
     have HLw := fun wz => rlowK nm (by omega) wz
     rw [hL] at HLw
     have HLw := Lib.hid HLw
     obtain ⟨u, hu⟩ : ∃ u, blkE s.data.toList t = u := ⟨_, rfl⟩
     obtain ⟨u1, u2⟩ := blkE_bd s t (by omega)
     have H3 := fun wz => rblkE s t wz (by omega) (by omega)
     rw [hu] at u1 u2 H3
     have H3 := Lib.hid H3
     have Hnm := Lib.hid (by rw [ht, hnm, hL] : lowL (slc s.data.toList f (tokE s.data.toList f)) = L)
     have Hu := Lib.hid (by rw [ht, hu] : blkE s.data.toList (tokE s.data.toList f) = u)
     clear hf ht htf hnm hL hu
     go_wp2_with fail
     refine (H1.out _).mono ?_
     rintro e w' ⟨rfl, rfl⟩
     go_wp2_with fail
     refine (H2.out _).mono ?_
     rintro e w' ⟨rfl, rfl⟩
     go_wp2_with fail
     rw [HXt.out]
     refine (HLw.out _).mono ?_
     rintro e w3 ⟨rfl, hK3⟩
     have O3 := Lib.hid (own_kp Ho.out hK3 (by simp))
     have K3 := Lib.hid (HK.out.trans hK3)
     go_wp2_with fail
     obtain ⟨wA, hwA⟩ : ∃ wA, w3.alloc (.cells #[.string (Txt L), .string ⟨#[]⟩, .bool false] 72) = wA := ⟨_, rfl⟩
     have BA := show Blk wA w3.heap.size 72 #[.string (Txt L), .string ⟨#[]⟩, .bool false] from by rw [← hwA]; exact Blk.new w3 _ _
     have hKA : Kp [] w3 wA := by rw [← hwA]; exact (Kp.refl [] w3).alloc _
     have OA := Lib.hid (own_kp O3.out hKA (by simp))
     have KA := Lib.hid (K3.out.trans hKA);have hsz3 := hK3.size;have hszA := hKA.size;have HBA := Lib.hid BA;clear hK3 hKA BA
     rw [hwA]
     clear hwA
     refine (H3.out _).mono ?_
     rintro e w' ⟨rfl, rfl⟩
     by_cases h61 : atB s.data.toList u = 61
     ·have hus := atB_lt s.data.toList u (by rw [h61]; decide)
      rw [len_list] at hus
      have h6 := h61
      rw [atB_get s u hus] at h6
      have b61 : ((s[u].toNat : Int) == 61) = true := by rw [h6]; rfl
      obtain ⟨y, hy⟩ : ∃ y, blkE s.data.toList (u + 1) = y := ⟨_, rfl⟩
      obtain ⟨y1, y2⟩ := blkE_bd s (u + 1) hus
      have H4 := fun wz => rblkE s (u + 1) wz (by omega) (by omega)
      rw [hy] at y1 y2 H4
      have H4 := Lib.hid (fun wz => (by have h := H4 wz; rwa [show (((u + 1 : Nat) : Int)) = (u : Int) + 1 from rfl] at h : Calls Tryz.prog 78 #[.string s, .int .i64 ((u : Int) + 1)] wz (Ret (.int .i64 (y : Nat)) wz)))
      have H5 := fun wz => rvalue_any s y wz (by omega) (by omega)
      obtain ⟨q2, m, x, hv⟩ : ∃ a b c, valR s.data.toList y = (a, b, c) := ⟨_, _, _, rfl⟩
      have hvl := valR_len s.data.toList y
      have hok := val_ok s y (by omega)
      rw [hv] at hvl H5 hok
      dsimp only at hvl hok
      rw [len_list] at hvl
      have H5 := Lib.hid H5
      have HP := Lib.hid (by rw [pmR_val _ _ Hne.out (by rw [Hu.out]; exact h61), Hnm.out, Hu.out, hy, hv] : pmR s.data.toList f = ((L, q2, true), m, x))
      clear h61 h6 hy hv
      by_cases hx0 : x = 0
      ·subst hx0
       have hm2 := (hok rfl).2;have hm1 := (hok rfl).1;clear hok
       obtain ⟨k2, hk2⟩ : ∃ k2, blkE s.data.toList m = k2 := ⟨_, rfl⟩
       obtain ⟨k21, k22⟩ := blkE_bd s m hm2
       have H6 := fun wz => rblkE s m wz (by omega) (by omega)
       rw [hk2] at k21 k22 H6
       have H6 := Lib.hid H6;have Hk2 := Lib.hid hk2;clear hk2
       go_wp2_with fail
       refine (H4.out _).mono ?_
       rintro e w' ⟨rfl, rfl⟩
       go_wp2_with fail
       refine (H5.out _).mono ?_
       rintro e w5 ⟨rfl, hK5⟩
       dsimp only
       have B5 := Lib.hid (HBA.out.kp hK5 (by simp))
       have O5 := Lib.hid (own_kp OA.out hK5 (by simp))
       have K5 := Lib.hid (KA.out.trans hK5);have hsz5 := hK5.size;have c1 := B5.out.cell 1;have c2 := B5.out.cell 2;have f1 := B5.out.frozen 1;have f2' := B5.out.frozen 2;have B6 := Lib.hid ((B5.out.set_ 1 (.string (Txt q2))).set_ 2 (.bool true))
       have hK6 := ((Kp.refl [w3.heap.size] w5).setCell (p := ⟨w3.heap.size, 1, none⟩) (.inl (by simp)) (.string (Txt q2))).setCell (p := ⟨w3.heap.size, 2, none⟩) (.inl (by simp)) (.bool true)
       have K6 := Lib.hid ((K5.out.setCell (p := ⟨w3.heap.size, 1, none⟩) (.inr (by show _ ≤ w3.heap.size; omega)) (.string (Txt q2))).setCell (p := ⟨w3.heap.size, 2, none⟩) (.inr (by show _ ≤ w3.heap.size; omega)) (.bool true))
       have hown3 : ∀ k, Value.ownBlock (.slice vA acc.length vC) = some k → k ≠ w3.heap.size := fun k hk => by have := (O3.out.lt k hk).2; omega
       have O6 := Lib.hid (own_other (i := 2) (u := .bool true) (own_other (i := 1) (u := .string (Txt q2)) O5.out hown3) hown3)
       clear hown3;clear hK5 hK6
       go_wp2_with fail
       obtain ⟨w6, hw6⟩ : ∃ w6, (w5.setCell ⟨w3.heap.size, 1, none⟩ (.string (Txt q2))).setCell ⟨w3.heap.size, 2, none⟩ (.bool true) = w6 := ⟨_, rfl⟩
       rw [hw6] at B6 O6 K6 ⊢
       clear hw6 c1 c2 f1 f2'
       refine (H6.out _).mono ?_
       rintro e w' ⟨rfl, rfl⟩
       have HR2 := Lib.hid (fun (wz : World) (h : Kp [] w wz) (ho : wz.ownsRow w.heap.size 72 3 (.slice vA acc.length vC) acc.length (pcl acc)) => (by have h3 := rroom_any _ _ acc L wz (own_pm ho) (Nat.le_refl _) HAc.out.sz (by omega) (by omega); rwa [HAc.out.room L HLL.out] at h3 : Calls Tryz.prog 141 #[.slice vA acc.length vC, .string (Txt L)] wz (ErK (room acc L) wz)))
       have d0 := B6.out.cell 0
       obtain ⟨rm, hrm⟩ : ∃ r, room acc L = r := ⟨_, rfl⟩
       rw [hrm] at HR2
       by_cases hr0 : rm = 0
       ·subst hr0
        have hl15 : acc.length ≤ 15 := by have := ((room_iff acc L).1 hrm).2; omega
        have HX2 := Lib.hid (Hr.out.symm.trans ((parF_step n s.data.toList j acc hlt' H59.out (by rw [Hf.out, HP.out]) (by rw [Hf.out, HP.out]; exact hrm)).trans (by rw [Hf.out, HP.out]; dsimp only; rw [Hk2.out])) : R = parF n s.data.toList k2 (acc ++ [(L, q2, true)]))
        clear hrm
        go_wp2_with fail
        refine (HR2.out _ K6.out O6.out).mono ?_
        rintro e w8 ⟨rfl, hK8⟩
        have B8 := Lib.hid (B6.out.kp hK8 (by simp))
        have O8 := Lib.hid (own_kp O6.out hK8 (by simp))
        have K8 := Lib.hid (K6.out.trans hK8);have hsz8 := K8.out.size;have e0 := B8.out.cell 0;have e1 := B8.out.cell 1;have e2 := B8.out.cell 2;clear hK8 d0
        go_wp2_with (at_builtin; refine wpList_append_own _ rfl _ _ 22 rfl w.heap.size 72 i0 (.agg #[.string .empty, .string .empty, .bool false]) 3 40 Tryz.underlying22 hi hz0 hz1 hz2 rfl (by decide) _ _ _ rfl (O8.out.alloc _) ⟨w8.heap.size, 0, none⟩ 1 1 [.string (Txt L), .string (Txt q2), .bool true] rfl rfl (cell_three_new _ _ _ _ _) (by simp [Value.oneCell']) ?c3 ?c4 ?c5 ?_)
        case c3 => unfold maxLen; omega
        case c4 => omega
        case c5 => simp; omega
        intro v' w9 hown' hgrow _
        have K9 := Lib.hid ((K8.out.alloc (.cells #[.string (Txt L), .string (Txt q2), .bool true] 72)).grown hgrow (fun g hg => .inr (O8.out.lt g hg).1))
        have HO9 := Lib.hid (by simpa [pcl, pc1, Txt] using hown' : w9.ownsRow w.heap.size 72 3 v' (acc ++ [(L, q2, true)]).length (pcl (acc ++ [(L, q2, true)])))
        obtain ⟨vA', vC', rfl⟩ := own_form HO9.out
        clear hown' hgrow e0 e1 e2
        go_wp2_with fail
        go_roundg (s.size - k2 + 1)
        case measure => omega
        case rel => exact ⟨k2, n, acc ++ [(L, q2, true)], vA', vC', rfl, k22, by omega, by omega, by go_num, HX2.out.symm, HO9.out, HAc.out.snoc HLL.out (by dsimp only; omega) (by dsimp only; first | omega | simp) hl15, K9.out⟩
       ·have br : (rm != 0) = true := by rw [bne_iff_ne]; exact hr0
        have HX2 := Lib.hid (Hr.out.symm.trans ((parF_err3 n s.data.toList j acc hlt' H59.out (by rw [Hf.out, HP.out]) (by rw [Hf.out, HP.out]; dsimp only; rw [hrm]; exact hr0)).trans (by rw [Hf.out, HP.out]; dsimp only; rw [hrm])) : R = ([], f, rm))
        have HBr := Lib.hid br;clear hrm hr0 br
        go_wp2_with fail
        refine (HR2.out _ K6.out O6.out).mono ?_
        rintro e w8 ⟨rfl, hK8⟩
        have K8 := Lib.hid (K6.out.trans hK8);have br := HBr.out;clear hK8 d0
        go_wp2_with fail
        go_ret3
        exact ⟨_, by rw [HX2.out]; rfl, by rw [HX2.out]; exact PmIn.nil _ _, K8.out.nilBelow, by rw [HX2.out]; simp⟩
      ·have bx : (x != 0) = true := by rw [bne_iff_ne]; exact hx0
       have HX := Lib.hid (Hr.out.symm.trans ((parF_err2 n s.data.toList j acc hlt' H59.out (by rw [Hf.out, HP.out]; exact hx0)).trans (by rw [Hf.out, HP.out])) : R = ([], m, x))
       clear hx0 hok
       go_wp2_with fail
       refine (H4.out _).mono ?_
       rintro e w' ⟨rfl, rfl⟩
       go_wp2_with fail
       refine (H5.out _).mono ?_
       rintro e w5 ⟨rfl, hK5⟩
       dsimp only
       have K5 := Lib.hid (KA.out.trans hK5);clear hK5
       go_wp2_with fail
       go_ret3
       exact ⟨_, by rw [HX.out]; rfl, by rw [HX.out]; exact PmIn.nil _ _, K5.out.nilBelow, by rw [HX.out]; simp⟩
     ·have HP := Lib.hid (by rw [pmR_bare _ _ Hne.out (by rw [Hu.out]; exact h61), Hnm.out, Hu.out] : pmR s.data.toList f = ((L, [], false), u, 0))
      have Hk2 := Lib.hid (by rw [← Hu.out]; exact blkE_idem _ _ : blkE s.data.toList u = u)
      have k22 : u ≤ s.size := u2
      have B6 := HBA;have O6 := OA;have K6 := KA
      have HQ0 := Lib.hid (rfl : Txt [] = ⟨#[]⟩)
      by_cases hus : u < s.size
      ·have h6 := h61
       rw [atB_get s u hus] at h6
       have b61 : ((s[u].toNat : Int) == 61) = false := by rw [beq_eq_false_iff_ne]; exact h6
       clear h61 h6
       have HR2 := Lib.hid (fun (wz : World) (h : Kp [] w wz) (ho : wz.ownsRow w.heap.size 72 3 (.slice vA acc.length vC) acc.length (pcl acc)) => (by have h3 := rroom_any _ _ acc L wz (own_pm ho) (Nat.le_refl _) HAc.out.sz (by omega) (by omega); rwa [HAc.out.room L HLL.out] at h3 : Calls Tryz.prog 141 #[.slice vA acc.length vC, .string (Txt L)] wz (ErK (room acc L) wz)))
       have d0 := B6.out.cell 0
       obtain ⟨rm, hrm⟩ : ∃ r, room acc L = r := ⟨_, rfl⟩
       rw [hrm] at HR2
       by_cases hr0 : rm = 0
       ·subst hr0
        have hl15 : acc.length ≤ 15 := by have := ((room_iff acc L).1 hrm).2; omega
        have HX2 := Lib.hid (Hr.out.symm.trans ((parF_step n s.data.toList j acc hlt' H59.out (by rw [Hf.out, HP.out]) (by rw [Hf.out, HP.out]; exact hrm)).trans (by rw [Hf.out, HP.out]; dsimp only; rw [Hk2.out])) : R = parF n s.data.toList u (acc ++ [(L, [], false)]))
        clear hrm
        go_wp2_with fail
        refine (HR2.out _ K6.out O6.out).mono ?_
        rintro e w8 ⟨rfl, hK8⟩
        have B8 := Lib.hid (B6.out.kp hK8 (by simp))
        have O8 := Lib.hid (own_kp O6.out hK8 (by simp))
        have K8 := Lib.hid (K6.out.trans hK8);have hsz8 := K8.out.size;have e0 := B8.out.cell 0;have e1 := B8.out.cell 1;have e2 := B8.out.cell 2;clear hK8 d0
        go_wp2_with (at_builtin; refine wpList_append_own _ rfl _ _ 22 rfl w.heap.size 72 i0 (.agg #[.string .empty, .string .empty, .bool false]) 3 40 Tryz.underlying22 hi hz0 hz1 hz2 rfl (by decide) _ _ _ rfl (O8.out.alloc _) ⟨w8.heap.size, 0, none⟩ 1 1 [.string (Txt L), .string (Txt []), .bool false] rfl rfl (cell_three_new _ _ _ _ _) (by simp [Value.oneCell']) ?c3 ?c4 ?c5 ?_)
        case c3 => unfold maxLen; omega
        case c4 => omega
        case c5 => simp; omega
        intro v' w9 hown' hgrow _
        have K9 := Lib.hid ((K8.out.alloc (.cells #[.string (Txt L), .string (Txt []), .bool false] 72)).grown hgrow (fun g hg => .inr (O8.out.lt g hg).1))
        have HO9 := Lib.hid (by simpa [pcl, pc1, Txt] using hown' : w9.ownsRow w.heap.size 72 3 v' (acc ++ [(L, [], false)]).length (pcl (acc ++ [(L, [], false)])))
        obtain ⟨vA', vC', rfl⟩ := own_form HO9.out
        clear hown' hgrow e0 e1 e2
        go_wp2_with fail
        go_roundg (s.size - u + 1)
        case measure => omega
        case rel => exact ⟨u, n, acc ++ [(L, [], false)], vA', vC', rfl, k22, by omega, by omega, by go_num, HX2.out.symm, HO9.out, HAc.out.snoc HLL.out (by dsimp only; omega) (by dsimp only; first | omega | simp) hl15, K9.out⟩
       ·have br : (rm != 0) = true := by rw [bne_iff_ne]; exact hr0
        have HX2 := Lib.hid (Hr.out.symm.trans ((parF_err3 n s.data.toList j acc hlt' H59.out (by rw [Hf.out, HP.out]) (by rw [Hf.out, HP.out]; dsimp only; rw [hrm]; exact hr0)).trans (by rw [Hf.out, HP.out]; dsimp only; rw [hrm])) : R = ([], f, rm))
        have HBr := Lib.hid br;clear hrm hr0 br
        go_wp2_with fail
        refine (HR2.out _ K6.out O6.out).mono ?_
        rintro e w8 ⟨rfl, hK8⟩
        have K8 := Lib.hid (K6.out.trans hK8);have br := HBr.out;clear hK8 d0
        go_wp2_with fail
        go_ret3
        exact ⟨_, by rw [HX2.out]; rfl, by rw [HX2.out]; exact PmIn.nil _ _, K8.out.nilBelow, by rw [HX2.out]; simp⟩
      ·clear h61
       have HR2 := Lib.hid (fun (wz : World) (h : Kp [] w wz) (ho : wz.ownsRow w.heap.size 72 3 (.slice vA acc.length vC) acc.length (pcl acc)) => (by have h3 := rroom_any _ _ acc L wz (own_pm ho) (Nat.le_refl _) HAc.out.sz (by omega) (by omega); rwa [HAc.out.room L HLL.out] at h3 : Calls Tryz.prog 141 #[.slice vA acc.length vC, .string (Txt L)] wz (ErK (room acc L) wz)))
       have d0 := B6.out.cell 0
       obtain ⟨rm, hrm⟩ : ∃ r, room acc L = r := ⟨_, rfl⟩
       rw [hrm] at HR2
       by_cases hr0 : rm = 0
       ·subst hr0
        have hl15 : acc.length ≤ 15 := by have := ((room_iff acc L).1 hrm).2; omega
        have HX2 := Lib.hid (Hr.out.symm.trans ((parF_step n s.data.toList j acc hlt' H59.out (by rw [Hf.out, HP.out]) (by rw [Hf.out, HP.out]; exact hrm)).trans (by rw [Hf.out, HP.out]; dsimp only; rw [Hk2.out])) : R = parF n s.data.toList u (acc ++ [(L, [], false)]))
        clear hrm
        go_wp2_with fail
        refine (HR2.out _ K6.out O6.out).mono ?_
        rintro e w8 ⟨rfl, hK8⟩
        have B8 := Lib.hid (B6.out.kp hK8 (by simp))
        have O8 := Lib.hid (own_kp O6.out hK8 (by simp))
        have K8 := Lib.hid (K6.out.trans hK8);have hsz8 := K8.out.size;have e0 := B8.out.cell 0;have e1 := B8.out.cell 1;have e2 := B8.out.cell 2;clear hK8 d0
        go_wp2_with (at_builtin; refine wpList_append_own _ rfl _ _ 22 rfl w.heap.size 72 i0 (.agg #[.string .empty, .string .empty, .bool false]) 3 40 Tryz.underlying22 hi hz0 hz1 hz2 rfl (by decide) _ _ _ rfl (O8.out.alloc _) ⟨w8.heap.size, 0, none⟩ 1 1 [.string (Txt L), .string (Txt []), .bool false] rfl rfl (cell_three_new _ _ _ _ _) (by simp [Value.oneCell']) ?c3 ?c4 ?c5 ?_)
        case c3 => unfold maxLen; omega
        case c4 => omega
        case c5 => simp; omega
        intro v' w9 hown' hgrow _
        have K9 := Lib.hid ((K8.out.alloc (.cells #[.string (Txt L), .string (Txt []), .bool false] 72)).grown hgrow (fun g hg => .inr (O8.out.lt g hg).1))
        have HO9 := Lib.hid (by simpa [pcl, pc1, Txt] using hown' : w9.ownsRow w.heap.size 72 3 v' (acc ++ [(L, [], false)]).length (pcl (acc ++ [(L, [], false)])))
        obtain ⟨vA', vC', rfl⟩ := own_form HO9.out
        clear hown' hgrow e0 e1 e2
        go_wp2_with fail
        go_roundg (s.size - u + 1)
        case measure => omega
        case rel => exact ⟨u, n, acc ++ [(L, [], false)], vA', vC', rfl, k22, by omega, by omega, by go_num, HX2.out.symm, HO9.out, HAc.out.snoc HLL.out (by dsimp only; omega) (by dsimp only; first | omega | simp) hl15, K9.out⟩
       ·have br : (rm != 0) = true := by rw [bne_iff_ne]; exact hr0
        have HX2 := Lib.hid (Hr.out.symm.trans ((parF_err3 n s.data.toList j acc hlt' H59.out (by rw [Hf.out, HP.out]) (by rw [Hf.out, HP.out]; dsimp only; rw [hrm]; exact hr0)).trans (by rw [Hf.out, HP.out]; dsimp only; rw [hrm])) : R = ([], f, rm))
        have HBr := Lib.hid br;clear hrm hr0 br
        go_wp2_with fail
        refine (HR2.out _ K6.out O6.out).mono ?_
        rintro e w8 ⟨rfl, hK8⟩
        have K8 := Lib.hid (K6.out.trans hK8);have br := HBr.out;clear hK8 d0
        go_wp2_with fail
        go_ret3
        exact ⟨_, by rw [HX2.out]; rfl, by rw [HX2.out]; exact PmIn.nil _ _, K8.out.nilBelow, by rw [HX2.out]; simp⟩
   ·have h5 := h59
    rw [atB_get s j hlt] at h5
    have b59 : ((s[j].toNat : Int) != 59) = true := by rw [bne_iff_ne]; exact h5
    have HX := Lib.hid (Hr.out.symm.trans (parF_err1 n s.data.toList j acc hlt' h59));clear h59 h5
    go_wp2_with fail
    go_ret3
    exact ⟨_, by rw [HX.out]; rfl, by rw [HX.out]; exact PmIn.nil _ _, HK.out.nilBelow, by rw [HX.out]; simp⟩
  ·have HX := Lib.hid (Hr.out.symm.trans (parF_end n s.data.toList j acc (by rw [len_list]; omega)))
   have HP := Lib.hid (own_pm Ho.out)
   go_wp2_with fail
   go_ret3
   exact ⟨_, by rw [HX.out]; rfl, by rw [HX.out]; exact HP.out, HK.out.nilBelow, by rw [HX.out]; exact hl16⟩
end Ad
end Go.Proofs.YtmmjfofdnpafkaaGreatDoor
namespace Go.Proofs.YtmmjfofdnpafkaaGreatDoor
namespace Ad
open Lx
theorem endP_drop (p : Int → Bool) (l : List UInt8) (t k : Nat) : t + endP p (l.drop t) k = endP p l (t + k) := by unfold endP; rw [List.drop_drop]; omega
theorem tokE_drop (l : List UInt8) (t k : Nat) : t + tokE (l.drop t) k = tokE l (t + k) := by unfold tokE; rw [List.drop_drop]; omega
theorem blkE_drop (l : List UInt8) (t k : Nat) : t + blkE (l.drop t) k = blkE l (t + k) := by unfold blkE; rw [List.drop_drop]; omega
theorem opE_at (l : List UInt8) (k : Nat) (h : atB l k = 34) : opE 34 l (k : Int) = 0 := by
 have hk := atB_lt l k (by rw [h]; decide)
 have e : l.drop k = l[k] :: l.drop (k + 1) := (List.drop_eq_getElem_cons hk)
 unfold opE
 rw [if_neg (by omega), Int.toNat_natCast, e]
 dsimp only
 unfold atB at h
 rw [List.getElem?_eq_getElem hk] at h
 exact if_pos h
end Ad
end Go.Proofs.YtmmjfofdnpafkaaGreatDoor
namespace Go.Proofs.YtmmjfofdnpafkaaGreatDoor
namespace Ad
open Go.RowKit Lx
theorem rtokK (l : List UInt8) (T : Bool) (h : tokB l = T) (hs : l.length ≤ 2097152) (w : World) : Calls Tryz.prog 91 #[.string (Txt l)] w (BoK T w) :=
 (rtoken_any (Txt l) w (by rw [txt_size]; unfold maxLen; omega)).mono fun e w' hh => ⟨by rw [← h]; have h1 := hh.1; rw [tokenB_eq, txt_list] at h1; exact h1, by rw [← hh.2]; exact Kp.refl _ _⟩
theorem rplainK (l : List UInt8) (C : Bool) (h : hasCtl l = C) (hs : l.length ≤ 2097152) (w : World) : Calls Tryz.prog 140 #[.string (Txt l)] w (BoK (!C) w) :=
 (rplain_any (Txt l) w (by rw [txt_size]; exact hs)).mono fun e w' hh => ⟨by rw [← h]; exact hh.1, by rw [← hh.2]; exact Kp.refl _ _⟩
theorem rbrkK (l : List UInt8) (C : Bool) (h : brkB l = C) (hs : l.length ≤ 2097152) (w : World) : Calls Tryz.prog 142 #[.string (Txt l)] w (BoK C w) := by
 rw [← h]; exact rBracketed_any l w hs
def LowN (l : List Prm) (j : Nat) : Prop := ∀ q ∈ l.take j, lowL q.1 = q.1
theorem LowN.succ {l : List Prm} {j : Nat} (h : LowN l j) (hj : j < l.length) (h2 : lowL l[j]!.1 = l[j]!.1) : LowN l (j + 1) := fun q hq => by
 rw [List.take_succ_eq_append_getElem hj] at hq
 rcases List.mem_append.1 hq with h3 | h3
 ·exact h q h3
 ·rw [List.mem_singleton.1 h3, ← getElem!_pos l j hj]; exact h2
theorem low_dec (q : List UInt8) : decide (q = lowL q) = decide (lowL q = q) := by
 by_cases h : q = lowL q
 ·rw [decide_eq_true h, decide_eq_true h.symm]
 ·rw [decide_eq_false h, decide_eq_false (fun h2 => h h2.symm)]
set_option maxRecDepth 100000 in
set_option maxHeartbeats 8000000 in
theorem rPrintParams_any (B : Nat) (v : Value) (l : List Prm) (w : World) (hP : PmIn B w v l) (hB : B ≤ w.heap.size) (hz : SzP l) (hl : l.length ≤ 2097152) :
   Calls Tryz.prog 69 #[v] w (PrP (ppO l) w) := by
 have HPm := Lib.hid hP
 obtain ⟨A, c, rfl⟩ := hP.form
 clear hP
 go_enter Tryz.func69, Tryz.ntmps69
 go_wp2_with fail
 go_loopg [4, 5] (l.length + 1) (fun gg out i wr => ∃ (j : Nat) (X : List UInt8), X = ppX l j ∧ out = .string (Txt X) ∧ j ≤ l.length ∧ j ≤ 16 ∧ l.length - j < gg ∧ i = .int .i64 j ∧ PpI l j ∧ LowN l j ∧ Kp [] w wr)
 case atStart => exact ⟨0, [], by simp [ppX], rfl, by omega, by omega, by omega, rfl, ppI_zero l, fun q hq => by simp at hq, Kp.refl _ _⟩
 case round =>
  obtain ⟨j, X, hX, rfl, hj, hj16, hg, rfl, hJ, hLo, hK⟩ := hrel
  have HX := Lib.hid hX;have HK := Lib.hid hK;have HJ := Lib.hid hJ;have HLo := Lib.hid hLo;have hzr := hK.size
  have PLr := HPm.out.kp hK hB (by simp)
  have hla := ppX_len l hz j hj16
  rw [← hX] at hla
  have sX : (Txt X).size ≤ 16 * 6291460 := by rw [txt_size]; exact hla
  clear hK hJ hX hLo
  by_cases hlt : j < l.length
  ·obtain ⟨q1, q2, q3, hq⟩ : ∃ a b c, l[j]! = (a, b, c) := ⟨_, _, _, rfl⟩
   have hm : (q1, q2, q3) ∈ l := by rw [← hq, getElem!_pos l j hlt]; exact List.getElem_mem hlt
   obtain ⟨hq1, hq2⟩ := hz _ hm
   dsimp only at hq1 hq2
   have hsn := ppX_snoc l j hlt
   rw [hq, ← HX.out] at hsn
   have HSn := Lib.hid hsn;have HYes := Lib.hid (ppI_step l j hlt HJ.out _ hq);have HNo := Lib.hid (ppI_no l j hlt HJ.out _ hq)
   have HLs := Lib.hid (fun h => LowN.succ HLo.out hlt h)
   rw [hq] at HLs
   have hsome : l[j]? = some (q1, q2, q3) := by rw [← hq]; exact getD_some l j hlt
   obtain ⟨_, c', rfl, hc, ⟨h0, hv⟩ | ⟨bl, o, hv, hbl, hcell⟩⟩ := PLr
   ·omega
   ·injection hv with hA _ hc2
    subst hA
    subst hc2
    have c0 : wr.cell? ⟨bl, o + j * 3, none⟩ = some (.string (Txt q1)) := hcell _ _ (pcl_at l j _ hsome 0 _ rfl)
    have c1 : wr.cell? ⟨bl, o + j * 3 + 1, none⟩ = some (.string (Txt q2)) := by rw [Nat.add_assoc]; exact hcell _ _ (pcl_at l j _ hsome 1 _ rfl)
    have c2 : wr.cell? ⟨bl, o + j * 3 + 2, none⟩ = some (.bool q3) := by rw [Nat.add_assoc]; exact hcell _ _ (pcl_at l j _ hsome 2 _ rfl)
    have hc3 : j ≤ c := by omega
    have HTk := Lib.hid (PmIn.take hbl rfl hc hcell j hj)
    have hKA := (Kp.refl [] wr).alloc (.cells #[.string (Txt q1), .string (Txt q2), .bool q3] 72)
    obtain ⟨wA, hwA⟩ : ∃ wA, wr.alloc (.cells #[.string (Txt q1), .string (Txt q2), .bool q3] 72) = wA := ⟨_, rfl⟩
    have BA := show Blk wA wr.heap.size 72 #[.string (Txt q1), .string (Txt q2), .bool q3] from by rw [← hwA]; exact Blk.new wr _ _
    rw [hwA] at hKA
    have KA := Lib.hid hKA;have g0 := grew_cell (BA.cell 0);have g1 := grew_cell (BA.cell 1);have g2 := grew_cell (BA.cell 2);have BAh := Lib.hid BA
    have HTA := Lib.hid (HTk.out.kp hKA (by omega) (by simp))
    have hzA : w.heap.size ≤ wA.heap.size := by have := hKA.size; omega
    obtain ⟨TT, hT⟩ : ∃ T, tokB q1 = T := ⟨_, rfl⟩
    obtain ⟨L, hL⟩ : ∃ L, decide (lowL q1 = q1) = L := ⟨_, rfl⟩
    obtain ⟨CC, hC⟩ : ∃ C, hasCtl q2 = C := ⟨_, rfl⟩
    obtain ⟨N, hN⟩ : ∃ N, decide (q2 = []) = N := ⟨_, rfl⟩
    obtain ⟨L1, hL1⟩ : ∃ x, lowL q1 = x := ⟨_, rfl⟩
    have bL : ((Txt L1).toList == (Txt q1).toList) = L := by rw [← hL1]; exact (txt_beqD _ _).trans hL
    have bN : ((Txt q2).toList == ([] : List UInt8)) = N := (emp_D _).trans hN
    have HT := Lib.hid (fun wz => rtokK q1 TT hT hq1 wz)
    have HC := Lib.hid (fun wz => rplainK q2 CC hC hq2 wz)
    have HL := Lib.hid (fun wz => (by rw [← hL1]; exact rlowK q1 hq1 wz : Calls Tryz.prog 53 #[.string (Txt q1)] wz (TxK L1 wz)))
    have HPb := Lib.hid (by rw [ppB_eq, hT, low_dec, hL, hC, hN] : ppB (q1, q2, q3) = (TT && (L && (!CC && (q3 || N)))))
    have HLq := Lib.hid (fun (h : L = true) => of_decide_eq_true (hL.trans h))
    have Hctl := Lib.hid hC
    have hj64 : (j : Int) < 4194304 := by omega
    have hlc : (j : Int) ≤ (c : Int) := by omega
    clear BA hKA hcell hc hq hm hsome hsn hT hL hC hN hL1
    go_wp2_with fail
    cases TT
    ·have HMj := Lib.hid (fun (n : Gw wA) => rlowK q1 hq1 (grew wA n))
     have HNn := Lib.hid (HNo.out (by rw [HPb.out]; rfl))
     refine wp_region_grew (by kernel_rfl) (by kernel_rfl) ?_
     repeat (go_big_quiet_step ((first
      | (go_at_call 91; exact Calls.grew_of (HT.out _) (fun _ _ h => h))
      | (go_at_call 53; exact Calls.grew_of (HL.out _) (fun _ _ h => h))
      | (go_at_call 140; exact Calls.grew_of (HC.out _) (fun _ _ h => h))
      | (go_at_call 141; exact Calls.grew_of (HMj.out _) (fun _ _ h => h)))))
     refine wpQuiet_nil ?_
     intro _ hw'
     obtain ⟨nq, hw''⟩ := hw'
     subst hw''
     go_wp2_with fail
     go_ret2
     rw [HNn.out]
     exact ⟨rfl, (HK.out.trans (KA.out.trans (grew_kp _ _))).nilBelow⟩
    ·cases L
     ·have HMj := Lib.hid (fun (n : Gw wA) => rlowK q1 hq1 (grew wA n))
      have HNn := Lib.hid (HNo.out (by rw [HPb.out]; rfl))
      refine wp_region_grew (by kernel_rfl) (by kernel_rfl) ?_
      repeat (go_big_quiet_step ((first
       | (go_at_call 91; exact Calls.grew_of (HT.out _) (fun _ _ h => h))
       | (go_at_call 53; exact Calls.grew_of (HL.out _) (fun _ _ h => h))
       | (go_at_call 140; exact Calls.grew_of (HC.out _) (fun _ _ h => h))
       | (go_at_call 141; exact Calls.grew_of (HMj.out _) (fun _ _ h => h)))))
      refine wpQuiet_nil ?_
      intro _ hw'
      obtain ⟨nq, hw''⟩ := hw'
      subst hw''
      go_wp2_with fail
      go_ret2
      rw [HNn.out]
      exact ⟨rfl, (HK.out.trans (KA.out.trans (grew_kp _ _))).nilBelow⟩
     ·cases CC
      ·cases q3
       ·cases N
        ·have HMj := Lib.hid (fun (n : Gw wA) => rlowK q1 hq1 (grew wA n))
         have HNn := Lib.hid (HNo.out (by rw [HPb.out]; rfl))
         refine wp_region_grew (by kernel_rfl) (by kernel_rfl) ?_
         repeat (go_big_quiet_step ((first
          | (go_at_call 91; exact Calls.grew_of (HT.out _) (fun _ _ h => h))
          | (go_at_call 53; exact Calls.grew_of (HL.out _) (fun _ _ h => h))
          | (go_at_call 140; exact Calls.grew_of (HC.out _) (fun _ _ h => h))
          | (go_at_call 141; exact Calls.grew_of (HMj.out _) (fun _ _ h => h)))))
         refine wpQuiet_nil ?_
         intro _ hw'
         obtain ⟨nq, hw''⟩ := hw'
         subst hw''
         go_wp2_with fail
         go_ret2
         rw [HNn.out]
         exact ⟨rfl, (HK.out.trans (KA.out.trans (grew_kp _ _))).nilBelow⟩
        ·have HLow := HLq.out rfl
         have HMj0 := fun (n : Gw wA) => rroom_any B (.slice (some ⟨bl, o, none⟩) j c) (l.take j) q1 (grew wA n) (HTA.out.kp (grew_kp _ n) (by omega) (by simp)) (by have := (grew_kp _ n).size; omega) (hz.take j) (by rw [List.length_take]; omega) hq1
         rw [roomL_eq (l.take j) q1 HLo.out HLow (by rw [List.length_take]; omega)] at HMj0
         obtain ⟨rm, hrm⟩ : ∃ r, room (l.take j) q1 = r := ⟨_, rfl⟩
         rw [hrm] at HMj0
         have HMj := Lib.hid HMj0;have hrc := room_cases (l.take j) q1
         rw [hrm] at hrc
         have HLow2 := Lib.hid HLow;clear HMj0 HLow
         rcases hrc with hr0 | hr1
         ·subst hr0
          have HYs := Lib.hid (HYes.out (by rw [HPb.out, hrm]; rfl))
          have hj15 : j < 16 := by have := ((room_iff (l.take j) q1).1 hrm).2; rw [List.length_take] at this; omega
          clear hrm
          refine wp_region_grew (by kernel_rfl) (by kernel_rfl) ?_
          repeat (go_big_quiet_step ((first
           | (go_at_call 91; exact Calls.grew_of (HT.out _) (fun _ _ h => h))
           | (go_at_call 53; exact Calls.grew_of (HL.out _) (fun _ _ h => h))
           | (go_at_call 140; exact Calls.grew_of (HC.out _) (fun _ _ h => h))
           | (go_at_call 141; exact Calls.grew_of (HMj.out _) (fun _ _ h => h)))))
          refine wpQuiet_nil ?_
          intro _ hw'
          obtain ⟨nq, hw''⟩ := hw'
          subst hw''
          have hKG := grew_kp wA nq
          obtain ⟨w2, hw2⟩ : ∃ w2, grew wA nq = w2 := ⟨_, rfl⟩
          rw [hw2] at hKG ⊢
          have B2 := Lib.hid (BAh.out.kp hKG (by simp))
          have K2 := Lib.hid (HK.out.trans (KA.out.trans hKG));clear hw2 g0 g1 g2 hKG c0 c1 c2;have s0 := B2.out.cell 0;have s1 := B2.out.cell 1;have s2 := B2.out.cell 2
          have sQ1 : (Txt q1).size ≤ 2097152 := by rw [txt_size]; exact hq1
          have sQ2 : (Txt q2).size ≤ 2097152 := by rw [txt_size]; exact hq2
          have sA : (Txt X ++ (⟨#[59]⟩ : ByteArray)).size ≤ 100663361 := by rw [ByteArray.size_append]; have : (⟨#[59]⟩ : ByteArray).size = 1 := rfl; omega
          have sB : (Txt X ++ (⟨#[59]⟩ : ByteArray) ++ Txt q1).size ≤ 102760513 := by rw [ByteArray.size_append]; omega
          have HcB := Lib.hid ((congrArg (· ++ Txt q1) (cat_txt X [59])).trans (cat_txt (X ++ [59]) q1) : Txt X ++ (⟨#[59]⟩ : ByteArray) ++ Txt q1 = Txt (X ++ [59] ++ q1))
          have HT2 := Lib.hid (HSn.out.trans (by unfold ppL; simp) : ppX l (j + 1) = X ++ [59] ++ q1)
          go_wp2_with fail
          go_roundg (l.length - j)
          case measure => omega
          case rel => exact ⟨j + 1, X ++ [59] ++ q1, HT2.out.symm, congrArg Value.string HcB.out, by omega, by omega, by omega, by go_num, HYs.out, HLs.out HLow2.out, K2.out⟩
         ·have HNn := Lib.hid (HNo.out (by rw [HPb.out, hrm]; rcases hr1 with h | h <;> rw [h] <;> rfl))
          clear hrm
          rcases hr1 with rfl | rfl
          all_goals
           refine wp_region_grew (by kernel_rfl) (by kernel_rfl) ?_
           repeat (go_big_quiet_step ((first
            | (go_at_call 91; exact Calls.grew_of (HT.out _) (fun _ _ h => h))
            | (go_at_call 53; exact Calls.grew_of (HL.out _) (fun _ _ h => h))
            | (go_at_call 140; exact Calls.grew_of (HC.out _) (fun _ _ h => h))
            | (go_at_call 141; exact Calls.grew_of (HMj.out _) (fun _ _ h => h)))))
           refine wpQuiet_nil ?_
           intro _ hw'
           obtain ⟨nq, hw''⟩ := hw'
           subst hw''
           go_wp2_with fail
           go_ret2
           rw [HNn.out]
           exact ⟨rfl, (HK.out.trans (KA.out.trans (grew_kp _ _))).nilBelow⟩
       ·have HLow := HLq.out rfl
        have HMj0 := fun (n : Gw wA) => rroom_any B (.slice (some ⟨bl, o, none⟩) j c) (l.take j) q1 (grew wA n) (HTA.out.kp (grew_kp _ n) (by omega) (by simp)) (by have := (grew_kp _ n).size; omega) (hz.take j) (by rw [List.length_take]; omega) hq1
        rw [roomL_eq (l.take j) q1 HLo.out HLow (by rw [List.length_take]; omega)] at HMj0
        obtain ⟨rm, hrm⟩ : ∃ r, room (l.take j) q1 = r := ⟨_, rfl⟩
        rw [hrm] at HMj0
        have HMj := Lib.hid HMj0;have hrc := room_cases (l.take j) q1
        rw [hrm] at hrc
        have HLow2 := Lib.hid HLow;clear HMj0 HLow
        rcases hrc with hr0 | hr1
        ·subst hr0
         have HYs := Lib.hid (HYes.out (by rw [HPb.out, hrm]; rfl))
         have hj15 : j < 16 := by have := ((room_iff (l.take j) q1).1 hrm).2; rw [List.length_take] at this; omega
         clear hrm
         refine wp_region_grew (by kernel_rfl) (by kernel_rfl) ?_
         repeat (go_big_quiet_step ((first
          | (go_at_call 91; exact Calls.grew_of (HT.out _) (fun _ _ h => h))
          | (go_at_call 53; exact Calls.grew_of (HL.out _) (fun _ _ h => h))
          | (go_at_call 140; exact Calls.grew_of (HC.out _) (fun _ _ h => h))
          | (go_at_call 141; exact Calls.grew_of (HMj.out _) (fun _ _ h => h)))))
         refine wpQuiet_nil ?_
         intro _ hw'
         obtain ⟨nq, hw''⟩ := hw'
         subst hw''
         have hKG := grew_kp wA nq
         obtain ⟨w2, hw2⟩ : ∃ w2, grew wA nq = w2 := ⟨_, rfl⟩
         rw [hw2] at hKG ⊢
         have B2 := Lib.hid (BAh.out.kp hKG (by simp))
         have K2 := Lib.hid (HK.out.trans (KA.out.trans hKG));clear hw2 g0 g1 g2 hKG c0 c1 c2;have s0 := B2.out.cell 0;have s1 := B2.out.cell 1;have s2 := B2.out.cell 2
         have sQ1 : (Txt q1).size ≤ 2097152 := by rw [txt_size]; exact hq1
         have sQ2 : (Txt q2).size ≤ 2097152 := by rw [txt_size]; exact hq2
         have sA : (Txt X ++ (⟨#[59]⟩ : ByteArray)).size ≤ 100663361 := by rw [ByteArray.size_append]; have : (⟨#[59]⟩ : ByteArray).size = 1 := rfl; omega
         have sB : (Txt X ++ (⟨#[59]⟩ : ByteArray) ++ Txt q1).size ≤ 102760513 := by rw [ByteArray.size_append]; omega
         have HcB := Lib.hid ((congrArg (· ++ Txt q1) (cat_txt X [59])).trans (cat_txt (X ++ [59]) q1) : Txt X ++ (⟨#[59]⟩ : ByteArray) ++ Txt q1 = Txt (X ++ [59] ++ q1))
         have hpl := pvL_len q2
         obtain ⟨T2, hT2⟩ : ∃ T, tokB q2 = T := ⟨_, rfl⟩
         obtain ⟨B9, hB9⟩ : ∃ T, brkB q2 = T := ⟨_, rfl⟩
         have HTv := Lib.hid (fun wz => rtokK q2 T2 hT2 hq2 wz)
         have HBv := Lib.hid (fun wz => rbrkK q2 B9 hB9 hq2 wz)
         have hpv : pvL q2 = if (T2 || B9) = true then q2 else [34] ++ escL q2 ++ [34] := by rw [pvL_brk, hT2, hB9]
         have sC : (Txt X ++ (⟨#[59]⟩ : ByteArray) ++ Txt q1 ++ (⟨#[61]⟩ : ByteArray)).size ≤ 102760514 := by rw [ByteArray.size_append]; have : (⟨#[61]⟩ : ByteArray).size = 1 := rfl; omega
         have HcD := Lib.hid ((congrArg (fun z => z ++ (⟨#[61]⟩ : ByteArray) ++ Txt q2) HcB.out).trans ((congrArg (· ++ Txt q2) (cat_txt (X ++ [59] ++ q1) [61])).trans (cat_txt _ q2)) : Txt X ++ (⟨#[59]⟩ : ByteArray) ++ Txt q1 ++ (⟨#[61]⟩ : ByteArray) ++ Txt q2 = Txt (X ++ [59] ++ q1 ++ [61] ++ q2))
         clear hT2 hB9
         cases T2
         ·cases B9
          ·have hq : quT q2 = [34] ++ escL q2 ++ [34] := by unfold quT; rw [if_neg (by rw [Hctl.out]; decide)]
           have HT2 := Lib.hid (HSn.out.trans (by unfold ppL; rw [hpv, ← hq]; simp) : ppX l (j + 1) = X ++ [59] ++ q1 ++ [61] ++ quT q2)
           have sQ : (Txt (quT q2)).size ≤ 4194307 := by rw [txt_size, hq]; have := escL_len q2; simp only [List.length_append, List.length_cons, List.length_nil]; omega
           have HcE := Lib.hid ((congrArg (fun z => z ++ (⟨#[61]⟩ : ByteArray) ++ Txt (quT q2)) HcB.out).trans ((congrArg (· ++ Txt (quT q2)) (cat_txt (X ++ [59] ++ q1) [61])).trans (cat_txt _ (quT q2))) : Txt X ++ (⟨#[59]⟩ : ByteArray) ++ Txt q1 ++ (⟨#[61]⟩ : ByteArray) ++ Txt (quT q2) = Txt (X ++ [59] ++ q1 ++ [61] ++ quT q2))
           have HQt := Lib.hid (fun wz => rquote_any (Txt q2) wz (by rw [txt_size]; omega))
           rw [txt_list] at HQt
           clear hq hpv hpl
           go_wp2_with fail
           refine (HTv.out _).mono ?_
           rintro e w3 ⟨rfl, hK3⟩
           have B3 := Lib.hid (B2.out.kp hK3 (by simp))
           have K3 := Lib.hid (K2.out.trans hK3);clear s0 s1 s2 hK3;have s1 := B3.out.cell 1;have s2 := B3.out.cell 2
           go_wp2_with fail
           refine (HBv.out _).mono ?_
           rintro e w4 ⟨rfl, hK4⟩
           have B4 := Lib.hid (B3.out.kp hK4 (by simp))
           have K4 := Lib.hid (K3.out.trans hK4);clear s1 s2 hK4;have s1 := B4.out.cell 1;have s2 := B4.out.cell 2
           go_wp2_with fail
           refine (HQt.out _).mono ?_
           rintro e w5 ⟨rfl, hB5⟩
           have KZ := Lib.hid (K4.out.below hB5);clear s1 s2 hB5
           have hqt : (⟨(quT q2).toArray⟩ : ByteArray) = Txt (quT q2) := rfl
           rw [hqt]
           clear hqt
           go_wp2_with fail
           go_roundg (l.length - j)
           case measure => omega
           case rel => exact ⟨j + 1, X ++ [59] ++ q1 ++ [61] ++ quT q2, HT2.out.symm, congrArg Value.string HcE.out, by omega, by omega, by omega, by go_num, HYs.out, HLs.out HLow2.out, KZ.out⟩
          ·have HT2 := Lib.hid (HSn.out.trans (by unfold ppL; rw [hpv]; simp) : ppX l (j + 1) = X ++ [59] ++ q1 ++ [61] ++ q2)
           clear hpv hpl
           go_wp2_with fail
           refine (HTv.out _).mono ?_
           rintro e w3 ⟨rfl, hK3⟩
           have B3 := Lib.hid (B2.out.kp hK3 (by simp))
           have K3 := Lib.hid (K2.out.trans hK3);clear s0 s1 s2 hK3;have s1 := B3.out.cell 1;have s2 := B3.out.cell 2
           go_wp2_with fail
           refine (HBv.out _).mono ?_
           rintro e w4 ⟨rfl, hK4⟩
           have B4 := Lib.hid (B3.out.kp hK4 (by simp))
           have KZ := Lib.hid (K3.out.trans hK4);clear s1 s2 hK4;have s1 := B4.out.cell 1;have s2 := B4.out.cell 2
           go_wp2_with fail
           go_roundg (l.length - j)
           case measure => omega
           case rel => exact ⟨j + 1, X ++ [59] ++ q1 ++ [61] ++ q2, HT2.out.symm, congrArg Value.string HcD.out, by omega, by omega, by omega, by go_num, HYs.out, HLs.out HLow2.out, KZ.out⟩
         ·have HT2 := Lib.hid (HSn.out.trans (by unfold ppL; rw [hpv]; simp) : ppX l (j + 1) = X ++ [59] ++ q1 ++ [61] ++ q2)
          clear hpv hpl
          go_wp2_with fail
          refine (HTv.out _).mono ?_
          rintro e w3 ⟨rfl, hK3⟩
          have B3 := Lib.hid (B2.out.kp hK3 (by simp))
          have KZ := Lib.hid (K2.out.trans hK3);clear s0 s1 s2 hK3;have s1 := B3.out.cell 1;have s2 := B3.out.cell 2
          go_wp2_with fail
          go_roundg (l.length - j)
          case measure => omega
          case rel => exact ⟨j + 1, X ++ [59] ++ q1 ++ [61] ++ q2, HT2.out.symm, congrArg Value.string HcD.out, by omega, by omega, by omega, by go_num, HYs.out, HLs.out HLow2.out, KZ.out⟩
        ·have HNn := Lib.hid (HNo.out (by rw [HPb.out, hrm]; rcases hr1 with h | h <;> rw [h] <;> rfl))
         clear hrm
         rcases hr1 with rfl | rfl
         all_goals
          refine wp_region_grew (by kernel_rfl) (by kernel_rfl) ?_
          repeat (go_big_quiet_step ((first
           | (go_at_call 91; exact Calls.grew_of (HT.out _) (fun _ _ h => h))
           | (go_at_call 53; exact Calls.grew_of (HL.out _) (fun _ _ h => h))
           | (go_at_call 140; exact Calls.grew_of (HC.out _) (fun _ _ h => h))
           | (go_at_call 141; exact Calls.grew_of (HMj.out _) (fun _ _ h => h)))))
          refine wpQuiet_nil ?_
          intro _ hw'
          obtain ⟨nq, hw''⟩ := hw'
          subst hw''
          go_wp2_with fail
          go_ret2
          rw [HNn.out]
          exact ⟨rfl, (HK.out.trans (KA.out.trans (grew_kp _ _))).nilBelow⟩
      ·have HMj := Lib.hid (fun (n : Gw wA) => rlowK q1 hq1 (grew wA n))
       have HNn := Lib.hid (HNo.out (by rw [HPb.out]; rfl))
       refine wp_region_grew (by kernel_rfl) (by kernel_rfl) ?_
       repeat (go_big_quiet_step ((first
        | (go_at_call 91; exact Calls.grew_of (HT.out _) (fun _ _ h => h))
        | (go_at_call 53; exact Calls.grew_of (HL.out _) (fun _ _ h => h))
        | (go_at_call 140; exact Calls.grew_of (HC.out _) (fun _ _ h => h))
        | (go_at_call 141; exact Calls.grew_of (HMj.out _) (fun _ _ h => h)))))
       refine wpQuiet_nil ?_
       intro _ hw'
       obtain ⟨nq, hw''⟩ := hw'
       subst hw''
       go_wp2_with fail
       go_ret2
       rw [HNn.out]
       exact ⟨rfl, (HK.out.trans (KA.out.trans (grew_kp _ _))).nilBelow⟩
  ·have HEnd := Lib.hid (ppI_end l j (by omega) HJ.out)
   clear PLr
   go_wp2_with fail
   go_ret2
   unfold PrP
   rw [HEnd.out, ← HX.out]
   exact ⟨rfl, HK.out.nilBelow⟩
end Ad
end Go.Proofs.YtmmjfofdnpafkaaGreatDoor
namespace Go.Proofs.YtmmjfofdnpafkaaGreatDoor
namespace Ad
open Go.RowKit Lx
theorem run_append_nothing {base : Nat} {w : World} {acc : List Prm} {v : Value} (hown : w.ownsRow base 72 3 v acc.length (pcl acc)) (ty : TypeId) (c : Nat) :
   (Builtin.append_ #[22, 22] ty #[v, .slice none 0 c]).run Tryz.prog w = .ok v w := by
 obtain ⟨i0, hi, hz0, hz1, hz2⟩ := info_parts infoPrm3
 rcases hown.2 with ⟨rfl, hz⟩ | ⟨g, cap, cur, rfl, _, _, hnc, _⟩
 ·simp [Builtin.append_, run_underlying Tryz.underlying22, sizeOf, typeInfo, hi, Builtin.lenOf, Builtin.firstCells]
 ·simp [Builtin.append_, run_underlying Tryz.underlying22, sizeOf, typeInfo, hi, Builtin.lenOf, Builtin.firstCells, hnc, storeCells]
theorem wpList_append_pm {ops : Array Oper} {rest : List Oper} {o : Oper} {a : Act} {Q : Exit → Act → World → Prop} {w : World} (hgd : o.guard = none) (s x : Operand)
   (ho : o.op = .call { callee := .builtin .append, args := #[s, x], argTypes := #[22, 22] }) (base : Nat) (acc l : List Prm) (v vx : Value) (hs : a.eval s = v)
   (hown : w.ownsRow base 72 3 v acc.length (pcl acc)) (B : Nat) (hx : a.eval x = vx) (hP : PmIn B w vx l) (hl : acc.length + l.length ≤ 16777216) (hbase : base ≤ w.heap.size)
   (h : ∀ v' w', w'.ownsRow base 72 3 v' (acc ++ l).length (pcl (acc ++ l)) → w.grownBy w' v.ownBlock → wpList Tryz.prog ops Q rest (a.put o.dst v') w') :
   wpList Tryz.prog ops Q (o :: rest) a w := by
 obtain ⟨n, c, rfl, hc, ⟨h0, rfl⟩ | ⟨b, off, rfl, hb, hcell⟩⟩ := hP
 ·have : l = [] := List.eq_nil_of_length_eq_zero h0
  subst this
  have hrun := run_append_nothing hown o.type c
  have h2 := h v w (by simpa using hown) ⟨rfl, rfl, rfl, Nat.le_refl _, fun _ _ _ => rfl⟩
  refine wpList_plain hgd fun K hK => ?_
  unfold Oper.wp
  simp [execOp, ho, resolve, invoke, builtin, hs, hx, hrun, Result.andThen]
  exact hK _ _ h2
 ·obtain ⟨i0, hi, hz0, hz1, hz2⟩ := info_parts infoPrm3
  refine wpList_append_own w hgd s x 22 ho base 72 i0 (.agg #[.string .empty, .string .empty, .bool false]) 3 40 Tryz.underlying22 hi hz0 hz1 hz2 rfl (by decide) v acc.length (pcl acc) hs hown ⟨b, off, none⟩ l.length c (pcl l) hx (pcl_len l)
   (fun j u hj => by have := hcell j u hj; rwa [Addr.add_lit]) (pcl_one l) (by unfold maxLen; omega) (by omega) hbase ?_
  intro v' w' h1 h2 _
  exact h v' w' (by rw [List.length_append, pcl_app]; exact h1) h2
def StP (r : List Prm) (w : World) (e : Ending) (w' : World) : Prop := ∃ v', e = .returned v' ∧ PmIn w'.heap.size w' v' r ∧ Kp [] w w'
end Ad
end Go.Proofs.YtmmjfofdnpafkaaGreatDoor
namespace Go.Proofs.YtmmjfofdnpafkaaGreatDoor
namespace Ad
open Go.RowKit Lx
theorem upL_len (l : List UInt8) : (upL l).length = l.length := by simp [upL]
def upAt (s : ByteArray) (j i : Nat) (h : i < s.size) : Int := if i < j then (upB s[i]).toNat else s[i].toNat
theorem upAt_zero (s : ByteArray) (i : Nat) (h : i < s.size) : upAt s 0 i h = s[i].toNat := by unfold upAt; rw [if_neg (by omega)]
theorem upAt_at (s : ByteArray) (i : Nat) (h : i < s.size) : upAt s i i h = s[i].toNat := by unfold upAt; rw [if_neg (by omega)]
theorem upAt_next (s : ByteArray) (j i : Nat) (h : i < s.size) (hn : i ≠ j) : upAt s (j + 1) i h = upAt s j i h := by
 unfold upAt
 by_cases hl : i < j
 ·rw [if_pos hl, if_pos (by omega)]
 ·rw [if_neg hl, if_neg (by omega)]
theorem upAt_new (s : ByteArray) (j : Nat) (h : j < s.size) : upAt s (j + 1) j h = (upB s[j]).toNat := by unfold upAt; rw [if_pos (by omega)]
theorem upAt_end (s : ByteArray) (j i : Nat) (h : i < s.size) (hj : s.size ≤ j) : upAt s j i h = (upB s[i]).toNat := by unfold upAt; rw [if_pos (by omega)]
structure UpR (s : ByteArray) (B j : Nat) (w : World) : Prop where
 cell : ∀ i (h : i < s.size), w.cell? ⟨B, i, none⟩ = some (.int .u8 (upAt s j i h))
 soft : ∀ i, i < s.size → w.frozen? ⟨B, i, none⟩ = false
theorem UpR.skip {s : ByteArray} {B j : Nat} {w : World} (h : UpR s B j w) (hj : j < s.size) (he : (upB s[j]).toNat = s[j].toNat) : UpR s B (j + 1) w := by
 refine ⟨fun i hi => ?_, h.soft⟩
 by_cases hij : i = j
 ·subst hij
  rw [upAt_new, he, ← upAt_at s i hi]; exact h.cell i hi
 ·rw [upAt_next s j i hi hij]; exact h.cell i hi
theorem UpR.put {s : ByteArray} {B j : Nat} {w : World} (h : UpR s B j w) (hj : j < s.size) (x : Int) (he : ((upB s[j]).toNat : Int) = x) : UpR s B (j + 1) (w.setCell ⟨B, j, none⟩ (.int .u8 x)) := by
 refine ⟨fun i hi => ?_, fun i hi => by rw [World.frozen?_setCell]; exact h.soft i hi⟩
 by_cases hij : i = j
 ·subst hij
  rw [upAt_new, he]; exact World.cell?_setCell_same _ _ _ (h.cell i hi)
 ·rw [upAt_next s j i hi hij]; exact (World.cell?_setCell_other _ _ _ _ (by intro e; injection e with _ e2; exact hij e2.symm)).trans (h.cell i hi)
theorem UpR.start (s : ByteArray) (cap : Nat) (w : World) : UpR s w.heap.size 0 (w.alloc (.cells (bytesRow s cap) 5 ((bytesRow s cap).size, (bytesRow s cap).size + 1))) := by
 have hsz : ∀ i, i < s.size → i < (bytesRow s cap).size := fun i hi => by unfold bytesRow; simp; omega
 refine ⟨fun i hi => ?_, fun i hi => ?_⟩
 ·rw [World.cell?_alloc_mark, bytesRow_at s cap i hi, upAt_zero]; rfl
 ·rw [World.frozen?_alloc_mark, decide_eq_false (by have := hsz i hi; omega)]; rfl
theorem UpR.back {s : ByteArray} {B j cap : Nat} {w : World} (h : UpR s B j w) (hj : s.size ≤ j) : (convert 118 9 (.slice (some ⟨B, 0, none⟩) s.size cap)).run Tryz.prog w = .ok (.string ⟨(upL s.data.toList).toArray⟩) w := by
 have hl : s.size = (upL s.data.toList).length := by rw [upL_len, len_list]
 have := run_convert_bytes_back (P := Tryz.prog) w 118 9 5 ⟨B, 0, none⟩ cap (upL s.data.toList) Tryz.underlying118 Tryz.underlying5 Tryz.underlying9 (fun i hi => by
  have hi2 : i < s.size := by omega
  have hadd : (⟨B, 0, none⟩ : Addr).add i = ⟨B, i, none⟩ := by unfold Addr.add; split <;> simp_all
  rw [hadd, h.cell i hi2, upAt_end s j i hi2 hj]
  simp [upL]
  rfl)
 rw [← hl] at this
 exact this
end Ad
end Go.Proofs.YtmmjfofdnpafkaaGreatDoor
namespace Go.Proofs.YtmmjfofdnpafkaaGreatDoor
namespace Ad
open Go.RowKit Lx
theorem insE_at (x : Prm) (O : List Prm) (k : Nat) (hk : k ≤ O.length) (h1 : ∀ m, k ≤ m → m < O.length → ltL x.1 O[m]!.1 = true) (h2 : k = 0 ∨ ltL x.1 O[k - 1]!.1 = false) : insE x O = O.take k ++ x :: O.drop k := by
 have hp : ∀ y ∈ (O.drop k).reverse, (fun y : Prm => ltL x.1 y.1) y = true := by
  intro y hy
  rw [List.mem_reverse] at hy
  obtain ⟨i, hi, rfl⟩ := List.mem_iff_getElem.1 hy
  rw [List.getElem_drop]
  have := h1 (k + i) (by omega) (by rw [List.length_drop] at hi; omega)
  rwa [getElem!_pos O (k + i) (by rw [List.length_drop] at hi; omega)] at this
 have hr : O.reverse = (O.drop k).reverse ++ (O.take k).reverse := by rw [← List.reverse_append, List.take_append_drop]
 have hf : ((O.take k).reverse.takeWhile fun y => ltL x.1 y.1) = [] ∧ ((O.take k).reverse.dropWhile fun y => ltL x.1 y.1) = (O.take k).reverse := by
  rcases h2 with h2 | h2
  ·subst h2; simp
  ·rcases k with _ | m
   ·simp
   ·rw [List.take_succ_eq_append_getElem (by omega), List.reverse_append, List.reverse_singleton, List.singleton_append]
    rw [Nat.add_sub_cancel, getElem!_pos O m (by omega)] at h2
    rw [List.takeWhile_cons, List.dropWhile_cons, h2]
    simp
 unfold insE
 rw [hr, List.takeWhile_append_of_pos hp, List.dropWhile_append_of_pos hp, hf.1, hf.2]
 simp
theorem srt_next (l : List Prm) (j : Nat) (h : j < l.length) : srt (l.take (j + 1)) = insE l[j]! (srt (l.take j)) := by
 rw [List.take_succ_eq_append_getElem h, getElem!_pos l j h]
 unfold srt
 rw [List.foldl_append]; rfl
theorem PmIn.drop {B : Nat} {w : World} {b o n c : Nat} {l : List Prm} (hb : b < B) (hn : l.length = n) (hc : n ≤ c) (hcell : ∀ (i : Nat) (u : Value), (pcl l)[i]? = some u → w.cell? ⟨b, o + i, none⟩ = some u) (k : Nat) (hk : k ≤ n) : PmIn B w (.slice (some ⟨b, o + k * 3, none⟩) (n - k) (c - k)) (l.drop k) := by
 refine ⟨n - k, c - k, by rw [List.length_drop]; omega, by omega, .inr ⟨b, o + k * 3, rfl, hb, fun i u hu => ?_⟩⟩
 have e : pcl l = pcl (l.take k) ++ pcl (l.drop k) := by rw [← pcl_app, List.take_append_drop]
 have hl : (pcl (l.take k)).length = k * 3 := by rw [pcl_len, List.length_take, Nat.min_eq_left (by omega)]
 have := hcell (k * 3 + i) u (by rw [e, List.getElem?_append_right (by omega), hl]; rw [show k * 3 + i - k * 3 = i from by omega]; exact hu)
 rwa [← Nat.add_assoc] at this
theorem PmIn.none0 (B : Nat) (w : World) (A : Option Addr) (c : Nat) (b o : Nat) (hb : b < B) : PmIn B w (.slice (some ⟨b, o, none⟩) 0 c) [] := ⟨0, c, rfl, Nat.zero_le _, .inr ⟨b, o, rfl, hb, fun j u hu => by simp [pcl] at hu⟩⟩
def GtF (x : List UInt8) (O : List Prm) (k : Nat) : Prop := ∀ m, k ≤ m → m < O.length → ltL x O[m]!.1 = true
theorem GtF.down {x : List UInt8} {O : List Prm} {k : Nat} (h : GtF x O (k + 1)) (h2 : ltL x O[k]!.1 = true) : GtF x O k := fun m hm hl => by
 rcases Nat.lt_or_ge k m with h3 | h3
 ·exact h m h3 hl
 ·rw [show m = k from by omega]; exact h2
set_option maxRecDepth 100000 in
set_option maxHeartbeats 8000000 in
theorem rSorted_any (B : Nat) (v : Value) (l : List Prm) (w : World) (hP : PmIn B w v l) (hB : B ≤ w.heap.size) (hl : l.length ≤ 2097152) :
   Calls Tryz.prog 55 #[v] w (StP (srt l) w) := by
 have HPm := Lib.hid hP
 obtain ⟨i0, hi, hz0, hz1, hz2⟩ := info_parts infoPrm3
 obtain ⟨A, cA, rfl⟩ := hP.form
 clear hP
 go_enter Tryz.func55, Tryz.ntmps55
 go_wp2_with fail
 go_loopg [3, 4] (l.length + 1) (fun gg out i wr => ∃ (j : Nat) (vA : Option Addr) (vC nO : Nat), j ≤ l.length ∧ l.length - j < gg ∧ nO = j ∧ (nO = 0 → vA = none) ∧ out = .slice vA nO vC ∧ i = .int .i64 j ∧ PmIn wr.heap.size wr (.slice vA nO vC) (srt (l.take j)) ∧ Kp [] w wr)
 case atStart => exact ⟨0, none, 0, 0, by omega, by omega, rfl, (fun _ => rfl), rfl, rfl, PmIn.nil _ _, Kp.refl _ _⟩
 case round =>
  obtain ⟨j, vA, vC, nO, hj, hg, hnO, hnA, rfl, rfl, hPO, hK⟩ := hrel
  obtain ⟨w0, rfl⟩ : ∃ w0, w0 = wr := ⟨_, rfl⟩
  have HK := Lib.hid hK;have HPO := Lib.hid hPO;have hsz := hK.size
  have PLr := HPm.out.kp hK hB (by simp)
  obtain ⟨O, hO⟩ : ∃ O, srt (l.take j) = O := ⟨_, rfl⟩
  have hOl : O.length = j := by rw [← hO, (srt_perm _).length_eq, List.length_take]; omega
  have HO := Lib.hid hO
  rw [hO] at hPO HPO
  clear hK
  by_cases hlt : j < l.length
  ·obtain ⟨q1, q2, q3, hq⟩ : ∃ a b c, l[j]! = (a, b, c) := ⟨_, _, _, rfl⟩
   have hsome : l[j]? = some (q1, q2, q3) := by rw [← hq]; exact getD_some l j hlt
   have HNx := Lib.hid (by rw [srt_next l j hlt, hq, hO] : srt (l.take (j + 1)) = insE (q1, q2, q3) O)
   obtain ⟨_, c', rfl, hc, ⟨h0, hv⟩ | ⟨bl, o, hv, hbl, hcell⟩⟩ := PLr
   ·omega
   ·injection hv with hA _ hc2
    subst hA
    subst hc2
    have c0 := Lib.hid (show w0.cell? ⟨bl, o + j * 3, none⟩ = some (.string (Txt q1)) from hcell _ _ (pcl_at l j _ hsome 0 _ rfl))
    have c1 := Lib.hid (show w0.cell? ⟨bl, o + j * 3 + 1, none⟩ = some (.string (Txt q2)) from by rw [Nat.add_assoc]; exact hcell _ _ (pcl_at l j _ hsome 1 _ rfl))
    have c2 := Lib.hid (show w0.cell? ⟨bl, o + j * 3 + 2, none⟩ = some (.bool q3) from by rw [Nat.add_assoc]; exact hcell _ _ (pcl_at l j _ hsome 2 _ rfl))
    have hblt : bl < w0.heap.size := by omega
    clear hcell hc hq hsome hO
    obtain ⟨n9, cO, hn9, hcO, ⟨h0, hv⟩ | ⟨bo, oo, hv, hbo, hcell⟩⟩ := hPO
    ·-- the first one
     have hO0 : O = [] := List.eq_nil_of_length_eq_zero (by omega)
     subst hO0
     injection hv with hv1 hv2 hv3
     subst hv1
     subst hv2
     have hj0 : j = 0 := by simpa using hOl.symm
     subst hj0
     clear hn9 hcO h0 hv3 hnO hOl
     have hn1 : (0 : Nat) ≤ 0 := Nat.le_refl _
     clear hnA
     go_wp2_with fail
     go_loopg [5] 1 (fun gk k wr => k = .int .i64 0 ∧ Kp [] w0 wr)
     case atStart => exact ⟨rfl, Kp.refl _ _⟩
     case round =>
      obtain ⟨rfl, hKr⟩ := hrel
      have HKr := Lib.hid hKr;have hszr := hKr.size
      have d0 := (hKr.cell (p := ⟨bl, o, none⟩) hblt (by simp)).trans c0.out
      have d1 := (hKr.cell (p := ⟨bl, o + 1, none⟩) hblt (by simp)).trans c1.out
      have d2 := (hKr.cell (p := ⟨bl, o + 2, none⟩) hblt (by simp)).trans c2.out
      have HIns := Lib.hid (HNx.out.trans (show insE (q1, q2, q3) [] = [(q1, q2, q3)] from rfl))
      have PT := Lib.hid (show PmIn wr.heap.size wr (.slice none 0 vC) [] from ⟨0, vC, rfl, Nat.zero_le _, .inl ⟨rfl, rfl⟩⟩)
      have PD := PT;clear hKr
      obtain ⟨L1, hL1⟩ : ∃ x : List Prm, x = [] := ⟨_, rfl⟩
      obtain ⟨L2, hL2⟩ : ∃ x : List Prm, x = [] := ⟨_, rfl⟩
      have hl1 : L1.length ≤ 0 := by rw [hL1]; exact Nat.le_refl _
      have hl2 : L2.length ≤ 0 := by rw [hL2]; exact Nat.le_refl _
      have hl12 : L1.length + L2.length ≤ 2097152 := by omega
      have HLN := Lib.hid (by rw [hL1, hL2]; rfl : (L1 ++ [(q1, q2, q3)] ++ L2).length = 1)
      have HIns := Lib.hid (by rw [HIns.out, hL1, hL2]; rfl : srt (l.take (0 + 1)) = L1 ++ [(q1, q2, q3)] ++ L2)
      have HL1n := Lib.hid hL1;have HL2n := Lib.hid hL2
      have PT := Lib.hid (by rw [hL1]; exact PT.out : PmIn wr.heap.size wr (.slice none 0 vC) L1)
      have PD := Lib.hid (by rw [hL2]; exact PD.out : PmIn wr.heap.size wr (.slice none 0 vC) L2)
      clear hL1 hL2
      go_wp2_with fail
      go_quiet (fail)
      obtain ⟨wq, hwq⟩ : ∃ w2, wr.drewN nq = w2 := ⟨_, rfl⟩
      rw [hwq]
      have hKq : Kp [] wr wq := by rw [← hwq]; exact (Kp.refl [] wr).drewN _
      have hszq := hKq.size
      have PT := Lib.hid (PT.out.kp hKq (Nat.le_refl _) (by simp))
      have PD := Lib.hid (PD.out.kp hKq (Nat.le_refl _) (by simp))
      have HKq := Lib.hid hKq;clear hwq d0 d1 d2
      go_wp2_with (at_builtin; refine wpList_append_pm rfl _ _ rfl wq.heap.size [] L1 _ _ rfl (World.ownsRow_nil _ _ _ _) _ rfl PT.out ?c1 (Nat.le_refl _) ?_)
      case c1 => simp only [List.length_nil]; omega
      intro v1 w1 hown1 hgrow1
      have hK1 := (Kp.refl [] wq).grown hgrow1 (fun g hg => by cases hg)
      have O1 := (show w1.ownsRow wq.heap.size 72 3 v1 L1.length (pcl L1) from hown1)
      obtain ⟨p1, x1, rfl⟩ := own_form O1
      have O1 := Lib.hid O1;have hKr1 := (HKr.out.trans hKq).trans hK1
      have e0 := (hKr1.cell (p := ⟨bl, o, none⟩) hblt (by simp)).trans c0.out
      have e1 := (hKr1.cell (p := ⟨bl, o + 1, none⟩) hblt (by simp)).trans c1.out
      have e2 := (hKr1.cell (p := ⟨bl, o + 2, none⟩) hblt (by simp)).trans c2.out
      have hsz1 := hK1.size;have HK1 := Lib.hid hK1;clear hown1 hgrow1 hK1 hKr1
      go_wp2_with (at_builtin; refine wpList_append_own _ rfl _ _ 22 rfl wq.heap.size 72 i0 (.agg #[.string .empty, .string .empty, .bool false]) 3 40 Tryz.underlying22 hi hz0 hz1 hz2 rfl (by decide) _ _ _ rfl (O1.out.alloc _) ⟨w1.heap.size, 0, none⟩ 1 1 [.string (Txt q1), .string (Txt q2), .bool q3] rfl rfl (cell_three_new _ _ _ _ _) (by simp [Value.oneCell']) ?c3 ?c4 ?c5 ?_)
      case c3 => unfold maxLen; omega
      case c4 => omega
      case c5 => simp; omega
      intro v2 w2 hown2 hgrow2 _
      have hK2 := (HK1.out.alloc (.cells #[.string (Txt q1), .string (Txt q2), .bool q3] 72)).grown hgrow2 (fun g hg => .inr (O1.out.lt g hg).1)
      have O2 := (by simpa [pcl, pc1, Txt] using hown2 : w2.ownsRow wq.heap.size 72 3 v2 (L1 ++ [(q1, q2, q3)]).length (pcl (L1 ++ [(q1, q2, q3)])))
      obtain ⟨p2, x2, hv2⟩ := own_form O2
      rw [List.length_append, List.length_singleton] at hv2
      subst hv2
      have O2 := Lib.hid O2
      have PD2 := Lib.hid (PD.out.kp hK2 hszq (by simp))
      have hsz2 := hK2.size;have HK2 := Lib.hid hK2;clear hown2 hgrow2 hK2 e0 e1 e2
      go_wp2_with (at_builtin; refine wpList_append_pm rfl _ _ rfl wq.heap.size (L1 ++ [(q1, q2, q3)]) L2 _ _ rfl O2.out _ rfl PD2.out ?c1 hsz2 ?_)
      case c1 => simp only [List.length_append, List.length_singleton]; omega
      intro v3 w3 hown3 hgrow3
      have hK3 := HK2.out.grown hgrow3 (fun g hg => .inr (O2.out.lt g hg).1)
      have hown3 := (by simpa using hown3 : w3.ownsRow wq.heap.size 72 3 v3 (L1 ++ [(q1, q2, q3)] ++ L2).length (pcl (L1 ++ [(q1, q2, q3)] ++ L2)))
      obtain ⟨p3, x3, hv3⟩ := own_form hown3
      rw [HLN.out] at hv3
      subst hv3
      have P3 := Lib.hid (own_pm hown3);have KF := Lib.hid (HK.out.trans ((HKr.out.trans hKq).trans hK3));clear hown3 hgrow3 hK3 hKq
      go_wp2_with fail
      go_roundg (l.length - 0)
      case measure => omega
      case rel => exact ⟨1, p3, x3, 1, by omega, by omega, rfl, (fun h => absurd h (Nat.succ_ne_zero _)), rfl, by go_num, by rw [HIns.out]; exact P3.out, KF.out⟩
    ·injection hv with hv1 hv2 hv3
     subst hv1
     subst hv3
     have hnj : n9 = j := by omega
     subst hv2
     have HCell := Lib.hid hcell
     have hcj : j ≤ vC := by omega
     have hn0 : 0 < nO := by rcases Nat.eq_zero_or_pos nO with h | h; exact absurd (hnA h) (by simp); exact h
     clear hnA hn9 hcO hcell hnO
     subst hnj
     have hn1 : nO ≤ 2097152 := by omega
     go_wp2_with fail
     go_loopg [5] (nO + 1) (fun gk k wr => ∃ kk : Nat, kk ≤ nO ∧ kk < gk ∧ k = .int .i64 kk ∧ GtF q1 O kk ∧ Kp [] w0 wr)
     case atStart => exact ⟨nO, by omega, by omega, rfl, (fun m h1 h2 => by omega), Kp.refl _ _⟩
     case round =>
      obtain ⟨k, hk, hgk, rfl, hG, hKr⟩ := hrel
      have HG := Lib.hid hG;have HKr := Lib.hid hKr;clear hG
      have d0 := (hKr.cell (p := ⟨bl, o + nO * 3, none⟩) hblt (by simp)).trans c0.out
      have d1 := (hKr.cell (p := ⟨bl, o + nO * 3 + 1, none⟩) hblt (by simp)).trans c1.out
      have d2 := (hKr.cell (p := ⟨bl, o + nO * 3 + 2, none⟩) hblt (by simp)).trans c2.out
      have hszr := hKr.size;clear hKr
      by_cases hkA : k = nO
      ·obtain rfl : nO = k := hkA.symm
       obtain ⟨m, hm⟩ : ∃ m : Nat, (nO : Int) - 1 = (m : Int) := ⟨nO - 1, by omega⟩
       have hm1 : m + 1 ≤ nO := by omega
       have hm2 : nO ≤ m + 1 := by omega
       have Hm := Lib.hid hm;clear hm hkA
       have hkl : m < O.length := by omega
       obtain ⟨y1, y2, y3, hy⟩ : ∃ a b c, O[m]! = (a, b, c) := ⟨_, _, _, rfl⟩
       have hys : O[m]? = some (y1, y2, y3) := by rw [← hy]; exact getD_some O m hkl
       have y0 : wr.cell? ⟨bo, oo + m * 3, none⟩ = some (.string (Txt y1)) := (HKr.out.cell (p := ⟨bo, oo + m * 3, none⟩) hbo (by simp)).trans (HCell.out _ _ (pcl_at O m _ hys 0 _ rfl))
       have wkA := Hm.out
       have wk1 : IntKind.i64.wrap (m : Int) = (m : Int) := IntWalk.i64_in _ (by omega)
       have hn0' : (0 : Int) < (nO : Int) := by omega
       have hk0 : (0 : Int) ≤ (m : Int) := by omega
       have hkn : (m : Int) < (nO : Int) := by omega
       have hjl2 : (nO : Int) < (l.length : Int) := by omega
       have etl : ∀ a b : List UInt8, Op.bytesLess (Txt a).toList (Txt b).toList = ltL a b := fun a b => by rw [Lib.toList_data, Lib.toList_data, bytesLess_ltL]; rfl
       have bl9 := etl y1 q1
       have be9 : ((Txt y1).toList == (Txt q1).toList) = decide (y1 = q1) := txt_beqD _ _
       clear etl
       cases hlt2 : ltL q1 y1
       ·have H2 := Lib.hid (show nO = 0 ∨ ltL (q1, q2, q3).1 O[nO - 1]!.1 = false from .inr (by rw [show nO - 1 = m from by omega, hy]; exact hlt2))
        by_cases he : y1 = q1
        ·rw [decide_eq_true he] at be9
         rw [show ltL y1 q1 = false from by rw [he]; exact ltL_irrefl _] at bl9
         clear hys hy hlt2 he
         by_cases hck : vC = nO
         ·obtain rfl : nO = vC := hck.symm
          have HIns := Lib.hid (HNx.out.trans (insE_at (q1, q2, q3) O nO (by omega) HG.out H2.out) : srt (l.take (nO + 1)) = O.take nO ++ (q1, q2, q3) :: O.drop nO)
          have HCr := fun i u (h : (pcl O)[i]? = some u) => (HKr.out.cell (p := ⟨bo, oo + i, none⟩) hbo (by simp)).trans (HCell.out i u h)
          have hbo2 : bo < wr.heap.size := by omega
          have PT := Lib.hid (PmIn.take (B := wr.heap.size) hbo2 hOl hcj HCr nO (by omega))
          have hdr : O.drop nO = [] := List.drop_eq_nil_of_le (by omega)
          have PD := Lib.hid (by rw [hdr]; exact PmIn.none0 _ wr none 0 bo oo hbo2 : PmIn wr.heap.size wr (.slice (some ⟨bo, oo, none⟩) 0 0) (O.drop nO))
          clear HCr hdr
          obtain ⟨L1, hL1⟩ : ∃ x, O.take nO = x := ⟨_, rfl⟩
          obtain ⟨L2, hL2⟩ : ∃ x, O.drop nO = x := ⟨_, rfl⟩
          have hl1 : L1.length = nO := by rw [← hL1, List.length_take]; omega
          have hl2 : L2.length = nO - nO := by rw [← hL2, List.length_drop]; omega
          have hl12 : L1.length + L2.length ≤ 2097152 := by omega
          have HLN := Lib.hid (by simp only [List.length_append, List.length_singleton]; omega : (L1 ++ [(q1, q2, q3)] ++ L2).length = nO + 1)
          rw [hL1, hL2] at HIns
          rw [hL1] at PT
          rw [hL2] at PD
          have HIns := Lib.hid (by rw [HIns.out]; simp : srt (l.take (nO + 1)) = L1 ++ [(q1, q2, q3)] ++ L2)
          clear hL1 hL2 hl1 hl2
          go_wp2_with fail
          go_quiet (fail)
          obtain ⟨wq, hwq⟩ : ∃ w2, wr.drewN nq = w2 := ⟨_, rfl⟩
          rw [hwq]
          have hKq : Kp [] wr wq := by rw [← hwq]; exact (Kp.refl [] wr).drewN _
          have hszq := hKq.size
          have PT := Lib.hid (PT.out.kp hKq (Nat.le_refl _) (by simp))
          have PD := Lib.hid (PD.out.kp hKq (Nat.le_refl _) (by simp))
          have HKq := Lib.hid hKq;clear hwq d0 d1 d2 y0 bl9 be9 wk1 wkA
          go_wp2_with (at_builtin; refine wpList_append_pm rfl _ _ rfl wq.heap.size [] L1 _ _ rfl (World.ownsRow_nil _ _ _ _) _ rfl PT.out ?c1 (Nat.le_refl _) ?_)
          case c1 => simp only [List.length_nil]; omega
          intro v1 w1 hown1 hgrow1
          have hK1 := (Kp.refl [] wq).grown hgrow1 (fun g hg => by cases hg)
          have O1 := (show w1.ownsRow wq.heap.size 72 3 v1 L1.length (pcl L1) from hown1)
          obtain ⟨p1, x1, rfl⟩ := own_form O1
          have O1 := Lib.hid O1;have hKr1 := (HKr.out.trans hKq).trans hK1
          have e0 := (hKr1.cell (p := ⟨bl, o + nO * 3, none⟩) hblt (by simp)).trans c0.out
          have e1 := (hKr1.cell (p := ⟨bl, o + nO * 3 + 1, none⟩) hblt (by simp)).trans c1.out
          have e2 := (hKr1.cell (p := ⟨bl, o + nO * 3 + 2, none⟩) hblt (by simp)).trans c2.out
          have hsz1 := hK1.size;have HK1 := Lib.hid hK1;clear hown1 hgrow1 hK1 hKr1
          go_wp2_with (at_builtin; refine wpList_append_own _ rfl _ _ 22 rfl wq.heap.size 72 i0 (.agg #[.string .empty, .string .empty, .bool false]) 3 40 Tryz.underlying22 hi hz0 hz1 hz2 rfl (by decide) _ _ _ rfl (O1.out.alloc _) ⟨w1.heap.size, 0, none⟩ 1 1 [.string (Txt q1), .string (Txt q2), .bool q3] rfl rfl (cell_three_new _ _ _ _ _) (by simp [Value.oneCell']) ?c3 ?c4 ?c5 ?_)
          case c3 => unfold maxLen; omega
          case c4 => omega
          case c5 => simp; omega
          intro v2 w2 hown2 hgrow2 _
          have hK2 := (HK1.out.alloc (.cells #[.string (Txt q1), .string (Txt q2), .bool q3] 72)).grown hgrow2 (fun g hg => .inr (O1.out.lt g hg).1)
          have O2 := (by simpa [pcl, pc1, Txt] using hown2 : w2.ownsRow wq.heap.size 72 3 v2 (L1 ++ [(q1, q2, q3)]).length (pcl (L1 ++ [(q1, q2, q3)])))
          obtain ⟨p2, x2, hv2⟩ := own_form O2
          rw [List.length_append, List.length_singleton] at hv2
          subst hv2
          have O2 := Lib.hid O2
          have PD2 := Lib.hid (PD.out.kp hK2 hszq (by simp))
          have hsz2 := hK2.size;have HK2 := Lib.hid hK2;clear hown2 hgrow2 hK2 e0 e1 e2
          go_wp2_with (at_builtin; refine wpList_append_pm rfl _ _ rfl wq.heap.size (L1 ++ [(q1, q2, q3)]) L2 _ _ rfl O2.out _ rfl PD2.out ?c1 hsz2 ?_)
          case c1 => simp only [List.length_append, List.length_singleton]; omega
          intro v3 w3 hown3 hgrow3
          have hK3 := HK2.out.grown hgrow3 (fun g hg => .inr (O2.out.lt g hg).1)
          have hown3 := (by simpa using hown3 : w3.ownsRow wq.heap.size 72 3 v3 (L1 ++ [(q1, q2, q3)] ++ L2).length (pcl (L1 ++ [(q1, q2, q3)] ++ L2)))
          obtain ⟨p3, x3, hv3⟩ := own_form hown3
          rw [HLN.out] at hv3
          subst hv3
          have P3 := Lib.hid (own_pm hown3);have KF := Lib.hid (HK.out.trans ((HKr.out.trans hKq).trans hK3));clear hown3 hgrow3 hK3 hKq
          go_wp2_with fail
          go_roundg (l.length - nO)
          case measure => omega
          case rel => exact ⟨nO + 1, p3, x3, nO + 1, by omega, by omega, rfl, (fun h => absurd h (Nat.succ_ne_zero _)), rfl, by go_num, by rw [HIns.out]; exact P3.out, KF.out⟩
         ·have HIns := Lib.hid (HNx.out.trans (insE_at (q1, q2, q3) O nO (by omega) HG.out H2.out) : srt (l.take (nO + 1)) = O.take nO ++ (q1, q2, q3) :: O.drop nO)
          have HCr := fun i u (h : (pcl O)[i]? = some u) => (HKr.out.cell (p := ⟨bo, oo + i, none⟩) hbo (by simp)).trans (HCell.out i u h)
          have hbo2 : bo < wr.heap.size := by omega
          have PT := Lib.hid (PmIn.take (B := wr.heap.size) hbo2 hOl hcj HCr nO (by omega))
          have hkc : nO < vC := by omega
          have hdr : O.drop nO = [] := List.drop_eq_nil_of_le (by omega)
          have PD := Lib.hid (by rw [hdr]; exact PmIn.none0 _ wr none (vC - nO) bo (oo + nO * 3) hbo2 : PmIn wr.heap.size wr (.slice (some ⟨bo, oo + nO * 3, none⟩) 0 (vC - nO)) (O.drop nO))
          clear HCr hdr hck
          obtain ⟨L1, hL1⟩ : ∃ x, O.take nO = x := ⟨_, rfl⟩
          obtain ⟨L2, hL2⟩ : ∃ x, O.drop nO = x := ⟨_, rfl⟩
          have hl1 : L1.length = nO := by rw [← hL1, List.length_take]; omega
          have hl2 : L2.length = nO - nO := by rw [← hL2, List.length_drop]; omega
          have hl12 : L1.length + L2.length ≤ 2097152 := by omega
          have HLN := Lib.hid (by simp only [List.length_append, List.length_singleton]; omega : (L1 ++ [(q1, q2, q3)] ++ L2).length = nO + 1)
          rw [hL1, hL2] at HIns
          rw [hL1] at PT
          rw [hL2] at PD
          have HIns := Lib.hid (by rw [HIns.out]; simp : srt (l.take (nO + 1)) = L1 ++ [(q1, q2, q3)] ++ L2)
          clear hL1 hL2 hl1 hl2
          go_wp2_with fail
          go_quiet (fail)
          obtain ⟨wq, hwq⟩ : ∃ w2, wr.drewN nq = w2 := ⟨_, rfl⟩
          rw [hwq]
          have hKq : Kp [] wr wq := by rw [← hwq]; exact (Kp.refl [] wr).drewN _
          have hszq := hKq.size
          have PT := Lib.hid (PT.out.kp hKq (Nat.le_refl _) (by simp))
          have PD := Lib.hid (PD.out.kp hKq (Nat.le_refl _) (by simp))
          have HKq := Lib.hid hKq;clear hwq d0 d1 d2 y0 bl9 be9 wk1 wkA
          go_wp2_with (at_builtin; refine wpList_append_pm rfl _ _ rfl wq.heap.size [] L1 _ _ rfl (World.ownsRow_nil _ _ _ _) _ rfl PT.out ?c1 (Nat.le_refl _) ?_)
          case c1 => simp only [List.length_nil]; omega
          intro v1 w1 hown1 hgrow1
          have hK1 := (Kp.refl [] wq).grown hgrow1 (fun g hg => by cases hg)
          have O1 := (show w1.ownsRow wq.heap.size 72 3 v1 L1.length (pcl L1) from hown1)
          obtain ⟨p1, x1, rfl⟩ := own_form O1
          have O1 := Lib.hid O1;have hKr1 := (HKr.out.trans hKq).trans hK1
          have e0 := (hKr1.cell (p := ⟨bl, o + nO * 3, none⟩) hblt (by simp)).trans c0.out
          have e1 := (hKr1.cell (p := ⟨bl, o + nO * 3 + 1, none⟩) hblt (by simp)).trans c1.out
          have e2 := (hKr1.cell (p := ⟨bl, o + nO * 3 + 2, none⟩) hblt (by simp)).trans c2.out
          have hsz1 := hK1.size;have HK1 := Lib.hid hK1;clear hown1 hgrow1 hK1 hKr1
          go_wp2_with (at_builtin; refine wpList_append_own _ rfl _ _ 22 rfl wq.heap.size 72 i0 (.agg #[.string .empty, .string .empty, .bool false]) 3 40 Tryz.underlying22 hi hz0 hz1 hz2 rfl (by decide) _ _ _ rfl (O1.out.alloc _) ⟨w1.heap.size, 0, none⟩ 1 1 [.string (Txt q1), .string (Txt q2), .bool q3] rfl rfl (cell_three_new _ _ _ _ _) (by simp [Value.oneCell']) ?c3 ?c4 ?c5 ?_)
          case c3 => unfold maxLen; omega
          case c4 => omega
          case c5 => simp; omega
          intro v2 w2 hown2 hgrow2 _
          have hK2 := (HK1.out.alloc (.cells #[.string (Txt q1), .string (Txt q2), .bool q3] 72)).grown hgrow2 (fun g hg => .inr (O1.out.lt g hg).1)
          have O2 := (by simpa [pcl, pc1, Txt] using hown2 : w2.ownsRow wq.heap.size 72 3 v2 (L1 ++ [(q1, q2, q3)]).length (pcl (L1 ++ [(q1, q2, q3)])))
          obtain ⟨p2, x2, hv2⟩ := own_form O2
          rw [List.length_append, List.length_singleton] at hv2
          subst hv2
          have O2 := Lib.hid O2
          have PD2 := Lib.hid (PD.out.kp hK2 hszq (by simp))
          have hsz2 := hK2.size;have HK2 := Lib.hid hK2;clear hown2 hgrow2 hK2 e0 e1 e2
          go_wp2_with (at_builtin; refine wpList_append_pm rfl _ _ rfl wq.heap.size (L1 ++ [(q1, q2, q3)]) L2 _ _ rfl O2.out _ rfl PD2.out ?c1 hsz2 ?_)
          case c1 => simp only [List.length_append, List.length_singleton]; omega
          intro v3 w3 hown3 hgrow3
          have hK3 := HK2.out.grown hgrow3 (fun g hg => .inr (O2.out.lt g hg).1)
          have hown3 := (by simpa using hown3 : w3.ownsRow wq.heap.size 72 3 v3 (L1 ++ [(q1, q2, q3)] ++ L2).length (pcl (L1 ++ [(q1, q2, q3)] ++ L2)))
          obtain ⟨p3, x3, hv3⟩ := own_form hown3
          rw [HLN.out] at hv3
          subst hv3
          have P3 := Lib.hid (own_pm hown3);have KF := Lib.hid (HK.out.trans ((HKr.out.trans hKq).trans hK3));clear hown3 hgrow3 hK3 hKq
          go_wp2_with fail
          go_roundg (l.length - nO)
          case measure => omega
          case rel => exact ⟨nO + 1, p3, x3, nO + 1, by omega, by omega, rfl, (fun h => absurd h (Nat.succ_ne_zero _)), rfl, by go_num, by rw [HIns.out]; exact P3.out, KF.out⟩
        ·rw [decide_eq_false he] at be9
         rw [show ltL y1 q1 = true from by cases h : ltL y1 q1 with | true => rfl | false => exact absurd (ltL_total y1 q1 h hlt2) he] at bl9
         clear hys hy hlt2 he
         by_cases hck : vC = nO
         ·obtain rfl : nO = vC := hck.symm
          have HIns := Lib.hid (HNx.out.trans (insE_at (q1, q2, q3) O nO (by omega) HG.out H2.out) : srt (l.take (nO + 1)) = O.take nO ++ (q1, q2, q3) :: O.drop nO)
          have HCr := fun i u (h : (pcl O)[i]? = some u) => (HKr.out.cell (p := ⟨bo, oo + i, none⟩) hbo (by simp)).trans (HCell.out i u h)
          have hbo2 : bo < wr.heap.size := by omega
          have PT := Lib.hid (PmIn.take (B := wr.heap.size) hbo2 hOl hcj HCr nO (by omega))
          have hdr : O.drop nO = [] := List.drop_eq_nil_of_le (by omega)
          have PD := Lib.hid (by rw [hdr]; exact PmIn.none0 _ wr none 0 bo oo hbo2 : PmIn wr.heap.size wr (.slice (some ⟨bo, oo, none⟩) 0 0) (O.drop nO))
          clear HCr hdr
          obtain ⟨L1, hL1⟩ : ∃ x, O.take nO = x := ⟨_, rfl⟩
          obtain ⟨L2, hL2⟩ : ∃ x, O.drop nO = x := ⟨_, rfl⟩
          have hl1 : L1.length = nO := by rw [← hL1, List.length_take]; omega
          have hl2 : L2.length = nO - nO := by rw [← hL2, List.length_drop]; omega
          have hl12 : L1.length + L2.length ≤ 2097152 := by omega
          have HLN := Lib.hid (by simp only [List.length_append, List.length_singleton]; omega : (L1 ++ [(q1, q2, q3)] ++ L2).length = nO + 1)
          rw [hL1, hL2] at HIns
          rw [hL1] at PT
          rw [hL2] at PD
          have HIns := Lib.hid (by rw [HIns.out]; simp : srt (l.take (nO + 1)) = L1 ++ [(q1, q2, q3)] ++ L2)
          clear hL1 hL2 hl1 hl2
          go_wp2_with fail
          go_quiet (fail)
          obtain ⟨wq, hwq⟩ : ∃ w2, wr.drewN nq = w2 := ⟨_, rfl⟩
          rw [hwq]
          have hKq : Kp [] wr wq := by rw [← hwq]; exact (Kp.refl [] wr).drewN _
          have hszq := hKq.size
          have PT := Lib.hid (PT.out.kp hKq (Nat.le_refl _) (by simp))
          have PD := Lib.hid (PD.out.kp hKq (Nat.le_refl _) (by simp))
          have HKq := Lib.hid hKq;clear hwq d0 d1 d2 y0 bl9 be9 wk1 wkA
          go_wp2_with (at_builtin; refine wpList_append_pm rfl _ _ rfl wq.heap.size [] L1 _ _ rfl (World.ownsRow_nil _ _ _ _) _ rfl PT.out ?c1 (Nat.le_refl _) ?_)
          case c1 => simp only [List.length_nil]; omega
          intro v1 w1 hown1 hgrow1
          have hK1 := (Kp.refl [] wq).grown hgrow1 (fun g hg => by cases hg)
          have O1 := (show w1.ownsRow wq.heap.size 72 3 v1 L1.length (pcl L1) from hown1)
          obtain ⟨p1, x1, rfl⟩ := own_form O1
          have O1 := Lib.hid O1;have hKr1 := (HKr.out.trans hKq).trans hK1
          have e0 := (hKr1.cell (p := ⟨bl, o + nO * 3, none⟩) hblt (by simp)).trans c0.out
          have e1 := (hKr1.cell (p := ⟨bl, o + nO * 3 + 1, none⟩) hblt (by simp)).trans c1.out
          have e2 := (hKr1.cell (p := ⟨bl, o + nO * 3 + 2, none⟩) hblt (by simp)).trans c2.out
          have hsz1 := hK1.size;have HK1 := Lib.hid hK1;clear hown1 hgrow1 hK1 hKr1
          go_wp2_with (at_builtin; refine wpList_append_own _ rfl _ _ 22 rfl wq.heap.size 72 i0 (.agg #[.string .empty, .string .empty, .bool false]) 3 40 Tryz.underlying22 hi hz0 hz1 hz2 rfl (by decide) _ _ _ rfl (O1.out.alloc _) ⟨w1.heap.size, 0, none⟩ 1 1 [.string (Txt q1), .string (Txt q2), .bool q3] rfl rfl (cell_three_new _ _ _ _ _) (by simp [Value.oneCell']) ?c3 ?c4 ?c5 ?_)
          case c3 => unfold maxLen; omega
          case c4 => omega
          case c5 => simp; omega
          intro v2 w2 hown2 hgrow2 _
          have hK2 := (HK1.out.alloc (.cells #[.string (Txt q1), .string (Txt q2), .bool q3] 72)).grown hgrow2 (fun g hg => .inr (O1.out.lt g hg).1)
          have O2 := (by simpa [pcl, pc1, Txt] using hown2 : w2.ownsRow wq.heap.size 72 3 v2 (L1 ++ [(q1, q2, q3)]).length (pcl (L1 ++ [(q1, q2, q3)])))
          obtain ⟨p2, x2, hv2⟩ := own_form O2
          rw [List.length_append, List.length_singleton] at hv2
          subst hv2
          have O2 := Lib.hid O2
          have PD2 := Lib.hid (PD.out.kp hK2 hszq (by simp))
          have hsz2 := hK2.size;have HK2 := Lib.hid hK2;clear hown2 hgrow2 hK2 e0 e1 e2
          go_wp2_with (at_builtin; refine wpList_append_pm rfl _ _ rfl wq.heap.size (L1 ++ [(q1, q2, q3)]) L2 _ _ rfl O2.out _ rfl PD2.out ?c1 hsz2 ?_)
          case c1 => simp only [List.length_append, List.length_singleton]; omega
          intro v3 w3 hown3 hgrow3
          have hK3 := HK2.out.grown hgrow3 (fun g hg => .inr (O2.out.lt g hg).1)
          have hown3 := (by simpa using hown3 : w3.ownsRow wq.heap.size 72 3 v3 (L1 ++ [(q1, q2, q3)] ++ L2).length (pcl (L1 ++ [(q1, q2, q3)] ++ L2)))
          obtain ⟨p3, x3, hv3⟩ := own_form hown3
          rw [HLN.out] at hv3
          subst hv3
          have P3 := Lib.hid (own_pm hown3);have KF := Lib.hid (HK.out.trans ((HKr.out.trans hKq).trans hK3));clear hown3 hgrow3 hK3 hKq
          go_wp2_with fail
          go_roundg (l.length - nO)
          case measure => omega
          case rel => exact ⟨nO + 1, p3, x3, nO + 1, by omega, by omega, rfl, (fun h => absurd h (Nat.succ_ne_zero _)), rfl, by go_num, by rw [HIns.out]; exact P3.out, KF.out⟩
         ·have HIns := Lib.hid (HNx.out.trans (insE_at (q1, q2, q3) O nO (by omega) HG.out H2.out) : srt (l.take (nO + 1)) = O.take nO ++ (q1, q2, q3) :: O.drop nO)
          have HCr := fun i u (h : (pcl O)[i]? = some u) => (HKr.out.cell (p := ⟨bo, oo + i, none⟩) hbo (by simp)).trans (HCell.out i u h)
          have hbo2 : bo < wr.heap.size := by omega
          have PT := Lib.hid (PmIn.take (B := wr.heap.size) hbo2 hOl hcj HCr nO (by omega))
          have hkc : nO < vC := by omega
          have hdr : O.drop nO = [] := List.drop_eq_nil_of_le (by omega)
          have PD := Lib.hid (by rw [hdr]; exact PmIn.none0 _ wr none (vC - nO) bo (oo + nO * 3) hbo2 : PmIn wr.heap.size wr (.slice (some ⟨bo, oo + nO * 3, none⟩) 0 (vC - nO)) (O.drop nO))
          clear HCr hdr hck
          obtain ⟨L1, hL1⟩ : ∃ x, O.take nO = x := ⟨_, rfl⟩
          obtain ⟨L2, hL2⟩ : ∃ x, O.drop nO = x := ⟨_, rfl⟩
          have hl1 : L1.length = nO := by rw [← hL1, List.length_take]; omega
          have hl2 : L2.length = nO - nO := by rw [← hL2, List.length_drop]; omega
          have hl12 : L1.length + L2.length ≤ 2097152 := by omega
          have HLN := Lib.hid (by simp only [List.length_append, List.length_singleton]; omega : (L1 ++ [(q1, q2, q3)] ++ L2).length = nO + 1)
          rw [hL1, hL2] at HIns
          rw [hL1] at PT
          rw [hL2] at PD
          have HIns := Lib.hid (by rw [HIns.out]; simp : srt (l.take (nO + 1)) = L1 ++ [(q1, q2, q3)] ++ L2)
          clear hL1 hL2 hl1 hl2
          go_wp2_with fail
          go_quiet (fail)
          obtain ⟨wq, hwq⟩ : ∃ w2, wr.drewN nq = w2 := ⟨_, rfl⟩
          rw [hwq]
          have hKq : Kp [] wr wq := by rw [← hwq]; exact (Kp.refl [] wr).drewN _
          have hszq := hKq.size
          have PT := Lib.hid (PT.out.kp hKq (Nat.le_refl _) (by simp))
          have PD := Lib.hid (PD.out.kp hKq (Nat.le_refl _) (by simp))
          have HKq := Lib.hid hKq;clear hwq d0 d1 d2 y0 bl9 be9 wk1 wkA
          go_wp2_with (at_builtin; refine wpList_append_pm rfl _ _ rfl wq.heap.size [] L1 _ _ rfl (World.ownsRow_nil _ _ _ _) _ rfl PT.out ?c1 (Nat.le_refl _) ?_)
          case c1 => simp only [List.length_nil]; omega
          intro v1 w1 hown1 hgrow1
          have hK1 := (Kp.refl [] wq).grown hgrow1 (fun g hg => by cases hg)
          have O1 := (show w1.ownsRow wq.heap.size 72 3 v1 L1.length (pcl L1) from hown1)
          obtain ⟨p1, x1, rfl⟩ := own_form O1
          have O1 := Lib.hid O1;have hKr1 := (HKr.out.trans hKq).trans hK1
          have e0 := (hKr1.cell (p := ⟨bl, o + nO * 3, none⟩) hblt (by simp)).trans c0.out
          have e1 := (hKr1.cell (p := ⟨bl, o + nO * 3 + 1, none⟩) hblt (by simp)).trans c1.out
          have e2 := (hKr1.cell (p := ⟨bl, o + nO * 3 + 2, none⟩) hblt (by simp)).trans c2.out
          have hsz1 := hK1.size;have HK1 := Lib.hid hK1;clear hown1 hgrow1 hK1 hKr1
          go_wp2_with (at_builtin; refine wpList_append_own _ rfl _ _ 22 rfl wq.heap.size 72 i0 (.agg #[.string .empty, .string .empty, .bool false]) 3 40 Tryz.underlying22 hi hz0 hz1 hz2 rfl (by decide) _ _ _ rfl (O1.out.alloc _) ⟨w1.heap.size, 0, none⟩ 1 1 [.string (Txt q1), .string (Txt q2), .bool q3] rfl rfl (cell_three_new _ _ _ _ _) (by simp [Value.oneCell']) ?c3 ?c4 ?c5 ?_)
          case c3 => unfold maxLen; omega
          case c4 => omega
          case c5 => simp; omega
          intro v2 w2 hown2 hgrow2 _
          have hK2 := (HK1.out.alloc (.cells #[.string (Txt q1), .string (Txt q2), .bool q3] 72)).grown hgrow2 (fun g hg => .inr (O1.out.lt g hg).1)
          have O2 := (by simpa [pcl, pc1, Txt] using hown2 : w2.ownsRow wq.heap.size 72 3 v2 (L1 ++ [(q1, q2, q3)]).length (pcl (L1 ++ [(q1, q2, q3)])))
          obtain ⟨p2, x2, hv2⟩ := own_form O2
          rw [List.length_append, List.length_singleton] at hv2
          subst hv2
          have O2 := Lib.hid O2
          have PD2 := Lib.hid (PD.out.kp hK2 hszq (by simp))
          have hsz2 := hK2.size;have HK2 := Lib.hid hK2;clear hown2 hgrow2 hK2 e0 e1 e2
          go_wp2_with (at_builtin; refine wpList_append_pm rfl _ _ rfl wq.heap.size (L1 ++ [(q1, q2, q3)]) L2 _ _ rfl O2.out _ rfl PD2.out ?c1 hsz2 ?_)
          case c1 => simp only [List.length_append, List.length_singleton]; omega
          intro v3 w3 hown3 hgrow3
          have hK3 := HK2.out.grown hgrow3 (fun g hg => .inr (O2.out.lt g hg).1)
          have hown3 := (by simpa using hown3 : w3.ownsRow wq.heap.size 72 3 v3 (L1 ++ [(q1, q2, q3)] ++ L2).length (pcl (L1 ++ [(q1, q2, q3)] ++ L2)))
          obtain ⟨p3, x3, hv3⟩ := own_form hown3
          rw [HLN.out] at hv3
          subst hv3
          have P3 := Lib.hid (own_pm hown3);have KF := Lib.hid (HK.out.trans ((HKr.out.trans hKq).trans hK3));clear hown3 hgrow3 hK3 hKq
          go_wp2_with fail
          go_roundg (l.length - nO)
          case measure => omega
          case rel => exact ⟨nO + 1, p3, x3, nO + 1, by omega, by omega, rfl, (fun h => absurd h (Nat.succ_ne_zero _)), rfl, by go_num, by rw [HIns.out]; exact P3.out, KF.out⟩
       ·have hne : y1 ≠ q1 := fun h => by rw [h, ltL_irrefl] at hlt2; cases hlt2
        rw [decide_eq_false hne] at be9
        rw [show ltL y1 q1 = false from ltL_asymm _ _ hlt2] at bl9
        have HD := Lib.hid (GtF.down (k := m) (by rw [show m + 1 = nO from by omega]; exact HG.out) (by rw [hy]; exact hlt2))
        clear hys hy hlt2 hne
        go_wp2_with fail
        go_quiet (fail)
        go_wp2_with fail
        go_roundg (m + 1)
        case measure => omega
        case rel => exact ⟨m, by omega, by omega, by first | rfl | (rw [Hm.out]) | exact congrArg (Value.int .i64) Hm.out, HD.out, HKr.out.drewN _⟩
      ·have hkB : k < nO := by omega
       clear hkA
       rcases k with _ | k
       ·have H2 := Lib.hid (show (0 : Nat) = 0 ∨ ltL (q1, q2, q3).1 O[0 - 1]!.1 = false from .inl rfl)
        have HIns := Lib.hid (HNx.out.trans (insE_at (q1, q2, q3) O 0 (by omega) HG.out H2.out) : srt (l.take (nO + 1)) = O.take 0 ++ (q1, q2, q3) :: O.drop 0)
        have HCr := fun i u (h : (pcl O)[i]? = some u) => (HKr.out.cell (p := ⟨bo, oo + i, none⟩) hbo (by simp)).trans (HCell.out i u h)
        have hbo2 : bo < wr.heap.size := by omega
        have PT := Lib.hid (PmIn.take (B := wr.heap.size) hbo2 hOl hcj HCr 0 (by omega))
        have PD := Lib.hid (PmIn.drop (B := wr.heap.size) hbo2 hOl hcj HCr 0 (by omega))
        have hkc : 0 < vC := by omega
        clear HCr
        obtain ⟨L1, hL1⟩ : ∃ x, O.take 0 = x := ⟨_, rfl⟩
        obtain ⟨L2, hL2⟩ : ∃ x, O.drop 0 = x := ⟨_, rfl⟩
        have hl1 : L1.length = 0 := by rw [← hL1, List.length_take]; omega
        have hl2 : L2.length = nO - 0 := by rw [← hL2, List.length_drop]; omega
        have hl12 : L1.length + L2.length ≤ 2097152 := by omega
        have HLN := Lib.hid (by simp only [List.length_append, List.length_singleton]; omega : (L1 ++ [(q1, q2, q3)] ++ L2).length = nO + 1)
        rw [hL1, hL2] at HIns
        rw [hL1] at PT
        rw [hL2] at PD
        have HIns := Lib.hid (by rw [HIns.out]; simp : srt (l.take (nO + 1)) = L1 ++ [(q1, q2, q3)] ++ L2)
        clear hL1 hL2 hl1 hl2
        go_wp2_with fail
        go_quiet (fail)
        obtain ⟨wq, hwq⟩ : ∃ w2, wr.drewN nq = w2 := ⟨_, rfl⟩
        rw [hwq]
        have hKq : Kp [] wr wq := by rw [← hwq]; exact (Kp.refl [] wr).drewN _
        have hszq := hKq.size
        have PT := Lib.hid (PT.out.kp hKq (Nat.le_refl _) (by simp))
        have PD := Lib.hid (PD.out.kp hKq (Nat.le_refl _) (by simp))
        have HKq := Lib.hid hKq;clear hwq d0 d1 d2
        go_wp2_with (at_builtin; refine wpList_append_pm rfl _ _ rfl wq.heap.size [] L1 _ _ rfl (World.ownsRow_nil _ _ _ _) _ rfl PT.out ?c1 (Nat.le_refl _) ?_)
        case c1 => simp only [List.length_nil]; omega
        intro v1 w1 hown1 hgrow1
        have hK1 := (Kp.refl [] wq).grown hgrow1 (fun g hg => by cases hg)
        have O1 := (show w1.ownsRow wq.heap.size 72 3 v1 L1.length (pcl L1) from hown1)
        obtain ⟨p1, x1, rfl⟩ := own_form O1
        have O1 := Lib.hid O1;have hKr1 := (HKr.out.trans hKq).trans hK1
        have e0 := (hKr1.cell (p := ⟨bl, o + nO * 3, none⟩) hblt (by simp)).trans c0.out
        have e1 := (hKr1.cell (p := ⟨bl, o + nO * 3 + 1, none⟩) hblt (by simp)).trans c1.out
        have e2 := (hKr1.cell (p := ⟨bl, o + nO * 3 + 2, none⟩) hblt (by simp)).trans c2.out
        have hsz1 := hK1.size;have HK1 := Lib.hid hK1;clear hown1 hgrow1 hK1 hKr1
        go_wp2_with (at_builtin; refine wpList_append_own _ rfl _ _ 22 rfl wq.heap.size 72 i0 (.agg #[.string .empty, .string .empty, .bool false]) 3 40 Tryz.underlying22 hi hz0 hz1 hz2 rfl (by decide) _ _ _ rfl (O1.out.alloc _) ⟨w1.heap.size, 0, none⟩ 1 1 [.string (Txt q1), .string (Txt q2), .bool q3] rfl rfl (cell_three_new _ _ _ _ _) (by simp [Value.oneCell']) ?c3 ?c4 ?c5 ?_)
        case c3 => unfold maxLen; omega
        case c4 => omega
        case c5 => simp; omega
        intro v2 w2 hown2 hgrow2 _
        have hK2 := (HK1.out.alloc (.cells #[.string (Txt q1), .string (Txt q2), .bool q3] 72)).grown hgrow2 (fun g hg => .inr (O1.out.lt g hg).1)
        have O2 := (by simpa [pcl, pc1, Txt] using hown2 : w2.ownsRow wq.heap.size 72 3 v2 (L1 ++ [(q1, q2, q3)]).length (pcl (L1 ++ [(q1, q2, q3)])))
        obtain ⟨p2, x2, hv2⟩ := own_form O2
        rw [List.length_append, List.length_singleton] at hv2
        subst hv2
        have O2 := Lib.hid O2
        have PD2 := Lib.hid (PD.out.kp hK2 hszq (by simp))
        have hsz2 := hK2.size;have HK2 := Lib.hid hK2;clear hown2 hgrow2 hK2 e0 e1 e2
        go_wp2_with (at_builtin; refine wpList_append_pm rfl _ _ rfl wq.heap.size (L1 ++ [(q1, q2, q3)]) L2 _ _ rfl O2.out _ rfl PD2.out ?c1 hsz2 ?_)
        case c1 => simp only [List.length_append, List.length_singleton]; omega
        intro v3 w3 hown3 hgrow3
        have hK3 := HK2.out.grown hgrow3 (fun g hg => .inr (O2.out.lt g hg).1)
        have hown3 := (by simpa using hown3 : w3.ownsRow wq.heap.size 72 3 v3 (L1 ++ [(q1, q2, q3)] ++ L2).length (pcl (L1 ++ [(q1, q2, q3)] ++ L2)))
        obtain ⟨p3, x3, hv3⟩ := own_form hown3
        rw [HLN.out] at hv3
        subst hv3
        have P3 := Lib.hid (own_pm hown3);have KF := Lib.hid (HK.out.trans ((HKr.out.trans hKq).trans hK3));clear hown3 hgrow3 hK3 hKq
        go_wp2_with fail
        go_roundg (l.length - nO)
        case measure => omega
        case rel => exact ⟨nO + 1, p3, x3, nO + 1, by omega, by omega, rfl, (fun h => absurd h (Nat.succ_ne_zero _)), rfl, by go_num, by rw [HIns.out]; exact P3.out, KF.out⟩
       ·have hkl : k < O.length := by omega
        obtain ⟨y1, y2, y3, hy⟩ : ∃ a b c, O[k]! = (a, b, c) := ⟨_, _, _, rfl⟩
        have hys : O[k]? = some (y1, y2, y3) := by rw [← hy]; exact getD_some O k hkl
        have y0 : wr.cell? ⟨bo, oo + k * 3, none⟩ = some (.string (Txt y1)) := (HKr.out.cell (p := ⟨bo, oo + k * 3, none⟩) hbo (by simp)).trans (HCell.out _ _ (pcl_at O k _ hys 0 _ rfl))
        have wk1 : IntKind.i64.wrap ((k : Int) + 1 - 1) = (k : Int) := by rw [Int.add_sub_cancel]; exact IntWalk.i64_in _ (by omega)
        have wk2 : IntKind.i64.wrap (k : Int) = (k : Int) := IntWalk.i64_in _ (by omega)
        have hk0 : (0 : Int) ≤ (k : Int) := by omega
        have hkn : (k : Int) < (nO : Int) := by omega
        have hjl2 : (nO : Int) < (l.length : Int) := by omega
        have etl : ∀ a b : List UInt8, Op.bytesLess (Txt a).toList (Txt b).toList = ltL a b := fun a b => by rw [Lib.toList_data, Lib.toList_data, bytesLess_ltL]; rfl
        have bl9 := etl y1 q1
        have be9 : ((Txt y1).toList == (Txt q1).toList) = decide (y1 = q1) := txt_beqD _ _
        clear etl
        cases hlt2 : ltL q1 y1
        ·have H2 := Lib.hid (show (k + 1) = 0 ∨ ltL (q1, q2, q3).1 O[(k + 1) - 1]!.1 = false from .inr (by rw [show (k + 1) - 1 = k from by omega, hy]; exact hlt2))
         by_cases he : y1 = q1
         ·rw [decide_eq_true he] at be9
          rw [show ltL y1 q1 = false from by rw [he]; exact ltL_irrefl _] at bl9
          clear hys hy hlt2 he
          have HIns := Lib.hid (HNx.out.trans (insE_at (q1, q2, q3) O (k + 1) (by omega) HG.out H2.out) : srt (l.take (nO + 1)) = O.take (k + 1) ++ (q1, q2, q3) :: O.drop (k + 1))
          have HCr := fun i u (h : (pcl O)[i]? = some u) => (HKr.out.cell (p := ⟨bo, oo + i, none⟩) hbo (by simp)).trans (HCell.out i u h)
          have hbo2 : bo < wr.heap.size := by omega
          have PT := Lib.hid (PmIn.take (B := wr.heap.size) hbo2 hOl hcj HCr (k + 1) (by omega))
          have PD := Lib.hid (PmIn.drop (B := wr.heap.size) hbo2 hOl hcj HCr (k + 1) (by omega))
          have hkc : (k + 1) < vC := by omega
          clear HCr
          obtain ⟨L1, hL1⟩ : ∃ x, O.take (k + 1) = x := ⟨_, rfl⟩
          obtain ⟨L2, hL2⟩ : ∃ x, O.drop (k + 1) = x := ⟨_, rfl⟩
          have hl1 : L1.length = (k + 1) := by rw [← hL1, List.length_take]; omega
          have hl2 : L2.length = nO - (k + 1) := by rw [← hL2, List.length_drop]; omega
          have hl12 : L1.length + L2.length ≤ 2097152 := by omega
          have HLN := Lib.hid (by simp only [List.length_append, List.length_singleton]; omega : (L1 ++ [(q1, q2, q3)] ++ L2).length = nO + 1)
          rw [hL1, hL2] at HIns
          rw [hL1] at PT
          rw [hL2] at PD
          have HIns := Lib.hid (by rw [HIns.out]; simp : srt (l.take (nO + 1)) = L1 ++ [(q1, q2, q3)] ++ L2)
          clear hL1 hL2 hl1 hl2
          go_wp2_with fail
          go_quiet (fail)
          obtain ⟨wq, hwq⟩ : ∃ w2, wr.drewN nq = w2 := ⟨_, rfl⟩
          rw [hwq]
          have hKq : Kp [] wr wq := by rw [← hwq]; exact (Kp.refl [] wr).drewN _
          have hszq := hKq.size
          have PT := Lib.hid (PT.out.kp hKq (Nat.le_refl _) (by simp))
          have PD := Lib.hid (PD.out.kp hKq (Nat.le_refl _) (by simp))
          have HKq := Lib.hid hKq;clear hwq d0 d1 d2 y0 bl9 be9 wk1 wk2
          go_wp2_with (at_builtin; refine wpList_append_pm rfl _ _ rfl wq.heap.size [] L1 _ _ rfl (World.ownsRow_nil _ _ _ _) _ rfl PT.out ?c1 (Nat.le_refl _) ?_)
          case c1 => simp only [List.length_nil]; omega
          intro v1 w1 hown1 hgrow1
          have hK1 := (Kp.refl [] wq).grown hgrow1 (fun g hg => by cases hg)
          have O1 := (show w1.ownsRow wq.heap.size 72 3 v1 L1.length (pcl L1) from hown1)
          obtain ⟨p1, x1, rfl⟩ := own_form O1
          have O1 := Lib.hid O1;have hKr1 := (HKr.out.trans hKq).trans hK1
          have e0 := (hKr1.cell (p := ⟨bl, o + nO * 3, none⟩) hblt (by simp)).trans c0.out
          have e1 := (hKr1.cell (p := ⟨bl, o + nO * 3 + 1, none⟩) hblt (by simp)).trans c1.out
          have e2 := (hKr1.cell (p := ⟨bl, o + nO * 3 + 2, none⟩) hblt (by simp)).trans c2.out
          have hsz1 := hK1.size;have HK1 := Lib.hid hK1;clear hown1 hgrow1 hK1 hKr1
          go_wp2_with (at_builtin; refine wpList_append_own _ rfl _ _ 22 rfl wq.heap.size 72 i0 (.agg #[.string .empty, .string .empty, .bool false]) 3 40 Tryz.underlying22 hi hz0 hz1 hz2 rfl (by decide) _ _ _ rfl (O1.out.alloc _) ⟨w1.heap.size, 0, none⟩ 1 1 [.string (Txt q1), .string (Txt q2), .bool q3] rfl rfl (cell_three_new _ _ _ _ _) (by simp [Value.oneCell']) ?c3 ?c4 ?c5 ?_)
          case c3 => unfold maxLen; omega
          case c4 => omega
          case c5 => simp; omega
          intro v2 w2 hown2 hgrow2 _
          have hK2 := (HK1.out.alloc (.cells #[.string (Txt q1), .string (Txt q2), .bool q3] 72)).grown hgrow2 (fun g hg => .inr (O1.out.lt g hg).1)
          have O2 := (by simpa [pcl, pc1, Txt] using hown2 : w2.ownsRow wq.heap.size 72 3 v2 (L1 ++ [(q1, q2, q3)]).length (pcl (L1 ++ [(q1, q2, q3)])))
          obtain ⟨p2, x2, hv2⟩ := own_form O2
          rw [List.length_append, List.length_singleton] at hv2
          subst hv2
          have O2 := Lib.hid O2
          have PD2 := Lib.hid (PD.out.kp hK2 hszq (by simp))
          have hsz2 := hK2.size;have HK2 := Lib.hid hK2;clear hown2 hgrow2 hK2 e0 e1 e2
          go_wp2_with (at_builtin; refine wpList_append_pm rfl _ _ rfl wq.heap.size (L1 ++ [(q1, q2, q3)]) L2 _ _ rfl O2.out _ rfl PD2.out ?c1 hsz2 ?_)
          case c1 => simp only [List.length_append, List.length_singleton]; omega
          intro v3 w3 hown3 hgrow3
          have hK3 := HK2.out.grown hgrow3 (fun g hg => .inr (O2.out.lt g hg).1)
          have hown3 := (by simpa using hown3 : w3.ownsRow wq.heap.size 72 3 v3 (L1 ++ [(q1, q2, q3)] ++ L2).length (pcl (L1 ++ [(q1, q2, q3)] ++ L2)))
          obtain ⟨p3, x3, hv3⟩ := own_form hown3
          rw [HLN.out] at hv3
          subst hv3
          have P3 := Lib.hid (own_pm hown3);have KF := Lib.hid (HK.out.trans ((HKr.out.trans hKq).trans hK3));clear hown3 hgrow3 hK3 hKq
          go_wp2_with fail
          go_roundg (l.length - nO)
          case measure => omega
          case rel => exact ⟨nO + 1, p3, x3, nO + 1, by omega, by omega, rfl, (fun h => absurd h (Nat.succ_ne_zero _)), rfl, by go_num, by rw [HIns.out]; exact P3.out, KF.out⟩
         ·rw [decide_eq_false he] at be9
          rw [show ltL y1 q1 = true from by cases h : ltL y1 q1 with | true => rfl | false => exact absurd (ltL_total y1 q1 h hlt2) he] at bl9
          clear hys hy hlt2 he
          have HIns := Lib.hid (HNx.out.trans (insE_at (q1, q2, q3) O (k + 1) (by omega) HG.out H2.out) : srt (l.take (nO + 1)) = O.take (k + 1) ++ (q1, q2, q3) :: O.drop (k + 1))
          have HCr := fun i u (h : (pcl O)[i]? = some u) => (HKr.out.cell (p := ⟨bo, oo + i, none⟩) hbo (by simp)).trans (HCell.out i u h)
          have hbo2 : bo < wr.heap.size := by omega
          have PT := Lib.hid (PmIn.take (B := wr.heap.size) hbo2 hOl hcj HCr (k + 1) (by omega))
          have PD := Lib.hid (PmIn.drop (B := wr.heap.size) hbo2 hOl hcj HCr (k + 1) (by omega))
          have hkc : (k + 1) < vC := by omega
          clear HCr
          obtain ⟨L1, hL1⟩ : ∃ x, O.take (k + 1) = x := ⟨_, rfl⟩
          obtain ⟨L2, hL2⟩ : ∃ x, O.drop (k + 1) = x := ⟨_, rfl⟩
          have hl1 : L1.length = (k + 1) := by rw [← hL1, List.length_take]; omega
          have hl2 : L2.length = nO - (k + 1) := by rw [← hL2, List.length_drop]; omega
          have hl12 : L1.length + L2.length ≤ 2097152 := by omega
          have HLN := Lib.hid (by simp only [List.length_append, List.length_singleton]; omega : (L1 ++ [(q1, q2, q3)] ++ L2).length = nO + 1)
          rw [hL1, hL2] at HIns
          rw [hL1] at PT
          rw [hL2] at PD
          have HIns := Lib.hid (by rw [HIns.out]; simp : srt (l.take (nO + 1)) = L1 ++ [(q1, q2, q3)] ++ L2)
          clear hL1 hL2 hl1 hl2
          go_wp2_with fail
          go_quiet (fail)
          obtain ⟨wq, hwq⟩ : ∃ w2, wr.drewN nq = w2 := ⟨_, rfl⟩
          rw [hwq]
          have hKq : Kp [] wr wq := by rw [← hwq]; exact (Kp.refl [] wr).drewN _
          have hszq := hKq.size
          have PT := Lib.hid (PT.out.kp hKq (Nat.le_refl _) (by simp))
          have PD := Lib.hid (PD.out.kp hKq (Nat.le_refl _) (by simp))
          have HKq := Lib.hid hKq;clear hwq d0 d1 d2 y0 bl9 be9 wk1 wk2
          go_wp2_with (at_builtin; refine wpList_append_pm rfl _ _ rfl wq.heap.size [] L1 _ _ rfl (World.ownsRow_nil _ _ _ _) _ rfl PT.out ?c1 (Nat.le_refl _) ?_)
          case c1 => simp only [List.length_nil]; omega
          intro v1 w1 hown1 hgrow1
          have hK1 := (Kp.refl [] wq).grown hgrow1 (fun g hg => by cases hg)
          have O1 := (show w1.ownsRow wq.heap.size 72 3 v1 L1.length (pcl L1) from hown1)
          obtain ⟨p1, x1, rfl⟩ := own_form O1
          have O1 := Lib.hid O1;have hKr1 := (HKr.out.trans hKq).trans hK1
          have e0 := (hKr1.cell (p := ⟨bl, o + nO * 3, none⟩) hblt (by simp)).trans c0.out
          have e1 := (hKr1.cell (p := ⟨bl, o + nO * 3 + 1, none⟩) hblt (by simp)).trans c1.out
          have e2 := (hKr1.cell (p := ⟨bl, o + nO * 3 + 2, none⟩) hblt (by simp)).trans c2.out
          have hsz1 := hK1.size;have HK1 := Lib.hid hK1;clear hown1 hgrow1 hK1 hKr1
          go_wp2_with (at_builtin; refine wpList_append_own _ rfl _ _ 22 rfl wq.heap.size 72 i0 (.agg #[.string .empty, .string .empty, .bool false]) 3 40 Tryz.underlying22 hi hz0 hz1 hz2 rfl (by decide) _ _ _ rfl (O1.out.alloc _) ⟨w1.heap.size, 0, none⟩ 1 1 [.string (Txt q1), .string (Txt q2), .bool q3] rfl rfl (cell_three_new _ _ _ _ _) (by simp [Value.oneCell']) ?c3 ?c4 ?c5 ?_)
          case c3 => unfold maxLen; omega
          case c4 => omega
          case c5 => simp; omega
          intro v2 w2 hown2 hgrow2 _
          have hK2 := (HK1.out.alloc (.cells #[.string (Txt q1), .string (Txt q2), .bool q3] 72)).grown hgrow2 (fun g hg => .inr (O1.out.lt g hg).1)
          have O2 := (by simpa [pcl, pc1, Txt] using hown2 : w2.ownsRow wq.heap.size 72 3 v2 (L1 ++ [(q1, q2, q3)]).length (pcl (L1 ++ [(q1, q2, q3)])))
          obtain ⟨p2, x2, hv2⟩ := own_form O2
          rw [List.length_append, List.length_singleton] at hv2
          subst hv2
          have O2 := Lib.hid O2
          have PD2 := Lib.hid (PD.out.kp hK2 hszq (by simp))
          have hsz2 := hK2.size;have HK2 := Lib.hid hK2;clear hown2 hgrow2 hK2 e0 e1 e2
          go_wp2_with (at_builtin; refine wpList_append_pm rfl _ _ rfl wq.heap.size (L1 ++ [(q1, q2, q3)]) L2 _ _ rfl O2.out _ rfl PD2.out ?c1 hsz2 ?_)
          case c1 => simp only [List.length_append, List.length_singleton]; omega
          intro v3 w3 hown3 hgrow3
          have hK3 := HK2.out.grown hgrow3 (fun g hg => .inr (O2.out.lt g hg).1)
          have hown3 := (by simpa using hown3 : w3.ownsRow wq.heap.size 72 3 v3 (L1 ++ [(q1, q2, q3)] ++ L2).length (pcl (L1 ++ [(q1, q2, q3)] ++ L2)))
          obtain ⟨p3, x3, hv3⟩ := own_form hown3
          rw [HLN.out] at hv3
          subst hv3
          have P3 := Lib.hid (own_pm hown3);have KF := Lib.hid (HK.out.trans ((HKr.out.trans hKq).trans hK3));clear hown3 hgrow3 hK3 hKq
          go_wp2_with fail
          go_roundg (l.length - nO)
          case measure => omega
          case rel => exact ⟨nO + 1, p3, x3, nO + 1, by omega, by omega, rfl, (fun h => absurd h (Nat.succ_ne_zero _)), rfl, by go_num, by rw [HIns.out]; exact P3.out, KF.out⟩
        ·have hne : y1 ≠ q1 := fun h => by rw [h, ltL_irrefl] at hlt2; cases hlt2
         rw [decide_eq_false hne] at be9
         rw [show ltL y1 q1 = false from ltL_asymm _ _ hlt2] at bl9
         have HD := Lib.hid (GtF.down (k := k) (by rw [show k + 1 = (k + 1) from by omega]; exact HG.out) (by rw [hy]; exact hlt2))
         clear hys hy hlt2 hne
         go_wp2_with fail
         go_quiet (fail)
         go_wp2_with fail
         go_roundg (k + 1)
         case measure => omega
         case rel => exact ⟨k, by omega, by omega, by go_num, HD.out, HKr.out.drewN _⟩
  ·have hjl : l.take j = l := List.take_of_length_le (by omega)
   have HF := Lib.hid (by rw [← HO.out, hjl] : srt l = O)
   clear hjl PLr hPO
   go_wp2_with fail
   go_ret
   unfold StP
   rw [HF.out]
   exact ⟨_, rfl, HPO.out, HK.out⟩
end Ad
end Go.Proofs.YtmmjfofdnpafkaaGreatDoor
namespace Go.Proofs.YtmmjfofdnpafkaaGreatDoor
namespace Ad
open Lx
theorem ppF_some : ∀ (l acc : List Prm) (x : List UInt8), ppF l acc = some x → acc.length ≤ 16 → Names acc → (acc ++ l).length ≤ 16 ∧ Names (acc ++ l) ∧ x = l.flatMap ppL := by
 intro l
 induction l with
 | nil => intro acc x h h1 h2; rw [ppF] at h; cases h; simp only [List.append_nil]; exact ⟨h1, h2, rfl⟩
 | cons p t ih =>
   intro acc x h h1 h2
   rw [ppF] at h
   split at h
   ·rename_i hc
    simp only [Bool.and_eq_true, decide_eq_true_eq] at hc
    have hr := (room_iff acc p.1).1 hc.2
    cases hx : ppF t (acc ++ [p]) with
    | none => rw [hx] at h; cases h
    | some y =>
      rw [hx] at h
      simp only [Option.map_some, Option.some.injEq] at h
      have := ih (acc ++ [p]) y hx (by rw [List.length_append, List.length_singleton]; have := hr.2; omega) (names_snoc acc p h2 hr.1)
      rw [List.append_assoc, List.singleton_append] at this
      exact ⟨this.1, this.2.1, by rw [← h, this.2.2]; rfl⟩
   ·cases h
theorem ppO_some (l : List Prm) (x : List UInt8) (h : ppO l = some x) : l.length ≤ 16 ∧ Names l ∧ x = l.flatMap ppL := by
 have := ppF_some l [] x h (by simp) (by unfold Names; simp)
 simpa using this
theorem ppO_dup (l : List Prm) (h : ¬ Names l) : ppO l = none := by
 cases hx : ppO l with
 | none => rfl
 | some x => exact absurd (ppO_some l x hx).2.1 h
theorem ppO_sort (l l' : List Prm) (hp : l'.Perm l) (hs : Srtd l') : ppO l' = ppO (srt l) := by
 by_cases hn : Names l
 ·rw [srt_of l' l hp hs hn]
 ·rw [ppO_dup l' (fun h => hn (h.perm hp)), ppO_dup (srt l) (fun h => hn (h.perm (srt_perm l)))]
theorem flat_len (l : List Prm) (h : SzP l) : (l.flatMap ppL).length ≤ l.length * 6291460 := by
 induction l with
 | nil => simp
 | cons p t ih =>
   have h1 := ppL_len p (h p (List.mem_cons_self ..))
   have h2 := ih (fun q hq => h q (List.mem_cons_of_mem _ hq))
   rw [List.flatMap_cons, List.length_append, List.length_cons]; omega
theorem ppO_len (l : List Prm) (h : SzP l) (x : List UInt8) (hx : ppO l = some x) : x.length ≤ 16 * 6291460 := by
 obtain ⟨h1, _, h3⟩ := ppO_some l x hx
 rw [h3]
 exact Nat.le_trans (flat_len l h) (Nat.mul_le_mul_right _ h1)
theorem textU_len (n : Uri) (h : SzN n) (hk : n.scheme = telL → n.heads = []) : (textU n).length ≤ 1073741824 := by
 rw [text_eq n hk]
 have h1 := h.scheme; have h2 := h.user; have h3 := h.host
 have h4 := wrt_len2 59 59 1 n.params h.ps;have h5 := wrt_len2 63 38 2 n.heads h.hs;have h6 := plc_len n.user n.host n.port h.port0 h.port1
 have h7 := h.params; have h8 := h.heads
 simp only [List.length_append, List.length_singleton]
 split <;> omega
theorem printO_len (u : Uri) (hz : SzU u) (hh : u.host.length ≤ 1048576) (x : List UInt8) (hx : printO u = some x) : x.length ≤ 1073741824 := by
 unfold printO at hx
 cases hn : normal u with
 | none => rw [hn] at hx; cases hx
 | some n =>
   rw [hn] at hx
   simp only [Option.map_some, Option.some.injEq] at hx
   rw [← hx]
   exact textU_len n (normal_sz u n hz hh hn) (normal_tel u n hn)
def dspL (d : List UInt8) : List UInt8 := if d = [] then [] else [34] ++ escL d ++ [34, 32]
theorem adrO_eq (a : Adr) : adrO a = match printO a.uri, ppO (srt a.params) with
   | some u, some p => if hasCtl a.display then none else some (dspL a.display ++ [60] ++ u ++ [62] ++ p)
   | _, _ => none := rfl
end Ad
end Go.Proofs.YtmmjfofdnpafkaaGreatDoor
namespace Go.Proofs.YtmmjfofdnpafkaaGreatDoor
namespace Ad
open Go.RowKit Lx
structure SzA (a : Adr) : Prop where
 display : a.display.length ≤ 1048576
 uri : SzU a.uri
 host : a.uri.host.length ≤ 1048576
 params : a.params.length ≤ 2097152
 ps : SzP a.params
theorem sz_one (c : UInt8) : (⟨#[c]⟩ : ByteArray).size = 1 := rfl
def PrK (o : Option (List UInt8)) (w : World) (e : Ending) (w' : World) : Prop :=
 e = .returned (.tuple #[.string (Txt (o.getD [])), .int .u8 (if o.isSome then 0 else 2)]) ∧ Kp [] w w'
theorem PrP.toK {o : Option (List UInt8)} {w w' : World} {e : Ending} (h : PrP o w e w') : PrK o w e w' := ⟨h.1, (Kp.refl [] w).below h.2⟩
theorem PrK.none {o : Option (List UInt8)} {w w' : World} (h : o = none) (k : Kp [] w w') : PrK o w (.returned (.tuple #[.string ⟨#[]⟩, .int .u8 2])) w' := by
 unfold PrK; rw [h]; exact ⟨rfl, k⟩
theorem PrK.some {o : Option (List UInt8)} {t : List UInt8} {s : ByteArray} {w w' : World} (h : o = some t) (hs : s = Txt t) (k : Kp [] w w') : PrK o w (.returned (.tuple #[.string s, .int .u8 0])) w' := by
 unfold PrK; rw [h, hs]; exact ⟨rfl, k⟩
set_option maxRecDepth 100000 in
set_option maxHeartbeats 8000000 in
theorem printAddress_any (B : Nat) (v : Value) (a : Adr) (w : World) (hA : AdIn B w v a) (hB : B ≤ w.heap.size) (hz : SzA a) (E : Env w) :
   Calls Tryz.prog 17 #[v] w (PrK (adrO a) w) := by
 obtain ⟨vp, vh, vq, rfl, hp, hh, hq⟩ := hA
 obtain ⟨A1, C1, rfl⟩ := hp.form
 obtain ⟨A2, C2, rfl⟩ := hh.form
 obtain ⟨A3, C3, rfl⟩ := hq.form
 have HZ := Lib.hid hz;have hd := hz.display;have k1 := hz.params
 obtain ⟨wA, hwA⟩ : ∃ wz_, w.alloc (.cells #[.string (Txt a.display), .string (Txt a.uri.scheme), .string (Txt a.uri.user), .string (Txt a.uri.host), .int .i64 a.uri.port, .slice A1 a.uri.params.length C1, .slice A2 a.uri.heads.length C2, .slice A3 a.params.length C3] 26) = wz_ := ⟨_, rfl⟩
 have hX := ABox.new (hp.more hB) (hh.more hB) (hq.more hB)
 rw [hwA] at hX
 have hK : Kp [] w wA := by rw [← hwA]; exact (Kp.refl [] w).alloc _
 have KA := Lib.hid hK
 have EA := Lib.hid (E.kp hK (by simp))
 have XA := Lib.hid hX
 obtain ⟨R, hR⟩ : ∃ r, adrO a = r := ⟨_, rfl⟩
 have HR := Lib.hid ((adrO_eq a).symm.trans hR)
 rw [hR]
 obtain ⟨on, hon⟩ : ∃ o, printO a.uri = o := ⟨_, rfl⟩
 have HL := Lib.hid (fun x (h : printO a.uri = some x) => printO_len a.uri hz.uri hz.host x h)
 have Hon := Lib.hid hon
 have HPr := Lib.hid (fun (B : Nat) (v : Value) (w : World) (hU : UriIn B w v a.uri) (hB : B ≤ w.heap.size) (E : Env w) => (Print_any B v a.uri w hU hB hz.uri hz.host E).mono fun _ _ h => h.toK)
 rw [hon] at HPr
 have s64 : (9 : Nat) ≤ 9 := Nat.le_refl _
 clear hX hK hp hh hq hz E hR hon
 obtain ⟨a1, c1, a2, c2, a3, c3, hc, hi, hq⟩ := XA.out.in
 have b0 := hc 0;have b1 := hc 1;have b2 := hc 2;have b3 := hc 3;have b4 := hc 4;have b5 := hc 5;have b6 := hc 6;have In := Lib.hid hi;clear hc hi hq
 go_enter Tryz.func17, Tryz.ntmps17
 go_wp2_with fail
 refine (HPr.out _ _ _ In.out (Nat.le_refl _) EA.out).mono ?_
 rintro e w1 ⟨rfl, hK1⟩
 have K1 := Lib.hid (KA.out.trans hK1)
 have E1 := Lib.hid (EA.out.kp hK1 (by simp))
 have X1 := Lib.hid (XA.out.kpn hK1);clear hK1 b0 b1 b2 b3 b4 b5 b6 In
 cases on with
 | none =>
   have HN := Lib.hid (by rw [← HR.out, Hon.out] : R = none)
   simp only [Option.getD_none, Option.isSome_none, Bool.false_eq_true, if_false]
   go_wp2_with fail
   go_ret2
   exact PrK.none HN.out K1.out
 | some u =>
   have hul := HL.out u Hon.out
   simp only [Option.getD_some, Option.isSome_some, if_true]
   obtain ⟨a1, c1, a2, c2, a3, c3, hc, hi, hq⟩ := X1.out.in
   have b0 := hc 0;have b7 := hc 7;have Pq := Lib.hid hq;clear hc hi hq
   obtain ⟨cc, hcc⟩ : ∃ x, hasCtl a.display = x := ⟨_, rfl⟩
   have HCt := Lib.hid (fun wz => ctlK a.display cc hcc (by omega) wz)
   have Hcc := Lib.hid hcc;clear hcc
   cases cc with
   | true =>
     have HN := Lib.hid (by rw [← HR.out, Hon.out]; cases ppO (srt a.params) with | none => rfl | some p => exact if_pos Hcc.out : R = none)
     go_wp2_with fail
     refine (HCt.out _).mono ?_
     rintro e w2 ⟨rfl, hK2⟩
     have K2 := Lib.hid (K1.out.trans hK2);clear hK2 b0 b7
     go_wp2_with fail
     go_ret2
     exact PrK.none HN.out K2.out
   | false =>
     go_wp2_with fail
     refine (HCt.out _).mono ?_
     rintro e w2 ⟨rfl, hK2⟩
     have K2 := Lib.hid (K1.out.trans hK2)
     have E2 := Lib.hid (E1.out.kp hK2 (by simp))
     have X2 := Lib.hid (X1.out.kpn hK2);clear hK2 b0 b7 Pq
     obtain ⟨a1, c1, a2, c2, a3, c3, hc, hi, hq⟩ := X2.out.in
     have b7 := hc 7;have Pq := Lib.hid hq;clear hc hi hq
     go_wp2_with fail
     refine (sorted_any _ _ a.params _ Pq.out (Nat.le_refl _) (by omega)).mono ?_
     rintro e w3 ⟨v3, l3, rfl, hP3, hPe, hSo, hK3⟩
     have K3 := Lib.hid (K2.out.trans hK3)
     have E3 := Lib.hid (E2.out.kp hK3 (by simp))
     have X3 := Lib.hid (X2.out.kpn hK3);have P3 := Lib.hid hP3
     obtain ⟨A9, C9, rfl⟩ := hP3.form
     have hl3 : l3.length ≤ 2097152 := by rw [hPe.length_eq]; exact k1
     have HS3 := Lib.hid (show SzP l3 from fun p hp => HZ.out.ps p (hPe.mem_iff.1 hp))
     have HSo := Lib.hid (ppO_sort a.params l3 hPe hSo)
     obtain ⟨po, hpo⟩ : ∃ o, ppO (srt a.params) = o := ⟨_, rfl⟩
     have HPo := Lib.hid (HSo.out.trans hpo);have HQo := Lib.hid hpo;clear hK3 hP3 hPe hSo hpo b7 Pq
     go_wp2_with fail
     refine (printParams_any _ _ l3 _ P3.out (Nat.le_refl _) HS3.out hl3 E3.out).mono ?_
     rintro e w4 ⟨rfl, hB4⟩
     rw [HPo.out]
     have K4 := Lib.hid (K3.out.below hB4)
     have X4 := Lib.hid (X3.out.kpn ((Kp.refl [] w3).below hB4))
     clear hB4
     cases po with
     | none =>
       have HN := Lib.hid (by rw [← HR.out, Hon.out, HQo.out] : R = none)
       simp only [Option.getD_none, Option.isSome_none, Bool.false_eq_true, if_false]
       go_wp2_with fail
       go_ret2
       exact PrK.none HN.out K4.out
     | some p =>
       have hpl := ppO_len l3 HS3.out p HPo.out
       have HY := Lib.hid (by rw [← HR.out, Hon.out, HQo.out]; exact if_neg (by rw [Hcc.out]; decide) : R = some (dspL a.display ++ [60] ++ u ++ [62] ++ p))
       simp only [Option.getD_some, Option.isSome_some, if_true]
       obtain ⟨a1, c1, a2, c2, a3, c3, hc, hi, hq⟩ := X4.out.in
       have b0 := hc 0;clear hc hi hq
       have su : (Txt u).size ≤ 1073741824 := by rw [txt_size]; exact hul
       have sp : (Txt p).size ≤ 100663360 := by rw [txt_size]; exact hpl
       by_cases hde : a.display = []
       ·have be : ((Txt a.display).toList == ([] : List UInt8)) = true := by rw [hde]; decide +kernel
        have HD := Lib.hid (by unfold dspL; rw [if_pos hde] : dspL a.display = [])
        have s1 : ((⟨#[]⟩ : ByteArray) ++ (⟨#[60]⟩ : ByteArray)).size ≤ 1 := by decide
        have s2 : ((⟨#[]⟩ : ByteArray) ++ (⟨#[60]⟩ : ByteArray) ++ Txt u).size ≤ 1073741825 := by rw [ByteArray.size_append]; omega
        have s3 : ((⟨#[]⟩ : ByteArray) ++ (⟨#[60]⟩ : ByteArray) ++ Txt u ++ (⟨#[62]⟩ : ByteArray)).size ≤ 1073741826 := by rw [ByteArray.size_append]; have := sz_one 62; omega
        have Hcat := Lib.hid ((congrArg (fun z => z ++ Txt u ++ (⟨#[62]⟩ : ByteArray) ++ Txt p) (cat_txt [] [60])).trans ((congrArg (fun z => z ++ (⟨#[62]⟩ : ByteArray) ++ Txt p) (cat_txt _ u)).trans ((congrArg (fun z => z ++ Txt p) (cat_txt _ [62])).trans (cat_txt _ p))) : (⟨#[]⟩ : ByteArray) ++ (⟨#[60]⟩ : ByteArray) ++ Txt u ++ (⟨#[62]⟩ : ByteArray) ++ Txt p = Txt ([] ++ [60] ++ u ++ [62] ++ p))
        have HY2 := Lib.hid (by rw [HY.out, HD.out] : R = some ([] ++ [60] ++ u ++ [62] ++ p))
        clear hde
        go_wp2_with fail
        go_ret2
        exact PrK.some HY2.out Hcat.out K4.out
       ·have be : ((Txt a.display).toList == ([] : List UInt8)) = false := emp_no _ hde
        have hq : quT a.display = [34] ++ escL a.display ++ [34] := by unfold quT; rw [if_neg (by rw [Hcc.out]; decide)]
        have HD := Lib.hid (by unfold dspL; rw [if_neg hde, hq]; simp : dspL a.display = quT a.display ++ [32])
        obtain ⟨Q, hQ⟩ : ∃ x, quT a.display = x := ⟨_, rfl⟩
        have sq : (Txt Q).size ≤ 2097154 := by rw [txt_size, ← hQ, hq]; have := escL_len a.display; simp only [List.length_append, List.length_cons, List.length_nil]; omega
        have HQt := fun wz => Lx.quote_any (Txt a.display) wz (by rw [txt_size]; omega)
        rw [txt_list, hQ] at HQt
        have HQt := Lib.hid HQt
        rw [hQ] at HD
        have s0 : (Txt Q ++ (⟨#[32]⟩ : ByteArray)).size ≤ 2097155 := by rw [ByteArray.size_append]; have := sz_one 32; omega
        have s1 : (Txt Q ++ (⟨#[32]⟩ : ByteArray) ++ (⟨#[60]⟩ : ByteArray)).size ≤ 2097156 := by rw [ByteArray.size_append]; have := sz_one 60; omega
        have s2 : (Txt Q ++ (⟨#[32]⟩ : ByteArray) ++ (⟨#[60]⟩ : ByteArray) ++ Txt u).size ≤ 1075838980 := by rw [ByteArray.size_append]; omega
        have s3 : (Txt Q ++ (⟨#[32]⟩ : ByteArray) ++ (⟨#[60]⟩ : ByteArray) ++ Txt u ++ (⟨#[62]⟩ : ByteArray)).size ≤ 1075838981 := by rw [ByteArray.size_append]; have := sz_one 62; omega
        have Hcat := Lib.hid ((congrArg (fun z => z ++ (⟨#[60]⟩ : ByteArray) ++ Txt u ++ (⟨#[62]⟩ : ByteArray) ++ Txt p) (cat_txt Q [32])).trans ((congrArg (fun z => z ++ Txt u ++ (⟨#[62]⟩ : ByteArray) ++ Txt p) (cat_txt _ [60])).trans ((congrArg (fun z => z ++ (⟨#[62]⟩ : ByteArray) ++ Txt p) (cat_txt _ u)).trans ((congrArg (fun z => z ++ Txt p) (cat_txt _ [62])).trans (cat_txt _ p)))) : Txt Q ++ (⟨#[32]⟩ : ByteArray) ++ (⟨#[60]⟩ : ByteArray) ++ Txt u ++ (⟨#[62]⟩ : ByteArray) ++ Txt p = Txt (Q ++ [32] ++ [60] ++ u ++ [62] ++ p))
        have HY2 := Lib.hid (by rw [HY.out, HD.out] : R = some (Q ++ [32] ++ [60] ++ u ++ [62] ++ p))
        clear hde hq hQ
        go_wp2_with fail
        refine (HQt.out _).mono ?_
        rintro e w5 ⟨rfl, hB5⟩
        have K5 := Lib.hid (K4.out.below hB5);clear hB5 b0
        rw [show (⟨Q.toArray⟩ : ByteArray) = Txt Q from rfl]
        go_wp2_with fail
        go_ret2
        exact PrK.some HY2.out Hcat.out K5.out
end Ad
end Go.Proofs.YtmmjfofdnpafkaaGreatDoor
namespace Go.Proofs.YtmmjfofdnpafkaaGreatDoor
namespace Ad
open Go.RowKit Lx
def Rdr (b : Nat) (s : ByteArray) (i p : Nat) (e : Int) (w : World) : Prop := Blk w b 260 #[.string s, .int .i64 i, .int .i64 p, .int .u8 e]
section
variable {b i p : Nat} {s : ByteArray} {e : Int} {w w' : World} {X : List Nat}
theorem Rdr.lt (h : Rdr b s i p e w) : b < w.heap.size := Blk.lt h
theorem Rdr.c0 (h : Rdr b s i p e w) : w.cell? ⟨b, 0, none⟩ = some (.string s) := Blk.cell h 0
theorem Rdr.c1 (h : Rdr b s i p e w) : w.cell? ⟨b, 1, none⟩ = some (.int .i64 i) := Blk.cell h 1
theorem Rdr.c2 (h : Rdr b s i p e w) : w.cell? ⟨b, 2, none⟩ = some (.int .i64 p) := Blk.cell h 2
theorem Rdr.c3 (h : Rdr b s i p e w) : w.cell? ⟨b, 3, none⟩ = some (.int .u8 e) := Blk.cell h 3
theorem Rdr.fr (h : Rdr b s i p e w) (k : Nat) : w.frozen? ⟨b, k, none⟩ = false := Blk.frozen h k
theorem Rdr.kp (h : Rdr b s i p e w) (k : Kp X w w') (hb : b ∉ X) : Rdr b s i p e w' := Blk.kp h k hb
end
def IsP (x : Bool) (w : World) (e : Ending) (w' : World) : Prop := e = .returned (.bool x) ∧ ∃ n, w' = w.drewN n
theorem IsP.k {x : Bool} {w w' : World} {e : Ending} (h : IsP x w e w') : BoK x w e w' := ⟨h.1, by obtain ⟨n, hn⟩ := h.2; rw [hn]; exact (Kp.refl [] w).drewN n⟩
end Ad
end Go.Proofs.YtmmjfofdnpafkaaGreatDoor
namespace Go.Proofs.YtmmjfofdnpafkaaGreatDoor
namespace Ad
open Go.RowKit Lx
def RdT (b : Nat) (s : ByteArray) (r : List UInt8 × Nat × Int) (w : World) (e : Ending) (w' : World) : Prop :=
 ∃ t i', e = .returned (.string t) ∧ i' ≤ s.size ∧ Rdr b s i' (if r.2.2 = 0 then 0 else r.2.1) r.2.2 w' ∧ Kp [b] w w' ∧ (r.2.2 = 0 → t = Txt r.1 ∧ i' = r.2.1)
end Ad
end Go.Proofs.YtmmjfofdnpafkaaGreatDoor
namespace Go.Proofs.YtmmjfofdnpafkaaGreatDoor
namespace Ad
open Go.RowKit Lx
theorem endP_before (p : Int → Bool) (l : List UInt8) (k j : Nat) (h1 : k ≤ j) (h2 : j < endP p l k) (h3 : j < l.length) : p (atB l j) = false := by
 unfold endP at h2
 have e : atB l j = atB (l.drop k) (j - k) := by unfold atB; rw [List.getElem?_drop, show k + (j - k) = j from by omega]
 rw [e]
 have h4 : j - k < runL (fun c => !p c) (l.drop k) := by omega
 have h5 : j - k < (l.drop k).length := by simp; omega
 generalize j - k = m at *
 generalize l.drop k = r at *
 clear e h1 h2 h3
 induction r generalizing m with
 | nil => simp at h5
 | cons c t ih =>
   unfold runL at h4
   by_cases hc : p c.toNat = true
   ·rw [if_neg (by simp [hc])] at h4; omega
   ·rw [if_pos (by simpa using hc)] at h4
    cases m with
    | zero => simpa [atB] using hc
    | succ m => exact ih m (by omega) (by simpa using h5)
end Ad
end Go.Proofs.YtmmjfofdnpafkaaGreatDoor
namespace Go.Proofs.YtmmjfofdnpafkaaGreatDoor
namespace Ad
open Go.RowKit Lx
def RdA (b : Nat) (s : ByteArray) (r : List UInt8 × Nat × Int) (p : Nat) (x : Int) (w : World) (en : Ending) (w' : World) : Prop :=
 ∃ t i' P X, en = .returned (.string t) ∧ i' ≤ s.size ∧ Rdr b s i' P X w' ∧ Kp [b] w w' ∧ (X = 0 → P = 0) ∧ (x ≠ 0 → P = p ∧ X = x) ∧ (x = 0 → (r.2.2 ≠ 0 → P = r.2.1 ∧ X = r.2.2) ∧ (r.2.2 = 0 → X = 0 ∧ t = Txt r.1 ∧ i' = r.2.1))
theorem RdT.all {b : Nat} {s : ByteArray} {r : List UInt8 × Nat × Int} {w w' : World} {en : Ending} (h : RdT b s r w en w') : RdA b s r 0 0 w en w' := by
 obtain ⟨t, i', he, hi, hR, hK, h0⟩ := h
 refine ⟨t, i', _, _, he, hi, hR, hK, fun h => by rw [if_pos h], fun h => absurd rfl h, fun _ => ⟨fun h => ⟨by rw [if_neg h], rfl⟩, fun h => ⟨h, h0 h⟩⟩⟩
theorem Urb.far {bu : Nat} {S U H P vp vh : Value} {w : World} (h : Urb w bu S U H P vp vh) {p : Addr} (hp : bu ≠ p.block) (u : Value) : Urb (w.setCell p u) bu S U H P vp vh := Blk.far h hp u
theorem Rdr.far {b i q : Nat} {s : ByteArray} {e : Int} {w : World} (h : Rdr b s i q e w) {p : Addr} (hp : b ≠ p.block) (u : Value) : Rdr b s i q e (w.setCell p u) := Blk.far h hp u
end Ad
end Go.Proofs.YtmmjfofdnpafkaaGreatDoor
namespace Go.Proofs.YtmmjfofdnpafkaaGreatDoor
namespace Ad
open Go.RowKit Lx
theorem tokE_len (l : List UInt8) (k : Nat) (hk : k ≤ l.length) : tokE l k ≤ l.length := by
 have := runL_le tokI (l.drop k)
 rw [List.length_drop] at this
 unfold tokE; omega
theorem blkE_len (l : List UInt8) (k : Nat) (hk : k ≤ l.length) : blkE l k ≤ l.length := by
 have := runL_le blankI (l.drop k)
 rw [List.length_drop] at this
 unfold blkE; omega
end Ad
end Go.Proofs.YtmmjfofdnpafkaaGreatDoor
namespace Go.Proofs.YtmmjfofdnpafkaaGreatDoor
namespace Ad
open Go.RowKit Lx
theorem parF_len (l : List UInt8) : ∀ (n k : Nat) (acc : List Prm), acc.length ≤ 16 → (parF n l k acc).1.length ≤ 16 := by
 intro n
 induction n with
 | zero => intro k acc h; exact h
 | succ n ih =>
   intro k acc h
   rcases Nat.lt_or_ge k l.length with hk | hk
   ·by_cases h59 : atB l k = 59
    ·by_cases h3 : (pmR l (blkE l (k + 1))).2.2 = 0
     ·by_cases h4 : room acc (pmR l (blkE l (k + 1))).1.1 = 0
      ·rw [parF_step n l k acc hk h59 h3 h4]
       refine ih _ _ ?_
       rw [List.length_append, List.length_singleton]
       have : acc.length ≠ 16 := by
        intro h16
        unfold room at h4
        by_cases hany : (acc.any fun q => q.1 == (pmR l (blkE l (k + 1))).1.1) = true
        ·rw [if_pos hany] at h4; exact absurd h4 (by decide)
        ·rw [if_neg hany, if_pos h16] at h4; exact absurd h4 (by decide)
       omega
      ·rw [parF_err3 n l k acc hk h59 h3 h4]; exact Nat.zero_le _
     ·rw [parF_err2 n l k acc hk h59 h3]; exact Nat.zero_le _
    ·rw [parF_err1 n l k acc hk h59]; exact Nat.zero_le _
   ·rw [parF_end n l k acc hk]; exact h
end Ad
end Go.Proofs.YtmmjfofdnpafkaaGreatDoor
namespace Go.Proofs.YtmmjfofdnpafkaaGreatDoor
namespace Ad
open Go.RowKit Lx
theorem decL_lt (n : Nat) (h : n < 10) : decL n = [(48 + n).toUInt8] := by rw [decL, if_pos h]
theorem decL_ge (n : Nat) (h : ¬ n < 10) : decL n = decL (n / 10) ++ [(48 + n % 10).toUInt8] := by rw [decL, if_neg h]
theorem decL_len (n : Nat) : n ≤ 65535 → (decL n).length ≤ 20 := by
 have key : ∀ k n : Nat, n < 10 ^ k → (decL n).length ≤ k + 1 := by
  intro k
  induction k with
  | zero => intro n h; rw [decL_lt n (by omega)]; simp
  | succ k ih =>
    intro n h
    by_cases h10 : n < 10
    ·rw [decL_lt n h10]; simp
    ·rw [decL_ge n h10, List.length_append]
     have := ih (n / 10) (by rw [Nat.pow_succ] at h; omega)
     simp; omega
 intro h
 have := key 5 n (by omega)
 omega
theorem digit_cut (d : Nat) (h : d < 10) : (⟨#[48, 49, 50, 51, 52, 53, 54, 55, 56, 57]⟩ : ByteArray).extract d (d + 1) = Txt [(48 + d).toUInt8] := by
 have : d = 0 ∨ d = 1 ∨ d = 2 ∨ d = 3 ∨ d = 4 ∨ d = 5 ∨ d = 6 ∨ d = 7 ∨ d = 8 ∨ d = 9 := by omega
 rcases this with rfl | rfl | rfl | rfl | rfl | rfl | rfl | rfl | rfl | rfl <;> rfl
end Ad
end Go.Proofs.YtmmjfofdnpafkaaGreatDoor
namespace Go.Proofs.YtmmjfofdnpafkaaGreatDoor
namespace Ad
open Go.RowKit Lx
theorem same_self (B1 B2 : Nat) (va vb : Value) (l : List Prm) (w : World) (hA : PmIn B1 w va l) (hB : PmIn B2 w vb l) (h1 : B1 ≤ w.heap.size) (h2 : B2 ≤ w.heap.size) (hll : l.length ≤ 4294967296) : Calls Tryz.prog 47 #[va, vb] w (BoK true w) := by
 have := sameP_any B1 B2 va vb l l w hA hB h1 h2 hll hll
 rwa [beq_self_eq_true] at this
end Ad
end Go.Proofs.YtmmjfofdnpafkaaGreatDoor
