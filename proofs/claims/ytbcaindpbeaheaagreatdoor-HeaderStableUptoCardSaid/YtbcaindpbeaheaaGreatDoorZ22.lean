/- Texts of one set of library modules: HeX. -/
import Derived.Test.YtbcaindpbeaheaaGreatDoorZ20
import Derived.Test.YtbcaindpbeaheaaGreatDoorZ16
import Derived.Test.YtbcaindpbeaheaaGreatDoorZ19
import Derived.Lib.IndexAny
import Derived.Laws.Runes
import Derived.Laws.RangeAny
import Derived.Laws.RangeString
namespace Go.Proofs.YtbcaindpbeaheaaGreatDoor
namespace Ad
open Go.RowKit Lx
theorem Kp.iter (w : World) (s : ByteArray) (i : Nat) : Kp [] w (w.iter s i) := (Kp.refl [] w).alloc _
theorem byte_none (l : List UInt8) (c : UInt8) (h : ∀ b ∈ l, b ≠ c) : Lib.indexByte l c = -1 := by
 induction l with
 | nil => rfl
 | cons b t ih =>
   have hb := h b (by simp)
   have := ih (fun d hd => h d (by simp [hd]))
   unfold Lib.indexByte
   simp [hb, this]
set_option maxRecDepth 1000000 in
set_option maxHeartbeats 4000000 in
theorem irune_err (s : ByteArray) (w : World) (hac : ∀ (j : Nat) b, s.data.toList[j]? = some b → b.toNat < 128) :
   Calls Tryz.prog 113 #[.string s, .int .i32 65533] w (fun e w' => e = .returned (.int .i64 (-1)) ∧ Kp [] w w') := by
 have HA := Lib.hid hac;clear hac
 go_enter Tryz.func113, Tryz.ntmps113
 go_wp2_with fail
 go_loopg [5, 6] s.size (fun g _ _ wx => ∃ i : Nat, i + g = s.size ∧ wx = w.iter s i)
 case atStart => exact ⟨0, by omega, rfl⟩
 case round =>
  obtain ⟨i, hig, rfl⟩ := hrel
  cases gk with
  | zero =>
    obtain rfl : i = s.size := by omega
    have hnx := run_next_end (P := Tryz.prog) w s s.size
    go_wp2_with fail
    go_ret
    exact ⟨rfl, Kp.iter _ _ _⟩
  | succ g =>
    have hi : i < s.size := by omega
    have hx128 : (s[i]'hi).toNat < 128 := HA.out i (s[i]'hi) (Lib.data_getElem? s i hi)
    have hnx := fun ty => run_next_ascii (P := Tryz.prog) w s i ty hi hx128
    obtain ⟨x, hx⟩ : ∃ x, (s[i]'hi).toNat = x := ⟨_, rfl⟩
    rw [hx] at hnx hx128
    have bx : ((x : Int) == 65533) = false := by rw [beq_eq_false_iff_ne]; omega
    clear hx
    go_wp2_with fail
    go_roundg g
    case measure => omega
    case rel => exact ⟨i + 1, by omega, rfl⟩
set_option maxRecDepth 1000000 in
set_option maxHeartbeats 4000000 in
theorem irune_high (s : ByteArray) (r : Int) (w : World) (hs : s.size ≤ 100) (hac : ∀ (j : Nat) b, s.data.toList[j]? = some b → b.toNat < 128) (h128 : 128 ≤ r) (hne : r ≠ 65533) (hv : Lib.validRune r = true) :
   Calls Tryz.prog 113 #[.string s, .int .i32 r] w (fun e w' => e = .returned (.int .i64 (-1)) ∧ Kp [] w w') := by
 have hv2 : Utf8.valid r = true := by rw [validRune_eq]; exact hv
 obtain ⟨n2, n4, hlast⟩ := encode_facts r hv2 h128
 obtain ⟨E, hE⟩ : ∃ E, Utf8.encode r = E := ⟨_, rfl⟩
 rw [hE] at n2 n4 hlast
 have HV := Lib.hid (fun wz => (by have h := Tryz.utf8_ValidRune r wz; rw [hv] at h; exact h : Calls Tryz.prog 161 #[.int .i32 r] wz fun e w' => e = .returned (.bool true) ∧ w' = wz))
 have hconv := fun wz => run_convert_int_string (P := Tryz.prog) wz 21 9 .i32 r (by rw [Tryz.underlying21]; rfl) Tryz.underlying9
 rw [hE] at hconv
 have b1 : ¬ r < 128 := by omega
 have b2 : (0 : Int) ≤ r := by omega
 have b3 : (r == 65533) = false := beq_eq_false_iff_ne.2 hne
 obtain ⟨m, hm⟩ : ∃ m, E.size - 1 = m := ⟨_, rfl⟩
 have hmE : m < E.size := by omega
 have hl2 : 128 ≤ (E[m]'hmE).toNat := by subst hm; exact hlast hmE
 have i0 : wrap64 ((E.size : Int) - 1) = (m : Int) := by unfold wrap64; omega
 have m3 : (m : Int) ≤ 3 := by omega
 have HA := Lib.hid hac;clear hac hv hv2 hE hne hlast hm h128 n4
 by_cases hms : m < s.size
 case neg =>
  have b4 : ¬ (m : Int) < (s.size : Int) := by omega
  clear hl2 hms
  go_enter Tryz.func113, Tryz.ntmps113
  go_wp2_with fail
  refine (HV.out _).mono ?_
  rintro e w1 ⟨rfl, hw⟩
  obtain rfl := hw.symm
  go_wp2_with fail
  go_step3
  go_wp2_with fail
  refine wp_loop_rounds 1 ?_
  rw [rounds_succ]
  go_wp2_with fail
  rw [Exit.noGoto_ret]
  go_ret
  exact ⟨rfl, Kp.refl _ _⟩
 case pos =>
  have b4 : (m : Int) < (s.size : Int) := by omega
  have ha : (s[m]'hms).toNat < 128 := HA.out m (s[m]'hms) (Lib.data_getElem? s m hms)
  have hne : ((s[m]'hms).toNat == (E[m]'hmE).toNat) = false := by rw [beq_eq_false_iff_ne]; omega
  have hneI : (((s[m]'hms).toNat : Int) == ((E[m]'hmE).toNat : Int)) = false := by rw [beq_eq_false_iff_ne]; omega
  obtain ⟨q, hq⟩ : ∃ q, m + 1 = q := ⟨_, rfl⟩
  have i2 : IntKind.i64.wrap ((m : Int) + 1) = (q : Int) := (IntWalk.i64_in _ (by omega)).trans (by omega)
  have bm1 : (q : Int) ≤ (s.size : Int) := by omega
  clear hq
  obtain ⟨X, hX⟩ : ∃ X, s.extract q s.size = X := ⟨_, rfl⟩
  obtain ⟨c, hc⟩ : ∃ c, E[m]'hmE = c := ⟨_, rfl⟩
  rw [hc] at hneI hne
  have HIB := Lib.hid (fun wz => (by
   have h := Tryz.strings_IndexByte X (c.toNat : Int) wz
   rw [show ((c.toNat : Int)).toNat.toUInt8 = c by simp, byte_none _ _ (fun b hb => by
    rw [← hX, slc_data, slc_full _ _ _ (by rw [len_list]; exact Nat.le_refl _)] at hb
    have hb2 := List.mem_of_mem_drop hb
    obtain ⟨j, hj⟩ := List.mem_iff_getElem?.1 hb2
    have h1 := HA.out j b hj
    intro he
    rw [he, ← hc] at h1
    omega)] at h
   exact h : Calls Tryz.prog 103 #[.string X, .int .u8 (c.toNat : Int)] wz fun e w' => e = .returned (.int .i64 (-1)) ∧ w' = wz))
  go_enter Tryz.func113, Tryz.ntmps113
  go_wp2_with fail
  refine (HV.out _).mono ?_
  rintro e w1 ⟨rfl, hw⟩
  obtain rfl := hw.symm
  go_wp2_with fail
  go_step3
  go_wp2_with fail
  refine wp_loop_rounds 1 ?_
  rw [rounds_succ]
  go_wp2_with fail
  go_step3
  go_upto_region 6 with fail
  go_quiet (fail)
  obtain ⟨w2, hw2⟩ : ∃ w2, w.drewN nq = w2 := ⟨_, rfl⟩
  have K2 := Lib.hid (show Kp [] w w2 from by rw [← hw2]; exact (Kp.refl [] w).drewN _)
  rw [hw2]
  clear hw2
  go_upto_region 7 with fail
  go_quiet ((go_at_call 103; exact Calls.quiet_of_same (HIB.out _)))
  go_wp2_with fail
  simp only [Exit.noGoto_ret, Exit.inBlock, Exit.then]
  go_ret
  exact ⟨rfl, K2.out.drewN _⟩
end Ad
end Go.Proofs.YtbcaindpbeaheaaGreatDoor
