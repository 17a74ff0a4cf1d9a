/- Contracts of opens, step, Unquote, Comment and Quote of package dialtoneref01: each returns what the plain specification says; what they make lies in new memory. Condition: a text has at most 2^45 bytes. -/
import Derived.Test.YtjbjaofbdbkjaaaDoorLxQ
import Derived.Test.YtjbjaofbdbkjaaaDoorLxR
import Derived.Lib.BufferRead
import Derived.Laws.IdiomStrings
import Derived.Maps.AppendAt
namespace Go.Proofs.YtjbjaofbdbkjaaaDoor
namespace Lx
open Go.RowKit

def roN (mark : Int) (l : List UInt8) (a : Int) : Int := if opE mark l a = 0 then 0 else opN l a
set_option maxRecDepth 100000 in
set_option maxHeartbeats 400000 in
theorem ropens_any (s : ByteArray) (a mark : Int) (w : World) (_hs : s.size ≤ maxLen) :
    Calls Tryd.prog 51 #[.string s, .int .i64 a, .int .u8 mark] w (Ret (.tuple #[.int .i64 (roN mark s.data.toList a), .int .u8 (opE mark s.data.toList a)]) w) := by
  unfold maxLen at _hs
  by_cases h1 : a < 0
  · have Ho := opE_out mark s.data.toList a (.inl h1)
    have H2 := Lib.hid (by unfold roN; rw [Ho.2, if_neg (by decide), Ho.1] : roN mark s.data.toList a = 0)
    have H := Lib.hid Ho
    clear Ho
    go_enter Tryd.func51, Tryd.ntmps51
    go_wp2_with fail
    go_ret2
    exact ⟨ret_ii H2.out.symm H.out.2.symm, rfl⟩
  by_cases h2 : (s.size : Int) < a
  · have Ho := opE_out mark s.data.toList a (.inr (by rw [len_list]; exact h2))
    have H2 := Lib.hid (by unfold roN; rw [Ho.2, if_neg (by decide), Ho.1] : roN mark s.data.toList a = 0)
    have H := Lib.hid Ho
    clear Ho
    go_enter Tryd.func51, Tryd.ntmps51
    go_wp2_with fail
    go_ret2
    exact ⟨ret_ii H2.out.symm H.out.2.symm, rfl⟩
  obtain ⟨k, rfl⟩ := Int.eq_ofNat_of_zero_le (by omega : 0 ≤ a)
  have H1 := Lib.hid (opN_in s.data.toList k (by rw [len_list]; omega))
  rcases Nat.lt_or_ge k s.size with h3 | h3
  · have h4 : ((k : Int) == (s.size : Int)) = false := by rw [beq_eq_false_iff_ne]; omega
    have HE := Lib.hid (opE_at mark s k h3)
    by_cases h5 : (s[k].toNat : Int) = mark
    · have h6 : ((s[k].toNat : Int) != mark) = false := by simp [h5]
      have H5 := Lib.hid h5
      clear h5
      go_enter Tryd.func51, Tryd.ntmps51
      go_wp2_with fail
      go_ret2
      exact ⟨ret_ii (by unfold roN; rw [HE.out, if_pos H5.out]; rfl) (by rw [HE.out, if_pos H5.out]), rfl⟩
    · have h6 : ((s[k].toNat : Int) != mark) = true := by simp [h5]
      have H5 := Lib.hid h5
      clear h5
      go_enter Tryd.func51, Tryd.ntmps51
      go_wp2_with fail
      go_ret2
      exact ⟨ret_ii (by unfold roN; rw [HE.out, if_neg H5.out, H1.out]; rfl) (by rw [HE.out, if_neg H5.out]), rfl⟩
  · have h4 : ((k : Int) == (s.size : Int)) = true := by rw [beq_iff_eq]; omega
    have HE := Lib.hid (opE_end mark s.data.toList k (by rw [len_list]; omega))
    go_enter Tryd.func51, Tryd.ntmps51
    go_wp2_with fail
    go_ret2
    exact ⟨ret_ii (by unfold roN; rw [HE.out, H1.out]; rfl) HE.out.symm, rfl⟩

def rsN (l : List UInt8) (k : Nat) : Int := if (stepS l k).2 = 0 then ((stepS l k).1 : Int) - k else 0
def rsT (l : List UInt8) (k : Nat) : Int := if (stepS l k).2 = 0 then 0 else ((stepS l k).1 : Int)
theorem rs_of (l : List UInt8) (k : Nat) (x : Nat) (e : Int) (h : stepS l k = (x, e)) : rsN l k = (if e = 0 then (x : Int) - k else 0) ∧ rsT l k = (if e = 0 then 0 else (x : Int)) ∧ (stepS l k).2 = e := by
  unfold rsN rsT; rw [h]; exact ⟨rfl, rfl, rfl⟩
theorem ret_iii {k k' k'' : IntKind} {a b c d e f : Int} (h : a = b) (h' : c = d) (h'' : e = f) : Ending.returned (.tuple #[.int k a, .int k' c, .int k'' e]) = .returned (.tuple #[.int k b, .int k' d, .int k'' f]) := by rw [h, h', h'']

set_option maxRecDepth 100000 in
set_option maxHeartbeats 400000 in
theorem rstep_any (s : ByteArray) (k : Nat) (w : World) (hs : s.size ≤ 70368744177664) (hk : k ≤ s.size) :
    Calls Tryd.prog 52 #[.string s, .int .i64 k] w (Ret (.tuple #[.int .i64 (rsN (s.data.toList.drop k) k), .int .i64 (rsT (s.data.toList.drop k) k), .int .u8 (stepS (s.data.toList.drop k) k).2]) w) := by
  rcases Nat.lt_or_ge k s.size with hlt | hge
  · have hd := drop_step s k hlt
    cases hc : ctlI s[k].toNat
    · by_cases h9 : s[k].toNat = 92
      · have h9b : ((s[k].toNat : Int) != 92) = false := by simp; omega
        rcases Nat.lt_or_ge (k + 1) s.size with h3 | h3
        · have hd2 := drop_step s (k + 1) h3
          cases he : escI s[k + 1].toNat
          · have HR := Lib.hid (rs_of _ _ _ _ (by rw [hd, hd2]; exact stepS_bad _ _ _ k hc h9 he : stepS (s.data.toList.drop k) k = (k, 5)))
            have Hc := Lib.hid hc
            have he2 : (s[k + 1].toNat : Int) < 32 ∨ (32 ≤ (s[k + 1].toNat : Int) ∧ 126 < (s[k + 1].toNat : Int)) := by
              rw [Bool.eq_false_iff] at he
              simp only [escI, ne_eq, Bool.and_eq_true, decide_eq_true_eq] at he
              omega
            clear hd hd2 hc he h9
            rcases he2 with he2 | ⟨he2, he3⟩
            all_goals
              go_enter Tryd.func52, Tryd.ntmps52
              go_wp2_with fail
              refine (rctl_any _ _).mono ?_
              rintro e w' ⟨rfl, rfl⟩
              rw [Hc.out]
              go_wp2_with fail
              go_ret3
              exact ⟨ret_iii (by rw [HR.out.1]; rfl) (by rw [HR.out.2.1]; rfl) HR.out.2.2.symm, rfl⟩
          · have HR := Lib.hid (rs_of _ _ _ _ (by rw [hd, hd2]; exact stepS_two _ _ _ k hc h9 he : stepS (s.data.toList.drop k) k = (k + 2, 0)))
            have Hc := Lib.hid hc
            simp only [escI, Bool.and_eq_true, decide_eq_true_eq] at he
            obtain ⟨he2, he3⟩ := he
            clear hd hd2 hc h9
            go_enter Tryd.func52, Tryd.ntmps52
            go_wp2_with fail
            refine (rctl_any _ _).mono ?_
            rintro e w' ⟨rfl, rfl⟩
            rw [Hc.out]
            go_wp2_with fail
            go_ret3
            exact ⟨ret_iii (by rw [HR.out.1]; simp; omega) (by rw [HR.out.2.1]; rfl) HR.out.2.2.symm, rfl⟩
        · have hd2 := drop_end s (k + 1) h3
          have HR := Lib.hid (rs_of _ _ _ _ (by rw [hd, hd2]; exact stepS_end _ k hc h9 : stepS (s.data.toList.drop k) k = (k + 1, 6)))
          have Hc := Lib.hid hc
          have Hk := Lib.hid (show ((s.size : Nat) : Int) = ((k + 1 : Nat) : Int) by omega)
          clear hd hd2 hc h9
          go_enter Tryd.func52, Tryd.ntmps52
          go_wp2_with fail
          refine (rctl_any _ _).mono ?_
          rintro e w' ⟨rfl, rfl⟩
          rw [Hc.out]
          go_wp2_with fail
          go_ret3
          exact ⟨ret_iii (by rw [HR.out.1]; rfl) (by rw [HR.out.2.1, if_neg (by decide)]; exact Hk.out) HR.out.2.2.symm, rfl⟩
      · have h9b : ((s[k].toNat : Int) != 92) = true := by simp; omega
        have HR := Lib.hid (rs_of _ _ _ _ (by rw [hd]; exact stepS_one _ _ k hc h9 : stepS (s.data.toList.drop k) k = (k + 1, 0)))
        have Hc := Lib.hid hc
        clear hd hc h9
        go_enter Tryd.func52, Tryd.ntmps52
        go_wp2_with fail
        refine (rctl_any _ _).mono ?_
        rintro e w' ⟨rfl, rfl⟩
        rw [Hc.out]
        go_wp2_with fail
        go_ret3
        exact ⟨ret_iii (by rw [HR.out.1]; simp; omega) (by rw [HR.out.2.1]; rfl) HR.out.2.2.symm, rfl⟩
    · have HR := Lib.hid (rs_of _ _ _ _ (by rw [hd]; exact stepS_ctl _ _ k hc : stepS (s.data.toList.drop k) k = (k, 5)))
      have Hc := Lib.hid hc
      clear hd hc
      go_enter Tryd.func52, Tryd.ntmps52
      go_wp2_with fail
      refine (rctl_any _ _).mono ?_
      rintro e w' ⟨rfl, rfl⟩
      rw [Hc.out]
      go_wp2_with fail
      go_ret3
      exact ⟨ret_iii (by rw [HR.out.1]; rfl) (by rw [HR.out.2.1]; rfl) HR.out.2.2.symm, rfl⟩
  · have HR := Lib.hid (rs_of _ _ _ _ (by rw [drop_end s k hge]; rfl : stepS (s.data.toList.drop k) k = (k, 6)))
    have Hk := Lib.hid (show ((s.size : Nat) : Int) = ((k : Nat) : Int) by omega)
    go_enter Tryd.func52, Tryd.ntmps52
    go_wp2_with fail
    go_ret3
    exact ⟨ret_iii (by rw [HR.out.1]; rfl) (by rw [HR.out.2.1, if_neg (by decide)]; exact Hk.out) HR.out.2.2.symm, rfl⟩

/-! ### Unquote of the reference -/
theorem conv_row {B : Nat} {v : Value} {l : List UInt8} {w : World} (h : w.ownsRow B 5 1 v l.length (Lib.byteCells l)) : (convert 47 9 v).run Tryd.prog w = .ok (.string ⟨l.toArray⟩) w := by
  rcases h.2 with ⟨rfl, h0⟩ | ⟨g, cap, cur, rfl, hB, hg, hn, hc, hs, htk⟩
  · have : l = [] := List.eq_nil_of_length_eq_zero h0
    subst this
    exact Lib.run_convert_nil_bytes w _ _ 5 0 Tryd.underlying47 Tryd.underlying5 Tryd.underlying9
  · exact run_convert_bytes_back w _ _ 5 _ cap l Tryd.underlying47 Tryd.underlying5 Tryd.underlying9 (Lib.bytes_of_row hg (by simpa using htk))

set_option maxRecDepth 100000 in
set_option maxHeartbeats 1000000 in
theorem runquote_any (s : ByteArray) (a : Int) (w : World) (hs : s.size ≤ 70368744177664) :
    Calls Tryd.prog 26 #[.string s, .int .i64 a] w (Ret3 (uqT s.data.toList a) (uqN s.data.toList a) (uqE s.data.toList a) w) := by
  by_cases h0 : opE 34 s.data.toList a = 0
  · obtain ⟨k, rfl, hk⟩ := opE_ok 34 s a h0
    have HN := Lib.hid (by unfold uqN; rw [if_neg (by simp [h0])]; rfl : uqN s.data.toList k = (qEnd (s.data.toList.drop (k + 1)) (k + 1)).1)
    have HE := Lib.hid (by unfold uqE; rw [if_neg (by simp [h0])]; rfl : uqE s.data.toList k = (qEnd (s.data.toList.drop (k + 1)) (k + 1)).2)
    have HT : Hid (uqT s.data.toList k = if (qEnd (s.data.toList.drop (k + 1)) (k + 1)).2 ≠ 0 then [] else qText (s.data.toList.drop (k + 1))) := Lib.hid (by
      unfold uqT uqR; simp only [h0, Int.toNat_natCast]; simp)
    have H0 := Lib.hid h0
    clear h0
    go_enter Tryd.func26, Tryd.ntmps26
    go_wp2_with fail
    refine (ropens_any s _ 34 w (by unfold maxLen; omega)).mono ?_
    rintro e w' ⟨rfl, rfl⟩
    rw [H0.out]
    go_wp2_with fail
    go_loopw [9, 10] (fun v i wr => ∃ (j : Nat) (acc : List UInt8), j ≤ s.size ∧ acc.length ≤ j ∧ i = .int .i64 j ∧ wr.ownsRow w.heap.size 5 1 v acc.length (Lib.byteCells acc) ∧ qEnd (s.data.toList.drop j) j = qEnd (s.data.toList.drop (k + 1)) (k + 1) ∧ acc ++ qText (s.data.toList.drop j) = qText (s.data.toList.drop (k + 1)) ∧ Below w.heap.size w wr) (fun _ i _ => s.size - (intOf i).toNat)
    case atStart => exact ⟨k + 1, [], by omega, by simp, by go_num, World.ownsRow_nil _ _ _ _, rfl, rfl, Below.refl _ _⟩
    case round =>
      obtain ⟨j, acc, hj, hal, rfl, hown, hq, ht, hB⟩ := hrel
      have Hq := Lib.hid hq
      have Ht := Lib.hid ht
      have Ho := Lib.hid hown
      have hsz := hB.size
      clear hq ht hown
      by_cases hs0 : (stepS (s.data.toList.drop j) j).2 = 0
      · have hlt : j < s.size := by
          rcases Nat.lt_or_ge j s.size with h | h
          · exact h
          · rw [drop_end s j h] at hs0; simp [stepS] at hs0
        have Hd := Lib.hid (drop_step s j hlt)
        have hok := stepS_ok _ _ hs0
        rw [List.length_drop, len_list] at hok
        have hkind := step_kind s[j] (s.data.toList.drop (j + 1)) j (by rw [← Hd.out]; exact hs0)
        rw [← Hd.out] at hkind
        obtain ⟨j2, hj2⟩ : ∃ j2, (stepS (s.data.toList.drop j) j).1 = j2 := ⟨_, rfl⟩
        rw [hj2] at hok hkind
        have hN : rsN (s.data.toList.drop j) j = (j2 : Int) - j := by unfold rsN; rw [if_pos hs0, hj2]
        have hTo : rsT (s.data.toList.drop j) j = 0 := by unfold rsT; rw [if_pos hs0]
        rcases hkind with ⟨h92, hk1⟩ | ⟨d, u, h92, hdu, hk2⟩
        · by_cases h34 : s[j].toNat = 34
          · have h34b : ((s[j].toNat : Int) == 34) = true := by simp; omega
            have HQ := Lib.hid (by rw [← Hq.out, Hd.out]; exact qEnd_quote _ _ j h34 : qEnd (s.data.toList.drop (k + 1)) (k + 1) = (j + 1, 0))
            have HX := Lib.hid (by rw [← Ht.out, Hd.out, qText_quote _ _ h34, List.append_nil] : qText (s.data.toList.drop (k + 1)) = acc)
            have HNN := Lib.hid (by rw [hN, hk1]; omega : rsN (s.data.toList.drop j) j = 1)
            have HTo := Lib.hid hTo
            have Hs0 := Lib.hid hs0
            have hcv := conv_row Ho.out
            clear hN hTo hs0 hk1 h34 h92 hj2
            go_wp2_with fail
            refine (rstep_any s j _ hs (by omega)).mono ?_
            rintro e w' ⟨rfl, rfl⟩
            rw [HNN.out, HTo.out, Hs0.out]
            go_wp2_with fail
            go_ret3
            exact ⟨ret_3 (by rw [HT.out, HQ.out, if_neg (by simp), HX.out]) (by rw [HN.out, HQ.out]; simp) (by rw [HE.out, HQ.out]), hB⟩
          · have h34b : ((s[j].toNat : Int) == 34) = false := by simp; omega
            have HQ := Lib.hid (by rw [← Hq.out, Hd.out, qEnd_step _ _ j h34 (by rw [← Hd.out]; exact hs0), ← Hd.out, hj2, hk1, List.drop_drop]; congr 2; omega : qEnd (s.data.toList.drop (k + 1)) (k + 1) = qEnd (s.data.toList.drop (j + 1)) (j + 1))
            have HX := Lib.hid (by rw [← Ht.out, Hd.out, qText_one _ _ h34 h92] : qText (s.data.toList.drop (k + 1)) = acc ++ (s[j] :: qText (s.data.toList.drop (j + 1))))
            have HNN := Lib.hid (by rw [hN, hk1]; omega : rsN (s.data.toList.drop j) j = 1)
            have HTo := Lib.hid hTo
            have Hs0 := Lib.hid hs0
            obtain ⟨i0, hi, hz0, hz1, hz2⟩ := info_parts infoByte
            clear hN hTo hs0 hk1 h34 h92 hj2
            go_wp2_with fail
            refine (rstep_any s j _ hs (by omega)).mono ?_
            rintro e w' ⟨rfl, rfl⟩
            rw [HNN.out, HTo.out, Hs0.out]
            go_wp2_with (at_builtin; refine wpList_append_own _ rfl _ _ 47 rfl w.heap.size 5 i0 (.int .u8 0) 1 1 Tryd.underlying47 hi hz0 hz1 hz2 rfl (by decide) _ _ _ rfl (Ho.out.alloc _) ⟨wr.heap.size, 0, none⟩ 1 1 [.int .u8 (s[j].toNat : Int)] rfl rfl (cell_one_new _ _ _) (by simp [Value.oneCell']) ?c3 ?c4 ?c5 ?_)
            case c3 => unfold maxLen; omega
            case c4 => omega
            case c5 => simp; omega
            intro v' w2 hown' hgrow _
            have HO2 := Lib.hid (by rw [bd_byteCells] at hown'; simpa using hown' : w2.ownsRow w.heap.size 5 1 v' (acc ++ [s[j]]).length (Lib.byteCells (acc ++ [s[j]])))
            have hB2 := (hB.alloc (by omega) (.cells #[.int .u8 (s[j].toNat : Int)] 5)).grown hgrow (by simp; omega) (fun k' hk' => (Ho.out.lt k' hk').1)
            clear hown' hgrow
            go_wp2_with fail
            go_roundw
            case rel => exact ⟨j + 1, acc ++ [s[j]], by omega, by simp; omega, by go_num, HO2.out, HQ.out.symm, by rw [HX.out]; simp, hB2⟩
            case measure => simp [intOf]; omega
        · have h34 : s[j].toNat ≠ 34 := by omega
          have h34b : ((1 : Int) == 2) = false := by decide
          have hlt3 : j + 1 < s.size := by
            have := congrArg List.length hdu
            simp at this; omega
          have hd2 := drop_step s (j + 1) hlt3
          have hdd : d = s[j + 1] ∧ u = s.data.toList.drop (j + 1 + 1) := by
            rw [hdu] at hd2; injection hd2 with h1 h2; exact ⟨h1, h2⟩
          obtain ⟨rfl, rfl⟩ := hdd
          have HQ := Lib.hid (by rw [← Hq.out, Hd.out, qEnd_step _ _ j h34 (by rw [← Hd.out]; exact hs0), ← Hd.out, hj2, hk2, List.drop_drop]; congr 2; omega : qEnd (s.data.toList.drop (k + 1)) (k + 1) = qEnd (s.data.toList.drop (j + 1 + 1)) (j + 2))
          have HX := Lib.hid (by rw [← Ht.out, Hd.out, hdu, qText_two _ _ _ h92] : qText (s.data.toList.drop (k + 1)) = acc ++ (s[j + 1] :: qText (s.data.toList.drop (j + 1 + 1))))
          have HNN := Lib.hid (by rw [hN, hk2]; omega : rsN (s.data.toList.drop j) j = 2)
          have HTo := Lib.hid hTo
          have Hs0 := Lib.hid hs0
          obtain ⟨i0, hi, hz0, hz1, hz2⟩ := info_parts infoByte
          clear hN hTo hs0 hk2 h34 h92 hj2 hd2 hdu
          go_wp2_with fail
          refine (rstep_any s j _ hs (by omega)).mono ?_
          rintro e w' ⟨rfl, rfl⟩
          rw [HNN.out, HTo.out, Hs0.out]
          go_wp2_with (at_builtin; refine wpList_append_own _ rfl _ _ 47 rfl w.heap.size 5 i0 (.int .u8 0) 1 1 Tryd.underlying47 hi hz0 hz1 hz2 rfl (by decide) _ _ _ rfl (Ho.out.alloc _) ⟨wr.heap.size, 0, none⟩ 1 1 [.int .u8 (s[j + 1].toNat : Int)] rfl rfl (cell_one_new _ _ _) (by simp [Value.oneCell']) ?c3 ?c4 ?c5 ?_)
          case c3 => unfold maxLen; omega
          case c4 => omega
          case c5 => simp; omega
          intro v' w2 hown' hgrow _
          have HO2 := Lib.hid (by rw [bd_byteCells] at hown'; simpa using hown' : w2.ownsRow w.heap.size 5 1 v' (acc ++ [s[j + 1]]).length (Lib.byteCells (acc ++ [s[j + 1]])))
          have hB2 := (hB.alloc (by omega) (.cells #[.int .u8 (s[j + 1].toNat : Int)] 5)).grown hgrow (by simp; omega) (fun k' hk' => (Ho.out.lt k' hk').1)
          clear hown' hgrow
          go_wp2_with fail
          go_roundw
          case rel => exact ⟨j + 1 + 1, acc ++ [s[j + 1]], by omega, by simp; omega, by go_num, HO2.out, HQ.out.symm, by rw [HX.out]; simp, hB2⟩
          case measure => simp [intOf]; omega
      · obtain ⟨x, hx⟩ : ∃ x, (stepS (s.data.toList.drop j) j).2 = x := ⟨_, rfl⟩
        have hqe : qEnd (s.data.toList.drop (k + 1)) (k + 1) = stepS (s.data.toList.drop j) j := by
          rw [← Hq.out]
          rcases Nat.lt_or_ge j s.size with h | h
          · have hd := drop_step s j h
            have h34 : s[j].toNat ≠ 34 := by
              intro h34
              apply hs0
              rw [hd, stepS_one _ _ j (by simp [ctlI, h34]) (by omega)]
            rw [hd, qEnd_err _ _ j h34 (by rw [← hd]; exact hs0)]
          · rw [drop_end s j h, qEnd_nil]; rfl
        have HTo := Lib.hid (by unfold rsT; rw [if_neg hs0] : rsT (s.data.toList.drop j) j = ((stepS (s.data.toList.drop j) j).1 : Int))
        rw [hx] at hs0
        have hxb : (x != 0) = true := by simpa using hs0
        have HQ := Lib.hid hqe
        have Hx := Lib.hid hx
        have Hs0 := Lib.hid hs0
        clear hqe hx hs0
        go_wp2_with fail
        refine (rstep_any s j _ hs hj).mono ?_
        rintro e w' ⟨rfl, rfl⟩
        rw [HTo.out, Hx.out]
        go_wp2_with fail
        go_ret3
        exact ⟨ret_3 (by rw [HT.out, HQ.out, Hx.out, if_pos Hs0.out]) (by rw [HN.out, HQ.out]) (by rw [HE.out, HQ.out, Hx.out]), hB⟩
  · have HT := Lib.hid (by unfold uqT; rw [if_pos (.inl h0)] : uqT s.data.toList a = [])
    have HN := Lib.hid (by unfold uqN; rw [if_pos h0] : uqN s.data.toList a = opN s.data.toList a)
    have HE := Lib.hid (by unfold uqE; rw [if_pos h0] : uqE s.data.toList a = opE 34 s.data.toList a)
    have HR := Lib.hid (by unfold roN; rw [if_neg h0] : roN 34 s.data.toList a = opN s.data.toList a)
    obtain ⟨x, hx⟩ : ∃ x, opE 34 s.data.toList a = x := ⟨_, rfl⟩
    rw [hx] at h0
    have hxb : (x != 0) = true := by simpa using h0
    have Hx := Lib.hid hx
    clear h0 hx
    go_enter Tryd.func26, Tryd.ntmps26
    go_wp2_with fail
    refine (ropens_any s _ 34 w (by unfold maxLen; omega)).mono ?_
    rintro e w' ⟨rfl, rfl⟩
    rw [HR.out, Hx.out]
    go_wp2_with fail
    go_ret3
    exact ⟨ret_3 (by rw [HT.out]) HN.out.symm (by rw [HE.out, Hx.out]), Below.refl _ _⟩

/-! ### Comment of the reference -/
set_option maxRecDepth 100000 in
set_option maxHeartbeats 2000000 in
theorem rcomment_any (s : ByteArray) (a : Int) (w : World) (hs : s.size ≤ 70368744177664) :
    Calls Tryd.prog 28 #[.string s, .int .i64 a] w (Ret3 (cmT s.data.toList a) (cmN s.data.toList a) (cmE s.data.toList a) w) := by
  by_cases h0 : opE 40 s.data.toList a = 0
  · obtain ⟨k, rfl, hk⟩ := opE_ok 40 s a h0
    have HN := Lib.hid (by unfold cmN; rw [if_neg (by simp [h0])]; rfl : cmN s.data.toList k = (cEnd (s.data.toList.drop (k + 1)) (k + 1) 1).1)
    have HE := Lib.hid (by unfold cmE; rw [if_neg (by simp [h0])]; rfl : cmE s.data.toList k = (cEnd (s.data.toList.drop (k + 1)) (k + 1) 1).2)
    have HT : Hid (cmT s.data.toList k = if (cEnd (s.data.toList.drop (k + 1)) (k + 1) 1).2 ≠ 0 then [] else (s.data.toList.drop (k + 1)).take ((cEnd (s.data.toList.drop (k + 1)) (k + 1) 1).1 - 1 - (k + 1))) := Lib.hid (by
      unfold cmT cmR; simp only [h0, Int.toNat_natCast]; simp)
    have H0 := Lib.hid h0
    clear h0
    go_enter Tryd.func28, Tryd.ntmps28
    go_wp2_with fail
    refine (ropens_any s _ 40 w (by unfold maxLen; omega)).mono ?_
    rintro e w' ⟨rfl, rfl⟩
    rw [H0.out]
    go_wp2_with fail
    go_loop [9, 10] (fun dv i => ∃ (j n : Nat), j ≤ s.size ∧ 1 ≤ n ∧ n ≤ 8 ∧ k + 1 ≤ j ∧ i = .int .i64 j ∧ dv = .int .i64 n ∧ cEnd (s.data.toList.drop j) j n = cEnd (s.data.toList.drop (k + 1)) (k + 1) 1) (fun _ i => s.size - (intOf i).toNat)
    case atStart => exact ⟨k + 1, 1, by omega, by omega, by omega, by omega, by go_num, rfl, rfl⟩
    case round =>
      obtain ⟨j, n, hj, hn1, hn8, hkj, rfl, rfl, hq⟩ := hrel
      have Hq := Lib.hid hq
      clear hq
      have hn0 : ((n : Int) == 0) = false := by rw [beq_eq_false_iff_ne]; omega
      by_cases hs0 : (stepS (s.data.toList.drop j) j).2 = 0
      · have hlt : j < s.size := by
          rcases Nat.lt_or_ge j s.size with h | h
          · exact h
          · rw [drop_end s j h] at hs0; simp [stepS] at hs0
        have Hd := Lib.hid (drop_step s j hlt)
        have hok := stepS_ok _ _ hs0
        rw [List.length_drop, len_list] at hok
        have hkind := step_kind s[j] (s.data.toList.drop (j + 1)) j (by rw [← Hd.out]; exact hs0)
        rw [← Hd.out] at hkind
        obtain ⟨j2, hj2⟩ : ∃ j2, (stepS (s.data.toList.drop j) j).1 = j2 := ⟨_, rfl⟩
        rw [hj2] at hok hkind
        have hN : rsN (s.data.toList.drop j) j = (j2 : Int) - j := by unfold rsN; rw [if_pos hs0, hj2]
        have hTo : rsT (s.data.toList.drop j) j = 0 := by unfold rsT; rw [if_pos hs0]
        have HTo := Lib.hid hTo
        have Hs0 := Lib.hid hs0
        clear hTo
        rcases hkind with ⟨h92, hk1⟩ | ⟨d, u, h92, hdu, hk2⟩
        · have HNN := Lib.hid (by rw [hN, hk1]; omega : rsN (s.data.toList.drop j) j = 1)
          clear hN
          by_cases h1 : s[j].toNat = 40
          · have h1b : ((s[j].toNat : Int) == 40) = true := by simp; omega
            have h2b : ((s[j].toNat : Int) == 41) = false := by simp; omega
            by_cases h8 : n = 8
            · have HQ := Lib.hid (by rw [← Hq.out, Hd.out, h8]; exact cEnd_deep _ _ j h1 : cEnd (s.data.toList.drop (k + 1)) (k + 1) 1 = (j, 4))
              have h8b : 8 ≤ n := by omega
              clear h1 h8 hj2 hk1 hs0 h92
              go_wp2_with fail
              refine (rstep_any s j _ hs (by omega)).mono ?_
              rintro e w' ⟨rfl, rfl⟩
              rw [HNN.out, HTo.out, Hs0.out]
              go_wp2_with fail
              go_ret3
              exact ⟨ret_3 (by rw [HT.out, HQ.out]; rfl) (by rw [HN.out, HQ.out]) (by rw [HE.out, HQ.out]), Below.refl _ _⟩
            · have HQ := Lib.hid (by rw [← Hq.out, Hd.out]; exact cEnd_open _ _ j n h1 h8 : cEnd (s.data.toList.drop (k + 1)) (k + 1) 1 = cEnd (s.data.toList.drop (j + 1)) (j + 1) (n + 1))
              have hn7 : n ≤ 7 := by omega
              have hn01 : ((n : Int) + 1 == 0) = false := by rw [beq_eq_false_iff_ne]; omega
              clear h1 h8 hj2 hk1 hs0 h92
              go_wp2_with fail
              refine (rstep_any s j _ hs (by omega)).mono ?_
              rintro e w' ⟨rfl, rfl⟩
              rw [HNN.out, HTo.out, Hs0.out]
              go_wp2_with fail
              go_round
              case rel => exact ⟨j + 1, n + 1, by omega, by omega, by omega, by omega, by go_num, by go_num, HQ.out.symm⟩
              case measure => simp [intOf]; omega
          · have h1b : ((s[j].toNat : Int) == 40) = false := by simp; omega
            by_cases h2 : s[j].toNat = 41
            · have h2b : ((s[j].toNat : Int) == 41) = true := by simp; omega
              by_cases hd1 : n = 1
              · have HQ := Lib.hid (by rw [← Hq.out, Hd.out, hd1]; exact cEnd_last _ _ j h2 : cEnd (s.data.toList.drop (k + 1)) (k + 1) 1 = (j + 1, 0))
                have hz1 : ((n : Int) - 1 == 0) = true := by simp; omega
                clear h1 h2 hj2 hk1 hs0 h92 hd1
                go_wp2_with fail
                refine (rstep_any s j _ hs (by omega)).mono ?_
                rintro e w' ⟨rfl, rfl⟩
                rw [HNN.out, HTo.out, Hs0.out]
                go_wp2_with fail
                go_ret3
                have he : (s.extract (k + 1) j).data.toList = (s.data.toList.drop (k + 1)).take (j - (k + 1)) := Lib.extract_data _ _ _
                exact ⟨ret_3 (by rw [HT.out, HQ.out, if_neg (by simp)]; have : j + 1 - 1 - (k + 1) = j - (k + 1) := by omega
                                 dsimp only; rw [this, ← he]) (by rw [HN.out, HQ.out]; simp) (by rw [HE.out, HQ.out]), Below.refl _ _⟩
              · have HQ := Lib.hid (by rw [← Hq.out, Hd.out]; exact cEnd_shut _ _ j n h2 hd1 : cEnd (s.data.toList.drop (k + 1)) (k + 1) 1 = cEnd (s.data.toList.drop (j + 1)) (j + 1) (n - 1))
                have hn2 : 2 ≤ n := by omega
                have hz1 : ((n : Int) - 1 == 0) = false := by rw [beq_eq_false_iff_ne]; omega
                clear h1 h2 hj2 hk1 hs0 h92 hd1
                go_wp2_with fail
                refine (rstep_any s j _ hs (by omega)).mono ?_
                rintro e w' ⟨rfl, rfl⟩
                rw [HNN.out, HTo.out, Hs0.out]
                go_wp2_with fail
                go_round
                case rel => exact ⟨j + 1, n - 1, by omega, by omega, by omega, by omega, by go_num, by congr 1; omega, HQ.out.symm⟩
                case measure => simp [intOf]; omega
            · have h2b : ((s[j].toNat : Int) == 41) = false := by simp; omega
              have HQ := Lib.hid (by rw [← Hq.out, Hd.out, cEnd_step _ _ j n h1 h2 (by rw [← Hd.out]; exact hs0), ← Hd.out, hj2, hk1, List.drop_drop]; congr 2; omega : cEnd (s.data.toList.drop (k + 1)) (k + 1) 1 = cEnd (s.data.toList.drop (j + 1)) (j + 1) n)
              clear h1 h2 hj2 hk1 hs0 h92
              go_wp2_with fail
              refine (rstep_any s j _ hs (by omega)).mono ?_
              rintro e w' ⟨rfl, rfl⟩
              rw [HNN.out, HTo.out, Hs0.out]
              go_wp2_with fail
              go_round
              case rel => exact ⟨j + 1, n, by omega, by omega, by omega, by omega, by go_num, rfl, HQ.out.symm⟩
              case measure => simp [intOf]; omega
        · have HNN := Lib.hid (by rw [hN, hk2]; omega : rsN (s.data.toList.drop j) j = 2)
          have HQ := Lib.hid (by rw [← Hq.out, Hd.out, cEnd_step _ _ j n (by omega) (by omega) (by rw [← Hd.out]; exact hs0), ← Hd.out, hj2, hk2, List.drop_drop]; congr 2; omega : cEnd (s.data.toList.drop (k + 1)) (k + 1) 1 = cEnd (s.data.toList.drop (j + 2)) (j + 2) n)
          have hj22 : j + 2 ≤ s.size := by omega
          clear hN hj2 hk2 hs0 h92 hdu hok
          go_wp2_with fail
          refine (rstep_any s j _ hs (by omega)).mono ?_
          rintro e w' ⟨rfl, rfl⟩
          rw [HNN.out, HTo.out, Hs0.out]
          go_wp2_with fail
          go_round
          case rel => exact ⟨j + 2, n, by omega, by omega, by omega, by omega, by go_num, rfl, HQ.out.symm⟩
          case measure => simp [intOf]; omega
      · obtain ⟨x, hx⟩ : ∃ x, (stepS (s.data.toList.drop j) j).2 = x := ⟨_, rfl⟩
        have hqe : cEnd (s.data.toList.drop (k + 1)) (k + 1) 1 = stepS (s.data.toList.drop j) j := by
          rw [← Hq.out]
          rcases Nat.lt_or_ge j s.size with h | h
          · have hd := drop_step s j h
            have h40 : s[j].toNat ≠ 40 := by
              intro h40
              apply hs0
              rw [hd, stepS_one _ _ j (by simp [ctlI, h40]) (by omega)]
            have h41 : s[j].toNat ≠ 41 := by
              intro h41
              apply hs0
              rw [hd, stepS_one _ _ j (by simp [ctlI, h41]) (by omega)]
            rw [hd, cEnd_err _ _ j n h40 h41 (by rw [← hd]; exact hs0)]
          · rw [drop_end s j h, cEnd_nil]; rfl
        have HTo := Lib.hid (by unfold rsT; rw [if_neg hs0] : rsT (s.data.toList.drop j) j = ((stepS (s.data.toList.drop j) j).1 : Int))
        rw [hx] at hs0
        have hxb : (x != 0) = true := by simpa using hs0
        have HQ := Lib.hid hqe
        have Hx := Lib.hid hx
        have Hs0 := Lib.hid hs0
        clear hqe hx hs0
        go_wp2_with fail
        refine (rstep_any s j _ hs hj).mono ?_
        rintro e w' ⟨rfl, rfl⟩
        rw [HTo.out, Hx.out]
        go_wp2_with fail
        go_ret3
        exact ⟨ret_3 (by rw [HT.out, HQ.out, Hx.out, if_pos Hs0.out]) (by rw [HN.out, HQ.out]) (by rw [HE.out, HQ.out, Hx.out]), Below.refl _ _⟩
  · have HT := Lib.hid (by unfold cmT; rw [if_pos (.inl h0)] : cmT s.data.toList a = [])
    have HN := Lib.hid (by unfold cmN; rw [if_pos h0] : cmN s.data.toList a = opN s.data.toList a)
    have HE := Lib.hid (by unfold cmE; rw [if_pos h0] : cmE s.data.toList a = opE 40 s.data.toList a)
    have HR := Lib.hid (by unfold roN; rw [if_neg h0] : roN 40 s.data.toList a = opN s.data.toList a)
    obtain ⟨x, hx⟩ : ∃ x, opE 40 s.data.toList a = x := ⟨_, rfl⟩
    rw [hx] at h0
    have hxb : (x != 0) = true := by simpa using h0
    have Hx := Lib.hid hx
    clear h0 hx
    go_enter Tryd.func28, Tryd.ntmps28
    go_wp2_with fail
    refine (ropens_any s _ 40 w (by unfold maxLen; omega)).mono ?_
    rintro e w' ⟨rfl, rfl⟩
    rw [HR.out, Hx.out]
    go_wp2_with fail
    go_ret3
    exact ⟨ret_3 (by rw [HT.out]) HN.out.symm (by rw [HE.out, Hx.out]), Below.refl _ _⟩

/-! ### Quote of the reference -/
theorem hasCtl_take (l : List UInt8) (j : Nat) (h : hasCtl (l.take j) = true) : hasCtl l = true := by
  simp only [hasCtl, List.any_eq_true] at h ⊢
  obtain ⟨x, hx, hp⟩ := h
  exact ⟨x, List.mem_of_mem_take hx, hp⟩
theorem hasCtl_snoc (l : List UInt8) (c : UInt8) : hasCtl (l ++ [c]) = (hasCtl l || ctlI c.toNat) := by simp [hasCtl]

set_option maxRecDepth 100000 in
set_option maxHeartbeats 2000000 in
theorem rquote_any (s : ByteArray) (w : World) (hs : s.size ≤ 35184372088832) :
    Calls Tryd.prog 24 #[.string s] w (Ret2 (quT s.data.toList) (quE s.data.toList) w) := by
  obtain ⟨i0, hi, hz0, hz1, hz2⟩ := info_parts infoByte
  go_enter Tryd.func24, Tryd.ntmps24
  go_wp2_with fail
  go_loopw [4, 5] (fun v i wr => ∃ j : Nat, j ≤ s.size ∧ i = .int .i64 j ∧ hasCtl (s.data.toList.take j) = false ∧ wr.ownsRow w.heap.size 5 1 v ([34] ++ escL (s.data.toList.take j)).length (Lib.byteCells ([34] ++ escL (s.data.toList.take j))) ∧ Below w.heap.size w wr) (fun _ i _ => s.size - (intOf i).toNat)
  case atStart => exact ⟨0, by omega, rfl, rfl, World.ownsRow_lit w #[.int .u8 34] 1 (Nat.le_refl _) (by unfold maxLen; omega) rfl, (Below.refl _ w).alloc (Nat.le_refl _) _⟩
  case round =>
    obtain ⟨j, hj, rfl, hct, hown, hB⟩ := hrel
    have hsz := hB.size
    have hel := escL_len (s.data.toList.take j)
    rw [List.length_take, len_list] at hel
    have hlen : ([34] ++ escL (s.data.toList.take j)).length ≤ 2 * s.size + 1 := by
      rw [List.length_append, List.length_singleton]; omega
    have Hct := Lib.hid hct
    have Ho := Lib.hid hown
    clear hct hown hel
    by_cases hlt : j < s.size
    · have hts := take_snoc s j hlt
      cases hc : ctlI s[j].toNat
      · have HC := Lib.hid (by rw [hts, hasCtl_snoc, Hct.out, hc]; rfl : hasCtl (s.data.toList.take (j + 1)) = false)
        have Hc := Lib.hid hc
        have HS := Lib.hid (by rw [hts, escL_snoc] : escL (s.data.toList.take (j + 1)) = escL (s.data.toList.take j) ++ (if s[j].toNat = 34 ∨ s[j].toNat = 92 then [92, s[j]] else [s[j]]))
        clear hc hts
        by_cases hq : s[j].toNat = 34 ∨ s[j].toNat = 92
        · have HE := Lib.hid (by rw [HS.out, if_pos hq]; simp : [34] ++ escL (s.data.toList.take (j + 1)) = ([34] ++ escL (s.data.toList.take j) ++ [92]) ++ [s[j]])
          have hlen2 : ([34] ++ escL (s.data.toList.take j) ++ [92]).length ≤ 2 * s.size + 2 := by rw [List.length_append, List.length_singleton]; omega
          have hqq : (((s[j].toNat : Int) == 34) = true) ∨ (((s[j].toNat : Int) == 34) = false ∧ ((s[j].toNat : Int) == 92) = true) := by
            rcases hq with hq | hq
            · left; simp; omega
            · right; constructor <;> simp <;> omega
          clear hq
          rcases hqq with q1 | ⟨q1, q2⟩
          all_goals
            go_wp2_with fail
            refine (rctl_any _ _).mono ?_
            rintro e w' ⟨rfl, rfl⟩
            rw [Hc.out]
            go_wp2_with (at_builtin; refine wpList_append_own _ rfl _ _ 47 rfl w.heap.size 5 i0 (.int .u8 0) 1 1 Tryd.underlying47 hi hz0 hz1 hz2 rfl (by decide) _ _ _ rfl (Ho.out.alloc _) ⟨wr.heap.size, 0, none⟩ 1 1 [.int .u8 92] rfl rfl (cell_one_new _ _ _) (by simp [Value.oneCell']) ?c3 ?c4 ?c5 ?_)
            case c3 => unfold maxLen; omega
            case c4 => omega
            case c5 => simp; omega
            intro v2 w2 hown' hgrow _
            have HO2 := Lib.hid (by simpa [Lib.byteCells] using hown' : w2.ownsRow w.heap.size 5 1 v2 ([34] ++ escL (s.data.toList.take j) ++ [92]).length (Lib.byteCells ([34] ++ escL (s.data.toList.take j) ++ [92])))
            have hB2 := (hB.alloc (by omega) (.cells #[.int .u8 92] 5)).grown hgrow (by simp; omega) (fun k' hk' => (Ho.out.lt k' hk').1)
            have hs2 := hB2.size
            clear hown' hgrow
            skip
            go_wp2_with (at_builtin; refine wpList_append_own _ rfl _ _ 47 rfl w.heap.size 5 i0 (.int .u8 0) 1 1 Tryd.underlying47 hi hz0 hz1 hz2 rfl (by decide) _ _ _ rfl (HO2.out.alloc _) ⟨w2.heap.size, 0, none⟩ 1 1 [.int .u8 (s[j].toNat : Int)] rfl rfl (cell_one_new _ _ _) (by simp [Value.oneCell']) ?c3 ?c4 ?c5 ?_)
            case c3 => unfold maxLen; omega
            case c4 => omega
            case c5 => simp; omega
            intro v4 w4 hown' hgrow _
            have HO4 := Lib.hid (by simpa [Lib.byteCells] using hown' : w4.ownsRow w.heap.size 5 1 v4 (([34] ++ escL (s.data.toList.take j) ++ [92]) ++ [s[j]]).length (Lib.byteCells (([34] ++ escL (s.data.toList.take j) ++ [92]) ++ [s[j]])))
            have hB4 := (hB2.alloc (by omega) (.cells #[.int .u8 (s[j].toNat : Int)] 5)).grown hgrow (by simp; omega) (fun k' hk' => (HO2.out.lt k' hk').1)
            have hs4 := hB4.size
            clear hown' hgrow
            go_wp2_with fail
            go_roundw
            case rel => exact ⟨j + 1, by omega, by go_num, HC.out, by rw [HE.out]; exact HO4.out, hB4⟩
            case measure => simp [intOf]; omega
        · have HE := Lib.hid (by rw [HS.out, if_neg hq]; simp : [34] ++ escL (s.data.toList.take (j + 1)) = ([34] ++ escL (s.data.toList.take j)) ++ [s[j]])
          have q1 : ((s[j].toNat : Int) == 34) = false := by simp; omega
          have q2 : ((s[j].toNat : Int) == 92) = false := by simp; omega
          clear hq
          go_wp2_with fail
          refine (rctl_any _ _).mono ?_
          rintro e w' ⟨rfl, rfl⟩
          rw [Hc.out]
          go_wp2_with (at_builtin; refine wpList_append_own _ rfl _ _ 47 rfl w.heap.size 5 i0 (.int .u8 0) 1 1 Tryd.underlying47 hi hz0 hz1 hz2 rfl (by decide) _ _ _ rfl (Ho.out.alloc _) ⟨wr.heap.size, 0, none⟩ 1 1 [.int .u8 (s[j].toNat : Int)] rfl rfl (cell_one_new _ _ _) (by simp [Value.oneCell']) ?c3 ?c4 ?c5 ?_)
          case c3 => unfold maxLen; omega
          case c4 => omega
          case c5 => simp; omega
          intro v4 w4 hown' hgrow _
          have HO4 := Lib.hid (by simpa [Lib.byteCells] using hown' : w4.ownsRow w.heap.size 5 1 v4 ([34] ++ escL (s.data.toList.take j) ++ [s[j]]).length (Lib.byteCells ([34] ++ escL (s.data.toList.take j) ++ [s[j]])))
          have hB4 := (hB.alloc (by omega) (.cells #[.int .u8 (s[j].toNat : Int)] 5)).grown hgrow (by simp; omega) (fun k' hk' => (Ho.out.lt k' hk').1)
          have hs4 := hB4.size
          clear hown' hgrow
          go_wp2_with fail
          go_roundw
          case rel => exact ⟨j + 1, by omega, by go_num, HC.out, by rw [HE.out]; exact HO4.out, hB4⟩
          case measure => simp [intOf]; omega
      · have hct2 : hasCtl s.data.toList = true := hasCtl_take _ (j + 1) (by rw [hts, hasCtl_snoc, hc]; simp)
        have HT := Lib.hid (by unfold quT; rw [if_pos hct2] : quT s.data.toList = [])
        have HE := Lib.hid (by unfold quE; rw [if_pos hct2] : quE s.data.toList = 5)
        have Hc := Lib.hid hc
        clear hc hts hct2
        go_wp2_with fail
        refine (rctl_any _ _).mono ?_
        rintro e w' ⟨rfl, rfl⟩
        rw [Hc.out]
        go_wp2_with fail
        go_ret2
        exact ⟨ret_si (by rw [HT.out]) HE.out.symm, hB⟩
    · have htk : s.data.toList.take j = s.data.toList := List.take_of_length_le (by rw [len_list]; omega)
      rw [htk] at Hct Ho hlen
      have HT := Lib.hid (by unfold quT; rw [if_neg (by rw [Hct.out]; simp)] : quT s.data.toList = [34] ++ escL s.data.toList ++ [34])
      have HE := Lib.hid (by unfold quE; rw [if_neg (by rw [Hct.out]; simp)] : quE s.data.toList = 0)
      clear htk
      go_wp2_with (at_builtin; refine wpList_append_own _ rfl _ _ 47 rfl w.heap.size 5 i0 (.int .u8 0) 1 1 Tryd.underlying47 hi hz0 hz1 hz2 rfl (by decide) _ _ _ rfl (Ho.out.alloc _) ⟨wr.heap.size, 0, none⟩ 1 1 [.int .u8 34] rfl rfl (cell_one_new _ _ _) (by simp [Value.oneCell']) ?c3 ?c4 ?c5 ?_)
      case c3 => unfold maxLen; omega
      case c4 => omega
      case c5 => simp; omega
      intro v4 w4 hown' hgrow _
      have HO4 := Lib.hid (by simpa [Lib.byteCells] using hown' : w4.ownsRow w.heap.size 5 1 v4 ([34] ++ escL s.data.toList ++ [34]).length (Lib.byteCells ([34] ++ escL s.data.toList ++ [34])))
      have hB4 := (hB.alloc (by omega) (.cells #[.int .u8 34] 5)).grown hgrow (by simp; omega) (fun k' hk' => (Ho.out.lt k' hk').1)
      have hs4 := hB4.size
      clear hown' hgrow
      have hcv := conv_row HO4.out
      go_wp2_with fail
      go_ret2
      exact ⟨ret_si (by rw [HT.out]; rfl) HE.out.symm, hB4⟩
end Lx
end Go.Proofs.YtjbjaofbdbkjaaaDoor
