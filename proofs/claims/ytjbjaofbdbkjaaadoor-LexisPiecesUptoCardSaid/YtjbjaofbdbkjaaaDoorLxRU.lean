/- Contracts of end, Trim and Unfold of package dialtoneref01: each returns what the plain specification says. Condition: a text has at most 2^21 bytes. -/
import Derived.Test.YtjbjaofbdbkjaaaDoorLxRUSpec
import Derived.Test.YtjbjaofbdbkjaaaDoorLxUBody
import Derived.Test.YtjbjaofbdbkjaaaDoorLxRQ
import Derived.Test.YtjbjaofbdbkjaaaDoorLxRound
import Derived.Maps.AppendAt
namespace Go.Proofs.YtjbjaofbdbkjaaaDoor
namespace Lx
open Go.RowKit

theorem crlf_pre (s : ByteArray) (k : Nat) (h : k + 1 < s.size) : crlf.isPrefixOf (s.data.toList.drop k) = ((s[k].toNat : Int) == 13 && (s[k + 1].toNat : Int) == 10) := by
  rw [drop_step s k (by omega), drop_step s (k + 1) h]
  simp only [crlf, List.isPrefixOf, Bool.and_true]
  rw [u8beq, u8beq, Bool.eq_iff_iff]
  simp only [Bool.and_eq_true, beq_iff_eq]
  constructor
  · rintro ⟨h1, h2⟩; exact ⟨h1.symm, h2.symm⟩
  · rintro ⟨h1, h2⟩; exact ⟨h1.symm, h2.symm⟩
theorem crlf_pre_end (s : ByteArray) (k : Nat) (h : k < s.size) (h2 : s.size ≤ k + 1) : crlf.isPrefixOf (s.data.toList.drop k) = false := by
  rw [drop_step s k h, drop_end s (k + 1) h2]; simp [crlf, List.isPrefixOf]
theorem crlf_pre_not (s : ByteArray) (k : Nat) (h : k < s.size) (h2 : s[k].toNat ≠ 13) : crlf.isPrefixOf (s.data.toList.drop k) = false := by
  rcases Nat.lt_or_ge (k + 1) s.size with h3 | h3
  · rw [crlf_pre s k h3]
    have : ((s[k].toNat : Int) == 13) = false := by rw [beq_eq_false_iff_ne]; omega
    rw [this]; rfl
  · exact crlf_pre_end s k h h3
theorem ret_e (r : Nat × Int) (j : Nat) (e : Int) (h : r = (j, e)) : (if r.2 = 0 then (r.1 : Int) else 0) = (if e = 0 then (j : Int) else 0) ∧ (if r.2 = 0 then 0 else (r.1 : Int)) = (if e = 0 then 0 else (j : Int)) ∧ r.2 = e := by
  subst h; exact ⟨rfl, rfl, rfl⟩

set_option maxRecDepth 100000 in
set_option maxHeartbeats 1000000 in
theorem rend_any (s : ByteArray) (k : Nat) (w : World) (hs : s.size ≤ 2097152) (hk : k ≤ s.size) :
    Calls Tryd.prog 65 #[.string s, .int .i64 k] w (Ret (.tuple #[.int .i64 (if (endR (s.data.toList.drop k) k).2 = 0 then ((endR (s.data.toList.drop k) k).1 : Int) else 0), .int .i64 (if (endR (s.data.toList.drop k) k).2 = 0 then 0 else ((endR (s.data.toList.drop k) k).1 : Int)), .int .u8 (endR (s.data.toList.drop k) k).2]) w) := by
  obtain ⟨x, hx⟩ : ∃ x : Int, (if (endR (s.data.toList.drop k) k).2 = 0 then ((endR (s.data.toList.drop k) k).1 : Int) else 0) = x := ⟨_, rfl⟩
  obtain ⟨y, hy⟩ : ∃ x : Int, (if (endR (s.data.toList.drop k) k).2 = 0 then 0 else ((endR (s.data.toList.drop k) k).1 : Int)) = x := ⟨_, rfl⟩
  obtain ⟨z, hz⟩ : ∃ z, (endR (s.data.toList.drop k) k).2 = z := ⟨_, rfl⟩
  rw [hx, hy, hz]
  have HX := Lib.hid hx
  have HY := Lib.hid hy
  have HZ := Lib.hid hz
  clear hx hy hz
  go_enter Tryd.func65, Tryd.ntmps65
  go_wp2_with fail
  go_loop [7] (fun i => ∃ j : Nat, j ≤ s.size ∧ i = .int .i64 j ∧ endR (s.data.toList.drop j) j = endR (s.data.toList.drop k) k) (fun i => s.size - (intOf i).toNat)
  case atStart => exact ⟨k, hk, rfl, rfl⟩
  case round =>
    obtain ⟨j, hj, rfl, he⟩ := hrel
    have He := Lib.hid he
    clear he
    by_cases hlt : j < s.size
    · have Hd := Lib.hid (drop_step s j hlt)
      by_cases h13 : s[j].toNat = 13
      · have b13 : ((s[j].toNat : Int) == 13) = true := by simp; omega
        have n13 : ((s[j].toNat : Int) != 13) = false := by simp; omega
        have hct : ctlI s[j].toNat = true := by rw [h13]; decide
        rcases Nat.lt_or_ge (j + 1) s.size with h1 | h1
        · by_cases h10 : s[j + 1].toNat = 10
          · have b10 : ((s[j + 1].toNat : Int) == 10) = true := by simp; omega
            have HR := Lib.hid (ret_e _ _ _ (by rw [← He.out, Hd.out]; exact endR_crlf _ _ j (by rw [← Hd.out, crlf_pre s j h1, b13, b10]; rfl) : endR (s.data.toList.drop k) k = (j, 0)))
            clear h13 h10 hct
            go_wp2_with fail
            go_ret3
            exact ⟨ret_iii (by rw [← HX.out, HR.out.1]; rfl) (by rw [← HY.out, HR.out.2.1]; rfl) (by rw [← HZ.out, HR.out.2.2]), rfl⟩
          · have b10 : ((s[j + 1].toNat : Int) == 10) = false := by simp; omega
            have HR := Lib.hid (ret_e _ _ _ (by
              rw [← He.out, Hd.out]
              refine endR_bad _ _ j (by rw [← Hd.out, crlf_pre s j h1, b13, b10]; rfl) ?_
              rw [hct, drop_step s (j + 1) h1]; simp : endR (s.data.toList.drop k) k = (j, 5)))
            have Hct := Lib.hid hct
            clear h13 h10 hct
            go_wp2_with fail
            refine (rctl_any _ _).mono ?_
            rintro e w' ⟨rfl, rfl⟩
            rw [Hct.out]
            go_wp2_with fail
            go_ret3
            exact ⟨ret_iii (by rw [← HX.out, HR.out.1]; rfl) (by rw [← HY.out, HR.out.2.1]; rfl) (by rw [← HZ.out, HR.out.2.2]), rfl⟩
        · have HN := Lib.hid (by
            rw [← He.out, Hd.out]
            refine (endR_next _ _ j (by rw [← Hd.out]; exact crlf_pre_end s j hlt h1) ?_).symm
            rw [hct, drop_end s (j + 1) h1]
            have : s[j] = 13 := by rw [← UInt8.toNat_inj]; exact h13
            rw [this]; rfl : endR (s.data.toList.drop (j + 1)) (j + 1) = endR (s.data.toList.drop k) k)
          have Hct := Lib.hid hct
          clear h13 hct
          go_wp2_with fail
          refine (rctl_any _ _).mono ?_
          rintro e w' ⟨rfl, rfl⟩
          rw [Hct.out]
          go_wp2_with fail
          go_round
          case rel => exact ⟨j + 1, by omega, by go_num, HN.out⟩
          case measure => simp [intOf]; omega
      · have b13 : ((s[j].toNat : Int) == 13) = false := by simp; omega
        have n13 : ((s[j].toNat : Int) != 13) = true := by simp; omega
        have hnp := crlf_pre_not s j hlt h13
        cases hct : ctlI s[j].toNat
        · have HN := Lib.hid (by
            rw [← He.out, Hd.out]
            exact (endR_next _ _ j (by rw [← Hd.out]; exact hnp) (by rw [hct]; rfl)).symm : endR (s.data.toList.drop (j + 1)) (j + 1) = endR (s.data.toList.drop k) k)
          have Hct := Lib.hid hct
          clear h13 hct hnp
          go_wp2_with fail
          refine (rctl_any _ _).mono ?_
          rintro e w' ⟨rfl, rfl⟩
          rw [Hct.out]
          go_wp2_with fail
          go_round
          case rel => exact ⟨j + 1, by omega, by go_num, HN.out⟩
          case measure => simp [intOf]; omega
        · have HR := Lib.hid (ret_e _ _ _ (by
            rw [← He.out, Hd.out]
            refine endR_bad _ _ j (by rw [← Hd.out]; exact hnp) ?_
            rw [hct, Bool.true_and, Bool.not_eq_true']
            rw [Bool.eq_false_iff]
            intro h
            have := beq_iff_eq.1 h
            injection this with h1 _
            apply h13; rw [h1]; rfl : endR (s.data.toList.drop k) k = (j, 5)))
          have Hct := Lib.hid hct
          clear h13 hct hnp
          go_wp2_with fail
          refine (rctl_any _ _).mono ?_
          rintro e w' ⟨rfl, rfl⟩
          rw [Hct.out]
          go_wp2_with fail
          go_ret3
          exact ⟨ret_iii (by rw [← HX.out, HR.out.1]; rfl) (by rw [← HY.out, HR.out.2.1]; rfl) (by rw [← HZ.out, HR.out.2.2]), rfl⟩
    · have HR := Lib.hid (ret_e _ _ _ (by rw [← He.out, drop_end s j (by omega), endR_nil] : endR (s.data.toList.drop k) k = (j, 6)))
      have Hj := Lib.hid (show ((s.size : Nat) : Int) = ((j : Nat) : Int) by omega)
      go_wp2_with fail
      go_ret3
      exact ⟨ret_iii (by rw [← HX.out, HR.out.1]; rfl) (by rw [← HY.out, HR.out.2.1, if_neg (by decide)]; exact Hj.out) (by rw [← HZ.out, HR.out.2.2]), rfl⟩

/-! ### Trim of the reference -/
theorem take_pred (s : ByteArray) (k : Nat) (h : k + 1 ≤ s.size) : s.data.toList.take (k + 1) = s.data.toList.take k ++ [s[k]] := take_snoc s k (by omega)
set_option maxRecDepth 100000 in
set_option maxHeartbeats 1000000 in
theorem rtrim_any (s : ByteArray) (w : World) (hs : s.size ≤ 2147483648) :
    Calls Tryd.prog 37 #[.string s] w (Ret (.string ⟨(Lib.trimS s.data.toList blk).toArray⟩) w) := by
  have hb := bhd_le blankI s 0 (by omega)
  obtain ⟨r, hr⟩ : ∃ r, s.extract (bhd blankI s 0) s.size = r := ⟨_, rfl⟩
  have hrl : r.data.toList = s.data.toList.dropWhile bb := by
    rw [← hr, Lib.extract_data, List.take_of_length_le (by simp), ← drop_run]
    simp [bhd]
  have hrs : r.size ≤ 2147483648 := by rw [← hr]; simp; omega
  obtain ⟨k0, hk0⟩ : ∃ k0, bhd blankI s 0 = k0 := ⟨_, rfl⟩
  rw [hk0] at hb hr
  have HT := Lib.hid (by rw [trimS_eq, ← hrl] : Lib.trimS s.data.toList blk = rd bb r.data.toList)
  have Hr := Lib.hid hr
  have Hk0 := Lib.hid hk0
  clear hr hrl hk0
  go_enter Tryd.func37, Tryd.ntmps37
  go_wp2_with fail
  refine (rblanks_any s 0 _ (by unfold maxLen; omega)).mono ?_
  rintro e w' ⟨rfl, rfl⟩
  rw [bhd_zero, Hk0.out]
  go_wp2_with fail
  rw [Hr.out]
  go_loop [3] (fun i => ∃ n : Nat, n ≤ r.size ∧ i = .int .i64 n ∧ rd bb (r.data.toList.take n) = rd bb r.data.toList) (fun i => (intOf i).toNat)
  case atStart => exact ⟨r.size, Nat.le_refl _, congrArg (Value.int .i64) (by rw [← Hr.out]; simp), by rw [List.take_of_length_le (by rw [len_list]; exact Nat.le_refl _)]⟩
  case round =>
    obtain ⟨n, hn, rfl, he⟩ := hrel
    have He := Lib.hid he
    clear he
    cases n with
    | zero =>
      have HF := Lib.hid (by rw [HT.out, ← He.out]; rfl : Lib.trimS s.data.toList blk = [])
      go_wp2_with fail
      go_ret
      exact ⟨by rw [HF.out]; rfl, rfl⟩
    | succ n =>
      have hts := take_snoc r n (by omega)
      have hlt : n < r.size := by omega
      have hi : ((n : Int) + 1 - 1) = (n : Int) := by omega
      cases hb : blankI r[n].toNat
      · have HF := Lib.hid (by rw [HT.out, ← He.out, hts, rd_snoc, show bb r[n] = blankI r[n].toNat from rfl, hb]; simp : Lib.trimS s.data.toList blk = r.data.toList.take (n + 1))
        have Hb := Lib.hid hb
        have Hi := Lib.hid hi
        clear hb hts hi
        go_wp2_with fail
        refine (rblank_any _ _).mono ?_
        rintro e w' ⟨rfl, rfl⟩
        rw [Hb.out]
        go_wp2_with fail
        go_ret
        exact ⟨by rw [HF.out]; exact congrArg (fun x : ByteArray => Ending.returned (.string x)) (by rw [str_self (r.extract 0 (n + 1)), Lib.extract_data]; simp), rfl⟩
      · have HN := Lib.hid (by rw [← He.out, hts, rd_snoc, show bb r[n] = blankI r[n].toNat from rfl, hb]; simp : rd bb (r.data.toList.take n) = rd bb r.data.toList)
        have Hb := Lib.hid hb
        have Hi := Lib.hid hi
        clear hb hts hi
        go_wp2_with fail
        refine (rblank_any _ _).mono ?_
        rintro e w' ⟨rfl, rfl⟩
        rw [Hb.out]
        go_wp2_with fail
        go_round
        case rel => exact ⟨n, by omega, by go_num, HN.out⟩
        case measure => simp [intOf]

/-! ### Unfold of the reference: what holds between two rounds -/
def RInv (l : List UInt8) (k : Nat) (S : USt) : Prop :=
  k ≤ l.length ∧ (∃ pre, foldU pre = S ∧ pre ++ physL (l.drop k) k = physL l 0) ∧ stray l 0 = stray (l.drop k) k ∧ S.tx.length ≤ k ∧ S.ls.length ≤ k ∧ (0 < k → S.ls ≠ [] ∧ firstBlank l = false ∧ ∃ a, l.take k = a ++ [13, 10])
theorem RInv.start (l : List UInt8) : RInv l 0 ⟨[], []⟩ := ⟨Nat.zero_le _, ⟨[], rfl, rfl⟩, rfl, Nat.le_refl _, Nat.le_refl _, fun h => absurd h (Nat.lt_irrefl _)⟩
theorem RInv.done {l : List UInt8} {k : Nat} {S : USt} (h : RInv l k S) (hk : l.length ≤ k) : unfL l = (endL S).ls ∧ unfAt l = 0 ∧ unfE l = 0 := by
  obtain ⟨h1, ⟨pre, h2, h3⟩, h4, _, _, h6⟩ := h
  have hd : l.drop k = [] := List.drop_eq_nil_of_le hk
  rw [hd, physL_nil, List.append_nil] at h3
  rw [hd, stray_nil] at h4
  have hkl : k = l.length := by omega
  have hfb : firstBlank l = false := by
    rcases Nat.eq_zero_or_pos k with h0 | h0
    · have : l = [] := List.eq_nil_of_length_eq_zero (by omega)
      rw [this]; rfl
    · exact (h6 h0).2.1
  have hsf : (!l.isEmpty && !Lib.hasSuffix l crlf) = false := by
    rcases Nat.eq_zero_or_pos k with h0 | h0
    · have : l = [] := List.eq_nil_of_length_eq_zero (by omega)
      rw [this]; rfl
    · obtain ⟨a, ha⟩ := (h6 h0).2.2
      rw [List.take_of_length_le hk] at ha
      have : Lib.hasSuffix l crlf = true := by
        unfold Lib.hasSuffix
        rw [List.isSuffixOf_iff_suffix]
        exact ⟨a, ha.symm⟩
      rw [this]; simp
  obtain ⟨u1, u2, u3⟩ := unf_ok l hfb (by rw [h4, hkl]) hsf
  exact ⟨by rw [u1, ← h3, h2], u2, u3⟩
theorem RInv.five {l : List UInt8} {k j : Nat} {S : USt} (h : RInv l k S) (hf : k = 0 → firstBlank l = false) (he : endR (l.drop k) k = (j, 5)) : unfL l = [] ∧ unfAt l = j ∧ unfE l = 5 := by
  obtain ⟨h1, _, h4, _, _, h6⟩ := h
  obtain ⟨e1, e2⟩ := endR_five _ _ _ he
  rw [List.length_drop] at e2
  have hfb : firstBlank l = false := by
    rcases Nat.eq_zero_or_pos k with h0 | h0
    · exact hf h0
    · exact (h6 h0).2.1
  have hs : stray l 0 = j := by rw [h4, e1]
  have hlt : j < l.length := by omega
  refine ⟨?_, ?_, ?_⟩
  · unfold unfL; rw [hfb, hs]; simp [hlt]
  · unfold unfAt; rw [hfb, hs]; simp [hlt]
  · unfold unfE; rw [hfb, hs]; simp [hlt]
theorem RInv.six {l : List UInt8} {k j : Nat} {S : USt} (h : RInv l k S) (hf : k = 0 → firstBlank l = false) (hk : k < l.length) (he : endR (l.drop k) k = (j, 6)) : unfL l = [] ∧ unfAt l = j ∧ unfE l = 6 ∧ j = l.length := by
  obtain ⟨h1, _, h4, _, _, h6⟩ := h
  obtain ⟨e1, e2, e3⟩ := endR_six _ _ _ he
  rw [List.length_drop] at e1 e2
  have hfb : firstBlank l = false := by
    rcases Nat.eq_zero_or_pos k with h0 | h0
    · exact hf h0
    · exact (h6 h0).2.1
  have hs : stray l 0 = l.length := by rw [h4, e2]; omega
  have hne : l.drop k ≠ [] := by intro e; have := congrArg List.length e; simp at this; omega
  have hsf : Lib.hasSuffix l crlf = false := by
    rcases Nat.eq_zero_or_pos k with h0 | h0
    · rw [h0] at e3; exact suf_none l e3
    · obtain ⟨a, ha⟩ := (h6 h0).2.2
      have : l = a ++ [13, 10] ++ l.drop k := by rw [← ha, List.take_append_drop]
      rw [this, suf_drop _ _ hne]
      exact suf_none _ e3
  have hie : l.isEmpty = false := by cases l with | nil => simp at hk | cons => rfl
  refine ⟨?_, ?_, ?_, by omega⟩
  · unfold unfL; rw [hfb, hs, hsf, hie]; simp
  · unfold unfAt; rw [hfb, hs, hsf, hie]; simp; omega
  · unfold unfE; rw [hfb, hs, hsf, hie]; simp
theorem endL_tx (S : USt) (h : S.ls = [] → S.tx = []) : (endL S).tx = [] := by
  unfold endL; split
  · rename_i h0; exact h h0
  · rfl
theorem join_nil (q : List UInt8) : join [] q = q := by unfold join; simp
theorem join_nil_right (q : List UInt8) : join q [] = q := by unfold join; simp
theorem join_both (a q : List UInt8) (h1 : a ≠ []) (h2 : q ≠ []) : join a q = a ++ [32] ++ q := by unfold join; rw [if_pos ⟨h1, h2⟩]
theorem row_fresh (S : USt) (k : Nat) (p : List UInt8) (hf : fresh p = true) (h : S.ls = [] → S.tx = []) : (endL (stepU S (k, p))).ls = (endL S).ls ++ [(k, Lib.trimS p blk)] := by
  have ha : addL S (k, p) = ⟨(endL S).ls ++ [(k, [])], (endL S).tx⟩ := by simp [addL, hf]
  have hst : stepU S (k, p) = ⟨(endL S).ls ++ [(k, [])], Lib.trimS p blk⟩ := by unfold stepU; rw [ha]; dsimp only; rw [endL_tx S h, join_nil]
  rw [hst, endL_cons _ (by simp)]
  exact setLast_snoc _ _ _
theorem row_cont (S : USt) (k : Nat) (p : List UInt8) (hf : fresh p = false) : stepU S (k, p) = ⟨S.ls, join S.tx (Lib.trimS p blk)⟩ := by
  have ha : addL S (k, p) = S := by simp [addL, hf]
  unfold stepU; rw [ha]
theorem RInv.step {l : List UInt8} {k j : Nat} {S : USt} (h : RInv l k S) (hf : k = 0 → firstBlank l = false) (hk : k < l.length) (he : endR (l.drop k) k = (j, 0)) :
    k ≤ j ∧ j + 2 ≤ l.length ∧ fresh ((l.drop k).take (j - k)) = (!blankI (l[k]'hk).toNat) ∧ RInv l (j + 2) (stepU S (k, (l.drop k).take (j - k))) := by
  obtain ⟨h1, ⟨pre, h2, h3⟩, h4, h5, h7, h6⟩ := h
  obtain ⟨e1, e2, e3, e4⟩ := endR_zero _ _ _ he
  rw [List.length_drop] at e2
  have hne : l.drop k ≠ [] := by intro e; have := congrArg List.length e; simp at this; omega
  have hcut : (Lib.cut (l.drop k) crlf).1 = (l.drop k).take (j - k) := by
    unfold Lib.cut; rw [e3, if_pos (by omega)]; simp
  obtain ⟨p, hp⟩ : ∃ p, (l.drop k).take (j - k) = p := ⟨_, rfl⟩
  have hpl : p.length = j - k := by rw [← hp]; simp; omega
  have hph : physL (l.drop k) k = (k, p) :: physL (l.drop (j + 2)) (j + 2) := by
    rw [physL_cons _ _ hne, hcut, hp, hpl, List.drop_drop]
    have : k + (j - k + 2) = j + 2 := by omega
    rw [this]
  have hd : l.drop k = l[k] :: l.drop (k + 1) := List.drop_eq_getElem_cons hk
  have hfr : fresh p = (!blankI (l[k]'hk).toNat) := by
    rcases Nat.eq_zero_or_pos (j - k) with h0 | h0
    · have : p = [] := List.eq_nil_of_length_eq_zero (by omega)
      rw [this]
      have hpre : crlf.isPrefixOf (l.drop k) = true := by
        have := e3
        rw [hd, index_cons] at this
        rw [hd]
        by_cases hpp : crlf.isPrefixOf (l[k] :: l.drop (k + 1)) = true
        · exact hpp
        · rw [if_neg hpp] at this
          have hg := Lib.index_ge (l.drop (k + 1)) crlf
          split at this
          · omega
          · rename_i hq; rw [beq_iff_eq] at hq; omega
      rw [hd] at hpre
      obtain ⟨u, hu, _⟩ := crlf_two _ _ hpre
      rw [hu]; rfl
    · rw [← hp, hd]
      obtain ⟨n, hn⟩ : ∃ n, j - k = n + 1 := ⟨j - k - 1, by omega⟩
      rw [hn]; rfl
  rw [hp]
  have hsl := stepU_len S (k, p)
  dsimp only at hsl
  have hfb : firstBlank l = false := by
    rcases Nat.eq_zero_or_pos k with h0 | h0
    · exact hf h0
    · exact (h6 h0).2.1
  refine ⟨e1, by omega, hfr, by omega, ⟨pre ++ [(k, p)], by rw [foldU_snoc, h2], ?_⟩, ?_, by omega, by omega, fun _ => ⟨?_, hfb, ?_⟩⟩
  · rw [← h3, hph, List.append_assoc]; rfl
  · rw [h4, e4, List.drop_drop]
    have : k + (j + 2 - k) = j + 2 := by omega
    rw [this]
  · cases hfp : fresh p
    · have hS : S.ls ≠ [] := by
        rcases Nat.eq_zero_or_pos k with h0 | h0
        · exfalso
          have hb : blankI (l[k]'hk).toNat = true := by rw [hfp] at hfr; simpa using hfr.symm
          subst h0
          rw [List.drop_zero] at hd
          rw [hd] at hfb
          have : blankI (l[0]'hk).toNat = false := hfb
          rw [hb] at this; cases this
        · exact (h6 h0).1
      rw [row_cont S k p hfp]; exact hS
    · have ha : addL S (k, p) = ⟨(endL S).ls ++ [(k, [])], (endL S).tx⟩ := by simp [addL, hfp]
      unfold stepU; rw [ha]; simp
  · have hjd : l.drop j = [13, 10] ++ l.drop (j + 2) := by
      have hlj : ∀ (m : List UInt8) (i x : Nat), endR m i = (x, 0) → crlf.isPrefixOf (m.drop (x - i)) = true := by
        intro m
        induction m with
        | nil => intro i x hx; rw [endR_nil] at hx; simp at hx
        | cons c t ih =>
          intro i x hx
          cases hpp : crlf.isPrefixOf (c :: t)
          · cases hc : (ctlI c.toNat && !(c :: t == [13]))
            · rw [endR_next c t i hpp hc] at hx
              have h9 := (endR_zero _ _ _ hx).1
              have : x - i = (x - (i + 1)) + 1 := by omega
              rw [this, List.drop_succ_cons]
              exact ih _ _ hx
            · rw [endR_bad c t i hpp hc] at hx; simp at hx
          · rw [endR_crlf c t i hpp] at hx
            simp at hx; subst hx; simpa using hpp
      have := hlj _ _ _ he
      rw [List.drop_drop, show k + (j - k) = j by omega] at this
      obtain ⟨u, hu⟩ := List.isPrefixOf_iff_prefix.1 this
      have h9 : l.drop (j + 2) = u := by rw [← List.drop_drop, ← hu]; rfl
      rw [h9]; exact hu.symm
    refine ⟨l.take j, ?_⟩
    rw [List.take_add, hjd]; simp
end Lx
end Go.Proofs.YtjbjaofbdbkjaaaDoor
