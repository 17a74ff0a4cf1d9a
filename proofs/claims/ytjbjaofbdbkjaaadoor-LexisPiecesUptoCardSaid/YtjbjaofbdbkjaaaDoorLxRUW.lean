/- The contract of Unfold of package dialtoneref01. Condition: a text has at most 2^21 bytes. -/
import Derived.Test.YtjbjaofbdbkjaaaDoorLxRU
namespace Go.Proofs.YtjbjaofbdbkjaaaDoor
namespace Lx
open Go.RowKit

theorem pcells_last (ls : List (Nat × List UInt8)) (n : Nat) (tx : List UInt8) (h : ls.length = n + 1) : (pcells (setLast ls tx))[n * 2 + 1]? = some (.string ⟨tx.toArray⟩) := by
  obtain ⟨a, q, rfl, ha⟩ := last_split ls n h
  have hl := pcells_length a
  rw [setLast_snoc, pcells_append, List.getElem?_append_right (by omega)]
  have : n * 2 + 1 - (pcells a).length = 1 := by omega
  rw [this]
  rfl
theorem setLast_setLast (ls : List (Nat × List UInt8)) (n : Nat) (x y : List UInt8) (h : ls.length = n + 1) : setLast (setLast ls x) y = setLast ls y := by
  obtain ⟨a, q, rfl, ha⟩ := last_split ls n h
  rw [setLast_snoc, setLast_snoc, setLast_snoc]
theorem list_at (s : ByteArray) (k : Nat) (_h : k < s.size) (h2 : k < s.data.toList.length) : (s.data.toList[k]'h2) = s[k] := by
  simp [ByteArray.getElem_eq_getElem_data]

set_option maxRecDepth 100000 in
set_option maxHeartbeats 4000000 in
theorem runfold_any (s : ByteArray) (w : World) (hs : s.size ≤ 2097152) :
    Calls Tryd.prog 33 #[.string s] w (UnfPost s w) := by
  have hll := len_list s
  go_enter Tryd.func33, Tryd.ntmps33
  go_wp2_with fail
  go_loopw [5, 6] (fun v i wr => ∃ (k : Nat) (S : USt), RInv s.data.toList k S ∧ i = .int .i64 k ∧ wr.ownsRow w.heap.size 43 2 v (endL S).ls.length (pcells (endL S).ls) ∧ Below w.heap.size w wr) (fun _ i _ => s.size - (intOf i).toNat)
  case atStart => exact ⟨0, ⟨[], []⟩, RInv.start _, rfl, World.ownsRow_nil _ _ _ _, Below.refl _ _⟩
  case round =>
    obtain ⟨k, S, hR, rfl, hown, hB⟩ := hrel
    have hk1 := hR.1
    rw [hll] at hk1
    have hSt : S.ls = [] → S.tx = [] := by
      intro h0
      rcases Nat.eq_zero_or_pos k with h | h
      · exact List.eq_nil_of_length_eq_zero (by have := hR.2.2.2.1; omega)
      · exact absurd h0 (hR.2.2.2.2.2 h).1
    have hSl := hR.2.2.2.2.1
    have hSx := hR.2.2.2.1
    have hel := (endL_len S).1
    have HR := Lib.hid hR
    have HSt := Lib.hid hSt
    have Ho := Lib.hid hown
    have hsz := hB.size
    clear hR hSt hown
    by_cases hlt : k < s.size
    · have hs0 : 0 < s.size := by omega
      by_cases hbad : k = 0 ∧ blankI (s[0]'hs0).toNat = true
      · obtain ⟨rfl, hbl⟩ := hbad
        have b0 : (((0 : Nat) : Int) == 0) = true := rfl
        have hfb := first_yes s hs0
        rw [hbl] at hfb
        have HU := Lib.hid (by
          refine ⟨?_, ?_, ?_⟩
          · unfold unfL; rw [hfb]; simp
          · unfold unfAt; rw [hfb]; simp
          · unfold unfE; rw [hfb]; simp : unfL s.data.toList = [] ∧ unfAt s.data.toList = 0 ∧ unfE s.data.toList = 5)
        have Hbl := Lib.hid hbl
        clear hbl hfb
        go_wp2_with fail
        refine (rblank_any _ _).mono ?_
        rintro e w' ⟨rfl, rfl⟩
        rw [Hbl.out]
        go_wp2_with fail
        go_ret3
        refine ⟨_, by rw [HU.out.2.1, HU.out.2.2]; rfl, ?_, hB⟩
        rw [HU.out.1]; exact World.ownsRow_nil _ _ _ _
      · have Hk0 : Hid (k = 0 → firstBlank s.data.toList = false) := Lib.hid (by
          intro h
          rw [first_yes s hs0]
          cases hb : blankI (s[0]'hs0).toNat
          · rfl
          · exact absurd ⟨h, hb⟩ hbad)
        have hor : (((k : Int) == 0) = true ∧ Hid (blankI (s[0]'hs0).toNat = false)) ∨ ((k : Int) == 0) = false := by
          rcases Nat.eq_zero_or_pos k with h | h
          · refine .inl ⟨by rw [beq_iff_eq]; omega, Lib.hid ?_⟩
            cases hb : blankI (s[0]'hs0).toNat
            · rfl
            · exact absurd ⟨h, hb⟩ hbad
          · exact .inr (by rw [beq_eq_false_iff_ne]; omega)
        clear hbad
        obtain ⟨j, x, hx⟩ : ∃ j x, endR (s.data.toList.drop k) k = (j, x) := ⟨_, _, rfl⟩
        have hxe := endR_e (s.data.toList.drop k) k
        rw [hx] at hxe
        have Hret := Lib.hid (ret_e _ j x hx)
        have Hx := Lib.hid hx
        clear hx
        dsimp only at hxe
        rcases hxe with rfl | rfl | rfl
        · have hstp := HR.out.step Hk0.out (by rw [hll]; exact hlt) Hx.out
          obtain ⟨hkj, hj2, hfr, hR'⟩ := hstp
          rw [hll] at hj2
          rw [list_at s k hlt] at hfr
          obtain ⟨p, hp⟩ : ∃ p, (s.data.toList.drop k).take (j - k) = p := ⟨_, rfl⟩
          rw [hp] at hfr hR'
          have hext : (s.extract k j).data.toList = p := by rw [Lib.extract_data, ← hp]
          have hes : (s.extract k j).size ≤ 2147483648 := by simp; omega
          obtain ⟨q, hq⟩ : ∃ q, Lib.trimS p blk = q := ⟨_, rfl⟩
          have hql := trimS_le p blk
          have hpl : p.length ≤ s.size := by rw [← hp]; simp; omega
          rw [hq] at hql
          have HR' := Lib.hid hR'
          have Hext := Lib.hid hext
          have Hq := Lib.hid hq
          clear hR' hext hq hp
          cases hbk : blankI s[k].toNat
          · have hrow := row_fresh S k p (by rw [hfr, hbk]; rfl) HSt.out
            rw [Hq.out] at hrow
            have Hrow := Lib.hid hrow
            have Hbk := Lib.hid hbk
            obtain ⟨i0, hi, hz0, hz1, hz2⟩ := info_parts infoPiece
            clear hrow hbk hfr
            rcases hor with ⟨b0, Hbl⟩ | b0
            all_goals
              go_wp2_with fail
              try
                refine (rblank_any _ _).mono ?_
                rintro e w' ⟨rfl, rfl⟩
                rw [Hbl.out]
                go_wp2_with fail
              refine (rend_any s k _ hs hk1).mono ?_
              rintro e w' ⟨rfl, rfl⟩
              rw [Hret.out.1, Hret.out.2.1, Hret.out.2.2]
              go_wp2_with fail
              refine (rtrim_any _ _ hes).mono ?_
              rintro e w' ⟨rfl, rfl⟩
              rw [Hext.out, Hq.out]
              go_wp2_with fail
              refine (rblank_any _ _).mono ?_
              rintro e w' ⟨rfl, rfl⟩
              rw [Hbk.out]
              go_wp2_with (at_builtin; refine wpList_append_own _ rfl _ _ 33 rfl w.heap.size 43 i0 (.agg #[.int .i64 0, .string .empty]) 2 24 Tryd.underlying33 hi hz0 hz1 hz2 rfl (by decide) _ _ _ rfl (Ho.out.alloc _) ⟨wr.heap.size, 0, none⟩ 1 1 [.int .i64 k, .string ⟨q.toArray⟩] rfl rfl (cell_two_new _ _ _ _) (by simp [Value.oneCell']) ?c3 ?c4 ?c5 ?_)
              case c3 => rw [hel]; unfold maxLen; omega
              case c4 => rw [hel]; omega
              case c5 => simp; omega
              intro v' w2 hown' hgrow _
              have hB2 := (hB.alloc (by omega) (.cells #[.int .i64 k, .string ⟨q.toArray⟩] 43)).grown hgrow (by simp; omega) (fun k' hk' => (Ho.out.lt k' hk').1)
              have HO2 := Lib.hid hown'
              clear hown' hgrow
              go_wp2_with fail
              go_roundw
              case rel =>
                refine ⟨j + 2, _, HR'.out, by go_num, ?_, hB2⟩
                rw [Hrow.out, pcells_append]
                have := HO2.out
                simpa [pcells, hel] using this
              case measure => simp [intOf]; omega
          · have hfp : fresh p = false := by rw [hfr, hbk]; rfl
            have hrow := row_cont S k p hfp
            rw [Hq.out] at hrow
            have Hrow := Lib.hid hrow
            have Hbk := Lib.hid hbk
            have hkp : 0 < k := by
              rcases Nat.eq_zero_or_pos k with h | h
              · exfalso
                subst h
                have := Hk0.out rfl
                rw [first_yes s hs0, hbk] at this
                cases this
              · exact h
            have hne := (HR.out.2.2.2.2.2 hkp).1
            have b0 : ((k : Int) == 0) = false := by rw [beq_eq_false_iff_ne]; omega
            have hEL := endL_cons S hne
            clear hrow hbk hfr hor
            cases q with
            | nil =>
              have Hj := Lib.hid (by rw [Hrow.out, join_nil_right] : stepU S (k, p) = S)
              go_wp2_with fail
              refine (rend_any s k _ hs hk1).mono ?_
              rintro e w' ⟨rfl, rfl⟩
              rw [Hret.out.1, Hret.out.2.1, Hret.out.2.2]
              go_wp2_with fail
              refine (rtrim_any _ _ hes).mono ?_
              rintro e w' ⟨rfl, rfl⟩
              rw [Hext.out, Hq.out]
              go_wp2_with fail
              refine (rblank_any _ _).mono ?_
              rintro e w' ⟨rfl, rfl⟩
              rw [Hbk.out]
              go_wp2_with fail
              go_roundw
              case rel => exact ⟨j + 2, S, by have := HR'.out; rw [Hj.out] at this; exact this, by go_num, Ho.out, hB⟩
              case measure => simp [intOf]; omega
            | cons c t =>
              obtain ⟨n, hn⟩ : ∃ n, S.ls.length = n + 1 := ⟨S.ls.length - 1, by have := List.length_pos_iff.2 hne; omega⟩
              have hown := Ho.out
              rw [hEL] at hown
              dsimp only at hown
              rw [setLast_length, hn] at hown
              obtain ⟨g, cap, rfl, hgB⟩ : ∃ g cap, u5 = .slice (some ⟨g, 0, none⟩) (n + 1) cap ∧ w.heap.size ≤ g := by
                rcases hown.2 with ⟨_, h0⟩ | ⟨g, cap, cur, rfl, hg, _⟩
                · omega
                · exact ⟨g, cap, rfl, hg⟩
              obtain ⟨x, hx⟩ : ∃ x, S.tx = x := ⟨_, rfl⟩
              rw [hx] at hown hSx
              have hc : wr.cell? ⟨g, n * 2 + 1, none⟩ = some (.string ⟨x.toArray⟩) := (hown.cellAt (n * 2 + 1) (by omega)).trans (pcells_last _ n _ hn)
              have hf : wr.frozen? ⟨g, n * 2 + 1, none⟩ = false := hown.frozenAt _
              have hst := hown.stored (n * 2 + 1) (.string ⟨(join x (c :: t)).toArray⟩)
              rw [pcells_set _ n _ (by rw [setLast_length]; exact hn), setLast_setLast _ n _ _ hn] at hst
              have Hst := Lib.hid hst
              have Hj := Lib.hid (by rw [Hrow.out, hx] : stepU S (k, p) = ⟨S.ls, join x (c :: t)⟩)
              have Hn := Lib.hid hn
              have hnb : n ≤ 2097152 := by omega
              have hB2 := hB.setCell (p := ⟨g, n * 2 + 1, none⟩) hgB (.string ⟨(join x (c :: t)).toArray⟩)
              have Hne := Lib.hid hne
              clear hst hown hn hx hne hEL hel
              have hfin : ∃ S', RInv s.data.toList (j + 2) S' ∧ (wr.setCell ⟨g, n * 2 + 1, none⟩ (.string ⟨(join x (c :: t)).toArray⟩)).ownsRow w.heap.size 43 2 (.slice (some ⟨g, 0, none⟩) (n + 1) cap) (endL S').ls.length (pcells (endL S').ls) := by
                refine ⟨_, HR'.out, ?_⟩
                rw [Hj.out, endL_cons ⟨S.ls, join x (c :: t)⟩ Hne.out]
                dsimp only
                rw [setLast_length, Hn.out]
                exact Hst.out.1
              have Hfin := Lib.hid hfin
              clear hfin
              cases x with
              | nil =>
                have Hjj := Lib.hid (join_nil (c :: t))
                go_wp2_with fail
                refine (rend_any s k _ hs hk1).mono ?_
                rintro e w' ⟨rfl, rfl⟩
                rw [Hret.out.1, Hret.out.2.1, Hret.out.2.2]
                go_wp2_with fail
                refine (rtrim_any _ _ hes).mono ?_
                rintro e w' ⟨rfl, rfl⟩
                rw [Hext.out, Hq.out]
                go_wp2_with fail
                refine (rblank_any _ _).mono ?_
                rintro e w' ⟨rfl, rfl⟩
                rw [Hbk.out]
                go_wp2_with fail
                go_roundw
                case rel =>
                  obtain ⟨S', h1, h2⟩ := Hfin.out
                  refine ⟨j + 2, S', h1, by go_num, ?_, ?_⟩
                  · rw [Hjj.out] at h2; exact h2
                  · rw [Hjj.out] at hB2; exact hB2
                case measure => simp [intOf]; omega
              | cons c' t' =>
                have hb1 : t'.length ≤ 2097152 := by simp only [List.length_cons] at hSx; omega
                have hb2 : t.length ≤ 2097152 := by simp only [List.length_cons] at hql; omega
                have Hjj := Lib.hid (by rw [join_both _ _ (by simp) (by simp), str_cat] : (⟨(c' :: t').toArray⟩ : ByteArray) ++ (⟨[32].toArray⟩ : ByteArray) ++ (⟨(c :: t).toArray⟩ : ByteArray) = ⟨(join (c' :: t') (c :: t)).toArray⟩)
                go_wp2_with fail
                refine (rend_any s k _ hs hk1).mono ?_
                rintro e w' ⟨rfl, rfl⟩
                rw [Hret.out.1, Hret.out.2.1, Hret.out.2.2]
                go_wp2_with fail
                refine (rtrim_any _ _ hes).mono ?_
                rintro e w' ⟨rfl, rfl⟩
                rw [Hext.out, Hq.out]
                go_wp2_with fail
                refine (rblank_any _ _).mono ?_
                rintro e w' ⟨rfl, rfl⟩
                rw [Hbk.out]
                go_wp2_with fail
                go_roundw
                case rel =>
                  obtain ⟨S', h1, h2⟩ := Hfin.out
                  refine ⟨j + 2, S', h1, by go_num, ?_, ?_⟩
                  · rw [← Hjj.out] at h2; exact h2
                  · rw [← Hjj.out] at hB2; exact hB2
                case measure => simp [intOf]; omega
        · have HU := Lib.hid (HR.out.five Hk0.out Hx.out)
          rcases hor with ⟨b0, Hbl⟩ | b0
          all_goals
            go_wp2_with fail
            try
              refine (rblank_any _ _).mono ?_
              rintro e w' ⟨rfl, rfl⟩
              rw [Hbl.out]
              go_wp2_with fail
            refine (rend_any s k _ hs hk1).mono ?_
            rintro e w' ⟨rfl, rfl⟩
            rw [Hret.out.1, Hret.out.2.1, Hret.out.2.2]
            go_wp2_with fail
            go_ret3
            refine ⟨_, by rw [HU.out.2.1, HU.out.2.2]; rfl, ?_, hB⟩
            rw [HU.out.1]; exact World.ownsRow_nil _ _ _ _
        · have HU := Lib.hid (HR.out.six Hk0.out (by rw [hll]; exact hlt) Hx.out)
          rcases hor with ⟨b0, Hbl⟩ | b0
          all_goals
            go_wp2_with fail
            try
              refine (rblank_any _ _).mono ?_
              rintro e w' ⟨rfl, rfl⟩
              rw [Hbl.out]
              go_wp2_with fail
            refine (rend_any s k _ hs hk1).mono ?_
            rintro e w' ⟨rfl, rfl⟩
            rw [Hret.out.1, Hret.out.2.1, Hret.out.2.2]
            go_wp2_with fail
            go_ret3
            refine ⟨_, by rw [HU.out.2.1, HU.out.2.2.1, HU.out.2.2.2]; rfl, ?_, hB⟩
            rw [HU.out.1]; exact World.ownsRow_nil _ _ _ _
    · have HU := Lib.hid (HR.out.done (by omega))
      go_wp2_with fail
      go_ret3
      refine ⟨_, by rw [HU.out.2.1, HU.out.2.2]; rfl, ?_, hB⟩
      rw [HU.out.1]; exact Ho.out
end Lx
end Go.Proofs.YtjbjaofbdbkjaaaDoor
