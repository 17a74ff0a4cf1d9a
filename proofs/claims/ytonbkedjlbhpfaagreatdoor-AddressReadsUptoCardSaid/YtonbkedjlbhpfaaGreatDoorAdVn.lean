/- Contract of the reference's reader's content (dialtoneref02), whatever error is noted already. A text has at most 2^21 bytes. -/
import Derived.Test.YtonbkedjlbhpfaaGreatDoorAdVb
namespace Go.Proofs.YtonbkedjlbhpfaaGreatDoor
namespace Ad
open Go.RowKit Lx

theorem rfail_any (b i p q : Nat) (s : ByteArray) (e x : Int) (w : World) (R : Rdr b s i p e w) :
    Calls Tryz.prog 150 #[.pointer (some ⟨b, 0, none⟩), .int .i64 q, .int .u8 x] w (FlP b s i (if e = 0 then q else p) (if e = 0 then x else e) w) := by
  by_cases he : e = 0
  · subst he
    rw [if_pos rfl, if_pos rfl]
    exact rfail_yes b i p q s x w R
  · rw [if_neg he, if_neg he]
    exact rfail_no b i p q s e x w R he
/-- Behind content: the word's value, or the first byte that cannot stand there. -/
def RdC (cls : Int) (b : Nat) (s : ByteArray) (i te p : Nat) (e : Int) (w : World) (en : Ending) (w' : World) : Prop :=
  ∃ t i' p' e', en = .returned (.string (Txt t)) ∧ Rdr b s i' p' e' w' ∧ Kp [b] w w' ∧
    (if (wrdR cls (slc s.data.toList i te)).2 < te - i then t = [] ∧ i' = i ∧ p' = (if e = 0 then i + (wrdR cls (slc s.data.toList i te)).2 else p) ∧ e' = (if e = 0 then 5 else e)
     else t = (wrdR cls (slc s.data.toList i te)).1 ∧ i' = te ∧ p' = p ∧ e' = e)
set_option maxRecDepth 100000 in
set_option maxHeartbeats 16000000 in
theorem rcontent_any (cls : Int) (b i p te : Nat) (s : ByteArray) (e : Int) (w : World) (R : Rdr b s i p e w) (hite : i ≤ te) (hte : te ≤ s.size) (hs : s.size ≤ 2097152) :
    Calls Tryz.prog 149 #[.pointer (some ⟨b, 0, none⟩), .int .i64 te, .int .i64 cls] w (RdC cls b s i te p e w) := by
  obtain ⟨i0, hi0, hz0, hz1, hz2⟩ := info_parts infoByte
  have hbw := R.lt
  have HRd := Lib.hid R
  have c1 := R.c1
  have HEs := Lib.hid (fun (j : Nat) (hj : j < te) wz => (by
    have h := rescape_any (s.extract 0 te) j wz (by simp; omega) (by simp; omega)
    have e1 : (s.extract 0 te).data.toList.drop j = slc s.data.toList j te := by rw [slc_data s 0 te]; unfold slc; simp
    rw [e1] at h
    exact h : Calls Tryz.prog 239 #[.string (s.extract 0 te), .int .i64 j] wz (fun r w' => r = .returned (.int .i64 (escV (slc s.data.toList j te))) ∧ Below wz.heap.size wz w')))
  clear R
  go_enter Tryz.func149, Tryz.ntmps149
  go_wp2_with fail
  go_loopg [7, 8, 9] (te - i + 1) (fun gg v k _ wr => ∃ (j : Nat) (acc : List UInt8), i ≤ j ∧ j ≤ te ∧ te - j < gg ∧ acc.length ≤ j - i ∧ k = .int .i64 j ∧ acc ++ (wrdR cls (slc s.data.toList j te)).1 = (wrdR cls (slc s.data.toList i te)).1 ∧ (j - i) + (wrdR cls (slc s.data.toList j te)).2 = (wrdR cls (slc s.data.toList i te)).2 ∧ wr.ownsRow w.heap.size 5 1 v acc.length (Lib.byteCells acc) ∧ Kp [] w wr)
  case atStart => exact ⟨i, [], by omega, by omega, by omega, by simp, rfl, rfl, by omega, World.ownsRow_nil _ _ _ _, Kp.refl _ _⟩
  case round =>
    obtain ⟨j, acc, hij, hjte, hg, ha, rfl, hu, hn, hown, hK⟩ := hrel
    have Hu := Lib.hid hu
    have Hn := Lib.hid hn
    have Ho := Lib.hid hown
    have HK := Lib.hid hK
    have hsz := hK.size
    have Rr := Lib.hid (HRd.out.kp hK (by simp))
    have r0 := Rr.out.c0
    clear hu hn hown hK c1
    by_cases hjt : j < te
    · have hjs : j < s.size := by omega
      have hjs1 : (j : Int) < (s.size : Int) := by omega
      have hstep := slc_step s j te hjt hte
      obtain ⟨x, hx⟩ : ∃ x : UInt8, s[j] = x := ⟨_, rfl⟩
      rw [hx] at hstep
      have HSt := Lib.hid hstep
      have HEj := Lib.hid (fun wz => HEs.out j hjt wz)
      have hxlt := x.toNat_lt
      have hw8 : IntKind.u8.wrap (x.toNat : Int) = (x.toNat : Int) := IntWalk.u8_in _ (by omega)
      have hsx : (s[j].toNat : Int) = (x.toNat : Int) := by rw [hx]
      have hte64 : (te : Int) ≤ (s.size : Int) := by omega
      clear hstep hx
      by_cases h37 : x.toNat = 37
      · have b37 : ((x.toNat : Int) == 37) = true := by rw [h37]; rfl
        obtain ⟨V, hV⟩ : ∃ V, escV (slc s.data.toList j te) = V := ⟨_, rfl⟩
        have hVb := escV_bd (slc s.data.toList j te)
        rw [hV] at hVb HEj
        rw [HSt.out] at hV
        have HVh := Lib.hid hV
        have H37 := Lib.hid h37
        clear hV h37
        by_cases hneg : V < 0
        · have HN0 := Lib.hid (by have h := Hn.out; rw [HSt.out, wrdR_bad cls x _ H37.out (.inl (by rw [HVh.out]; exact hneg))] at h; dsimp only at h; omega : (wrdR cls (slc s.data.toList i te)).2 = j - i)
          go_wp2_with fail
          refine (HEj.out _).mono ?_
          rintro e' w2 ⟨rfl, hB2⟩
          have K2 := Lib.hid (HK.out.below hB2)
          clear hB2 r0
          go_wp2_with fail
          refine (rfail_any b i p j s e 5 _ (HRd.out.kp K2.out (by simp))).mono ?_
          rintro e' w5 ⟨rfl, hR5, hK5⟩
          have R5 := Lib.hid hR5
          have K5 := Lib.hid ((K2.out.mono (Y := [b]) (by simp)).trans hK5)
          clear hR5 hK5
          go_wp2_with fail
          go_ret
          exact ⟨[], i, _, _, rfl, R5.out, K5.out, by rw [if_pos (by have := HN0.out; omega), HN0.out, show i + (j - i) = j from by omega]; exact ⟨rfl, rfl, rfl, rfl⟩⟩
        · have hwV : IntKind.u8.wrap V = V := IntWalk.u8_in _ (by omega)
          obtain ⟨ct, hct⟩ : ∃ C, ctlI V = C := ⟨_, rfl⟩
          have HCt := Lib.hid (fun wz => (by have h := rctl_any V wz; rw [hct] at h; exact h : Calls Tryz.prog 218 #[.int .u8 V] wz (Ret (.bool ct) wz)))
          have Hct := Lib.hid hct
          clear hct
          cases ct
          · have hE := wrdR_esc cls x (slc s.data.toList (j + 1) te) (by rw [HVh.out]; omega) (by rw [HVh.out]; exact Hct.out)
            rw [HVh.out, show (slc s.data.toList (j + 1) te).drop 2 = slc s.data.toList (j + 3) te from by unfold slc; rw [List.drop_drop]] at hE
            have hle := wrd_le cls (slc s.data.toList j te)
            have hsl := slc_len s.data.toList j te (by rw [len_list]; exact hte)
            rw [HSt.out, hE] at hle
            rw [HSt.out] at hsl
            have hj3 : j + 3 ≤ te := by dsimp only at hle; omega
            obtain ⟨y, hy⟩ : ∃ y : UInt8, V.toNat.toUInt8 = y := ⟨_, rfl⟩
            have Hy := Lib.hid (by rw [← hy]; show ((V.toNat.toUInt8).toNat : Int) = V; rw [Nat.toUInt8_eq, UInt8.toNat_ofNat']; omega : (y.toNat : Int) = V)
            rw [hy] at hE
            have HEq := Lib.hid hE
            clear hE hle hsl hy
            go_wp2_with fail
            refine (HEj.out _).mono ?_
            rintro e' w2 ⟨rfl, hB2⟩
            have K2 := Lib.hid (HK.out.below hB2)
            have O2 := Lib.hid (own_kp1b Ho.out ((Kp.refl [] wr).below hB2) (by simp))
            have hsz2 := K2.out.size
            clear hB2 r0
            go_wp2_with fail
            refine (HCt.out _).mono ?_
            rintro e' w' ⟨rfl, rfl⟩
            go_wp2_with (at_builtin; refine wpList_append_own _ rfl _ _ 113 rfl w.heap.size 5 i0 (.int .u8 0) 1 1 Tryz.underlying113 hi0 hz0 hz1 hz2 rfl (by decide) _ _ _ rfl (O2.out.alloc _) ⟨_, 0, none⟩ 1 1 [.int .u8 (V)] rfl rfl (cell_one_new _ _ _) (by simp [Value.oneCell']) ?c3 ?c4 ?c5 ?_)
            case c3 => unfold maxLen; omega
            case c4 => omega
            case c5 => simp; omega
            intro v4 w4 hown' hgrow _
            have HO4 := Lib.hid (by simpa [Lib.byteCells, Hy.out] using hown' : w4.ownsRow w.heap.size 5 1 v4 (acc ++ [y]).length (Lib.byteCells (acc ++ [y])))
            have K4 := Lib.hid ((K2.out.alloc (.cells #[.int .u8 (V)] 5)).grown hgrow (fun k' hk' => .inr (O2.out.lt k' hk').1))
            clear hown' hgrow
            go_wp2_with fail
            go_roundg (te - j)
            case measure => omega
            case rel => exact ⟨j + 3, acc ++ [y], by omega, by omega, by omega, by simp; omega, by go_num, by rw [← Hu.out, HSt.out, HEq.out]; simp, by rw [← Hn.out, HSt.out, HEq.out]; dsimp only; omega, HO4.out, K4.out⟩
          · have HN0 := Lib.hid (by have h := Hn.out; rw [HSt.out, wrdR_bad cls x _ H37.out (.inr (by rw [HVh.out]; exact Hct.out))] at h; dsimp only at h; omega : (wrdR cls (slc s.data.toList i te)).2 = j - i)
            go_wp2_with fail
            refine (HEj.out _).mono ?_
            rintro e' w2 ⟨rfl, hB2⟩
            have K2 := Lib.hid (HK.out.below hB2)
            clear hB2 r0
            go_wp2_with fail
            refine (HCt.out _).mono ?_
            rintro e' w' ⟨rfl, rfl⟩
            go_wp2_with fail
            refine (rfail_any b i p j s e 5 _ (HRd.out.kp K2.out (by simp))).mono ?_
            rintro e' w5 ⟨rfl, hR5, hK5⟩
            have R5 := Lib.hid hR5
            have K5 := Lib.hid ((K2.out.mono (Y := [b]) (by simp)).trans hK5)
            clear hR5 hK5
            go_wp2_with fail
            go_ret
            exact ⟨[], i, _, _, rfl, R5.out, K5.out, by rw [if_pos (by have := HN0.out; omega), HN0.out, show i + (j - i) = j from by omega]; exact ⟨rfl, rfl, rfl, rfl⟩⟩
      · have b37 : ((x.toNat : Int) == 37) = false := by rw [beq_eq_false_iff_ne]; omega
        obtain ⟨ic, hic⟩ : ∃ C, inC cls (x.toNat : Int) = C := ⟨_, rfl⟩
        have HIc := Lib.hid (fun wz => (by have h := rin_all cls (x.toNat : Int) wz; rw [hic] at h; exact h : Calls Tryz.prog 240 #[.int .u8 (x.toNat : Int), .int .i64 cls] wz (Ret (.bool ic) wz)))
        have Hic := Lib.hid hic
        have H37 := Lib.hid h37
        clear hic h37
        cases ic
        · have HN0 := Lib.hid (by have h := Hn.out; rw [HSt.out, wrdR_stop cls x _ H37.out Hic.out] at h; dsimp only at h; omega : (wrdR cls (slc s.data.toList i te)).2 = j - i)
          go_wp2_with fail
          refine (HIc.out _).mono ?_
          rintro e' w2 ⟨rfl, hw2⟩
          have K2 := Lib.hid (show Kp [] w w2 from by rw [← hw2]; exact HK.out)
          clear r0
          obtain rfl := hw2
          go_wp2_with fail
          refine (rfail_any b i p j s e 5 _ (HRd.out.kp K2.out (by simp))).mono ?_
          rintro e' w5 ⟨rfl, hR5, hK5⟩
          have R5 := Lib.hid hR5
          have K5 := Lib.hid ((K2.out.mono (Y := [b]) (by simp)).trans hK5)
          clear hR5 hK5
          go_wp2_with fail
          go_ret
          exact ⟨[], i, _, _, rfl, R5.out, K5.out, by rw [if_pos (by have := HN0.out; omega), HN0.out, show i + (j - i) = j from by omega]; exact ⟨rfl, rfl, rfl, rfl⟩⟩
        · have HEq := Lib.hid (wrdR_plain cls x (slc s.data.toList (j + 1) te) H37.out Hic.out)
          go_wp2_with fail
          refine (HIc.out _).mono ?_
          rintro e' w2 ⟨rfl, hw2⟩
          obtain rfl := hw2
          have K2 := HK
          have O2 := Ho
          go_wp2_with (at_builtin; refine wpList_append_own _ rfl _ _ 113 rfl w.heap.size 5 i0 (.int .u8 0) 1 1 Tryz.underlying113 hi0 hz0 hz1 hz2 rfl (by decide) _ _ _ rfl (O2.out.alloc _) ⟨_, 0, none⟩ 1 1 [.int .u8 ((x.toNat : Int))] rfl rfl (cell_one_new _ _ _) (by simp [Value.oneCell']) ?c3 ?c4 ?c5 ?_)
          case c3 => unfold maxLen; omega
          case c4 => omega
          case c5 => simp; omega
          intro v4 w4 hown' hgrow _
          have HO4 := Lib.hid (by simpa [Lib.byteCells] using hown' : w4.ownsRow w.heap.size 5 1 v4 (acc ++ [x]).length (Lib.byteCells (acc ++ [x])))
          have K4 := Lib.hid ((K2.out.alloc (.cells #[.int .u8 ((x.toNat : Int))] 5)).grown hgrow (fun k' hk' => .inr (O2.out.lt k' hk').1))
          clear hown' hgrow
          go_wp2_with fail
          go_roundg (te - j)
          case measure => omega
          case rel => exact ⟨j + 1, acc ++ [x], by omega, by omega, by omega, by simp; omega, by go_num, by rw [← Hu.out, HSt.out, HEq.out]; simp, by rw [← Hn.out, HSt.out, HEq.out]; dsimp only; omega, HO4.out, K4.out⟩
    · have hj : j = te := by omega
      have hnil := slc_nil s.data.toList j te (by omega)
      have HU2 := Lib.hid (by have h := Hu.out; rw [hnil] at h; simpa [wrdR] using h : acc = (wrdR cls (slc s.data.toList i te)).1)
      have HN2 := Lib.hid (by have h := Hn.out; rw [hnil, hj] at h; simp [wrdR] at h; omega : te - i = (wrdR cls (slc s.data.toList i te)).2)
      have c1 := Rr.out.c1
      have f1 := Rr.out.fr 1
      have R6 := Lib.hid (Rr.out.at1 te)
      have K6 := Lib.hid ((HK.out.mono (Y := [b]) (by simp)).setCell (p := ⟨b, 1, none⟩) (.inl (by simp)) (.int .i64 te))
      have hOw := own_kp1b Ho.out ((Kp.refl [b] wr).setCell (p := ⟨b, 1, none⟩) (.inl (by simp)) (.int .i64 te)) (by simp; omega)
      have hcv := conv_row hOw
      obtain ⟨vA, vC, hv⟩ := own_form1 Ho.out
      subst hv
      clear hOw hnil hj
      go_wp2_with fail
      go_ret
      exact ⟨acc, te, p, e, rfl, R6.out, K6.out, by rw [if_neg (by rw [← HN2.out]; omega)]; exact ⟨HU2.out, rfl, rfl, rfl⟩⟩
end Ad
end Go.Proofs.YtonbkedjlbhpfaaGreatDoor
