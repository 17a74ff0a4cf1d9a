/- Contract of the reference's Canon and Many (dialtoneref03). A text has at most 2^20 bytes. -/
import Derived.Test.YtonbkedjlbhpfaaGreatDoorHeN
namespace Go.Proofs.YtonbkedjlbhpfaaGreatDoor
namespace Ad
open Go.RowKit Lx

theorem spr_at : ∀ j, j < 7 → ∃ z, specL[j]? = some z ∧ z.length ≤ 20 ∧ (#[.string ⟨#[67, 97, 108, 108, 45, 73, 68]⟩, .string ⟨#[67, 83, 101, 113]⟩, .string ⟨#[77, 73, 77, 69, 45, 86, 101, 114, 115, 105, 111, 110]⟩, .string ⟨#[77, 105, 110, 45, 83, 69]⟩, .string ⟨#[82, 65, 99, 107]⟩, .string ⟨#[82, 83, 101, 113]⟩, .string ⟨#[87, 87, 87, 45, 65, 117, 116, 104, 101, 110, 116, 105, 99, 97, 116, 101]⟩] : Array Value)[j]? = some (.string (Txt z))
  | 0, _ => ⟨_, rfl, by decide, rfl⟩
  | 1, _ => ⟨_, rfl, by decide, rfl⟩
  | 2, _ => ⟨_, rfl, by decide, rfl⟩
  | 3, _ => ⟨_, rfl, by decide, rfl⟩
  | 4, _ => ⟨_, rfl, by decide, rfl⟩
  | 5, _ => ⟨_, rfl, by decide, rfl⟩
  | 6, _ => ⟨_, rfl, by decide, rfl⟩
  | n + 7, h => absurd h (by omega)
theorem mpAt_old (s : ByteArray) (T : List UInt8) (j k : Nat) (h : k < s.size) (hk : k < j) : mpAt s T j k h = (T.getD k 0).toNat := by unfold mpAt; rw [if_pos hk]
theorem short_ne (p : List UInt8 × List UInt8) (h : p ∈ shortL) : p.2 ≠ [] ∧ p.1.length = 1 := by
  have h0 : (shortL.all fun p => decide (p.2 ≠ [] ∧ p.1.length = 1)) = true := by decide +kernel
  exact of_decide_eq_true (List.all_eq_true.1 h0 p h)
theorem short_one (L : List UInt8) (h : L.length ≠ 1) : shortL.find? (fun p => p.1 == L) = none := by
  rw [List.find?_eq_none]
  intro p hp hh
  rw [beq_iff_eq] at hh
  exact h (by rw [← hh]; exact (short_ne p hp).2)
set_option maxRecDepth 100000 in
set_option maxHeartbeats 8000000 in
theorem rcanon_any (s : ByteArray) (w : World) (hs : s.size ≤ 2097152) :
    Calls Tryz.prog 27 #[.string s] w (TxE (canR s.data.toList) w) := by
  have HTok := Lib.hid (fun wz => (by have h := rtoken_any s wz (by unfold maxLen; omega); rw [tokenB_eq] at h; exact h : Calls Tryz.prog 90 #[.string s] wz (Ret (.bool (tokB s.data.toList)) wz)))
  have hlen := len_list s
  cases hT : tokB s.data.toList
  · have HF := Lib.hid (by unfold canR canB; rw [hT]; rfl : canR s.data.toList = ([], 5))
    rw [hT] at HTok
    clear hT hlen
    go_enter Tryz.func27, Tryz.ntmps27
    go_wp2_with fail
    refine (HTok.out _).mono ?_
    rintro e w1 ⟨rfl, hw⟩
    obtain rfl := hw
    go_wp2_with fail
    go_ret2
    unfold TxE
    rw [HF.out]
    exact ⟨rfl, Kp.refl _ _⟩
  rw [hT] at HTok
  by_cases h64 : s.size ≤ 64
  case neg =>
    have HF := Lib.hid (by unfold canR canB; rw [hT, hlen, decide_eq_false h64]; rfl : canR s.data.toList = ([], 5))
    have b64 : (64 : Int) < (s.size : Int) := by omega
    clear hT hlen h64
    go_enter Tryz.func27, Tryz.ntmps27
    go_wp2_with fail
    refine (HTok.out _).mono ?_
    rintro e w1 ⟨rfl, hw⟩
    obtain rfl := hw
    go_wp2_with fail
    go_ret2
    unfold TxE
    rw [HF.out]
    exact ⟨rfl, Kp.refl _ _⟩
  have b64 : ¬ (64 : Int) < (s.size : Int) := by omega
  obtain ⟨L, hL⟩ : ∃ L, lowL s.data.toList = L := ⟨_, rfl⟩
  have hLl : L.length = s.size := by rw [← hL, lowL_length, hlen]
  obtain ⟨R, hR⟩ : ∃ R, shortL.find? (fun p => p.1 == L) = R := ⟨_, rfl⟩
  obtain ⟨S, hS⟩ : ∃ S, specL.find? (fun z => lowL z == L) = S := ⟨_, rfl⟩
  have HV := Lib.hid (by unfold canR canB; rw [hT, hlen, decide_eq_true h64]; unfold canN; rw [hL, hR, hS]; rfl : canR s.data.toList = (canO R S L, 0))
  have HS := Lib.hid hS
  have HLo := Lib.hid (fun wz => (by have h := rLower_any s wz (by omega); rw [hL] at h; exact h : Calls Tryz.prog 64 #[.string s] wz (RetNew L wz)))
  have HSp := Lib.hid (fun (z : List UInt8) wz (hz : z.length ≤ 20) => (by have h := rLower_any (Txt z) wz (by rw [txt_size]; omega); rw [txt_list] at h; exact h : Calls Tryz.prog 64 #[.string (Txt z)] wz (RetNew (lowL z) wz)))
  have HLl := Lib.hid hLl
  have hcase : (∃ c, L = [c] ∧ s.size = 1 ∧ ((∃ t, shoF c = t ∧ t ≠ [] ∧ canO R S L = t) ∨ (R = none ∧ shoF c = []))) ∨ (s.size ≠ 1 ∧ R = none) := by
    by_cases h1 : s.size = 1
    · left
      have hl1 : L.length = 1 := by omega
      obtain ⟨c, rfl⟩ : ∃ c, L = [c] := by
        match L, hl1 with
        | [c], _ => exact ⟨c, rfl⟩
      refine ⟨c, rfl, h1, ?_⟩
      cases R with
      | none => right; exact ⟨rfl, by unfold shoF; rw [hR]; rfl⟩
      | some p => left; exact ⟨p.2, by unfold shoF; rw [hR]; rfl, (short_ne p (List.mem_of_find?_eq_some hR)).1, rfl⟩
    · right
      exact ⟨h1, by rw [← hR]; exact short_one L (by omega)⟩
  clear hT h64 hL hR hS hlen hLl
  have Hcase := Lib.hid hcase
  clear hcase
  go_enter Tryz.func27, Tryz.ntmps27
  go_wp2_with fail
  refine (HTok.out _).mono ?_
  rintro e w1 ⟨rfl, hw⟩
  obtain rfl := hw
  go_wp2_with fail
  refine (HLo.out _).mono ?_
  rintro e w1 ⟨rfl, hB1⟩
  have K1 := Lib.hid ((Kp.refl [] w).below hB1)
  clear hB1
  rcases Hcase.out with ⟨c, rfl, h1, ⟨t, ht, htn, hv⟩ | ⟨rfl, ht⟩⟩ | ⟨h1, rfl⟩
  · have b1 : ((s.size : Int) == 1) = true := by rw [h1]; rfl
    have bz : 0 < (ByteArray.mk [c].toArray).size := Nat.zero_lt_one
    have HSh := Lib.hid (fun wz => (by have h := rshort_any c wz; rw [ht] at h; exact h : Calls Tryz.prog 91 #[.int .u8 (((ByteArray.mk [c].toArray)[0]'bz).toNat : Int)] wz (TxK t wz)))
    have bn := emp_no t htn
    have HF := Lib.hid (by rw [HV.out, hv] : canR s.data.toList = (t, 0))
    clear h1 ht htn hv
    go_wp2_with fail
    refine (HSh.out _).mono ?_
    rintro e w2 ⟨rfl, hK2⟩
    have K2 := Lib.hid (K1.out.trans hK2)
    clear hK2
    go_wp2_with fail
    refine (HSh.out _).mono ?_
    rintro e w3 ⟨rfl, hK3⟩
    have K3 := Lib.hid (K2.out.trans hK3)
    clear hK3
    go_wp2_with fail
    go_ret2
    unfold TxE
    rw [HF.out]
    exact ⟨rfl, K3.out⟩
  · have b1 : ((s.size : Int) == 1) = true := by rw [h1]; rfl
    have bz : 0 < (ByteArray.mk [c].toArray).size := Nat.zero_lt_one
    have HSh := Lib.hid (fun wz => (by have h := rshort_any c wz; rw [ht] at h; exact h : Calls Tryz.prog 91 #[.int .u8 (((ByteArray.mk [c].toArray)[0]'bz).toNat : Int)] wz (TxK [] wz)))
    have bn : ((Txt []).toList == ([] : List UInt8)) = true := by rw [Lib.toList_data]; rfl
    clear h1 ht
    go_wp2_with fail
    refine (HSh.out _).mono ?_
    rintro e wz ⟨rfl, hK2⟩
    have KZ := Lib.hid (K1.out.trans hK2)
    clear hK2
    obtain ⟨L, hL⟩ : ∃ L, [c] = L := ⟨_, rfl⟩
    rw [show ((ByteArray.mk [c].toArray)[0]'bz).toNat = c.toNat from rfl, show (ByteArray.mk [c].toArray) = Txt [c] from rfl, hL]
    have HV1 := Lib.hid (by rw [← hL]; exact HV.out : canR s.data.toList = (canO none S L, 0))
    have HS1 := Lib.hid (by rw [← hL]; exact HS.out : specL.find? (fun z => lowL z == L) = S)
    have HL1 := Lib.hid (by rw [← hL]; exact HLl.out : L.length = s.size)
    clear HSh bz hL HV HS HLl HLo Hcase K1
    obtain ⟨w3, hw3⟩ : ∃ x, wz.alloc (.cells #[.string ⟨#[67, 97, 108, 108, 45, 73, 68]⟩, .string ⟨#[67, 83, 101, 113]⟩, .string ⟨#[77, 73, 77, 69, 45, 86, 101, 114, 115, 105, 111, 110]⟩, .string ⟨#[77, 105, 110, 45, 83, 69]⟩, .string ⟨#[82, 65, 99, 107]⟩, .string ⟨#[82, 83, 101, 113]⟩, .string ⟨#[87, 87, 87, 45, 65, 117, 116, 104, 101, 110, 116, 105, 99, 97, 116, 101]⟩] 9) = x := ⟨_, rfl⟩
    have K3 := Lib.hid (show Kp [] w w3 from by rw [← hw3]; exact KZ.out.alloc _)
    have B3 := Lib.hid (show Blk w3 wz.heap.size 9 #[.string ⟨#[67, 97, 108, 108, 45, 73, 68]⟩, .string ⟨#[67, 83, 101, 113]⟩, .string ⟨#[77, 73, 77, 69, 45, 86, 101, 114, 115, 105, 111, 110]⟩, .string ⟨#[77, 105, 110, 45, 83, 69]⟩, .string ⟨#[82, 65, 99, 107]⟩, .string ⟨#[82, 83, 101, 113]⟩, .string ⟨#[87, 87, 87, 45, 65, 117, 116, 104, 101, 110, 116, 105, 99, 97, 116, 101]⟩] from by rw [← hw3]; exact Blk.new _ _ _)
    obtain ⟨g, hg⟩ : ∃ g, wz.heap.size = g := ⟨_, rfl⟩
    rw [hg] at B3
    go_upto_region 7 with fail
    try rw [hw3]
    try rw [hg]
    clear hw3 hg
    go_wp2_with fail
    go_loopw [6] (fun i wr => ∃ k : Nat, k ≤ 7 ∧ i = .int .i64 k ∧ (specL.drop k).find? (fun z => lowL z == L) = S ∧ Kp [] w3 wr) (fun i _ => 7 - (intOf i).toNat)
    case atStart => exact ⟨0, by omega, rfl, by rw [List.drop_zero]; exact HS1.out, Kp.refl _ _⟩
    case round =>
      obtain ⟨k, hk, rfl, hf2, hK2⟩ := hrel
      have Hf2 := Lib.hid hf2
      have HK2 := Lib.hid (K3.out.trans hK2)
      have HK3 := Lib.hid hK2
      have B4 := Lib.hid (B3.out.kp hK2 (by simp))
      clear hf2 hK2
      by_cases hlt2 : k < 7
      · obtain ⟨z, hx, hzl, hex⟩ := spr_at k hlt2
        have c0 := (B4.out.cell k).trans hex
        have hst := find_step (fun z : List UInt8 => lowL z == L) specL k _ hx
        rw [Hf2.out] at hst
        try dsimp only at hst
        have HSz := Lib.hid (fun wz => HSp.out z wz hzl)
        clear hex hx
        cases hb : (lowL z == L)
        · have bE : ((Txt (lowL z)).toList == (Txt L).toList) = false := (txt_eq_iff (lowL z) L).trans hb
          rw [hb, if_neg (by decide)] at hst
          have Hst := Lib.hid hst.symm
          clear hst hb
          go_wp2_with fail
          refine (HSz.out _).mono ?_
          rintro e w4 ⟨rfl, hB4⟩
          have K4 := Lib.hid (HK3.out.below hB4)
          rw [show (⟨(lowL z).toArray⟩ : ByteArray) = Txt (lowL z) from rfl]
          clear hB4
          go_wp2_with fail
          go_roundw
          case rel => exact ⟨k + 1, by omega, by go_num, Hst.out, K4.out⟩
          case measure => simp [intOf]; omega
        · have bE : ((Txt (lowL z)).toList == (Txt L).toList) = true := (txt_eq_iff (lowL z) L).trans hb
          rw [hb, if_pos rfl] at hst
          have HF := Lib.hid (by rw [HV1.out, hst]; rfl : canR s.data.toList = (z, 0))
          clear hst hb
          go_wp2_with fail
          refine (HSz.out _).mono ?_
          rintro e w4 ⟨rfl, hB4⟩
          have K4 := Lib.hid (HK2.out.below hB4)
          have c1 := ((B4.out.below hB4 B4.out.lt).cell k).trans ((B4.out.cell k).symm.trans c0)
          rw [show (⟨(lowL z).toArray⟩ : ByteArray) = Txt (lowL z) from rfl]
          clear hB4
          go_wp2_with fail
          go_ret2
          unfold TxE
          rw [HF.out]
          exact ⟨rfl, K4.out⟩
      · have HF := Lib.hid (by
          have h := Hf2.out
          rw [show k = 7 from by omega] at h
          rw [HV1.out, ← h]; rfl : canR s.data.toList = (capF true L, 0))
        have hLs : (Txt L).size = L.length := txt_size L
        have hconv := run_bytes_of_string (P := Tryz.prog) wr 9 113 5 (Txt L) Tryz.underlying9 Tryz.underlying113 Tryz.underlying5
        obtain ⟨cap, hcap⟩ : ∃ cap, grownCap wr (Txt L).size 0 5 = cap := ⟨_, rfl⟩
        obtain ⟨T, hT⟩ : ∃ T, capF true L = T := ⟨_, rfl⟩
        have hTl : T.length = (Txt L).size := by rw [← hT, capF_len, hLs]
        have HT0 := Lib.hid (show T.drop 0 = capF true ((Txt L).data.toList.drop 0) from by rw [List.drop_zero, List.drop_zero, txt_list]; exact hT.symm)
        have HTl := Lib.hid hTl
        have HS9 := Lib.hid (MpR.start (Txt L) T cap wr)
        rw [hT] at HF
        rw [hcap] at hconv
        obtain ⟨C, hC⟩ : ∃ C, bytesRow (Txt L) cap = C := ⟨_, rfl⟩
        rw [hC] at hconv
        have HSt := Lib.hid (by have := HS9.out; rw [hC] at this; exact this : MpR (Txt L) T wr.heap.size 0 (wr.alloc (.cells C 5 (C.size, C.size + 1))))
        have hsz := HK2.out.size
        have b64s : (Txt L).size ≤ 64 := by have := HL1.out; omega
        obtain ⟨X, hX⟩ : ∃ X, Txt L = X := ⟨_, rfl⟩
        rw [hX] at hconv HT0 HTl HSt b64s ⊢
        clear hcap hC hT hTl HS9 hLs hX
        obtain ⟨B, hB⟩ : ∃ B, wr.heap.size = B := ⟨_, rfl⟩
        rw [hB] at HSt hsz
        have K9 := Lib.hid ((HK2.out.alloc (.cells C 5 (C.size, C.size + 1))))
        go_wp2_with fail
        go_loopw [8] (fun i ws => ∃ (j : Nat) (fl : Bool), j ≤ X.size ∧ i = .int .i64 j ∧ MpR X T B j ws ∧ Kp [] w ws ∧ T.drop j = capF fl (X.data.toList.drop j) ∧ (j = 0 → fl = true) ∧ (∀ m, j = m + 1 → fl = (((T.getD m 0).toNat : Int) == 45))) (fun i _ => X.size - (intOf i).toNat)
        case atStart => exact ⟨0, true, by omega, rfl, ⟨HSt.out.cell, HSt.out.soft⟩, K9.out.drew, HT0.out, fun _ => rfl, fun m hm => by omega⟩
        case round =>
          obtain ⟨j, fl, hj, rfl, hL, hK, hTj, hf0, hf1⟩ := hrel
          have HL := Lib.hid hL
          have HK := Lib.hid hK
          have HTj := Lib.hid hTj
          have Hf0 := Lib.hid hf0
          have Hf1 := Lib.hid hf1
          clear hL hTj hK hf0 hf1
          by_cases hlt : j < X.size
          · have hcj := HL.out.cell j hlt
            rw [mpAt_at] at hcj
            have hfj := HL.out.soft j hlt
            obtain ⟨st1, st2⟩ := capF_step fl X T j hlt HTj.out
            have Hst := Lib.hid (show ∀ m, j + 1 = m + 1 → ((((if fl then uprB X[j] else X[j]).toNat : Int)) == 45) = (((T.getD m 0).toNat : Int) == 45) from fun m hm => by
              obtain rfl : j = m := by omega
              rw [← st1])
            have Hst2 := Lib.hid st2
            have HP := Lib.hid (fun x he => HL.out.put hlt x he)
            have HQ := Lib.hid (show ((T.getD j 0).toNat = X[j].toNat) → MpR X T B (j + 1) wr from fun he => ⟨fun i hi => by
              by_cases hij : i = j
              · subst hij; rw [mpAt_new, he, HL.out.cell i hi, mpAt_at]
              · rw [mpAt_next X T j i hi hij]; exact HL.out.cell i hi, HL.out.soft⟩)
            have hlt2 := X[j].toNat_lt
            have hn := uprB_nat X[j]
            have HKs := Lib.hid (fun x => HK.out.setCell (p := ⟨B, j, none⟩) (.inr hsz) x)
            have Hst1 := Lib.hid (congrArg UInt8.toNat st1)
            have hfl : fl = false ∨ (fl = true ∧ ¬ 97 ≤ X[j].toNat) ∨ (fl = true ∧ 97 ≤ X[j].toNat ∧ ¬ X[j].toNat ≤ 122) ∨ (fl = true ∧ 97 ≤ X[j].toNat ∧ X[j].toNat ≤ 122) := by
              cases fl
              · exact .inl rfl
              · by_cases u1 : 97 ≤ X[j].toNat
                · by_cases u2 : X[j].toNat ≤ 122
                  · exact .inr (.inr (.inr ⟨rfl, u1, u2⟩))
                  · exact .inr (.inr (.inl ⟨rfl, u1, u2⟩))
                · exact .inr (.inl ⟨rfl, u1⟩)
            have hpos : ((j = 0 ∧ ((j : Int) == 0) = true ∧ fl = true) ∨ ∃ m : Nat, ((j : Int) == 0) = false ∧ (j : Int) - 1 = (m : Int) ∧ 0 ≤ (j : Int) - 1 ∧ (m : Int) < (X.size : Int) ∧ wr.cell? ⟨B, m, none⟩ = some (.int .u8 ((T.getD m 0).toNat : Int)) ∧ (((T.getD m 0).toNat : Int) == 45) = fl) := by
              rcases Nat.eq_zero_or_pos j with h0 | h0
              · exact .inl ⟨h0, by rw [h0]; rfl, Hf0.out h0⟩
              · refine .inr ⟨j - 1, by rw [beq_eq_false_iff_ne]; omega, by omega, by omega, by omega, ?_, ?_⟩
                · have := HL.out.cell (j - 1) (by omega)
                  rw [mpAt_old X T j (j - 1) (by omega) (by omega)] at this
                  exact this
                · exact (Hf1.out (j - 1) (by omega)).symm
            clear st1 st2
            rcases hfl with f0 | ⟨f0, u1⟩ | ⟨f0, u1, u2⟩ | ⟨f0, u1, u2⟩
            · subst f0
              have HQ1 := Lib.hid (HQ.out (by rw [Hst1.out]; rfl))
              clear hn
              rcases hpos with ⟨h0, z0, hx⟩ | ⟨m, z0, jm, j0, ms, cm, bm⟩
              · exact absurd hx (by decide)
              ·
                obtain ⟨v, hv⟩ : ∃ v : Int, ((T.getD m 0).toNat : Int) = v := ⟨_, rfl⟩
                rw [hv] at cm bm
                clear hv
                go_wp2_with fail
                go_roundw
                case rel => exact ⟨j + 1, _, by omega, by go_num, HQ1.out, HK.out, Hst2.out, fun h => by omega, Hst.out⟩
                case measure => simp [intOf]; omega
            · subst f0
              rw [if_neg (by omega)] at hn
              have HQ1 := Lib.hid (HQ.out (by rw [Hst1.out]; exact hn))
              obtain ⟨n, hc⟩ : ∃ n, X[j].toNat = n := ⟨_, rfl⟩
              rw [hc] at hcj u1
              clear hn hc hlt2
              rcases hpos with ⟨h0, z0, hx⟩ | ⟨m, z0, jm, j0, ms, cm, bm⟩
              ·
                clear h0 hx
                go_wp2_with fail
                go_roundw
                case rel => exact ⟨j + 1, _, by omega, by go_num, HQ1.out, HK.out, Hst2.out, fun h => by omega, Hst.out⟩
                case measure => simp [intOf]; omega
              ·
                obtain ⟨v, hv⟩ : ∃ v : Int, ((T.getD m 0).toNat : Int) = v := ⟨_, rfl⟩
                rw [hv] at cm bm
                clear hv
                go_wp2_with fail
                go_roundw
                case rel => exact ⟨j + 1, _, by omega, by go_num, HQ1.out, HK.out, Hst2.out, fun h => by omega, Hst.out⟩
                case measure => simp [intOf]; omega
            · subst f0
              rw [if_neg (by omega)] at hn
              have HQ1 := Lib.hid (HQ.out (by rw [Hst1.out]; exact hn))
              obtain ⟨n, hc⟩ : ∃ n, X[j].toNat = n := ⟨_, rfl⟩
              rw [hc] at hcj u1 u2
              clear hn hc hlt2
              rcases hpos with ⟨h0, z0, hx⟩ | ⟨m, z0, jm, j0, ms, cm, bm⟩
              ·
                clear h0 hx
                go_wp2_with fail
                go_roundw
                case rel => exact ⟨j + 1, _, by omega, by go_num, HQ1.out, HK.out, Hst2.out, fun h => by omega, Hst.out⟩
                case measure => simp [intOf]; omega
              ·
                obtain ⟨v, hv⟩ : ∃ v : Int, ((T.getD m 0).toNat : Int) = v := ⟨_, rfl⟩
                rw [hv] at cm bm
                clear hv
                go_wp2_with fail
                go_roundw
                case rel => exact ⟨j + 1, _, by omega, by go_num, HQ1.out, HK.out, Hst2.out, fun h => by omega, Hst.out⟩
                case measure => simp [intOf]; omega
            · subst f0
              rw [if_pos ⟨u1, u2⟩] at hn
              have HP0 := Lib.hid (Hst1.out.trans hn)
              obtain ⟨n, hc⟩ : ∃ n, X[j].toNat = n := ⟨_, rfl⟩
              rw [hc] at hcj u1 u2 HP0
              have HP1 := Lib.hid (HP.out ((n : Int) - 32) (by rw [HP0.out]; omega))
              have i1 : IntKind.u8.wrap ((n : Int) - 32) = (n : Int) - 32 := IntWalk.u8_in _ (by omega)
              clear hn hc hlt2
              rcases hpos with ⟨h0, z0, hx⟩ | ⟨m, z0, jm, j0, ms, cm, bm⟩
              ·
                clear h0 hx
                go_wp2_with fail
                go_roundw
                case rel => exact ⟨j + 1, _, by omega, by go_num, HP1.out, HKs.out _, Hst2.out, fun h => by omega, Hst.out⟩
                case measure => simp [intOf]; omega
              ·
                obtain ⟨v, hv⟩ : ∃ v : Int, ((T.getD m 0).toNat : Int) = v := ⟨_, rfl⟩
                rw [hv] at cm bm
                clear hv
                go_wp2_with fail
                go_roundw
                case rel => exact ⟨j + 1, _, by omega, by go_num, HP1.out, HKs.out _, Hst2.out, fun h => by omega, Hst.out⟩
                case measure => simp [intOf]; omega
          · have hbk := HL.out.back (cap := cap) (by omega) HTl.out
            go_wp2_with fail
            go_ret2
            unfold TxE
            rw [HF.out]
            exact ⟨rfl, HK.out⟩
  · have b1 : ((s.size : Int) == 1) = false := by rw [beq_eq_false_iff_ne]; omega
    obtain ⟨wz, rfl⟩ : ∃ z, z = w1 := ⟨_, rfl⟩
    have KZ := Lib.hid K1.out
    have HV1 := Lib.hid HV.out
    have HS1 := Lib.hid HS.out
    have HL1 := Lib.hid HLl.out
    rw [show (ByteArray.mk L.toArray) = Txt L from rfl]
    clear h1 HV HS HLl HLo Hcase K1
    obtain ⟨w3, hw3⟩ : ∃ x, wz.alloc (.cells #[.string ⟨#[67, 97, 108, 108, 45, 73, 68]⟩, .string ⟨#[67, 83, 101, 113]⟩, .string ⟨#[77, 73, 77, 69, 45, 86, 101, 114, 115, 105, 111, 110]⟩, .string ⟨#[77, 105, 110, 45, 83, 69]⟩, .string ⟨#[82, 65, 99, 107]⟩, .string ⟨#[82, 83, 101, 113]⟩, .string ⟨#[87, 87, 87, 45, 65, 117, 116, 104, 101, 110, 116, 105, 99, 97, 116, 101]⟩] 9) = x := ⟨_, rfl⟩
    have K3 := Lib.hid (show Kp [] w w3 from by rw [← hw3]; exact KZ.out.alloc _)
    have B3 := Lib.hid (show Blk w3 wz.heap.size 9 #[.string ⟨#[67, 97, 108, 108, 45, 73, 68]⟩, .string ⟨#[67, 83, 101, 113]⟩, .string ⟨#[77, 73, 77, 69, 45, 86, 101, 114, 115, 105, 111, 110]⟩, .string ⟨#[77, 105, 110, 45, 83, 69]⟩, .string ⟨#[82, 65, 99, 107]⟩, .string ⟨#[82, 83, 101, 113]⟩, .string ⟨#[87, 87, 87, 45, 65, 117, 116, 104, 101, 110, 116, 105, 99, 97, 116, 101]⟩] from by rw [← hw3]; exact Blk.new _ _ _)
    obtain ⟨g, hg⟩ : ∃ g, wz.heap.size = g := ⟨_, rfl⟩
    rw [hg] at B3
    go_upto_region 7 with fail
    try rw [hw3]
    try rw [hg]
    clear hw3 hg
    go_wp2_with fail
    go_loopw [6] (fun i wr => ∃ k : Nat, k ≤ 7 ∧ i = .int .i64 k ∧ (specL.drop k).find? (fun z => lowL z == L) = S ∧ Kp [] w3 wr) (fun i _ => 7 - (intOf i).toNat)
    case atStart => exact ⟨0, by omega, rfl, by rw [List.drop_zero]; exact HS1.out, Kp.refl _ _⟩
    case round =>
      obtain ⟨k, hk, rfl, hf2, hK2⟩ := hrel
      have Hf2 := Lib.hid hf2
      have HK2 := Lib.hid (K3.out.trans hK2)
      have HK3 := Lib.hid hK2
      have B4 := Lib.hid (B3.out.kp hK2 (by simp))
      clear hf2 hK2
      by_cases hlt2 : k < 7
      · obtain ⟨z, hx, hzl, hex⟩ := spr_at k hlt2
        have c0 := (B4.out.cell k).trans hex
        have hst := find_step (fun z : List UInt8 => lowL z == L) specL k _ hx
        rw [Hf2.out] at hst
        try dsimp only at hst
        have HSz := Lib.hid (fun wz => HSp.out z wz hzl)
        clear hex hx
        cases hb : (lowL z == L)
        · have bE : ((Txt (lowL z)).toList == (Txt L).toList) = false := (txt_eq_iff (lowL z) L).trans hb
          rw [hb, if_neg (by decide)] at hst
          have Hst := Lib.hid hst.symm
          clear hst hb
          go_wp2_with fail
          refine (HSz.out _).mono ?_
          rintro e w4 ⟨rfl, hB4⟩
          have K4 := Lib.hid (HK3.out.below hB4)
          rw [show (⟨(lowL z).toArray⟩ : ByteArray) = Txt (lowL z) from rfl]
          clear hB4
          go_wp2_with fail
          go_roundw
          case rel => exact ⟨k + 1, by omega, by go_num, Hst.out, K4.out⟩
          case measure => simp [intOf]; omega
        · have bE : ((Txt (lowL z)).toList == (Txt L).toList) = true := (txt_eq_iff (lowL z) L).trans hb
          rw [hb, if_pos rfl] at hst
          have HF := Lib.hid (by rw [HV1.out, hst]; rfl : canR s.data.toList = (z, 0))
          clear hst hb
          go_wp2_with fail
          refine (HSz.out _).mono ?_
          rintro e w4 ⟨rfl, hB4⟩
          have K4 := Lib.hid (HK2.out.below hB4)
          have c1 := ((B4.out.below hB4 B4.out.lt).cell k).trans ((B4.out.cell k).symm.trans c0)
          rw [show (⟨(lowL z).toArray⟩ : ByteArray) = Txt (lowL z) from rfl]
          clear hB4
          go_wp2_with fail
          go_ret2
          unfold TxE
          rw [HF.out]
          exact ⟨rfl, K4.out⟩
      · have HF := Lib.hid (by
          have h := Hf2.out
          rw [show k = 7 from by omega] at h
          rw [HV1.out, ← h]; rfl : canR s.data.toList = (capF true L, 0))
        have hLs : (Txt L).size = L.length := txt_size L
        have hconv := run_bytes_of_string (P := Tryz.prog) wr 9 113 5 (Txt L) Tryz.underlying9 Tryz.underlying113 Tryz.underlying5
        obtain ⟨cap, hcap⟩ : ∃ cap, grownCap wr (Txt L).size 0 5 = cap := ⟨_, rfl⟩
        obtain ⟨T, hT⟩ : ∃ T, capF true L = T := ⟨_, rfl⟩
        have hTl : T.length = (Txt L).size := by rw [← hT, capF_len, hLs]
        have HT0 := Lib.hid (show T.drop 0 = capF true ((Txt L).data.toList.drop 0) from by rw [List.drop_zero, List.drop_zero, txt_list]; exact hT.symm)
        have HTl := Lib.hid hTl
        have HS9 := Lib.hid (MpR.start (Txt L) T cap wr)
        rw [hT] at HF
        rw [hcap] at hconv
        obtain ⟨C, hC⟩ : ∃ C, bytesRow (Txt L) cap = C := ⟨_, rfl⟩
        rw [hC] at hconv
        have HSt := Lib.hid (by have := HS9.out; rw [hC] at this; exact this : MpR (Txt L) T wr.heap.size 0 (wr.alloc (.cells C 5 (C.size, C.size + 1))))
        have hsz := HK2.out.size
        have b64s : (Txt L).size ≤ 64 := by have := HL1.out; omega
        obtain ⟨X, hX⟩ : ∃ X, Txt L = X := ⟨_, rfl⟩
        rw [hX] at hconv HT0 HTl HSt b64s ⊢
        clear hcap hC hT hTl HS9 hLs hX
        obtain ⟨B, hB⟩ : ∃ B, wr.heap.size = B := ⟨_, rfl⟩
        rw [hB] at HSt hsz
        have K9 := Lib.hid ((HK2.out.alloc (.cells C 5 (C.size, C.size + 1))))
        go_wp2_with fail
        go_loopw [8] (fun i ws => ∃ (j : Nat) (fl : Bool), j ≤ X.size ∧ i = .int .i64 j ∧ MpR X T B j ws ∧ Kp [] w ws ∧ T.drop j = capF fl (X.data.toList.drop j) ∧ (j = 0 → fl = true) ∧ (∀ m, j = m + 1 → fl = (((T.getD m 0).toNat : Int) == 45))) (fun i _ => X.size - (intOf i).toNat)
        case atStart => exact ⟨0, true, by omega, rfl, ⟨HSt.out.cell, HSt.out.soft⟩, K9.out.drew, HT0.out, fun _ => rfl, fun m hm => by omega⟩
        case round =>
          obtain ⟨j, fl, hj, rfl, hL, hK, hTj, hf0, hf1⟩ := hrel
          have HL := Lib.hid hL
          have HK := Lib.hid hK
          have HTj := Lib.hid hTj
          have Hf0 := Lib.hid hf0
          have Hf1 := Lib.hid hf1
          clear hL hTj hK hf0 hf1
          by_cases hlt : j < X.size
          · have hcj := HL.out.cell j hlt
            rw [mpAt_at] at hcj
            have hfj := HL.out.soft j hlt
            obtain ⟨st1, st2⟩ := capF_step fl X T j hlt HTj.out
            have Hst := Lib.hid (show ∀ m, j + 1 = m + 1 → ((((if fl then uprB X[j] else X[j]).toNat : Int)) == 45) = (((T.getD m 0).toNat : Int) == 45) from fun m hm => by
              obtain rfl : j = m := by omega
              rw [← st1])
            have Hst2 := Lib.hid st2
            have HP := Lib.hid (fun x he => HL.out.put hlt x he)
            have HQ := Lib.hid (show ((T.getD j 0).toNat = X[j].toNat) → MpR X T B (j + 1) wr from fun he => ⟨fun i hi => by
              by_cases hij : i = j
              · subst hij; rw [mpAt_new, he, HL.out.cell i hi, mpAt_at]
              · rw [mpAt_next X T j i hi hij]; exact HL.out.cell i hi, HL.out.soft⟩)
            have hlt2 := X[j].toNat_lt
            have hn := uprB_nat X[j]
            have HKs := Lib.hid (fun x => HK.out.setCell (p := ⟨B, j, none⟩) (.inr hsz) x)
            have Hst1 := Lib.hid (congrArg UInt8.toNat st1)
            have hfl : fl = false ∨ (fl = true ∧ ¬ 97 ≤ X[j].toNat) ∨ (fl = true ∧ 97 ≤ X[j].toNat ∧ ¬ X[j].toNat ≤ 122) ∨ (fl = true ∧ 97 ≤ X[j].toNat ∧ X[j].toNat ≤ 122) := by
              cases fl
              · exact .inl rfl
              · by_cases u1 : 97 ≤ X[j].toNat
                · by_cases u2 : X[j].toNat ≤ 122
                  · exact .inr (.inr (.inr ⟨rfl, u1, u2⟩))
                  · exact .inr (.inr (.inl ⟨rfl, u1, u2⟩))
                · exact .inr (.inl ⟨rfl, u1⟩)
            have hpos : ((j = 0 ∧ ((j : Int) == 0) = true ∧ fl = true) ∨ ∃ m : Nat, ((j : Int) == 0) = false ∧ (j : Int) - 1 = (m : Int) ∧ 0 ≤ (j : Int) - 1 ∧ (m : Int) < (X.size : Int) ∧ wr.cell? ⟨B, m, none⟩ = some (.int .u8 ((T.getD m 0).toNat : Int)) ∧ (((T.getD m 0).toNat : Int) == 45) = fl) := by
              rcases Nat.eq_zero_or_pos j with h0 | h0
              · exact .inl ⟨h0, by rw [h0]; rfl, Hf0.out h0⟩
              · refine .inr ⟨j - 1, by rw [beq_eq_false_iff_ne]; omega, by omega, by omega, by omega, ?_, ?_⟩
                · have := HL.out.cell (j - 1) (by omega)
                  rw [mpAt_old X T j (j - 1) (by omega) (by omega)] at this
                  exact this
                · exact (Hf1.out (j - 1) (by omega)).symm
            clear st1 st2
            rcases hfl with f0 | ⟨f0, u1⟩ | ⟨f0, u1, u2⟩ | ⟨f0, u1, u2⟩
            · subst f0
              have HQ1 := Lib.hid (HQ.out (by rw [Hst1.out]; rfl))
              clear hn
              rcases hpos with ⟨h0, z0, hx⟩ | ⟨m, z0, jm, j0, ms, cm, bm⟩
              · exact absurd hx (by decide)
              ·
                obtain ⟨v, hv⟩ : ∃ v : Int, ((T.getD m 0).toNat : Int) = v := ⟨_, rfl⟩
                rw [hv] at cm bm
                clear hv
                go_wp2_with fail
                go_roundw
                case rel => exact ⟨j + 1, _, by omega, by go_num, HQ1.out, HK.out, Hst2.out, fun h => by omega, Hst.out⟩
                case measure => simp [intOf]; omega
            · subst f0
              rw [if_neg (by omega)] at hn
              have HQ1 := Lib.hid (HQ.out (by rw [Hst1.out]; exact hn))
              obtain ⟨n, hc⟩ : ∃ n, X[j].toNat = n := ⟨_, rfl⟩
              rw [hc] at hcj u1
              clear hn hc hlt2
              rcases hpos with ⟨h0, z0, hx⟩ | ⟨m, z0, jm, j0, ms, cm, bm⟩
              ·
                clear h0 hx
                go_wp2_with fail
                go_roundw
                case rel => exact ⟨j + 1, _, by omega, by go_num, HQ1.out, HK.out, Hst2.out, fun h => by omega, Hst.out⟩
                case measure => simp [intOf]; omega
              ·
                obtain ⟨v, hv⟩ : ∃ v : Int, ((T.getD m 0).toNat : Int) = v := ⟨_, rfl⟩
                rw [hv] at cm bm
                clear hv
                go_wp2_with fail
                go_roundw
                case rel => exact ⟨j + 1, _, by omega, by go_num, HQ1.out, HK.out, Hst2.out, fun h => by omega, Hst.out⟩
                case measure => simp [intOf]; omega
            · subst f0
              rw [if_neg (by omega)] at hn
              have HQ1 := Lib.hid (HQ.out (by rw [Hst1.out]; exact hn))
              obtain ⟨n, hc⟩ : ∃ n, X[j].toNat = n := ⟨_, rfl⟩
              rw [hc] at hcj u1 u2
              clear hn hc hlt2
              rcases hpos with ⟨h0, z0, hx⟩ | ⟨m, z0, jm, j0, ms, cm, bm⟩
              ·
                clear h0 hx
                go_wp2_with fail
                go_roundw
                case rel => exact ⟨j + 1, _, by omega, by go_num, HQ1.out, HK.out, Hst2.out, fun h => by omega, Hst.out⟩
                case measure => simp [intOf]; omega
              ·
                obtain ⟨v, hv⟩ : ∃ v : Int, ((T.getD m 0).toNat : Int) = v := ⟨_, rfl⟩
                rw [hv] at cm bm
                clear hv
                go_wp2_with fail
                go_roundw
                case rel => exact ⟨j + 1, _, by omega, by go_num, HQ1.out, HK.out, Hst2.out, fun h => by omega, Hst.out⟩
                case measure => simp [intOf]; omega
            · subst f0
              rw [if_pos ⟨u1, u2⟩] at hn
              have HP0 := Lib.hid (Hst1.out.trans hn)
              obtain ⟨n, hc⟩ : ∃ n, X[j].toNat = n := ⟨_, rfl⟩
              rw [hc] at hcj u1 u2 HP0
              have HP1 := Lib.hid (HP.out ((n : Int) - 32) (by rw [HP0.out]; omega))
              have i1 : IntKind.u8.wrap ((n : Int) - 32) = (n : Int) - 32 := IntWalk.u8_in _ (by omega)
              clear hn hc hlt2
              rcases hpos with ⟨h0, z0, hx⟩ | ⟨m, z0, jm, j0, ms, cm, bm⟩
              ·
                clear h0 hx
                go_wp2_with fail
                go_roundw
                case rel => exact ⟨j + 1, _, by omega, by go_num, HP1.out, HKs.out _, Hst2.out, fun h => by omega, Hst.out⟩
                case measure => simp [intOf]; omega
              ·
                obtain ⟨v, hv⟩ : ∃ v : Int, ((T.getD m 0).toNat : Int) = v := ⟨_, rfl⟩
                rw [hv] at cm bm
                clear hv
                go_wp2_with fail
                go_roundw
                case rel => exact ⟨j + 1, _, by omega, by go_num, HP1.out, HKs.out _, Hst2.out, fun h => by omega, Hst.out⟩
                case measure => simp [intOf]; omega
          · have hbk := HL.out.back (cap := cap) (by omega) HTl.out
            go_wp2_with fail
            go_ret2
            unfold TxE
            rw [HF.out]
            exact ⟨rfl, HK.out⟩
end Ad
end Go.Proofs.YtonbkedjlbhpfaaGreatDoor
