/- Contract of the reference's Host (dialtoneref02). -/
import Derived.Test.YtonbkedjlbhpfaaGreatDoorAdRk
namespace Go.Proofs.YtonbkedjlbhpfaaGreatDoor
namespace Ad
open Go.RowKit Lx

theorem HoP.no {l : List UInt8} {w w' : World} (h : hostO l = none) (hB : Below w.heap.size w w') : HoP (hostO l) w (.returned (.tuple #[.string ⟨#[]⟩, .bool false])) w' := by
  unfold HoP; rw [h]; exact ⟨rfl, hB⟩
theorem HoP.yes {l x : List UInt8} {a : ByteArray} {w w' : World} (h : hostO l = some x) (ha : a = Txt x) (hB : Below w.heap.size w w') : HoP (hostO l) w (.returned (.tuple #[.string a, .bool true])) w' := by
  unfold HoP; rw [h, ha]; exact ⟨rfl, hB⟩
theorem head_one (s : ByteArray) (h : 0 < s.size) : s.data.toList.head? = some s[0] := by
  have := drop_step s 0 h
  rw [List.drop_zero] at this; rw [this]; rfl
theorem head_91 (s : ByteArray) (h : 0 < s.size) : s.data.toList.head? = some 91 ↔ s[0].toNat = 91 := by
  rw [head_one s h, Option.some_inj, ← UInt8.toNat_inj]; rfl
theorem tail_last (s : ByteArray) (h : 2 ≤ s.size) : s.data.toList.tail.getLast? = some s[s.size - 1] := by
  rw [List.getLast?_eq_getElem?]
  have hl : s.data.toList.tail.length = s.size - 1 := by rw [List.length_tail, len_list]
  rw [hl, List.getElem?_tail]
  have e : s.size - 1 - 1 + 1 = s.size - 1 := by omega
  rw [e, List.getElem?_eq_getElem (by rw [len_list]; omega)]
  simp
  rfl
theorem tail_one (s : ByteArray) (h : s.size = 1) : s.data.toList.tail.getLast? = none := by
  have hl : s.data.toList.tail.length = 0 := by rw [List.length_tail, len_list, h]
  rw [List.eq_nil_of_length_eq_zero hl]; rfl
theorem inner (s : ByteArray) (h : 2 ≤ s.size) : (s.extract 1 (s.size - 1)).data.toList = s.data.toList.tail.dropLast := by
  rw [slc_data]
  unfold slc
  rw [List.drop_take, List.drop_one, List.dropLast_eq_take, List.length_tail, len_list]
theorem wdA_snoc (ps : List (List UInt8)) (k : Nat) (x : List UInt8) (h : ps[k]? = some x) : wdA (ps.take (k + 1)) = (wdA (ps.take k) || wdB x) := by
  unfold wdA; rw [take_at ps k x h]; simp
theorem num_snoc (ps : List (List UInt8)) (k : Nat) (x : List UInt8) (h : ps[k]? = some x) : (ps.take (k + 1)).all numB = ((ps.take k).all numB && numB x) := by
  rw [take_at ps k x h]; simp
theorem lbl_snoc (ps : List (List UInt8)) (k : Nat) (x : List UInt8) (h : ps[k]? = some x) : (ps.take (k + 1)).all lblB = ((ps.take k).all lblB && lblB x) := by
  rw [take_at ps k x h]; simp
theorem grps_el (l : List UInt8) (x : List (List UInt8)) (h : grps l = some x) : ∀ g ∈ x, g.length ≤ 4 := by
  unfold grps at h
  by_cases h0 : l = []
  · rw [if_pos h0] at h; cases h; simp
  · rw [if_neg h0] at h
    by_cases h1 : (pcs 58 l).all grpB = true
    · rw [if_pos h1] at h
      injection h with h
      intro y hy
      rw [← h, List.mem_map] at hy
      obtain ⟨z, hz, rfl⟩ := hy
      exact grpN_len z (List.all_eq_true.1 h1 z hz)
    · rw [if_neg h1] at h; cases h
theorem six_lenR (l x : List UInt8) (h : six l = some x) : x.length ≤ 100 := by
  cases hc : cut2 l with
  | none =>
    cases hg : grps l with
    | none => rw [six_none l hc hg] at h; cases h
    | some y =>
      rw [six_eight l y hc hg] at h
      by_cases h8 : y.length = 8
      · rw [if_pos h8] at h; injection h with h
        have := joinL_len 58 y 4 (grps_el l y hg)
        rw [← h]; omega
      · rw [if_neg h8] at h; cases h
  | some p =>
    obtain ⟨a, b⟩ := p
    cases ha : grps a with
    | none => rw [six_cutA l a b hc ha] at h; cases h
    | some y =>
      cases hb : grps b with
      | none => rw [six_cutB l a b hc hb] at h; cases h
      | some z =>
        rw [six_cut l a b y z hc ha hb] at h
        by_cases h8 : y.length + z.length < 8
        · rw [if_pos h8] at h; injection h with h
          have h1 := joinL_len 58 y 4 (grps_el a y ha)
          have h2 := joinL_len 58 z 4 (grps_el b z hb)
          rw [← h]; simp; omega
        · rw [if_neg h8] at h; cases h
/-- The host of a text that is not in brackets, or not in closed ones. -/
theorem host_ref (s : ByteArray) (h : ¬ (2 ≤ s.size ∧ s.data.toList.head? = some 91 ∧ s.data.toList.tail.getLast? = some 93)) : hostO s.data.toList = if (pcs 46 s.data.toList).all lblB = true ∧ s.data.toList.length ≤ 255 ∧ (wdA (pcs 46 s.data.toList) = true ∨ fourA (pcs 46 s.data.toList) = true) then some (lowL s.data.toList) else none := by
  by_cases h91 : s.data.toList.head? = some 91
  · have h1 : 1 ≤ s.size := by
      rw [← len_list]; cases hl : s.data.toList with
      | nil => rw [hl] at h91; cases h91
      | cons a r => simp
    have hl : s.data.toList.tail.getLast? ≠ some 93 := fun e => h ⟨by
      rcases (by omega : s.size = 1 ∨ 2 ≤ s.size) with q | q
      · rw [tail_one s q] at e; cases e
      · exact q, h91, e⟩
    rw [host_open _ h91 hl, if_neg]
    rw [lbl_bracket _ h91]; rintro ⟨h, _⟩; cases h
  · exact host_plain _ h91
set_option maxRecDepth 100000 in
set_option maxHeartbeats 4000000 in
/-- Where the text is not in closed brackets: from the pieces on. -/
theorem rHost_any (s : ByteArray) (w : World) (hs : s.size ≤ 2097152) :
    Calls Tryz.prog 104 #[.string s] w (HoP (hostO s.data.toList) w) := by
  by_cases hbr : 2 ≤ s.size ∧ s.data.toList.head? = some 91 ∧ s.data.toList.tail.getLast? = some 93
  · obtain ⟨h2, h91, h93⟩ := hbr
    have HH := Lib.hid (host_six _ h91 h93)
    have t1 : ((s[0].toNat : Int) == 91) = true := by rw [(head_91 s (by omega)).1 h91]; rfl
    have t2 : ((s[s.size - 1].toNat : Int) == 93) = true := by
      rw [tail_last s h2, Option.some_inj] at h93; rw [h93]; rfl
    obtain ⟨A, hA⟩ : ∃ A, s.extract 1 (s.size - 1) = A := ⟨_, rfl⟩
    have HAl := Lib.hid (by rw [← hA]; exact inner s h2 : A.data.toList = s.data.toList.tail.dropLast)
    have hAs : A.size ≤ 2097152 := by rw [← hA]; simp; omega
    have HA := Lib.hid hA
    clear h91 h93 hA
    cases hx : six s.data.toList.tail.dropLast with
    | none =>
      have HN := Lib.hid (by rw [HH.out, hx]; rfl : hostO s.data.toList = none)
      have HX := Lib.hid hx
      clear hx
      go_enter Tryz.func104, Tryz.ntmps104
      go_wp2_with fail
      rw [HA.out]
      refine (rsix_any A _ hAs).mono ?_
      rintro e w1 ⟨a, b, rfl, hb, _, hB⟩
      rw [HAl.out, HX.out] at hb
      subst hb
      go_wp2_with fail
      go_ret2
      exact HoP.no HN.out hB
    | some x =>
      have HN := Lib.hid (by rw [HH.out, hx]; rfl : hostO s.data.toList = some ([91] ++ x ++ [93]))
      have HX := Lib.hid hx
      have hxl : x.length ≤ 20971520 := by have := six_lenR _ _ hx; omega
      clear hx
      go_enter Tryz.func104, Tryz.ntmps104
      go_wp2_with fail
      rw [HA.out]
      refine (rsix_any A _ hAs).mono ?_
      rintro e w1 ⟨a, b, rfl, hb, ha, hB⟩
      rw [HAl.out, HX.out] at hb
      subst hb
      obtain rfl := ha x (by rw [HAl.out]; exact HX.out)
      have sx : (Txt x).size ≤ 20971520 := by rw [txt_size]; exact hxl
      have sx2 : ((⟨#[91]⟩ : ByteArray) ++ Txt x).size ≤ 20971521 := by rw [ByteArray.size_append]; have : (⟨#[91]⟩ : ByteArray).size = 1 := rfl; omega
      go_wp2_with fail
      go_ret2
      exact HoP.yes HN.out ((congrArg (· ++ (⟨#[93]⟩ : ByteArray)) (cat_txt [91] x)).trans (cat_txt _ [93])) hB
  · have HH := Lib.hid (host_ref s hbr)
    obtain ⟨ps, hps⟩ : ∃ ps, pcs 46 s.data.toList = ps := ⟨_, rfl⟩
    have hpl : ps.length ≤ s.size + 1 := by rw [← hps, ← len_list]; exact pcs_len 46 _
    have hpp : 1 ≤ ps.length := by rw [← hps]; exact pcs_pos 46 _
    have hsm : ∀ x ∈ ps, x.length ≤ s.size := fun x hx => by have := pcs_small 46 _ x (hps ▸ hx); rwa [len_list] at this
    have HP := Lib.hid hps
    have Hsm := Lib.hid hsm
    have HH := Lib.hid (by have := HH.out; rw [hps, len_list] at this; exact this : hostO s.data.toList = if ps.all lblB = true ∧ s.size ≤ 255 ∧ (wdA ps = true ∨ fourA ps = true) then some (lowL s.data.toList) else none)
    obtain ⟨b4, hb4⟩ : ∃ b4, ((ps.length : Int) == 4) = b4 := ⟨_, rfl⟩
    have HB4 := Lib.hid (by unfold fourA; rw [← hb4]; congr 1; rw [Bool.eq_iff_iff]; simp; omega : fourA ps = (b4 && ps.all numB))
    have ht : s.size < 2 ∨ (2 ≤ s.size ∧ ∃ h : 2 ≤ s.size, ((s[0].toNat : Int) == 91) = false) ∨ (2 ≤ s.size ∧ ∃ h : 2 ≤ s.size, ((s[0].toNat : Int) == 91) = true ∧ ((s[s.size - 1].toNat : Int) == 93) = false) := by
      by_cases h2 : 2 ≤ s.size
      · right
        by_cases h91 : s[0].toNat = 91
        · right
          refine ⟨h2, h2, by rw [h91]; rfl, ?_⟩
          rw [beq_eq_false_iff_ne]
          intro e
          refine hbr ⟨h2, (head_91 s (by omega)).2 h91, ?_⟩
          rw [tail_last s h2, Option.some_inj, ← UInt8.toNat_inj]
          have : (93 : UInt8).toNat = 93 := rfl
          omega
        · exact .inl ⟨h2, h2, by rw [beq_eq_false_iff_ne]; omega⟩
      · exact .inl (by omega)
    clear hps hsm hbr
    rcases ht with hz | ⟨hz, hz', t1⟩ | ⟨hz, hz', t1, t2⟩
    all_goals
      try clear hz'
      go_enter Tryz.func104, Tryz.ntmps104
      go_wp2_with fail
      refine (rpieces_any s 46 w hs).mono ?_
      rintro e w1 ⟨v, rfl, hown, hB1⟩
      rw [HP.out] at hown
      obtain ⟨g, cap, rfl, hcap, hgl, htx⟩ := own_txs hown hpp
      have HT := Lib.hid htx
      have hs1 := hB1.size
      clear hown htx
      go_wp2_with fail
      go_loop [8, 9, 10, 11, 12] (fun f d i _ _ => ∃ k : Nat, k ≤ ps.length ∧ f = .bool (b4 && (ps.take k).all numB) ∧ d = .bool (wdA (ps.take k)) ∧ i = .int .i64 k ∧ (ps.take k).all lblB = true) (fun _ _ i _ _ => ps.length - (intOf i).toNat)
      case atStart => exact ⟨0, by omega, by simp, rfl, rfl, rfl⟩
      case round =>
        obtain ⟨k, hk, rfl, rfl, rfl, hal⟩ := hrel
        have Hal := Lib.hid hal
        clear hal
        by_cases hlt : k < ps.length
        · obtain ⟨x, hx⟩ : ∃ x, ps[k]? = some x := ⟨ps[k], List.getElem?_eq_getElem hlt⟩
          have hcx := HT.out k x hx
          have hxs := Hsm.out x (List.mem_of_getElem? hx)
          have hxm := Lib.hid (List.mem_of_getElem? hx)
          have HNu := Lib.hid (num_snoc ps k x hx)
          have HWd := Lib.hid (wdA_snoc ps k x hx)
          have HLb := Lib.hid (lbl_snoc ps k x hx)
          clear hx
          change w1.cell? ⟨g, k, none⟩ = some (.string (Txt x)) at hcx
          obtain ⟨bf, hbf⟩ : ∃ bf, (b4 && (ps.take k).all numB) = bf := ⟨_, rfl⟩
          obtain ⟨bw, hbw⟩ : ∃ bw, wdA (ps.take k) = bw := ⟨_, rfl⟩
          obtain ⟨ww, hww⟩ : ∃ ww, wdB x = ww := ⟨_, rfl⟩
          rw [hbf, hbw]
          have Hbf := Lib.hid hbf
          have Hbw := Lib.hid hbw
          have Hww := Lib.hid hww
          clear hbf hbw hww
          cases hlx : lblB x
          · have HF := Lib.hid (by rw [HH.out, if_neg (fun h => by have := List.all_eq_true.1 h.1 x hxm.out; rw [hlx] at this; exact Bool.noConfusion this)] : hostO s.data.toList = none)
            have Hlx := Lib.hid hlx
            clear hlx
            go_wp2_with fail
            refine (rlabel_any (Txt x) _ (by rw [txt_size]; omega)).mono ?_
            rintro e w2 ⟨rfl, rfl⟩
            rw [txt_list, Hlx.out]
            go_wp2_with fail
            go_ret2
            exact HoP.no HF.out hB1
          · have Hlx := Lib.hid hlx
            clear hlx
            cases bw
            · cases bf
              · skip
                go_wp2_with fail
                refine (rlabel_any (Txt x) _ (by rw [txt_size]; omega)).mono ?_
                rintro e w2 ⟨rfl, rfl⟩
                rw [txt_list, Hlx.out, Hww.out]
                go_wp2_with fail
                go_round
                case rel => exact ⟨k + 1, by omega, by rw [HNu.out, ← Bool.and_assoc, Hbf.out]; rfl, by rw [HWd.out, Hbw.out, Hww.out]; rfl, by go_num, by rw [HLb.out, Hal.out, Hlx.out]; rfl⟩
                case measure => simp [intOf]; omega
              · skip
                go_wp2_with fail
                refine (rlabel_any (Txt x) _ (by rw [txt_size]; omega)).mono ?_
                rintro e w2 ⟨rfl, rfl⟩
                rw [txt_list, Hlx.out, Hww.out]
                go_wp2_with fail
                refine (rnum_any (Txt x) _ (by rw [txt_size]; omega)).mono ?_
                rintro e w2 ⟨rfl, rfl⟩
                rw [txt_list]
                go_wp2_with fail
                go_round
                case rel => exact ⟨k + 1, by omega, by rw [HNu.out, ← Bool.and_assoc, Hbf.out]; rfl, by rw [HWd.out, Hbw.out, Hww.out]; rfl, by go_num, by rw [HLb.out, Hal.out, Hlx.out]; rfl⟩
                case measure => simp [intOf]; omega
            · cases bf
              · skip
                go_wp2_with fail
                refine (rlabel_any (Txt x) _ (by rw [txt_size]; omega)).mono ?_
                rintro e w2 ⟨rfl, rfl⟩
                rw [txt_list, Hlx.out, Hww.out]
                go_wp2_with fail
                go_round
                case rel => exact ⟨k + 1, by omega, by rw [HNu.out, ← Bool.and_assoc, Hbf.out]; rfl, by rw [HWd.out, Hbw.out, Hww.out]; rfl, by go_num, by rw [HLb.out, Hal.out, Hlx.out]; rfl⟩
                case measure => simp [intOf]; omega
              · skip
                go_wp2_with fail
                refine (rlabel_any (Txt x) _ (by rw [txt_size]; omega)).mono ?_
                rintro e w2 ⟨rfl, rfl⟩
                rw [txt_list, Hlx.out, Hww.out]
                go_wp2_with fail
                refine (rnum_any (Txt x) _ (by rw [txt_size]; omega)).mono ?_
                rintro e w2 ⟨rfl, rfl⟩
                rw [txt_list]
                go_wp2_with fail
                go_round
                case rel => exact ⟨k + 1, by omega, by rw [HNu.out, ← Bool.and_assoc, Hbf.out]; rfl, by rw [HWd.out, Hbw.out, Hww.out]; rfl, by go_num, by rw [HLb.out, Hal.out, Hlx.out]; rfl⟩
                case measure => simp [intOf]; omega
        · have htk : ps.take k = ps := List.take_of_length_le (by omega)
          have HF := Lib.hid (by have := Hal.out; rw [htk] at this; rw [HH.out, this]; simp only [true_and] : hostO s.data.toList = if s.size ≤ 255 ∧ (wdA ps = true ∨ fourA ps = true) then some (lowL s.data.toList) else none)
          have HF4 := Lib.hid (by rw [htk, HB4.out] : (b4 && (ps.take k).all numB) = fourA ps)
          have HFw := Lib.hid (by rw [htk] : wdA (ps.take k) = wdA ps)
          clear htk
          rw [HF4.out, HFw.out]
          obtain ⟨bf, hbf⟩ : ∃ bf, fourA ps = bf := ⟨_, rfl⟩
          obtain ⟨bw, hbw⟩ : ∃ bw, wdA ps = bw := ⟨_, rfl⟩
          have HF := Lib.hid (by have := HF.out; rw [hbf, hbw] at this; exact this : hostO s.data.toList = if s.size ≤ 255 ∧ (bw = true ∨ bf = true) then some (lowL s.data.toList) else none)
          rw [hbf, hbw]
          clear hbf hbw
          by_cases h255 : s.size ≤ 255
          · cases bw
            · cases bf
              · have HN := Lib.hid (by rw [HF.out, if_neg (fun h => by rcases h.2 with h | h <;> exact Bool.noConfusion h)] : hostO s.data.toList = none)
                go_wp2_with fail
                go_ret2
                exact HoP.no HN.out hB1
              · have HN := Lib.hid (by rw [HF.out, if_pos ⟨h255, .inr rfl⟩] : hostO s.data.toList = some (lowL s.data.toList))
                go_wp2_with fail
                refine (rLower_any s _ (by omega)).mono ?_
                rintro e w2 ⟨rfl, hB2⟩
                go_wp2_with fail
                go_ret2
                exact HoP.yes HN.out rfl (hB1.trans (hB2.mono hs1))
            · have HN := Lib.hid (by rw [HF.out, if_pos ⟨h255, .inl rfl⟩] : hostO s.data.toList = some (lowL s.data.toList))
              go_wp2_with fail
              refine (rLower_any s _ (by omega)).mono ?_
              rintro e w2 ⟨rfl, hB2⟩
              go_wp2_with fail
              go_ret2
              exact HoP.yes HN.out rfl (hB1.trans (hB2.mono hs1))
          · have HN := Lib.hid (by rw [HF.out, if_neg (fun h => h255 h.1)] : hostO s.data.toList = none)
            first
              | (exfalso; omega)
              | (go_wp2_with fail
                 go_ret2
                 exact HoP.no HN.out hB1)
end Ad
end Go.Proofs.YtonbkedjlbhpfaaGreatDoor
