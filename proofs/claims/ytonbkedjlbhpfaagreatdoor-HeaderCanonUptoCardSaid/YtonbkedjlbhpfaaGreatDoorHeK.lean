/- Contract of other of package dialtonelaw03, and what Canon is of the other case and of a canonical name. A text has at most 2^20 bytes. -/
import Derived.Test.YtonbkedjlbhpfaaGreatDoorM13
namespace Go.Proofs.YtonbkedjlbhpfaaGreatDoor
namespace Ad
open Go.RowKit Lx

def othB (c : UInt8) : UInt8 := if 97 ≤ c.toNat ∧ c.toNat ≤ 122 then c - 32 else if 65 ≤ c.toNat ∧ c.toNat ≤ 90 then c + 32 else c
def othL (l : List UInt8) : List UInt8 := l.map othB
theorem othB_nat (c : UInt8) : (othB c).toNat = if 97 ≤ c.toNat ∧ c.toNat ≤ 122 then c.toNat - 32 else if 65 ≤ c.toNat ∧ c.toNat ≤ 90 then c.toNat + 32 else c.toNat := by
  unfold othB
  have := c.toNat_lt
  split
  · rw [UInt8.toNat_sub]; simp; omega
  · split
    · rw [UInt8.toNat_add]; simp; omega
    · rfl
theorem lowB_oth (c : UInt8) : lowB (othB c) = lowB c := by
  rw [← UInt8.toNat_inj, lowB_nat, lowB_nat, othB_nat]
  have := c.toNat_lt
  repeat' split
  all_goals omega
theorem lowB_upr (c : UInt8) : lowB (uprB c) = lowB c := by
  rw [← UInt8.toNat_inj, lowB_nat, lowB_nat, uprB_nat]
  have := c.toNat_lt
  repeat' split
  all_goals omega
theorem tokI_nat (a b : Nat) (h : a = b ∨ (65 ≤ a ∧ a ≤ 90 ∧ b = a + 32) ∨ (97 ≤ a ∧ a ≤ 122 ∧ a = b + 32)) : tokI a = tokI b := by
  rcases h with rfl | ⟨h1, h2, rfl⟩ | ⟨h1, h2, rfl⟩
  · rfl
  · have e1 : letterI a = true := by unfold letterI; simp; omega
    have e2 : letterI ((a + 32 : Nat) : Int) = true := by unfold letterI; simp; omega
    unfold tokI; rw [e1, e2]; rfl
  · have e1 : letterI b = true := by unfold letterI; simp; omega
    have e2 : letterI ((b + 32 : Nat) : Int) = true := by unfold letterI; simp; omega
    unfold tokI; rw [e1, e2]; rfl
theorem tokI_oth (c : UInt8) : tokI (othB c).toNat = tokI c.toNat := by
  refine tokI_nat _ _ ?_
  rw [othB_nat]
  have := c.toNat_lt
  repeat' split
  all_goals omega
theorem tokI_low (c : UInt8) : tokI (lowB c).toNat = tokI c.toNat := by
  refine tokI_nat _ _ ?_
  rw [lowB_nat]
  have := c.toNat_lt
  repeat' split
  all_goals omega
theorem tokI_upr (c : UInt8) : tokI (uprB c).toNat = tokI c.toNat := by
  refine tokI_nat _ _ ?_
  rw [uprB_nat]
  have := c.toNat_lt
  repeat' split
  all_goals omega
theorem tokB_map (f : UInt8 → UInt8) (hf : ∀ c, tokI (f c).toNat = tokI c.toNat) (l : List UInt8) : tokB (l.map f) = tokB l := by
  unfold tokB
  rw [List.length_map, List.all_map]
  congr 1
  induction l with
  | nil => rfl
  | cons c t ih => simp only [List.all_cons, ih, Function.comp_apply, hf]
theorem capF_tok : ∀ (l : List UInt8) (b : Bool), ((capF b l).all fun c => tokI c.toNat) = l.all fun c => tokI c.toNat := by
  intro l
  induction l with
  | nil => intro b; rfl
  | cons c t ih =>
    intro b
    cases b
    · simp only [capF, List.all_cons, ih, Bool.false_eq_true, if_false]
    · simp only [capF, List.all_cons, ih, if_true, tokI_upr]
theorem capF_low : ∀ (l : List UInt8) (b : Bool), lowL (capF b l) = lowL l := by
  intro l
  induction l with
  | nil => intro b; rfl
  | cons c t ih =>
    intro b
    cases b
    · simp only [capF, Bool.false_eq_true, if_false]
      show lowB c :: lowL (capF _ t) = lowB c :: lowL t
      rw [ih]
    · simp only [capF, if_true]
      show lowB (uprB c) :: lowL (capF _ t) = lowB c :: lowL t
      rw [ih, lowB_upr]
theorem lowL_low (l : List UInt8) : lowL (lowL l) = lowL l := by
  unfold lowL; rw [List.map_map]; congr 1; funext c; exact lowB_idem c
theorem lowL_oth (l : List UInt8) : lowL (othL l) = lowL l := by
  unfold lowL othL; rw [List.map_map]; congr 1; funext c; exact lowB_oth c
theorem canB_oth (l : List UInt8) : canB (othL l) = canB l := by
  unfold canB othL; rw [tokB_map othB tokI_oth, List.length_map]
theorem canR_oth (l : List UInt8) : canR (othL l) = canR l := by
  unfold canR; rw [canB_oth]; unfold canN; rw [lowL_oth]
theorem short_can : (shortL.all fun p => decide (canR p.2 = (p.2, 0))) = true := by decide +kernel
theorem spec_can : (specL.all fun z => decide (canR z = (z, 0))) = true := by decide +kernel
/-- Canon of a canonical name. -/
theorem canR_can (l : List UInt8) (h : canB l = true) : canR (canN l) = (canN l, 0) := by
  cases hR : shortL.find? (fun p => p.1 == lowL l) with
  | some p =>
    have hc : canN l = p.2 := by unfold canN; rw [hR]; rfl
    rw [hc]
    exact of_decide_eq_true (List.all_eq_true.1 short_can p (List.mem_of_find?_eq_some hR))
  | none =>
    cases hS : specL.find? (fun z => lowL z == lowL l) with
    | some z =>
      have hc : canN l = z := by unfold canN; rw [hR, hS]; rfl
      rw [hc]
      exact of_decide_eq_true (List.all_eq_true.1 spec_can z (List.mem_of_find?_eq_some hS))
    | none =>
      have hc : canN l = capF true (lowL l) := by unfold canN; rw [hR, hS]; rfl
      have hl : lowL (capF true (lowL l)) = lowL l := by rw [capF_low, lowL_low]
      have hb : canB (capF true (lowL l)) = true := by
        rw [← h]
        unfold canB tokB
        rw [capF_len, capF_tok]
        have := tokB_map lowB tokI_low l
        unfold tokB at this
        have e : (lowL l).length = l.length := lowL_length l
        rw [e]
        rw [List.length_map] at this
        unfold lowL
        rw [this]
      have e : canN (capF true (lowL l)) = capF true (lowL l) := by unfold canN; rw [hl, hR, hS]; rfl
      rw [hc]
      unfold canR
      rw [hb, e]
      rfl
set_option maxRecDepth 100000 in
set_option maxHeartbeats 4000000 in
theorem other_any (s : ByteArray) (w : World) (hs : s.size ≤ 1099511627776) :
    Calls Tryz.prog 62 #[.string s] w (RetNew (othL s.data.toList) w) := by
  have hconv := run_bytes_of_string (P := Tryz.prog) w 9 113 5 s Tryz.underlying9 Tryz.underlying113 Tryz.underlying5
  obtain ⟨cap, hcap⟩ : ∃ cap, grownCap w s.size 0 5 = cap := ⟨_, rfl⟩
  obtain ⟨T, hT⟩ : ∃ T, othL s.data.toList = T := ⟨_, rfl⟩
  have hTl : T.length = s.size := by rw [← hT]; unfold othL; rw [List.length_map, len_list]
  have HTg := Lib.hid (fun (j : Nat) (h : j < s.size) => (by rw [← hT]; exact map_getD othB s j h : T.getD j 0 = othB s[j]))
  have HTl := Lib.hid hTl
  have HS := Lib.hid (MpR.start s T cap w)
  rw [hT]
  rw [hcap] at hconv
  obtain ⟨C, hC⟩ : ∃ C, bytesRow s cap = C := ⟨_, rfl⟩
  rw [hC] at hconv
  have HS := Lib.hid (by have := HS.out; rw [hC] at this; exact this : MpR s T w.heap.size 0 (w.alloc (.cells C 5 (C.size, C.size + 1))))
  clear hcap hC hT hTl
  go_enter Tryz.func62, Tryz.ntmps62
  go_wp2_with fail
  go_loopw [4] (fun i wr => ∃ j : Nat, j ≤ s.size ∧ i = .int .i64 j ∧ MpR s T w.heap.size j wr ∧ Below w.heap.size w wr) (fun i _ => s.size - (intOf i).toNat)
  case atStart => exact ⟨0, by omega, rfl, ⟨HS.out.cell, HS.out.soft⟩, ((Below.refl _ w).alloc (Nat.le_refl _) _).drew⟩
  case round =>
    obtain ⟨j, hj, rfl, hL, hB⟩ := hrel
    have HL := Lib.hid hL
    clear hL
    have hsz := hB.size
    by_cases hlt : j < s.size
    · have hcj := HL.out.cell j hlt
      rw [mpAt_at] at hcj
      have hfj := HL.out.soft j hlt
      have hn := othB_nat s[j]
      rw [← HTg.out j hlt] at hn
      have hlt2 := s[j].toNat_lt
      have HP := Lib.hid (fun x he => HL.out.put hlt x he)
      have HQ := Lib.hid (show ((T.getD j 0).toNat = s[j].toNat) → MpR s T w.heap.size (j + 1) wr from fun he => ⟨fun i hi => by
        by_cases hij : i = j
        · subst hij; rw [mpAt_new, he, HL.out.cell i hi, mpAt_at]
        · rw [mpAt_next s T j i hi hij]; exact HL.out.cell i hi, HL.out.soft⟩)
      obtain ⟨n, hc⟩ : ∃ n, s[j].toNat = n := ⟨_, rfl⟩
      rw [hc] at hn hlt2 hcj HQ
      obtain ⟨m, hm⟩ : ∃ m, (T.getD j 0).toNat = m := ⟨_, rfl⟩
      rw [hm] at hn HP HQ
      clear hc hm
      by_cases hA : 97 ≤ n ∧ n ≤ 122
      · rw [if_pos hA] at hn
        obtain ⟨u1, u2⟩ := hA
        have i1 : IntKind.u8.wrap ((n : Int) - 32) = (n : Int) - 32 := IntWalk.u8_in _ (by omega)
        have HP1 := Lib.hid (HP.out ((n : Int) - 32) (by omega))
        clear hn
        go_wp2_with fail
        go_roundw
        case rel => exact ⟨j + 1, by omega, by go_num, HP1.out, hB.setCell (by simp) _⟩
        case measure => simp [intOf]; omega
      rw [if_neg hA] at hn
      by_cases hC : 65 ≤ n ∧ n ≤ 90
      · rw [if_pos hC] at hn
        obtain ⟨u1, u2⟩ := hC
        have u3 : ¬ 97 ≤ n := by omega
        have i1 : IntKind.u8.wrap ((n : Int) + 32) = (n : Int) + 32 := IntWalk.u8_in _ (by omega)
        have HP1 := Lib.hid (HP.out ((n : Int) + 32) (by omega))
        clear hn hA
        go_wp2_with fail
        go_roundw
        case rel => exact ⟨j + 1, by omega, by go_num, HP1.out, hB.setCell (by simp) _⟩
        case measure => simp [intOf]; omega
      rw [if_neg hC] at hn
      have HQ1 := Lib.hid (HQ.out hn)
      clear hn
      by_cases u1 : 97 ≤ n
      · have u2 : ¬ n ≤ 122 := fun h => hA ⟨u1, h⟩
        have u3 : 65 ≤ n := by omega
        have u4 : ¬ n ≤ 90 := by omega
        clear hA hC
        go_wp2_with fail
        go_roundw
        case rel => exact ⟨j + 1, by omega, by go_num, HQ1.out, hB⟩
        case measure => simp [intOf]; omega
      by_cases u3 : 65 ≤ n
      · have u4 : ¬ n ≤ 90 := fun h => hC ⟨u3, h⟩
        clear hA hC
        go_wp2_with fail
        go_roundw
        case rel => exact ⟨j + 1, by omega, by go_num, HQ1.out, hB⟩
        case measure => simp [intOf]; omega
      · clear hA hC
        go_wp2_with fail
        go_roundw
        case rel => exact ⟨j + 1, by omega, by go_num, HQ1.out, hB⟩
        case measure => simp [intOf]; omega
    · have hbk := HL.out.back (cap := cap) (by omega) HTl.out
      go_wp2_with fail
      go_ret
      exact ⟨rfl, hB⟩
end Ad
end Go.Proofs.YtonbkedjlbhpfaaGreatDoor
