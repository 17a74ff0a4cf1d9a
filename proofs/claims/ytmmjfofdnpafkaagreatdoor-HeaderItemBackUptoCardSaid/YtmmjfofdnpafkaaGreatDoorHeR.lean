/- Contracts of isItem and Item of package header. A text has at most 2^20 bytes. -/
import Derived.Test.YtmmjfofdnpafkaaGreatDoorM13
namespace Go.Proofs.YtmmjfofdnpafkaaGreatDoor
namespace Ad
open Go.RowKit Lx

def isC (c : UInt8) (x : Int) : Bool := x == (c.toNat : Int)
theorem index1_endP (c : UInt8) : ∀ l : List UInt8, Lib.index l [c] = if endP (isC c) l 0 < l.length then (endP (isC c) l 0 : Int) else -1 := by
  intro l
  unfold endP
  rw [List.drop_zero, Nat.zero_add]
  induction l with
  | nil => rfl
  | cons b t ih =>
    have hr : runL (fun x => !isC c x) (b :: t) = if isC c b.toNat then 0 else runL (fun x => !isC c x) t + 1 := by
      rw [runL]; cases isC c b.toNat <;> rfl
    have hp : List.isPrefixOf [c] (b :: t) = isC c b.toNat := by
      simp only [List.isPrefixOf, Bool.and_true]
      unfold isC
      rw [Bool.eq_iff_iff, beq_iff_eq, beq_iff_eq]
      exact ⟨fun h => by rw [h], fun h => (UInt8.toNat_inj.1 (Int.ofNat.inj h)).symm⟩
    rw [hr, Lib.index, hp, List.length_cons]
    cases hb : isC c b.toNat
    · simp only [Bool.false_eq_true, if_false]
      rw [ih]
      clear ih hr hb hp
      generalize runL (fun x => !isC c x) t = n
      by_cases h : n < t.length
      · have e : ((n : Int) == -1) = false := by rw [beq_eq_false_iff_ne]; omega
        simp [h, e]
      · simp [h]
    · simp
/-- A text divided at its first slash. -/
def cutS (x : List UInt8) : List UInt8 × List UInt8 × Bool :=
  if endP (isC 47) x 0 < x.length then (x.take (endP (isC 47) x 0), x.drop (endP (isC 47) x 0 + 1), true) else (x, [], false)
theorem cut_is (x : List UInt8) : Lib.cut x [47] = cutS x := by
  unfold Lib.cut cutS
  rw [index1_endP]
  generalize endP (isC 47) x 0 = n
  by_cases h : n < x.length
  · rw [if_pos h, if_pos (by omega), if_pos h, Int.toNat_natCast]; rfl
  · rw [if_neg h, if_neg (by omega), if_neg h]
def itmB (x : List UInt8) : Bool := tokB (cutS x).1 && (!(cutS x).2.2 || tokB (cutS x).2.1)
theorem cutS_len (x : List UInt8) : (cutS x).1.length ≤ x.length ∧ (cutS x).2.1.length ≤ x.length := by
  unfold cutS
  split
  · exact ⟨by rw [List.length_take]; omega, by rw [List.length_drop]; omega⟩
  · exact ⟨Nat.le_refl _, Nat.zero_le _⟩
set_option maxRecDepth 100000 in
set_option maxHeartbeats 2000000 in
theorem isItem_any (x : List UInt8) (w : World) (hs : x.length ≤ 2097152) (E : Env w) :
    Calls Tryz.prog 102 #[.string (Txt x)] w (BoK (itmB x) w) := by
  have hl := cutS_len x
  obtain ⟨a, b, g, hc⟩ : ∃ a b g, cutS x = (a, b, g) := ⟨_, _, _, rfl⟩
  rw [hc] at hl
  dsimp only at hl
  have HCu := Lib.hid (by
    obtain ⟨m, hm⟩ := E.m
    refine (Tryz.strings_Cut (Txt x) ⟨#[47]⟩ m w (by rw [txt_size]; omega) hm).mono ?_
    rintro e w' ⟨rfl, n, rfl⟩
    refine ⟨?_, (Kp.refl [] w).drewN n⟩
    have : Lib.cut (Txt x).data.toList (⟨#[47]⟩ : ByteArray).data.toList = (a, b, g) := by rw [txt_list]; exact (cut_is x).trans hc
    rw [this]; rfl : Calls Tryz.prog 175 #[.string (Txt x), .string ⟨#[47]⟩] w fun e w' => e = .returned (.tuple #[.string (Txt a), .string (Txt b), .bool g]) ∧ Kp [] w w')
  have H1 := Lib.hid (fun wz => tok_n a wz (by omega))
  have H2 := Lib.hid (fun wz => tok_n b wz (by omega))
  have HV := Lib.hid (by unfold itmB; rw [hc] : itmB x = (tokB a && (!g || tokB b)))
  obtain ⟨ta, hta⟩ : ∃ t, tokB a = t := ⟨_, rfl⟩
  obtain ⟨tb, htb⟩ : ∃ t, tokB b = t := ⟨_, rfl⟩
  rw [hta] at H1 HV
  rw [htb] at H2 HV
  clear hc hl E hta htb
  go_enter Tryz.func102, Tryz.ntmps102
  go_wp2_with fail
  refine HCu.out.mono ?_
  rintro e w1 ⟨rfl, hK1⟩
  have K1 := Lib.hid hK1
  clear hK1
  go_wp2_with fail
  refine (H1.out _).mono ?_
  rintro e w2 ⟨rfl, hw⟩
  obtain rfl := hw
  cases ta
  case false =>
    go_wp2_with fail
    go_ret
    rw [HV.out]
    exact ⟨rfl, K1.out⟩
  case true =>
    cases g
    case false =>
      go_wp2_with fail
      go_ret
      rw [HV.out]
      exact ⟨rfl, K1.out⟩
    case true =>
      go_wp2_with fail
      refine (H2.out _).mono ?_
      rintro e w2 ⟨rfl, hw⟩
      obtain rfl := hw
      go_wp2_with fail
      go_ret
      rw [HV.out]
      exact ⟨rfl, K1.out⟩
/-- An item: its value and its parameters. -/
def itE (l : List UInt8) : Nat := if atB l (tokE l 0) = 47 then tokE l (tokE l 0 + 1) else tokE l 0
def itP (v : List UInt8) (r : List Prm × Nat × Int) : (List UInt8 × List Prm) × Int := if r.2.2 ≠ 0 then (([], []), r.2.2) else ((v, r.1), 0)
def itT (l : List UInt8) : (List UInt8 × List Prm) × Int := if itmB (l.take (itE l)) = true then itP (l.take (itE l)) (parR (l.drop (itE l))) else (([], []), 5)
def itmR (l : List UInt8) : (List UInt8 × List Prm) × Int := itT (trS l)
def ItP (r : (List UInt8 × List Prm) × Int) (w : World) (e : Ending) (w' : World) : Prop := ∃ v, e = .returned (.tuple #[.agg #[.string (Txt r.1.1), v], .int .u8 r.2]) ∧ PmIn w'.heap.size w' v r.1.2 ∧ Kp [] w w'
def Zib (w : World) (g : Nat) : Prop := Blk w g 59 #[.string ⟨#[]⟩, .slice none 0 0]
theorem Zib.nob {w : World} {g : Nat} (h : Zib w g) : NoB w g := by
  intro i t hc
  rw [Blk.cell h i] at hc
  match i, hc with
  | 0, hc => simp at hc
  | 1, hc => simp at hc
  | i + 2, hc => simp at hc
theorem Zib.kp {X : List Nat} {w w' : World} {g : Nat} (h : Zib w g) (k : Kp X w w') (hg : g ∉ X) : Zib w' g := Blk.kp h k hg
theorem infoItm : (Tryz.prog.info? 59).map (·.size) = some 2 := by kernel_rfl
theorem blk2 {w : World} {g : Nat} {c0 c1 : Value} (h : Blk w g 59 #[c0, c1]) (x0 x1 : Value) :
    Blk ((w.setCell ⟨g, 0, none⟩ x0).setCell ⟨g, 1, none⟩ x1) g 59 #[x0, x1] := (h.set_ 0 x0).set_ 1 x1
theorem kp2 {X : List Nat} {a w : World} (h : Kp X a w) {g : Nat} (hg : g ∈ X ∨ a.heap.size ≤ g) (x0 x1 : Value) :
    Kp X a ((w.setCell ⟨g, 0, none⟩ x0).setCell ⟨g, 1, none⟩ x1) := (h.setCell (p := ⟨g, 0, none⟩) hg x0).setCell (p := ⟨g, 1, none⟩) hg x1
theorem itm_fin (g : Nat) (w wx : World) (r : (List UInt8 × List Prm) × Int) (T : ByteArray) (x : Int) (A : Option Addr) (n c : Nat) (hT : Txt r.1.1 = T) (hx : r.2 = x) (hP : PmIn wx.heap.size wx (.slice A n c) r.1.2) (K : Kp [] w wx) (hg : w.heap.size ≤ g) (Z : Zib wx g) :
    ItP r w (.returned (.tuple #[.agg #[.string T, .slice A n c], .int .u8 x])) ((wx.setCell ⟨g, 0, none⟩ (.string T)).setCell ⟨g, 1, none⟩ (.slice A n c)) := by
  subst hT hx
  exact ⟨_, rfl, hP.grow (kp2 (Kp.refl [g] wx) (g := g) (.inl (by simp)) _ _) (by intro y hy; rw [List.mem_singleton.1 hy]; exact Z.nob), kp2 K (.inr hg) _ _⟩
theorem itE_le (l : List UInt8) : itE l ≤ l.length := by
  unfold itE
  split
  · rename_i h
    have := atB_lt l (tokE l 0) (by rw [h]; decide)
    exact tokE_len l _ (by omega)
  · exact tokE_len l 0 (Nat.zero_le _)
theorem prefix47 (l : List UInt8) (k : Nat) : Lib.hasPrefix (l.drop k) [47] = decide (atB l k = 47) := by
  unfold Lib.hasPrefix atB
  cases h : l[k]? with
  | none => rw [List.drop_eq_nil_of_le (by rw [List.getElem?_eq_none_iff] at h; exact h)]; rfl
  | some c =>
    obtain ⟨h1, h2⟩ := List.getElem?_eq_some_iff.1 h
    rw [List.drop_eq_getElem_cons h1, h2]
    simp only [List.isPrefixOf, Bool.and_true]
    rw [Bool.eq_iff_iff, beq_iff_eq, decide_eq_true_iff]
    exact ⟨fun hh => by rw [← hh]; rfl, fun hh => (UInt8.toNat_inj.1 (show c.toNat = (47 : UInt8).toNat from Int.ofNat.inj hh)).symm⟩
set_option maxRecDepth 100000 in
set_option maxHeartbeats 4000000 in
theorem item_any2 (s : ByteArray) (w : World) (hs : s.size ≤ 2097152) (E : Env w) :
    Calls Tryz.prog 43 #[.string s] w (ItP (itmR s.data.toList) w) := by
  obtain ⟨t, ht⟩ : ∃ t, trS s.data.toList = t := ⟨_, rfl⟩
  have htl : t.length ≤ 2097152 := by rw [← ht]; have := trS_len s.data.toList; rw [len_list] at this; omega
  have HT := Lib.hid (fun wz => (by have h := trimmed_any s wz (by omega); rw [ht] at h; exact h : Calls Tryz.prog 72 #[.string s] wz fun e w' => e = .returned (.string (Txt t)) ∧ Kp [] wz w'))
  obtain ⟨k, hk⟩ : ∃ k, tokE t 0 = k := ⟨_, rfl⟩
  obtain ⟨en, hen⟩ : ∃ e, itE t = e := ⟨_, rfl⟩
  have hel : en ≤ t.length := by rw [← hen]; exact itE_le t
  have hkl : k ≤ t.length := by rw [← hk]; exact tokE_len t 0 (Nat.zero_le _)
  obtain ⟨X, hX⟩ : ∃ X, Txt t = X := ⟨_, rfl⟩
  rw [hX] at HT
  have hXs : X.size = t.length := by rw [← hX]; exact txt_size t
  have HTE := Lib.hid (fun wz => (by have h := tokEnd_c (Txt t) 0 wz (by rw [txt_size]; omega) (Nat.zero_le _); rw [txt_list, hk, hX] at h; exact h : Calls Tryz.prog 100 #[.string X, .int .i64 0] wz (Ret (.int .i64 (k : Int)) wz)))
  have Hsl := Lib.hid (by rw [← hX, slc_txt, txt_list, slc_full _ _ _ (by rw [txt_size]; exact Nat.le_refl _)] : X.extract k X.size = Txt (t.drop k))
  have HPx := Lib.hid (fun wz => (by have h := Tryz.strings_HasPrefix (Txt (t.drop k)) ⟨#[47]⟩ wz; rw [txt_list] at h; rw [show (ByteArray.mk #[47]).data.toList = [47] from rfl, prefix47] at h; exact h : Calls Tryz.prog 101 #[.string (Txt (t.drop k)), .string ⟨#[47]⟩] wz fun e w' => e = .returned (.bool (decide (atB t k = 47))) ∧ w' = wz))
  obtain ⟨q, hq⟩ : ∃ q, t.take en = q := ⟨_, rfl⟩
  obtain ⟨ls, hls⟩ : ∃ q, t.drop en = q := ⟨_, rfl⟩
  have hql : q.length ≤ 2097152 := by rw [← hq, List.length_take]; omega
  have hll : ls.length ≤ 2097152 := by rw [← hls, List.length_drop]; omega
  have H5 := Lib.hid (by have h := take_slc (Txt t) en; rw [txt_list, hX, hq] at h; exact h : X.extract 0 en = Txt q)
  have H6 := Lib.hid (by rw [← hX, slc_txt, txt_list, slc_full _ _ _ (by rw [txt_size]; exact Nat.le_refl _), hls] : X.extract en X.size = Txt ls)
  have HI := Lib.hid (fun wz (hE : Env wz) => isItem_any q wz (by omega) hE)
  obtain ⟨B, hB⟩ : ∃ B, itmB q = B := ⟨_, rfl⟩
  rw [hB] at HI
  obtain ⟨pm, off, y, hpa⟩ : ∃ a b c, parR ls = (a, b, c) := ⟨_, _, _, rfl⟩
  have hpar := fun wz (hE : Env wz) => Params_any (Txt ls) wz (by rw [txt_size]; omega) hE
  rw [txt_list, hpa] at hpar
  have HPa := Lib.hid hpar
  have HV := Lib.hid (by unfold itmR; rw [ht]; unfold itT; rw [hen, hq, hls, hB, hpa]; unfold itP; rfl : itmR s.data.toList = if B = true then (if y ≠ 0 then (([], []), y) else ((q, pm), 0)) else (([], []), 5))
  have HE := Lib.hid E
  obtain ⟨w0, hw0⟩ : ∃ x, w.alloc (.cells #[.string ⟨#[]⟩, .slice none 0 0] 59) = x := ⟨_, rfl⟩
  have K0 := Lib.hid (show Kp [] w w0 from by rw [← hw0]; exact (Kp.refl _ _).alloc _)
  have Z0 := Lib.hid (show Zib w0 w.heap.size from by rw [← hw0]; exact Blk.new w 59 _)
  have b1 : (k : Int) ≤ (X.size : Int) := by omega
  have b2 : (en : Int) ≤ (X.size : Int) := by omega
  have hcase : (decide (atB t k = 47) = false ∧ en = k) ∨ (decide (atB t k = 47) = true ∧ ∃ m : Nat, (k : Int) + 1 = (m : Int) ∧ ∀ wz, Calls Tryz.prog 100 #[.string X, .int .i64 (m : Int)] wz (Ret (.int .i64 (en : Int)) wz)) := by
    by_cases h : atB t k = 47
    · refine .inr ⟨decide_eq_true h, k + 1, rfl, fun wz => ?_⟩
      have hlt := atB_lt t k (by rw [h]; decide)
      have h2 := tokEnd_c (Txt t) (k + 1) wz (by rw [txt_size]; omega) (by rw [txt_size]; omega)
      rw [txt_list, hX] at h2
      have : en = tokE t (k + 1) := by rw [← hen]; unfold itE; rw [hk, if_pos h]
      rw [this]; exact h2
    · refine .inl ⟨decide_eq_false h, ?_⟩
      rw [← hen]; unfold itE; rw [hk, if_neg h]
  have b3 : (X.size : Int) ≤ 2097152 := by omega
  have Hcase := Lib.hid hcase
  clear ht hk hen hq hls hql hll hB hpa hpar E htl hX hXs hcase hel hkl
  go_enter Tryz.func43, Tryz.ntmps43
  go_wp2_with fail
  refine (HT.out _).mono ?_
  rintro e w1 ⟨rfl, hK1⟩
  have K1 := Lib.hid (K0.out.trans hK1)
  have Z1 := Lib.hid (show Zib w1 w.heap.size from Z0.out.kp hK1 (by simp))
  clear hK1
  go_wp2_with fail
  refine (HTE.out _).mono ?_
  rintro e w2 ⟨rfl, hw⟩
  obtain rfl := hw
  go_wp2_with fail
  rw [Hsl.out]
  refine (HPx.out _).mono ?_
  rintro e w2 ⟨rfl, hw⟩
  obtain rfl := hw.symm
  rcases Hcase.out with ⟨hb, he⟩ | ⟨hb, m, hm, hM⟩
  · obtain rfl := he
    clear Hcase
    rw [hb]
    clear hb
    go_wp2_with fail
    rw [H5.out]
    refine (HI.out _ (HE.out.kp K1.out (by simp))).mono ?_
    rintro e w3 ⟨rfl, hK3⟩
    have K3 := Lib.hid (K1.out.trans hK3)
    have Z3 := Lib.hid (show Zib w3 w.heap.size from Z1.out.kp hK3 (by simp))
    clear hK3
    cases B
    case false =>
      have HF := Lib.hid (HV.out.trans (if_neg (by decide)))
      have d0 := Z3.out.cell 0
      have d1 := Z3.out.cell 1
      have g0 := Z3.out.frozen 0
      have g1 := Z3.out.frozen 1
      go_wp2_with fail
      refine bodyPost_ret (results_two rfl _ _ w.heap.size 59 _ (0, 0) _ rfl (blk2 Z3.out _ _) Tryz.underlying59 rfl infoItm) rfl ?_
      rw [HF.out]
      exact itm_fin w.heap.size w _ _ _ _ _ _ _ rfl rfl (PmIn.nil _ _) K3.out (Nat.le_refl _) Z3.out
    case true =>
      have HV1 := Lib.hid (HV.out.trans (if_pos rfl))
      go_wp2_with fail
      rw [H6.out]
      refine (HPa.out _ (HE.out.kp K3.out (by simp))).mono ?_
      rintro e w5 ⟨v, rfl, hP5, hB5, hl5⟩
      have hK5 := (Kp.refl [] w3).below hB5
      have K5 := Lib.hid (K3.out.trans hK5)
      have Z5 := Lib.hid (show Zib w5 w.heap.size from Z3.out.kp hK5 (by simp))
      dsimp only at hP5 hl5 ⊢
      obtain ⟨A, c, rfl⟩ := hP5.form
      obtain ⟨n, hn⟩ : ∃ n, pm.length = n := ⟨_, rfl⟩
      rw [hn] at hP5 ⊢
      have P5 := Lib.hid hP5
      clear hK5 hB5 hP5 hl5 hn
      by_cases hy : y = 0
      case neg =>
        have HF := Lib.hid (HV1.out.trans (if_pos hy))
        have by_ : (y != 0) = true := by rw [bne_iff_ne]; exact hy
        clear hy
        have d0 := Z5.out.cell 0
        have d1 := Z5.out.cell 1
        have g0 := Z5.out.frozen 0
        have g1 := Z5.out.frozen 1
        go_wp2_with fail
        refine bodyPost_ret (results_two rfl _ _ w.heap.size 59 _ (0, 0) _ rfl (blk2 Z5.out _ _) Tryz.underlying59 rfl infoItm) rfl ?_
        rw [HF.out]
        exact itm_fin w.heap.size w _ _ _ _ _ _ _ rfl rfl (PmIn.nil _ _) K5.out (Nat.le_refl _) Z5.out
      case pos =>
        have HF := Lib.hid (HV1.out.trans (if_neg (fun h => h hy)))
        have by_ : (y != 0) = false := by rw [hy]; rfl
        clear hy
        have d0 := Z5.out.cell 0
        have d1 := Z5.out.cell 1
        have g0 := Z5.out.frozen 0
        have g1 := Z5.out.frozen 1
        go_wp2_with fail
        try rw [H5.out]
        refine bodyPost_ret (results_two rfl _ _ w.heap.size 59 _ (0, 0) _ rfl (blk2 Z5.out _ _) Tryz.underlying59 rfl infoItm) rfl ?_
        rw [HF.out]
        exact itm_fin w.heap.size w _ _ _ _ _ _ _ rfl rfl (P5.out) K5.out (Nat.le_refl _) Z5.out
  · have HM := Lib.hid hM
    rw [hb]
    clear hM hb Hcase
    go_wp2_with fail
    try rw [hm]
    refine (HM.out _).mono ?_
    rintro e w2 ⟨rfl, hw⟩
    obtain rfl := hw
    clear hm
    go_wp2_with fail
    rw [H5.out]
    refine (HI.out _ (HE.out.kp K1.out (by simp))).mono ?_
    rintro e w3 ⟨rfl, hK3⟩
    have K3 := Lib.hid (K1.out.trans hK3)
    have Z3 := Lib.hid (show Zib w3 w.heap.size from Z1.out.kp hK3 (by simp))
    clear hK3
    cases B
    case false =>
      have HF := Lib.hid (HV.out.trans (if_neg (by decide)))
      have d0 := Z3.out.cell 0
      have d1 := Z3.out.cell 1
      have g0 := Z3.out.frozen 0
      have g1 := Z3.out.frozen 1
      go_wp2_with fail
      refine bodyPost_ret (results_two rfl _ _ w.heap.size 59 _ (0, 0) _ rfl (blk2 Z3.out _ _) Tryz.underlying59 rfl infoItm) rfl ?_
      rw [HF.out]
      exact itm_fin w.heap.size w _ _ _ _ _ _ _ rfl rfl (PmIn.nil _ _) K3.out (Nat.le_refl _) Z3.out
    case true =>
      have HV1 := Lib.hid (HV.out.trans (if_pos rfl))
      go_wp2_with fail
      rw [H6.out]
      refine (HPa.out _ (HE.out.kp K3.out (by simp))).mono ?_
      rintro e w5 ⟨v, rfl, hP5, hB5, hl5⟩
      have hK5 := (Kp.refl [] w3).below hB5
      have K5 := Lib.hid (K3.out.trans hK5)
      have Z5 := Lib.hid (show Zib w5 w.heap.size from Z3.out.kp hK5 (by simp))
      dsimp only at hP5 hl5 ⊢
      obtain ⟨A, c, rfl⟩ := hP5.form
      obtain ⟨n, hn⟩ : ∃ n, pm.length = n := ⟨_, rfl⟩
      rw [hn] at hP5 ⊢
      have P5 := Lib.hid hP5
      clear hK5 hB5 hP5 hl5 hn
      by_cases hy : y = 0
      case neg =>
        have HF := Lib.hid (HV1.out.trans (if_pos hy))
        have by_ : (y != 0) = true := by rw [bne_iff_ne]; exact hy
        clear hy
        have d0 := Z5.out.cell 0
        have d1 := Z5.out.cell 1
        have g0 := Z5.out.frozen 0
        have g1 := Z5.out.frozen 1
        go_wp2_with fail
        refine bodyPost_ret (results_two rfl _ _ w.heap.size 59 _ (0, 0) _ rfl (blk2 Z5.out _ _) Tryz.underlying59 rfl infoItm) rfl ?_
        rw [HF.out]
        exact itm_fin w.heap.size w _ _ _ _ _ _ _ rfl rfl (PmIn.nil _ _) K5.out (Nat.le_refl _) Z5.out
      case pos =>
        have HF := Lib.hid (HV1.out.trans (if_neg (fun h => h hy)))
        have by_ : (y != 0) = false := by rw [hy]; rfl
        clear hy
        have d0 := Z5.out.cell 0
        have d1 := Z5.out.cell 1
        have g0 := Z5.out.frozen 0
        have g1 := Z5.out.frozen 1
        go_wp2_with fail
        try rw [H5.out]
        refine bodyPost_ret (results_two rfl _ _ w.heap.size 59 _ (0, 0) _ rfl (blk2 Z5.out _ _) Tryz.underlying59 rfl infoItm) rfl ?_
        rw [HF.out]
        exact itm_fin w.heap.size w _ _ _ _ _ _ _ rfl rfl (P5.out) K5.out (Nat.le_refl _) Z5.out
end Ad
end Go.Proofs.YtmmjfofdnpafkaaGreatDoor
