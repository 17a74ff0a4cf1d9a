/- Contracts of package header: Via; awake of the laws of layer 3. -/
import Derived.Test.YtmmjfofdnpafkaaGreatDoorM12
import Derived.Test.YtmmjfofdnpafkaaGreatDoorAdWd
/- Contracts of cutTransport, readPlace and Via of package header. A text has at most 2^20 bytes. -/
namespace Go.Proofs.YtmmjfofdnpafkaaGreatDoor
namespace Ad
open Go.RowKit Lx

def protoL : List UInt8 := [83, 73, 80, 47, 50, 46, 48, 47]
def cutV (v : List UInt8) : List UInt8 × List UInt8 × Bool :=
  if (decide (tokE v 0 = 0) || decide (blkE v (tokE v 0) = tokE v 0)) = true then ([], [], false) else (uprL (v.take (tokE v 0)), v.drop (blkE v (tokE v 0)), true)
def cutT (l : List UInt8) : List UInt8 × List UInt8 × Bool :=
  if (decide (8 ≤ l.length) && (uprL (l.take 8) == protoL)) = true then cutV (l.drop 8) else ([], [], false)
def T3P (r : List UInt8 × List UInt8 × Bool) (w : World) (e : Ending) (w' : World) : Prop := e = .returned (.tuple #[.string (Txt r.1), .string (Txt r.2.1), .bool r.2.2]) ∧ Kp [] w w'
theorem tokEnd_c (s : ByteArray) (k : Nat) (w : World) (hs : s.size ≤ 4194304) (hk : k ≤ s.size) : Calls Tryz.prog 100 #[.string s, .int .i64 k] w (Ret (.int .i64 (tokE s.data.toList k : Nat)) w) := by
  have := Lx.tokenEnd_any s k w (by unfold maxLen; omega)
  rwa [tokE_bhd s k hk] at this
theorem blanks_c (s : ByteArray) (k : Nat) (w : World) (hs : s.size ≤ 4194304) (hk : k ≤ s.size) : Calls Tryz.prog 144 #[.string s, .int .i64 k] w (Ret (.int .i64 (blkE s.data.toList k : Nat)) w) := by
  have := Lx.blanks_any s k w (by unfold maxLen; omega)
  rwa [blkE_bhd s k hk] at this
set_option maxRecDepth 100000 in
set_option maxHeartbeats 4000000 in
theorem cutTransport_big (s : ByteArray) (w : World) (hs : s.size ≤ 4194304) :
    Calls Tryz.prog 71 #[.string s] w (T3P (cutT s.data.toList) w) := by
  have hlen := len_list s
  by_cases h8 : 8 ≤ s.size
  case neg =>
    have HF := Lib.hid (by unfold cutT; rw [hlen, decide_eq_false h8]; rfl : cutT s.data.toList = ([], [], false))
    have b8 : (s.size : Int) < 8 := by omega
    clear h8 hlen
    go_enter Tryz.func71, Tryz.ntmps71
    go_wp2_with fail
    go_ret3
    unfold T3P
    rw [HF.out]
    exact ⟨rfl, Kp.refl _ _⟩
  have b8 : ¬ (s.size : Int) < 8 := by omega
  have b8' : (8 : Int) ≤ (s.size : Int) := by omega
  have H1 := Lib.hid (by rw [take_slc] : s.extract 0 8 = Txt (s.data.toList.take 8))
  have hv : s.extract 8 s.size = Txt (s.data.toList.drop 8) := by rw [slc_txt, slc_full _ _ _ (by rw [hlen]; exact Nat.le_refl _)]
  obtain ⟨v, hvv⟩ : ∃ v, s.data.toList.drop 8 = v := ⟨_, rfl⟩
  have hvl : v.length ≤ 4194296 := by rw [← hvv, List.length_drop, hlen]; omega
  rw [hvv] at hv
  have H2 := Lib.hid hv
  obtain ⟨q, hq⟩ : ∃ q, s.data.toList.take 8 = q := ⟨_, rfl⟩
  have hql : q.length ≤ 8 := by rw [← hq, List.length_take]; omega
  have HU := Lib.hid (fun wz => (by have h := each_up (Txt q) wz (by rw [txt_size]; omega); rw [txt_list] at h; exact h : Calls Tryz.prog 89 #[.string (Txt q), .func (.func 90) #[] #[]] wz (RetNew (uprL q) wz)))
  rw [hq] at H1
  obtain ⟨B, hB⟩ : ∃ B, (uprL q == protoL) = B := ⟨_, rfl⟩
  have bB : (uprL q == [83, 73, 80, 47, 50, 46, 48, 47]) = B := hB
  have HV0 := Lib.hid (by unfold cutT; rw [hlen, decide_eq_true h8, hq, hB, hvv, Bool.true_and] : cutT s.data.toList = if B = true then cutV v else ([], [], false))
  clear hq hB hvv hv h8 hql
  cases B
  case false =>
    have HF := Lib.hid (by rw [HV0.out]; rfl : cutT s.data.toList = ([], [], false))
    go_enter Tryz.func71, Tryz.ntmps71
    go_wp2_with fail
    rw [H1.out]
    refine (HU.out _).mono ?_
    rintro e w1 ⟨rfl, hB1⟩
    have K1 := Lib.hid ((Kp.refl [] w).below hB1)
    clear hB1
    go_wp2_with fail
    go_ret3
    unfold T3P
    rw [HF.out]
    exact ⟨rfl, K1.out⟩
  case true =>
    have HV1 := Lib.hid (by rw [HV0.out]; rfl : cutT s.data.toList = cutV v)
    obtain ⟨te, hte⟩ : ∃ te, tokE v 0 = te := ⟨_, rfl⟩
    obtain ⟨f, hf⟩ : ∃ f, blkE v te = f := ⟨_, rfl⟩
    have htl : te ≤ v.length := by rw [← hte]; exact tokE_len v 0 (Nat.zero_le _)
    have hfl : f ≤ v.length := by rw [← hf]; exact blkE_len v te htl
    have HTE := Lib.hid (fun wz => (by have h := tokEnd_c (Txt v) 0 wz (by rw [txt_size]; omega) (Nat.zero_le _); rw [txt_list, hte] at h; exact h : Calls Tryz.prog 100 #[.string (Txt v), .int .i64 0] wz (Ret (.int .i64 (te : Int)) wz)))
    have HBE := Lib.hid (fun wz => (by have h := blanks_c (Txt v) te wz (by rw [txt_size]; omega) (by rw [txt_size]; exact htl); rw [txt_list, hf] at h; exact h : Calls Tryz.prog 144 #[.string (Txt v), .int .i64 (te : Int)] wz (Ret (.int .i64 (f : Int)) wz)))
    have HV2 := Lib.hid (by rw [HV1.out]; unfold cutV; rw [hte, hf] : cutT s.data.toList = if (decide (te = 0) || decide (f = te)) = true then ([], [], false) else (uprL (v.take te), v.drop f, true))
    have H3 := Lib.hid (by have h := take_slc (Txt v) te; rw [txt_list] at h; exact h : (Txt v).extract 0 te = Txt (v.take te))
    have hsz : (Txt v).size = v.length := txt_size v
    have H4 := Lib.hid (by rw [slc_txt, txt_list, slc_full _ _ _ (by rw [txt_size]; exact Nat.le_refl _)] : (Txt v).extract f (Txt v).size = Txt (v.drop f))
    have HU2 := Lib.hid (fun wz => (by have h := each_up (Txt (v.take te)) wz (by rw [txt_size, List.length_take]; omega); rw [txt_list] at h; exact h : Calls Tryz.prog 89 #[.string (Txt (v.take te)), .func (.func 90) #[] #[]] wz (RetNew (uprL (v.take te)) wz)))
    have b1 : (te : Int) ≤ ((Txt v).size : Int) := by omega
    have b2 : (f : Int) ≤ ((Txt v).size : Int) := by omega
    obtain ⟨X, hX⟩ : ∃ X, Txt v = X := ⟨_, rfl⟩
    rw [hX] at H2 HTE HBE H3 H4 b1 b2
    clear hX hsz htl hfl hte hf hvl
    by_cases h0 : te = 0
    · have HF := Lib.hid (by rw [HV2.out, decide_eq_true h0]; rfl : cutT s.data.toList = ([], [], false))
      have c0 : ((te : Int) == 0) = true := by rw [h0]; rfl
      clear h0
      go_enter Tryz.func71, Tryz.ntmps71
      go_wp2_with fail
      rw [H1.out]
      refine (HU.out _).mono ?_
      rintro e w1 ⟨rfl, hB1⟩
      have K1 := Lib.hid ((Kp.refl [] w).below hB1)
      clear hB1
      go_wp2_with fail
      rw [H2.out]
      refine (HTE.out _).mono ?_
      rintro e w2 ⟨rfl, hw⟩
      obtain rfl := hw
      go_wp2_with fail
      refine (HBE.out _).mono ?_
      rintro e w2 ⟨rfl, hw⟩
      obtain rfl := hw
      go_wp2_with fail
      go_ret3
      unfold T3P
      rw [HF.out]
      exact ⟨rfl, K1.out⟩
    by_cases h1 : f = te
    · have HF := Lib.hid (by rw [HV2.out, decide_eq_false h0, decide_eq_true h1]; rfl : cutT s.data.toList = ([], [], false))
      have c0 : ((te : Int) == 0) = false := by rw [beq_eq_false_iff_ne]; omega
      have c1 : ((f : Int) == (te : Int)) = true := by rw [h1]; exact beq_self_eq_true _
      clear h0 h1
      go_enter Tryz.func71, Tryz.ntmps71
      go_wp2_with fail
      rw [H1.out]
      refine (HU.out _).mono ?_
      rintro e w1 ⟨rfl, hB1⟩
      have K1 := Lib.hid ((Kp.refl [] w).below hB1)
      clear hB1
      go_wp2_with fail
      rw [H2.out]
      refine (HTE.out _).mono ?_
      rintro e w2 ⟨rfl, hw⟩
      obtain rfl := hw
      go_wp2_with fail
      refine (HBE.out _).mono ?_
      rintro e w2 ⟨rfl, hw⟩
      obtain rfl := hw
      go_wp2_with fail
      go_ret3
      unfold T3P
      rw [HF.out]
      exact ⟨rfl, K1.out⟩
    · have HF := Lib.hid (by rw [HV2.out, decide_eq_false h0, decide_eq_false h1]; rfl : cutT s.data.toList = (uprL (v.take te), v.drop f, true))
      have c0 : ((te : Int) == 0) = false := by rw [beq_eq_false_iff_ne]; omega
      have c1 : ((f : Int) == (te : Int)) = false := by rw [beq_eq_false_iff_ne]; omega
      clear h0 h1
      go_enter Tryz.func71, Tryz.ntmps71
      go_wp2_with fail
      rw [H1.out]
      refine (HU.out _).mono ?_
      rintro e w1 ⟨rfl, hB1⟩
      have K1 := Lib.hid ((Kp.refl [] w).below hB1)
      clear hB1
      go_wp2_with fail
      rw [H2.out]
      refine (HTE.out _).mono ?_
      rintro e w2 ⟨rfl, hw⟩
      obtain rfl := hw
      go_wp2_with fail
      refine (HBE.out _).mono ?_
      rintro e w2 ⟨rfl, hw⟩
      obtain rfl := hw
      go_upto_region 8 with fail
      go_region_with ((go_at_call 89; rw [H3.out]; refine (HU2.out _).mono ?_; rintro e w3 ⟨rfl, hB3⟩; have K3 := Lib.hid (K1.out.drew.below hB3); clear hB3))
      all_goals
        go_wp2_with fail
        go_ret3
        unfold T3P
        rw [HF.out, ← H4.out]
        exact ⟨rfl, K3.out⟩
/-- Whether the last colon stands behind the last bracket; the host's part. -/
def hasP (l : List UInt8) : Bool := decide (Lib.lastIndexByte (Txt l) 93 < Lib.lastIndexByte (Txt l) 58)
def colP (l : List UInt8) : Nat := (Lib.lastIndexByte (Txt l) 58).toNat
def nameP (l : List UInt8) : List UInt8 := if hasP l = true then l.take (colP l) else l
def plN (h : List UInt8) (N X : Int) : List UInt8 × Int × Int := if X ≠ 0 then ([], 0, X) else if N < 1 ∨ 65535 < N then ([], 0, 3) else (h, N, 0)
def plO (l : List UInt8) (o : Option (List UInt8)) : List UInt8 × Int × Int :=
  match o with
  | none => ([], 0, 5)
  | some h => if hasP l = true then plN h (numN (l.drop (colP l + 1))) (numE (l.drop (colP l + 1))) else (h, 0, 0)
def plR (l : List UInt8) : List UInt8 × Int × Int := plO l (hostO (nameP l))
def PlP (r : List UInt8 × Int × Int) (w : World) (e : Ending) (w' : World) : Prop := e = .returned (.tuple #[.string (Txt r.1), .int .i64 r.2.1, .int .u8 r.2.2]) ∧ Kp [] w w'
set_option maxRecDepth 100000 in
set_option maxHeartbeats 4000000 in
theorem readPlace_any (s : ByteArray) (w : World) (hs : s.size ≤ 2097152) (E : Env w) :
    Calls Tryz.prog 74 #[.string s] w (PlP (plR s.data.toList) w) := by
  have HLa := Lib.hid (fun (c : Int) wz => (Tryz.strings_LastIndexByte s c (by omega) wz : Calls Tryz.prog 147 #[.string s, .int .u8 c] wz fun e w' => e = .returned (.int .i64 (Lib.lastIndexByte s c)) ∧ w' = wz))
  have HE := Lib.hid E
  have hlen := len_list s
  have hsp := Lib.lastIndexByte_spec s 58
  have hsp2 := Lib.lastIndexByte_spec s 93
  have hh : hasP s.data.toList = decide (Lib.lastIndexByte s 93 < Lib.lastIndexByte s 58) := by unfold hasP; rw [txt_self]
  have hcc : colP s.data.toList = (Lib.lastIndexByte s 58).toNat := by unfold colP; rw [txt_self]
  have HC := Lib.hid (HLa.out 58)
  have HD := Lib.hid (HLa.out 93)
  obtain ⟨C, hC⟩ : ∃ C, Lib.lastIndexByte s 58 = C := ⟨_, rfl⟩
  obtain ⟨D, hD⟩ : ∃ D, Lib.lastIndexByte s 93 = D := ⟨_, rfl⟩
  have bD : -1 ≤ D := by rcases hsp2 with ⟨h, _⟩ | ⟨i, _, h, _⟩ <;> omega
  have bC : -1 ≤ C ∧ C < s.size := by rcases hsp with ⟨h, _⟩ | ⟨i, _, h, _⟩ <;> omega
  rw [hC, hD] at hh
  rw [hC] at hcc
  rw [hC] at HC
  rw [hD] at HD
  clear hC hD hsp hsp2 E HLa
  by_cases hp : D < C
  case neg =>
    have bdc := decide_eq_false hp
    rw [bdc] at hh
    clear hp
    have hn : nameP s.data.toList = s.data.toList := by unfold nameP; rw [hh]; rfl
    have HHo := Lib.hid (fun wz (h : Env wz) => Host_any s wz hs h)
    have HV := Lib.hid (by unfold plR plO; rw [hn, hh]; rfl : plR s.data.toList = match hostO s.data.toList with | none => ([], 0, 5) | some h => (h, 0, 0))
    clear hh hcc hn bD bC hlen
    cases ho : hostO s.data.toList with
    | none =>
      rw [ho] at HHo HV
      have HF := Lib.hid HV.out
      clear ho HV
      go_enter Tryz.func74, Tryz.ntmps74
      go_wp2_with fail
      refine (HC.out _).mono ?_
      rintro e w1 ⟨rfl, hw⟩
      obtain rfl := hw.symm
      go_wp2_with fail
      refine (HD.out _).mono ?_
      rintro e w1 ⟨rfl, hw⟩
      obtain rfl := hw.symm
      go_wp2_with fail
      refine (HHo.out _ HE.out).mono ?_
      rintro e w1 ⟨rfl, hB1⟩
      have K1 := Lib.hid ((Kp.refl [] _).below hB1)
      clear hB1
      dsimp only [Option.getD, Option.isSome]
      go_wp2_with fail
      go_ret3
      unfold PlP
      rw [HF.out]
      exact ⟨rfl, K1.out⟩
    | some h =>
      rw [ho] at HHo HV
      have HF := Lib.hid HV.out
      clear ho HV
      go_enter Tryz.func74, Tryz.ntmps74
      go_wp2_with fail
      refine (HC.out _).mono ?_
      rintro e w1 ⟨rfl, hw⟩
      obtain rfl := hw.symm
      go_wp2_with fail
      refine (HD.out _).mono ?_
      rintro e w1 ⟨rfl, hw⟩
      obtain rfl := hw.symm
      go_wp2_with fail
      refine (HHo.out _ HE.out).mono ?_
      rintro e w1 ⟨rfl, hB1⟩
      have K1 := Lib.hid ((Kp.refl [] _).below hB1)
      clear hB1
      dsimp only [Option.getD, Option.isSome]
      go_wp2_with fail
      go_ret3
      unfold PlP
      rw [HF.out]
      exact ⟨rfl, K1.out⟩
  case pos =>
    rw [decide_eq_true hp] at hh
    obtain ⟨k, rfl⟩ : ∃ k : Nat, C = (k : Int) := ⟨C.toNat, by omega⟩
    rw [Int.toNat_natCast] at hcc
    have hks : k < s.size := by omega
    have hn : nameP s.data.toList = s.data.toList.take k := by unfold nameP; rw [hh, hcc]; rfl
    have H1 := Lib.hid (take_slc s k)
    have hsl : s.extract (k + 1) s.size = Txt (s.data.toList.drop (k + 1)) := by rw [slc_txt, slc_full _ _ _ (by rw [hlen]; exact Nat.le_refl _)]
    obtain ⟨m, hm⟩ : ∃ m, k + 1 = m := ⟨_, rfl⟩
    have hmc : (k : Int) + 1 = (m : Int) := by omega
    have bm : (m : Int) ≤ (s.size : Int) := by omega
    have bk : (k : Int) ≤ (s.size : Int) := by omega
    rw [hm] at hsl
    have H2 := Lib.hid hsl
    obtain ⟨q, hq⟩ : ∃ q, s.data.toList.take k = q := ⟨_, rfl⟩
    obtain ⟨t, ht⟩ : ∃ t, s.data.toList.drop m = t := ⟨_, rfl⟩
    have hql : q.length ≤ 2097152 := by rw [← hq, List.length_take]; omega
    have htl : t.length ≤ 2097152 := by rw [← ht, List.length_drop]; omega
    rw [hq] at H1 hn
    rw [ht] at H2
    have HHo := Lib.hid (fun wz (h : Env wz) => (by have h := Host_any (Txt q) wz (by rw [txt_size]; exact hql) h; rw [txt_list] at h; exact h : Calls Tryz.prog 52 #[.string (Txt q)] wz (HoP (hostO q) wz)))
    have HNu := Lib.hid (fun wz => (by have h := number_q (Txt t) wz (by rw [txt_size]; exact htl); rw [txt_list] at h; exact h : Calls Tryz.prog 95 #[.string (Txt t)] wz fun e w' => e = .returned (.tuple #[.int .i64 (numN t), .int .u8 (numE t)]) ∧ w' = wz))
    have hdr : s.data.toList.drop (colP s.data.toList + 1) = t := by rw [hcc, hm, ht]
    have HV := Lib.hid (by unfold plR plO; rw [hn, hh, hdr]; rfl : plR s.data.toList = match hostO q with | none => ([], 0, 5) | some h => plN h (numN t) (numE t))
    obtain ⟨N, hN⟩ : ∃ N, numN t = N := ⟨_, rfl⟩
    obtain ⟨X, hX⟩ : ∃ X, numE t = X := ⟨_, rfl⟩
    rw [hN, hX] at HNu HV
    clear hN hX hdr hql htl hq ht hsl hm hn hh hcc hks bD bC hlen
    cases ho : hostO q with
    | none =>
      rw [ho] at HHo HV
      have HF := Lib.hid HV.out
      clear ho HV
      go_enter Tryz.func74, Tryz.ntmps74
      go_wp2_with fail
      refine (HC.out _).mono ?_
      rintro e w1 ⟨rfl, hw⟩
      obtain rfl := hw.symm
      go_wp2_with fail
      refine (HD.out _).mono ?_
      rintro e w1 ⟨rfl, hw⟩
      obtain rfl := hw.symm
      go_wp2_with fail
      rw [H1.out]
      refine (HHo.out _ HE.out).mono ?_
      rintro e w1 ⟨rfl, hB1⟩
      have K1 := Lib.hid ((Kp.refl [] _).below hB1)
      clear hB1
      dsimp only [Option.getD, Option.isSome]
      go_wp2_with fail
      go_ret3
      unfold PlP
      rw [HF.out]
      exact ⟨rfl, K1.out⟩
    | some h =>
      rw [ho] at HHo HV
      have HV2 := Lib.hid (HV.out : plR s.data.toList = plN h N X)
      clear ho HV
      have hb : ((X == 0) = false ∧ (X != 0) = true ∧ plN h N X = ([], 0, X)) ∨ ((X == 0) = true ∧ (X != 0) = false ∧ ((N < 1 ∧ plN h N X = ([], 0, 3)) ∨ (¬ N < 1 ∧ 65535 < N ∧ plN h N X = ([], 0, 3)) ∨ (¬ N < 1 ∧ ¬ 65535 < N ∧ plN h N X = (h, N, 0)))) := by
        unfold plN
        by_cases hx : X = 0
        · right
          subst hx
          refine ⟨rfl, rfl, ?_⟩
          by_cases h1 : N < 1
          · exact .inl ⟨h1, by rw [if_neg (by simp), if_pos (.inl h1)]⟩
          · by_cases h2 : 65535 < N
            · exact .inr (.inl ⟨h1, h2, by rw [if_neg (by simp), if_pos (.inr h2)]⟩)
            · exact .inr (.inr ⟨h1, h2, by rw [if_neg (by simp), if_neg (by omega)]⟩)
        · exact .inl ⟨beq_eq_false_iff_ne.2 hx, bne_iff_ne.2 hx, if_pos hx⟩
      rcases hb with ⟨x1, x2, hr⟩ | ⟨x1, x2, ⟨n1, hr⟩ | ⟨n1, n2, hr⟩ | ⟨n1, n2, hr⟩⟩
      all_goals
        have HF := Lib.hid (HV2.out.trans hr)
        clear hr
        go_enter Tryz.func74, Tryz.ntmps74
        go_wp2_with fail
        refine (HC.out _).mono ?_
        rintro e w1 ⟨rfl, hw⟩
        obtain rfl := hw.symm
        go_wp2_with fail
        refine (HD.out _).mono ?_
        rintro e w1 ⟨rfl, hw⟩
        obtain rfl := hw.symm
        go_wp2_with fail
        rw [H1.out]
        refine (HHo.out _ HE.out).mono ?_
        rintro e w1 ⟨rfl, hB1⟩
        have K1 := Lib.hid ((Kp.refl [] _).below hB1)
        clear hB1
        dsimp only [Option.getD, Option.isSome]
        go_wp2_with fail
        rw [H2.out]
        refine (HNu.out _).mono ?_
        rintro e w2 ⟨rfl, hw⟩
        obtain rfl := hw.symm
        go_wp2_with fail
        go_ret3
        unfold PlP
        rw [HF.out]
        exact ⟨rfl, K1.out⟩
end Ad
end Go.Proofs.YtmmjfofdnpafkaaGreatDoor
/- Contract of Via of package header. A text has at most 2^20 bytes. -/
namespace Go.Proofs.YtmmjfofdnpafkaaGreatDoor
namespace Ad
open Go.RowKit Lx

/-- Transport, host, port, branch and parameters. -/
structure Vi where
  tr : List UInt8
  host : List UInt8
  port : Int
  br : List UInt8
  pm : List Prm
deriving DecidableEq
def nilV : Vi := ⟨[], [], 0, [], []⟩
def brN : List UInt8 := [98, 114, 97, 110, 99, 104]
def viP (tr h : List UInt8) (p : Int) (r : List Prm × Nat × Int) : Vi × Int := if r.2.2 ≠ 0 then (nilV, r.2.2) else (⟨tr, h, p, getV r.1 brN, r.1⟩, 0)
def viH (tr ls : List UInt8) (h : List UInt8 × Int × Int) : Vi × Int := if h.2.2 ≠ 0 then (nilV, h.2.2) else viP tr h.1 h.2.1 (parR ls)
def endV (c : Int) : Bool := c == 59 || (c == 32 || c == 9)
def viT (c : List UInt8 × List UInt8 × Bool) : Vi × Int := if c.2.2 = true then viH c.1 (c.2.1.drop (endP endV c.2.1 0)) (plR (c.2.1.take (endP endV c.2.1 0))) else (nilV, 5)
def viaR (l : List UInt8) : Vi × Int := viT (cutT (trS l))
def ViE (r : Vi × Int) (w : World) (e : Ending) (w' : World) : Prop := ∃ v, e = .returned (.tuple #[.agg #[.string (Txt r.1.tr), .string (Txt r.1.host), .int .i64 r.1.port, .string (Txt r.1.br), v], .int .u8 r.2]) ∧ PmIn w'.heap.size w' v r.1.pm ∧ Kp [] w w'
def Zvb (w : World) (g : Nat) : Prop := Blk w g 33 #[.string ⟨#[]⟩, .string ⟨#[]⟩, .int .i64 0, .string ⟨#[]⟩, .slice none 0 0]
theorem Zvb.nob {w : World} {g : Nat} (h : Zvb w g) : NoB w g := by
  intro i t hc
  rw [Blk.cell h i] at hc
  match i, hc with
  | 0, hc => simp at hc
  | 1, hc => simp at hc
  | 2, hc => simp at hc
  | 3, hc => simp at hc
  | 4, hc => simp at hc
  | i + 5, hc => simp at hc
theorem Zvb.kp {X : List Nat} {w w' : World} {g : Nat} (h : Zvb w g) (k : Kp X w w') (hg : g ∉ X) : Zvb w' g := Blk.kp h k hg
theorem infoVia : (Tryz.prog.info? 33).map (·.size) = some 5 := by kernel_rfl
theorem blk5 {w : World} {g : Nat} {c0 c1 c2 c3 c4 : Value} (h : Blk w g 33 #[c0, c1, c2, c3, c4]) (x0 x1 x2 x3 x4 : Value) :
    Blk (((((w.setCell ⟨g, 0, none⟩ x0).setCell ⟨g, 1, none⟩ x1).setCell ⟨g, 2, none⟩ x2).setCell ⟨g, 3, none⟩ x3).setCell ⟨g, 4, none⟩ x4) g 33 #[x0, x1, x2, x3, x4] :=
  ((((h.set_ 0 x0).set_ 1 x1).set_ 2 x2).set_ 3 x3).set_ 4 x4
theorem kp5 {X : List Nat} {a w : World} (h : Kp X a w) {g : Nat} (hg : g ∈ X ∨ a.heap.size ≤ g) (x0 x1 x2 x3 x4 : Value) :
    Kp X a (((((w.setCell ⟨g, 0, none⟩ x0).setCell ⟨g, 1, none⟩ x1).setCell ⟨g, 2, none⟩ x2).setCell ⟨g, 3, none⟩ x3).setCell ⟨g, 4, none⟩ x4) :=
  ((((h.setCell (p := ⟨g, 0, none⟩) hg x0).setCell (p := ⟨g, 1, none⟩) hg x1).setCell (p := ⟨g, 2, none⟩) hg x2).setCell (p := ⟨g, 3, none⟩) hg x3).setCell (p := ⟨g, 4, none⟩) hg x4
theorem via_fin (g : Nat) (w wx : World) (r : Vi × Int) (T H B : ByteArray) (p x : Int) (A : Option Addr) (n c : Nat) (hT : Txt r.1.tr = T) (hH : Txt r.1.host = H) (hp : r.1.port = p) (hB : Txt r.1.br = B) (hx : r.2 = x) (hP : PmIn wx.heap.size wx (.slice A n c) r.1.pm) (K : Kp [] w wx) (hg : w.heap.size ≤ g) (Z : Zvb wx g) :
    ViE r w (.returned (.tuple #[.agg #[.string T, .string H, .int .i64 p, .string B, .slice A n c], .int .u8 x])) (((((wx.setCell ⟨g, 0, none⟩ (.string T)).setCell ⟨g, 1, none⟩ (.string H)).setCell ⟨g, 2, none⟩ (.int .i64 p)).setCell ⟨g, 3, none⟩ (.string B)).setCell ⟨g, 4, none⟩ (.slice A n c)) := by
  subst hT hH hp hB hx
  exact ⟨_, rfl, hP.grow (kp5 (Kp.refl [g] wx) (g := g) (.inl (by simp)) _ _ _ _ _) (by intro y hy; rw [List.mem_singleton.1 hy]; exact Z.nob), kp5 K (.inr hg) _ _ _ _ _⟩
theorem cutT_len (l : List UInt8) : (cutT l).2.1.length ≤ l.length := by
  unfold cutT
  split
  · unfold cutV
    split
    · exact Nat.zero_le _
    · dsimp only; rw [List.length_drop, List.length_drop]; omega
  · exact Nat.zero_le _
theorem mem_endV (c : Int) : memB (ByteArray.mk #[59, 32, 9]).data.toList c = endV c := by
  unfold memB endV
  simp only [List.any_cons, List.any_nil, Bool.or_false]
  have e : ∀ n : Nat, ((n : Int) == c) = (c == (n : Int)) := fun n => by rw [Bool.eq_iff_iff]; simp only [beq_iff_eq]; exact eq_comm
  rw [show (((59 : UInt8).toNat : Int)) = 59 from rfl, show (((32 : UInt8).toNat : Int)) = 32 from rfl, show (((9 : UInt8).toNat : Int)) = 9 from rfl]
  rw [show ((59 : Int) == c) = (c == 59) from e 59, show ((32 : Int) == c) = (c == 32) from e 32, show ((9 : Int) == c) = (c == 9) from e 9]
set_option maxRecDepth 100000 in
set_option maxHeartbeats 4000000 in
theorem via_big (s : ByteArray) (w : World) (hs : s.size ≤ 4194304) (h1 : ((cutT (trS s.data.toList)).2.1.take (endP endV (cutT (trS s.data.toList)).2.1 0)).length ≤ 2097152) (h2 : ((cutT (trS s.data.toList)).2.1.drop (endP endV (cutT (trS s.data.toList)).2.1 0)).length ≤ 2097152)
    (h3 : SzP (parR ((cutT (trS s.data.toList)).2.1.drop (endP endV (cutT (trS s.data.toList)).2.1 0))).1) (E : Env w) :
    Calls Tryz.prog 20 #[.string s] w (ViE (viaR s.data.toList) w) := by
  obtain ⟨t, ht⟩ : ∃ t, trS s.data.toList = t := ⟨_, rfl⟩
  rw [ht] at h1 h2 h3
  have htl : t.length ≤ 4194304 := by rw [← ht]; have := trS_len s.data.toList; rw [len_list] at this; omega
  have hcl := cutT_len t
  obtain ⟨tr, rs, ok, hc⟩ : ∃ a b c, cutT t = (a, b, c) := ⟨_, _, _, rfl⟩
  rw [hc] at h1 h2 h3
  dsimp only at h1 h2 h3
  have hcu := fun wz => cutTransport_big (Txt t) wz (by rw [txt_size]; omega)
  rw [txt_list, hc] at hcu
  have HCu := Lib.hid hcu
  rw [hc] at hcl
  dsimp only at hcl
  obtain ⟨k, hk⟩ : ∃ k, endP endV rs 0 = k := ⟨_, rfl⟩
  rw [hk] at h1 h2 h3
  have hcb := fun wz => cutBefore_big endV (Txt rs) ⟨#[59, 32, 9]⟩ wz (by rw [txt_size]; omega) (by decide) (by decide) (ascii_of_all (by decide)) mem_endV
  rw [txt_list, hk] at hcb
  have HCb := Lib.hid hcb
  have HT := Lib.hid (fun wz => (by have h := trimmed_big s wz (by omega); rw [ht] at h; exact h : Calls Tryz.prog 72 #[.string s] wz (TxK t wz)))
  obtain ⟨q, hq⟩ : ∃ q, rs.take k = q := ⟨_, rfl⟩
  obtain ⟨ls, hls⟩ : ∃ q, rs.drop k = q := ⟨_, rfl⟩
  rw [hq] at h1
  rw [hls] at h2 h3
  have hql : q.length ≤ 2097152 := h1
  have hll : ls.length ≤ 2097152 := h2
  obtain ⟨h, p, x, hpl⟩ : ∃ a b c, plR q = (a, b, c) := ⟨_, _, _, rfl⟩
  have hpp := fun wz (hE : Env wz) => readPlace_any (Txt q) wz (by rw [txt_size]; omega) hE
  rw [txt_list, hpl] at hpp
  have HPl := Lib.hid hpp
  obtain ⟨pm, off, y, hpa⟩ : ∃ a b c, parR ls = (a, b, c) := ⟨_, _, _, rfl⟩
  have hsz : SzP pm := by rw [hpa] at h3; exact h3
  clear h1 h2 h3
  have hpar := fun wz (hE : Env wz) => Params_any (Txt ls) wz (by rw [txt_size]; omega) hE
  rw [txt_list, hpa] at hpar
  have HPa := Lib.hid hpar
  have HV := Lib.hid (by unfold viaR; rw [ht, hc]; unfold viT; rw [hk, hq, hls, hpl]; unfold viH; rw [hpa]; unfold viP; rfl : viaR s.data.toList = if ok = true then (if x ≠ 0 then (nilV, x) else if y ≠ 0 then (nilV, y) else (⟨tr, h, p, getV pm brN, pm⟩, 0)) else (nilV, 5))
  have Hsz := Lib.hid hsz
  have HE := Lib.hid E
  obtain ⟨w0, hw0⟩ : ∃ x, w.alloc (.cells #[.string ⟨#[]⟩, .string ⟨#[]⟩, .int .i64 0, .string ⟨#[]⟩, .slice none 0 0] 33) = x := ⟨_, rfl⟩
  have K0 := Lib.hid (show Kp [] w w0 from by rw [← hw0]; exact (Kp.refl _ _).alloc _)
  have Z0 := Lib.hid (show Zvb w0 w.heap.size from by rw [← hw0]; exact Blk.new w 33 _)
  rw [hq, hls] at HCb
  clear hcl hc ht hcu hcb hk hq hls hql hll hpl hpp hpa hpar hsz E htl
  go_enter Tryz.func20, Tryz.ntmps20
  go_wp2_with fail
  refine (HT.out _).mono ?_
  rintro e w1 ⟨rfl, hK1⟩
  have K1 := Lib.hid (K0.out.trans hK1)
  have Z1 := Lib.hid (show Zvb w1 w.heap.size from Z0.out.kp hK1 (by simp))
  clear hK1
  go_wp2_with fail
  refine (HCu.out _).mono ?_
  rintro e w2 ⟨rfl, hK2⟩
  have K2 := Lib.hid (K1.out.trans hK2)
  have Z2 := Lib.hid (show Zvb w2 w.heap.size from Z1.out.kp hK2 (by simp))
  clear hK2
  dsimp only
  cases ok
  case false =>
    have HF := Lib.hid (HV.out.trans (if_neg (by decide)))
    have d0 := Z2.out.cell 0
    have d1 := Z2.out.cell 1
    have d2 := Z2.out.cell 2
    have d3 := Z2.out.cell 3
    have d4 := Z2.out.cell 4
    have g0 := Z2.out.frozen 0
    have g1 := Z2.out.frozen 1
    have g2 := Z2.out.frozen 2
    have g3 := Z2.out.frozen 3
    have g4 := Z2.out.frozen 4
    go_wp2_with fail
    refine bodyPost_ret (results_two rfl _ _ w.heap.size 33 _ (0, 0) _ rfl (blk5 Z2.out _ _ _ _ _) Tryz.underlying33 rfl infoVia) rfl ?_
    rw [HF.out]
    exact via_fin w.heap.size w _ _ _ _ _ _ _ _ _ _ rfl rfl rfl rfl rfl (PmIn.nil _ _) K2.out (Nat.le_refl _) Z2.out
  case true =>
    have HV1 := Lib.hid (HV.out.trans (if_pos rfl))
    go_wp2_with fail
    refine (HCb.out _).mono ?_
    rintro e w3 ⟨rfl, hK3⟩
    have K3 := Lib.hid (K2.out.trans hK3)
    have Z3 := Lib.hid (show Zvb w3 w.heap.size from Z2.out.kp hK3 (by simp))
    clear hK3
    go_wp2_with fail
    refine (HPl.out _ (HE.out.kp K3.out (by simp))).mono ?_
    rintro e w4 ⟨rfl, hK4⟩
    have K4 := Lib.hid (K3.out.trans hK4)
    have Z4 := Lib.hid (show Zvb w4 w.heap.size from Z3.out.kp hK4 (by simp))
    clear hK4
    dsimp only
    by_cases hx : x = 0
    case neg =>
      have HF := Lib.hid (HV1.out.trans (if_pos hx))
      have bx : (x != 0) = true := by rw [bne_iff_ne]; exact hx
      clear hx
      have d0 := Z4.out.cell 0
      have d1 := Z4.out.cell 1
      have d2 := Z4.out.cell 2
      have d3 := Z4.out.cell 3
      have d4 := Z4.out.cell 4
      have g0 := Z4.out.frozen 0
      have g1 := Z4.out.frozen 1
      have g2 := Z4.out.frozen 2
      have g3 := Z4.out.frozen 3
      have g4 := Z4.out.frozen 4
      go_wp2_with fail
      refine bodyPost_ret (results_two rfl _ _ w.heap.size 33 _ (0, 0) _ rfl (blk5 Z4.out _ _ _ _ _) Tryz.underlying33 rfl infoVia) rfl ?_
      rw [HF.out]
      exact via_fin w.heap.size w _ _ _ _ _ _ _ _ _ _ rfl rfl rfl rfl rfl (PmIn.nil _ _) K4.out (Nat.le_refl _) Z4.out
    case pos =>
      have HV2 := Lib.hid (HV1.out.trans (if_neg (fun h => h hx)))
      have bx : (x != 0) = false := by rw [hx]; rfl
      clear hx
      go_wp2_with fail
      refine (HPa.out _ (HE.out.kp K4.out (by simp))).mono ?_
      rintro e w5 ⟨v, rfl, hP5, hB5, hl5⟩
      have hK5 := (Kp.refl [] w4).below hB5
      have K5 := Lib.hid (K4.out.trans hK5)
      have Z5 := Lib.hid (show Zvb w5 w.heap.size from Z4.out.kp hK5 (by simp))
      dsimp only at hP5 hl5 ⊢
      obtain ⟨A, c, rfl⟩ := hP5.form
      have HGe := Lib.hid (get_any w5.heap.size (.slice A pm.length c) pm brN w5 hP5 (Nat.le_refl _) Hsz.out (by omega) (by decide))
      obtain ⟨n, hn⟩ : ∃ n, pm.length = n := ⟨_, rfl⟩
      rw [hn] at hP5 HGe ⊢
      have P5 := Lib.hid hP5
      clear hK5 hB5 hP5 hl5 hn
      by_cases hy : y = 0
      case neg =>
        have HF := Lib.hid (HV2.out.trans (if_pos hy))
        have by_ : (y != 0) = true := by rw [bne_iff_ne]; exact hy
        clear hy
        have d0 := Z5.out.cell 0
        have d1 := Z5.out.cell 1
        have d2 := Z5.out.cell 2
        have d3 := Z5.out.cell 3
        have d4 := Z5.out.cell 4
        have g0 := Z5.out.frozen 0
        have g1 := Z5.out.frozen 1
        have g2 := Z5.out.frozen 2
        have g3 := Z5.out.frozen 3
        have g4 := Z5.out.frozen 4
        go_wp2_with fail
        refine bodyPost_ret (results_two rfl _ _ w.heap.size 33 _ (0, 0) _ rfl (blk5 Z5.out _ _ _ _ _) Tryz.underlying33 rfl infoVia) rfl ?_
        rw [HF.out]
        exact via_fin w.heap.size w _ _ _ _ _ _ _ _ _ _ rfl rfl rfl rfl rfl (PmIn.nil _ _) K5.out (Nat.le_refl _) Z5.out
      case pos =>
        have HF := Lib.hid (HV2.out.trans (if_neg (fun h => h hy)))
        have by_ : (y != 0) = false := by rw [hy]; rfl
        clear hy
        go_wp2_with fail
        refine HGe.out.mono ?_
        rintro e w6 ⟨rfl, hK6⟩
        have K6 := Lib.hid (K5.out.trans hK6)
        have Z6 := Lib.hid (show Zvb w6 w.heap.size from Z5.out.kp hK6 (by simp))
        have P6 := Lib.hid (P5.out.grow hK6 (by intro y hy; cases hy))
        clear hK6
        have d0 := Z6.out.cell 0
        have d1 := Z6.out.cell 1
        have d2 := Z6.out.cell 2
        have d3 := Z6.out.cell 3
        have d4 := Z6.out.cell 4
        have g0 := Z6.out.frozen 0
        have g1 := Z6.out.frozen 1
        have g2 := Z6.out.frozen 2
        have g3 := Z6.out.frozen 3
        have g4 := Z6.out.frozen 4
        go_wp2_with fail
        refine bodyPost_ret (results_two rfl _ _ w.heap.size 33 _ (0, 0) _ rfl (blk5 Z6.out _ _ _ _ _) Tryz.underlying33 rfl infoVia) rfl ?_
        rw [HF.out]
        exact via_fin w.heap.size w _ _ _ _ _ _ _ _ _ _ rfl rfl rfl rfl rfl (P6.out) K6.out (Nat.le_refl _) Z6.out
set_option maxRecDepth 100000 in
theorem via_any (s : ByteArray) (w : World) (hs : s.size ≤ 1048576) (E : Env w) :
    Calls Tryz.prog 20 #[.string s] w (ViE (viaR s.data.toList) w) := by
  have h1 := trS_len s.data.toList
  have h2 := cutT_len (trS s.data.toList)
  rw [len_list] at h1
  refine via_big s w (by omega) (by rw [List.length_take]; omega) (by rw [List.length_drop]; omega) ?_ E
  obtain ⟨ls, hls⟩ : ∃ q, (cutT (trS s.data.toList)).2.1.drop (endP endV (cutT (trS s.data.toList)).2.1 0) = q := ⟨_, rfl⟩
  have hll : ls.length ≤ 1048576 := by rw [← hls, List.length_drop]; omega
  rw [hls]
  intro z hz
  have := parF_sz ls (ls.length + 1) (blkE ls 0) [] (fun p hp => by cases hp) z hz
  omega
end Ad
end Go.Proofs.YtmmjfofdnpafkaaGreatDoor
/- Contract of awake of package dialtonelaw03: it returns true, and nothing that was there is changed. -/
namespace Go.Proofs.YtmmjfofdnpafkaaGreatDoor
namespace Ad
open Go.RowKit Lx

def hw1 : ByteArray := ⟨#[67, 65, 76, 76, 45, 105, 100]⟩
def hw2 : ByteArray := ⟨#[66, 111, 98, 60, 115, 105, 112, 58, 97, 64, 66, 62, 32, 44, 32, 60, 115, 105, 112, 58, 99, 59, 100, 62]⟩
def hw3 : ByteArray := ⟨#[115, 105, 112, 47, 50, 46, 48, 47, 117, 100, 112, 32, 104, 58, 53, 48, 54, 48, 59, 98, 114, 97, 110, 99, 104, 61, 122, 57]⟩
def hw4 : ByteArray := ⟨#[48, 48, 55, 32, 73, 78, 86, 73, 84, 69]⟩
def hx2 : List (List UInt8) := [[66, 111, 98, 60, 115, 105, 112, 58, 97, 64, 66, 62], [60, 115, 105, 112, 58, 99, 59, 100, 62]]
def ht2 : List UInt8 := [34, 66, 111, 98, 34, 32, 60, 115, 105, 112, 58, 97, 64, 98, 62, 44, 32, 60, 115, 105, 112, 58, 99, 59, 100, 62]
def hv3 : Vi := ⟨[85, 68, 80], [104], 5060, [122, 57], [([98, 114, 97, 110, 99, 104], [122, 57], true)]⟩
theorem hw1_is : canR hw1.data.toList = ([67, 97, 108, 108, 45, 73, 68], 0) := by decide +kernel
theorem hw2_can : canR (ByteArray.mk #[109]).data.toList = (conN, 0) := by decide +kernel
theorem hw2_kind : kindR conN = (1, true) := by decide +kernel
theorem hw2_list : listR hw2.data.toList = (hx2, 0) := by decide +kernel
theorem hw2_tidy : tidM (conN == conN) tidA hx2 = ([[34, 66, 111, 98, 34, 32, 60, 115, 105, 112, 58, 97, 64, 98, 62], [60, 115, 105, 112, 58, 99, 59, 100, 62]], 0) := by decide +kernel
theorem hw3_is : viaR hw3.data.toList = (hv3, 0) := by decide +kernel
theorem hw4_is : cseqR hw4.data.toList = (7, [73, 78, 86, 73, 84, 69], 0) := by decide +kernel
theorem txtl (l : List UInt8) : (Txt l).toList = l := by rw [Lib.toList_data, txt_list]
set_option maxRecDepth 100000 in
set_option maxHeartbeats 4000000 in
theorem hawake_any (w : World) (H : HEnv w) : Calls Tryz.prog 19 #[] w (BoK true w) := by
  have HC1 := Lib.hid (fun wz (hz : HEnv wz) => (by have h := canon_any hw1 wz (by decide) hz; rw [hw1_is] at h; exact h : Calls Tryz.prog 58 #[.string ⟨#[67, 65, 76, 76, 45, 105, 100]⟩] wz (TxE ([67, 97, 108, 108, 45, 73, 68], 0) wz)))
  have HC2 := Lib.hid (fun wz (hz : HEnv wz) => (by
    have h := tidy_many ⟨#[109]⟩ hw2 conN hx2 1 tidA wz (by decide) (by decide) hz hw2_can hw2_kind hw2_list (by decide) (by decide) (by decide)
      (fun y wy hy hE => by have h := tidyOne_adr (Txt y) wy (by rw [txt_size]; exact hy) hE.env; rw [txt_list] at h; exact h) (by rw [hw2_tidy]; decide)
    rw [hw2_tidy] at h
    rw [show tidJ ([[34, 66, 111, 98, 34, 32, 60, 115, 105, 112, 58, 97, 64, 98, 62], [60, 115, 105, 112, 58, 99, 59, 100, 62]], 0) = (ht2, 0) by decide +kernel] at h
    exact h : Calls Tryz.prog 50 #[.string ⟨#[109]⟩, .string ⟨#[66, 111, 98, 60, 115, 105, 112, 58, 97, 64, 66, 62, 32, 44, 32, 60, 115, 105, 112, 58, 99, 59, 100, 62]⟩] wz (TxE (ht2, 0) wz)))
  have HC3 := Lib.hid (fun wz (hz : HEnv wz) => (by have h := via_any hw3 wz (by decide) hz.env; rw [hw3_is] at h; exact h : Calls Tryz.prog 20 #[.string ⟨#[115, 105, 112, 47, 50, 46, 48, 47, 117, 100, 112, 32, 104, 58, 53, 48, 54, 48, 59, 98, 114, 97, 110, 99, 104, 61, 122, 57]⟩] wz (ViE (hv3, 0) wz)))
  have HC4 := Lib.hid (fun wz => (by have h := cseq_any hw4 wz (by decide); rw [hw4_is] at h; exact h : Calls Tryz.prog 25 #[.string ⟨#[48, 48, 55, 32, 73, 78, 86, 73, 84, 69]⟩] wz (LeP (7, [73, 78, 86, 73, 84, 69], 0) wz)))
  have Ht2 := Lib.hid (by rfl : ht2 = [34, 66, 111, 98, 34, 32, 60, 115, 105, 112, 58, 97, 64, 98, 62, 44, 32, 60, 115, 105, 112, 58, 99, 59, 100, 62])
  have HE := Lib.hid H
  clear H
  go_enter Tryz.func19, Tryz.ntmps19
  go_wp2_with fail
  refine (HC1.out _ HE.out).mono ?_
  rintro e w1 ⟨rfl, hK1⟩
  have K1 := Lib.hid hK1
  clear hK1
  dsimp only
  go_wp2_with fail
  refine (HC2.out _ (HE.out.kp K1.out (by simp))).mono ?_
  rintro e w2 ⟨rfl, hK2⟩
  have K2 := Lib.hid (K1.out.trans hK2)
  clear hK2
  dsimp only
  rw [Ht2.out]
  go_wp2_with fail
  refine (HC3.out _ (HE.out.kp K2.out (by simp))).mono ?_
  rintro e w3 ⟨v, rfl, hP, hK3⟩
  have K3 := Lib.hid (K2.out.trans hK3)
  obtain ⟨A, c, rfl⟩ := hP.form
  dsimp only [hv3]
  rw [show ([([98, 114, 97, 110, 99, 104], [122, 57], true)] : List Prm).length = 1 from rfl]
  obtain ⟨g, hg⟩ : ∃ x, w3.heap.size = x := ⟨_, rfl⟩
  obtain ⟨w4, hw4⟩ : ∃ x, w3.alloc (.cells #[.string (Txt [85, 68, 80]), .string (Txt [104]), .int .i64 5060, .string (Txt [122, 57]), .slice A 1 c] 33) = x := ⟨_, rfl⟩
  have hKa : Kp [] w3 w4 := by rw [← hw4]; exact (Kp.refl _ _).alloc _
  have K4 := Lib.hid (K3.out.trans hKa)
  have B4 := Lib.hid (show Blk w4 g 33 #[.string (Txt [85, 68, 80]), .string (Txt [104]), .int .i64 5060, .string (Txt [122, 57]), .slice A 1 c] from by rw [← hw4, ← hg]; exact Blk.new w3 _ _)
  clear hKa hP hK3
  go_upto_region 4 with fail
  try rw [hw4]
  go_wp2_with fail
  refine (HC4.out _).mono ?_
  rintro e w5 ⟨rfl, hK5⟩
  have K5 := Lib.hid (K4.out.trans hK5)
  have B5 := Lib.hid (B4.out.kp hK5 (by simp))
  clear hK5 hw4
  dsimp only
  have u0 := B5.out.cell 0
  have u1 := B5.out.cell 1
  have u2 := B5.out.cell 2
  have u3 := B5.out.cell 3
  have u4 := B5.out.cell 4
  have t1 := txtl [67, 97, 108, 108, 45, 73, 68]
  have t2 := txtl [34, 66, 111, 98, 34, 32, 60, 115, 105, 112, 58, 97, 64, 98, 62, 44, 32, 60, 115, 105, 112, 58, 99, 59, 100, 62]
  have t3 := txtl [85, 68, 80]
  have t4 := txtl [104]
  have t5 := txtl [122, 57]
  have t6 := txtl [73, 78, 86, 73, 84, 69]
  go_wp2_with fail
  go_ret
  exact ⟨rfl, K5.out⟩
end Ad
end Go.Proofs.YtmmjfofdnpafkaaGreatDoor
