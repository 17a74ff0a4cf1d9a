/- Contract of PrintAddress of package address. Texts have at most 2^20 bytes. -/
import Derived.Test.YtmmjfofdnpafkaaGreatDoorAdPw
import Derived.Test.YtmmjfofdnpafkaaGreatDoorM8
namespace Go.Proofs.YtmmjfofdnpafkaaGreatDoor
namespace Ad
open Go.RowKit Lx

/-- An address of moderate size. -/
structure SzA (a : Adr) : Prop where
  display : a.display.length ≤ 1048576
  uri : SzU a.uri
  host : a.uri.host.length ≤ 1048576
  params : a.params.length ≤ 2097152
  ps : SzP a.params
theorem sz_one (c : UInt8) : (⟨#[c]⟩ : ByteArray).size = 1 := rfl
/-- Behind a call that hands back a text and an error, and only adds to memory. -/
def PrK (o : Option (List UInt8)) (w : World) (e : Ending) (w' : World) : Prop :=
  e = .returned (.tuple #[.string (Txt (o.getD [])), .int .u8 (if o.isSome then 0 else 2)]) ∧ Kp [] w w'
theorem PrP.toK {o : Option (List UInt8)} {w w' : World} {e : Ending} (h : PrP o w e w') : PrK o w e w' := ⟨h.1, (Kp.refl [] w).below h.2⟩
theorem PrK.none {o : Option (List UInt8)} {w w' : World} (h : o = none) (k : Kp [] w w') : PrK o w (.returned (.tuple #[.string ⟨#[]⟩, .int .u8 2])) w' := by
  unfold PrK; rw [h]; exact ⟨rfl, k⟩
theorem PrK.some {o : Option (List UInt8)} {t : List UInt8} {s : ByteArray} {w w' : World} (h : o = some t) (hs : s = Txt t) (k : Kp [] w w') : PrK o w (.returned (.tuple #[.string s, .int .u8 0])) w' := by
  unfold PrK; rw [h, hs]; exact ⟨rfl, k⟩
set_option maxRecDepth 100000 in
set_option maxHeartbeats 8000000 in
theorem printAddress_any (B : Nat) (v : Value) (a : Adr) (w : World) (hA : AdIn B w v a) (hB : B ≤ w.heap.size) (hz : SzA a) (E : Env w) :
    Calls Tryz.prog 17 #[v] w (PrK (adrO a) w) := by
  obtain ⟨vp, vh, vq, rfl, hp, hh, hq⟩ := hA
  obtain ⟨A1, C1, rfl⟩ := hp.form
  obtain ⟨A2, C2, rfl⟩ := hh.form
  obtain ⟨A3, C3, rfl⟩ := hq.form
  have HZ := Lib.hid hz
  have hd := hz.display
  have k1 := hz.params
  obtain ⟨wA, hwA⟩ : ∃ wz_, w.alloc (.cells #[.string (Txt a.display), .string (Txt a.uri.scheme), .string (Txt a.uri.user), .string (Txt a.uri.host), .int .i64 a.uri.port, .slice A1 a.uri.params.length C1, .slice A2 a.uri.heads.length C2, .slice A3 a.params.length C3] 26) = wz_ := ⟨_, rfl⟩
  have hX := ABox.new (hp.more hB) (hh.more hB) (hq.more hB)
  rw [hwA] at hX
  have hK : Kp [] w wA := by rw [← hwA]; exact (Kp.refl [] w).alloc _
  have KA := Lib.hid hK
  have EA := Lib.hid (E.kp hK (by simp))
  have XA := Lib.hid hX
  obtain ⟨R, hR⟩ : ∃ r, adrO a = r := ⟨_, rfl⟩
  have HR := Lib.hid ((adrO_eq a).symm.trans hR)
  rw [hR]
  obtain ⟨on, hon⟩ : ∃ o, printO a.uri = o := ⟨_, rfl⟩
  have HL := Lib.hid (fun x (h : printO a.uri = some x) => printO_len a.uri hz.uri hz.host x h)
  have Hon := Lib.hid hon
  have HPr := Lib.hid (fun (B : Nat) (v : Value) (w : World) (hU : UriIn B w v a.uri) (hB : B ≤ w.heap.size) (E : Env w) => (Print_any B v a.uri w hU hB hz.uri hz.host E).mono fun _ _ h => h.toK)
  rw [hon] at HPr
  have s64 : (9 : Nat) ≤ 9 := Nat.le_refl _
  clear hX hK hp hh hq hz E hR hon
  obtain ⟨a1, c1, a2, c2, a3, c3, hc, hi, hq⟩ := XA.out.in
  have b0 := hc 0
  have b1 := hc 1
  have b2 := hc 2
  have b3 := hc 3
  have b4 := hc 4
  have b5 := hc 5
  have b6 := hc 6
  have In := Lib.hid hi
  clear hc hi hq
  go_enter Tryz.func17, Tryz.ntmps17
  go_wp2_with fail
  refine (HPr.out _ _ _ In.out (Nat.le_refl _) EA.out).mono ?_
  rintro e w1 ⟨rfl, hK1⟩
  have K1 := Lib.hid (KA.out.trans hK1)
  have E1 := Lib.hid (EA.out.kp hK1 (by simp))
  have X1 := Lib.hid (XA.out.kpn hK1)
  clear hK1 b0 b1 b2 b3 b4 b5 b6 In
  cases on with
  | none =>
    have HN := Lib.hid (by rw [← HR.out, Hon.out] : R = none)
    simp only [Option.getD_none, Option.isSome_none, Bool.false_eq_true, if_false]
    go_wp2_with fail
    go_ret2
    exact PrK.none HN.out K1.out
  | some u =>
    have hul := HL.out u Hon.out
    simp only [Option.getD_some, Option.isSome_some, if_true]
    obtain ⟨a1, c1, a2, c2, a3, c3, hc, hi, hq⟩ := X1.out.in
    have b0 := hc 0
    have b7 := hc 7
    have Pq := Lib.hid hq
    clear hc hi hq
    obtain ⟨cc, hcc⟩ : ∃ x, hasCtl a.display = x := ⟨_, rfl⟩
    have HCt := Lib.hid (fun wz => ctlK a.display cc hcc (by omega) wz)
    have Hcc := Lib.hid hcc
    clear hcc
    cases cc with
    | true =>
      have HN := Lib.hid (by rw [← HR.out, Hon.out]; cases ppO (srt a.params) with | none => rfl | some p => exact if_pos Hcc.out : R = none)
      go_wp2_with fail
      refine (HCt.out _).mono ?_
      rintro e w2 ⟨rfl, hK2⟩
      have K2 := Lib.hid (K1.out.trans hK2)
      clear hK2 b0 b7
      go_wp2_with fail
      go_ret2
      exact PrK.none HN.out K2.out
    | false =>
      go_wp2_with fail
      refine (HCt.out _).mono ?_
      rintro e w2 ⟨rfl, hK2⟩
      have K2 := Lib.hid (K1.out.trans hK2)
      have E2 := Lib.hid (E1.out.kp hK2 (by simp))
      have X2 := Lib.hid (X1.out.kpn hK2)
      clear hK2 b0 b7 Pq
      obtain ⟨a1, c1, a2, c2, a3, c3, hc, hi, hq⟩ := X2.out.in
      have b7 := hc 7
      have Pq := Lib.hid hq
      clear hc hi hq
      go_wp2_with fail
      refine (sorted_any _ _ a.params _ Pq.out (Nat.le_refl _) (by omega)).mono ?_
      rintro e w3 ⟨v3, l3, rfl, hP3, hPe, hSo, hK3⟩
      have K3 := Lib.hid (K2.out.trans hK3)
      have E3 := Lib.hid (E2.out.kp hK3 (by simp))
      have X3 := Lib.hid (X2.out.kpn hK3)
      have P3 := Lib.hid hP3
      obtain ⟨A9, C9, rfl⟩ := hP3.form
      have hl3 : l3.length ≤ 2097152 := by rw [hPe.length_eq]; exact k1
      have HS3 := Lib.hid (show SzP l3 from fun p hp => HZ.out.ps p (hPe.mem_iff.1 hp))
      have HSo := Lib.hid (ppO_sort a.params l3 hPe hSo)
      obtain ⟨po, hpo⟩ : ∃ o, ppO (srt a.params) = o := ⟨_, rfl⟩
      have HPo := Lib.hid (HSo.out.trans hpo)
      have HQo := Lib.hid hpo
      clear hK3 hP3 hPe hSo hpo b7 Pq
      go_wp2_with fail
      refine (printParams_any _ _ l3 _ P3.out (Nat.le_refl _) HS3.out hl3 E3.out).mono ?_
      rintro e w4 ⟨rfl, hB4⟩
      rw [HPo.out]
      have K4 := Lib.hid (K3.out.below hB4)
      have X4 := Lib.hid (X3.out.kpn ((Kp.refl [] w3).below hB4))
      clear hB4
      cases po with
      | none =>
        have HN := Lib.hid (by rw [← HR.out, Hon.out, HQo.out] : R = none)
        simp only [Option.getD_none, Option.isSome_none, Bool.false_eq_true, if_false]
        go_wp2_with fail
        go_ret2
        exact PrK.none HN.out K4.out
      | some p =>
        have hpl := ppO_len l3 HS3.out p HPo.out
        have HY := Lib.hid (by rw [← HR.out, Hon.out, HQo.out]; exact if_neg (by rw [Hcc.out]; decide) : R = some (dspL a.display ++ [60] ++ u ++ [62] ++ p))
        simp only [Option.getD_some, Option.isSome_some, if_true]
        obtain ⟨a1, c1, a2, c2, a3, c3, hc, hi, hq⟩ := X4.out.in
        have b0 := hc 0
        clear hc hi hq
        have su : (Txt u).size ≤ 1073741824 := by rw [txt_size]; exact hul
        have sp : (Txt p).size ≤ 100663360 := by rw [txt_size]; exact hpl
        by_cases hde : a.display = []
        · have be : ((Txt a.display).toList == ([] : List UInt8)) = true := by rw [hde]; decide +kernel
          have HD := Lib.hid (by unfold dspL; rw [if_pos hde] : dspL a.display = [])
          have s1 : ((⟨#[]⟩ : ByteArray) ++ (⟨#[60]⟩ : ByteArray)).size ≤ 1 := by decide
          have s2 : ((⟨#[]⟩ : ByteArray) ++ (⟨#[60]⟩ : ByteArray) ++ Txt u).size ≤ 1073741825 := by rw [ByteArray.size_append]; omega
          have s3 : ((⟨#[]⟩ : ByteArray) ++ (⟨#[60]⟩ : ByteArray) ++ Txt u ++ (⟨#[62]⟩ : ByteArray)).size ≤ 1073741826 := by rw [ByteArray.size_append]; have := sz_one 62; omega
          have Hcat := Lib.hid ((congrArg (fun z => z ++ Txt u ++ (⟨#[62]⟩ : ByteArray) ++ Txt p) (cat_txt [] [60])).trans ((congrArg (fun z => z ++ (⟨#[62]⟩ : ByteArray) ++ Txt p) (cat_txt _ u)).trans ((congrArg (fun z => z ++ Txt p) (cat_txt _ [62])).trans (cat_txt _ p))) : (⟨#[]⟩ : ByteArray) ++ (⟨#[60]⟩ : ByteArray) ++ Txt u ++ (⟨#[62]⟩ : ByteArray) ++ Txt p = Txt ([] ++ [60] ++ u ++ [62] ++ p))
          have HY2 := Lib.hid (by rw [HY.out, HD.out] : R = some ([] ++ [60] ++ u ++ [62] ++ p))
          clear hde
          go_wp2_with fail
          go_ret2
          exact PrK.some HY2.out Hcat.out K4.out
        · have be : ((Txt a.display).toList == ([] : List UInt8)) = false := emp_no _ hde
          have hq : quT a.display = [34] ++ escL a.display ++ [34] := by unfold quT; rw [if_neg (by rw [Hcc.out]; decide)]
          have HD := Lib.hid (by unfold dspL; rw [if_neg hde, hq]; simp : dspL a.display = quT a.display ++ [32])
          obtain ⟨Q, hQ⟩ : ∃ x, quT a.display = x := ⟨_, rfl⟩
          have sq : (Txt Q).size ≤ 2097154 := by rw [txt_size, ← hQ, hq]; have := escL_len a.display; simp only [List.length_append, List.length_cons, List.length_nil]; omega
          have HQt := fun wz => Lx.quote_any (Txt a.display) wz (by rw [txt_size]; omega)
          rw [txt_list, hQ] at HQt
          have HQt := Lib.hid HQt
          rw [hQ] at HD
          have s0 : (Txt Q ++ (⟨#[32]⟩ : ByteArray)).size ≤ 2097155 := by rw [ByteArray.size_append]; have := sz_one 32; omega
          have s1 : (Txt Q ++ (⟨#[32]⟩ : ByteArray) ++ (⟨#[60]⟩ : ByteArray)).size ≤ 2097156 := by rw [ByteArray.size_append]; have := sz_one 60; omega
          have s2 : (Txt Q ++ (⟨#[32]⟩ : ByteArray) ++ (⟨#[60]⟩ : ByteArray) ++ Txt u).size ≤ 1075838980 := by rw [ByteArray.size_append]; omega
          have s3 : (Txt Q ++ (⟨#[32]⟩ : ByteArray) ++ (⟨#[60]⟩ : ByteArray) ++ Txt u ++ (⟨#[62]⟩ : ByteArray)).size ≤ 1075838981 := by rw [ByteArray.size_append]; have := sz_one 62; omega
          have Hcat := Lib.hid ((congrArg (fun z => z ++ (⟨#[60]⟩ : ByteArray) ++ Txt u ++ (⟨#[62]⟩ : ByteArray) ++ Txt p) (cat_txt Q [32])).trans ((congrArg (fun z => z ++ Txt u ++ (⟨#[62]⟩ : ByteArray) ++ Txt p) (cat_txt _ [60])).trans ((congrArg (fun z => z ++ (⟨#[62]⟩ : ByteArray) ++ Txt p) (cat_txt _ u)).trans ((congrArg (fun z => z ++ Txt p) (cat_txt _ [62])).trans (cat_txt _ p)))) : Txt Q ++ (⟨#[32]⟩ : ByteArray) ++ (⟨#[60]⟩ : ByteArray) ++ Txt u ++ (⟨#[62]⟩ : ByteArray) ++ Txt p = Txt (Q ++ [32] ++ [60] ++ u ++ [62] ++ p))
          have HY2 := Lib.hid (by rw [HY.out, HD.out] : R = some (Q ++ [32] ++ [60] ++ u ++ [62] ++ p))
          clear hde hq hQ
          go_wp2_with fail
          refine (HQt.out _).mono ?_
          rintro e w5 ⟨rfl, hB5⟩
          have K5 := Lib.hid (K4.out.below hB5)
          clear hB5 b0
          rw [show (⟨Q.toArray⟩ : ByteArray) = Txt Q from rfl]
          go_wp2_with fail
          go_ret2
          exact PrK.some HY2.out Hcat.out K5.out
end Ad
end Go.Proofs.YtmmjfofdnpafkaaGreatDoor
