/- Contract of the reference's PrintAddress (dialtoneref02). Texts have at most 2^20 bytes. -/
import Derived.Test.YtjkkcoiebnmkcaaGreatDoorAdVi
import Derived.Test.YtjkkcoiebnmkcaaGreatDoorAdPx
namespace Go.Proofs.YtjkkcoiebnmkcaaGreatDoor
namespace Ad
open Go.RowKit Lx

theorem quoteK (l : List UInt8) (C : Bool) (h : hasCtl l = C) (hs : l.length ≤ 1048576) (w : World) : Calls Tryz.prog 82 #[.string (Txt l)] w (fun e w' => e = .returned (.tuple #[.string (Txt (quT l)), .int .u8 (if C then 5 else 0)]) ∧ Kp [] w w') :=
  (rquote_any (Txt l) w (by rw [txt_size]; omega)).mono fun e w' hh => by
    rw [txt_list] at hh
    refine ⟨hh.1.trans ?_, (Kp.refl [] w).below hh.2⟩
    unfold quE
    rw [h]; rfl
set_option maxRecDepth 100000 in
set_option maxHeartbeats 8000000 in
theorem rPrintAddress_any (B : Nat) (v : Value) (a : Adr) (w : World) (hA : AdIn B w v a) (hB : B ≤ w.heap.size) (hz : SzA a) :
    Calls Tryz.prog 45 #[v] w (PrK (adrO a) w) := by
  obtain ⟨vp, vh, vq, rfl, hp, hh, hq⟩ := hA
  obtain ⟨A1, C1, rfl⟩ := hp.form
  obtain ⟨A2, C2, rfl⟩ := hh.form
  obtain ⟨A3, C3, rfl⟩ := hq.form
  have HZ := Lib.hid hz
  have hd := hz.display
  have k1 := hz.params
  obtain ⟨wA, hwA⟩ : ∃ wz_, w.alloc (.cells #[.string (Txt a.display), .string (Txt a.uri.scheme), .string (Txt a.uri.user), .string (Txt a.uri.host), .int .i64 a.uri.port, .slice A1 a.uri.params.length C1, .slice A2 a.uri.heads.length C2, .slice A3 a.params.length C3] 51) = wz_ := ⟨_, rfl⟩
  have hX := ABox.new (hp.more hB) (hh.more hB) (hq.more hB)
  rw [hwA] at hX
  have hK : Kp [] w wA := by rw [← hwA]; exact (Kp.refl [] w).alloc _
  have KA := Lib.hid hK
  have XA := Lib.hid hX
  obtain ⟨R, hR⟩ : ∃ r, adrO a = r := ⟨_, rfl⟩
  have HR := Lib.hid ((adrO_eq a).symm.trans hR)
  rw [hR]
  obtain ⟨on, hon⟩ : ∃ o, printO a.uri = o := ⟨_, rfl⟩
  have HL := Lib.hid (fun x (h : printO a.uri = some x) => printO_len a.uri hz.uri hz.host x h)
  have Hon := Lib.hid hon
  have HPr := Lib.hid (fun (B : Nat) (v : Value) (w : World) (hU : UriIn B w v a.uri) (hB : B ≤ w.heap.size) => (rPrint_any B v a.uri w hU hB hz.uri hz.host).mono fun _ _ h => h.toK)
  rw [hon] at HPr
  obtain ⟨op, hop⟩ : ∃ o, ppO (srt a.params) = o := ⟨_, rfl⟩
  have HLp := Lib.hid (fun x (h : ppO (srt a.params) = some x) => ppO_len (srt a.params) (srt_sz _ hz.ps) x h)
  have Hop := Lib.hid hop
  have HPp := Lib.hid (fun (B : Nat) (v : Value) (w : World) (hU : PmIn B w v (srt a.params)) (hB : B ≤ w.heap.size) => (rPrintParams_any B v (srt a.params) w hU hB (srt_sz _ hz.ps) (by rw [(srt_perm _).length_eq]; exact hz.params)).mono fun _ _ h => h.toK)
  rw [hop] at HPp
  obtain ⟨cc, hcc⟩ : ∃ x, hasCtl a.display = x := ⟨_, rfl⟩
  have Hcc := Lib.hid hcc
  have HQt := Lib.hid (fun wz => quoteK a.display cc hcc hd wz)
  have hql : (quT a.display).length ≤ 2097154 := by
    unfold quT
    have := escL_len a.display
    split
    · simp
    · simp only [List.length_append, List.length_cons, List.length_nil]; omega
  obtain ⟨Q, hQ⟩ : ∃ x, quT a.display = x := ⟨_, rfl⟩
  have HQ := Lib.hid hQ
  rw [hQ] at HQt hql
  clear hX hK hp hh hq hz hR hon hop hcc hQ
  obtain ⟨a1, c1, a2, c2, a3, c3, hc, hi, hq⟩ := XA.out.in
  have b0 := hc 0
  have b1 := hc 1
  have b2 := hc 2
  have b3 := hc 3
  have b4 := hc 4
  have b5 := hc 5
  have b6 := hc 6
  have In := Lib.hid hi
  clear hc hi hq
  go_enter Tryz.func45, Tryz.ntmps45
  go_wp2_with fail
  refine (HPr.out _ _ _ In.out (Nat.le_refl _)).mono ?_
  rintro e w1 ⟨rfl, hK1⟩
  have K1 := Lib.hid (KA.out.trans hK1)
  have X1 := Lib.hid (XA.out.kpn hK1)
  clear hK1 b0 b1 b2 b3 b4 b5 b6 In
  obtain ⟨tu, htu⟩ : ∃ t, on.getD [] = t := ⟨_, rfl⟩
  obtain ⟨xu, hxu⟩ : ∃ x : Int, (if on.isSome then 0 else 2) = x := ⟨_, rfl⟩
  have Htu := Lib.hid htu
  have Hxu := Lib.hid hxu
  rw [htu, hxu]
  clear htu hxu
  obtain ⟨a1, c1, a2, c2, a3, c3, hc, hi, hq⟩ := X1.out.in
  have b7 := hc 7
  have Pq := Lib.hid hq
  clear hc hi hq
  go_wp2_with fail
  refine (rSorted_any _ _ a.params _ Pq.out (Nat.le_refl _) k1).mono ?_
  rintro e w3 ⟨v3, rfl, hP3, hK3⟩
  have K3 := Lib.hid (K1.out.trans hK3)
  have X3 := Lib.hid (X1.out.kpn hK3)
  have P3 := Lib.hid hP3
  obtain ⟨A9, C9, rfl⟩ := hP3.form
  obtain ⟨l3, hl3⟩ : ∃ l, srt a.params = l := ⟨_, rfl⟩
  rw [hl3] at P3 HPp ⊢
  clear hK3 hP3 b7 Pq hl3
  go_wp2_with fail
  refine (HPp.out _ _ _ P3.out (Nat.le_refl _)).mono ?_
  rintro e w4 ⟨rfl, hK4⟩
  have K4 := Lib.hid (K3.out.trans hK4)
  have X4 := Lib.hid (X3.out.kpn hK4)
  obtain ⟨tp, htp⟩ : ∃ t, op.getD [] = t := ⟨_, rfl⟩
  obtain ⟨xp, hxp⟩ : ∃ x : Int, (if op.isSome then 0 else 2) = x := ⟨_, rfl⟩
  have Htp := Lib.hid htp
  have Hxp := Lib.hid hxp
  rw [htp, hxp]
  clear hK4 P3 htp hxp
  obtain ⟨a1, c1, a2, c2, a3, c3, hc, hi, hq⟩ := X4.out.in
  have b0 := hc 0
  clear hc hi hq
  obtain ⟨xc, hxc⟩ : ∃ x : Int, (if cc then 5 else 0) = x := ⟨_, rfl⟩
  have Hxc := Lib.hid hxc
  rw [hxc] at HQt
  clear hxc
  go_wp2_with fail
  refine (HQt.out _).mono ?_
  rintro e w5 ⟨rfl, hK5⟩
  have K5 := Lib.hid (K4.out.trans hK5)
  have X5 := Lib.hid (X4.out.kpn hK5)
  clear hK5 b0
  cases on with
  | none =>
    have hx := Hxu.out
    simp at hx
    subst hx
    have HN := Lib.hid (by rw [← HR.out, Hon.out] : R = none)
    go_wp2_with fail
    go_ret2
    exact PrK.none HN.out K5.out
  | some u =>
    have hx := Hxu.out
    simp at hx
    subst hx
    cases op with
    | none =>
      have hx := Hxp.out
      simp at hx
      subst hx
      have HN := Lib.hid (by rw [← HR.out, Hon.out, Hop.out] : R = none)
      go_wp2_with fail
      go_ret2
      exact PrK.none HN.out K5.out
    | some p =>
      have hx := Hxp.out
      simp at hx
      subst hx
      cases cc with
      | true =>
        have hx := Hxc.out
        simp at hx
        subst hx
        have HN := Lib.hid (by rw [← HR.out, Hon.out, Hop.out]; exact if_pos Hcc.out : R = none)
        go_wp2_with fail
        go_ret2
        exact PrK.none HN.out K5.out
      | false =>
        have hx := Hxc.out
        simp at hx
        subst hx
        have hul := HL.out u Hon.out
        have hpl := HLp.out p Hop.out
        have e1 := Htu.out
        have e2 := Htp.out
        dsimp only [Option.getD_some] at e1 e2
        subst e1 e2
        have HY := Lib.hid (by rw [← HR.out, Hon.out, Hop.out]; exact if_neg (by rw [Hcc.out]; decide) : R = some (dspL a.display ++ [60] ++ u ++ [62] ++ p))
        obtain ⟨a1, c1, a2, c2, a3, c3, hc, hi, hq⟩ := X5.out.in
        have b0 := hc 0
        clear hc hi hq
        have su : (Txt u).size ≤ 1073741824 := by rw [txt_size]; exact hul
        have sp : (Txt p).size ≤ 100663360 := by rw [txt_size]; exact hpl
        by_cases hde : a.display = []
        · have be : ((Txt a.display).toList == ([] : List UInt8)) = true := by rw [hde]; decide +kernel
          have HD := Lib.hid (by unfold dspL; rw [if_pos hde] : dspL a.display = [])
          have s2 : ((⟨#[60]⟩ : ByteArray) ++ Txt u).size ≤ 1073741825 := by rw [ByteArray.size_append]; have := sz_one 60; omega
          have s3 : ((⟨#[60]⟩ : ByteArray) ++ Txt u ++ (⟨#[62]⟩ : ByteArray)).size ≤ 1073741826 := by rw [ByteArray.size_append]; have := sz_one 62; omega
          have Hcat := Lib.hid ((congrArg (fun z => z ++ (⟨#[62]⟩ : ByteArray) ++ Txt p) (cat_txt [60] u)).trans ((congrArg (fun z => z ++ Txt p) (cat_txt _ [62])).trans (cat_txt _ p)) : (⟨#[60]⟩ : ByteArray) ++ Txt u ++ (⟨#[62]⟩ : ByteArray) ++ Txt p = Txt ([60] ++ u ++ [62] ++ p))
          have HY2 := Lib.hid (by rw [HY.out, HD.out, List.nil_append] : R = some ([60] ++ u ++ [62] ++ p))
          clear hde
          go_wp2_with fail
          go_ret2
          exact PrK.some HY2.out Hcat.out K5.out
        · have be : ((Txt a.display).toList == ([] : List UInt8)) = false := emp_no _ hde
          have hq : quT a.display = [34] ++ escL a.display ++ [34] := by unfold quT; rw [if_neg (by rw [Hcc.out]; decide)]
          have HD := Lib.hid (by unfold dspL; rw [if_neg hde, ← HQ.out, hq]; simp : dspL a.display = Q ++ [32])
          have sq : (Txt Q).size ≤ 2097154 := by rw [txt_size]; exact hql
          have e32 : (⟨#[32, 60]⟩ : ByteArray).size = 2 := rfl
          have s1 : (Txt Q ++ (⟨#[32, 60]⟩ : ByteArray)).size ≤ 2097156 := by rw [ByteArray.size_append]; omega
          have s2 : (Txt Q ++ (⟨#[32, 60]⟩ : ByteArray) ++ Txt u).size ≤ 1075838980 := by rw [ByteArray.size_append]; omega
          have s3 : (Txt Q ++ (⟨#[32, 60]⟩ : ByteArray) ++ Txt u ++ (⟨#[62]⟩ : ByteArray)).size ≤ 1075838981 := by rw [ByteArray.size_append]; have := sz_one 62; omega
          have Hcat := Lib.hid ((congrArg (fun z => z ++ Txt u ++ (⟨#[62]⟩ : ByteArray) ++ Txt p) (cat_txt Q [32, 60])).trans ((congrArg (fun z => z ++ (⟨#[62]⟩ : ByteArray) ++ Txt p) (cat_txt _ u)).trans ((congrArg (fun z => z ++ Txt p) (cat_txt _ [62])).trans (cat_txt _ p))) : Txt Q ++ (⟨#[32, 60]⟩ : ByteArray) ++ Txt u ++ (⟨#[62]⟩ : ByteArray) ++ Txt p = Txt (Q ++ [32, 60] ++ u ++ [62] ++ p))
          have HY2 := Lib.hid (by rw [HY.out, HD.out]; simp : R = some (Q ++ [32, 60] ++ u ++ [62] ++ p))
          clear hde hq e32
          go_wp2_with fail
          go_ret2
          exact PrK.some HY2.out Hcat.out K5.out
end Ad
end Go.Proofs.YtjkkcoiebnmkcaaGreatDoor
