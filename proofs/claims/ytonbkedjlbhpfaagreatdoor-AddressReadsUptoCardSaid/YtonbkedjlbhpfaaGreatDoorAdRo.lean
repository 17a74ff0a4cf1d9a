/- Contract of the reference's Params (dialtoneref02). A text has at most 2^21 bytes. -/
import Derived.Test.YtonbkedjlbhpfaaGreatDoorAdRn
namespace Go.Proofs.YtonbkedjlbhpfaaGreatDoor
namespace Ad
open Go.RowKit Lx

theorem pmR_none (l : List UInt8) (k : Nat) (h : tokE l k = k) : pmR l k = (([], [], false), k, 5) := by unfold pmR; rw [if_pos h]
theorem pmR_bare (l : List UInt8) (k : Nat) (h : tokE l k ≠ k) (h2 : atB l (blkE l (tokE l k)) ≠ 61) : pmR l k = ((lowL (slc l k (tokE l k)), [], false), blkE l (tokE l k), 0) := by unfold pmR; rw [if_neg h, if_neg h2]
theorem pmR_val (l : List UInt8) (k : Nat) (h : tokE l k ≠ k) (h2 : atB l (blkE l (tokE l k)) = 61) : pmR l k = ((lowL (slc l k (tokE l k)), (valR l (blkE l (blkE l (tokE l k) + 1))).1, true), (valR l (blkE l (blkE l (tokE l k) + 1))).2) := by unfold pmR; rw [if_neg h, if_pos h2]
/-- What the list holds while it is read. -/
structure AccL (acc : List Prm) : Prop where
  len : acc.length ≤ 16
  low : ∀ q ∈ acc, lowL q.1 = q.1
  sz : SzP acc
theorem AccL.nil : AccL [] := ⟨by simp, (fun q hq => nomatch hq), (fun q hq => nomatch hq)⟩
theorem AccL.snoc {acc : List Prm} (h : AccL acc) {q : Prm} (h1 : lowL q.1 = q.1) (h2 : q.1.length ≤ 2097152) (h3 : q.2.1.length ≤ 2097152) (h4 : acc.length ≤ 15) : AccL (acc ++ [q]) :=
  ⟨by rw [List.length_append, List.length_singleton]; omega, fun p hp => by
    rcases List.mem_append.1 hp with h5 | h5
    · exact h.low p h5
    · rw [List.mem_singleton.1 h5]; exact h1, fun p hp => by
    rcases List.mem_append.1 hp with h5 | h5
    · exact h.sz p h5
    · rw [List.mem_singleton.1 h5]; exact ⟨h2, h3⟩⟩
theorem AccL.room {acc : List Prm} (h : AccL acc) (nm : List UInt8) (h1 : lowL nm = nm) : roomL acc nm = Ad.room acc nm := roomL_eq acc nm h.low h1 h.len
theorem runL_drop (p : Int → Bool) : ∀ l : List UInt8, runL p (l.drop (runL p l)) = 0 := by
  intro l
  induction l with
  | nil => rfl
  | cons c t ih =>
    cases hc : p c.toNat
    · have : runL p (c :: t) = 0 := by unfold runL; rw [hc]; rfl
      rw [this, List.drop_zero]; exact this
    · have : runL p (c :: t) = runL p t + 1 := by rw [runL, hc]; simp
      rw [this, List.drop_succ_cons, ih]
theorem blkE_idem (l : List UInt8) (k : Nat) : blkE l (blkE l k) = blkE l k := by
  unfold blkE
  have := runL_drop blankI (l.drop k)
  rw [List.drop_drop] at this
  omega
theorem qText_len : ∀ (l : List UInt8), (qText l).length ≤ l.length := by
  intro l
  induction hn : l.length using Nat.strongRecOn generalizing l with
  | _ n ih =>
    cases l with
    | nil => rw [qText.eq_def]; simp
    | cons c t =>
      by_cases h1 : c.toNat = 34
      · rw [qText_quote c t h1]; simp
      · by_cases h2 : c.toNat = 92
        · cases t with
          | nil => rw [qText.eq_def]; simp [h1, h2]
          | cons d u =>
            rw [qText_two c d u h2]
            have := ih u.length (by simp at hn; omega) u rfl
            simp at hn ⊢; omega
        · rw [qText_one c t h1 h2]
          have := ih t.length (by simp at hn; omega) t rfl
          simp at hn ⊢; omega
theorem unq_len (l : List UInt8) (k : Int) : (uqT l k).length ≤ l.length := by
  unfold uqT
  split
  · simp
  · have := qText_len (l.drop (k.toNat + 1))
    rw [List.length_drop] at this; omega
theorem valR_len (l : List UInt8) (k : Nat) : (valR l k).1.length ≤ l.length + 86 := by
  unfold valR
  split
  · have := unq_len l k; dsimp only; omega
  · split
    · cases ho : hostO (slc l k (min (endP (· == 93) l k + 1) l.length)) with
      | none => simp
      | some h => have h1 := hostO_len _ _ ho; have h2 := slc_lel l k (min (endP (· == 93) l k + 1) l.length); dsimp only; omega
    · split
      · simp
      · have := slc_lel l k (tokE l k); dsimp only; omega
set_option maxRecDepth 100000 in
set_option maxHeartbeats 8000000 in
theorem rParams_any (s : ByteArray) (w : World) (hs : s.size ≤ 1048576) :
    Calls Tryz.prog 106 #[.string s] w (PaP (parR s.data.toList) w) := by
  obtain ⟨R, hR⟩ : ∃ R, parR s.data.toList = R := ⟨_, rfl⟩
  have HR := Lib.hid (show parF (s.data.toList.length + 1) s.data.toList (blkE s.data.toList 0) [] = R from hR)
  rw [hR]
  obtain ⟨a, ha⟩ : ∃ a, blkE s.data.toList 0 = a := ⟨_, rfl⟩
  obtain ⟨a1, a2⟩ := blkE_bd s 0 (by omega)
  rw [ha] at a1 a2
  have HA := Lib.hid ha
  have hBk := rblkE s 0 w (by omega) (by omega)
  rw [ha] at hBk
  have HBk := Lib.hid hBk
  obtain ⟨i0, hi, hz0, hz1, hz2⟩ := info_parts infoPrm3
  clear hR ha hBk
  go_enter Tryz.func106, Tryz.ntmps106
  go_wp2_with fail
  refine HBk.out.mono ?_
  rintro e w' ⟨rfl, rfl⟩
  go_wp2_with fail
  go_loopg [5, 6] (s.size + 1) (fun gg v i wr => ∃ (j n : Nat) (acc : List Prm) (vA : Option Addr) (vC : Nat), v = .slice vA acc.length vC ∧ j ≤ s.size ∧ s.size - j < n ∧ s.size - j < gg ∧ i = .int .i64 j ∧ parF n s.data.toList j acc = R ∧ wr.ownsRow w.heap.size 75 3 (.slice vA acc.length vC) acc.length (pcl acc) ∧ AccL acc ∧ Kp [] w wr)
  case atStart => exact ⟨a, s.data.toList.length + 1, [], none, 0, rfl, a2, by rw [len_list]; omega, by omega, rfl, by rw [← HA.out]; exact HR.out, World.ownsRow_nil _ _ _ _, AccL.nil, Kp.refl _ _⟩
  case round =>
    obtain ⟨j, n, acc, vA, vC, rfl, hj, hn, hg, rfl, hr, hown, hacc, hK⟩ := hrel
    have Hr := Lib.hid hr
    have Ho := Lib.hid hown
    have HK := Lib.hid hK
    have HAc := Lib.hid hacc
    have hl16 := hacc.len
    have hsz := hK.size
    clear hr hown hacc hK
    obtain ⟨n, rfl⟩ : ∃ m, n = m + 1 := ⟨n - 1, by omega⟩
    by_cases hlt : j < s.size
    · have hlt' : j < s.data.toList.length := by rw [len_list]; exact hlt
      by_cases h59 : atB s.data.toList j = 59
      · have h5 := h59
        rw [atB_get s j hlt] at h5
        have b59 : ((s[j].toNat : Int) != 59) = false := by rw [h5]; rfl
        obtain ⟨f, hf⟩ : ∃ f, blkE s.data.toList (j + 1) = f := ⟨_, rfl⟩
        obtain ⟨f1, f2⟩ := blkE_bd s (j + 1) hlt
        obtain ⟨t, ht⟩ : ∃ t, tokE s.data.toList f = t := ⟨_, rfl⟩
        obtain ⟨t1, t2⟩ := tokE_bd s f (by omega)
        have H1 := fun wz => rblkE s (j + 1) wz (by omega) (by omega)
        have H2 := fun wz => rtokE s f wz (by omega) (by omega)
        rw [hf] at f1 f2 H1
        rw [ht] at t1 t2 H2
        have H1 := Lib.hid (fun wz => (by have h := H1 wz; rwa [show (((j + 1 : Nat) : Int)) = (j : Int) + 1 from rfl] at h : Calls Tryz.prog 81 #[.string s, .int .i64 ((j : Int) + 1)] wz (Ret (.int .i64 (f : Nat)) wz)))
        have H2 := Lib.hid H2
        have Hf := Lib.hid hf
        have Ht := Lib.hid ht
        have H59 := Lib.hid h59
        clear h5 h59
        by_cases htf : t = f
        · have btf : ((t : Int) == (f : Int)) = true := by rw [htf]; exact beq_self_eq_true _
          have HX := Lib.hid (Hr.out.symm.trans ((parF_err2 n s.data.toList j acc hlt' H59.out (by rw [hf, pmR_none _ _ (by rw [ht]; exact htf)]; simp)).trans (by rw [hf, pmR_none _ _ (by rw [ht]; exact htf)])) : R = ([], f, 5))
          clear hf ht htf
          go_wp2_with fail
          refine (H1.out _).mono ?_
          rintro e w' ⟨rfl, rfl⟩
          go_wp2_with fail
          refine (H2.out _).mono ?_
          rintro e w' ⟨rfl, rfl⟩
          go_wp2_with fail
          go_ret3
          exact ⟨_, by rw [HX.out]; rfl, by rw [HX.out]; exact PmIn.nil _ _, HK.out.nilBelow, by rw [HX.out]; simp⟩
        · have btf : ((t : Int) == (f : Int)) = false := by rw [beq_eq_false_iff_ne]; omega
          have Hne := Lib.hid (by rw [ht]; exact htf : tokE s.data.toList f ≠ f)
          obtain ⟨nm, hnm⟩ : ∃ x, slc s.data.toList f t = x := ⟨_, rfl⟩
          have hnl : nm.length ≤ 1048576 := by rw [← hnm]; have := slc_lel s.data.toList f t; rw [len_list] at this; omega
          have HXt := Lib.hid (by rw [slc_txt, hnm] : s.extract f t = Txt nm)
          obtain ⟨L, hL⟩ : ∃ x, lowL nm = x := ⟨_, rfl⟩
          have hLl : L.length ≤ 1048576 := by rw [← hL, lowL_len]; exact hnl
          have HLL := Lib.hid (by rw [← hL]; exact lowL_idem nm : lowL L = L)
          have HLw := fun wz => rlowK nm (by omega) wz
          rw [hL] at HLw
          have HLw := Lib.hid HLw
          obtain ⟨u, hu⟩ : ∃ u, blkE s.data.toList t = u := ⟨_, rfl⟩
          obtain ⟨u1, u2⟩ := blkE_bd s t (by omega)
          have H3 := fun wz => rblkE s t wz (by omega) (by omega)
          rw [hu] at u1 u2 H3
          have H3 := Lib.hid H3
          have Hnm := Lib.hid (by rw [ht, hnm, hL] : lowL (slc s.data.toList f (tokE s.data.toList f)) = L)
          have Hu := Lib.hid (by rw [ht, hu] : blkE s.data.toList (tokE s.data.toList f) = u)
          clear hf ht htf hnm hL hu
          go_wp2_with fail
          refine (H1.out _).mono ?_
          rintro e w' ⟨rfl, rfl⟩
          go_wp2_with fail
          refine (H2.out _).mono ?_
          rintro e w' ⟨rfl, rfl⟩
          go_wp2_with fail
          rw [HXt.out]
          refine (HLw.out _).mono ?_
          rintro e w3 ⟨rfl, hK3⟩
          have O3 := Lib.hid (own_kp Ho.out hK3 (by simp))
          have K3 := Lib.hid (HK.out.trans hK3)
          go_wp2_with fail
          obtain ⟨wA, hwA⟩ : ∃ wA, w3.alloc (.cells #[.string (Txt L), .string ⟨#[]⟩, .bool false] 75) = wA := ⟨_, rfl⟩
          have BA := show Blk wA w3.heap.size 75 #[.string (Txt L), .string ⟨#[]⟩, .bool false] from by rw [← hwA]; exact Blk.new w3 _ _
          have hKA : Kp [] w3 wA := by rw [← hwA]; exact (Kp.refl [] w3).alloc _
          have OA := Lib.hid (own_kp O3.out hKA (by simp))
          have KA := Lib.hid (K3.out.trans hKA)
          have hsz3 := hK3.size
          have hszA := hKA.size
          have HBA := Lib.hid BA
          clear hK3 hKA BA
          rw [hwA]
          clear hwA
          refine (H3.out _).mono ?_
          rintro e w' ⟨rfl, rfl⟩
          by_cases h61 : atB s.data.toList u = 61
          · have hus := atB_lt s.data.toList u (by rw [h61]; decide)
            rw [len_list] at hus
            have h6 := h61
            rw [atB_get s u hus] at h6
            have b61 : ((s[u].toNat : Int) == 61) = true := by rw [h6]; rfl
            obtain ⟨y, hy⟩ : ∃ y, blkE s.data.toList (u + 1) = y := ⟨_, rfl⟩
            obtain ⟨y1, y2⟩ := blkE_bd s (u + 1) hus
            have H4 := fun wz => rblkE s (u + 1) wz (by omega) (by omega)
            rw [hy] at y1 y2 H4
            have H4 := Lib.hid (fun wz => (by have h := H4 wz; rwa [show (((u + 1 : Nat) : Int)) = (u : Int) + 1 from rfl] at h : Calls Tryz.prog 81 #[.string s, .int .i64 ((u : Int) + 1)] wz (Ret (.int .i64 (y : Nat)) wz)))
            have H5 := fun wz => rvalue_any s y wz (by omega) (by omega)
            obtain ⟨q2, m, x, hv⟩ : ∃ a b c, valR s.data.toList y = (a, b, c) := ⟨_, _, _, rfl⟩
            have hvl := valR_len s.data.toList y
            have hok := val_ok s y (by omega)
            rw [hv] at hvl H5 hok
            dsimp only at hvl hok
            rw [len_list] at hvl
            have H5 := Lib.hid H5
            have HP := Lib.hid (by rw [pmR_val _ _ Hne.out (by rw [Hu.out]; exact h61), Hnm.out, Hu.out, hy, hv] : pmR s.data.toList f = ((L, q2, true), m, x))
            clear h61 h6 hy hv
            by_cases hx0 : x = 0
            · subst hx0
              have hm2 := (hok rfl).2
              have hm1 := (hok rfl).1
              clear hok
              obtain ⟨k2, hk2⟩ : ∃ k2, blkE s.data.toList m = k2 := ⟨_, rfl⟩
              obtain ⟨k21, k22⟩ := blkE_bd s m hm2
              have H6 := fun wz => rblkE s m wz (by omega) (by omega)
              rw [hk2] at k21 k22 H6
              have H6 := Lib.hid H6
              have Hk2 := Lib.hid hk2
              clear hk2
              go_wp2_with fail
              refine (H4.out _).mono ?_
              rintro e w' ⟨rfl, rfl⟩
              go_wp2_with fail
              refine (H5.out _).mono ?_
              rintro e w5 ⟨rfl, hK5⟩
              dsimp only
              have B5 := Lib.hid (HBA.out.kp hK5 (by simp))
              have O5 := Lib.hid (own_kp OA.out hK5 (by simp))
              have K5 := Lib.hid (KA.out.trans hK5)
              have hsz5 := hK5.size
              have c1 := B5.out.cell 1
              have c2 := B5.out.cell 2
              have f1 := B5.out.frozen 1
              have f2' := B5.out.frozen 2
              have B6 := Lib.hid ((B5.out.set_ 1 (.string (Txt q2))).set_ 2 (.bool true))
              have hK6 := ((Kp.refl [w3.heap.size] w5).setCell (p := ⟨w3.heap.size, 1, none⟩) (.inl (by simp)) (.string (Txt q2))).setCell (p := ⟨w3.heap.size, 2, none⟩) (.inl (by simp)) (.bool true)
              have K6 := Lib.hid ((K5.out.setCell (p := ⟨w3.heap.size, 1, none⟩) (.inr (by show _ ≤ w3.heap.size; omega)) (.string (Txt q2))).setCell (p := ⟨w3.heap.size, 2, none⟩) (.inr (by show _ ≤ w3.heap.size; omega)) (.bool true))
              have hown3 : ∀ k, Value.ownBlock (.slice vA acc.length vC) = some k → k ≠ w3.heap.size := fun k hk => by have := (O3.out.lt k hk).2; omega
              have O6 := Lib.hid (own_other (i := 2) (u := .bool true) (own_other (i := 1) (u := .string (Txt q2)) O5.out hown3) hown3)
              clear hown3
              clear hK5 hK6
              go_wp2_with fail
              obtain ⟨w6, hw6⟩ : ∃ w6, (w5.setCell ⟨w3.heap.size, 1, none⟩ (.string (Txt q2))).setCell ⟨w3.heap.size, 2, none⟩ (.bool true) = w6 := ⟨_, rfl⟩
              rw [hw6] at B6 O6 K6 ⊢
              clear hw6 c1 c2 f1 f2'
              refine (H6.out _).mono ?_
              rintro e w' ⟨rfl, rfl⟩
              have HR2 := Lib.hid (fun (wz : World) (h : Kp [] w wz) (ho : wz.ownsRow w.heap.size 75 3 (.slice vA acc.length vC) acc.length (pcl acc)) => (by have h3 := rroom_any _ _ acc L wz (own_pm ho) (Nat.le_refl _) HAc.out.sz (by omega) (by omega); rwa [HAc.out.room L HLL.out] at h3 : Calls Tryz.prog 153 #[.slice vA acc.length vC, .string (Txt L)] wz (ErK (room acc L) wz)))
              have d0 := B6.out.cell 0
              obtain ⟨rm, hrm⟩ : ∃ r, room acc L = r := ⟨_, rfl⟩
              rw [hrm] at HR2
              by_cases hr0 : rm = 0
              · subst hr0
                have hl15 : acc.length ≤ 15 := by have := ((room_iff acc L).1 hrm).2; omega
                have HX2 := Lib.hid (Hr.out.symm.trans ((parF_step n s.data.toList j acc hlt' H59.out (by rw [Hf.out, HP.out]) (by rw [Hf.out, HP.out]; exact hrm)).trans (by rw [Hf.out, HP.out]; dsimp only; rw [Hk2.out])) : R = parF n s.data.toList k2 (acc ++ [(L, q2, true)]))
                clear hrm
                go_wp2_with fail
                refine (HR2.out _ K6.out O6.out).mono ?_
                rintro e w8 ⟨rfl, hK8⟩
                have B8 := Lib.hid (B6.out.kp hK8 (by simp))
                have O8 := Lib.hid (own_kp O6.out hK8 (by simp))
                have K8 := Lib.hid (K6.out.trans hK8)
                have hsz8 := K8.out.size
                have e0 := B8.out.cell 0
                have e1 := B8.out.cell 1
                have e2 := B8.out.cell 2
                clear hK8 d0
                go_wp2_with (at_builtin; refine wpList_append_own _ rfl _ _ 22 rfl w.heap.size 75 i0 (.agg #[.string .empty, .string .empty, .bool false]) 3 40 Tryz.underlying22 hi hz0 hz1 hz2 rfl (by decide) _ _ _ rfl (O8.out.alloc _) ⟨w8.heap.size, 0, none⟩ 1 1 [.string (Txt L), .string (Txt q2), .bool true] rfl rfl (cell_three_new _ _ _ _ _) (by simp [Value.oneCell']) ?c3 ?c4 ?c5 ?_)
                case c3 => unfold maxLen; omega
                case c4 => omega
                case c5 => simp; omega
                intro v' w9 hown' hgrow _
                have K9 := Lib.hid ((K8.out.alloc (.cells #[.string (Txt L), .string (Txt q2), .bool true] 75)).grown hgrow (fun g hg => .inr (O8.out.lt g hg).1))
                have HO9 := Lib.hid (by simpa [pcl, pc1, Txt] using hown' : w9.ownsRow w.heap.size 75 3 v' (acc ++ [(L, q2, true)]).length (pcl (acc ++ [(L, q2, true)])))
                obtain ⟨vA', vC', rfl⟩ := own_form HO9.out
                clear hown' hgrow e0 e1 e2
                go_wp2_with fail
                go_roundg (s.size - k2 + 1)
                case measure => omega
                case rel => exact ⟨k2, n, acc ++ [(L, q2, true)], vA', vC', rfl, k22, by omega, by omega, by go_num, HX2.out.symm, HO9.out, HAc.out.snoc HLL.out (by dsimp only; omega) (by dsimp only; first | omega | simp) hl15, K9.out⟩
              · have br : (rm != 0) = true := by rw [bne_iff_ne]; exact hr0
                have HX2 := Lib.hid (Hr.out.symm.trans ((parF_err3 n s.data.toList j acc hlt' H59.out (by rw [Hf.out, HP.out]) (by rw [Hf.out, HP.out]; dsimp only; rw [hrm]; exact hr0)).trans (by rw [Hf.out, HP.out]; dsimp only; rw [hrm])) : R = ([], f, rm))
                have HBr := Lib.hid br
                clear hrm hr0 br
                go_wp2_with fail
                refine (HR2.out _ K6.out O6.out).mono ?_
                rintro e w8 ⟨rfl, hK8⟩
                have K8 := Lib.hid (K6.out.trans hK8)
                have br := HBr.out
                clear hK8 d0
                go_wp2_with fail
                go_ret3
                exact ⟨_, by rw [HX2.out]; rfl, by rw [HX2.out]; exact PmIn.nil _ _, K8.out.nilBelow, by rw [HX2.out]; simp⟩
            · have bx : (x != 0) = true := by rw [bne_iff_ne]; exact hx0
              have HX := Lib.hid (Hr.out.symm.trans ((parF_err2 n s.data.toList j acc hlt' H59.out (by rw [Hf.out, HP.out]; exact hx0)).trans (by rw [Hf.out, HP.out])) : R = ([], m, x))
              clear hx0 hok
              go_wp2_with fail
              refine (H4.out _).mono ?_
              rintro e w' ⟨rfl, rfl⟩
              go_wp2_with fail
              refine (H5.out _).mono ?_
              rintro e w5 ⟨rfl, hK5⟩
              dsimp only
              have K5 := Lib.hid (KA.out.trans hK5)
              clear hK5
              go_wp2_with fail
              go_ret3
              exact ⟨_, by rw [HX.out]; rfl, by rw [HX.out]; exact PmIn.nil _ _, K5.out.nilBelow, by rw [HX.out]; simp⟩
          · have HP := Lib.hid (by rw [pmR_bare _ _ Hne.out (by rw [Hu.out]; exact h61), Hnm.out, Hu.out] : pmR s.data.toList f = ((L, [], false), u, 0))
            have Hk2 := Lib.hid (by rw [← Hu.out]; exact blkE_idem _ _ : blkE s.data.toList u = u)
            have k22 : u ≤ s.size := u2
            have B6 := HBA
            have O6 := OA
            have K6 := KA
            have HQ0 := Lib.hid (rfl : Txt [] = ⟨#[]⟩)
            by_cases hus : u < s.size
            · have h6 := h61
              rw [atB_get s u hus] at h6
              have b61 : ((s[u].toNat : Int) == 61) = false := by rw [beq_eq_false_iff_ne]; exact h6
              clear h61 h6
              have HR2 := Lib.hid (fun (wz : World) (h : Kp [] w wz) (ho : wz.ownsRow w.heap.size 75 3 (.slice vA acc.length vC) acc.length (pcl acc)) => (by have h3 := rroom_any _ _ acc L wz (own_pm ho) (Nat.le_refl _) HAc.out.sz (by omega) (by omega); rwa [HAc.out.room L HLL.out] at h3 : Calls Tryz.prog 153 #[.slice vA acc.length vC, .string (Txt L)] wz (ErK (room acc L) wz)))
              have d0 := B6.out.cell 0
              obtain ⟨rm, hrm⟩ : ∃ r, room acc L = r := ⟨_, rfl⟩
              rw [hrm] at HR2
              by_cases hr0 : rm = 0
              · subst hr0
                have hl15 : acc.length ≤ 15 := by have := ((room_iff acc L).1 hrm).2; omega
                have HX2 := Lib.hid (Hr.out.symm.trans ((parF_step n s.data.toList j acc hlt' H59.out (by rw [Hf.out, HP.out]) (by rw [Hf.out, HP.out]; exact hrm)).trans (by rw [Hf.out, HP.out]; dsimp only; rw [Hk2.out])) : R = parF n s.data.toList u (acc ++ [(L, [], false)]))
                clear hrm
                go_wp2_with fail
                refine (HR2.out _ K6.out O6.out).mono ?_
                rintro e w8 ⟨rfl, hK8⟩
                have B8 := Lib.hid (B6.out.kp hK8 (by simp))
                have O8 := Lib.hid (own_kp O6.out hK8 (by simp))
                have K8 := Lib.hid (K6.out.trans hK8)
                have hsz8 := K8.out.size
                have e0 := B8.out.cell 0
                have e1 := B8.out.cell 1
                have e2 := B8.out.cell 2
                clear hK8 d0
                go_wp2_with (at_builtin; refine wpList_append_own _ rfl _ _ 22 rfl w.heap.size 75 i0 (.agg #[.string .empty, .string .empty, .bool false]) 3 40 Tryz.underlying22 hi hz0 hz1 hz2 rfl (by decide) _ _ _ rfl (O8.out.alloc _) ⟨w8.heap.size, 0, none⟩ 1 1 [.string (Txt L), .string (Txt []), .bool false] rfl rfl (cell_three_new _ _ _ _ _) (by simp [Value.oneCell']) ?c3 ?c4 ?c5 ?_)
                case c3 => unfold maxLen; omega
                case c4 => omega
                case c5 => simp; omega
                intro v' w9 hown' hgrow _
                have K9 := Lib.hid ((K8.out.alloc (.cells #[.string (Txt L), .string (Txt []), .bool false] 75)).grown hgrow (fun g hg => .inr (O8.out.lt g hg).1))
                have HO9 := Lib.hid (by simpa [pcl, pc1, Txt] using hown' : w9.ownsRow w.heap.size 75 3 v' (acc ++ [(L, [], false)]).length (pcl (acc ++ [(L, [], false)])))
                obtain ⟨vA', vC', rfl⟩ := own_form HO9.out
                clear hown' hgrow e0 e1 e2
                go_wp2_with fail
                go_roundg (s.size - u + 1)
                case measure => omega
                case rel => exact ⟨u, n, acc ++ [(L, [], false)], vA', vC', rfl, k22, by omega, by omega, by go_num, HX2.out.symm, HO9.out, HAc.out.snoc HLL.out (by dsimp only; omega) (by dsimp only; first | omega | simp) hl15, K9.out⟩
              · have br : (rm != 0) = true := by rw [bne_iff_ne]; exact hr0
                have HX2 := Lib.hid (Hr.out.symm.trans ((parF_err3 n s.data.toList j acc hlt' H59.out (by rw [Hf.out, HP.out]) (by rw [Hf.out, HP.out]; dsimp only; rw [hrm]; exact hr0)).trans (by rw [Hf.out, HP.out]; dsimp only; rw [hrm])) : R = ([], f, rm))
                have HBr := Lib.hid br
                clear hrm hr0 br
                go_wp2_with fail
                refine (HR2.out _ K6.out O6.out).mono ?_
                rintro e w8 ⟨rfl, hK8⟩
                have K8 := Lib.hid (K6.out.trans hK8)
                have br := HBr.out
                clear hK8 d0
                go_wp2_with fail
                go_ret3
                exact ⟨_, by rw [HX2.out]; rfl, by rw [HX2.out]; exact PmIn.nil _ _, K8.out.nilBelow, by rw [HX2.out]; simp⟩
            · clear h61
              have HR2 := Lib.hid (fun (wz : World) (h : Kp [] w wz) (ho : wz.ownsRow w.heap.size 75 3 (.slice vA acc.length vC) acc.length (pcl acc)) => (by have h3 := rroom_any _ _ acc L wz (own_pm ho) (Nat.le_refl _) HAc.out.sz (by omega) (by omega); rwa [HAc.out.room L HLL.out] at h3 : Calls Tryz.prog 153 #[.slice vA acc.length vC, .string (Txt L)] wz (ErK (room acc L) wz)))
              have d0 := B6.out.cell 0
              obtain ⟨rm, hrm⟩ : ∃ r, room acc L = r := ⟨_, rfl⟩
              rw [hrm] at HR2
              by_cases hr0 : rm = 0
              · subst hr0
                have hl15 : acc.length ≤ 15 := by have := ((room_iff acc L).1 hrm).2; omega
                have HX2 := Lib.hid (Hr.out.symm.trans ((parF_step n s.data.toList j acc hlt' H59.out (by rw [Hf.out, HP.out]) (by rw [Hf.out, HP.out]; exact hrm)).trans (by rw [Hf.out, HP.out]; dsimp only; rw [Hk2.out])) : R = parF n s.data.toList u (acc ++ [(L, [], false)]))
                clear hrm
                go_wp2_with fail
                refine (HR2.out _ K6.out O6.out).mono ?_
                rintro e w8 ⟨rfl, hK8⟩
                have B8 := Lib.hid (B6.out.kp hK8 (by simp))
                have O8 := Lib.hid (own_kp O6.out hK8 (by simp))
                have K8 := Lib.hid (K6.out.trans hK8)
                have hsz8 := K8.out.size
                have e0 := B8.out.cell 0
                have e1 := B8.out.cell 1
                have e2 := B8.out.cell 2
                clear hK8 d0
                go_wp2_with (at_builtin; refine wpList_append_own _ rfl _ _ 22 rfl w.heap.size 75 i0 (.agg #[.string .empty, .string .empty, .bool false]) 3 40 Tryz.underlying22 hi hz0 hz1 hz2 rfl (by decide) _ _ _ rfl (O8.out.alloc _) ⟨w8.heap.size, 0, none⟩ 1 1 [.string (Txt L), .string (Txt []), .bool false] rfl rfl (cell_three_new _ _ _ _ _) (by simp [Value.oneCell']) ?c3 ?c4 ?c5 ?_)
                case c3 => unfold maxLen; omega
                case c4 => omega
                case c5 => simp; omega
                intro v' w9 hown' hgrow _
                have K9 := Lib.hid ((K8.out.alloc (.cells #[.string (Txt L), .string (Txt []), .bool false] 75)).grown hgrow (fun g hg => .inr (O8.out.lt g hg).1))
                have HO9 := Lib.hid (by simpa [pcl, pc1, Txt] using hown' : w9.ownsRow w.heap.size 75 3 v' (acc ++ [(L, [], false)]).length (pcl (acc ++ [(L, [], false)])))
                obtain ⟨vA', vC', rfl⟩ := own_form HO9.out
                clear hown' hgrow e0 e1 e2
                go_wp2_with fail
                go_roundg (s.size - u + 1)
                case measure => omega
                case rel => exact ⟨u, n, acc ++ [(L, [], false)], vA', vC', rfl, k22, by omega, by omega, by go_num, HX2.out.symm, HO9.out, HAc.out.snoc HLL.out (by dsimp only; omega) (by dsimp only; first | omega | simp) hl15, K9.out⟩
              · have br : (rm != 0) = true := by rw [bne_iff_ne]; exact hr0
                have HX2 := Lib.hid (Hr.out.symm.trans ((parF_err3 n s.data.toList j acc hlt' H59.out (by rw [Hf.out, HP.out]) (by rw [Hf.out, HP.out]; dsimp only; rw [hrm]; exact hr0)).trans (by rw [Hf.out, HP.out]; dsimp only; rw [hrm])) : R = ([], f, rm))
                have HBr := Lib.hid br
                clear hrm hr0 br
                go_wp2_with fail
                refine (HR2.out _ K6.out O6.out).mono ?_
                rintro e w8 ⟨rfl, hK8⟩
                have K8 := Lib.hid (K6.out.trans hK8)
                have br := HBr.out
                clear hK8 d0
                go_wp2_with fail
                go_ret3
                exact ⟨_, by rw [HX2.out]; rfl, by rw [HX2.out]; exact PmIn.nil _ _, K8.out.nilBelow, by rw [HX2.out]; simp⟩
      · have h5 := h59
        rw [atB_get s j hlt] at h5
        have b59 : ((s[j].toNat : Int) != 59) = true := by rw [bne_iff_ne]; exact h5
        have HX := Lib.hid (Hr.out.symm.trans (parF_err1 n s.data.toList j acc hlt' h59))
        clear h59 h5
        go_wp2_with fail
        go_ret3
        exact ⟨_, by rw [HX.out]; rfl, by rw [HX.out]; exact PmIn.nil _ _, HK.out.nilBelow, by rw [HX.out]; simp⟩
    · have HX := Lib.hid (Hr.out.symm.trans (parF_end n s.data.toList j acc (by rw [len_list]; omega)))
      have HP := Lib.hid (own_pm Ho.out)
      go_wp2_with fail
      go_ret3
      exact ⟨_, by rw [HX.out]; rfl, by rw [HX.out]; exact HP.out, HK.out.nilBelow, by rw [HX.out]; exact hl16⟩
end Ad
end Go.Proofs.YtonbkedjlbhpfaaGreatDoor
