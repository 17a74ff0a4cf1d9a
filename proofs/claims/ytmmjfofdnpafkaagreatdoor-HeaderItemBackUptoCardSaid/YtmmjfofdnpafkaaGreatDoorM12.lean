/- Contracts of package header: List, Address, Tidy of lists. -/
import Derived.Test.YtmmjfofdnpafkaaGreatDoorM11
import Derived.Test.YtmmjfofdnpafkaaGreatDoorM10
import Derived.Test.YtmmjfofdnpafkaaGreatDoorM7
import Derived.Test.YtmmjfofdnpafkaaGreatDoorAdWf
import Derived.Test.YtmmjfofdnpafkaaGreatDoorAdPx
/- Contracts of List and Address of package header. A text has at most 2^20 bytes. -/
namespace Go.Proofs.YtmmjfofdnpafkaaGreatDoor
namespace Ad
open Go.RowKit Lx

/-- The texts of pieces, none of which is empty; and the error. -/
def listR (l : List UInt8) : List (List UInt8) × Int :=
  if (spF l 44).2.2 ≠ 0 then ([], (spF l 44).2.2) else if (spF l 44).1.any (fun p => decide (p.2 = [])) then ([], 5) else ((spF l 44).1.map (·.2), 0)
def LtP (r : List (List UInt8) × Int) (w : World) (e : Ending) (w' : World) : Prop := ∃ v, e = .returned (.tuple #[v, .int .u8 r.2]) ∧ w'.ownsRow w.heap.size 9 1 v r.1.length (tkc r.1) ∧ Kp [] w w'
theorem spF_len2 (l : List UInt8) (sep : Int) : (spF l sep).1.length ≤ l.length + 1 := by
  unfold spF
  split
  · simp
  · have := spR_len l sep l.length 0 0 []; simpa using this
theorem own_nil (w : World) (b : Nat) : w.ownsRow b 9 1 (.slice none 0 0) ([] : List (List UInt8)).length (tkc []) := World.ownsRow_nil w b 9 1
theorem own_base {w : World} {a b : Nat} {e : TypeId} {size : Nat} {v : Value} {n : Nat} {xs : List Value} (h : w.ownsRow a e size v n xs) (hb : b ≤ a) : w.ownsRow b e size v n xs := by
  rcases h.2 with h2 | ⟨g, cap, cur, h3, h4, h5⟩
  · exact ⟨h.1, .inl h2⟩
  · exact ⟨h.1, .inr ⟨g, cap, cur, h3, Nat.le_trans hb h4, h5⟩⟩
theorem take_next {α : Type} (l : List α) (j : Nat) (x : α) (h : l[j]? = some x) : l.take (j + 1) = l.take j ++ [x] := by
  rw [List.take_add_one, h]; rfl
set_option maxRecDepth 100000 in
set_option maxHeartbeats 8000000 in
theorem list_any (s : ByteArray) (w : World) (hs : s.size ≤ 1048576) :
    Calls Tryz.prog 31 #[.string s] w (LtP (listR s.data.toList) w) := by
  have HSp := Lib.hid (Lx.split_any s 44 w (by omega))
  obtain ⟨ps, n, x, hr⟩ : ∃ a b c, spF s.data.toList 44 = (a, b, c) := ⟨_, _, _, rfl⟩
  have hpl := spF_len2 s.data.toList 44
  rw [hr] at HSp hpl
  rw [len_list] at hpl
  have HV := Lib.hid (by unfold listR; rw [hr] : listR s.data.toList = if x ≠ 0 then ([], x) else if ps.any (fun p => decide (p.2 = [])) then ([], 5) else (ps.map (·.2), 0))
  obtain ⟨i0, hi, hz0, hz1, hz2⟩ := info_parts infoStr
  dsimp only at hpl
  clear hr
  by_cases hx : x = 0
  case neg =>
    have bx : (x != 0) = true := by rw [bne_iff_ne]; exact hx
    have HF := Lib.hid (HV.out.trans (if_pos hx))
    clear hx
    go_enter Tryz.func31, Tryz.ntmps31
    go_wp2_with fail
    refine HSp.out.mono ?_
    rintro e w1 ⟨v, rfl, hown, hB⟩
    have K1 := Lib.hid ((Kp.refl [] w).below hB)
    clear hown hB
    go_wp2_with fail
    go_ret2
    unfold LtP
    rw [HF.out]
    exact ⟨_, rfl, own_nil _ _, K1.out⟩
  have bx : (x != 0) = false := by rw [hx]; rfl
  have HV1 := Lib.hid (HV.out.trans (if_neg (fun h => h hx)))
  clear hx
  go_enter Tryz.func31, Tryz.ntmps31
  go_wp2_with fail
  refine HSp.out.mono ?_
  rintro e w1 ⟨v, rfl, hown, hB⟩
  have K1 := Lib.hid ((Kp.refl [] w).below hB)
  dsimp only at hown
  have hrow := PcIn.of_row hown
  obtain ⟨a, c, rfl, hcel⟩ := hrow
  have Hcel := Lib.hid hcel
  have hown2 := hown
  have HOwn := Lib.hid hown
  have hsz1 := hB.size
  clear hown hown2 hB hcel
  go_wp2_with fail
  go_loopw [7, 21] (fun out i wr => ∃ (j : Nat) (acc : List (List UInt8)) (vA : Option Addr) (vC : Nat), j ≤ ps.length ∧ i = .int .i64 j ∧ out = .slice vA acc.length vC ∧ acc = (ps.take j).map (·.2) ∧ (ps.take j).any (fun p => decide (p.2 = [])) = false ∧ wr.ownsRow w1.heap.size 9 1 (.slice vA acc.length vC) acc.length (tkc acc) ∧ Kp [] w1 wr) (fun _ i _ => ps.length - (intOf i).toNat)
  case atStart => exact ⟨0, [], none, 0, by omega, rfl, rfl, by simp, by simp, by simpa [tkc] using World.ownsRow_nil w1 w1.heap.size 9 1, Kp.refl _ _⟩
  case round =>
    obtain ⟨j, acc, vA, vC, hj, rfl, rfl, hacc, hany, hown, hK⟩ := hrel
    obtain ⟨w2, rfl⟩ : ∃ w2, w2 = wr := ⟨_, rfl⟩
    have hal : acc.length = j := by rw [hacc, List.length_map, List.length_take]; omega
    have Hacc := Lib.hid hacc
    have Hany := Lib.hid hany
    have Ho := Lib.hid hown
    have HK := Lib.hid hK
    have hsz2 := hK.size
    have hal2 : acc.length ≤ j := by omega
    clear hacc hany hown hK hal
    by_cases hlt : j < ps.length
    · obtain ⟨⟨o, y⟩, hy⟩ : ∃ p, ps[j]? = some p := ⟨ps[j], List.getElem?_eq_getElem hlt⟩
      have hne : ps ≠ [] := by intro h; rw [h] at hlt; simp at hlt
      obtain ⟨g, ha, hcell⟩ := Hcel.out hne
      have hgl : g < w1.heap.size := by
        have := HOwn.out.lt g (by rw [ha]; rfl)
        exact this.2
      obtain ⟨p1, p2⟩ := pcells_pair ps j _ hy
      have c0 : w2.cell? ⟨g, j * 2, none⟩ = some (.int .i64 (o : Int)) := (HK.out.cell (p := ⟨g, j * 2, none⟩) hgl (by simp)).trans (hcell _ _ p1)
      have c1 : w2.cell? ⟨g, j * 2 + 1, none⟩ = some (.string (Txt y)) := (HK.out.cell (p := ⟨g, j * 2 + 1, none⟩) hgl (by simp)).trans (hcell _ _ p2)
      have Htk := Lib.hid (take_next ps j _ hy)
      have Hmem := Lib.hid (List.mem_of_getElem? hy)
      subst ha
      obtain ⟨w3, hw3⟩ : ∃ x, w2.alloc (.cells #[.int .i64 (o : Int), .string (Txt y)] 110) = x := ⟨_, rfl⟩
      obtain ⟨b, hbb⟩ : ∃ x, w2.heap.size = x := ⟨_, rfl⟩
      have B3 := Lib.hid (show Blk w3 b 110 #[.int .i64 (o : Int), .string (Txt y)] from by rw [← hw3, ← hbb]; exact Blk.new w2 _ _)
      have hKa : Kp [] w2 w3 := by rw [← hw3]; exact (Kp.refl _ _).alloc _
      have K3 := Lib.hid (HK.out.trans hKa)
      have O3 := Lib.hid (own_kp1 Ho.out hKa (by simp))
      have e1 := B3.out.cell 1
      have hsz3 := K3.out.size
      clear hy hne hcell p1 p2 hKa
      cases hE : decide (y = [])
      · have bE : ((Txt y).toList == ([] : List UInt8)) = false := (emp_D _).trans hE
        have HAn := Lib.hid (by rw [Htk.out, List.any_append, Hany.out]; simpa using hE : (ps.take (j + 1)).any (fun p => decide (p.2 = [])) = false)
        clear hE
        go_wp2_with (at_builtin; refine wpList_append_own _ rfl _ _ 45 rfl w1.heap.size 9 i0 (.string .empty) 1 16 Tryz.underlying45 hi hz0 hz1 hz2 rfl (by decide) _ _ _ rfl (O3.out.alloc _) ⟨w3.heap.size, 0, none⟩ 1 1 [.string (Txt y)] rfl rfl ?c2 (by simp [Value.oneCell']) ?c3 ?c4 ?c5 ?_)
        case c2 =>
          intro i u hu
          match i, hu with
          | 0, hu => simp at hu; subst hu; simp [Addr.add]
        case c3 => unfold maxLen; omega
        case c4 => omega
        case c5 => simp; omega
        intro v' w7 hown' hgrow _
        have K7 := Lib.hid ((K3.out.alloc (.cells #[.string (Txt y)] 9)).grown hgrow (fun g hg => .inr (O3.out.lt g hg).1))
        have HO7 := (by simpa [tkc] using hown' : w7.ownsRow w1.heap.size 9 1 v' (acc ++ [y]).length (tkc (acc ++ [y])))
        obtain ⟨vA', vC', rfl⟩ : ∃ p c, v' = .slice p (acc ++ [y]).length c := by
          rcases HO7.2 with ⟨hv, hz⟩ | ⟨g, cap, cur, hv, _⟩
          · exact ⟨none, 0, by rw [hv, hz]⟩
          · exact ⟨_, cap, hv⟩
        have HO7 := Lib.hid HO7
        clear hown' hgrow
        go_wp2_with fail
        go_roundw
        case rel => exact ⟨j + 1, acc ++ [y], vA', vC', by omega, by go_num, rfl, by rw [Htk.out, List.map_append, ← Hacc.out]; rfl, HAn.out, HO7.out, K7.out⟩
        case measure => simp [intOf]; omega
      · have bE : ((Txt y).toList == ([] : List UInt8)) = true := (emp_D _).trans hE
        have HF := Lib.hid (by rw [HV1.out, if_pos (List.any_eq_true.2 ⟨_, Hmem.out, hE⟩)] : listR s.data.toList = ([], 5))
        clear hE
        go_wp2_with fail
        go_ret2
        unfold LtP
        rw [HF.out]
        exact ⟨_, rfl, own_nil _ _, K1.out.trans K3.out⟩
    · have hje : j = ps.length := by omega
      have HF := Lib.hid (by
        have h := Hany.out
        rw [hje, List.take_length] at h
        rw [HV1.out, h, if_neg (by decide)] : listR s.data.toList = (ps.map (·.2), 0))
      have HA := Lib.hid (by rw [Hacc.out, hje, List.take_length] : acc = ps.map (·.2))
      have HSt := Lib.hid (own_base Ho.out hsz1)
      clear hje
      go_wp2_with fail
      go_ret2
      unfold LtP
      rw [HF.out, ← HA.out]
      exact ⟨_, rfl, HSt.out, K1.out.trans HK.out⟩
/-- An address and an error. -/
def AdE (r : Adr × Int) (w : World) (e : Ending) (w' : World) : Prop := ∃ v, e = .returned (.tuple #[v, .int .u8 r.2]) ∧ AdIn w'.heap.size w' v r.1 ∧ Kp [] w w'
set_option maxRecDepth 100000 in
set_option maxHeartbeats 4000000 in
theorem haddress_any (s : ByteArray) (w : World) (hs : s.size ≤ 2097152) (E : Env w) :
    Calls Tryz.prog 34 #[.string s] w (AdE ((adrR (trS s.data.toList)).1, (adrR (trS s.data.toList)).2.2) w) := by
  obtain ⟨t, ht⟩ : ∃ t, trS s.data.toList = t := ⟨_, rfl⟩
  have htl : t.length ≤ 2097152 := by rw [← ht]; have := trS_len s.data.toList; rw [len_list] at this; omega
  rw [ht]
  obtain ⟨a, n, x, hr⟩ : ∃ a' b' c', adrR t = (a', b', c') := ⟨_, _, _, rfl⟩
  obtain ⟨w0, hw0⟩ : ∃ x, w.alloc (.cells zA 26) = x := ⟨_, rfl⟩
  have K0 := Lib.hid (show Kp [] w w0 from by rw [← hw0]; exact (Kp.refl _ _).alloc _)
  have Z0 := Lib.hid (show Zab w0 w.heap.size from by rw [← hw0]; exact Blk.new w 26 _)
  have E0 := Lib.hid (E.kp K0.out (by simp))
  have HT := Lib.hid (by have h := trimmed_any s w0 hs; rw [ht] at h; exact h : Calls Tryz.prog 72 #[.string s] w0 (TxK t w0))
  have HP := Lib.hid (fun wz (hE : Env wz) => (by have h := ParseAddress_any (Txt t) wz (by rw [txt_size]; exact htl) hE; rw [txt_list, hr] at h; exact h : Calls Tryz.prog 61 #[.string (Txt t)] wz (AdrP (a, n, x) wz)))
  rw [hr]
  dsimp only
  clear ht hr E
  go_enter Tryz.func34, Tryz.ntmps34
  go_wp2_with fail
  refine HT.out.mono ?_
  rintro e w1 ⟨rfl, hK1⟩
  have K1 := Lib.hid (K0.out.trans hK1)
  have Z1 := Lib.hid (show Zab w1 w.heap.size from Z0.out.kp hK1 (by simp))
  have E1 := Lib.hid (E0.out.kp hK1 (by simp))
  clear hK1
  go_wp2_with fail
  refine (HP.out _ E1.out).mono ?_
  rintro e w2 ⟨v, rfl, hv, hB2⟩
  have hK2 := (Kp.refl [] w1).below hB2
  have K2 := Lib.hid (K1.out.trans hK2)
  have Z2 := Lib.hid (show Zab w2 w.heap.size from Z1.out.kp hK2 (by simp))
  have Hv := hv
  obtain ⟨vp, vh, vq, rfl, h1, h2, h3⟩ := hv
  obtain ⟨A1, C1, rfl⟩ := h1.form
  obtain ⟨A2, C2, rfl⟩ := h2.form
  obtain ⟨A3, C3, rfl⟩ := h3.form
  clear h1 h2 h3 hB2 hK2
  dsimp only at Hv ⊢
  obtain ⟨D, hD⟩ : ∃ S, Txt a.display = S := ⟨_, rfl⟩
  obtain ⟨S, hS⟩ : ∃ S, Txt a.uri.scheme = S := ⟨_, rfl⟩
  obtain ⟨U, hU⟩ : ∃ S, Txt a.uri.user = S := ⟨_, rfl⟩
  obtain ⟨H, hH⟩ : ∃ S, Txt a.uri.host = S := ⟨_, rfl⟩
  obtain ⟨P, hP⟩ : ∃ S, a.uri.port = S := ⟨_, rfl⟩
  obtain ⟨n1, hn1⟩ : ∃ S, a.uri.params.length = S := ⟨_, rfl⟩
  obtain ⟨n2, hn2⟩ : ∃ S, a.uri.heads.length = S := ⟨_, rfl⟩
  obtain ⟨n3, hn3⟩ : ∃ S, a.params.length = S := ⟨_, rfl⟩
  rw [hD, hS, hU, hH, hP, hn1, hn2, hn3] at Hv ⊢
  clear hD hS hU hH hP hn1 hn2 hn3
  obtain ⟨g, hg⟩ : ∃ x, w2.heap.size = x := ⟨_, rfl⟩
  obtain ⟨w3, hw3⟩ : ∃ x, w2.alloc (.cells #[.string D, .string S, .string U, .string H, .int .i64 P, .slice A1 n1 C1, .slice A2 n2 C2, .slice A3 n3 C3] 26) = x := ⟨_, rfl⟩
  have hKa : Kp [] w2 w3 := by rw [← hw3]; exact (Kp.refl _ _).alloc _
  have K3 := Lib.hid (K2.out.trans hKa)
  have Z3 := Lib.hid (show Zab w3 w.heap.size from Z2.out.kp hKa (by simp))
  have B3 := Lib.hid (show Blk w3 g 26 #[.string D, .string S, .string U, .string H, .int .i64 P, .slice A1 n1 C1, .slice A2 n2 C2, .slice A3 n3 C3] from by rw [← hw3, ← hg]; exact Blk.new w2 _ _)
  have V3 := Lib.hid (Hv.kpn hKa)
  clear Hv hKa
  go_upto_region 2 with fail
  try rw [hw3]
  have u0 := B3.out.cell 0
  have u1 := B3.out.cell 1
  have u2 := B3.out.cell 2
  have u3 := B3.out.cell 3
  have u4 := B3.out.cell 4
  have u5 := B3.out.cell 5
  have u6 := B3.out.cell 6
  have u7 := B3.out.cell 7
  have d0 := Z3.out.cell 0
  have d1 := Z3.out.cell 1
  have d2 := Z3.out.cell 2
  have d3 := Z3.out.cell 3
  have d4 := Z3.out.cell 4
  have d5 := Z3.out.cell 5
  have d6 := Z3.out.cell 6
  have d7 := Z3.out.cell 7
  have g0 := Z3.out.frozen 0
  have g1 := Z3.out.frozen 1
  have g2 := Z3.out.frozen 2
  have g3 := Z3.out.frozen 3
  have g4 := Z3.out.frozen 4
  have g5 := Z3.out.frozen 5
  have g6 := Z3.out.frozen 6
  have g7 := Z3.out.frozen 7
  go_wp2_with fail
  refine bodyPost_ret (results_two rfl _ _ w.heap.size 26 _ (0, 0) _ rfl (blk8 Z3.out _ _ _ _ _ _ _ _) Tryz.underlying26 rfl infoAdr) rfl ?_
  have hk8 := kp8 (Kp.refl [w.heap.size] w3) (g := w.heap.size) (.inl (by simp)) (.string D) (.string S) (.string U) (.string H) (.int .i64 P) (.slice A1 n1 C1) (.slice A2 n2 C2) (.slice A3 n3 C3)
  exact ⟨_, rfl, V3.out.grow hk8 (by intro y hy; rw [List.mem_singleton.1 hy]; exact Z3.out.nob), kp8 K3.out (.inr (Nat.le_refl _)) _ _ _ _ _ _ _ _⟩
end Ad
end Go.Proofs.YtmmjfofdnpafkaaGreatDoor
/- Contracts of rewritten at an address, of tidyOne at an address and of Tidy at a list of addresses, of package header. A text has at most 2^20 bytes. -/
namespace Go.Proofs.YtmmjfofdnpafkaaGreatDoor
namespace Ad
open Go.RowKit Lx

theorem pmR_sz (l : List UInt8) (k : Nat) : (pmR l k).1.1.length ≤ l.length + 86 ∧ (pmR l k).1.2.1.length ≤ l.length + 86 := by
  by_cases hz : tokE l k = k
  · rw [pmR_none _ _ hz]; exact ⟨Nat.zero_le _, Nat.zero_le _⟩
  · have h1 : (lowL (slc l k (tokE l k))).length ≤ l.length := by rw [lowL_length]; exact slc_lel _ _ _
    by_cases h61 : atB l (blkE l (tokE l k)) = 61
    · rw [pmR_val _ _ hz h61]; exact ⟨by dsimp only; omega, valR_len _ _⟩
    · rw [pmR_bare _ _ hz h61]; exact ⟨by dsimp only; omega, Nat.zero_le _⟩
theorem parF_sz (l : List UInt8) : ∀ (n k : Nat) (acc : List Prm), SzL (l.length + 86) acc → SzL (l.length + 86) (parF n l k acc).1 := by
  intro n
  induction n with
  | zero => intro k acc h; exact h
  | succ n ih =>
    intro k acc h
    rcases Nat.lt_or_ge k l.length with hk | hk
    · by_cases h59 : atB l k = 59
      · by_cases h3 : (pmR l (blkE l (k + 1))).2.2 = 0
        · by_cases h4 : room acc (pmR l (blkE l (k + 1))).1.1 = 0
          · rw [parF_step n l k acc hk h59 h3 h4]
            refine ih _ _ ?_
            intro p hp
            rcases List.mem_append.1 hp with h5 | h5
            · exact h p h5
            · rw [List.mem_singleton.1 h5]; exact pmR_sz _ _
          · rw [parF_err3 n l k acc hk h59 h3 h4]; exact fun p hp => by cases hp
        · rw [parF_err2 n l k acc hk h59 h3]; exact fun p hp => by cases hp
      · rw [parF_err1 n l k acc hk h59]; exact fun p hp => by cases hp
    · rw [parF_end n l k acc hk]; exact h
/-- Texts of an address of moderate size. -/
structure MdA (m : Nat) (a : Adr) : Prop where
  d : a.display.length ≤ m
  u : SzU a.uri ∧ a.uri.host.length ≤ 1048576
  p : SzL (m + 86) a.params
  n : a.params.length ≤ 16
theorem szU_nil : SzU nilU := ⟨Nat.zero_le _, Nat.zero_le _, Nat.zero_le _, Nat.zero_le _, Nat.zero_le _, (fun p hp => by cases hp), (fun p hp => by cases hp)⟩
theorem mdA_nil (m : Nat) : MdA m nilA := ⟨Nat.zero_le _, ⟨szU_nil, Nat.zero_le _⟩, (fun p hp => by cases hp), Nat.zero_le _⟩
theorem parse_md (l : List UInt8) : SzU (parse l).1 ∧ (parse l).1.host.length ≤ 1048576 := by
  by_cases hx : (parse l).2.2 = 0
  · exact (parse_sz l hx).szU (by have := parse_short l hx; omega)
  · rw [(parse_at l).2 hx]; exact ⟨szU_nil, Nat.zero_le _⟩
theorem restR_md (l d : List UInt8) (a b c m : Nat) (hd : d.length ≤ m) (hl : l.length ≤ m) : MdA m (restR l d a b c).1 := by
  unfold restR
  split
  · exact mdA_nil m
  · split
    · exact mdA_nil m
    · exact ⟨hd, parse_md _, fun p hp => by have := parF_sz l (l.length + 1) (blkE l c) [] (fun p hp => by cases hp) p hp; exact ⟨by have := this.1; omega, by have := this.2; omega⟩, parF_len _ _ _ _ (Nat.zero_le _)⟩
theorem angR_md (l d : List UInt8) (k m : Nat) (hd : d.length ≤ m) (hl : l.length ≤ m) : MdA m (angR l d k).1 := by
  unfold angR
  split
  · exact mdA_nil m
  · exact restR_md _ _ _ _ _ _ hd hl
theorem tksF_sum (l : List UInt8) (te : Nat) : ∀ (n k : Nat) (acc : List (List UInt8)), k ≤ l.length → (acc.map List.length).sum ≤ k → acc.length ≤ k → ((tksF n l k te acc).1.map List.length).sum ≤ l.length ∧ (tksF n l k te acc).1.length ≤ l.length := by
  intro n
  induction n with
  | zero => intro k acc hk h1 h2; unfold tksF; exact ⟨by dsimp only; omega, by dsimp only; omega⟩
  | succ n ih =>
    intro k acc hk h1 h2
    by_cases h : te ≤ k
    · rw [tksF_end n l k te acc h]; exact ⟨by dsimp only; omega, by dsimp only; omega⟩
    · by_cases ht : tokE l k = k
      · rw [tksF_bad n l k te acc (by omega) ht]; exact ⟨Nat.zero_le _, Nat.zero_le _⟩
      · rw [tksF_step n l k te acc (by omega) ht]
        have e1 := tokE_len l k hk
        have e2 := blkE_len l _ e1
        have e3 : k ≤ tokE l k := by unfold tokE; omega
        have e4 : tokE l k ≤ blkE l (tokE l k) := by unfold blkE; omega
        refine ih _ _ e2 ?_ ?_
        · rw [List.map_append, List.sum_append]
          have := slc_le l k (tokE l k)
          simp only [List.map_cons, List.map_nil, List.sum_cons, List.sum_nil]
          omega
        · rw [List.length_append, List.length_singleton]; omega
theorem adrR_md (l : List UInt8) (hl : l.length ≤ 1024) : MdA 4096 (adrR l).1 := by
  have hb := blkE_len l 0 (Nat.zero_le _)
  unfold adrR
  split
  · exact mdA_nil _
  · split
    · split
      · exact mdA_nil _
      · split
        · exact mdA_nil _
        · exact angR_md _ _ _ _ (by have := unq_len l (blkE l 0); omega) (by omega)
    · split
      · split
        · exact mdA_nil _
        · refine angR_md _ _ _ _ ?_ (by omega)
          have h := tksF_sum l (endP (· == 60) l (blkE l 0)) (l.length + 1) (blkE l 0) [] hb (by simp) (by simp)
          have := joinL_acc 32 _ _ h.1
          omega
      · split
        · exact mdA_nil _
        · exact restR_md _ _ _ _ _ _ (Nat.zero_le _) (by omega)
theorem adrR_md2 (l : List UInt8) : MdA 4096 (adrR l).1 := by
  by_cases hl : 1024 < l.length
  · unfold adrR; rw [if_pos hl]; exact mdA_nil _
  · exact adrR_md l (by omega)
/-- The normal form of an address text, and the error. -/
def tidA (l : List UInt8) : List UInt8 × Int :=
  if (adrR (trS l)).2.2 ≠ 0 then ([], (adrR (trS l)).2.2) else ((adrO (adrR (trS l)).1).getD [], if (adrO (adrR (trS l)).1).isSome then 0 else 2)
set_option maxRecDepth 100000 in
set_option maxHeartbeats 4000000 in
theorem rewrA_any (s : ByteArray) (w : World) (hs : s.size ≤ 2097152) (E : Env w) :
    Calls Tryz.prog 177 #[.string s, .func (.func 34) #[] #[], .func (.func 17) #[] #[]] w (TxE (tidA s.data.toList) w) := by
  obtain ⟨a, n, x, hr⟩ : ∃ a' b' c', adrR (trS s.data.toList) = (a', b', c') := ⟨_, _, _, rfl⟩
  have hmd := adrR_md2 (trS s.data.toList)
  have HA := Lib.hid (haddress_any s w hs E)
  rw [hr] at hmd HA
  have HV := Lib.hid (by unfold tidA; rw [hr] : tidA s.data.toList = if x ≠ 0 then ([], x) else ((adrO a).getD [], if (adrO a).isSome then 0 else 2))
  dsimp only at hmd HA
  have hza : SzA a := ⟨by have := hmd.d; omega, hmd.u.1, hmd.u.2, by have := hmd.n; omega, fun p hp => by have := hmd.p p hp; exact ⟨by have := this.1; omega, by have := this.2; omega⟩⟩
  have HZ := Lib.hid hza
  have HE := Lib.hid E
  clear hr hmd E hza
  by_cases hx : x = 0
  · have bx : (x != 0) = false := by rw [hx]; rfl
    have HF := Lib.hid (HV.out.trans (if_neg (fun h => h hx)))
    clear hx
    go_enter Tryz.func177, Tryz.ntmps177
    go_wp2_with fail
    refine HA.out.mono ?_
    rintro e w2 ⟨v, rfl, hv, hK2⟩
    have K2 := Lib.hid hK2
    have Hv := hv
    obtain ⟨vp, vh, vq, rfl, h1, h2, h3⟩ := hv
    obtain ⟨A1, C1, rfl⟩ := h1.form
    obtain ⟨A2, C2, rfl⟩ := h2.form
    obtain ⟨A3, C3, rfl⟩ := h3.form
    clear h1 h2 h3 hK2
    dsimp only at Hv ⊢
    obtain ⟨D, hD⟩ : ∃ S, Txt a.display = S := ⟨_, rfl⟩
    obtain ⟨S, hS⟩ : ∃ S, Txt a.uri.scheme = S := ⟨_, rfl⟩
    obtain ⟨U, hU⟩ : ∃ S, Txt a.uri.user = S := ⟨_, rfl⟩
    obtain ⟨H, hH⟩ : ∃ S, Txt a.uri.host = S := ⟨_, rfl⟩
    obtain ⟨P, hP⟩ : ∃ S, a.uri.port = S := ⟨_, rfl⟩
    obtain ⟨n1, hn1⟩ : ∃ S, a.uri.params.length = S := ⟨_, rfl⟩
    obtain ⟨n2, hn2⟩ : ∃ S, a.uri.heads.length = S := ⟨_, rfl⟩
    obtain ⟨n3, hn3⟩ : ∃ S, a.params.length = S := ⟨_, rfl⟩
    rw [hD, hS, hU, hH, hP, hn1, hn2, hn3] at Hv ⊢
    clear hD hS hU hH hP hn1 hn2 hn3
    obtain ⟨g, hg⟩ : ∃ x, w2.heap.size = x := ⟨_, rfl⟩
    obtain ⟨w3, hw3⟩ : ∃ x, w2.alloc (.cells #[.string D, .string S, .string U, .string H, .int .i64 P, .slice A1 n1 C1, .slice A2 n2 C2, .slice A3 n3 C3] 26) = x := ⟨_, rfl⟩
    have hKa : Kp [] w2 w3 := by rw [← hw3]; exact (Kp.refl _ _).alloc _
    have K3 := Lib.hid (K2.out.trans hKa)
    have B3 := Lib.hid (show Blk w3 g 26 #[.string D, .string S, .string U, .string H, .int .i64 P, .slice A1 n1 C1, .slice A2 n2 C2, .slice A3 n3 C3] from by rw [← hw3, ← hg]; exact Blk.new w2 _ _)
    have V3 := Lib.hid (Hv.kpn hKa)
    clear Hv hKa
    have hP := printAddress_any w3.heap.size _ a w3 V3.out (Nat.le_refl _) HZ.out (HE.out.kp K3.out (by simp))
    unfold PrK at hP
    obtain ⟨pt, hpt⟩ : ∃ z, (adrO a).getD [] = z := ⟨_, rfl⟩
    obtain ⟨pe, hpe⟩ : ∃ z : Int, (if (adrO a).isSome then 0 else 2) = z := ⟨_, rfl⟩
    have hF := HF.out
    rw [hpt, hpe] at hP hF
    have HP := Lib.hid hP
    have HF2 := Lib.hid hF
    clear hP hF hpt hpe HF
    go_upto_region 4 with fail
    try rw [hw3]
    have u0 := B3.out.cell 0
    have u1 := B3.out.cell 1
    have u2 := B3.out.cell 2
    have u3 := B3.out.cell 3
    have u4 := B3.out.cell 4
    have u5 := B3.out.cell 5
    have u6 := B3.out.cell 6
    have u7 := B3.out.cell 7
    go_wp2_with fail
    refine HP.out.mono ?_
    rintro e w4 ⟨rfl, hK4⟩
    have K4 := Lib.hid (K3.out.trans hK4)
    clear hK4
    go_wp2_with fail
    go_ret2
    unfold TxE
    rw [HF2.out]
    exact ⟨rfl, K4.out⟩
  · have bx : (x != 0) = true := by rw [bne_iff_ne]; exact hx
    have HF := Lib.hid (HV.out.trans (if_pos hx))
    clear hx
    go_enter Tryz.func177, Tryz.ntmps177
    go_wp2_with fail
    refine HA.out.mono ?_
    rintro e w2 ⟨v, rfl, hv, hK2⟩
    have K2 := Lib.hid hK2
    have Hv := hv
    obtain ⟨vp, vh, vq, rfl, h1, h2, h3⟩ := hv
    obtain ⟨A1, C1, rfl⟩ := h1.form
    obtain ⟨A2, C2, rfl⟩ := h2.form
    obtain ⟨A3, C3, rfl⟩ := h3.form
    clear h1 h2 h3 hK2
    dsimp only at Hv ⊢
    obtain ⟨D, hD⟩ : ∃ S, Txt a.display = S := ⟨_, rfl⟩
    obtain ⟨S, hS⟩ : ∃ S, Txt a.uri.scheme = S := ⟨_, rfl⟩
    obtain ⟨U, hU⟩ : ∃ S, Txt a.uri.user = S := ⟨_, rfl⟩
    obtain ⟨H, hH⟩ : ∃ S, Txt a.uri.host = S := ⟨_, rfl⟩
    obtain ⟨P, hP⟩ : ∃ S, a.uri.port = S := ⟨_, rfl⟩
    obtain ⟨n1, hn1⟩ : ∃ S, a.uri.params.length = S := ⟨_, rfl⟩
    obtain ⟨n2, hn2⟩ : ∃ S, a.uri.heads.length = S := ⟨_, rfl⟩
    obtain ⟨n3, hn3⟩ : ∃ S, a.params.length = S := ⟨_, rfl⟩
    rw [hD, hS, hU, hH, hP, hn1, hn2, hn3] at Hv ⊢
    clear hD hS hU hH hP hn1 hn2 hn3
    obtain ⟨g, hg⟩ : ∃ x, w2.heap.size = x := ⟨_, rfl⟩
    obtain ⟨w3, hw3⟩ : ∃ x, w2.alloc (.cells #[.string D, .string S, .string U, .string H, .int .i64 P, .slice A1 n1 C1, .slice A2 n2 C2, .slice A3 n3 C3] 26) = x := ⟨_, rfl⟩
    have hKa : Kp [] w2 w3 := by rw [← hw3]; exact (Kp.refl _ _).alloc _
    have K3 := Lib.hid (K2.out.trans hKa)
    have B3 := Lib.hid (show Blk w3 g 26 #[.string D, .string S, .string U, .string H, .int .i64 P, .slice A1 n1 C1, .slice A2 n2 C2, .slice A3 n3 C3] from by rw [← hw3, ← hg]; exact Blk.new w2 _ _)
    have V3 := Lib.hid (Hv.kpn hKa)
    clear Hv hKa
    go_upto_region 3 with fail
    try rw [hw3]
    go_wp2_with fail
    go_ret2
    unfold TxE
    rw [HF.out]
    exact ⟨rfl, K3.out⟩
set_option maxRecDepth 100000 in
set_option maxHeartbeats 4000000 in
theorem tidyOne_adr (s : ByteArray) (w : World) (hs : s.size ≤ 2097152) (E : Env w) :
    Calls Tryz.prog 106 #[.int .u8 1, .string s] w (TxE (tidA s.data.toList) w) := by
  have HR := Lib.hid (rewrA_any s w hs E)
  obtain ⟨t, x, hr⟩ : ∃ a b, tidA s.data.toList = (a, b) := ⟨_, _, rfl⟩
  rw [hr] at HR ⊢
  clear hr E
  go_enter Tryz.func106, Tryz.ntmps106
  go_wp2_with fail
  refine HR.out.mono ?_
  rintro e w2 ⟨rfl, hK2⟩
  have K2 := Lib.hid hK2
  clear hK2
  go_wp2_with fail
  go_ret2
  exact ⟨rfl, K2.out⟩
end Ad
end Go.Proofs.YtmmjfofdnpafkaaGreatDoor
/- Contract of Tidy of package header at a list. A text has at most 2^20 bytes, and what is joined at most 2^47. -/
namespace Go.Proofs.YtmmjfofdnpafkaaGreatDoor
namespace Ad
open Go.RowKit Lx

/-- The normal forms of elements, or the first error. -/
def tidM (star : Bool) (f : List UInt8 → List UInt8 × Int) : List (List UInt8) → List (List UInt8) × Int
  | [] => ([], 0)
  | x :: t => if (star && x == [42]) = true then (x :: (tidM star f t).1, (tidM star f t).2)
    else if (f x).2 ≠ 0 then ([], (f x).2) else ((f x).1 :: (tidM star f t).1, (tidM star f t).2)
def tidJ (T : List (List UInt8) × Int) : List UInt8 × Int := if T.2 ≠ 0 then ([], T.2) else (Lib.join T.1 [44, 32], 0)
def conN : List UInt8 := [67, 111, 110, 116, 97, 99, 116]
theorem tkc_set (ys : List (List UInt8)) (x y : List UInt8) (zs : List (List UInt8)) : (tkc (ys ++ x :: zs)).set ys.length (.string (Txt y)) = tkc (ys ++ y :: zs) := by
  unfold tkc
  rw [List.map_append, List.map_append, List.set_append_right _ _ (by simp)]
  simp
set_option maxRecDepth 100000 in
set_option maxHeartbeats 8000000 in
theorem tidy_many (nm s : ByteArray) (cn : List UInt8) (xs : List (List UInt8)) (k : Int) (f : List UInt8 → List UInt8 × Int) (w : World) (hn : nm.size ≤ 2097152) (hs : s.size ≤ 1048576) (H : HEnv w)
    (hcan : canR nm.data.toList = (cn, 0)) (hk : kindR cn = (k, true)) (hl : listR s.data.toList = (xs, 0)) (hne : xs ≠ []) (hxn : xs.length ≤ 2097152) (hx : ∀ y ∈ xs, y.length ≤ 2097152)
    (HT : ∀ y wz, y.length ≤ 2097152 → HEnv wz → Calls Tryz.prog 106 #[.int .u8 k, .string (Txt y)] wz (TxE (f y) wz))
    (hj : (Lib.join (tidM (cn == conN) f xs).1 [44, 32]).length ≤ 140737488355328) :
    Calls Tryz.prog 50 #[.string nm, .string s] w (TxE (tidJ (tidM (cn == conN) f xs)) w) := by
  have HCa := Lib.hid (by have h := canon_any nm w hn H; rw [hcan] at h; exact h)
  have HKi := Lib.hid (fun wz (h : HEnv wz) => (by have h := kindOf_any cn wz h; rw [hk] at h; exact h))
  have HLi := Lib.hid (fun wz => (by have h := list_any s wz hs; rw [hl] at h; exact h))
  obtain ⟨star, hstar⟩ : ∃ b, (cn == conN) = b := ⟨_, rfl⟩
  have bC : ((Txt cn).toList == [67, 111, 110, 116, 97, 99, 116]) = star := by
    have := txt_eq_iff cn conN
    rw [hstar] at this
    rw [← this, Lib.toList_data, Lib.toList_data]; rfl
  rw [hstar] at hj ⊢
  obtain ⟨T, hT⟩ : ∃ T, tidM star f xs = T := ⟨_, rfl⟩
  rw [hT] at hj ⊢
  have HTe := Lib.hid hT
  have HTo := Lib.hid HT
  have H0 := Lib.hid H
  have Hx := Lib.hid hx
  have Hne := Lib.hid hne
  have Hj := Lib.hid hj
  clear hcan hk hl hstar hT HT H hx hne hj
  go_enter Tryz.func50, Tryz.ntmps50
  go_wp2_with fail
  refine HCa.out.mono ?_
  rintro e w1 ⟨rfl, hK1⟩
  have K1 := Lib.hid hK1
  clear hK1
  go_wp2_with fail
  refine (HKi.out _ (H0.out.kp K1.out (by simp))).mono ?_
  rintro e w2 ⟨rfl, hK2⟩
  have K2 := Lib.hid (K1.out.trans hK2)
  clear hK2
  go_wp2_with fail
  refine (HLi.out _).mono ?_
  rintro e w3 ⟨v, rfl, hown, hK3⟩
  have K3 := Lib.hid (K2.out.trans hK3)
  have hsz2 := K2.out.size
  dsimp only at hown
  have hown := own_base hown hsz2
  obtain ⟨g, c, rfl⟩ : ∃ g c, v = .slice (some ⟨g, 0, none⟩) xs.length c := by
    rcases hown.2 with ⟨_, h0⟩ | ⟨g, cap, cur, hv, _⟩
    · exact absurd (List.eq_nil_of_length_eq_zero h0) Hne.out
    · exact ⟨g, cap, hv⟩
  have hgw := (hown.lt g rfl).1
  have hgl3 := (hown.lt g rfl).2
  have Hown := Lib.hid hown
  have hcap : xs.length ≤ c := by
    rcases hown.2 with ⟨h0, _⟩ | ⟨g2, cap, cur, hv, _, _, hnc, _⟩
    · cases h0
    · injection hv with _ _ hv; omega
  clear hown hK3
  go_wp2_with fail
  go_loopw [43] (fun i wr => ∃ (j : Nat) (ys : List (List UInt8)), j ≤ xs.length ∧ i = .int .i64 j ∧ ys.length = j ∧ wr.ownsRow w.heap.size 9 1 (.slice (some ⟨g, 0, none⟩) xs.length c) xs.length (tkc (ys ++ xs.drop j)) ∧ Kp [] w wr ∧ w3.heap.size ≤ wr.heap.size ∧ T.2 = (tidM star f (xs.drop j)).2 ∧ (T.2 = 0 → T.1 = ys ++ (tidM star f (xs.drop j)).1)) (fun i _ => xs.length - (intOf i).toNat)
  case atStart => exact ⟨0, [], by omega, rfl, rfl, by simpa using Hown.out, K3.out, Nat.le_refl _, by rw [List.drop_zero, HTe.out], fun _ => by rw [List.drop_zero, HTe.out]; rfl⟩
  case round =>
    obtain ⟨j, ys, hj, rfl, hyl, hown, hK, hsz, hT2, hT1⟩ := hrel
    obtain ⟨w4, rfl⟩ : ∃ w4, w4 = wr := ⟨_, rfl⟩
    have Ho := Lib.hid hown
    have HK := Lib.hid hK
    have HT2 := Lib.hid hT2
    have HT1 := Lib.hid hT1
    have Hyl := Lib.hid hyl
    clear hown hK hT2 hT1 hyl
    by_cases hlt : j < xs.length
    · obtain ⟨x, hxj⟩ : ∃ x, xs[j]? = some x := ⟨xs[j], List.getElem?_eq_getElem hlt⟩
      have hdr : xs.drop j = x :: xs.drop (j + 1) := by
        obtain ⟨h1, h2⟩ := List.getElem?_eq_some_iff.1 hxj
        rw [← h2]; exact List.drop_eq_getElem_cons h1
      have Hdr := Lib.hid hdr
      have hxl := Hx.out x (List.mem_of_getElem? hxj)
      have c0 : w4.cell? ⟨g, j, none⟩ = some (.string (Txt x)) := by
        rw [Ho.out.cellAt j (by omega), hdr]
        unfold tkc
        rw [List.getElem?_map, List.getElem?_append_right (by have := Hyl.out; omega), Hyl.out]
        simp
      clear hdr hxj
      cases hst : (star && x == [42])
      case true =>
        have b1 : star = true := by cases star <;> simp_all
        have b2 : ((Txt x).toList == [42]) = true := by
          have h := hst
          rw [b1, Bool.true_and] at h
          have := txt_eq_iff x [42]
          rw [h] at this
          rw [← this, Lib.toList_data, Lib.toList_data]; rfl
        have HM := Lib.hid (by rw [Hdr.out, tidM, if_pos hst] : tidM star f (xs.drop j) = (x :: (tidM star f (xs.drop (j + 1))).1, (tidM star f (xs.drop (j + 1))).2))
        have b1' := b1
        rw [b1'] at bC
        clear hst b1 b1'
        go_wp2_with fail
        go_roundw
        case rel => exact ⟨j + 1, ys ++ [x], by omega, by go_num, by rw [List.length_append, Hyl.out]; rfl, by have h := Ho.out; rw [Hdr.out] at h; simpa using h, HK.out, hsz, by rw [HT2.out, HM.out], fun h => by rw [HT1.out h, HM.out]; simp⟩
        case measure => simp [intOf]; omega
      case false =>
        obtain ⟨y, ex, hfy⟩ : ∃ a b, f x = (a, b) := ⟨_, _, rfl⟩
        have HTx := Lib.hid (by have h := HTo.out x w4 (by omega) (H0.out.kp HK.out (by simp)); rw [hfy] at h; exact h : Calls Tryz.prog 106 #[.int .u8 k, .string (Txt x)] w4 (TxE (y, ex) w4))
        have HM := Lib.hid (by rw [Hdr.out, tidM, if_neg (by rw [hst]; decide), hfy] : tidM star f (xs.drop j) = if ex ≠ 0 then ([], ex) else (y :: (tidM star f (xs.drop (j + 1))).1, (tidM star f (xs.drop (j + 1))).2))
        have hb : star = false ∨ (star = true ∧ ((Txt x).toList == [42]) = false) := by
          cases hs2 : star
          · exact .inl rfl
          · right
            refine ⟨rfl, ?_⟩
            rw [hs2, Bool.true_and] at hst
            have := txt_eq_iff x [42]
            rw [hst] at this
            rw [← this, Lib.toList_data, Lib.toList_data]; rfl
        clear hst hfy
        rcases hb with hs2 | ⟨hs2, b2⟩
        all_goals
          rw [hs2] at bC
          clear hs2
          go_wp2_with fail
          refine HTx.out.mono ?_
          rintro e w5 ⟨rfl, hK5⟩
          have K5 := Lib.hid (HK.out.trans hK5)
          have O5 := Lib.hid (own_kp1 Ho.out hK5 (by simp))
          have hsz5 := hK5.size
          have c5 : w5.cell? ⟨g, j, none⟩ = some (.string (Txt x)) := (hK5.cell (p := ⟨g, j, none⟩) (by show g < _; omega) (by simp)).trans c0
          have f5 := O5.out.frozenAt j
          obtain ⟨w6, hw6⟩ : ∃ z, w5.setCell ⟨g, j, none⟩ (.string (Txt y)) = z := ⟨_, rfl⟩
          have O6 := Lib.hid (by
            have h := (O5.out.stored j (.string (Txt y))).1
            rw [hw6, Hdr.out] at h
            have hs3 := tkc_set ys x y (xs.drop (j + 1))
            rw [Hyl.out] at hs3
            rw [hs3] at h
            exact h : w6.ownsRow w.heap.size 9 1 (.slice (some ⟨g, 0, none⟩) xs.length c) xs.length (tkc (ys ++ y :: xs.drop (j + 1))))
          have K6 := Lib.hid (show Kp [] w w6 from by rw [← hw6]; exact K5.out.setCell (p := ⟨g, j, none⟩) (.inr hgw) _)
          have hsz6 : w5.heap.size ≤ w6.heap.size := by rw [← hw6]; simp [World.setCell]
          clear hK5 c0
          go_upto_region 15 with fail
          try rw [hw6]
          clear c5 f5 hw6
          by_cases hex : ex = 0
          · have bx : (ex != 0) = false := by rw [hex]; rfl
            have HM2 := Lib.hid (HM.out.trans (if_neg (fun h => h hex)))
            clear hex
            go_wp2_with fail
            go_roundw
            case rel => exact ⟨j + 1, ys ++ [y], by omega, by go_num, by rw [List.length_append, Hyl.out]; rfl, by simpa using O6.out, K6.out, by omega, by rw [HT2.out, HM2.out], fun h => by rw [HT1.out h, HM2.out]; simp⟩
            case measure => simp [intOf]; omega
          · have bx : (ex != 0) = true := by rw [bne_iff_ne]; exact hex
            have HF := Lib.hid (by
              have h := HT2.out
              rw [HM.out, if_pos hex] at h
              unfold tidJ
              rw [if_pos (by rw [h]; exact hex), h] : tidJ T = ([], ex))
            clear hex
            go_wp2_with fail
            go_ret2
            unfold TxE
            rw [HF.out]
            exact ⟨rfl, K6.out⟩
    · have hje : j = xs.length := by omega
      have hTe : T.2 = 0 := by rw [HT2.out, hje, List.drop_length]; rfl
      have hT1 : T.1 = ys := by rw [HT1.out hTe, hje, List.drop_length]; simp [tidM]
      have HF := Lib.hid (by unfold tidJ; rw [if_neg (fun h => h hTe), hT1] : tidJ T = (Lib.join ys [44, 32], 0))
      have hyl2 : ys.length = xs.length := by rw [Hyl.out]; exact hje
      have hown : w4.ownsRow w.heap.size 9 1 (.slice (some ⟨g, 0, none⟩) xs.length c) xs.length (tkc ys) := by
        have h := Ho.out
        rw [hje, List.drop_length, List.append_nil] at h
        exact h
      have hjl := Hj.out
      rw [hT1] at hjl
      have HJo := Lib.hid (by
        have h := Tryz.strings_Join g 0 c (ys.map Txt) ⟨#[44, 32]⟩ w4 (fun i z hz => by
          rw [Nat.zero_add]
          have hi : i < xs.length := by
            have := (List.getElem?_eq_some_iff.1 hz).1
            rw [List.length_map] at this; omega
          rw [hown.cellAt i (by omega)]
          unfold tkc
          rw [List.getElem?_map] at hz ⊢
          cases hq : ys[i]? with
          | none => rw [hq] at hz; cases hz
          | some q => rw [hq] at hz; simp only [Option.map_some, Option.some.injEq] at hz ⊢; rw [hz]) (by omega) (by rw [List.length_map]; omega) (by rw [List.length_map]; omega) (by
          rw [List.map_map, show ((fun b : ByteArray => b.data.toList) ∘ Txt) = id from by funext z; exact txt_list z, List.map_id]; exact hjl)
        rw [List.map_map, show ((fun b : ByteArray => b.data.toList) ∘ Txt) = id from by funext z; exact txt_list z, List.map_id, List.length_map, hyl2] at h
        exact h : Calls Tryz.prog 107 #[.slice (some ⟨g, 0, none⟩) xs.length c, .string ⟨#[44, 32]⟩] w4 fun e w' => e = .returned (.string ⟨(Lib.join ys [44, 32]).toArray⟩) ∧ Below w4.heap.size w4 w')
      clear hje hTe hT1 hyl2 hown hjl
      go_wp2_with fail
      refine HJo.out.mono ?_
      rintro e w5 ⟨rfl, hB5⟩
      have K5 := Lib.hid (HK.out.below hB5)
      clear hB5
      go_wp2_with fail
      go_ret2
      unfold TxE
      rw [HF.out]
      exact ⟨rfl, K5.out⟩
end Ad
end Go.Proofs.YtmmjfofdnpafkaaGreatDoor
