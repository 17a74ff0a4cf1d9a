/- Texts of one set of library modules: HeE, HeF, HeG, HeH, HeI, HeR, HeS, HeTa, HeJ, HeZ, HeZe, HeZf, HeTc, HeKb. -/
import Derived.Test.YtbcaindpbeaheaaGreatDoorZ28
import Derived.Test.YtbcaindpbeaheaaGreatDoorZ31
import Derived.Test.YtbcaindpbeaheaaGreatDoorZ19
import Derived.Test.YtbcaindpbeaheaaGreatDoorZ20
import Derived.Test.YtbcaindpbeaheaaGreatDoorZ2
namespace Go.Proofs.YtbcaindpbeaheaaGreatDoor
namespace Ad
open Go.RowKit Lx
def listR (l : List UInt8) : List (List UInt8) × Int :=
 if (spF l 44).2.2 ≠ 0 then ([], (spF l 44).2.2) else if (spF l 44).1.any (fun p => decide (p.2 = [])) then ([], 5) else ((spF l 44).1.map (·.2), 0)
def LtP (r : List (List UInt8) × Int) (w : World) (e : Ending) (w' : World) : Prop := ∃ v, e = .returned (.tuple #[v, .int .u8 r.2]) ∧ w'.ownsRow w.heap.size 9 1 v r.1.length (tkc r.1) ∧ Kp [] w w'
theorem spF_len2 (l : List UInt8) (sep : Int) : (spF l sep).1.length ≤ l.length + 1 := by
 unfold spF
 split
 ·simp
 ·have := spR_len l sep l.length 0 0 []; simpa using this
theorem own_nil (w : World) (b : Nat) : w.ownsRow b 9 1 (.slice none 0 0) ([] : List (List UInt8)).length (tkc []) := World.ownsRow_nil w b 9 1
theorem own_base {w : World} {a b : Nat} {e : TypeId} {size : Nat} {v : Value} {n : Nat} {xs : List Value} (h : w.ownsRow a e size v n xs) (hb : b ≤ a) : w.ownsRow b e size v n xs := by
 rcases h.2 with h2 | ⟨g, cap, cur, h3, h4, h5⟩
 ·exact ⟨h.1, .inl h2⟩
 ·exact ⟨h.1, .inr ⟨g, cap, cur, h3, Nat.le_trans hb h4, h5⟩⟩
theorem take_next {α : Type} (l : List α) (j : Nat) (x : α) (h : l[j]? = some x) : l.take (j + 1) = l.take j ++ [x] := by
 rw [List.take_add_one, h]; rfl
set_option maxRecDepth 100000 in
set_option maxHeartbeats 8000000 in
theorem list_any (s : ByteArray) (w : World) (hs : s.size ≤ 1100000) :
   Calls Tryz.prog 9 #[.string s] w (LtP (listR s.data.toList) w) := by
 have HSp := Lib.hid (Lx.split_any s 44 w (by omega))
 obtain ⟨ps, n, x, hr⟩ : ∃ a b c, spF s.data.toList 44 = (a, b, c) := ⟨_, _, _, rfl⟩
 have hpl := spF_len2 s.data.toList 44
 rw [hr] at HSp hpl
 rw [len_list] at hpl
 have HV := Lib.hid (by unfold listR; rw [hr] : listR s.data.toList = if x ≠ 0 then ([], x) else if ps.any (fun p => decide (p.2 = [])) then ([], 5) else (ps.map (·.2), 0))
 obtain ⟨i0, hi, hz0, hz1, hz2⟩ := info_parts infoStr
 dsimp only at hpl
 clear hr
 by_cases hx : x = 0
 case neg =>
  have bx : (x != 0) = true := by rw [bne_iff_ne]; exact hx
  have HF := Lib.hid (HV.out.trans (if_pos hx));clear hx
  go_enter Tryz.func9, Tryz.ntmps9
  go_wp2_with fail
  refine HSp.out.mono ?_
  rintro e w1 ⟨v, rfl, hown, hB⟩
  have K1 := Lib.hid ((Kp.refl [] w).below hB)
  clear hown hB
  go_wp2_with fail
  go_ret2
  unfold LtP
  rw [HF.out]
  exact ⟨_, rfl, own_nil _ _, K1.out⟩
 have bx : (x != 0) = false := by rw [hx]; rfl
 have HV1 := Lib.hid (HV.out.trans (if_neg (fun h => h hx)))
 clear hx
 go_enter Tryz.func9, Tryz.ntmps9
 go_wp2_with fail
 refine HSp.out.mono ?_
 rintro e w1 ⟨v, rfl, hown, hB⟩
 have K1 := Lib.hid ((Kp.refl [] w).below hB)
 dsimp only at hown
 have hrow := PcIn.of_row hown
 obtain ⟨a, c, rfl, hcel⟩ := hrow
 have Hcel := Lib.hid hcel;have hown2 := hown;have HOwn := Lib.hid hown;have hsz1 := hB.size;clear hown hown2 hB hcel
 go_wp2_with fail
 go_loopw [7, 21] (fun out i wr => ∃ (j : Nat) (acc : List (List UInt8)) (vA : Option Addr) (vC : Nat), j ≤ ps.length ∧ i = .int .i64 j ∧ out = .slice vA acc.length vC ∧ acc = (ps.take j).map (·.2) ∧ (ps.take j).any (fun p => decide (p.2 = [])) = false ∧ wr.ownsRow w1.heap.size 9 1 (.slice vA acc.length vC) acc.length (tkc acc) ∧ Kp [] w1 wr) (fun _ i _ => ps.length - (intOf i).toNat)
 case atStart => exact ⟨0, [], none, 0, by omega, rfl, rfl, by simp, by simp, by simpa [tkc] using World.ownsRow_nil w1 w1.heap.size 9 1, Kp.refl _ _⟩
 case round =>
  obtain ⟨j, acc, vA, vC, hj, rfl, rfl, hacc, hany, hown, hK⟩ := hrel
  obtain ⟨w2, rfl⟩ : ∃ w2, w2 = wr := ⟨_, rfl⟩
  have hal : acc.length = j := by rw [hacc, List.length_map, List.length_take]; omega
  have Hacc := Lib.hid hacc;have Hany := Lib.hid hany;have Ho := Lib.hid hown;have HK := Lib.hid hK;have hsz2 := hK.size
  have hal2 : acc.length ≤ j := by omega
  clear hacc hany hown hK hal
  by_cases hlt : j < ps.length
  ·obtain ⟨⟨o, y⟩, hy⟩ : ∃ p, ps[j]? = some p := ⟨ps[j], List.getElem?_eq_getElem hlt⟩
   have hne : ps ≠ [] := by intro h; rw [h] at hlt; simp at hlt
   obtain ⟨g, ha, hcell⟩ := Hcel.out hne
   have hgl : g < w1.heap.size := by
    have := HOwn.out.lt g (by rw [ha]; rfl)
    exact this.2
   obtain ⟨p1, p2⟩ := pcells_pair ps j _ hy
   have c0 : w2.cell? ⟨g, j * 2, none⟩ = some (.int .i64 (o : Int)) := (HK.out.cell (p := ⟨g, j * 2, none⟩) hgl (by simp)).trans (hcell _ _ p1)
   have c1 : w2.cell? ⟨g, j * 2 + 1, none⟩ = some (.string (Txt y)) := (HK.out.cell (p := ⟨g, j * 2 + 1, none⟩) hgl (by simp)).trans (hcell _ _ p2)
   have Htk := Lib.hid (take_next ps j _ hy)
   have Hmem := Lib.hid (List.mem_of_getElem? hy)
   subst ha
   obtain ⟨w3, hw3⟩ : ∃ x, w2.alloc (.cells #[.int .i64 (o : Int), .string (Txt y)] 70) = x := ⟨_, rfl⟩
   obtain ⟨b, hbb⟩ : ∃ x, w2.heap.size = x := ⟨_, rfl⟩
   have B3 := Lib.hid (show Blk w3 b 70 #[.int .i64 (o : Int), .string (Txt y)] from by rw [← hw3, ← hbb]; exact Blk.new w2 _ _)
   have hKa : Kp [] w2 w3 := by rw [← hw3]; exact (Kp.refl _ _).alloc _
   have K3 := Lib.hid (HK.out.trans hKa)
   have O3 := Lib.hid (own_kp1 Ho.out hKa (by simp))
   have e1 := B3.out.cell 1;have hsz3 := K3.out.size;clear hy hne hcell p1 p2 hKa
   cases hE : decide (y = [])
   ·have bE : ((Txt y).toList == ([] : List UInt8)) = false := (emp_D _).trans hE
    have HAn := Lib.hid (by rw [Htk.out, List.any_append, Hany.out]; simpa using hE : (ps.take (j + 1)).any (fun p => decide (p.2 = [])) = false)
    clear hE
    go_wp2_with (at_builtin; refine wpList_append_own _ rfl _ _ 32 rfl w1.heap.size 9 i0 (.string .empty) 1 16 Tryz.underlying32 hi hz0 hz1 hz2 rfl (by decide) _ _ _ rfl (O3.out.alloc _) ⟨w3.heap.size, 0, none⟩ 1 1 [.string (Txt y)] rfl rfl ?c2 (by simp [Value.oneCell']) ?c3 ?c4 ?c5 ?_)
    case c2 =>
     intro i u hu
     match i, hu with
     | 0, hu => simp at hu; subst hu; simp [Addr.add]
    case c3 => unfold maxLen; omega
    case c4 => omega
    case c5 => simp; omega
    intro v' w7 hown' hgrow _
    have K7 := Lib.hid ((K3.out.alloc (.cells #[.string (Txt y)] 9)).grown hgrow (fun g hg => .inr (O3.out.lt g hg).1))
    have HO7 := (by simpa [tkc] using hown' : w7.ownsRow w1.heap.size 9 1 v' (acc ++ [y]).length (tkc (acc ++ [y])))
    obtain ⟨vA', vC', rfl⟩ : ∃ p c, v' = .slice p (acc ++ [y]).length c := by
     rcases HO7.2 with ⟨hv, hz⟩ | ⟨g, cap, cur, hv, _⟩
     ·exact ⟨none, 0, by rw [hv, hz]⟩
     ·exact ⟨_, cap, hv⟩
    have HO7 := Lib.hid HO7;clear hown' hgrow
    go_wp2_with fail
    go_roundw
    case rel => exact ⟨j + 1, acc ++ [y], vA', vC', by omega, by go_num, rfl, by rw [Htk.out, List.map_append, ← Hacc.out]; rfl, HAn.out, HO7.out, K7.out⟩
    case measure => simp [intOf]; omega
   ·have bE : ((Txt y).toList == ([] : List UInt8)) = true := (emp_D _).trans hE
    have HF := Lib.hid (by rw [HV1.out, if_pos (List.any_eq_true.2 ⟨_, Hmem.out, hE⟩)] : listR s.data.toList = ([], 5))
    clear hE
    go_wp2_with fail
    go_ret2
    unfold LtP
    rw [HF.out]
    exact ⟨_, rfl, own_nil _ _, K1.out.trans K3.out⟩
  ·have hje : j = ps.length := by omega
   have HF := Lib.hid (by
    have h := Hany.out
    rw [hje, List.take_length] at h
    rw [HV1.out, h, if_neg (by decide)] : listR s.data.toList = (ps.map (·.2), 0))
   have HA := Lib.hid (by rw [Hacc.out, hje, List.take_length] : acc = ps.map (·.2))
   have HSt := Lib.hid (own_base Ho.out hsz1);clear hje
   go_wp2_with fail
   go_ret2
   unfold LtP
   rw [HF.out, ← HA.out]
   exact ⟨_, rfl, HSt.out, K1.out.trans HK.out⟩
def AdE (r : Adr × Int) (w : World) (e : Ending) (w' : World) : Prop := ∃ v, e = .returned (.tuple #[v, .int .u8 r.2]) ∧ AdIn w'.heap.size w' v r.1 ∧ Kp [] w w'
set_option maxRecDepth 100000 in
set_option maxHeartbeats 4000000 in
theorem haddress_any (s : ByteArray) (w : World) (hs : s.size ≤ 2097152) (E : Env w) :
   Calls Tryz.prog 18 #[.string s] w (AdE ((adrR (trS s.data.toList)).1, (adrR (trS s.data.toList)).2.2) w) := by
 obtain ⟨t, ht⟩ : ∃ t, trS s.data.toList = t := ⟨_, rfl⟩
 have htl : t.length ≤ 2097152 := by rw [← ht]; have := trS_len s.data.toList; rw [len_list] at this; omega
 rw [ht]
 obtain ⟨a, n, x, hr⟩ : ∃ a' b' c', adrR t = (a', b', c') := ⟨_, _, _, rfl⟩
 obtain ⟨w0, hw0⟩ : ∃ x, w.alloc (.cells zA 56) = x := ⟨_, rfl⟩
 have K0 := Lib.hid (show Kp [] w w0 from by rw [← hw0]; exact (Kp.refl _ _).alloc _)
 have Z0 := Lib.hid (show Zab w0 w.heap.size from by rw [← hw0]; exact Blk.new w 56 _)
 have E0 := Lib.hid (E.kp K0.out (by simp))
 have HT := Lib.hid (by have h := trimmed_any s w0 hs; rw [ht] at h; exact h : Calls Tryz.prog 34 #[.string s] w0 (TxK t w0))
 have HP := Lib.hid (fun wz (hE : Env wz) => (by have h := ParseAddress_any (Txt t) wz (by rw [txt_size]; exact htl) hE; rw [txt_list, hr] at h; exact h : Calls Tryz.prog 43 #[.string (Txt t)] wz (AdrP (a, n, x) wz)))
 rw [hr]
 dsimp only
 clear ht hr E
 go_enter Tryz.func18, Tryz.ntmps18
 go_wp2_with fail
 refine HT.out.mono ?_
 rintro e w1 ⟨rfl, hK1⟩
 have K1 := Lib.hid (K0.out.trans hK1)
 have Z1 := Lib.hid (show Zab w1 w.heap.size from Z0.out.kp hK1 (by simp))
 have E1 := Lib.hid (E0.out.kp hK1 (by simp))
 clear hK1
 go_wp2_with fail
 refine (HP.out _ E1.out).mono ?_
 rintro e w2 ⟨v, rfl, hv, hB2⟩
 have hK2 := (Kp.refl [] w1).below hB2
 have K2 := Lib.hid (K1.out.trans hK2)
 have Z2 := Lib.hid (show Zab w2 w.heap.size from Z1.out.kp hK2 (by simp))
 have Hv := hv
 obtain ⟨vp, vh, vq, rfl, h1, h2, h3⟩ := hv
 obtain ⟨A1, C1, rfl⟩ := h1.form
 obtain ⟨A2, C2, rfl⟩ := h2.form
 obtain ⟨A3, C3, rfl⟩ := h3.form
 clear h1 h2 h3 hB2 hK2
 dsimp only at Hv ⊢
 obtain ⟨D, hD⟩ : ∃ S, Txt a.display = S := ⟨_, rfl⟩
 obtain ⟨S, hS⟩ : ∃ S, Txt a.uri.scheme = S := ⟨_, rfl⟩
 obtain ⟨U, hU⟩ : ∃ S, Txt a.uri.user = S := ⟨_, rfl⟩
 obtain ⟨H, hH⟩ : ∃ S, Txt a.uri.host = S := ⟨_, rfl⟩
 obtain ⟨P, hP⟩ : ∃ S, a.uri.port = S := ⟨_, rfl⟩
 obtain ⟨n1, hn1⟩ : ∃ S, a.uri.params.length = S := ⟨_, rfl⟩
 obtain ⟨n2, hn2⟩ : ∃ S, a.uri.heads.length = S := ⟨_, rfl⟩
 obtain ⟨n3, hn3⟩ : ∃ S, a.params.length = S := ⟨_, rfl⟩
 rw [hD, hS, hU, hH, hP, hn1, hn2, hn3] at Hv ⊢
 clear hD hS hU hH hP hn1 hn2 hn3
 obtain ⟨g, hg⟩ : ∃ x, w2.heap.size = x := ⟨_, rfl⟩
 obtain ⟨w3, hw3⟩ : ∃ x, w2.alloc (.cells #[.string D, .string S, .string U, .string H, .int .i64 P, .slice A1 n1 C1, .slice A2 n2 C2, .slice A3 n3 C3] 56) = x := ⟨_, rfl⟩
 have hKa : Kp [] w2 w3 := by rw [← hw3]; exact (Kp.refl _ _).alloc _
 have K3 := Lib.hid (K2.out.trans hKa)
 have Z3 := Lib.hid (show Zab w3 w.heap.size from Z2.out.kp hKa (by simp))
 have B3 := Lib.hid (show Blk w3 g 56 #[.string D, .string S, .string U, .string H, .int .i64 P, .slice A1 n1 C1, .slice A2 n2 C2, .slice A3 n3 C3] from by rw [← hw3, ← hg]; exact Blk.new w2 _ _)
 have V3 := Lib.hid (Hv.kpn hKa);clear Hv hKa
 go_upto_region 2 with fail
 try rw [hw3]
 have u0 := B3.out.cell 0;have u1 := B3.out.cell 1;have u2 := B3.out.cell 2;have u3 := B3.out.cell 3;have u4 := B3.out.cell 4;have u5 := B3.out.cell 5;have u6 := B3.out.cell 6;have u7 := B3.out.cell 7;have d0 := Z3.out.cell 0;have d1 := Z3.out.cell 1;have d2 := Z3.out.cell 2;have d3 := Z3.out.cell 3;have d4 := Z3.out.cell 4;have d5 := Z3.out.cell 5;have d6 := Z3.out.cell 6;have d7 := Z3.out.cell 7;have g0 := Z3.out.frozen 0;have g1 := Z3.out.frozen 1;have g2 := Z3.out.frozen 2;have g3 := Z3.out.frozen 3;have g4 := Z3.out.frozen 4;have g5 := Z3.out.frozen 5;have g6 := Z3.out.frozen 6;have g7 := Z3.out.frozen 7
 go_wp2_with fail
 refine bodyPost_ret (results_two rfl _ _ w.heap.size 56 _ (0, 0) _ rfl (blk8 Z3.out _ _ _ _ _ _ _ _) Tryz.underlying56 rfl infoAdr) rfl ?_
 have hk8 := kp8 (Kp.refl [w.heap.size] w3) (g := w.heap.size) (.inl (by simp)) (.string D) (.string S) (.string U) (.string H) (.int .i64 P) (.slice A1 n1 C1) (.slice A2 n2 C2) (.slice A3 n3 C3)
 exact ⟨_, rfl, V3.out.grow hk8 (by intro y hy; rw [List.mem_singleton.1 hy]; exact Z3.out.nob), kp8 K3.out (.inr (Nat.le_refl _)) _ _ _ _ _ _ _ _⟩
end Ad
end Go.Proofs.YtbcaindpbeaheaaGreatDoor
namespace Go.Proofs.YtbcaindpbeaheaaGreatDoor
namespace Ad
open Go.RowKit Lx
theorem pmR_sz (l : List UInt8) (k : Nat) : (pmR l k).1.1.length ≤ l.length + 86 ∧ (pmR l k).1.2.1.length ≤ l.length + 86 := by
 by_cases hz : tokE l k = k
 ·rw [pmR_none _ _ hz]; exact ⟨Nat.zero_le _, Nat.zero_le _⟩
 ·have h1 : (lowL (slc l k (tokE l k))).length ≤ l.length := by rw [lowL_length]; exact slc_lel _ _ _
  by_cases h61 : atB l (blkE l (tokE l k)) = 61
  ·rw [pmR_val _ _ hz h61]; exact ⟨by dsimp only; omega, valR_len _ _⟩
  ·rw [pmR_bare _ _ hz h61]; exact ⟨by dsimp only; omega, Nat.zero_le _⟩
theorem parF_sz (l : List UInt8) : ∀ (n k : Nat) (acc : List Prm), SzL (l.length + 86) acc → SzL (l.length + 86) (parF n l k acc).1 := by
 intro n
 induction n with
 | zero => intro k acc h; exact h
 | succ n ih =>
   intro k acc h
   rcases Nat.lt_or_ge k l.length with hk | hk
   ·by_cases h59 : atB l k = 59
    ·by_cases h3 : (pmR l (blkE l (k + 1))).2.2 = 0
     ·by_cases h4 : room acc (pmR l (blkE l (k + 1))).1.1 = 0
      ·rw [parF_step n l k acc hk h59 h3 h4]
       refine ih _ _ ?_
       intro p hp
       rcases List.mem_append.1 hp with h5 | h5
       ·exact h p h5
       ·rw [List.mem_singleton.1 h5]; exact pmR_sz _ _
      ·rw [parF_err3 n l k acc hk h59 h3 h4]; exact fun p hp => by cases hp
     ·rw [parF_err2 n l k acc hk h59 h3]; exact fun p hp => by cases hp
    ·rw [parF_err1 n l k acc hk h59]; exact fun p hp => by cases hp
   ·rw [parF_end n l k acc hk]; exact h
structure MdA (m : Nat) (a : Adr) : Prop where
 d : a.display.length ≤ m
 u : SzU a.uri ∧ a.uri.host.length ≤ 1048576
 p : SzL (m + 86) a.params
 n : a.params.length ≤ 16
theorem szU_nil : SzU nilU := ⟨Nat.zero_le _, Nat.zero_le _, Nat.zero_le _, Nat.zero_le _, Nat.zero_le _, (fun p hp => by cases hp), (fun p hp => by cases hp)⟩
theorem mdA_nil (m : Nat) : MdA m nilA := ⟨Nat.zero_le _, ⟨szU_nil, Nat.zero_le _⟩, (fun p hp => by cases hp), Nat.zero_le _⟩
theorem parse_md (l : List UInt8) : SzU (parse l).1 ∧ (parse l).1.host.length ≤ 1048576 := by
 by_cases hx : (parse l).2.2 = 0
 ·exact (parse_sz l hx).szU (by have := parse_short l hx; omega)
 ·rw [(parse_at l).2 hx]; exact ⟨szU_nil, Nat.zero_le _⟩
theorem restR_md (l d : List UInt8) (a b c m : Nat) (hd : d.length ≤ m) (hl : l.length ≤ m) : MdA m (restR l d a b c).1 := by
 unfold restR
 split
 ·exact mdA_nil m
 ·split
  ·exact mdA_nil m
  ·exact ⟨hd, parse_md _, fun p hp => by have := parF_sz l (l.length + 1) (blkE l c) [] (fun p hp => by cases hp) p hp; exact ⟨by have := this.1; omega, by have := this.2; omega⟩, parF_len _ _ _ _ (Nat.zero_le _)⟩
theorem angR_md (l d : List UInt8) (k m : Nat) (hd : d.length ≤ m) (hl : l.length ≤ m) : MdA m (angR l d k).1 := by
 unfold angR
 split
 ·exact mdA_nil m
 ·exact restR_md _ _ _ _ _ _ hd hl
theorem tksF_sum (l : List UInt8) (te : Nat) : ∀ (n k : Nat) (acc : List (List UInt8)), k ≤ l.length → (acc.map List.length).sum ≤ k → acc.length ≤ k → ((tksF n l k te acc).1.map List.length).sum ≤ l.length ∧ (tksF n l k te acc).1.length ≤ l.length := by
 intro n
 induction n with
 | zero => intro k acc hk h1 h2; unfold tksF; exact ⟨by dsimp only; omega, by dsimp only; omega⟩
 | succ n ih =>
   intro k acc hk h1 h2
   by_cases h : te ≤ k
   ·rw [tksF_end n l k te acc h]; exact ⟨by dsimp only; omega, by dsimp only; omega⟩
   ·by_cases ht : tokE l k = k
    ·rw [tksF_bad n l k te acc (by omega) ht]; exact ⟨Nat.zero_le _, Nat.zero_le _⟩
    ·rw [tksF_step n l k te acc (by omega) ht]
     have e1 := tokE_len l k hk;have e2 := blkE_len l _ e1
     have e3 : k ≤ tokE l k := by unfold tokE; omega
     have e4 : tokE l k ≤ blkE l (tokE l k) := by unfold blkE; omega
     refine ih _ _ e2 ?_ ?_
     ·rw [List.map_append, List.sum_append]
      have := slc_le l k (tokE l k)
      simp only [List.map_cons, List.map_nil, List.sum_cons, List.sum_nil]
      omega
     ·rw [List.length_append, List.length_singleton]; omega
theorem adrR_md (l : List UInt8) (hl : l.length ≤ 1024) : MdA 4096 (adrR l).1 := by
 have hb := blkE_len l 0 (Nat.zero_le _)
 unfold adrR
 split
 ·exact mdA_nil _
 ·split
  ·split
   ·exact mdA_nil _
   ·split
    ·exact mdA_nil _
    ·exact angR_md _ _ _ _ (by have := unq_len l (blkE l 0); omega) (by omega)
  ·split
   ·split
    ·exact mdA_nil _
    ·refine angR_md _ _ _ _ ?_ (by omega)
     have h := tksF_sum l (endP (· == 60) l (blkE l 0)) (l.length + 1) (blkE l 0) [] hb (by simp) (by simp)
     have := joinL_acc 32 _ _ h.1
     omega
   ·split
    ·exact mdA_nil _
    ·exact restR_md _ _ _ _ _ _ (Nat.zero_le _) (by omega)
theorem adrR_md2 (l : List UInt8) : MdA 4096 (adrR l).1 := by
 by_cases hl : 1024 < l.length
 ·unfold adrR; rw [if_pos hl]; exact mdA_nil _
 ·exact adrR_md l (by omega)
def tidA (l : List UInt8) : List UInt8 × Int :=
 if (adrR (trS l)).2.2 ≠ 0 then ([], (adrR (trS l)).2.2) else ((adrO (adrR (trS l)).1).getD [], if (adrO (adrR (trS l)).1).isSome then 0 else 2)
set_option maxRecDepth 100000 in
set_option maxHeartbeats 4000000 in
theorem rewrA_any (s : ByteArray) (w : World) (hs : s.size ≤ 2097152) (E : Env w) :
   Calls Tryz.prog 17 #[.string s, .func (.func 18) #[] #[], .func (.func 19) #[] #[]] w (TxE (tidA s.data.toList) w) := by
 obtain ⟨a, n, x, hr⟩ : ∃ a' b' c', adrR (trS s.data.toList) = (a', b', c') := ⟨_, _, _, rfl⟩
 have hmd := adrR_md2 (trS s.data.toList);have HA := Lib.hid (haddress_any s w hs E)
 rw [hr] at hmd HA
 have HV := Lib.hid (by unfold tidA; rw [hr] : tidA s.data.toList = if x ≠ 0 then ([], x) else ((adrO a).getD [], if (adrO a).isSome then 0 else 2))
 dsimp only at hmd HA
 have hza : SzA a := ⟨by have := hmd.d; omega, hmd.u.1, hmd.u.2, by have := hmd.n; omega, fun p hp => by have := hmd.p p hp; exact ⟨by have := this.1; omega, by have := this.2; omega⟩⟩
 have HZ := Lib.hid hza;have HE := Lib.hid E;clear hr hmd E hza
 by_cases hx : x = 0
 ·have bx : (x != 0) = false := by rw [hx]; rfl
  have HF := Lib.hid (HV.out.trans (if_neg (fun h => h hx)))
  clear hx
  go_enter Tryz.func17, Tryz.ntmps17
  go_wp2_with fail
  refine HA.out.mono ?_
  rintro e w2 ⟨v, rfl, hv, hK2⟩
  have K2 := Lib.hid hK2;have Hv := hv
  obtain ⟨vp, vh, vq, rfl, h1, h2, h3⟩ := hv
  obtain ⟨A1, C1, rfl⟩ := h1.form
  obtain ⟨A2, C2, rfl⟩ := h2.form
  obtain ⟨A3, C3, rfl⟩ := h3.form
  clear h1 h2 h3 hK2
  dsimp only at Hv ⊢
  obtain ⟨D, hD⟩ : ∃ S, Txt a.display = S := ⟨_, rfl⟩
  obtain ⟨S, hS⟩ : ∃ S, Txt a.uri.scheme = S := ⟨_, rfl⟩
  obtain ⟨U, hU⟩ : ∃ S, Txt a.uri.user = S := ⟨_, rfl⟩
  obtain ⟨H, hH⟩ : ∃ S, Txt a.uri.host = S := ⟨_, rfl⟩
  obtain ⟨P, hP⟩ : ∃ S, a.uri.port = S := ⟨_, rfl⟩
  obtain ⟨n1, hn1⟩ : ∃ S, a.uri.params.length = S := ⟨_, rfl⟩
  obtain ⟨n2, hn2⟩ : ∃ S, a.uri.heads.length = S := ⟨_, rfl⟩
  obtain ⟨n3, hn3⟩ : ∃ S, a.params.length = S := ⟨_, rfl⟩
  rw [hD, hS, hU, hH, hP, hn1, hn2, hn3] at Hv ⊢
  clear hD hS hU hH hP hn1 hn2 hn3
  obtain ⟨g, hg⟩ : ∃ x, w2.heap.size = x := ⟨_, rfl⟩
  obtain ⟨w3, hw3⟩ : ∃ x, w2.alloc (.cells #[.string D, .string S, .string U, .string H, .int .i64 P, .slice A1 n1 C1, .slice A2 n2 C2, .slice A3 n3 C3] 56) = x := ⟨_, rfl⟩
  have hKa : Kp [] w2 w3 := by rw [← hw3]; exact (Kp.refl _ _).alloc _
  have K3 := Lib.hid (K2.out.trans hKa)
  have B3 := Lib.hid (show Blk w3 g 56 #[.string D, .string S, .string U, .string H, .int .i64 P, .slice A1 n1 C1, .slice A2 n2 C2, .slice A3 n3 C3] from by rw [← hw3, ← hg]; exact Blk.new w2 _ _)
  have V3 := Lib.hid (Hv.kpn hKa);clear Hv hKa
  have hP := printAddress_any w3.heap.size _ a w3 V3.out (Nat.le_refl _) HZ.out (HE.out.kp K3.out (by simp))
  unfold PrK at hP
  obtain ⟨pt, hpt⟩ : ∃ z, (adrO a).getD [] = z := ⟨_, rfl⟩
  obtain ⟨pe, hpe⟩ : ∃ z : Int, (if (adrO a).isSome then 0 else 2) = z := ⟨_, rfl⟩
  have hF := HF.out
  rw [hpt, hpe] at hP hF
  have HP := Lib.hid hP;have HF2 := Lib.hid hF;clear hP hF hpt hpe HF
  go_upto_region 4 with fail
  try rw [hw3]
  have u0 := B3.out.cell 0;have u1 := B3.out.cell 1;have u2 := B3.out.cell 2;have u3 := B3.out.cell 3;have u4 := B3.out.cell 4;have u5 := B3.out.cell 5;have u6 := B3.out.cell 6;have u7 := B3.out.cell 7
  go_wp2_with fail
  refine HP.out.mono ?_
  rintro e w4 ⟨rfl, hK4⟩
  have K4 := Lib.hid (K3.out.trans hK4);clear hK4
  go_wp2_with fail
  go_ret2
  unfold TxE
  rw [HF2.out]
  exact ⟨rfl, K4.out⟩
 ·have bx : (x != 0) = true := by rw [bne_iff_ne]; exact hx
  have HF := Lib.hid (HV.out.trans (if_pos hx));clear hx
  go_enter Tryz.func17, Tryz.ntmps17
  go_wp2_with fail
  refine HA.out.mono ?_
  rintro e w2 ⟨v, rfl, hv, hK2⟩
  have K2 := Lib.hid hK2;have Hv := hv
  obtain ⟨vp, vh, vq, rfl, h1, h2, h3⟩ := hv
  obtain ⟨A1, C1, rfl⟩ := h1.form
  obtain ⟨A2, C2, rfl⟩ := h2.form
  obtain ⟨A3, C3, rfl⟩ := h3.form
  clear h1 h2 h3 hK2
  dsimp only at Hv ⊢
  obtain ⟨D, hD⟩ : ∃ S, Txt a.display = S := ⟨_, rfl⟩
  obtain ⟨S, hS⟩ : ∃ S, Txt a.uri.scheme = S := ⟨_, rfl⟩
  obtain ⟨U, hU⟩ : ∃ S, Txt a.uri.user = S := ⟨_, rfl⟩
  obtain ⟨H, hH⟩ : ∃ S, Txt a.uri.host = S := ⟨_, rfl⟩
  obtain ⟨P, hP⟩ : ∃ S, a.uri.port = S := ⟨_, rfl⟩
  obtain ⟨n1, hn1⟩ : ∃ S, a.uri.params.length = S := ⟨_, rfl⟩
  obtain ⟨n2, hn2⟩ : ∃ S, a.uri.heads.length = S := ⟨_, rfl⟩
  obtain ⟨n3, hn3⟩ : ∃ S, a.params.length = S := ⟨_, rfl⟩
  rw [hD, hS, hU, hH, hP, hn1, hn2, hn3] at Hv ⊢
  clear hD hS hU hH hP hn1 hn2 hn3
  obtain ⟨g, hg⟩ : ∃ x, w2.heap.size = x := ⟨_, rfl⟩
  obtain ⟨w3, hw3⟩ : ∃ x, w2.alloc (.cells #[.string D, .string S, .string U, .string H, .int .i64 P, .slice A1 n1 C1, .slice A2 n2 C2, .slice A3 n3 C3] 56) = x := ⟨_, rfl⟩
  have hKa : Kp [] w2 w3 := by rw [← hw3]; exact (Kp.refl _ _).alloc _
  have K3 := Lib.hid (K2.out.trans hKa)
  have B3 := Lib.hid (show Blk w3 g 56 #[.string D, .string S, .string U, .string H, .int .i64 P, .slice A1 n1 C1, .slice A2 n2 C2, .slice A3 n3 C3] from by rw [← hw3, ← hg]; exact Blk.new w2 _ _)
  have V3 := Lib.hid (Hv.kpn hKa);clear Hv hKa
  go_upto_region 3 with fail
  try rw [hw3]
  go_wp2_with fail
  go_ret2
  unfold TxE
  rw [HF.out]
  exact ⟨rfl, K3.out⟩
set_option maxRecDepth 100000 in
set_option maxHeartbeats 4000000 in
theorem tidyOne_adr (s : ByteArray) (w : World) (hs : s.size ≤ 2097152) (E : Env w) :
   Calls Tryz.prog 8 #[.int .u8 1, .string s] w (TxE (tidA s.data.toList) w) := by
 have HR := Lib.hid (rewrA_any s w hs E)
 obtain ⟨t, x, hr⟩ : ∃ a b, tidA s.data.toList = (a, b) := ⟨_, _, rfl⟩
 rw [hr] at HR ⊢
 clear hr E
 go_enter Tryz.func8, Tryz.ntmps8
 go_wp2_with fail
 refine HR.out.mono ?_
 rintro e w2 ⟨rfl, hK2⟩
 have K2 := Lib.hid hK2;clear hK2
 go_wp2_with fail
 go_ret2
 exact ⟨rfl, K2.out⟩
end Ad
end Go.Proofs.YtbcaindpbeaheaaGreatDoor
namespace Go.Proofs.YtbcaindpbeaheaaGreatDoor
namespace Ad
open Go.RowKit Lx
def tidM (star : Bool) (f : List UInt8 → List UInt8 × Int) : List (List UInt8) → List (List UInt8) × Int
 | [] => ([], 0)
 | x :: t => if (star && x == [42]) = true then (x :: (tidM star f t).1, (tidM star f t).2)
   else if (f x).2 ≠ 0 then ([], (f x).2) else ((f x).1 :: (tidM star f t).1, (tidM star f t).2)
def tidJ (T : List (List UInt8) × Int) : List UInt8 × Int := if T.2 ≠ 0 then ([], T.2) else (Lib.join T.1 [44, 32], 0)
def conN : List UInt8 := [67, 111, 110, 116, 97, 99, 116]
theorem tkc_set (ys : List (List UInt8)) (x y : List UInt8) (zs : List (List UInt8)) : (tkc (ys ++ x :: zs)).set ys.length (.string (Txt y)) = tkc (ys ++ y :: zs) := by
 unfold tkc
 rw [List.map_append, List.map_append, List.set_append_right _ _ (by simp)]
 simp
set_option maxRecDepth 100000 in
set_option maxHeartbeats 8000000 in
theorem tidy_many (nm s : ByteArray) (cn : List UInt8) (xs : List (List UInt8)) (k : Int) (f : List UInt8 → List UInt8 × Int) (w : World) (hn : nm.size ≤ 2097152) (hs : s.size ≤ 1100000) (H : HEnv w)
   (hcan : canR nm.data.toList = (cn, 0)) (hk : kindR cn = (k, true)) (hl : listR s.data.toList = (xs, 0)) (hne : xs ≠ []) (hxn : xs.length ≤ 2097152) (hx : ∀ y ∈ xs, y.length ≤ 2097000)
   (HT : ∀ y wz, y ∈ xs → y.length ≤ 2097000 → HEnv wz → Calls Tryz.prog 8 #[.int .u8 k, .string (Txt y)] wz (TxE (f y) wz))
   (hj : (Lib.join (tidM (cn == conN) f xs).1 [44, 32]).length ≤ 140737488355328) :
   Calls Tryz.prog 4 #[.string nm, .string s] w (TxE (tidJ (tidM (cn == conN) f xs)) w) := by
 have HCa := Lib.hid (by have h := canon_any nm w hn H; rw [hcan] at h; exact h)
 have HKi := Lib.hid (fun wz (h : HEnv wz) => (by have h := kindOf_any cn wz h; rw [hk] at h; exact h))
 have HLi := Lib.hid (fun wz => (by have h := list_any s wz hs; rw [hl] at h; exact h))
 obtain ⟨star, hstar⟩ : ∃ b, (cn == conN) = b := ⟨_, rfl⟩
 have bC : ((Txt cn).toList == [67, 111, 110, 116, 97, 99, 116]) = star := by
  have := txt_eq_iff cn conN
  rw [hstar] at this
  rw [← this, Lib.toList_data, Lib.toList_data]; rfl
 rw [hstar] at hj ⊢
 obtain ⟨T, hT⟩ : ∃ T, tidM star f xs = T := ⟨_, rfl⟩
 rw [hT] at hj ⊢
 have HTe := Lib.hid hT;have HTo := Lib.hid HT;have H0 := Lib.hid H;have Hx := Lib.hid hx;have Hne := Lib.hid hne;have Hj := Lib.hid hj;clear hcan hk hl hstar hT HT H hx hne hj
 go_enter Tryz.func4, Tryz.ntmps4
 go_wp2_with fail
 refine HCa.out.mono ?_
 rintro e w1 ⟨rfl, hK1⟩
 have K1 := Lib.hid hK1;clear hK1
 go_wp2_with fail
 refine (HKi.out _ (H0.out.kp K1.out (by simp))).mono ?_
 rintro e w2 ⟨rfl, hK2⟩
 have K2 := Lib.hid (K1.out.trans hK2);clear hK2
 go_wp2_with fail
 refine (HLi.out _).mono ?_
 rintro e w3 ⟨v, rfl, hown, hK3⟩
 have K3 := Lib.hid (K2.out.trans hK3);have hsz2 := K2.out.size
 dsimp only at hown
 have hown := own_base hown hsz2
 obtain ⟨g, c, rfl⟩ : ∃ g c, v = .slice (some ⟨g, 0, none⟩) xs.length c := by
  rcases hown.2 with ⟨_, h0⟩ | ⟨g, cap, cur, hv, _⟩
  ·exact absurd (List.eq_nil_of_length_eq_zero h0) Hne.out
  ·exact ⟨g, cap, hv⟩
 have hgw := (hown.lt g rfl).1;have hgl3 := (hown.lt g rfl).2;have Hown := Lib.hid hown
 have hcap : xs.length ≤ c := by
  rcases hown.2 with ⟨h0, _⟩ | ⟨g2, cap, cur, hv, _, _, hnc, _⟩
  ·cases h0
  ·injection hv with _ _ hv; omega
 clear hown hK3
 go_wp2_with fail
 go_loopw [43] (fun i wr => ∃ (j : Nat) (ys : List (List UInt8)), j ≤ xs.length ∧ i = .int .i64 j ∧ ys.length = j ∧ wr.ownsRow w.heap.size 9 1 (.slice (some ⟨g, 0, none⟩) xs.length c) xs.length (tkc (ys ++ xs.drop j)) ∧ Kp [] w wr ∧ w3.heap.size ≤ wr.heap.size ∧ T.2 = (tidM star f (xs.drop j)).2 ∧ (T.2 = 0 → T.1 = ys ++ (tidM star f (xs.drop j)).1)) (fun i _ => xs.length - (intOf i).toNat)
 case atStart => exact ⟨0, [], by omega, rfl, rfl, by simpa using Hown.out, K3.out, Nat.le_refl _, by rw [List.drop_zero, HTe.out], fun _ => by rw [List.drop_zero, HTe.out]; rfl⟩
 case round =>
  obtain ⟨j, ys, hj, rfl, hyl, hown, hK, hsz, hT2, hT1⟩ := hrel
  obtain ⟨w4, rfl⟩ : ∃ w4, w4 = wr := ⟨_, rfl⟩
  have Ho := Lib.hid hown;have HK := Lib.hid hK;have HT2 := Lib.hid hT2;have HT1 := Lib.hid hT1;have Hyl := Lib.hid hyl;clear hown hK hT2 hT1 hyl
  by_cases hlt : j < xs.length
  ·obtain ⟨x, hxj⟩ : ∃ x, xs[j]? = some x := ⟨xs[j], List.getElem?_eq_getElem hlt⟩
   have hdr : xs.drop j = x :: xs.drop (j + 1) := by
    obtain ⟨h1, h2⟩ := List.getElem?_eq_some_iff.1 hxj
    rw [← h2]; exact List.drop_eq_getElem_cons h1
   have Hdr := Lib.hid hdr
   have hxl := Hx.out x (List.mem_of_getElem? hxj)
   have HMem := Lib.hid (List.mem_of_getElem? hxj)
   have c0 : w4.cell? ⟨g, j, none⟩ = some (.string (Txt x)) := by
    rw [Ho.out.cellAt j (by omega), hdr]
    unfold tkc
    rw [List.getElem?_map, List.getElem?_append_right (by have := Hyl.out; omega), Hyl.out]
    simp
   clear hdr hxj
   cases hst : (star && x == [42])
   case true =>
    have b1 : star = true := by cases star <;> simp_all
    have b2 : ((Txt x).toList == [42]) = true := by
     have h := hst
     rw [b1, Bool.true_and] at h
     have := txt_eq_iff x [42]
     rw [h] at this
     rw [← this, Lib.toList_data, Lib.toList_data]; rfl
    have HM := Lib.hid (by rw [Hdr.out, tidM, if_pos hst] : tidM star f (xs.drop j) = (x :: (tidM star f (xs.drop (j + 1))).1, (tidM star f (xs.drop (j + 1))).2))
    have b1' := b1
    rw [b1'] at bC
    clear hst b1 b1'
    go_wp2_with fail
    go_roundw
    case rel => exact ⟨j + 1, ys ++ [x], by omega, by go_num, by rw [List.length_append, Hyl.out]; rfl, by have h := Ho.out; rw [Hdr.out] at h; simpa using h, HK.out, hsz, by rw [HT2.out, HM.out], fun h => by rw [HT1.out h, HM.out]; simp⟩
    case measure => simp [intOf]; omega
   case false =>
    obtain ⟨y, ex, hfy⟩ : ∃ a b, f x = (a, b) := ⟨_, _, rfl⟩
    have HTx := Lib.hid (by have h := HTo.out x w4 HMem.out (by omega) (H0.out.kp HK.out (by simp)); rw [hfy] at h; exact h : Calls Tryz.prog 8 #[.int .u8 k, .string (Txt x)] w4 (TxE (y, ex) w4))
    have HM := Lib.hid (by rw [Hdr.out, tidM, if_neg (by rw [hst]; decide), hfy] : tidM star f (xs.drop j) = if ex ≠ 0 then ([], ex) else (y :: (tidM star f (xs.drop (j + 1))).1, (tidM star f (xs.drop (j + 1))).2))
    have hb : star = false ∨ (star = true ∧ ((Txt x).toList == [42]) = false) := by
     cases hs2 : star
     ·exact .inl rfl
     ·right
      refine ⟨rfl, ?_⟩
      rw [hs2, Bool.true_and] at hst
      have := txt_eq_iff x [42]
      rw [hst] at this
      rw [← this, Lib.toList_data, Lib.toList_data]; rfl
    clear hst hfy
    rcases hb with hs2 | ⟨hs2, b2⟩
    all_goals
     rw [hs2] at bC
     clear hs2
     go_wp2_with fail
     refine HTx.out.mono ?_
     rintro e w5 ⟨rfl, hK5⟩
     have K5 := Lib.hid (HK.out.trans hK5)
     have O5 := Lib.hid (own_kp1 Ho.out hK5 (by simp))
     have hsz5 := hK5.size
     have c5 : w5.cell? ⟨g, j, none⟩ = some (.string (Txt x)) := (hK5.cell (p := ⟨g, j, none⟩) (by show g < _; omega) (by simp)).trans c0
     have f5 := O5.out.frozenAt j
     obtain ⟨w6, hw6⟩ : ∃ z, w5.setCell ⟨g, j, none⟩ (.string (Txt y)) = z := ⟨_, rfl⟩
     have O6 := Lib.hid (by
      have h := (O5.out.stored j (.string (Txt y))).1
      rw [hw6, Hdr.out] at h
      have hs3 := tkc_set ys x y (xs.drop (j + 1))
      rw [Hyl.out] at hs3
      rw [hs3] at h
      exact h : w6.ownsRow w.heap.size 9 1 (.slice (some ⟨g, 0, none⟩) xs.length c) xs.length (tkc (ys ++ y :: xs.drop (j + 1))))
     have K6 := Lib.hid (show Kp [] w w6 from by rw [← hw6]; exact K5.out.setCell (p := ⟨g, j, none⟩) (.inr hgw) _)
     have hsz6 : w5.heap.size ≤ w6.heap.size := by rw [← hw6]; simp [World.setCell]
     clear hK5 c0
     go_upto_region 15 with fail
     try rw [hw6]
     clear c5 f5 hw6
     by_cases hex : ex = 0
     ·have bx : (ex != 0) = false := by rw [hex]; rfl
      have HM2 := Lib.hid (HM.out.trans (if_neg (fun h => h hex)))
      clear hex
      go_wp2_with fail
      go_roundw
      case rel => exact ⟨j + 1, ys ++ [y], by omega, by go_num, by rw [List.length_append, Hyl.out]; rfl, by simpa using O6.out, K6.out, by omega, by rw [HT2.out, HM2.out], fun h => by rw [HT1.out h, HM2.out]; simp⟩
      case measure => simp [intOf]; omega
     ·have bx : (ex != 0) = true := by rw [bne_iff_ne]; exact hex
      have HF := Lib.hid (by
       have h := HT2.out
       rw [HM.out, if_pos hex] at h
       unfold tidJ
       rw [if_pos (by rw [h]; exact hex), h] : tidJ T = ([], ex))
      clear hex
      go_wp2_with fail
      go_ret2
      unfold TxE
      rw [HF.out]
      exact ⟨rfl, K6.out⟩
  ·have hje : j = xs.length := by omega
   have hTe : T.2 = 0 := by rw [HT2.out, hje, List.drop_length]; rfl
   have hT1 : T.1 = ys := by rw [HT1.out hTe, hje, List.drop_length]; simp [tidM]
   have HF := Lib.hid (by unfold tidJ; rw [if_neg (fun h => h hTe), hT1] : tidJ T = (Lib.join ys [44, 32], 0))
   have hyl2 : ys.length = xs.length := by rw [Hyl.out]; exact hje
   have hown : w4.ownsRow w.heap.size 9 1 (.slice (some ⟨g, 0, none⟩) xs.length c) xs.length (tkc ys) := by
    have h := Ho.out
    rw [hje, List.drop_length, List.append_nil] at h
    exact h
   have hjl := Hj.out
   rw [hT1] at hjl
   have HJo := Lib.hid (by
    have h := Tryz.strings_Join g 0 c (ys.map Txt) ⟨#[44, 32]⟩ w4 (fun i z hz => by
     rw [Nat.zero_add]
     have hi : i < xs.length := by
      have := (List.getElem?_eq_some_iff.1 hz).1
      rw [List.length_map] at this; omega
     rw [hown.cellAt i (by omega)]
     unfold tkc
     rw [List.getElem?_map] at hz ⊢
     cases hq : ys[i]? with
     | none => rw [hq] at hz; cases hz
     | some q => rw [hq] at hz; simp only [Option.map_some, Option.some.injEq] at hz ⊢; rw [hz]) (by omega) (by rw [List.length_map]; omega) (by rw [List.length_map]; omega) (by
     rw [List.map_map, show ((fun b : ByteArray => b.data.toList) ∘ Txt) = id from by funext z; exact txt_list z, List.map_id]; exact hjl)
    rw [List.map_map, show ((fun b : ByteArray => b.data.toList) ∘ Txt) = id from by funext z; exact txt_list z, List.map_id, List.length_map, hyl2] at h
    exact h : Calls Tryz.prog 10 #[.slice (some ⟨g, 0, none⟩) xs.length c, .string ⟨#[44, 32]⟩] w4 fun e w' => e = .returned (.string ⟨(Lib.join ys [44, 32]).toArray⟩) ∧ Below w4.heap.size w4 w')
   clear hje hTe hT1 hyl2 hown hjl
   go_wp2_with fail
   refine HJo.out.mono ?_
   rintro e w5 ⟨rfl, hB5⟩
   have K5 := Lib.hid (HK.out.below hB5);clear hB5
   go_wp2_with fail
   go_ret2
   unfold TxE
   rw [HF.out]
   exact ⟨rfl, K5.out⟩
end Ad
end Go.Proofs.YtbcaindpbeaheaaGreatDoor
namespace Go.Proofs.YtbcaindpbeaheaaGreatDoor
namespace Ad
open Go.RowKit Lx
def protoL : List UInt8 := [83, 73, 80, 47, 50, 46, 48, 47]
def cutV (v : List UInt8) : List UInt8 × List UInt8 × Bool :=
 if (decide (tokE v 0 = 0) || decide (blkE v (tokE v 0) = tokE v 0)) = true then ([], [], false) else (uprL (v.take (tokE v 0)), v.drop (blkE v (tokE v 0)), true)
def cutT (l : List UInt8) : List UInt8 × List UInt8 × Bool :=
 if (decide (8 ≤ l.length) && (uprL (l.take 8) == protoL)) = true then cutV (l.drop 8) else ([], [], false)
def T3P (r : List UInt8 × List UInt8 × Bool) (w : World) (e : Ending) (w' : World) : Prop := e = .returned (.tuple #[.string (Txt r.1), .string (Txt r.2.1), .bool r.2.2]) ∧ Kp [] w w'
theorem tokEnd_c (s : ByteArray) (k : Nat) (w : World) (hs : s.size ≤ 4194304) (hk : k ≤ s.size) : Calls Tryz.prog 40 #[.string s, .int .i64 k] w (Ret (.int .i64 (tokE s.data.toList k : Nat)) w) := by
 have := Lx.tokenEnd_any s k w (by unfold maxLen; omega)
 rwa [tokE_bhd s k hk] at this
theorem blanks_c (s : ByteArray) (k : Nat) (w : World) (hs : s.size ≤ 4194304) (hk : k ≤ s.size) : Calls Tryz.prog 65 #[.string s, .int .i64 k] w (Ret (.int .i64 (blkE s.data.toList k : Nat)) w) := by
 have := Lx.blanks_any s k w (by unfold maxLen; omega)
 rwa [blkE_bhd s k hk] at this
set_option maxRecDepth 100000 in
set_option maxHeartbeats 4000000 in
theorem cutTransport_big (s : ByteArray) (w : World) (hs : s.size ≤ 4194304) :
   Calls Tryz.prog 33 #[.string s] w (T3P (cutT s.data.toList) w) := by
 have hlen := len_list s
 by_cases h8 : 8 ≤ s.size
 case neg =>
  have HF := Lib.hid (by unfold cutT; rw [hlen, decide_eq_false h8]; rfl : cutT s.data.toList = ([], [], false))
  have b8 : (s.size : Int) < 8 := by omega
  clear h8 hlen
  go_enter Tryz.func33, Tryz.ntmps33
  go_wp2_with fail
  go_ret3
  unfold T3P
  rw [HF.out]
  exact ⟨rfl, Kp.refl _ _⟩
 have b8 : ¬ (s.size : Int) < 8 := by omega
 have b8' : (8 : Int) ≤ (s.size : Int) := by omega
 have H1 := Lib.hid (by rw [take_slc] : s.extract 0 8 = Txt (s.data.toList.take 8))
 have hv : s.extract 8 s.size = Txt (s.data.toList.drop 8) := by rw [slc_txt, slc_full _ _ _ (by rw [hlen]; exact Nat.le_refl _)]
 obtain ⟨v, hvv⟩ : ∃ v, s.data.toList.drop 8 = v := ⟨_, rfl⟩
 have hvl : v.length ≤ 4194296 := by rw [← hvv, List.length_drop, hlen]; omega
 rw [hvv] at hv
 have H2 := Lib.hid hv
 obtain ⟨q, hq⟩ : ∃ q, s.data.toList.take 8 = q := ⟨_, rfl⟩
 have hql : q.length ≤ 8 := by rw [← hq, List.length_take]; omega
 have HU := Lib.hid (fun wz => (by have h := each_up (Txt q) wz (by rw [txt_size]; omega); rw [txt_list] at h; exact h : Calls Tryz.prog 14 #[.string (Txt q), .func (.func 42) #[] #[]] wz (RetNew (uprL q) wz)))
 rw [hq] at H1
 obtain ⟨B, hB⟩ : ∃ B, (uprL q == protoL) = B := ⟨_, rfl⟩
 have bB : (uprL q == [83, 73, 80, 47, 50, 46, 48, 47]) = B := hB
 have HV0 := Lib.hid (by unfold cutT; rw [hlen, decide_eq_true h8, hq, hB, hvv, Bool.true_and] : cutT s.data.toList = if B = true then cutV v else ([], [], false))
 clear hq hB hvv hv h8 hql
 cases B
 case false =>
  have HF := Lib.hid (by rw [HV0.out]; rfl : cutT s.data.toList = ([], [], false))
  go_enter Tryz.func33, Tryz.ntmps33
  go_wp2_with fail
  rw [H1.out]
  refine (HU.out _).mono ?_
  rintro e w1 ⟨rfl, hB1⟩
  have K1 := Lib.hid ((Kp.refl [] w).below hB1)
  clear hB1
  go_wp2_with fail
  go_ret3
  unfold T3P
  rw [HF.out]
  exact ⟨rfl, K1.out⟩
 case true =>
  have HV1 := Lib.hid (by rw [HV0.out]; rfl : cutT s.data.toList = cutV v)
  obtain ⟨te, hte⟩ : ∃ te, tokE v 0 = te := ⟨_, rfl⟩
  obtain ⟨f, hf⟩ : ∃ f, blkE v te = f := ⟨_, rfl⟩
  have htl : te ≤ v.length := by rw [← hte]; exact tokE_len v 0 (Nat.zero_le _)
  have hfl : f ≤ v.length := by rw [← hf]; exact blkE_len v te htl
  have HTE := Lib.hid (fun wz => (by have h := tokEnd_c (Txt v) 0 wz (by rw [txt_size]; omega) (Nat.zero_le _); rw [txt_list, hte] at h; exact h : Calls Tryz.prog 40 #[.string (Txt v), .int .i64 0] wz (Ret (.int .i64 (te : Int)) wz)))
  have HBE := Lib.hid (fun wz => (by have h := blanks_c (Txt v) te wz (by rw [txt_size]; omega) (by rw [txt_size]; exact htl); rw [txt_list, hf] at h; exact h : Calls Tryz.prog 65 #[.string (Txt v), .int .i64 (te : Int)] wz (Ret (.int .i64 (f : Int)) wz)))
  have HV2 := Lib.hid (by rw [HV1.out]; unfold cutV; rw [hte, hf] : cutT s.data.toList = if (decide (te = 0) || decide (f = te)) = true then ([], [], false) else (uprL (v.take te), v.drop f, true))
  have H3 := Lib.hid (by have h := take_slc (Txt v) te; rw [txt_list] at h; exact h : (Txt v).extract 0 te = Txt (v.take te))
  have hsz : (Txt v).size = v.length := txt_size v
  have H4 := Lib.hid (by rw [slc_txt, txt_list, slc_full _ _ _ (by rw [txt_size]; exact Nat.le_refl _)] : (Txt v).extract f (Txt v).size = Txt (v.drop f))
  have HU2 := Lib.hid (fun wz => (by have h := each_up (Txt (v.take te)) wz (by rw [txt_size, List.length_take]; omega); rw [txt_list] at h; exact h : Calls Tryz.prog 14 #[.string (Txt (v.take te)), .func (.func 42) #[] #[]] wz (RetNew (uprL (v.take te)) wz)))
  have b1 : (te : Int) ≤ ((Txt v).size : Int) := by omega
  have b2 : (f : Int) ≤ ((Txt v).size : Int) := by omega
  obtain ⟨X, hX⟩ : ∃ X, Txt v = X := ⟨_, rfl⟩
  rw [hX] at H2 HTE HBE H3 H4 b1 b2
  clear hX hsz htl hfl hte hf hvl
  by_cases h0 : te = 0
  ·have HF := Lib.hid (by rw [HV2.out, decide_eq_true h0]; rfl : cutT s.data.toList = ([], [], false))
   have c0 : ((te : Int) == 0) = true := by rw [h0]; rfl
   clear h0
   go_enter Tryz.func33, Tryz.ntmps33
   go_wp2_with fail
   rw [H1.out]
   refine (HU.out _).mono ?_
   rintro e w1 ⟨rfl, hB1⟩
   have K1 := Lib.hid ((Kp.refl [] w).below hB1)
   clear hB1
   go_wp2_with fail
   rw [H2.out]
   refine (HTE.out _).mono ?_
   rintro e w2 ⟨rfl, hw⟩
   obtain rfl := hw
   go_wp2_with fail
   refine (HBE.out _).mono ?_
   rintro e w2 ⟨rfl, hw⟩
   obtain rfl := hw
   go_wp2_with fail
   go_ret3
   unfold T3P
   rw [HF.out]
   exact ⟨rfl, K1.out⟩
  by_cases h1 : f = te
  ·have HF := Lib.hid (by rw [HV2.out, decide_eq_false h0, decide_eq_true h1]; rfl : cutT s.data.toList = ([], [], false))
   have c0 : ((te : Int) == 0) = false := by rw [beq_eq_false_iff_ne]; omega
   have c1 : ((f : Int) == (te : Int)) = true := by rw [h1]; exact beq_self_eq_true _
   clear h0 h1
   go_enter Tryz.func33, Tryz.ntmps33
   go_wp2_with fail
   rw [H1.out]
   refine (HU.out _).mono ?_
   rintro e w1 ⟨rfl, hB1⟩
   have K1 := Lib.hid ((Kp.refl [] w).below hB1)
   clear hB1
   go_wp2_with fail
   rw [H2.out]
   refine (HTE.out _).mono ?_
   rintro e w2 ⟨rfl, hw⟩
   obtain rfl := hw
   go_wp2_with fail
   refine (HBE.out _).mono ?_
   rintro e w2 ⟨rfl, hw⟩
   obtain rfl := hw
   go_wp2_with fail
   go_ret3
   unfold T3P
   rw [HF.out]
   exact ⟨rfl, K1.out⟩
  ·have HF := Lib.hid (by rw [HV2.out, decide_eq_false h0, decide_eq_false h1]; rfl : cutT s.data.toList = (uprL (v.take te), v.drop f, true))
   have c0 : ((te : Int) == 0) = false := by rw [beq_eq_false_iff_ne]; omega
   have c1 : ((f : Int) == (te : Int)) = false := by rw [beq_eq_false_iff_ne]; omega
   clear h0 h1
   go_enter Tryz.func33, Tryz.ntmps33
   go_wp2_with fail
   rw [H1.out]
   refine (HU.out _).mono ?_
   rintro e w1 ⟨rfl, hB1⟩
   have K1 := Lib.hid ((Kp.refl [] w).below hB1)
   clear hB1
   go_wp2_with fail
   rw [H2.out]
   refine (HTE.out _).mono ?_
   rintro e w2 ⟨rfl, hw⟩
   obtain rfl := hw
   go_wp2_with fail
   refine (HBE.out _).mono ?_
   rintro e w2 ⟨rfl, hw⟩
   obtain rfl := hw
   go_upto_region 8 with fail
   go_region_with ((go_at_call 14; rw [H3.out]; refine (HU2.out _).mono ?_; rintro e w3 ⟨rfl, hB3⟩; have K3 := Lib.hid (K1.out.drew.below hB3); clear hB3))
   all_goals
    go_wp2_with fail
    go_ret3
    unfold T3P
    rw [HF.out, ← H4.out]
    exact ⟨rfl, K3.out⟩
def hasP (l : List UInt8) : Bool := decide (Lib.lastIndexByte (Txt l) 93 < Lib.lastIndexByte (Txt l) 58)
def colP (l : List UInt8) : Nat := (Lib.lastIndexByte (Txt l) 58).toNat
def nameP (l : List UInt8) : List UInt8 := if hasP l = true then l.take (colP l) else l
def plN (h : List UInt8) (N X : Int) : List UInt8 × Int × Int := if X ≠ 0 then ([], 0, X) else if N < 1 ∨ 65535 < N then ([], 0, 3) else (h, N, 0)
def plO (l : List UInt8) (o : Option (List UInt8)) : List UInt8 × Int × Int :=
 match o with
 | none => ([], 0, 5)
 | some h => if hasP l = true then plN h (numN (l.drop (colP l + 1))) (numE (l.drop (colP l + 1))) else (h, 0, 0)
def plR (l : List UInt8) : List UInt8 × Int × Int := plO l (hostO (nameP l))
def PlP (r : List UInt8 × Int × Int) (w : World) (e : Ending) (w' : World) : Prop := e = .returned (.tuple #[.string (Txt r.1), .int .i64 r.2.1, .int .u8 r.2.2]) ∧ Kp [] w w'
set_option maxRecDepth 100000 in
set_option maxHeartbeats 4000000 in
theorem readPlace_any (s : ByteArray) (w : World) (hs : s.size ≤ 2097152) (E : Env w) :
   Calls Tryz.prog 36 #[.string s] w (PlP (plR s.data.toList) w) := by
 have HLa := Lib.hid (fun (c : Int) wz => (Tryz.strings_LastIndexByte s c (by omega) wz : Calls Tryz.prog 68 #[.string s, .int .u8 c] wz fun e w' => e = .returned (.int .i64 (Lib.lastIndexByte s c)) ∧ w' = wz))
 have HE := Lib.hid E;have hlen := len_list s;have hsp := Lib.lastIndexByte_spec s 58;have hsp2 := Lib.lastIndexByte_spec s 93
 have hh : hasP s.data.toList = decide (Lib.lastIndexByte s 93 < Lib.lastIndexByte s 58) := by unfold hasP; rw [txt_self]
 have hcc : colP s.data.toList = (Lib.lastIndexByte s 58).toNat := by unfold colP; rw [txt_self]
 have HC := Lib.hid (HLa.out 58);have HD := Lib.hid (HLa.out 93)
 obtain ⟨C, hC⟩ : ∃ C, Lib.lastIndexByte s 58 = C := ⟨_, rfl⟩
 obtain ⟨D, hD⟩ : ∃ D, Lib.lastIndexByte s 93 = D := ⟨_, rfl⟩
 have bD : -1 ≤ D := by rcases hsp2 with ⟨h, _⟩ | ⟨i, _, h, _⟩ <;> omega
 have bC : -1 ≤ C ∧ C < s.size := by rcases hsp with ⟨h, _⟩ | ⟨i, _, h, _⟩ <;> omega
 rw [hC, hD] at hh
 rw [hC] at hcc
 rw [hC] at HC
 rw [hD] at HD
 clear hC hD hsp hsp2 E HLa
 by_cases hp : D < C
 case neg =>
  have bdc := decide_eq_false hp
  rw [bdc] at hh
  clear hp
  have hn : nameP s.data.toList = s.data.toList := by unfold nameP; rw [hh]; rfl
  have HHo := Lib.hid (fun wz (h : Env wz) => Host_any s wz hs h)
  have HV := Lib.hid (by unfold plR plO; rw [hn, hh]; rfl : plR s.data.toList = match hostO s.data.toList with | none => ([], 0, 5) | some h => (h, 0, 0))
  clear hh hcc hn bD bC hlen
  cases ho : hostO s.data.toList with
  | none =>
    rw [ho] at HHo HV
    have HF := Lib.hid HV.out;clear ho HV
    go_enter Tryz.func36, Tryz.ntmps36
    go_wp2_with fail
    refine (HC.out _).mono ?_
    rintro e w1 ⟨rfl, hw⟩
    obtain rfl := hw.symm
    go_wp2_with fail
    refine (HD.out _).mono ?_
    rintro e w1 ⟨rfl, hw⟩
    obtain rfl := hw.symm
    go_wp2_with fail
    refine (HHo.out _ HE.out).mono ?_
    rintro e w1 ⟨rfl, hB1⟩
    have K1 := Lib.hid ((Kp.refl [] _).below hB1)
    clear hB1
    dsimp only [Option.getD, Option.isSome]
    go_wp2_with fail
    go_ret3
    unfold PlP
    rw [HF.out]
    exact ⟨rfl, K1.out⟩
  | some h =>
    rw [ho] at HHo HV
    have HF := Lib.hid HV.out;clear ho HV
    go_enter Tryz.func36, Tryz.ntmps36
    go_wp2_with fail
    refine (HC.out _).mono ?_
    rintro e w1 ⟨rfl, hw⟩
    obtain rfl := hw.symm
    go_wp2_with fail
    refine (HD.out _).mono ?_
    rintro e w1 ⟨rfl, hw⟩
    obtain rfl := hw.symm
    go_wp2_with fail
    refine (HHo.out _ HE.out).mono ?_
    rintro e w1 ⟨rfl, hB1⟩
    have K1 := Lib.hid ((Kp.refl [] _).below hB1)
    clear hB1
    dsimp only [Option.getD, Option.isSome]
    go_wp2_with fail
    go_ret3
    unfold PlP
    rw [HF.out]
    exact ⟨rfl, K1.out⟩
 case pos =>
  rw [decide_eq_true hp] at hh
  obtain ⟨k, rfl⟩ : ∃ k : Nat, C = (k : Int) := ⟨C.toNat, by omega⟩
  rw [Int.toNat_natCast] at hcc
  have hks : k < s.size := by omega
  have hn : nameP s.data.toList = s.data.toList.take k := by unfold nameP; rw [hh, hcc]; rfl
  have H1 := Lib.hid (take_slc s k)
  have hsl : s.extract (k + 1) s.size = Txt (s.data.toList.drop (k + 1)) := by rw [slc_txt, slc_full _ _ _ (by rw [hlen]; exact Nat.le_refl _)]
  obtain ⟨m, hm⟩ : ∃ m, k + 1 = m := ⟨_, rfl⟩
  have hmc : (k : Int) + 1 = (m : Int) := by omega
  have bm : (m : Int) ≤ (s.size : Int) := by omega
  have bk : (k : Int) ≤ (s.size : Int) := by omega
  rw [hm] at hsl
  have H2 := Lib.hid hsl
  obtain ⟨q, hq⟩ : ∃ q, s.data.toList.take k = q := ⟨_, rfl⟩
  obtain ⟨t, ht⟩ : ∃ t, s.data.toList.drop m = t := ⟨_, rfl⟩
  have hql : q.length ≤ 2097152 := by rw [← hq, List.length_take]; omega
  have htl : t.length ≤ 2097152 := by rw [← ht, List.length_drop]; omega
  rw [hq] at H1 hn
  rw [ht] at H2
  have HHo := Lib.hid (fun wz (h : Env wz) => (by have h := Host_any (Txt q) wz (by rw [txt_size]; exact hql) h; rw [txt_list] at h; exact h : Calls Tryz.prog 50 #[.string (Txt q)] wz (HoP (hostO q) wz)))
  have HNu := Lib.hid (fun wz => (by have h := number_q (Txt t) wz (by rw [txt_size]; exact htl); rw [txt_list] at h; exact h : Calls Tryz.prog 69 #[.string (Txt t)] wz fun e w' => e = .returned (.tuple #[.int .i64 (numN t), .int .u8 (numE t)]) ∧ w' = wz))
  have hdr : s.data.toList.drop (colP s.data.toList + 1) = t := by rw [hcc, hm, ht]
  have HV := Lib.hid (by unfold plR plO; rw [hn, hh, hdr]; rfl : plR s.data.toList = match hostO q with | none => ([], 0, 5) | some h => plN h (numN t) (numE t))
  obtain ⟨N, hN⟩ : ∃ N, numN t = N := ⟨_, rfl⟩
  obtain ⟨X, hX⟩ : ∃ X, numE t = X := ⟨_, rfl⟩
  rw [hN, hX] at HNu HV
  clear hN hX hdr hql htl hq ht hsl hm hn hh hcc hks bD bC hlen
  cases ho : hostO q with
  | none =>
    rw [ho] at HHo HV
    have HF := Lib.hid HV.out;clear ho HV
    go_enter Tryz.func36, Tryz.ntmps36
    go_wp2_with fail
    refine (HC.out _).mono ?_
    rintro e w1 ⟨rfl, hw⟩
    obtain rfl := hw.symm
    go_wp2_with fail
    refine (HD.out _).mono ?_
    rintro e w1 ⟨rfl, hw⟩
    obtain rfl := hw.symm
    go_wp2_with fail
    rw [H1.out]
    refine (HHo.out _ HE.out).mono ?_
    rintro e w1 ⟨rfl, hB1⟩
    have K1 := Lib.hid ((Kp.refl [] _).below hB1)
    clear hB1
    dsimp only [Option.getD, Option.isSome]
    go_wp2_with fail
    go_ret3
    unfold PlP
    rw [HF.out]
    exact ⟨rfl, K1.out⟩
  | some h =>
    rw [ho] at HHo HV
    have HV2 := Lib.hid (HV.out : plR s.data.toList = plN h N X)
    clear ho HV
    have hb : ((X == 0) = false ∧ (X != 0) = true ∧ plN h N X = ([], 0, X)) ∨ ((X == 0) = true ∧ (X != 0) = false ∧ ((N < 1 ∧ plN h N X = ([], 0, 3)) ∨ (¬ N < 1 ∧ 65535 < N ∧ plN h N X = ([], 0, 3)) ∨ (¬ N < 1 ∧ ¬ 65535 < N ∧ plN h N X = (h, N, 0)))) := by
     unfold plN
     by_cases hx : X = 0
     ·right
      subst hx
      refine ⟨rfl, rfl, ?_⟩
      by_cases h1 : N < 1
      ·exact .inl ⟨h1, by rw [if_neg (by simp), if_pos (.inl h1)]⟩
      ·by_cases h2 : 65535 < N
       ·exact .inr (.inl ⟨h1, h2, by rw [if_neg (by simp), if_pos (.inr h2)]⟩)
       ·exact .inr (.inr ⟨h1, h2, by rw [if_neg (by simp), if_neg (by omega)]⟩)
     ·exact .inl ⟨beq_eq_false_iff_ne.2 hx, bne_iff_ne.2 hx, if_pos hx⟩
    rcases hb with ⟨x1, x2, hr⟩ | ⟨x1, x2, ⟨n1, hr⟩ | ⟨n1, n2, hr⟩ | ⟨n1, n2, hr⟩⟩
    all_goals
     have HF := Lib.hid (HV2.out.trans hr);clear hr
     go_enter Tryz.func36, Tryz.ntmps36
     go_wp2_with fail
     refine (HC.out _).mono ?_
     rintro e w1 ⟨rfl, hw⟩
     obtain rfl := hw.symm
     go_wp2_with fail
     refine (HD.out _).mono ?_
     rintro e w1 ⟨rfl, hw⟩
     obtain rfl := hw.symm
     go_wp2_with fail
     rw [H1.out]
     refine (HHo.out _ HE.out).mono ?_
     rintro e w1 ⟨rfl, hB1⟩
     have K1 := Lib.hid ((Kp.refl [] _).below hB1)
     clear hB1
     dsimp only [Option.getD, Option.isSome]
     go_wp2_with fail
     rw [H2.out]
     refine (HNu.out _).mono ?_
     rintro e w2 ⟨rfl, hw⟩
     obtain rfl := hw.symm
     go_wp2_with fail
     go_ret3
     unfold PlP
     rw [HF.out]
     exact ⟨rfl, K1.out⟩
end Ad
end Go.Proofs.YtbcaindpbeaheaaGreatDoor
namespace Go.Proofs.YtbcaindpbeaheaaGreatDoor
namespace Ad
open Go.RowKit Lx
structure Vi where
 tr : List UInt8
 host : List UInt8
 port : Int
 br : List UInt8
 pm : List Prm
deriving DecidableEq
def nilV : Vi := ⟨[], [], 0, [], []⟩
def brN : List UInt8 := [98, 114, 97, 110, 99, 104]
def viP (tr h : List UInt8) (p : Int) (r : List Prm × Nat × Int) : Vi × Int := if r.2.2 ≠ 0 then (nilV, r.2.2) else (⟨tr, h, p, getV r.1 brN, r.1⟩, 0)
def viH (tr ls : List UInt8) (h : List UInt8 × Int × Int) : Vi × Int := if h.2.2 ≠ 0 then (nilV, h.2.2) else viP tr h.1 h.2.1 (parR ls)
def endV (c : Int) : Bool := c == 59 || (c == 32 || c == 9)
def viT (c : List UInt8 × List UInt8 × Bool) : Vi × Int := if c.2.2 = true then viH c.1 (c.2.1.drop (endP endV c.2.1 0)) (plR (c.2.1.take (endP endV c.2.1 0))) else (nilV, 5)
def viaR (l : List UInt8) : Vi × Int := viT (cutT (trS l))
def ViE (r : Vi × Int) (w : World) (e : Ending) (w' : World) : Prop := ∃ v, e = .returned (.tuple #[.agg #[.string (Txt r.1.tr), .string (Txt r.1.host), .int .i64 r.1.port, .string (Txt r.1.br), v], .int .u8 r.2]) ∧ PmIn w'.heap.size w' v r.1.pm ∧ Kp [] w w'
def Zvb (w : World) (g : Nat) : Prop := Blk w g 38 #[.string ⟨#[]⟩, .string ⟨#[]⟩, .int .i64 0, .string ⟨#[]⟩, .slice none 0 0]
theorem Zvb.nob {w : World} {g : Nat} (h : Zvb w g) : NoB w g := by
 intro i t hc
 rw [Blk.cell h i] at hc
 match i, hc with
 | 0, hc => simp at hc
 | 1, hc => simp at hc
 | 2, hc => simp at hc
 | 3, hc => simp at hc
 | 4, hc => simp at hc
 | i + 5, hc => simp at hc
theorem Zvb.kp {X : List Nat} {w w' : World} {g : Nat} (h : Zvb w g) (k : Kp X w w') (hg : g ∉ X) : Zvb w' g := Blk.kp h k hg
theorem infoVia : (Tryz.prog.info? 38).map (·.size) = some 5 := by kernel_rfl
theorem blk5 {w : World} {g : Nat} {c0 c1 c2 c3 c4 : Value} (h : Blk w g 38 #[c0, c1, c2, c3, c4]) (x0 x1 x2 x3 x4 : Value) :
   Blk (((((w.setCell ⟨g, 0, none⟩ x0).setCell ⟨g, 1, none⟩ x1).setCell ⟨g, 2, none⟩ x2).setCell ⟨g, 3, none⟩ x3).setCell ⟨g, 4, none⟩ x4) g 38 #[x0, x1, x2, x3, x4] :=
 ((((h.set_ 0 x0).set_ 1 x1).set_ 2 x2).set_ 3 x3).set_ 4 x4
theorem kp5 {X : List Nat} {a w : World} (h : Kp X a w) {g : Nat} (hg : g ∈ X ∨ a.heap.size ≤ g) (x0 x1 x2 x3 x4 : Value) :
   Kp X a (((((w.setCell ⟨g, 0, none⟩ x0).setCell ⟨g, 1, none⟩ x1).setCell ⟨g, 2, none⟩ x2).setCell ⟨g, 3, none⟩ x3).setCell ⟨g, 4, none⟩ x4) :=
 ((((h.setCell (p := ⟨g, 0, none⟩) hg x0).setCell (p := ⟨g, 1, none⟩) hg x1).setCell (p := ⟨g, 2, none⟩) hg x2).setCell (p := ⟨g, 3, none⟩) hg x3).setCell (p := ⟨g, 4, none⟩) hg x4
theorem via_fin (g : Nat) (w wx : World) (r : Vi × Int) (T H B : ByteArray) (p x : Int) (A : Option Addr) (n c : Nat) (hT : Txt r.1.tr = T) (hH : Txt r.1.host = H) (hp : r.1.port = p) (hB : Txt r.1.br = B) (hx : r.2 = x) (hP : PmIn wx.heap.size wx (.slice A n c) r.1.pm) (K : Kp [] w wx) (hg : w.heap.size ≤ g) (Z : Zvb wx g) :
   ViE r w (.returned (.tuple #[.agg #[.string T, .string H, .int .i64 p, .string B, .slice A n c], .int .u8 x])) (((((wx.setCell ⟨g, 0, none⟩ (.string T)).setCell ⟨g, 1, none⟩ (.string H)).setCell ⟨g, 2, none⟩ (.int .i64 p)).setCell ⟨g, 3, none⟩ (.string B)).setCell ⟨g, 4, none⟩ (.slice A n c)) := by
 subst hT hH hp hB hx
 exact ⟨_, rfl, hP.grow (kp5 (Kp.refl [g] wx) (g := g) (.inl (by simp)) _ _ _ _ _) (by intro y hy; rw [List.mem_singleton.1 hy]; exact Z.nob), kp5 K (.inr hg) _ _ _ _ _⟩
theorem cutT_len (l : List UInt8) : (cutT l).2.1.length ≤ l.length := by
 unfold cutT
 split
 ·unfold cutV
  split
  ·exact Nat.zero_le _
  ·dsimp only; rw [List.length_drop, List.length_drop]; omega
 ·exact Nat.zero_le _
theorem mem_endV (c : Int) : memB (ByteArray.mk #[59, 32, 9]).data.toList c = endV c := by
 unfold memB endV
 simp only [List.any_cons, List.any_nil, Bool.or_false]
 have e : ∀ n : Nat, ((n : Int) == c) = (c == (n : Int)) := fun n => by rw [Bool.eq_iff_iff]; simp only [beq_iff_eq]; exact eq_comm
 rw [show (((59 : UInt8).toNat : Int)) = 59 from rfl, show (((32 : UInt8).toNat : Int)) = 32 from rfl, show (((9 : UInt8).toNat : Int)) = 9 from rfl]
 rw [show ((59 : Int) == c) = (c == 59) from e 59, show ((32 : Int) == c) = (c == 32) from e 32, show ((9 : Int) == c) = (c == 9) from e 9]
set_option maxRecDepth 100000 in
set_option maxHeartbeats 4000000 in
theorem via_big (s : ByteArray) (w : World) (hs : s.size ≤ 4194304) (h1 : ((cutT (trS s.data.toList)).2.1.take (endP endV (cutT (trS s.data.toList)).2.1 0)).length ≤ 2097152) (h2 : ((cutT (trS s.data.toList)).2.1.drop (endP endV (cutT (trS s.data.toList)).2.1 0)).length ≤ 2097152)
   (h3 : SzP (parR ((cutT (trS s.data.toList)).2.1.drop (endP endV (cutT (trS s.data.toList)).2.1 0))).1) (E : Env w) :
   Calls Tryz.prog 11 #[.string s] w (ViE (viaR s.data.toList) w) := by
 obtain ⟨t, ht⟩ : ∃ t, trS s.data.toList = t := ⟨_, rfl⟩
 rw [ht] at h1 h2 h3
 have htl : t.length ≤ 4194304 := by rw [← ht]; have := trS_len s.data.toList; rw [len_list] at this; omega
 have hcl := cutT_len t
 obtain ⟨tr, rs, ok, hc⟩ : ∃ a b c, cutT t = (a, b, c) := ⟨_, _, _, rfl⟩
 rw [hc] at h1 h2 h3
 dsimp only at h1 h2 h3
 have hcu := fun wz => cutTransport_big (Txt t) wz (by rw [txt_size]; omega)
 rw [txt_list, hc] at hcu
 have HCu := Lib.hid hcu
 rw [hc] at hcl
 dsimp only at hcl
 obtain ⟨k, hk⟩ : ∃ k, endP endV rs 0 = k := ⟨_, rfl⟩
 rw [hk] at h1 h2 h3
 have hcb := fun wz => cutBefore_big endV (Txt rs) ⟨#[59, 32, 9]⟩ wz (by rw [txt_size]; omega) (by decide) (by decide) (ascii_of_all (by decide)) mem_endV
 rw [txt_list, hk] at hcb
 have HCb := Lib.hid hcb
 have HT := Lib.hid (fun wz => (by have h := trimmed_big s wz (by omega); rw [ht] at h; exact h : Calls Tryz.prog 34 #[.string s] wz (TxK t wz)))
 obtain ⟨q, hq⟩ : ∃ q, rs.take k = q := ⟨_, rfl⟩
 obtain ⟨ls, hls⟩ : ∃ q, rs.drop k = q := ⟨_, rfl⟩
 rw [hq] at h1
 rw [hls] at h2 h3
 have hql : q.length ≤ 2097152 := h1
 have hll : ls.length ≤ 2097152 := h2
 obtain ⟨h, p, x, hpl⟩ : ∃ a b c, plR q = (a, b, c) := ⟨_, _, _, rfl⟩
 have hpp := fun wz (hE : Env wz) => readPlace_any (Txt q) wz (by rw [txt_size]; omega) hE
 rw [txt_list, hpl] at hpp
 have HPl := Lib.hid hpp
 obtain ⟨pm, off, y, hpa⟩ : ∃ a b c, parR ls = (a, b, c) := ⟨_, _, _, rfl⟩
 have hsz : SzP pm := by rw [hpa] at h3; exact h3
 clear h1 h2 h3
 have hpar := fun wz (hE : Env wz) => Params_any (Txt ls) wz (by rw [txt_size]; omega) hE
 rw [txt_list, hpa] at hpar
 have HPa := Lib.hid hpar
 have HV := Lib.hid (by unfold viaR; rw [ht, hc]; unfold viT; rw [hk, hq, hls, hpl]; unfold viH; rw [hpa]; unfold viP; rfl : viaR s.data.toList = if ok = true then (if x ≠ 0 then (nilV, x) else if y ≠ 0 then (nilV, y) else (⟨tr, h, p, getV pm brN, pm⟩, 0)) else (nilV, 5))
 have Hsz := Lib.hid hsz;have HE := Lib.hid E
 obtain ⟨w0, hw0⟩ : ∃ x, w.alloc (.cells #[.string ⟨#[]⟩, .string ⟨#[]⟩, .int .i64 0, .string ⟨#[]⟩, .slice none 0 0] 38) = x := ⟨_, rfl⟩
 have K0 := Lib.hid (show Kp [] w w0 from by rw [← hw0]; exact (Kp.refl _ _).alloc _)
 have Z0 := Lib.hid (show Zvb w0 w.heap.size from by rw [← hw0]; exact Blk.new w 38 _)
 rw [hq, hls] at HCb
 clear hcl hc ht hcu hcb hk hq hls hql hll hpl hpp hpa hpar hsz E htl
 go_enter Tryz.func11, Tryz.ntmps11
 go_wp2_with fail
 refine (HT.out _).mono ?_
 rintro e w1 ⟨rfl, hK1⟩
 have K1 := Lib.hid (K0.out.trans hK1)
 have Z1 := Lib.hid (show Zvb w1 w.heap.size from Z0.out.kp hK1 (by simp))
 clear hK1
 go_wp2_with fail
 refine (HCu.out _).mono ?_
 rintro e w2 ⟨rfl, hK2⟩
 have K2 := Lib.hid (K1.out.trans hK2)
 have Z2 := Lib.hid (show Zvb w2 w.heap.size from Z1.out.kp hK2 (by simp))
 clear hK2
 dsimp only
 cases ok
 case false =>
  have HF := Lib.hid (HV.out.trans (if_neg (by decide)))
  have d0 := Z2.out.cell 0;have d1 := Z2.out.cell 1;have d2 := Z2.out.cell 2;have d3 := Z2.out.cell 3;have d4 := Z2.out.cell 4;have g0 := Z2.out.frozen 0;have g1 := Z2.out.frozen 1;have g2 := Z2.out.frozen 2;have g3 := Z2.out.frozen 3;have g4 := Z2.out.frozen 4
  go_wp2_with fail
  refine bodyPost_ret (results_two rfl _ _ w.heap.size 38 _ (0, 0) _ rfl (blk5 Z2.out _ _ _ _ _) Tryz.underlying38 rfl infoVia) rfl ?_
  rw [HF.out]
  exact via_fin w.heap.size w _ _ _ _ _ _ _ _ _ _ rfl rfl rfl rfl rfl (PmIn.nil _ _) K2.out (Nat.le_refl _) Z2.out
 case true =>
  have HV1 := Lib.hid (HV.out.trans (if_pos rfl))
  go_wp2_with fail
  refine (HCb.out _).mono ?_
  rintro e w3 ⟨rfl, hK3⟩
  have K3 := Lib.hid (K2.out.trans hK3)
  have Z3 := Lib.hid (show Zvb w3 w.heap.size from Z2.out.kp hK3 (by simp))
  clear hK3
  go_wp2_with fail
  refine (HPl.out _ (HE.out.kp K3.out (by simp))).mono ?_
  rintro e w4 ⟨rfl, hK4⟩
  have K4 := Lib.hid (K3.out.trans hK4)
  have Z4 := Lib.hid (show Zvb w4 w.heap.size from Z3.out.kp hK4 (by simp))
  clear hK4
  dsimp only
  by_cases hx : x = 0
  case neg =>
   have HF := Lib.hid (HV1.out.trans (if_pos hx))
   have bx : (x != 0) = true := by rw [bne_iff_ne]; exact hx
   clear hx;have d0 := Z4.out.cell 0;have d1 := Z4.out.cell 1;have d2 := Z4.out.cell 2;have d3 := Z4.out.cell 3;have d4 := Z4.out.cell 4;have g0 := Z4.out.frozen 0;have g1 := Z4.out.frozen 1;have g2 := Z4.out.frozen 2;have g3 := Z4.out.frozen 3;have g4 := Z4.out.frozen 4
   go_wp2_with fail
   refine bodyPost_ret (results_two rfl _ _ w.heap.size 38 _ (0, 0) _ rfl (blk5 Z4.out _ _ _ _ _) Tryz.underlying38 rfl infoVia) rfl ?_
   rw [HF.out]
   exact via_fin w.heap.size w _ _ _ _ _ _ _ _ _ _ rfl rfl rfl rfl rfl (PmIn.nil _ _) K4.out (Nat.le_refl _) Z4.out
  case pos =>
   have HV2 := Lib.hid (HV1.out.trans (if_neg (fun h => h hx)))
   have bx : (x != 0) = false := by rw [hx]; rfl
   clear hx
   go_wp2_with fail
   refine (HPa.out _ (HE.out.kp K4.out (by simp))).mono ?_
   rintro e w5 ⟨v, rfl, hP5, hB5, hl5⟩
   have hK5 := (Kp.refl [] w4).below hB5
   have K5 := Lib.hid (K4.out.trans hK5)
   have Z5 := Lib.hid (show Zvb w5 w.heap.size from Z4.out.kp hK5 (by simp))
   dsimp only at hP5 hl5 ⊢
   obtain ⟨A, c, rfl⟩ := hP5.form
   have HGe := Lib.hid (get_any w5.heap.size (.slice A pm.length c) pm brN w5 hP5 (Nat.le_refl _) Hsz.out (by omega) (by decide))
   obtain ⟨n, hn⟩ : ∃ n, pm.length = n := ⟨_, rfl⟩
   rw [hn] at hP5 HGe ⊢
   have P5 := Lib.hid hP5;clear hK5 hB5 hP5 hl5 hn
   by_cases hy : y = 0
   case neg =>
    have HF := Lib.hid (HV2.out.trans (if_pos hy))
    have by_ : (y != 0) = true := by rw [bne_iff_ne]; exact hy
    clear hy;have d0 := Z5.out.cell 0;have d1 := Z5.out.cell 1;have d2 := Z5.out.cell 2;have d3 := Z5.out.cell 3;have d4 := Z5.out.cell 4;have g0 := Z5.out.frozen 0;have g1 := Z5.out.frozen 1;have g2 := Z5.out.frozen 2;have g3 := Z5.out.frozen 3;have g4 := Z5.out.frozen 4
    go_wp2_with fail
    refine bodyPost_ret (results_two rfl _ _ w.heap.size 38 _ (0, 0) _ rfl (blk5 Z5.out _ _ _ _ _) Tryz.underlying38 rfl infoVia) rfl ?_
    rw [HF.out]
    exact via_fin w.heap.size w _ _ _ _ _ _ _ _ _ _ rfl rfl rfl rfl rfl (PmIn.nil _ _) K5.out (Nat.le_refl _) Z5.out
   case pos =>
    have HF := Lib.hid (HV2.out.trans (if_neg (fun h => h hy)))
    have by_ : (y != 0) = false := by rw [hy]; rfl
    clear hy
    go_wp2_with fail
    refine HGe.out.mono ?_
    rintro e w6 ⟨rfl, hK6⟩
    have K6 := Lib.hid (K5.out.trans hK6)
    have Z6 := Lib.hid (show Zvb w6 w.heap.size from Z5.out.kp hK6 (by simp))
    have P6 := Lib.hid (P5.out.grow hK6 (by intro y hy; cases hy))
    clear hK6;have d0 := Z6.out.cell 0;have d1 := Z6.out.cell 1;have d2 := Z6.out.cell 2;have d3 := Z6.out.cell 3;have d4 := Z6.out.cell 4;have g0 := Z6.out.frozen 0;have g1 := Z6.out.frozen 1;have g2 := Z6.out.frozen 2;have g3 := Z6.out.frozen 3;have g4 := Z6.out.frozen 4
    go_wp2_with fail
    refine bodyPost_ret (results_two rfl _ _ w.heap.size 38 _ (0, 0) _ rfl (blk5 Z6.out _ _ _ _ _) Tryz.underlying38 rfl infoVia) rfl ?_
    rw [HF.out]
    exact via_fin w.heap.size w _ _ _ _ _ _ _ _ _ _ rfl rfl rfl rfl rfl (P6.out) K6.out (Nat.le_refl _) Z6.out
set_option maxRecDepth 100000 in
theorem via_any (s : ByteArray) (w : World) (hs : s.size ≤ 1100000) (E : Env w) :
   Calls Tryz.prog 11 #[.string s] w (ViE (viaR s.data.toList) w) := by
 have h1 := trS_len s.data.toList;have h2 := cutT_len (trS s.data.toList)
 rw [len_list] at h1
 refine via_big s w (by omega) (by rw [List.length_take]; omega) (by rw [List.length_drop]; omega) ?_ E
 obtain ⟨ls, hls⟩ : ∃ q, (cutT (trS s.data.toList)).2.1.drop (endP endV (cutT (trS s.data.toList)).2.1 0) = q := ⟨_, rfl⟩
 have hll : ls.length ≤ 1100000 := by rw [← hls, List.length_drop]; omega
 rw [hls]
 intro z hz
 have := parF_sz ls (ls.length + 1) (blkE ls 0) [] (fun p hp => by cases hp) z hz
 omega
end Ad
end Go.Proofs.YtbcaindpbeaheaaGreatDoor
namespace Go.Proofs.YtbcaindpbeaheaaGreatDoor
namespace Ad
open Go.RowKit Lx
def isC (c : UInt8) (x : Int) : Bool := x == (c.toNat : Int)
theorem index1_endP (c : UInt8) : ∀ l : List UInt8, Lib.index l [c] = if endP (isC c) l 0 < l.length then (endP (isC c) l 0 : Int) else -1 := by
 intro l
 unfold endP
 rw [List.drop_zero, Nat.zero_add]
 induction l with
 | nil => rfl
 | cons b t ih =>
   have hr : runL (fun x => !isC c x) (b :: t) = if isC c b.toNat then 0 else runL (fun x => !isC c x) t + 1 := by
    rw [runL]; cases isC c b.toNat <;> rfl
   have hp : List.isPrefixOf [c] (b :: t) = isC c b.toNat := by
    simp only [List.isPrefixOf, Bool.and_true]
    unfold isC
    rw [Bool.eq_iff_iff, beq_iff_eq, beq_iff_eq]
    exact ⟨fun h => by rw [h], fun h => (UInt8.toNat_inj.1 (Int.ofNat.inj h)).symm⟩
   rw [hr, Lib.index, hp, List.length_cons]
   cases hb : isC c b.toNat
   ·simp only [Bool.false_eq_true, if_false]
    rw [ih]
    clear ih hr hb hp
    generalize runL (fun x => !isC c x) t = n
    by_cases h : n < t.length
    ·have e : ((n : Int) == -1) = false := by rw [beq_eq_false_iff_ne]; omega
     simp [h, e]
    ·simp [h]
   ·simp
def cutS (x : List UInt8) : List UInt8 × List UInt8 × Bool :=
 if endP (isC 47) x 0 < x.length then (x.take (endP (isC 47) x 0), x.drop (endP (isC 47) x 0 + 1), true) else (x, [], false)
theorem cut_is (x : List UInt8) : Lib.cut x [47] = cutS x := by
 unfold Lib.cut cutS
 rw [index1_endP]
 generalize endP (isC 47) x 0 = n
 by_cases h : n < x.length
 ·rw [if_pos h, if_pos (by omega), if_pos h, Int.toNat_natCast]; rfl
 ·rw [if_neg h, if_neg (by omega), if_neg h]
def itmB (x : List UInt8) : Bool := tokB (cutS x).1 && (!(cutS x).2.2 || tokB (cutS x).2.1)
theorem cutS_len (x : List UInt8) : (cutS x).1.length ≤ x.length ∧ (cutS x).2.1.length ≤ x.length := by
 unfold cutS
 split
 ·exact ⟨by rw [List.length_take]; omega, by rw [List.length_drop]; omega⟩
 ·exact ⟨Nat.le_refl _, Nat.zero_le _⟩
set_option maxRecDepth 100000 in
set_option maxHeartbeats 2000000 in
theorem isItem_any (x : List UInt8) (w : World) (hs : x.length ≤ 2097152) (E : Env w) :
   Calls Tryz.prog 55 #[.string (Txt x)] w (BoK (itmB x) w) := by
 have hl := cutS_len x
 obtain ⟨a, b, g, hc⟩ : ∃ a b g, cutS x = (a, b, g) := ⟨_, _, _, rfl⟩
 rw [hc] at hl
 dsimp only at hl
 have HCu := Lib.hid (by
  obtain ⟨m, hm⟩ := E.m
  refine (Tryz.strings_Cut (Txt x) ⟨#[47]⟩ m w (by rw [txt_size]; omega) hm).mono ?_
  rintro e w' ⟨rfl, n, rfl⟩
  refine ⟨?_, (Kp.refl [] w).drewN n⟩
  have : Lib.cut (Txt x).data.toList (⟨#[47]⟩ : ByteArray).data.toList = (a, b, g) := by rw [txt_list]; exact (cut_is x).trans hc
  rw [this]; rfl : Calls Tryz.prog 99 #[.string (Txt x), .string ⟨#[47]⟩] w fun e w' => e = .returned (.tuple #[.string (Txt a), .string (Txt b), .bool g]) ∧ Kp [] w w')
 have H1 := Lib.hid (fun wz => tok_n a wz (by omega))
 have H2 := Lib.hid (fun wz => tok_n b wz (by omega))
 have HV := Lib.hid (by unfold itmB; rw [hc] : itmB x = (tokB a && (!g || tokB b)))
 obtain ⟨ta, hta⟩ : ∃ t, tokB a = t := ⟨_, rfl⟩
 obtain ⟨tb, htb⟩ : ∃ t, tokB b = t := ⟨_, rfl⟩
 rw [hta] at H1 HV
 rw [htb] at H2 HV
 clear hc hl E hta htb
 go_enter Tryz.func55, Tryz.ntmps55
 go_wp2_with fail
 refine HCu.out.mono ?_
 rintro e w1 ⟨rfl, hK1⟩
 have K1 := Lib.hid hK1;clear hK1
 go_wp2_with fail
 refine (H1.out _).mono ?_
 rintro e w2 ⟨rfl, hw⟩
 obtain rfl := hw
 cases ta
 case false =>
  go_wp2_with fail
  go_ret
  rw [HV.out]
  exact ⟨rfl, K1.out⟩
 case true =>
  cases g
  case false =>
   go_wp2_with fail
   go_ret
   rw [HV.out]
   exact ⟨rfl, K1.out⟩
  case true =>
   go_wp2_with fail
   refine (H2.out _).mono ?_
   rintro e w2 ⟨rfl, hw⟩
   obtain rfl := hw
   go_wp2_with fail
   go_ret
   rw [HV.out]
   exact ⟨rfl, K1.out⟩
def itE (l : List UInt8) : Nat := if atB l (tokE l 0) = 47 then tokE l (tokE l 0 + 1) else tokE l 0
def itP (v : List UInt8) (r : List Prm × Nat × Int) : (List UInt8 × List Prm) × Int := if r.2.2 ≠ 0 then (([], []), r.2.2) else ((v, r.1), 0)
def itT (l : List UInt8) : (List UInt8 × List Prm) × Int := if itmB (l.take (itE l)) = true then itP (l.take (itE l)) (parR (l.drop (itE l))) else (([], []), 5)
def itmR (l : List UInt8) : (List UInt8 × List Prm) × Int := itT (trS l)
def ItP (r : (List UInt8 × List Prm) × Int) (w : World) (e : Ending) (w' : World) : Prop := ∃ v, e = .returned (.tuple #[.agg #[.string (Txt r.1.1), v], .int .u8 r.2]) ∧ PmIn w'.heap.size w' v r.1.2 ∧ Kp [] w w'
def Zib (w : World) (g : Nat) : Prop := Blk w g 63 #[.string ⟨#[]⟩, .slice none 0 0]
theorem Zib.nob {w : World} {g : Nat} (h : Zib w g) : NoB w g := by
 intro i t hc
 rw [Blk.cell h i] at hc
 match i, hc with
 | 0, hc => simp at hc
 | 1, hc => simp at hc
 | i + 2, hc => simp at hc
theorem Zib.kp {X : List Nat} {w w' : World} {g : Nat} (h : Zib w g) (k : Kp X w w') (hg : g ∉ X) : Zib w' g := Blk.kp h k hg
theorem infoItm : (Tryz.prog.info? 63).map (·.size) = some 2 := by kernel_rfl
theorem blk2 {w : World} {g : Nat} {c0 c1 : Value} (h : Blk w g 63 #[c0, c1]) (x0 x1 : Value) :
   Blk ((w.setCell ⟨g, 0, none⟩ x0).setCell ⟨g, 1, none⟩ x1) g 63 #[x0, x1] := (h.set_ 0 x0).set_ 1 x1
theorem kp2 {X : List Nat} {a w : World} (h : Kp X a w) {g : Nat} (hg : g ∈ X ∨ a.heap.size ≤ g) (x0 x1 : Value) :
   Kp X a ((w.setCell ⟨g, 0, none⟩ x0).setCell ⟨g, 1, none⟩ x1) := (h.setCell (p := ⟨g, 0, none⟩) hg x0).setCell (p := ⟨g, 1, none⟩) hg x1
theorem itm_fin (g : Nat) (w wx : World) (r : (List UInt8 × List Prm) × Int) (T : ByteArray) (x : Int) (A : Option Addr) (n c : Nat) (hT : Txt r.1.1 = T) (hx : r.2 = x) (hP : PmIn wx.heap.size wx (.slice A n c) r.1.2) (K : Kp [] w wx) (hg : w.heap.size ≤ g) (Z : Zib wx g) :
   ItP r w (.returned (.tuple #[.agg #[.string T, .slice A n c], .int .u8 x])) ((wx.setCell ⟨g, 0, none⟩ (.string T)).setCell ⟨g, 1, none⟩ (.slice A n c)) := by
 subst hT hx
 exact ⟨_, rfl, hP.grow (kp2 (Kp.refl [g] wx) (g := g) (.inl (by simp)) _ _) (by intro y hy; rw [List.mem_singleton.1 hy]; exact Z.nob), kp2 K (.inr hg) _ _⟩
theorem itE_le (l : List UInt8) : itE l ≤ l.length := by
 unfold itE
 split
 ·rename_i h
  have := atB_lt l (tokE l 0) (by rw [h]; decide)
  exact tokE_len l _ (by omega)
 ·exact tokE_len l 0 (Nat.zero_le _)
theorem prefix47 (l : List UInt8) (k : Nat) : Lib.hasPrefix (l.drop k) [47] = decide (atB l k = 47) := by
 unfold Lib.hasPrefix atB
 cases h : l[k]? with
 | none => rw [List.drop_eq_nil_of_le (by rw [List.getElem?_eq_none_iff] at h; exact h)]; rfl
 | some c =>
   obtain ⟨h1, h2⟩ := List.getElem?_eq_some_iff.1 h
   rw [List.drop_eq_getElem_cons h1, h2]
   simp only [List.isPrefixOf, Bool.and_true]
   rw [Bool.eq_iff_iff, beq_iff_eq, decide_eq_true_iff]
   exact ⟨fun hh => by rw [← hh]; rfl, fun hh => (UInt8.toNat_inj.1 (show c.toNat = (47 : UInt8).toNat from Int.ofNat.inj hh)).symm⟩
set_option maxRecDepth 100000 in
set_option maxHeartbeats 4000000 in
theorem item_any2 (s : ByteArray) (w : World) (hs : s.size ≤ 2097152) (E : Env w) :
   Calls Tryz.prog 23 #[.string s] w (ItP (itmR s.data.toList) w) := by
 obtain ⟨t, ht⟩ : ∃ t, trS s.data.toList = t := ⟨_, rfl⟩
 have htl : t.length ≤ 2097152 := by rw [← ht]; have := trS_len s.data.toList; rw [len_list] at this; omega
 have HT := Lib.hid (fun wz => (by have h := trimmed_any s wz (by omega); rw [ht] at h; exact h : Calls Tryz.prog 34 #[.string s] wz fun e w' => e = .returned (.string (Txt t)) ∧ Kp [] wz w'))
 obtain ⟨k, hk⟩ : ∃ k, tokE t 0 = k := ⟨_, rfl⟩
 obtain ⟨en, hen⟩ : ∃ e, itE t = e := ⟨_, rfl⟩
 have hel : en ≤ t.length := by rw [← hen]; exact itE_le t
 have hkl : k ≤ t.length := by rw [← hk]; exact tokE_len t 0 (Nat.zero_le _)
 obtain ⟨X, hX⟩ : ∃ X, Txt t = X := ⟨_, rfl⟩
 rw [hX] at HT
 have hXs : X.size = t.length := by rw [← hX]; exact txt_size t
 have HTE := Lib.hid (fun wz => (by have h := tokEnd_c (Txt t) 0 wz (by rw [txt_size]; omega) (Nat.zero_le _); rw [txt_list, hk, hX] at h; exact h : Calls Tryz.prog 40 #[.string X, .int .i64 0] wz (Ret (.int .i64 (k : Int)) wz)))
 have Hsl := Lib.hid (by rw [← hX, slc_txt, txt_list, slc_full _ _ _ (by rw [txt_size]; exact Nat.le_refl _)] : X.extract k X.size = Txt (t.drop k))
 have HPx := Lib.hid (fun wz => (by have h := Tryz.strings_HasPrefix (Txt (t.drop k)) ⟨#[47]⟩ wz; rw [txt_list] at h; rw [show (ByteArray.mk #[47]).data.toList = [47] from rfl, prefix47] at h; exact h : Calls Tryz.prog 54 #[.string (Txt (t.drop k)), .string ⟨#[47]⟩] wz fun e w' => e = .returned (.bool (decide (atB t k = 47))) ∧ w' = wz))
 obtain ⟨q, hq⟩ : ∃ q, t.take en = q := ⟨_, rfl⟩
 obtain ⟨ls, hls⟩ : ∃ q, t.drop en = q := ⟨_, rfl⟩
 have hql : q.length ≤ 2097152 := by rw [← hq, List.length_take]; omega
 have hll : ls.length ≤ 2097152 := by rw [← hls, List.length_drop]; omega
 have H5 := Lib.hid (by have h := take_slc (Txt t) en; rw [txt_list, hX, hq] at h; exact h : X.extract 0 en = Txt q)
 have H6 := Lib.hid (by rw [← hX, slc_txt, txt_list, slc_full _ _ _ (by rw [txt_size]; exact Nat.le_refl _), hls] : X.extract en X.size = Txt ls)
 have HI := Lib.hid (fun wz (hE : Env wz) => isItem_any q wz (by omega) hE)
 obtain ⟨B, hB⟩ : ∃ B, itmB q = B := ⟨_, rfl⟩
 rw [hB] at HI
 obtain ⟨pm, off, y, hpa⟩ : ∃ a b c, parR ls = (a, b, c) := ⟨_, _, _, rfl⟩
 have hpar := fun wz (hE : Env wz) => Params_any (Txt ls) wz (by rw [txt_size]; omega) hE
 rw [txt_list, hpa] at hpar
 have HPa := Lib.hid hpar
 have HV := Lib.hid (by unfold itmR; rw [ht]; unfold itT; rw [hen, hq, hls, hB, hpa]; unfold itP; rfl : itmR s.data.toList = if B = true then (if y ≠ 0 then (([], []), y) else ((q, pm), 0)) else (([], []), 5))
 have HE := Lib.hid E
 obtain ⟨w0, hw0⟩ : ∃ x, w.alloc (.cells #[.string ⟨#[]⟩, .slice none 0 0] 63) = x := ⟨_, rfl⟩
 have K0 := Lib.hid (show Kp [] w w0 from by rw [← hw0]; exact (Kp.refl _ _).alloc _)
 have Z0 := Lib.hid (show Zib w0 w.heap.size from by rw [← hw0]; exact Blk.new w 63 _)
 have b1 : (k : Int) ≤ (X.size : Int) := by omega
 have b2 : (en : Int) ≤ (X.size : Int) := by omega
 have hcase : (decide (atB t k = 47) = false ∧ en = k) ∨ (decide (atB t k = 47) = true ∧ ∃ m : Nat, (k : Int) + 1 = (m : Int) ∧ ∀ wz, Calls Tryz.prog 40 #[.string X, .int .i64 (m : Int)] wz (Ret (.int .i64 (en : Int)) wz)) := by
  by_cases h : atB t k = 47
  ·refine .inr ⟨decide_eq_true h, k + 1, rfl, fun wz => ?_⟩
   have hlt := atB_lt t k (by rw [h]; decide)
   have h2 := tokEnd_c (Txt t) (k + 1) wz (by rw [txt_size]; omega) (by rw [txt_size]; omega)
   rw [txt_list, hX] at h2
   have : en = tokE t (k + 1) := by rw [← hen]; unfold itE; rw [hk, if_pos h]
   rw [this]; exact h2
  ·refine .inl ⟨decide_eq_false h, ?_⟩
   rw [← hen]; unfold itE; rw [hk, if_neg h]
 have b3 : (X.size : Int) ≤ 2097152 := by omega
 have Hcase := Lib.hid hcase;clear ht hk hen hq hls hql hll hB hpa hpar E htl hX hXs hcase hel hkl
 go_enter Tryz.func23, Tryz.ntmps23
 go_wp2_with fail
 refine (HT.out _).mono ?_
 rintro e w1 ⟨rfl, hK1⟩
 have K1 := Lib.hid (K0.out.trans hK1)
 have Z1 := Lib.hid (show Zib w1 w.heap.size from Z0.out.kp hK1 (by simp))
 clear hK1
 go_wp2_with fail
 refine (HTE.out _).mono ?_
 rintro e w2 ⟨rfl, hw⟩
 obtain rfl := hw
 go_wp2_with fail
 rw [Hsl.out]
 refine (HPx.out _).mono ?_
 rintro e w2 ⟨rfl, hw⟩
 obtain rfl := hw.symm
 rcases Hcase.out with ⟨hb, he⟩ | ⟨hb, m, hm, hM⟩
 ·obtain rfl := he
  clear Hcase
  rw [hb]
  clear hb
  go_wp2_with fail
  rw [H5.out]
  refine (HI.out _ (HE.out.kp K1.out (by simp))).mono ?_
  rintro e w3 ⟨rfl, hK3⟩
  have K3 := Lib.hid (K1.out.trans hK3)
  have Z3 := Lib.hid (show Zib w3 w.heap.size from Z1.out.kp hK3 (by simp))
  clear hK3
  cases B
  case false =>
   have HF := Lib.hid (HV.out.trans (if_neg (by decide)))
   have d0 := Z3.out.cell 0;have d1 := Z3.out.cell 1;have g0 := Z3.out.frozen 0;have g1 := Z3.out.frozen 1
   go_wp2_with fail
   refine bodyPost_ret (results_two rfl _ _ w.heap.size 63 _ (0, 0) _ rfl (blk2 Z3.out _ _) Tryz.underlying63 rfl infoItm) rfl ?_
   rw [HF.out]
   exact itm_fin w.heap.size w _ _ _ _ _ _ _ rfl rfl (PmIn.nil _ _) K3.out (Nat.le_refl _) Z3.out
  case true =>
   have HV1 := Lib.hid (HV.out.trans (if_pos rfl))
   go_wp2_with fail
   rw [H6.out]
   refine (HPa.out _ (HE.out.kp K3.out (by simp))).mono ?_
   rintro e w5 ⟨v, rfl, hP5, hB5, hl5⟩
   have hK5 := (Kp.refl [] w3).below hB5
   have K5 := Lib.hid (K3.out.trans hK5)
   have Z5 := Lib.hid (show Zib w5 w.heap.size from Z3.out.kp hK5 (by simp))
   dsimp only at hP5 hl5 ⊢
   obtain ⟨A, c, rfl⟩ := hP5.form
   obtain ⟨n, hn⟩ : ∃ n, pm.length = n := ⟨_, rfl⟩
   rw [hn] at hP5 ⊢
   have P5 := Lib.hid hP5;clear hK5 hB5 hP5 hl5 hn
   by_cases hy : y = 0
   case neg =>
    have HF := Lib.hid (HV1.out.trans (if_pos hy))
    have by_ : (y != 0) = true := by rw [bne_iff_ne]; exact hy
    clear hy;have d0 := Z5.out.cell 0;have d1 := Z5.out.cell 1;have g0 := Z5.out.frozen 0;have g1 := Z5.out.frozen 1
    go_wp2_with fail
    refine bodyPost_ret (results_two rfl _ _ w.heap.size 63 _ (0, 0) _ rfl (blk2 Z5.out _ _) Tryz.underlying63 rfl infoItm) rfl ?_
    rw [HF.out]
    exact itm_fin w.heap.size w _ _ _ _ _ _ _ rfl rfl (PmIn.nil _ _) K5.out (Nat.le_refl _) Z5.out
   case pos =>
    have HF := Lib.hid (HV1.out.trans (if_neg (fun h => h hy)))
    have by_ : (y != 0) = false := by rw [hy]; rfl
    clear hy;have d0 := Z5.out.cell 0;have d1 := Z5.out.cell 1;have g0 := Z5.out.frozen 0;have g1 := Z5.out.frozen 1
    go_wp2_with fail
    try rw [H5.out]
    refine bodyPost_ret (results_two rfl _ _ w.heap.size 63 _ (0, 0) _ rfl (blk2 Z5.out _ _) Tryz.underlying63 rfl infoItm) rfl ?_
    rw [HF.out]
    exact itm_fin w.heap.size w _ _ _ _ _ _ _ rfl rfl (P5.out) K5.out (Nat.le_refl _) Z5.out
 ·have HM := Lib.hid hM
  rw [hb]
  clear hM hb Hcase
  go_wp2_with fail
  try rw [hm]
  refine (HM.out _).mono ?_
  rintro e w2 ⟨rfl, hw⟩
  obtain rfl := hw
  clear hm
  go_wp2_with fail
  rw [H5.out]
  refine (HI.out _ (HE.out.kp K1.out (by simp))).mono ?_
  rintro e w3 ⟨rfl, hK3⟩
  have K3 := Lib.hid (K1.out.trans hK3)
  have Z3 := Lib.hid (show Zib w3 w.heap.size from Z1.out.kp hK3 (by simp))
  clear hK3
  cases B
  case false =>
   have HF := Lib.hid (HV.out.trans (if_neg (by decide)))
   have d0 := Z3.out.cell 0;have d1 := Z3.out.cell 1;have g0 := Z3.out.frozen 0;have g1 := Z3.out.frozen 1
   go_wp2_with fail
   refine bodyPost_ret (results_two rfl _ _ w.heap.size 63 _ (0, 0) _ rfl (blk2 Z3.out _ _) Tryz.underlying63 rfl infoItm) rfl ?_
   rw [HF.out]
   exact itm_fin w.heap.size w _ _ _ _ _ _ _ rfl rfl (PmIn.nil _ _) K3.out (Nat.le_refl _) Z3.out
  case true =>
   have HV1 := Lib.hid (HV.out.trans (if_pos rfl))
   go_wp2_with fail
   rw [H6.out]
   refine (HPa.out _ (HE.out.kp K3.out (by simp))).mono ?_
   rintro e w5 ⟨v, rfl, hP5, hB5, hl5⟩
   have hK5 := (Kp.refl [] w3).below hB5
   have K5 := Lib.hid (K3.out.trans hK5)
   have Z5 := Lib.hid (show Zib w5 w.heap.size from Z3.out.kp hK5 (by simp))
   dsimp only at hP5 hl5 ⊢
   obtain ⟨A, c, rfl⟩ := hP5.form
   obtain ⟨n, hn⟩ : ∃ n, pm.length = n := ⟨_, rfl⟩
   rw [hn] at hP5 ⊢
   have P5 := Lib.hid hP5;clear hK5 hB5 hP5 hl5 hn
   by_cases hy : y = 0
   case neg =>
    have HF := Lib.hid (HV1.out.trans (if_pos hy))
    have by_ : (y != 0) = true := by rw [bne_iff_ne]; exact hy
    clear hy;have d0 := Z5.out.cell 0;have d1 := Z5.out.cell 1;have g0 := Z5.out.frozen 0;have g1 := Z5.out.frozen 1
    go_wp2_with fail
    refine bodyPost_ret (results_two rfl _ _ w.heap.size 63 _ (0, 0) _ rfl (blk2 Z5.out _ _) Tryz.underlying63 rfl infoItm) rfl ?_
    rw [HF.out]
    exact itm_fin w.heap.size w _ _ _ _ _ _ _ rfl rfl (PmIn.nil _ _) K5.out (Nat.le_refl _) Z5.out
   case pos =>
    have HF := Lib.hid (HV1.out.trans (if_neg (fun h => h hy)))
    have by_ : (y != 0) = false := by rw [hy]; rfl
    clear hy;have d0 := Z5.out.cell 0;have d1 := Z5.out.cell 1;have g0 := Z5.out.frozen 0;have g1 := Z5.out.frozen 1
    go_wp2_with fail
    try rw [H5.out]
    refine bodyPost_ret (results_two rfl _ _ w.heap.size 63 _ (0, 0) _ rfl (blk2 Z5.out _ _) Tryz.underlying63 rfl infoItm) rfl ?_
    rw [HF.out]
    exact itm_fin w.heap.size w _ _ _ _ _ _ _ rfl rfl (P5.out) K5.out (Nat.le_refl _) Z5.out
end Ad
end Go.Proofs.YtbcaindpbeaheaaGreatDoor
namespace Go.Proofs.YtbcaindpbeaheaaGreatDoor
namespace Ad
open Go.RowKit Lx
theorem szP_of {l : List Prm} (h : SzL (4096 + 86) l) : SzP l := fun p hp => by have := h p hp; omega
end Ad
end Go.Proofs.YtbcaindpbeaheaaGreatDoor
namespace Go.Proofs.YtbcaindpbeaheaaGreatDoor
namespace Ad
open Go.RowKit Lx
theorem trS_self (l m n : List UInt8) (c d : UInt8) (h1 : l = c :: m) (h2 : l = n ++ [d]) (hc : bb c = false) (hd : bb d = false) : trS l = l := by
 show Lib.trimS l blk = l
 rw [trimS_eq]
 have e : l.dropWhile bb = l := by rw [h1, List.dropWhile_cons, hc]; rfl
 rw [e]
 unfold rd
 rw [h2, List.reverse_append, List.reverse_singleton, List.singleton_append, List.dropWhile_cons, hd]
 simp
def NEnd (t : List UInt8) : Prop := ∃ n d, t = n ++ [d] ∧ bb d = false
theorem NEnd.pre {t : List UInt8} (h : NEnd t) (a : List UInt8) : NEnd (a ++ t) := by
 obtain ⟨n, d, rfl, hd⟩ := h
 exact ⟨a ++ n, d, by simp, hd⟩
theorem tok_end (v : List UInt8) (h : tokB v = true) : NEnd v := by
 obtain ⟨h1, h2⟩ := (tokB_iff v).1 h
 rcases List.eq_nil_or_concat v with rfl | ⟨u, a, rfl⟩
 ·exact absurd rfl h1
 ·rw [List.concat_eq_append] at h2 ⊢
  exact ⟨u, a, rfl, tok_blank _ (h2 a (by simp))⟩
theorem host_end (v : List UInt8) (h : v.head? = some 91) (h2 : hostO v = some v) : NEnd v := by
 unfold hostO at h2
 rw [if_pos h] at h2
 cases v with
 | nil => cases h
 | cons c t =>
   rw [List.tail_cons] at h2
   split at h2
   ·rename_i h3
    rcases List.eq_nil_or_concat t with rfl | ⟨u, a, rfl⟩
    ·cases h3
    ·rw [List.concat_eq_append] at h3 ⊢
     rw [List.getLast?_append, List.getLast?_singleton] at h3
     simp at h3
     subst h3
     exact ⟨c :: u, 93, rfl, by decide⟩
   ·cases h2
theorem pv_end (v : List UInt8) : NEnd (pvL v) := by
 unfold pvL
 split
 ·rename_i h
  rw [Bool.or_eq_true, Bool.and_eq_true, decide_eq_true_eq, decide_eq_true_eq] at h
  rcases h with h | h
  ·exact tok_end v h
  ·exact host_end v h.1 h.2
 ·exact ⟨[34] ++ escL v, 34, rfl, by decide⟩
theorem pp_end (p : Prm) (h : ppB p = true) : NEnd (ppL p) := by
 unfold ppB at h
 simp only [Bool.and_eq_true] at h
 unfold ppL
 split
 ·have := ((pv_end p.2.1).pre [61]).pre (59 :: p.1)
  exact this
 ·rw [List.append_nil]
  exact (tok_end p.1 h.1.1.1).pre [59]
theorem ppF_all : ∀ (l acc : List Prm) (x : List UInt8), ppF l acc = some x → ∀ p ∈ l, ppB p = true := by
 intro l
 induction l with
 | nil => intro acc x _ p hp; cases hp
 | cons q t ih =>
   intro acc x h p hp
   obtain ⟨h1, _, T', h3, _⟩ := ppF_cons q t acc x h
   rcases List.mem_cons.1 hp with rfl | hp
   ·exact h1
   ·exact ih _ _ h3 p hp
theorem ppO_end (l : List Prm) (x : List UInt8) (h : ppO l = some x) : x = [] ∨ NEnd x := by
 have ha := ppF_all l [] x h
 obtain ⟨_, _, rfl⟩ := ppO_some l x h
 rcases List.eq_nil_or_concat l with rfl | ⟨u, a, rfl⟩
 ·exact .inl rfl
 ·rw [List.concat_eq_append] at ha ⊢
  rw [List.flatMap_append, List.flatMap_singleton]
  exact .inr ((pp_end a (ha a (by simp))).pre _)
theorem adr_trim (a : Adr) (t : List UInt8) (h : adrO a = some t) : trS t = t := by
 rw [adrO_eq] at h
 cases hu : printO a.uri with
 | none => rw [hu] at h; cases h
 | some u =>
   cases hp : ppO (srt a.params) with
   | none => rw [hu, hp] at h; cases h
   | some p =>
     rw [hu, hp] at h
     dsimp only at h
     split at h
     ·cases h
     ·injection h with h
      have he : NEnd t := by
       rw [← h]
       rcases ppO_end _ _ hp with rfl | he
       ·exact ⟨dspL a.display ++ [60] ++ u, 62, by simp, by decide⟩
       ·exact he.pre _
      have hs : ∃ c m, t = c :: m ∧ bb c = false := by
       rw [← h]
       unfold dspL
       split
       ·exact ⟨60, u ++ 62 :: p, by simp, by decide⟩
       ·exact ⟨34, escL a.display ++ 34 :: 32 :: 60 :: (u ++ 62 :: p), by simp, by decide⟩
      obtain ⟨n, d, h2, hd⟩ := he
      obtain ⟨c, m, h1, hc⟩ := hs
      exact trS_self t m n c d h1 h2 hc hd
theorem names_one : ∀ (l : List Prm) (p q : Prm), Names l → p ∈ l → q ∈ l → p.1 = q.1 → p = q := by
 intro l
 induction l with
 | nil => intro p q _ hp; cases hp
 | cons x t ih =>
   intro p q hn hp hq he
   unfold Names at hn
   rw [List.map_cons, List.nodup_cons] at hn
   have hm : ∀ y, y ∈ t → y.1 ∈ t.map (·.1) := fun y hy => List.mem_map.2 ⟨y, hy, rfl⟩
   rcases List.mem_cons.1 hp with h1 | h1 <;> rcases List.mem_cons.1 hq with h2 | h2
   ·rw [h1, h2]
   ·have := hm q h2; rw [← he, h1] at this; exact absurd this hn.1
   ·have := hm p h1; rw [he, h2] at this; exact absurd this hn.1
   ·exact ih p q hn.2 h1 h2 he
theorem get_uni (q : List Prm) (nm : List UInt8) (p : Prm) (hn : Names q) (hl : ∀ p ∈ q, p.1 = lowL p.1) (hp : p ∈ q) (h1 : lowL p.1 = lowL nm) : getV q nm = p.2.1 ∧ getB q nm = true := by
 unfold getV getB
 rcases fndI_cases q nm with ⟨_, h⟩ | ⟨k, hk, h, h2, _⟩
 ·obtain ⟨j, hj, he⟩ := List.getElem_of_mem hp
  have h3 := h j hj
  rw [getElem!_pos q j hj, he, h1] at h3
  simp at h3
 ·rw [h, if_neg (by omega), Int.toNat_natCast]
  rw [getElem!_pos q k hk] at h2 ⊢
  have h3 : lowL q[k].1 = lowL nm := by simpa using h2
  have h4 := names_one q q[k] p hn (List.getElem_mem hk) hp (by rw [hl _ (List.getElem_mem hk), hl _ hp, h3, h1])
  rw [h4]
  exact ⟨rfl, by simp⟩
theorem NF.printed {n : Uri} (h : NF n) : printO n = some (textU n) := by unfold printO; rw [h.normal]; rfl
theorem restR_NF (l d : List UInt8) (a b c : Nat) (h : (restR l d a b c).2.2 = 0) : NF (restR l d a b c).1.uri := by
 unfold restR at h ⊢
 split at h
 ·rename_i hx; exact absurd h hx
 ·rename_i hx
  rw [if_neg hx]
  split at h
  ·rename_i hy; exact absurd h hy
  ·rename_i hy
   rw [if_neg hy]
   exact (parse_NF _ (by omega)).1
theorem angR_NF (l d : List UInt8) (k : Nat) (h : (angR l d k).2.2 = 0) : NF (angR l d k).1.uri := by
 unfold angR at h ⊢
 split at h
 ·exact absurd h (show ¬ ((5 : Int) = 0) by decide)
 ·rename_i hx
  rw [if_neg hx]
  exact restR_NF _ _ _ _ _ h
theorem adrR_NF (l : List UInt8) (h : (adrR l).2.2 = 0) : NF (adrR l).1.uri := by
 unfold adrR at h ⊢
 split at h
 ·exact absurd h (show ¬ ((4 : Int) = 0) by decide)
 rename_i h1
 rw [if_neg h1]
 split at h
 ·rename_i h2
  rw [if_pos h2]
  split at h
  ·rename_i h3; exact absurd h h3
  rename_i h3
  rw [if_neg h3]
  split at h
  ·exact absurd h (show ¬ ((5 : Int) = 0) by decide)
  rename_i h4
  rw [if_neg h4]
  exact angR_NF _ _ _ h
 rename_i h2
 rw [if_neg h2]
 split at h
 ·rename_i h3
  rw [if_pos h3]
  split at h
  ·rename_i h4; exact absurd h h4
  rename_i h4
  rw [if_neg h4]
  exact angR_NF _ _ _ h
 rename_i h3
 rw [if_neg h3]
 split at h
 ·exact absurd h (show ¬ ((5 : Int) = 0) by decide)
 rename_i h4
 rw [if_neg h4]
 exact restR_NF _ _ _ _ _ h
end Ad
end Go.Proofs.YtbcaindpbeaheaaGreatDoor
namespace Go.Proofs.YtbcaindpbeaheaaGreatDoor
namespace Ad
open Go.RowKit Lx
def hw1 : ByteArray := ⟨#[67, 65, 76, 76, 45, 105, 100]⟩
def hw2 : ByteArray := ⟨#[66, 111, 98, 60, 115, 105, 112, 58, 97, 64, 66, 62, 32, 44, 32, 60, 115, 105, 112, 58, 99, 59, 100, 62]⟩
def hw3 : ByteArray := ⟨#[115, 105, 112, 47, 50, 46, 48, 47, 117, 100, 112, 32, 104, 58, 53, 48, 54, 48, 59, 98, 114, 97, 110, 99, 104, 61, 122, 57]⟩
def hw4 : ByteArray := ⟨#[48, 48, 55, 32, 73, 78, 86, 73, 84, 69]⟩
def hx2 : List (List UInt8) := [[66, 111, 98, 60, 115, 105, 112, 58, 97, 64, 66, 62], [60, 115, 105, 112, 58, 99, 59, 100, 62]]
def ht2 : List UInt8 := [34, 66, 111, 98, 34, 32, 60, 115, 105, 112, 58, 97, 64, 98, 62, 44, 32, 60, 115, 105, 112, 58, 99, 59, 100, 62]
def hv3 : Vi := ⟨[85, 68, 80], [104], 5060, [122, 57], [([98, 114, 97, 110, 99, 104], [122, 57], true)]⟩
theorem hw1_is : canR hw1.data.toList = ([67, 97, 108, 108, 45, 73, 68], 0) := by decide +kernel
theorem hw2_can : canR (ByteArray.mk #[109]).data.toList = (conN, 0) := by decide +kernel
theorem hw2_kind : kindR conN = (1, true) := by decide +kernel
theorem hw2_list : listR hw2.data.toList = (hx2, 0) := by decide +kernel
theorem hw2_tidy : tidM (conN == conN) tidA hx2 = ([[34, 66, 111, 98, 34, 32, 60, 115, 105, 112, 58, 97, 64, 98, 62], [60, 115, 105, 112, 58, 99, 59, 100, 62]], 0) := by decide +kernel
theorem hw3_is : viaR hw3.data.toList = (hv3, 0) := by decide +kernel
theorem hw4_is : cseqR hw4.data.toList = (7, [73, 78, 86, 73, 84, 69], 0) := by decide +kernel
theorem txtl (l : List UInt8) : (Txt l).toList = l := by rw [Lib.toList_data, txt_list]
set_option maxRecDepth 100000 in
set_option maxHeartbeats 4000000 in
theorem hawake_any (w : World) (H : HEnv w) : Calls Tryz.prog 5 #[] w (BoK true w) := by
 have HC1 := Lib.hid (fun wz (hz : HEnv wz) => (by have h := canon_any hw1 wz (by decide) hz; rw [hw1_is] at h; exact h : Calls Tryz.prog 6 #[.string ⟨#[67, 65, 76, 76, 45, 105, 100]⟩] wz (TxE ([67, 97, 108, 108, 45, 73, 68], 0) wz)))
 have HC2 := Lib.hid (fun wz (hz : HEnv wz) => (by
  have h := tidy_many ⟨#[109]⟩ hw2 conN hx2 1 tidA wz (by decide) (by decide) hz hw2_can hw2_kind hw2_list (by decide) (by decide) (by decide)
   (fun y wy _ hy hE => by have h := tidyOne_adr (Txt y) wy (by rw [txt_size]; omega) hE.env; rw [txt_list] at h; exact h) (by rw [hw2_tidy]; decide)
  rw [hw2_tidy] at h
  rw [show tidJ ([[34, 66, 111, 98, 34, 32, 60, 115, 105, 112, 58, 97, 64, 98, 62], [60, 115, 105, 112, 58, 99, 59, 100, 62]], 0) = (ht2, 0) by decide +kernel] at h
  exact h : Calls Tryz.prog 4 #[.string ⟨#[109]⟩, .string ⟨#[66, 111, 98, 60, 115, 105, 112, 58, 97, 64, 66, 62, 32, 44, 32, 60, 115, 105, 112, 58, 99, 59, 100, 62]⟩] wz (TxE (ht2, 0) wz)))
 have HC3 := Lib.hid (fun wz (hz : HEnv wz) => (by have h := via_any hw3 wz (by decide) hz.env; rw [hw3_is] at h; exact h : Calls Tryz.prog 11 #[.string ⟨#[115, 105, 112, 47, 50, 46, 48, 47, 117, 100, 112, 32, 104, 58, 53, 48, 54, 48, 59, 98, 114, 97, 110, 99, 104, 61, 122, 57]⟩] wz (ViE (hv3, 0) wz)))
 have HC4 := Lib.hid (fun wz => (by have h := cseq_any hw4 wz (by decide); rw [hw4_is] at h; exact h : Calls Tryz.prog 12 #[.string ⟨#[48, 48, 55, 32, 73, 78, 86, 73, 84, 69]⟩] wz (LeP (7, [73, 78, 86, 73, 84, 69], 0) wz)))
 have Ht2 := Lib.hid (by rfl : ht2 = [34, 66, 111, 98, 34, 32, 60, 115, 105, 112, 58, 97, 64, 98, 62, 44, 32, 60, 115, 105, 112, 58, 99, 59, 100, 62])
 have HE := Lib.hid H;clear H
 go_enter Tryz.func5, Tryz.ntmps5
 go_wp2_with fail
 refine (HC1.out _ HE.out).mono ?_
 rintro e w1 ⟨rfl, hK1⟩
 have K1 := Lib.hid hK1;clear hK1
 dsimp only
 go_wp2_with fail
 refine (HC2.out _ (HE.out.kp K1.out (by simp))).mono ?_
 rintro e w2 ⟨rfl, hK2⟩
 have K2 := Lib.hid (K1.out.trans hK2);clear hK2
 dsimp only
 rw [Ht2.out]
 go_wp2_with fail
 refine (HC3.out _ (HE.out.kp K2.out (by simp))).mono ?_
 rintro e w3 ⟨v, rfl, hP, hK3⟩
 have K3 := Lib.hid (K2.out.trans hK3)
 obtain ⟨A, c, rfl⟩ := hP.form
 dsimp only [hv3]
 rw [show ([([98, 114, 97, 110, 99, 104], [122, 57], true)] : List Prm).length = 1 from rfl]
 obtain ⟨g, hg⟩ : ∃ x, w3.heap.size = x := ⟨_, rfl⟩
 obtain ⟨w4, hw4⟩ : ∃ x, w3.alloc (.cells #[.string (Txt [85, 68, 80]), .string (Txt [104]), .int .i64 5060, .string (Txt [122, 57]), .slice A 1 c] 38) = x := ⟨_, rfl⟩
 have hKa : Kp [] w3 w4 := by rw [← hw4]; exact (Kp.refl _ _).alloc _
 have K4 := Lib.hid (K3.out.trans hKa)
 have B4 := Lib.hid (show Blk w4 g 38 #[.string (Txt [85, 68, 80]), .string (Txt [104]), .int .i64 5060, .string (Txt [122, 57]), .slice A 1 c] from by rw [← hw4, ← hg]; exact Blk.new w3 _ _)
 clear hKa hP hK3
 go_upto_region 4 with fail
 try rw [hw4]
 go_wp2_with fail
 refine (HC4.out _).mono ?_
 rintro e w5 ⟨rfl, hK5⟩
 have K5 := Lib.hid (K4.out.trans hK5)
 have B5 := Lib.hid (B4.out.kp hK5 (by simp))
 clear hK5 hw4
 dsimp only
 have u0 := B5.out.cell 0;have u1 := B5.out.cell 1;have u2 := B5.out.cell 2;have u3 := B5.out.cell 3;have u4 := B5.out.cell 4
 have t1 := txtl [67, 97, 108, 108, 45, 73, 68]
 have t2 := txtl [34, 66, 111, 98, 34, 32, 60, 115, 105, 112, 58, 97, 64, 98, 62, 44, 32, 60, 115, 105, 112, 58, 99, 59, 100, 62]
 have t3 := txtl [85, 68, 80]
 have t4 := txtl [104]
 have t5 := txtl [122, 57]
 have t6 := txtl [73, 78, 86, 73, 84, 69]
 go_wp2_with fail
 go_ret
 exact ⟨rfl, K5.out⟩
end Ad
end Go.Proofs.YtbcaindpbeaheaaGreatDoor
namespace Go.Proofs.YtbcaindpbeaheaaGreatDoor
namespace Ad
open Go.RowKit Lx
def NuE (l : List UInt8) (w : World) (e : Ending) (w' : World) : Prop := e = .returned (.tuple #[.int .i64 (numN (trS l)), .int .u8 (numE (trS l))]) ∧ Kp [] w w'
set_option maxRecDepth 100000 in
set_option maxHeartbeats 2000000 in
theorem hnumber_any (s : ByteArray) (w : World) (hs : s.size ≤ 1100000) : Calls Tryz.prog 58 #[.string s] w (NuE s.data.toList w) := by
 obtain ⟨t, ht⟩ : ∃ t, trS s.data.toList = t := ⟨_, rfl⟩
 have htl : t.length ≤ 1100000 := by rw [← ht]; have := trS_len s.data.toList; rw [len_list] at this; omega
 have HT := Lib.hid (fun wz => (by have h := trimmed_any s wz (by omega); rw [ht] at h; exact h : Calls Tryz.prog 34 #[.string s] wz (TxK t wz)))
 have HN := Lib.hid (fun wz => (by have h := number_q (Txt t) wz (by rw [txt_size]; omega); rw [txt_list] at h; exact h))
 unfold NuE
 rw [ht]
 clear ht htl
 go_enter Tryz.func58, Tryz.ntmps58
 go_wp2_with fail
 refine (HT.out _).mono ?_
 rintro e w1 ⟨rfl, hK1⟩
 have K1 := Lib.hid hK1;clear hK1
 go_wp2_with fail
 refine (HN.out _).mono ?_
 rintro e w2 ⟨rfl, hw⟩
 obtain rfl := hw.symm
 go_wp2_with fail
 go_ret2
 exact ⟨rfl, K1.out⟩
def rckC (n : Int) (c : Int × List UInt8 × Int) : Int × Int × List UInt8 × Int := if c.2.2 ≠ 0 then (0, 0, [], c.2.2) else (n, c.1, c.2.1, 0)
def rckR (l : List UInt8) : Int × Int × List UInt8 × Int := if (leadR l).2.2 ≠ 0 then (0, 0, [], (leadR l).2.2) else rckC (leadR l).1 (cseqR (leadR l).2.1)
def RaE (r : Int × Int × List UInt8 × Int) (w : World) (e : Ending) (w' : World) : Prop := e = .returned (.tuple #[.int .i64 r.1, .int .i64 r.2.1, .string (Txt r.2.2.1), .int .u8 r.2.2.2]) ∧ Kp [] w w'
set_option maxRecDepth 100000 in
set_option maxHeartbeats 4000000 in
theorem hrack_any (s : ByteArray) (w : World) (hs : s.size ≤ 1100000) : Calls Tryz.prog 57 #[.string s] w (RaE (rckR s.data.toList) w) := by
 have hll := lead_len s.data.toList
 rw [len_list] at hll
 have HL := Lib.hid (fun wz => leading_any s wz (by omega))
 obtain ⟨n, m, x, hr⟩ : ∃ a b c, leadR s.data.toList = (a, b, c) := ⟨_, _, _, rfl⟩
 rw [hr] at HL hll
 dsimp only at hll
 have HC := Lib.hid (fun wz => (by have h := cseq_any (Txt m) wz (by rw [txt_size]; omega); rw [txt_list] at h; exact h : Calls Tryz.prog 12 #[.string (Txt m)] wz (LeP (cseqR m) wz)))
 obtain ⟨k, q, y, hc⟩ : ∃ a b c, cseqR m = (a, b, c) := ⟨_, _, _, rfl⟩
 rw [hc] at HC
 have HV := Lib.hid (by unfold rckR; rw [hr, hc]; unfold rckC; rfl : rckR s.data.toList = if x ≠ 0 then (0, 0, [], x) else if y ≠ 0 then (0, 0, [], y) else (n, k, q, 0))
 clear hr hc hll
 go_enter Tryz.func57, Tryz.ntmps57
 go_wp2_with fail
 refine (HL.out _).mono ?_
 rintro e w1 ⟨rfl, hK1⟩
 have K1 := Lib.hid hK1;clear hK1
 dsimp only
 by_cases hx : x = 0
 case neg =>
  have HF := Lib.hid (HV.out.trans (if_pos hx))
  have bx : (x != 0) = true := by rw [bne_iff_ne]; exact hx
  clear hx
  go_wp2_with fail
  refine bodyPost_ret (results_four rfl _ _ _) rfl ?_
  rw [HF.out]
  exact ⟨rfl, K1.out⟩
 case pos =>
  have HV1 := Lib.hid (HV.out.trans (if_neg (fun h => h hx)))
  have bx : (x != 0) = false := by rw [hx]; rfl
  clear hx
  go_wp2_with fail
  refine (HC.out _).mono ?_
  rintro e w2 ⟨rfl, hK2⟩
  have K2 := Lib.hid (K1.out.trans hK2);clear hK2
  dsimp only
  by_cases hy : y = 0
  case neg =>
   have HF := Lib.hid (HV1.out.trans (if_pos hy))
   have by_ : (y != 0) = true := by rw [bne_iff_ne]; exact hy
   clear hy
   go_wp2_with fail
   refine bodyPost_ret (results_four rfl _ _ _) rfl ?_
   rw [HF.out]
   exact ⟨rfl, K2.out⟩
  case pos =>
   have HF := Lib.hid (HV1.out.trans (if_neg (fun h => h hy)))
   have by_ : (y != 0) = false := by rw [hy]; rfl
   clear hy
   go_wp2_with fail
   refine bodyPost_ret (results_four rfl _ _ _) rfl ?_
   rw [HF.out]
   exact ⟨rfl, K2.out⟩
end Ad
end Go.Proofs.YtbcaindpbeaheaaGreatDoor
namespace Go.Proofs.YtbcaindpbeaheaaGreatDoor
namespace Ad
open Go.RowKit Lx
set_option maxRecDepth 100000 in
theorem hcontrol_any (c : Int) (w : World) : Calls Tryz.prog 59 #[.int .u8 c] w (Ret (.bool (ctlI c)) w) := by
 go_enter Tryz.func59, Tryz.ntmps59
 go_wp2
 all_goals (go_ret; exact ⟨by simp [ctlI, *] <;> omega, rfl⟩)
def tidX (l : List UInt8) : List UInt8 × Int := if hasCtl (trS l) = true then ([], 5) else (trS l, 0)
set_option maxRecDepth 100000 in
set_option maxHeartbeats 4000000 in
theorem tidyText_any (s : ByteArray) (w : World) (hs : s.size ≤ 1100000) : Calls Tryz.prog 28 #[.string s] w (TxE (tidX s.data.toList) w) := by
 obtain ⟨t, ht⟩ : ∃ t, trS s.data.toList = t := ⟨_, rfl⟩
 have htl : t.length ≤ 1100000 := by rw [← ht]; have := trS_len s.data.toList; rw [len_list] at this; omega
 have HT := Lib.hid (fun wz => (by have h := trimmed_any s wz (by omega); rw [ht] at h; exact h : Calls Tryz.prog 34 #[.string s] wz fun e w' => e = .returned (.string (Txt t)) ∧ Kp [] wz w'))
 have HV := Lib.hid (by unfold tidX; rw [ht] : tidX s.data.toList = if hasCtl t = true then ([], 5) else (t, 0))
 obtain ⟨X, hX⟩ : ∃ X, Txt t = X := ⟨_, rfl⟩
 have HXd := Lib.hid (by rw [← hX, txt_list] : X.data.toList = t)
 have HXt := Lib.hid hX
 have hX64 : X.size ≤ 1100000 := by rw [← hX, txt_size]; exact htl
 rw [hX] at HT
 have HCo := Lib.hid (fun c wz => hcontrol_any c wz)
 clear ht htl hX
 go_enter Tryz.func28, Tryz.ntmps28
 go_wp2_with fail
 refine (HT.out _).mono ?_
 rintro e w1 ⟨rfl, hK1⟩
 have K1 := Lib.hid hK1;clear hK1
 go_wp2_with fail
 go_loopw [10] (fun i wr => ∃ k : Nat, k ≤ X.size ∧ i = .int .i64 k ∧ wr = w1 ∧ hasCtl t = hasCtl (t.drop k)) (fun i _ => X.size - (intOf i).toNat)
 case atStart => exact ⟨0, by omega, rfl, rfl, rfl⟩
 case round =>
  obtain ⟨k, hk, rfl, rfl, he⟩ := hrel
  have He := Lib.hid he;clear he
  by_cases hlt : k < X.size
  ·have hdr : t.drop k = X[k] :: t.drop (k + 1) := by
     have h : t[k]? = some X[k] := by rw [← HXd.out]; exact Lib.data_getElem? X k hlt
     obtain ⟨h1, h2⟩ := List.getElem?_eq_some_iff.1 h
     rw [List.drop_eq_getElem_cons h1, h2]
   have HD := Lib.hid (by rw [He.out, hdr]; rfl : hasCtl t = (ctlI X[k].toNat || hasCtl (t.drop (k + 1))))
   clear hdr
   cases hb : ctlI (X[k].toNat : Int)
   ·have HB := Lib.hid (fun wz => (by have h := HCo.out (X[k].toNat : Int) wz; rw [hb] at h; exact h : Calls Tryz.prog 59 #[.int .u8 (X[k].toNat : Int)] wz (Ret (.bool false) wz)))
    have HN := Lib.hid (by rw [HD.out, hb, Bool.false_or] : hasCtl t = hasCtl (t.drop (k + 1)))
    clear hb
    go_wp2_with fail
    refine (HB.out _).mono ?_
    rintro e w2 ⟨rfl, hw⟩
    obtain rfl := hw
    go_wp2_with fail
    go_roundw
    case rel => exact ⟨k + 1, by omega, by go_num, by first | trivial | rfl, HN.out⟩
    case measure => simp [intOf]; omega
   ·have HB := Lib.hid (fun wz => (by have h := HCo.out (X[k].toNat : Int) wz; rw [hb] at h; exact h : Calls Tryz.prog 59 #[.int .u8 (X[k].toNat : Int)] wz (Ret (.bool true) wz)))
    have HF := Lib.hid (by rw [HV.out, if_pos (by rw [HD.out, hb]; rfl)] : tidX s.data.toList = ([], 5))
    clear hb
    go_wp2_with fail
    refine (HB.out _).mono ?_
    rintro e w2 ⟨rfl, hw⟩
    obtain rfl := hw
    go_wp2_with fail
    go_ret2
    unfold TxE
    rw [HF.out]
    exact ⟨rfl, K1.out⟩
  ·have HF := Lib.hid (by
     rw [HV.out, if_neg]
     rw [He.out, List.drop_eq_nil_of_le (by have := len_list X; rw [HXd.out] at this; omega)]
     decide : tidX s.data.toList = (t, 0))
   go_wp2_with fail
   go_ret2
   unfold TxE
   rw [HF.out, ← HXt.out]
   exact ⟨rfl, K1.out⟩
end Ad
end Go.Proofs.YtbcaindpbeaheaaGreatDoor
namespace Go.Proofs.YtbcaindpbeaheaaGreatDoor
namespace Ad
open Go.RowKit Lx
theorem itoa_k (n : Int) (h0 : 0 ≤ n) (h1 : n ≤ 9223372036854775807) (w : World) (E : Env w) : Calls Tryz.prog 53 #[.int .i64 n] w (TxK (Lib.itoa n) w) :=
 (Tryz.strconv_Itoa n (by omega) h1 w E.tab).mono fun e w' h => by
   obtain ⟨rfl, q, os, hw⟩ := h
   exact ⟨rfl, by rw [hw]; exact (Kp.drewN (Kp.refl [] w) q).trans (kp_grow _ os)⟩
def tidN (l : List UInt8) : List UInt8 × Int := if numE (trS l) ≠ 0 then ([], numE (trS l)) else (Lib.itoa (numN (trS l)), 0)
set_option maxRecDepth 100000 in
set_option maxHeartbeats 4000000 in
theorem tidyNumber_any (s : ByteArray) (w : World) (hs : s.size ≤ 1100000) (E : Env w) (hhi : numN (trS s.data.toList) ≤ 9223372036854775807) : Calls Tryz.prog 27 #[.string s] w (TxE (tidN s.data.toList) w) := by
 have HN := Lib.hid (fun wz => hnumber_any s wz hs)
 unfold NuE at HN
 have hlo := numN_lo (trS s.data.toList)
 obtain ⟨n, hn⟩ : ∃ n, numN (trS s.data.toList) = n := ⟨_, rfl⟩
 obtain ⟨x, hx0⟩ : ∃ x, numE (trS s.data.toList) = x := ⟨_, rfl⟩
 rw [hn] at hlo hhi
 rw [hn, hx0] at HN
 have HV := Lib.hid (by unfold tidN; rw [hn, hx0] : tidN s.data.toList = if x ≠ 0 then ([], x) else (Lib.itoa n, 0))
 have HI := Lib.hid (fun wz (h : Env wz) => itoa_k n hlo hhi wz h)
 have HE := Lib.hid E;clear hn hx0 E hlo hhi
 by_cases hx : x = 0
 ·have bx : (x != 0) = false := by rw [hx]; rfl
  have HF := Lib.hid (HV.out.trans (if_neg (fun h => h hx)))
  clear hx
  go_enter Tryz.func27, Tryz.ntmps27
  go_wp2_with fail
  refine (HN.out _).mono ?_
  rintro e w1 ⟨rfl, hK1⟩
  have K1 := Lib.hid hK1;clear hK1
  go_wp2_with fail
  refine (HI.out _ (HE.out.kp K1.out (by simp))).mono ?_
  rintro e w2 ⟨rfl, hK2⟩
  have K2 := Lib.hid (K1.out.trans hK2);clear hK2
  go_wp2_with fail
  go_ret2
  unfold TxE
  rw [HF.out]
  exact ⟨rfl, K2.out⟩
 ·have bx : (x != 0) = true := by rw [bne_iff_ne]; exact hx
  have HF := Lib.hid (HV.out.trans (if_pos hx));clear hx
  go_enter Tryz.func27, Tryz.ntmps27
  go_wp2_with fail
  refine (HN.out _).mono ?_
  rintro e w1 ⟨rfl, hK1⟩
  have K1 := Lib.hid hK1;clear hK1
  go_wp2_with fail
  go_ret2
  unfold TxE
  rw [HF.out]
  exact ⟨rfl, K1.out⟩
end Ad
end Go.Proofs.YtbcaindpbeaheaaGreatDoor
namespace Go.Proofs.YtbcaindpbeaheaaGreatDoor
namespace Ad
open Go.RowKit Lx
def spc (k : Nat) : List UInt8 := List.replicate k 32
theorem dw_all : ∀ (a b : List UInt8), (∀ c ∈ a, bb c = true) → (a ++ b).dropWhile bb = b.dropWhile bb := by
 intro a b
 induction a with
 | nil => intro _; rfl
 | cons c t ih =>
   intro h
   rw [List.cons_append, List.dropWhile_cons, h c (by simp), if_pos rfl, ih (fun d hd => h d (by simp [hd]))]
theorem rd_pad (t a : List UInt8) (h : ∀ c ∈ a, bb c = true) : rd bb (t ++ a) = rd bb t := by
 unfold rd
 rw [List.reverse_append, dw_all _ _ (fun c hc => h c (by simpa using hc))]
theorem rd_end (t : List UInt8) (h : NEnd t) : rd bb t = t := by
 obtain ⟨n, d, rfl, hd⟩ := h
 unfold rd
 rw [List.reverse_append, List.reverse_singleton, List.singleton_append, List.dropWhile_cons, hd]
 simp
theorem trS_pad (a m b t : List UInt8) (c : UInt8) (ha : ∀ c ∈ a, bb c = true) (hb : ∀ c ∈ b, bb c = true) (hm : m = c :: t) (hc : bb c = false) (he : NEnd m) : trS (a ++ (m ++ b)) = m := by
 show Lib.trimS _ blk = m
 rw [trimS_eq, dw_all _ _ ha]
 have e : (m ++ b).dropWhile bb = m ++ b := by rw [hm, List.cons_append, List.dropWhile_cons, hc]; rfl
 rw [e, rd_pad _ _ hb, rd_end _ he]
theorem dig_bb (c : UInt8) (h : digitI c.toNat = true) : bb c = false := by
 unfold bb
 unfold digitI at h
 unfold blankI
 simp only [Bool.and_eq_true, decide_eq_true_eq, Bool.or_eq_false_iff, beq_eq_false_iff_ne] at h ⊢
 omega
theorem dec_head (n : Nat) : ∃ c t, decL n = c :: t ∧ bb c = false ∧ digitI c.toNat = true := by
 cases h : decL n with
 | nil => exact absurd h (decL_ne n)
 | cons c t =>
   have := decL_chars n c (by rw [h]; simp)
   exact ⟨c, t, rfl, dig_bb c this, this⟩
theorem dec_end (n : Nat) : NEnd (decL n) := by
 rcases List.eq_nil_or_concat (decL n) with h | ⟨u, a, h⟩
 ·exact absurd h (decL_ne n)
 ·rw [List.concat_eq_append] at h
  exact ⟨u, a, h, dig_bb a (decL_chars n a (by rw [h]; simp))⟩
def item (k n : Nat) : List UInt8 := spc k ++ (decL n ++ spc k)
theorem plain_tok (c : UInt8) (h1 : c.toNat ≠ 34) (h2 : c.toNat ≠ 60) (h3 : c.toNat ≠ 62) (h4 : c.toNat ≠ 44) : Tok 44 [c] := by
 refine ⟨by simp, fun d t h => ?_, fun s k y hd => ?_, .inl ⟨c, rfl⟩⟩
 ·injection h with h _
  rw [← h]
  omega
 ·have hlt : k < s.size := by
    rcases Nat.lt_or_ge k s.size with h9 | h9
    ·exact h9
    ·rw [drop_end s k h9] at hd; cases hd
  rw [drop_step s k hlt] at hd
  injection hd with hd1 _
  rw [skR_at s k hlt, hd1, if_neg (by omega), if_neg (by omega), if_neg (by omega)]
  rfl
theorem plain_sc : ∀ (l : List UInt8), (∀ c ∈ l, c.toNat ≠ 34 ∧ c.toNat ≠ 60 ∧ c.toNat ≠ 62 ∧ c.toNat ≠ 44) → Sc 44 l := by
 intro l
 induction l with
 | nil => intro _; exact .nil
 | cons c t ih =>
   intro h
   obtain ⟨h1, h2, h3, h4⟩ := h c (by simp)
   exact Sc.cons [c] t (plain_tok c h1 h2 h3 h4) (ih fun d hd => h d (by simp [hd]))
theorem lead_num (a D r : List UInt8) (c : UInt8) (t : List UInt8) (ha : ∀ c ∈ a, bb c = true) (hD : D = c :: t) (hd : ∀ c ∈ D, digitI c.toNat = true) (hr : ∃ x y, r = x :: y ∧ bb x = true) (he : NEnd r) :
   leadR (a ++ (D ++ r)) = (numN D, trS r, numE D) := by
 have hT : trS (a ++ (D ++ r)) = D ++ r := by
  have := trS_pad a (D ++ r) [] (t ++ r) c ha (by simp) (by rw [hD]; rfl) (dig_bb c (hd c (by rw [hD]; simp))) (he.pre D)
  rwa [List.append_nil] at this
 have hE : endP blankI (D ++ r) 0 = D.length := by
  obtain ⟨x, y, hx, hb⟩ := hr
  have := endP_app blankI [] D r (fun c hc => dig_bb c (hd c hc)) (.inr ⟨x, y, hx, hb⟩)
  simpa using this
 unfold leadR
 rw [hT, hE, List.take_left', List.drop_left'] <;> rfl
theorem cseq_at (a D y : List UInt8) (k : Nat) (c : UInt8) (t : List UInt8) (ha : ∀ c ∈ a, bb c = true) (hD : D = c :: t) (hd : ∀ c ∈ D, digitI c.toNat = true) (n : Nat) (hn : numN D = n ∧ numE D = 0) (m : List UInt8) (hy : ∀ c ∈ y, bb c = true) (hy2 : y ≠ []) (hm : tokB m = true) :
   cseqR (a ++ (D ++ (y ++ m))) = ((n : Int), m, 0) := by
 obtain ⟨h1, h2⟩ := (tokB_iff m).1 hm
 obtain ⟨x, z, hxz⟩ : ∃ x z, m = x :: z := by
  cases m with
  | nil => exact absurd rfl h1
  | cons x z => exact ⟨x, z, rfl⟩
 have hx : bb x = false := tok_blank _ (h2 x (by rw [hxz]; simp))
 have hr : ∃ x z, y ++ m = x :: z ∧ bb x = true := by
  cases y with
  | nil => exact absurd rfl hy2
  | cons p q => exact ⟨p, q ++ m, rfl, hy p (by simp)⟩
 have hl := lead_num a D (y ++ m) c t ha hD hd hr ((tok_end m hm).pre y)
 have hT : trS (y ++ m) = m := by
  have := trS_pad y m [] z x hy (by simp) hxz hx (tok_end m hm)
  rwa [List.append_nil] at this
 unfold cseqR
 rw [hl, hT, hn.1, hn.2]
 dsimp only
 rw [if_neg (by decide), hm]
 rfl
end Ad
end Go.Proofs.YtbcaindpbeaheaaGreatDoor
namespace Go.Proofs.YtbcaindpbeaheaaGreatDoor
namespace Ad
open Go.RowKit Lx
set_option maxRecDepth 100000 in
set_option maxHeartbeats 4000000 in
theorem tidy_one (nm s : ByteArray) (cn : List UInt8) (k : Int) (r : List UInt8 × Int) (w : World) (hn : nm.size ≤ 2097152) (H : HEnv w)
   (hcan : canR nm.data.toList = (cn, 0)) (hk : kindR cn = (k, false))
   (HT : ∀ wz, HEnv wz → Calls Tryz.prog 8 #[.int .u8 k, .string s] wz (TxE r wz)) :
   Calls Tryz.prog 4 #[.string nm, .string s] w (TxE r w) := by
 have HCa := Lib.hid (by have h := canon_any nm w hn H; rw [hcan] at h; exact h)
 have HKi := Lib.hid (fun wz (h : HEnv wz) => (by have h := kindOf_any cn wz h; rw [hk] at h; exact h))
 obtain ⟨t, x⟩ := r
 have HTo := Lib.hid HT;have H0 := Lib.hid H;clear hcan hk HT H
 go_enter Tryz.func4, Tryz.ntmps4
 go_wp2_with fail
 refine HCa.out.mono ?_
 rintro e w1 ⟨rfl, hK1⟩
 have K1 := Lib.hid hK1;clear hK1
 go_wp2_with fail
 refine (HKi.out _ (H0.out.kp K1.out (by simp))).mono ?_
 rintro e w2 ⟨rfl, hK2⟩
 have K2 := Lib.hid (K1.out.trans hK2);clear hK2
 go_wp2_with fail
 refine (HTo.out _ (H0.out.kp K2.out (by simp))).mono ?_
 rintro e w3 ⟨rfl, hK3⟩
 have K3 := Lib.hid (K2.out.trans hK3);clear hK3
 go_wp2_with fail
 go_ret2
 exact ⟨rfl, K3.out⟩
set_option maxRecDepth 100000 in
set_option maxHeartbeats 4000000 in
theorem tidy_bad (nm s : ByteArray) (w : World) (hn : nm.size ≤ 2097152) (H : HEnv w) (hcan : canR nm.data.toList = ([], 5)) :
   Calls Tryz.prog 4 #[.string nm, .string s] w (TxE ([], 5) w) := by
 have HCa := Lib.hid (by have h := canon_any nm w hn H; rw [hcan] at h; exact h)
 clear hcan H
 go_enter Tryz.func4, Tryz.ntmps4
 go_wp2_with fail
 refine HCa.out.mono ?_
 rintro e w1 ⟨rfl, hK1⟩
 have K1 := Lib.hid hK1;clear hK1
 go_wp2_with fail
 go_ret2
 exact ⟨rfl, K1.out⟩
end Ad
end Go.Proofs.YtbcaindpbeaheaaGreatDoor
