/- Texts of one set of library modules: HeKc. -/
import Derived.Test.YtmmjfofdnpafkaaGreatDoorZ9
import Derived.Maps.AppendAt
import Derived.Laws.AppendOwn
namespace Go.Proofs.YtmmjfofdnpafkaaGreatDoor
namespace Ad
open Go.RowKit Lx
theorem infoAdr8 : (Tryz.prog.info? 26).map (fun i => (i.zero, i.size, i.bytes)) = some (some (.agg #[.string .empty, .string .empty, .string .empty, .string .empty, .int .i64 0, .slice none 0 0, .slice none 0 0, .slice none 0 0]), 8, 144) := by kernel_rfl
theorem cell_eight_new (w : World) (a b c d e f g h : Value) (t : TypeId) : ∀ (j : Nat) (u : Value), [a, b, c, d, e, f, g, h][j]? = some u → (w.alloc (.cells #[a, b, c, d, e, f, g, h] t)).cell? ((⟨w.heap.size, 0, none⟩ : Addr).add j) = some u := by
 intro j u hu
 have hg := World.alloc_heap_new w (.cells #[a, b, c, d, e, f, g, h] t)
 match j, hu with
 | 0, hu => simp at hu; subst hu; simp [Addr.add, Lib.cell_of_heap hg 0]
 | 1, hu => simp at hu; subst hu; simp [Addr.add, Lib.cell_of_heap hg 1]
 | 2, hu => simp at hu; subst hu; simp [Addr.add, Lib.cell_of_heap hg 2]
 | 3, hu => simp at hu; subst hu; simp [Addr.add, Lib.cell_of_heap hg 3]
 | 4, hu => simp at hu; subst hu; simp [Addr.add, Lib.cell_of_heap hg 4]
 | 5, hu => simp at hu; subst hu; simp [Addr.add, Lib.cell_of_heap hg 5]
 | 6, hu => simp at hu; subst hu; simp [Addr.add, Lib.cell_of_heap hg 6]
 | 7, hu => simp at hu; subst hu; simp [Addr.add, Lib.cell_of_heap hg 7]
 | j + 8, hu => simp at hu
def eleC : List (List UInt8) → Nat × Int
 | [] => (0, 0)
 | x :: t => if (adrR (trS x)).2.2 ≠ 0 then (0, (adrR (trS x)).2.2) else ((eleC t).1 + 1, (eleC t).2)
def conV : List (List UInt8) → Nat × Int
 | [] => (0, 0)
 | v :: t => if (listR v).2 ≠ 0 then (0, (listR v).2) else if (eleC (listR v).1).2 ≠ 0 then (0, (eleC (listR v).1).2) else ((eleC (listR v).1).1 + (conV t).1, (conV t).2)
def conT (T : Nat × Int) : Bool × Nat × Int := if T.2 ≠ 0 then (false, 0, T.2) else (false, T.1, 0)
def CoE (r : Bool × Nat × Int) (w : World) (e : Ending) (w' : World) : Prop := ∃ p c, e = .returned (.tuple #[.bool r.1, .slice p r.2.1 c, .int .u8 r.2.2]) ∧ Kp [] w w'
theorem list_sz (l : List UInt8) (hl : l.length ≤ 1048576) : (listR l).1.length ≤ 1048577 := by
 have h := spF_len2 l 44
 unfold listR
 split
 ·exact Nat.zero_le _
 ·split
  ·exact Nat.zero_le _
  ·rw [List.length_map]; omega
set_option maxRecDepth 100000 in
set_option maxHeartbeats 4000000 in
theorem contacts_star (b o c : Nat) (v : List UInt8) (w : World) (hc : w.cell? ⟨b, o, none⟩ = some (.string (Txt v))) (hv : v.length ≤ 1048576) (hs : trS v = [42]) :
   Calls Tryz.prog 48 #[.slice (some ⟨b, o, none⟩) 1 c] w (CoE (true, 0, 0) w) := by
 have HT := Lib.hid (fun wz => (by have h := trimmed_any (Txt v) wz (by rw [txt_size]; omega); rw [txt_list, hs] at h; exact h : Calls Tryz.prog 72 #[.string (Txt v)] wz (TxK [42] wz)))
 have bS : ((Txt [42]).toList == [42]) = true := by decide +kernel
 clear hs
 go_enter Tryz.func48, Tryz.ntmps48
 go_wp2_with fail
 refine (HT.out _).mono ?_
 rintro e w1 ⟨rfl, hK1⟩
 have K1 := Lib.hid hK1
 clear hK1
 go_wp2_with fail
 go_ret3
 exact ⟨none, 0, rfl, K1.out⟩
set_option maxRecDepth 100000 in
set_option maxHeartbeats 8000000 in
theorem contacts_any (b o c : Nat) (vs : List (List UInt8)) (w : World) (hb : b < w.heap.size) (hc : ∀ (j : Nat) v, vs[j]? = some v → w.cell? ⟨b, o + j, none⟩ = some (.string (Txt v))) (hv : ∀ v ∈ vs, v.length ≤ 1048576) (hel : ∀ v ∈ vs, ∀ x ∈ (listR v).1, x.length ≤ 1048576) (hvn : vs.length ≤ 65536) (h1 : vs.length ≠ 1) (E : Env w) :
   Calls Tryz.prog 48 #[.slice (some ⟨b, o, none⟩) vs.length c] w (CoE (conT (conV vs)) w) := by
 obtain ⟨i0, hi, hz0, hz1, hz2⟩ := info_parts infoAdr8
 have HE := Lib.hid E
 obtain ⟨T, hT⟩ : ∃ T, conV vs = T := ⟨_, rfl⟩
 rw [hT]
 have HTe := Lib.hid hT
 have HC := Lib.hid hc
 have HV := Lib.hid hv
 have HEl := Lib.hid hel
 have h1' : ((vs.length : Int) == 1) = false := by rw [beq_eq_false_iff_ne]; omega
 clear E hT hc hv hel
 go_enter Tryz.func48, Tryz.ntmps48
 go_wp2_with fail
 go_loopw [25, 3] (fun i l wr => ∃ (k n : Nat) (p : Option Addr) (d : Nat) (cs : List Value), k ≤ vs.length ∧ i = .int .i64 k ∧ l = .slice p n d ∧ wr.ownsRow w.heap.size 26 8 (.slice p n d) n cs ∧ Kp [] w wr ∧ n ≤ k * 1048577 ∧ T.2 = (conV (vs.drop k)).2 ∧ (T.2 = 0 → T.1 = n + (conV (vs.drop k)).1)) (fun i _ _ => vs.length - (intOf i).toNat)
 case atStart => exact ⟨0, 0, none, 0, [], by omega, rfl, rfl, World.ownsRow_nil w w.heap.size 26 8, Kp.refl _ _, Nat.zero_le _, by rw [List.drop_zero, HTe.out], fun _ => by rw [List.drop_zero, HTe.out]; omega⟩
 case round =>
  obtain ⟨k, n, p, d, cs, hk, rfl, rfl, hown, hK, hn, hT2, hT1⟩ := hrel
  have HO := Lib.hid hown
  have K0 := Lib.hid hK
  have HN := Lib.hid hn
  have HT2 := Lib.hid hT2
  have HT1 := Lib.hid hT1
  have hsz0 := hK.size
  clear hown hK hn hT2 hT1
  by_cases hlt : k < vs.length
  ·obtain ⟨v, hvk⟩ : ∃ v, vs[k]? = some v := ⟨vs[k], List.getElem?_eq_getElem hlt⟩
   have hdr : vs.drop k = v :: vs.drop (k + 1) := by
    obtain ⟨h1, h2⟩ := List.getElem?_eq_some_iff.1 hvk
    rw [← h2]; exact List.drop_eq_getElem_cons h1
   have hvl := HV.out v (List.mem_of_getElem? hvk)
   have c0 : wr.cell? ⟨b, o + k, none⟩ = some (.string (Txt v)) := (K0.out.cell (p := ⟨b, o + k, none⟩) hb (by simp)).trans (HC.out k v hvk)
   obtain ⟨xs, ex, hl⟩ : ∃ a b, listR v = (a, b) := ⟨_, _, rfl⟩
   have hxl : xs.length ≤ 1048577 := by have := list_sz v hvl; rw [hl] at this; exact this
   have HLi := Lib.hid (fun wz => (by have h := list_any (Txt v) wz (by rw [txt_size]; exact hvl); rw [txt_list, hl] at h; exact h : Calls Tryz.prog 31 #[.string (Txt v)] wz (LtP (xs, ex) wz)))
   have HM := Lib.hid (by rw [hdr, conV, hl] : conV (vs.drop k) = if ex ≠ 0 then (0, ex) else if (eleC xs).2 ≠ 0 then (0, (eleC xs).2) else ((eleC xs).1 + (conV (vs.drop (k + 1))).1, (conV (vs.drop (k + 1))).2))
   have HXs := Lib.hid (fun (x : List UInt8) (hx : x ∈ xs) => (by have h := HEl.out v (List.mem_of_getElem? hvk) x; rw [hl] at h; exact h hx : x.length ≤ 1048576))
   clear hvk hdr hl
   go_wp2_with fail
   refine (HLi.out _).mono ?_
   rintro e w3 ⟨vx, rfl, hox, hK3⟩
   dsimp only at hox ⊢
   have K3 := Lib.hid (K0.out.trans hK3)
   have O3 := Lib.hid (own_kp HO.out hK3 (by simp))
   have hsz3 := hK3.size
   obtain ⟨px, dx, rfl⟩ : ∃ p d, vx = .slice p xs.length d := by
    rcases hox.2 with ⟨h0, hz⟩ | ⟨g, cap, cur, hv2, _⟩
    ·exact ⟨none, 0, by rw [h0, hz]⟩
    ·exact ⟨_, cap, hv2⟩
   have HX := Lib.hid hox
   clear hox hK3 c0
   by_cases hex : ex = 0
   ·have bx : (ex != 0) = false := by rw [hex]; rfl
    have HM2 := Lib.hid (HM.out.trans (if_neg (fun h => h hex)))
    clear hex
    obtain ⟨U, hU⟩ : ∃ U, eleC xs = U := ⟨_, rfl⟩
    rw [hU] at HM2
    have HU := Lib.hid hU
    clear hU HM
    have hpg : ∀ g, px = some ⟨g, 0, none⟩ → xs.length ≠ 0 → (wr.heap.size ≤ g ∧ g < w3.heap.size ∧ ∀ (j : Nat) x, xs[j]? = some x → w3.cell? ⟨g, j, none⟩ = some (.string (Txt x))) := by
     intro g hg hne
     subst hg
     refine ⟨(HX.out.lt g rfl).1, (HX.out.lt g rfl).2, fun j x hj => ?_⟩
     rw [HX.out.cellAt j (by have := (List.getElem?_eq_some_iff.1 hj).1; omega)]
     unfold tkc
     rw [List.getElem?_map, hj]; rfl
    have hpx : xs.length = 0 ∨ ∃ g, px = some ⟨g, 0, none⟩ := by
     rcases HX.out.2 with ⟨_, hz⟩ | ⟨g, cap, cur, hv2, _⟩
     ·exact .inl hz
     ·injection hv2 with h1 h2 h3; exact .inr ⟨g, h1⟩
    have HPg := Lib.hid hpg
    have HPx := Lib.hid hpx
    have hpn : ∀ g, px = some ⟨g, 0, none⟩ → xs.length ≠ 0 → (Value.slice p n d).ownBlock ≠ some g := by
     intro g hg hne h
     have h2 := (HPg.out g hg hne).1
     have h3 := (HO.out.lt g h).2
     omega
    have HPn := Lib.hid hpn
    clear hpg hpx hpn
    go_wp2_with fail
    go_loopw [39, 3] (fun i l wi => ∃ (j m : Nat) (q : Option Addr) (d2 : Nat) (cs2 : List Value), j ≤ xs.length ∧ i = .int .i64 j ∧ l = .slice q m d2 ∧ wi.ownsRow w.heap.size 26 8 (.slice q m d2) m cs2 ∧ Kp [] w wi ∧ w3.heap.size ≤ wi.heap.size ∧ m ≤ n + j ∧ (∀ g, px = some ⟨g, 0, none⟩ → xs.length ≠ 0 → (Value.slice q m d2).ownBlock ≠ some g ∧ ∀ (j : Nat) x, xs[j]? = some x → wi.cell? ⟨g, j, none⟩ = some (.string (Txt x))) ∧ U.2 = (eleC (xs.drop j)).2 ∧ (U.2 = 0 → n + U.1 = m + (eleC (xs.drop j)).1)) (fun i _ _ => xs.length - (intOf i).toNat)
    case atStart => exact ⟨0, n, p, d, cs, by omega, rfl, rfl, O3.out, K3.out, Nat.le_refl _, by omega, fun g hg hne => ⟨HPn.out g hg hne, (HPg.out g hg hne).2.2⟩, by rw [List.drop_zero, HU.out], fun _ => by rw [List.drop_zero, HU.out]⟩
    case round =>
     obtain ⟨j, m, q, d2, cs2, hj, rfl, rfl, hown, hK, hszi, hm, hg2, hU2, hU1⟩ := hrel
     have HOi := Lib.hid hown
     have Ki := Lib.hid hK
     have HG := Lib.hid hg2
     have HU2 := Lib.hid hU2
     have HU1 := Lib.hid hU1
     clear hown hK hg2 hU2 hU1
     by_cases hlt2 : j < xs.length
     ·obtain ⟨x, hxj⟩ : ∃ x, xs[j]? = some x := ⟨xs[j], List.getElem?_eq_getElem hlt2⟩
      have hdr : xs.drop j = x :: xs.drop (j + 1) := by
       obtain ⟨h1, h2⟩ := List.getElem?_eq_some_iff.1 hxj
       rw [← h2]; exact List.drop_eq_getElem_cons h1
      obtain ⟨g, rfl⟩ : ∃ g, px = some ⟨g, 0, none⟩ := by
       rcases HPx.out with h0 | h0
       ·omega
       ·exact h0
      obtain ⟨hgn, hgc⟩ := HG.out g rfl (by omega)
      have hglt := (HPg.out g rfl (by omega)).2.1
      have c1 := hgc j x hxj
      have hxl2 := HXs.out x (List.mem_of_getElem? hxj)
      obtain ⟨a, ea, hr⟩ : ∃ a e, ((adrR (trS x)).1, (adrR (trS x)).2.2) = (a, e) := ⟨_, _, rfl⟩
      have HA := Lib.hid (fun wz (h : Env wz) => (by have h2 := haddress_any (Txt x) wz (by rw [txt_size]; omega) h; rw [txt_list, hr] at h2; exact h2 : Calls Tryz.prog 34 #[.string (Txt x)] wz (AdE (a, ea) wz)))
      have hee : (adrR (trS x)).2.2 = ea := by injection hr
      have HL := Lib.hid (by rw [hdr, eleC, hee] : eleC (xs.drop j) = if ea ≠ 0 then (0, ea) else ((eleC (xs.drop (j + 1))).1 + 1, (eleC (xs.drop (j + 1))).2))
      have HGn := Lib.hid hgn
      have HGc := Lib.hid hgc
      clear hxj hdr hr hee hgn hgc
      go_wp2_with fail
      refine (HA.out _ (HE.out.kp Ki.out (by simp))).mono ?_
      rintro e w4 ⟨va, rfl, hva, hK4⟩
      obtain ⟨vp, vh, vq, rfl, q1, q2, q3⟩ := hva
      obtain ⟨A1, C1, rfl⟩ := q1.form
      obtain ⟨A2, C2, rfl⟩ := q2.form
      obtain ⟨A3, C3, rfl⟩ := q3.form
      clear q1 q2 q3
      dsimp only
      obtain ⟨D, hD⟩ : ∃ S, Txt a.display = S := ⟨_, rfl⟩
      obtain ⟨S, hS⟩ : ∃ S, Txt a.uri.scheme = S := ⟨_, rfl⟩
      obtain ⟨V, hV⟩ : ∃ S, Txt a.uri.user = S := ⟨_, rfl⟩
      obtain ⟨H, hH⟩ : ∃ S, Txt a.uri.host = S := ⟨_, rfl⟩
      obtain ⟨P, hP⟩ : ∃ S, a.uri.port = S := ⟨_, rfl⟩
      obtain ⟨n1, hn1⟩ : ∃ S, a.uri.params.length = S := ⟨_, rfl⟩
      obtain ⟨n2, hn2⟩ : ∃ S, a.uri.heads.length = S := ⟨_, rfl⟩
      obtain ⟨n3, hn3⟩ : ∃ S, a.params.length = S := ⟨_, rfl⟩
      rw [hD, hS, hV, hH, hP, hn1, hn2, hn3]
      clear hD hS hV hH hP hn1 hn2 hn3
      obtain ⟨y, hy⟩ : ∃ x, w4.heap.size = x := ⟨_, rfl⟩
      obtain ⟨w5, hw5⟩ : ∃ x, w4.alloc (.cells #[.string D, .string S, .string V, .string H, .int .i64 P, .slice A1 n1 C1, .slice A2 n2 C2, .slice A3 n3 C3] 26) = x := ⟨_, rfl⟩
      have hKa : Kp [] w4 w5 := by rw [← hw5]; exact (Kp.refl _ _).alloc _
      have hK5 := hK4.trans hKa
      have K5 := Lib.hid (Ki.out.trans hK5)
      have O5 := Lib.hid (own_kp HOi.out hK5 (by simp))
      have B5 := Lib.hid (show Blk w5 y 26 #[.string D, .string S, .string V, .string H, .int .i64 P, .slice A1 n1 C1, .slice A2 n2 C2, .slice A3 n3 C3] from by rw [← hw5, ← hy]; exact Blk.new w4 _ _)
      have hsz5 := hK5.size
      have HGc5 := Lib.hid (fun (j : Nat) x (h : xs[j]? = some x) => (hK5.cell (p := ⟨g, j, none⟩) (show g < _ by omega) (by simp)).trans (HGc.out j x h))
      clear hK4 hKa hK5 c1
      by_cases hea : ea = 0
      ·have be : (ea != 0) = false := by rw [hea]; rfl
       have HL2 := Lib.hid (HL.out.trans (if_neg (fun h => h hea)))
       clear hea
       go_upto_region 15 with fail
       try rw [hw5]
       have u0 := B5.out.cell 0
       have u1 := B5.out.cell 1
       have u2 := B5.out.cell 2
       have u3 := B5.out.cell 3
       have u4 := B5.out.cell 4
       have u5 := B5.out.cell 5
       have u6 := B5.out.cell 6
       have u7 := B5.out.cell 7
       go_wp2_with (at_builtin; refine wpList_append_own_at _ rfl _ _ 65 rfl w.heap.size 26 i0 (.agg #[.string .empty, .string .empty, .string .empty, .string .empty, .int .i64 0, .slice none 0 0, .slice none 0 0, .slice none 0 0]) 8 144 Tryz.underlying65 hi hz0 hz1 hz2 rfl (by decide) _ _ _ rfl (O5.out.alloc _) ⟨w5.heap.size, 0, none⟩ 1 1 [.string D, .string S, .string V, .string H, .int .i64 P, .slice A1 n1 C1, .slice A2 n2 C2, .slice A3 n3 C3] rfl rfl (cell_eight_new _ _ _ _ _ _ _ _ _ _) (by simp [Value.oneCell']) ?c3 ?c4 ?c5 ?_)
       case c3 => have := HN.out; unfold maxLen; omega
       case c4 => have := HN.out; omega
       case c5 => have := K5.out.size; simp; omega
       intro v' w7 hown' hgrow _ hob
       have K7 := Lib.hid ((K5.out.alloc (.cells #[.string D, .string S, .string V, .string H, .int .i64 P, .slice A1 n1 C1, .slice A2 n2 C2, .slice A3 n3 C3] 26)).grown hgrow (fun g hg => .inr (O5.out.lt g hg).1))
       obtain ⟨q7, d7, rfl⟩ : ∃ p c, v' = .slice p (m + 1) c := by
        rcases hown'.2 with ⟨hv, hz⟩ | ⟨g, cap, cur, hv, _⟩
        ·exact absurd hz (by omega)
        ·exact ⟨_, cap, hv⟩
       have HO7 := Lib.hid hown'
       have hsz7 := hgrow.size
       have hal : w5.heap.size ≤ (w5.alloc (.cells #[.string D, .string S, .string V, .string H, .int .i64 P, .slice A1 n1 C1, .slice A2 n2 C2, .slice A3 n3 C3] 26)).heap.size := by simp
       have hg7 : (Value.slice q7 (m + 1) d7).ownBlock ≠ some g ∧ ∀ (j : Nat) x, xs[j]? = some x → w7.cell? ⟨g, j, none⟩ = some (.string (Txt x)) := by
        refine ⟨?_, fun j x hj => ?_⟩
        ·rcases hob with h | h
         ·rw [h]; exact HGn.out
         ·rw [h]; intro h2; injection h2 with h2; omega
        ·exact hgrow.cell (((Kp.refl [] w5).alloc _).cell (p := ⟨g, j, none⟩) (show g < _ by omega) (by simp) |>.trans (HGc5.out j x hj)) (fun h => HGn.out h.symm)
       have HG7 := Lib.hid hg7
       clear hown' hgrow hob hg7
       go_wp2_with fail
       go_roundw
       case rel => exact ⟨j + 1, m + 1, q7, d7, _, by omega, by go_num, rfl, HO7.out, K7.out, by omega, by omega, fun g2 h2 _ => by injection h2 with h2; injection h2 with h2; subst h2; exact HG7.out, by rw [HU2.out, HL2.out], fun h => by rw [HU1.out h, HL2.out]; omega⟩
       case measure => simp [intOf]; omega
      ·have be : (ea != 0) = true := by rw [bne_iff_ne]; exact hea
       have HF := Lib.hid (by
        have h := HU2.out
        rw [HL.out, if_pos hea] at h
        have h3 := HT2.out
        rw [HM2.out, if_pos (by rw [h]; exact hea)] at h3
        unfold conT
        rw [if_pos (by rw [h3]; show U.2 ≠ 0; rw [h]; exact hea), h3, h] : conT T = (false, 0, ea))
       clear hea
       go_upto_region 14 with fail
       try rw [hw5]
       go_wp2_with fail
       go_ret3
       unfold CoE
       rw [HF.out]
       exact ⟨none, 0, rfl, K5.out⟩
     ·have hje : j = xs.length := by omega
      have hU0 : U.2 = 0 := by rw [HU2.out, hje, List.drop_length]; rfl
      have hUn : n + U.1 = m := by rw [HU1.out hU0, hje, List.drop_length]; rfl
      have HM3 := Lib.hid (HM2.out.trans (if_neg (fun h => h hU0)))
      clear hU0
      have hm2 : m ≤ (k + 1) * 1048577 := by have := HN.out; omega
      go_wp2_with fail
      go_roundw
      case rel => exact ⟨k + 1, m, q, d2, cs2, by omega, by go_num, rfl, HOi.out, Ki.out, hm2, by rw [HT2.out, HM3.out], fun h => by rw [HT1.out h, HM3.out]; show n + (U.1 + _) = _; omega⟩
      case measure => simp [intOf]; omega
   ·have bx : (ex != 0) = true := by rw [bne_iff_ne]; exact hex
    have HF := Lib.hid (by
     have h := HT2.out
     rw [HM.out, if_pos hex] at h
     unfold conT
     rw [if_pos (by rw [h]; exact hex), h] : conT T = (false, 0, ex))
    clear hex
    go_wp2_with fail
    go_ret3
    unfold CoE
    rw [HF.out]
    exact ⟨none, 0, rfl, K3.out⟩
  ·have hke : k = vs.length := by omega
   have hT0 : T.2 = 0 := by rw [HT2.out, hke, List.drop_length]; rfl
   have hTn : T.1 = n := by rw [HT1.out hT0, hke, List.drop_length]; rfl
   have HF := Lib.hid (by unfold conT; rw [if_neg (fun h => h hT0), hTn] : conT T = (false, n, 0))
   clear hke hT0 hTn
   go_wp2_with fail
   go_ret3
   unfold CoE
   rw [HF.out]
   exact ⟨p, d, rfl, K0.out⟩
end Ad
end Go.Proofs.YtmmjfofdnpafkaaGreatDoor
