/- Texts of one set of library modules: HeEv. -/
import Derived.Test.YtbcaindpbeaheaaGreatDoorZ41
import Derived.Test.YtbcaindpbeaheaaGreatDoorZ20
namespace Go.Proofs.YtbcaindpbeaheaaGreatDoor
namespace Ad
open Go.RowKit Lx
theorem rows_of_arr {H : Type} {enc : TypeId × Value → H} {P : Program} {w : World} {base : Nat} {sp : Nat → Bool} {held : Bool} {fuel : Nat} {t e : TypeId} {n k : Nat} {cs : List Value} {ds : List (DataW H)} {p : List MemPlace}
   (ht : P.underlying t = some (.array n e)) (hk : P.cellsOf e = k)
   (h : DataW.trod enc P w base sp held fuel t cs = some (.agg ds, p)) : cs.length = P.cellsOf t ∧ ∀ i, i < n → ∃ m d q, ds[i]? = some d ∧ DataW.trod enc P w base sp held m e ((cs.drop (i * k)).take k) = some (d, q) := by
 cases fuel with
 | zero => simp [DataW.trod] at h
 | succ fuel =>
   simp only [DataW.trod, ht, hk] at h
   split at h
   ·rename_i hl
    obtain ⟨xs, hm, hx⟩ := Option.map_eq_some_iff.1 h
    refine ⟨hl, fun i hi => ?_⟩
    obtain ⟨b, hb, hf⟩ := Lib.mapM_at hm i i (by simp [hi])
    have hxs : xs.map (·.1) = ds := by
     have := congrArg Prod.fst hx
     simpa using this
    exact ⟨fuel, b.1, b.2, by rw [← hxs, List.getElem?_map, hb]; rfl, hf⟩
   ·cases h
theorem str_is {s : ByteArray} {l : List UInt8} (h : s.data.toList = l) : s = Txt l := by rw [← h, txt_self]
theorem seg_eq (n k : Nat) (A B : Array Value) (hA : A.size = n * k) (hB : B.size = n * k) (hk : 0 < k) (h : ∀ i, i < n → (A.toList.drop (i * k)).take k = (B.extract (i * k) (i * k + k)).toList) : A = B := by
 apply Array.ext (by rw [hA, hB])
 intro x hx hx2
 have hd : x / k < n := by rw [Nat.div_lt_iff_lt_mul hk]; omega
 have hm : x % k < k := Nat.mod_lt _ hk
 have e := h (x / k) hd
 have hx3 : x / k * k + x % k = x := by rw [Nat.mul_comm]; exact Nat.div_add_mod x k
 have e2 := congrArg (·[x % k]?) e
 simp only [Array.toList_extract, List.getElem?_take, List.getElem?_drop, hm, if_true, Array.getElem?_toList, hx3, List.extract] at e2
 rw [show x / k * k + k - x / k * k = k by omega] at e2
 simp only [hm, if_true] at e2
 rw [Array.getElem?_eq_getElem hx, Array.getElem?_eq_getElem hx2] at e2
 exact Option.some.inj e2
set_option maxRecDepth 100000 in
theorem kind_row {w : World} {base : Nat} {sp : Nat → Bool} {held : Bool} {fuel : Nat} {H : Type} {enc : TypeId × Value → H} {cs : List Value} {n : List UInt8} {k : Int} {m : Bool} {q : List MemPlace}
   (h : DataW.trod enc Tryz.prog w base sp held fuel 50 cs = some (.agg [.lit (.string n), .lit (.int .u8 k), .lit (.bool m)], q)) (hl : cs.length = 3) : cs = [.string (Txt n), .int .u8 k, .bool m] := by
 obtain ⟨xs, f, _, hx, _, hlen, hf⟩ := DataW.trod_struct Tryz.underlying50 h
 match xs, hlen with
 | [y0, y1, y2], _ =>
   simp only [Prod.mk.injEq, DataW.agg.injEq, List.map_cons, List.map_nil, List.cons.injEq, and_true] at hx
   obtain ⟨⟨e0, e1, e2⟩, _⟩ := hx
   match cs, hl with
   | [a, b, c], _ =>
     have h0 := hf 0 _ rfl;have h1 := hf 1 _ rfl;have h2 := hf 2 _ rfl
     simp only [List.getElem?_cons_zero, List.getElem?_cons_succ] at h0 h1 h2
     obtain ⟨s, hs, hy0, _⟩ := DataW.trod_string Tryz.underlying9 h0
     obtain ⟨z, hz, hy1, _⟩ := DataW.trod_int Tryz.underlying28 h1
     obtain ⟨o, ho, hy2⟩ := DataW.trod_bool Tryz.underlying4 h2
     rw [hy0] at e0
     rw [hy1] at e1
     rw [hy2] at e2
     simp only [DataW.lit.injEq, Lit.string.injEq, Lit.int.injEq, Lit.bool.injEq, true_and] at e0 e1 e2
     have ha : a = .string s := by have : [a] = [Value.string s] := hs; simpa using this
     have hb : b = .int .u8 z := by have : [b] = [Value.int .u8 z] := hz; simpa using this
     have hc : c = .bool o := by have : [c] = [Value.bool o] := ho; simpa using this
     rw [ha, hb, hc, ← e1, ← e2, str_is e0.symm]
set_option maxRecDepth 100000 in
theorem short_row {w : World} {base : Nat} {sp : Nat → Bool} {held : Bool} {fuel : Nat} {H : Type} {enc : TypeId × Value → H} {cs : List Value} {n m : List UInt8} {q : List MemPlace}
   (h : DataW.trod enc Tryz.prog w base sp held fuel 46 cs = some (.agg [.lit (.string n), .lit (.string m)], q)) (hl : cs.length = 2) : cs = [.string (Txt n), .string (Txt m)] := by
 obtain ⟨xs, f, _, hx, _, hlen, hf⟩ := DataW.trod_struct Tryz.underlying46 h
 match xs, hlen with
 | [y0, y1], _ =>
   simp only [Prod.mk.injEq, DataW.agg.injEq, List.map_cons, List.map_nil, List.cons.injEq, and_true] at hx
   obtain ⟨⟨e0, e1⟩, _⟩ := hx
   match cs, hl with
   | [a, b], _ =>
     have h0 := hf 0 _ rfl;have h1 := hf 1 _ rfl
     simp only [List.getElem?_cons_zero, List.getElem?_cons_succ] at h0 h1
     obtain ⟨s, hs, hy0, _⟩ := DataW.trod_string Tryz.underlying9 h0
     obtain ⟨z, hz, hy1, _⟩ := DataW.trod_string Tryz.underlying9 h1
     rw [hy0] at e0
     rw [hy1] at e1
     simp only [DataW.lit.injEq, Lit.string.injEq] at e0 e1
     have ha : a = .string s := by have : [a] = [Value.string s] := hs; simpa using this
     have hb : b = .string z := by have : [b] = [Value.string z] := hz; simpa using this
     rw [ha, hb, str_is e0.symm, str_is e1.symm]
theorem kind_data {H : Type} : (Rows.laid_dialtone_header_kinds : DataW H) = .agg (kindL.map fun x => .agg [.lit (.string x.1), .lit (.int .u8 x.2.1), .lit (.bool x.2.2)]) := rfl
theorem short_data {H : Type} : (Rows.laid_dialtone_header_shorts : DataW H) = .agg (shortL.map fun x => .agg [.lit (.string x.1), .lit (.string x.2)]) := rfl
theorem spec_data {H : Type} : (Rows.laid_dialtone_header_specials : DataW H) = .agg (specL.map fun z => .lit (.string z)) := rfl
theorem kind_cells {H : Type} {enc : TypeId × Value → H} {w : World} {base : Nat} {sp : Nat → Bool} {held : Bool} {fuel : Nat} {cs : Array Value} {p : List MemPlace}
   (h : DataW.trod enc Tryz.prog w base sp held fuel 51 cs.toList = some (Rows.laid_dialtone_header_kinds, p)) : cs = kindCells := by
 rw [kind_data] at h
 obtain ⟨hl, hr⟩ := rows_of_arr (k := 3) Tryz.underlying51 (by kernel_rfl) h
 have hl3 : cs.size = 31 * 3 := by rw [← Array.length_toList, hl]; kernel_rfl
 refine seg_eq 31 3 cs kindCells hl3 rfl (by decide) fun i hi => ?_
 obtain ⟨n, k, m, hk, he⟩ := kind_at i hi
 rw [he]
 obtain ⟨f, d, q, hd, ht⟩ := hr i hi
 rw [List.getElem?_map, hk] at hd
 simp only [Option.map_some, Option.some.injEq] at hd
 subst hd
 exact kind_row ht (by rw [List.length_take, List.length_drop, Array.length_toList, hl3]; omega)
theorem short_cells {H : Type} {enc : TypeId × Value → H} {w : World} {base : Nat} {sp : Nat → Bool} {held : Bool} {fuel : Nat} {cs : Array Value} {p : List MemPlace}
   (h : DataW.trod enc Tryz.prog w base sp held fuel 47 cs.toList = some (Rows.laid_dialtone_header_shorts, p)) : cs = shortCells := by
 rw [short_data] at h
 obtain ⟨hl, hr⟩ := rows_of_arr (k := 2) Tryz.underlying47 (by kernel_rfl) h
 have hl3 : cs.size = 15 * 2 := by rw [← Array.length_toList, hl]; kernel_rfl
 refine seg_eq 15 2 cs shortCells hl3 rfl (by decide) fun i hi => ?_
 obtain ⟨n, m, hk, he⟩ := short_at i hi
 rw [he]
 obtain ⟨f, d, q, hd, ht⟩ := hr i hi
 rw [List.getElem?_map, hk] at hd
 simp only [Option.map_some, Option.some.injEq] at hd
 subst hd
 exact short_row ht (by rw [List.length_take, List.length_drop, Array.length_toList, hl3]; omega)
theorem spec_cells {H : Type} {enc : TypeId × Value → H} {w : World} {base : Nat} {sp : Nat → Bool} {held : Bool} {fuel : Nat} {cs : Array Value} {p : List MemPlace}
   (h : DataW.trod enc Tryz.prog w base sp held fuel 48 cs.toList = some (Rows.laid_dialtone_header_specials, p)) : cs = specCells := by
 rw [spec_data] at h
 obtain ⟨hl, hr⟩ := rows_of_arr (k := 1) Tryz.underlying48 (by kernel_rfl) h
 have hl3 : cs.size = 7 := by rw [← Array.length_toList, hl]; kernel_rfl
 have hc := fun i hi => cells_of_texts (zs := specL) Tryz.underlying48 Tryz.underlying9 (by kernel_rfl) h i hi
 apply Array.ext (by rw [hl3]; rfl)
 intro i h1 h2
 obtain ⟨a, ha, hb, _⟩ := spec_at i (by omega)
 have hi := hc i (by rw [show specL.length = 7 from rfl]; omega)
 rw [Array.getElem?_toList] at hi
 have e : specCells[i]? = cs[i]? := by
  rw [hb, hi]
  congr 2
  rw [List.getD_eq_getElem?_getD, ha]; rfl
 rw [Array.getElem?_eq_getElem h1, Array.getElem?_eq_getElem h2] at e
 exact (Option.some.inj e).symm
theorem row_of_var {P : Program} {W : World} {name : String} {g : Nat} {cs : Array Value} (hg : P.globalNamed name = some g) (h : W.var? P name = some cs) : ∃ t fr, W.heap[g]? = some (.cells cs t fr) := by
 unfold World.var? at h
 rw [hg] at h
 simp only [Option.bind_some] at h
 split at h
 ·rename_i c t fr he
  exact ⟨t, fr, by rw [he, Option.some.inj h]⟩
 ·cases h
def laidH : List (String × DataW Unit) := [("math/bits.deBruijn32tab", Rows.laid_math_bits_deBruijn32tab), ("math/bits.deBruijn64tab", Rows.laid_math_bits_deBruijn64tab), ("internal/strconv.uint64pow10", Rows.laid_internal_strconv_uint64pow10), ("unicode/utf8.acceptRanges", Rows.laid_unicode_utf8_acceptRanges), ("dialtone/address.classes", Rows.laid_dialtone_address_classes), ("dialtone/header.kinds", Rows.laid_dialtone_header_kinds), ("dialtone/header.shorts", Rows.laid_dialtone_header_shorts), ("dialtone/header.specials", Rows.laid_dialtone_header_specials), ("unicode/utf8.first", Rows.laid_unicode_utf8_first)]
theorem henv_of {W : World} (hL : laidMetH Tryz.prog laidH W) (hsh : W.ShapedOpen Tryz.prog) : HEnv W := by
 rw [MakeChecks.laidMetH_plain _ _ _ (by kernel_rfl)] at hL
 obtain ⟨ps, hL, _⟩ := hL
 obtain ⟨_, _, _, _, _, _, _, _, _, _, hL, _⟩ := hL
 obtain ⟨g6, _, _, _, _, _, hg6, _, hv6, _, hL, _⟩ := hL
 obtain rfl := Option.some.inj ((show Tryz.prog.globalNamed "math/bits.deBruijn64tab" = some 9 by kernel_rfl).symm.trans hg6)
 obtain ⟨g, t, cs, fuel, p, q, hg, hty, hvar, hd, hL, _⟩ := hL
 have htab : Lib.TabIs Tryz.prog W "internal/strconv.uint64pow10" .u64 Lib.pow10Tab := by
  obtain rfl := Option.some.inj ((show (Tryz.prog.globals[5]?).map (·.type) = some 249 by kernel_rfl).symm.trans (by rw [Option.some.inj ((show Tryz.prog.globalNamed "internal/strconv.uint64pow10" = some 5 by kernel_rfl).symm.trans hg)]; exact hty))
  unfold Lib.TabIs
  rw [hvar, ← Lib.cells_of_tab (n := 20) Tryz.underlying249 Tryz.underlying212 (by kernel_rfl) (by kernel_rfl) hd]
 clear hg hty hvar hd
 obtain ⟨_, _, _, _, _, _, _, _, _, _, hL, _⟩ := hL
 obtain ⟨g, t, cs, fuel, p, q, hg, hty, hvar, hd, hL, _⟩ := hL
 have hgc : Tryz.prog.globalNamed "dialtone/address.classes" = some 4 := by kernel_rfl
 obtain rfl := Option.some.inj (hgc.symm.trans hg)
 obtain rfl := Option.some.inj ((show (Tryz.prog.globals[4]?).map (·.type) = some 231 by kernel_rfl).symm.trans hty)
 have hc := fun i hi => cells_of_texts (zs := [[38, 61, 43, 36, 44, 59, 63, 47], [91, 93, 47, 58, 38, 43, 36], [91, 93, 47, 63, 58, 43, 36]]) Tryz.underlying231 Tryz.underlying9 (by kernel_rfl) hd i hi
 have cell : ∀ i, W.cell? ⟨4, i, none⟩ = cs[i]? := fun i => World.var?_cell hgc hvar i
 clear hg hty hvar hd
 obtain ⟨gk, tk, ck, fk, pk, qk, hgk, htk, hvk, hdk, hL, _⟩ := hL
 obtain ⟨gs, ts, ch, fs, ph, qs, hgs, hts, hvs, hds, hL, _⟩ := hL
 obtain ⟨gp, tp, cp, fp, pp, qp, hgp, htp, hvp, hdp, hL, _⟩ := hL
 obtain rfl := Option.some.inj ((show Tryz.prog.globalNamed "dialtone/header.kinds" = some 2 by kernel_rfl).symm.trans hgk)
 obtain rfl := Option.some.inj ((show Tryz.prog.globalNamed "dialtone/header.shorts" = some 0 by kernel_rfl).symm.trans hgs)
 obtain rfl := Option.some.inj ((show Tryz.prog.globalNamed "dialtone/header.specials" = some 1 by kernel_rfl).symm.trans hgp)
 obtain rfl := Option.some.inj ((show (Tryz.prog.globals[2]?).map (·.type) = some 51 by kernel_rfl).symm.trans htk)
 obtain rfl := Option.some.inj ((show (Tryz.prog.globals[0]?).map (·.type) = some 47 by kernel_rfl).symm.trans hts)
 obtain rfl := Option.some.inj ((show (Tryz.prog.globals[1]?).map (·.type) = some 48 by kernel_rfl).symm.trans htp)
 have hKd := row_of_var hgk hvk;have hSh := row_of_var hgs hvs;have hSp := row_of_var hgp hvp
 rw [kind_cells hdk] at hKd
 rw [short_cells hds] at hSh
 rw [spec_cells hdp] at hSp
 obtain ⟨m, hm⟩ := maxLenCell hsh
 refine ⟨⟨?_, ?_, ?_, ⟨m, hm⟩, htab, ?_⟩, hKd, hSh, hSp⟩
 ·rw [cell 0, ← Array.getElem?_toList]; exact hc 0 (by decide)
 ·rw [cell 1, ← Array.getElem?_toList]; exact hc 1 (by decide)
 ·rw [cell 2, ← Array.getElem?_toList]; exact hc 2 (by decide)
 ·unfold World.var? at hv6
  rw [hg6] at hv6
  simp only [Option.bind_some] at hv6
  cases h : W.heap[9]? with
  | none => rw [h] at hv6; cases hv6
  | some o => have := lt_of_some h; omega
end Ad
end Go.Proofs.YtbcaindpbeaheaaGreatDoor
