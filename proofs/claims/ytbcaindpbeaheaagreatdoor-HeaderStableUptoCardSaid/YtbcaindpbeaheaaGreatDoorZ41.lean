/- Texts of one set of library modules: AdEv. -/
import Derived.Test.YtbcaindpbeaheaaGreatDoorZ40
import Derived.Test.YtbcaindpbeaheaaGreatDoorZ8
import Derived.Test.YtbcaindpbeaheaaGreatDoorRows
import Derived.Lib.LaidTab
namespace Go.Proofs.YtbcaindpbeaheaaGreatDoor
namespace Ad
open Go.RowKit Lx
theorem cells_of_texts {H : Type} {enc : TypeId × Value → H} {P : Program} {w : World} {base : Nat} {sp : Nat → Bool} {held : Bool} {fuel : Nat} {t e : TypeId} {n : Nat} {cs : List Value} {zs : List (List UInt8)} {p : List MemPlace}
   (ht : P.underlying t = some (.array n e)) (he : P.underlying e = some .string) (hce : P.cellsOf e = 1)
   (h : DataW.trod enc P w base sp held fuel t cs = some (.agg (zs.map fun z => .lit (.string z)), p)) (i : Nat) (hi : i < zs.length) : cs[i]? = some (.string ⟨(zs.getD i []).toArray⟩) := by
 cases fuel with
 | zero => simp [DataW.trod] at h
 | succ fuel =>
   simp only [DataW.trod, ht, hce, Nat.mul_one] at h
   split at h
   ·obtain ⟨xs, hm, hx⟩ := Option.map_eq_some_iff.1 h
    have hxs : xs.map (·.1) = zs.map fun z => (DataW.lit (.string z) : DataW H) := by
     have := congrArg Prod.fst hx
     simpa using this
    have hxl : xs.length = n := by simpa using Lib.mapM_length hm
    have hzl : zs.length = n := by
     have := congrArg List.length hxs
     simp at this
     omega
    have hin : i < n := by omega
    obtain ⟨b, hb, hf⟩ := Lib.mapM_at hm i i (by simp [hin])
    obtain ⟨z, hc, hz, _⟩ := DataW.trod_string he hf
    have h1 : cs[i]? = some (.string z) := by
     have := congrArg (·[0]?) hc
     simpa [List.getElem?_take, List.getElem?_drop] using this
    have h2 : (xs.map (·.1))[i]? = (zs.map fun z => (DataW.lit (.string z) : DataW H))[i]? := by rw [hxs]
    rw [List.getElem?_map, hb, List.getElem?_map, List.getElem?_eq_getElem hi] at h2
    simp only [Option.map_some, Option.some.injEq] at h2
    rw [hz] at h2
    have h3 : z.data.toList = zs[i] := by simpa using h2
    have h4 : zs.getD i [] = zs[i] := by simp [List.getD, List.getElem?_eq_getElem hi]
    rw [h1, h4, ← h3]
   ·cases h
def laid : List (String × DataW Unit) := [("math/bits.deBruijn32tab", Rows.laid_math_bits_deBruijn32tab), ("math/bits.deBruijn64tab", Rows.laid_math_bits_deBruijn64tab), ("internal/strconv.uint64pow10", Rows.laid_internal_strconv_uint64pow10), ("unicode/utf8.acceptRanges", Rows.laid_unicode_utf8_acceptRanges), ("dialtone/address.classes", Rows.laid_dialtone_address_classes), ("unicode/utf8.first", Rows.laid_unicode_utf8_first)]
end Ad
end Go.Proofs.YtbcaindpbeaheaaGreatDoor
