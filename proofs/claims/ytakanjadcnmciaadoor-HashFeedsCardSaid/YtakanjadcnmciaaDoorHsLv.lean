/- Contract of the laws' closed examples (layer 6): they hold. The table of constants holds what the program's text says. -/
import Derived.Test.YtakanjadcnmciaaDoorHsPj
namespace Go.Proofs.YtakanjadcnmciaaDoor
namespace Hs
open Go.RowKit Ad

def abcH : ByteArray := ⟨[98, 97, 55, 56, 49, 54, 98, 102, 56, 102, 48, 49, 99, 102, 101, 97, 52, 49, 52, 49, 52, 48, 100, 101, 53, 100, 97, 101, 50, 50, 50, 51, 98, 48, 48, 51, 54, 49, 97, 51, 57, 54, 49, 55, 55, 97, 57, 99, 98, 52, 49, 48, 102, 102, 54, 49, 102, 50, 48, 48, 49, 53, 97, 100].toArray⟩
def BoK (b : Bool) (w : World) (e : Ending) (w' : World) : Prop := e = .returned (.bool b) ∧ Kp [] w w'
theorem own_kpn {w w' : World} {B : Nat} {t : TypeId} {k : Nat} {v : Value} {n : Nat} {xs : List Value} (h : w.ownsRow B t k v n xs) (K : Kp [] w w') : w'.ownsRow B t k v n xs := by
  refine ⟨h.1, ?_⟩
  rcases h.2 with h1 | ⟨g, cap, cur, h1, h2, h3, h4⟩
  · exact .inl h1
  · exact .inr ⟨g, cap, cur, h1, h2, (Blk.kp (show Blk w g t cur from h3) K (by simp)), h4⟩
set_option maxRecDepth 100000 in
set_option maxHeartbeats 1000000 in
theorem lives_any (w : World) (E : KE w) : Calls Tryd.prog 11 #[] w (BoK true w) := by
  have HE := Lib.hid E
  have HU := Lib.hid (fun wz => punhex_any ⟨#[48, 103]⟩ wz (by decide))
  have HT := Lib.hid (fun wz (Ez : KE wz) => ptext_any ⟨#[97, 98, 99]⟩ wz Ez (by decide))
  have hu : unhex [48, 103] = none := by decide +kernel
  have HUN := Lib.hid hu
  clear E hu
  go_enter Tryd.func11, Tryd.ntmps11
  go_wp2_with fail
  refine (HU.out _).mono ?_
  rintro e w1 ⟨v, rfl, hown, hB1⟩
  rw [show unhex (⟨#[48, 103]⟩ : ByteArray).data.toList = none from HUN.out]
  have HK1 := Lib.hid (kp_of_below hB1)
  clear hown hB1
  dsimp only [Option.isSome]
  go_wp2_with fail
  refine (HT.out _ (HE.out.kp HK1.out (by simp))).mono ?_
  rintro e w2 ⟨rfl, hK2⟩
  rw [show (hex (sum (⟨#[97, 98, 99]⟩ : ByteArray).data.toList)) = _ from sum_abc]
  have HK2 := Lib.hid (HK1.out.trans hK2)
  clear hK2
  go_wp2_with fail
  have hby : ByIn (w2.alloc (.cells #[.int .u8 0, .int .u8 10, .int .u8 255] 5)) (some ⟨w2.heap.size, 0, none⟩) [0, 10, 255] := .inr ⟨w2.heap.size, 0, rfl, by show w2.heap.size < (w2.heap.push _).size; simp, fun i c hi => by
    rw [Nat.zero_add, (Blk.new w2 5 #[.int .u8 0, .int .u8 10, .int .u8 255]).cell i]
    match i, hi with
    | 0, hi => cases hi; rfl
    | 1, hi => cases hi; rfl
    | 2, hi => cases hi; rfl⟩
  refine (phex_any [0, 10, 255] (some ⟨w2.heap.size, 0, none⟩) 3 _ hby (by decide)).mono ?_
  rintro e w3 ⟨rfl, hB3⟩
  rw [show hex [0, 10, 255] = [48, 48, 48, 97, 102, 102] from by decide +kernel]
  have HB3 := Lib.hid (((HK2.out.alloc _).trans (kp_of_below hB3)))
  clear hB3 hby
  go_wp2_with fail
  go_ret
  exact ⟨rfl, HB3.out⟩
end Hs
end Go.Proofs.YtakanjadcnmciaaDoor
