/- Contracts of the reference's kinds of headers (dialtoneref03): Kind. A text has at most 2^20 bytes. -/
import Derived.Test.YtonbkedjlbhpfaaGreatDoorHeM
namespace Go.Proofs.YtonbkedjlbhpfaaGreatDoor
namespace Ad
open Go.RowKit Lx

def adrL : List (List UInt8) := [[70, 114, 111, 109], [84, 111], [67, 111, 110, 116, 97, 99, 116], [82, 111, 117, 116, 101], [82, 101, 99, 111, 114, 100, 45, 82, 111, 117, 116, 101], [80, 97, 116, 104], [83, 101, 114, 118, 105, 99, 101, 45, 82, 111, 117, 116, 101], [82, 101, 102, 101, 114, 45, 84, 111], [82, 101, 102, 101, 114, 114, 101, 100, 45, 66, 121], [82, 101, 112, 108, 121, 45, 84, 111]]
def nmL : List (List UInt8) := [[67, 111, 110, 116, 101, 110, 116, 45, 76, 101, 110, 103, 116, 104], [69, 120, 112, 105, 114, 101, 115], [77, 97, 120, 45, 70, 111, 114, 119, 97, 114, 100, 115], [77, 105, 110, 45, 69, 120, 112, 105, 114, 101, 115], [82, 83, 101, 113]]
def itL : List (List UInt8) := [[67, 111, 110, 116, 101, 110, 116, 45, 68, 105, 115, 112, 111, 115, 105, 116, 105, 111, 110], [67, 111, 110, 116, 101, 110, 116, 45, 84, 121, 112, 101], [69, 118, 101, 110, 116], [77, 105, 110, 45, 83, 69], [83, 101, 115, 115, 105, 111, 110, 45, 69, 120, 112, 105, 114, 101, 115], [83, 117, 98, 115, 99, 114, 105, 112, 116, 105, 111, 110, 45, 83, 116, 97, 116, 101]]
def tkL : List (List UInt8) := [[65, 99, 99, 101, 112, 116], [65, 108, 108, 111, 119], [65, 108, 108, 111, 119, 45, 69, 118, 101, 110, 116, 115], [80, 114, 111, 120, 121, 45, 82, 101, 113, 117, 105, 114, 101], [82, 101, 113, 117, 105, 114, 101], [83, 117, 112, 112, 111, 114, 116, 101, 100], [85, 110, 115, 117, 112, 112, 111, 114, 116, 101, 100]]
def sixL : List (List UInt8) := [[67, 111, 110, 116, 97, 99, 116], [80, 97, 116, 104], [82, 101, 99, 111, 114, 100, 45, 82, 111, 117, 116, 101], [82, 111, 117, 116, 101], [83, 101, 114, 118, 105, 99, 101, 45, 82, 111, 117, 116, 101], [86, 105, 97]]
def rkindR (l : List UInt8) : Int :=
  if adrL.any (· == l) = true then 1 else if (l == [86, 105, 97]) = true then 2 else if (l == [67, 83, 101, 113]) = true then 3 else if (l == [82, 65, 99, 107]) = true then 4
  else if nmL.any (· == l) = true then 5 else if itL.any (· == l) = true then 6 else if tkL.any (· == l) = true then 7 else 0
theorem kinds_are : (kindL.all fun p => decide (((rkindR p.1 == 7) || sixL.any (· == p.1)) = (kindR p.1).2)) = true := by decide +kernel
theorem any_names (ss : List (List UInt8)) (h : (ss.all fun z => kindL.any fun p => p.1 == z) = true) (l : List UInt8) (hl : (kindL.any fun p => p.1 == l) = false) : ss.any (· == l) = false := by
  cases hb : ss.any (· == l)
  · rfl
  · obtain ⟨z, hz, hzl⟩ := List.any_eq_true.1 hb
    have h1 := List.all_eq_true.1 h z hz
    rw [beq_iff_eq] at hzl
    rw [hzl, hl] at h1
    exact absurd h1 (by decide)
/-- What the reference says of a name is what the table says of it. -/
theorem rmany_is (l : List UInt8) : ((rkindR l == 7) || sixL.any (· == l)) = (kindR l).2 := by
  cases hl : kindL.any fun p => p.1 == l
  · have e1 := any_names adrL (by decide +kernel) l hl
    have e2 := any_names nmL (by decide +kernel) l hl
    have e3 := any_names itL (by decide +kernel) l hl
    have e4 := any_names tkL (by decide +kernel) l hl
    have e5 := any_names sixL (by decide +kernel) l hl
    have e6 := any_names [[86, 105, 97]] (by decide +kernel) l hl
    have e7 := any_names [[67, 83, 101, 113]] (by decide +kernel) l hl
    have e8 := any_names [[82, 65, 99, 107]] (by decide +kernel) l hl
    simp only [List.any_cons, List.any_nil, Bool.or_false] at e6 e7 e8
    have sym : ∀ a : List UInt8, (a == l) = false → (l == a) = false := fun a h => by rw [beq_eq_false_iff_ne] at h ⊢; exact fun hh => h hh.symm
    have hk : kindR l = (0, false) := by
      unfold kindR
      have : kindL.find? (fun p => p.1 == l) = none := by
        rw [List.find?_eq_none]
        intro p hp hh
        have := List.any_eq_false.1 hl p hp
        exact this hh
      rw [this]; rfl
    unfold rkindR
    rw [e1, e2, e3, e4, e5, sym _ e6, sym _ e7, sym _ e8, hk]
    rfl
  · obtain ⟨p, hp, hpl⟩ := List.any_eq_true.1 hl
    rw [beq_iff_eq] at hpl
    have := List.all_eq_true.1 kinds_are p hp
    rw [hpl] at this
    exact of_decide_eq_true this
/-- among of a slice just made. -/
theorem ramK (ss : List (List UInt8)) (s : ByteArray) (l : List UInt8) (hs : s = Txt l) (n : Nat) (hn : ss.length = n) (hn2 : n ≤ 1000) (A : Array Value) (hA : A = (tkc ss).toArray) (r : Bool) (hr : ss.any (· == l) = r) (w : World) :
    Calls Tryz.prog 94 #[.string s, .slice (some ⟨w.heap.size, 0, none⟩) n n] (w.alloc (.cells A 9)) (BoK r (w.alloc (.cells A 9))) := by
  subst hA hr hs
  refine ramong_any w.heap.size n ss l n _ hn hn2 (Nat.le_refl _) fun i z hz => ?_
  rw [(Blk.new w 9 (tkc ss).toArray).cell i]
  unfold tkc
  rw [List.getElem?_toArray, List.getElem?_map, hz]
  rfl
def IntP (x : Int) (w : World) (e : Ending) (w' : World) : Prop := e = .returned (.int .i64 x) ∧ Kp [] w w'
set_option maxRecDepth 100000 in
set_option maxHeartbeats 4000000 in
theorem rkind_any (s : ByteArray) (l : List UInt8) (hs : s = Txt l) (w : World) :
    Calls Tryz.prog 93 #[.string s] w (IntP (rkindR l) w) := by
  obtain ⟨b1, hb1⟩ : ∃ b, adrL.any (· == l) = b := ⟨_, rfl⟩
  obtain ⟨b2, hb2⟩ : ∃ b, (l == [86, 105, 97]) = b := ⟨_, rfl⟩
  obtain ⟨b3, hb3⟩ : ∃ b, (l == [67, 83, 101, 113]) = b := ⟨_, rfl⟩
  obtain ⟨b4, hb4⟩ : ∃ b, (l == [82, 65, 99, 107]) = b := ⟨_, rfl⟩
  obtain ⟨b5, hb5⟩ : ∃ b, nmL.any (· == l) = b := ⟨_, rfl⟩
  obtain ⟨b6, hb6⟩ : ∃ b, itL.any (· == l) = b := ⟨_, rfl⟩
  obtain ⟨b7, hb7⟩ : ∃ b, tkL.any (· == l) = b := ⟨_, rfl⟩
  have HV := Lib.hid (by unfold rkindR; rw [hb1, hb2, hb3, hb4, hb5, hb6, hb7] : rkindR l = if b1 = true then 1 else if b2 = true then 2 else if b3 = true then 3 else if b4 = true then 4 else if b5 = true then 5 else if b6 = true then 6 else if b7 = true then 7 else 0)
  have hsl : s.toList = l := by rw [hs]; rw [Lib.toList_data, txt_list]
  have c2 : (s.toList == [86, 105, 97]) = b2 := by rw [hsl]; exact hb2
  have c3 : (s.toList == [67, 83, 101, 113]) = b3 := by rw [hsl]; exact hb3
  have c4 : (s.toList == [82, 65, 99, 107]) = b4 := by rw [hsl]; exact hb4
  have H1 := Lib.hid (fun wz => ramK adrL s l hs 10 rfl (by decide) #[.string ⟨#[70, 114, 111, 109]⟩, .string ⟨#[84, 111]⟩, .string ⟨#[67, 111, 110, 116, 97, 99, 116]⟩, .string ⟨#[82, 111, 117, 116, 101]⟩, .string ⟨#[82, 101, 99, 111, 114, 100, 45, 82, 111, 117, 116, 101]⟩, .string ⟨#[80, 97, 116, 104]⟩, .string ⟨#[83, 101, 114, 118, 105, 99, 101, 45, 82, 111, 117, 116, 101]⟩, .string ⟨#[82, 101, 102, 101, 114, 45, 84, 111]⟩, .string ⟨#[82, 101, 102, 101, 114, 114, 101, 100, 45, 66, 121]⟩, .string ⟨#[82, 101, 112, 108, 121, 45, 84, 111]⟩] rfl b1 hb1 wz)
  have H5 := Lib.hid (fun wz => ramK nmL s l hs 5 rfl (by decide) #[.string ⟨#[67, 111, 110, 116, 101, 110, 116, 45, 76, 101, 110, 103, 116, 104]⟩, .string ⟨#[69, 120, 112, 105, 114, 101, 115]⟩, .string ⟨#[77, 97, 120, 45, 70, 111, 114, 119, 97, 114, 100, 115]⟩, .string ⟨#[77, 105, 110, 45, 69, 120, 112, 105, 114, 101, 115]⟩, .string ⟨#[82, 83, 101, 113]⟩] rfl b5 hb5 wz)
  have H6 := Lib.hid (fun wz => ramK itL s l hs 6 rfl (by decide) #[.string ⟨#[67, 111, 110, 116, 101, 110, 116, 45, 68, 105, 115, 112, 111, 115, 105, 116, 105, 111, 110]⟩, .string ⟨#[67, 111, 110, 116, 101, 110, 116, 45, 84, 121, 112, 101]⟩, .string ⟨#[69, 118, 101, 110, 116]⟩, .string ⟨#[77, 105, 110, 45, 83, 69]⟩, .string ⟨#[83, 101, 115, 115, 105, 111, 110, 45, 69, 120, 112, 105, 114, 101, 115]⟩, .string ⟨#[83, 117, 98, 115, 99, 114, 105, 112, 116, 105, 111, 110, 45, 83, 116, 97, 116, 101]⟩] rfl b6 hb6 wz)
  have H7 := Lib.hid (fun wz => ramK tkL s l hs 7 rfl (by decide) #[.string ⟨#[65, 99, 99, 101, 112, 116]⟩, .string ⟨#[65, 108, 108, 111, 119]⟩, .string ⟨#[65, 108, 108, 111, 119, 45, 69, 118, 101, 110, 116, 115]⟩, .string ⟨#[80, 114, 111, 120, 121, 45, 82, 101, 113, 117, 105, 114, 101]⟩, .string ⟨#[82, 101, 113, 117, 105, 114, 101]⟩, .string ⟨#[83, 117, 112, 112, 111, 114, 116, 101, 100]⟩, .string ⟨#[85, 110, 115, 117, 112, 112, 111, 114, 116, 101, 100]⟩] rfl b7 hb7 wz)
  clear hb1 hb2 hb3 hb4 hb5 hb6 hb7 hsl hs
  go_enter Tryz.func93, Tryz.ntmps93
  go_wp2_with fail
  refine (H1.out _).mono ?_
  rintro e w1 ⟨rfl, hK⟩
  have K1 := Lib.hid (((Kp.refl [] w).alloc _).trans hK)
  clear hK
  cases b1
  case true =>
    go_wp2_with fail
    go_ret
    rw [HV.out]
    exact ⟨rfl, K1.out⟩
  case false =>
    cases b2
    case true =>
      go_wp2_with fail
      go_ret
      rw [HV.out]
      exact ⟨rfl, K1.out⟩
    case false =>
      cases b3
      case true =>
        go_wp2_with fail
        go_ret
        rw [HV.out]
        exact ⟨rfl, K1.out⟩
      case false =>
        cases b4
        case true =>
          go_wp2_with fail
          go_ret
          rw [HV.out]
          exact ⟨rfl, K1.out⟩
        case false =>
          go_wp2_with fail
          refine (H5.out _).mono ?_
          rintro e w2 ⟨rfl, hK⟩
          have K2 := Lib.hid ((K1.out.alloc _).trans hK)
          clear hK
          cases b5
          case true =>
            go_wp2_with fail
            go_ret
            rw [HV.out]
            exact ⟨rfl, K2.out⟩
          case false =>
            go_wp2_with fail
            refine (H6.out _).mono ?_
            rintro e w3 ⟨rfl, hK⟩
            have K3 := Lib.hid ((K2.out.alloc _).trans hK)
            clear hK
            cases b6
            case true =>
              go_wp2_with fail
              go_ret
              rw [HV.out]
              exact ⟨rfl, K3.out⟩
            case false =>
              go_wp2_with fail
              refine (H7.out _).mono ?_
              rintro e w4 ⟨rfl, hK⟩
              have K4 := Lib.hid ((K3.out.alloc _).trans hK)
              clear hK
              cases b7
              case true =>
                go_wp2_with fail
                go_ret
                rw [HV.out]
                exact ⟨rfl, K4.out⟩
              case false =>
                go_wp2_with fail
                go_ret
                rw [HV.out]
                exact ⟨rfl, K4.out⟩
end Ad
end Go.Proofs.YtonbkedjlbhpfaaGreatDoor
