/- The plain specification of Hex and Unhex of layer 6 and plain facts about it. No program. -/
import Derived.Test.YtakanjadcnmciaaDoorHsSpec
namespace Go.Proofs.YtakanjadcnmciaaDoor
namespace Hs
def digV (c : UInt8) : Option UInt8 := if 48 ≤ c.toNat ∧ c.toNat ≤ 57 then some (c - 48) else if 97 ≤ c.toNat ∧ c.toNat ≤ 102 then some (c - 87) else if 65 ≤ c.toNat ∧ c.toNat ≤ 70 then some (c - 55) else none
def lowC (c : UInt8) : UInt8 := if 65 ≤ c.toNat ∧ c.toNat ≤ 70 then c + 32 else c
def unhex : List UInt8 → Option (List UInt8)
  | [] => some []
  | [_] => none
  | h :: l :: t => match digV h, digV l, unhex t with
    | some a, some b, some r => some ((16 * a + b) :: r)
    | _, _, _ => none
theorem all_bytes (p : UInt8 → Bool) (h : (List.range 256).all (fun n => p (UInt8.ofNat n)) = true) (c : UInt8) : p c = true := by
  have := List.all_eq_true.1 h c.toNat (List.mem_range.2 c.toNat_lt)
  rwa [UInt8.ofNat_toNat] at this
theorem dig_hex (c : UInt8) : digV (hexD (c / 16)) = some (c / 16) ∧ digV (hexD (c % 16)) = some (c % 16) ∧ 16 * (c / 16) + c % 16 = c := by
  have := all_bytes (fun c => decide (digV (hexD (c / 16)) = some (c / 16) ∧ digV (hexD (c % 16)) = some (c % 16) ∧ 16 * (c / 16) + c % 16 = c)) (by decide +kernel) c
  exact of_decide_eq_true this
theorem hex_dig (c d : UInt8) (h : digV c = some d) : hexD d = lowC c ∧ d.toNat < 16 := by
  have := all_bytes (fun c => match digV c with | some d => decide (hexD d = lowC c ∧ d.toNat < 16) | none => true) (by decide +kernel) c
  rw [h] at this
  exact of_decide_eq_true this
theorem unhex_hex (b : List UInt8) : unhex (hex b) = some b := by
  induction b with
  | nil => rfl
  | cons c t ih =>
    obtain ⟨h1, h2, h3⟩ := dig_hex c
    show unhex (hexD (c / 16) :: hexD (c % 16) :: hex t) = _
    unfold unhex
    rw [h1, h2, ih]
    dsimp only
    rw [h3]
theorem two_dig (a b : UInt8) (ha : a.toNat < 16) (hb : b.toNat < 16) : (16 * a + b) / 16 = a ∧ (16 * a + b) % 16 = b := by
  have h1 : (16 * a + b).toNat = 16 * a.toNat + b.toNat := by
    rw [UInt8.toNat_add, UInt8.toNat_mul]
    show (16 * a.toNat % 256 + b.toNat) % 256 = _
    omega
  constructor
  · apply UInt8.toNat_inj.1
    rw [UInt8.toNat_div, h1]
    show (16 * a.toNat + b.toNat) / 16 = _
    omega
  · apply UInt8.toNat_inj.1
    rw [UInt8.toNat_mod, h1]
    show (16 * a.toNat + b.toNat) % 16 = _
    omega
theorem hex_unhex : ∀ (n : Nat) (s y : List UInt8), s.length ≤ n → unhex s = some y → hex y = s.map lowC := by
  intro n
  induction n with
  | zero =>
    intro s y hl h
    obtain rfl : s = [] := List.eq_nil_of_length_eq_zero (by omega)
    injection h with h
    rw [← h]; rfl
  | succ n ih =>
    intro s y hl h
    match s, hl, h with
    | [], _, h =>
      injection h with h
      rw [← h]; rfl
    | [_], _, h => cases h
    | a :: b :: t, hl, h =>
      unfold unhex at h
      split at h
      · rename_i x z r h1 h2 h3
        injection h with h
        obtain ⟨g1, g2⟩ := hex_dig a x h1
        obtain ⟨g3, g4⟩ := hex_dig b z h2
        obtain ⟨e1, e2⟩ := two_dig x z g2 g4
        simp only [List.length_cons] at hl
        have h4 := ih t r (by omega) h3
        rw [← h]
        show hexD ((16 * x + z) / 16) :: hexD ((16 * x + z) % 16) :: hex r = lowC a :: lowC b :: t.map lowC
        rw [e1, e2, g1, g3, h4]
      · cases h
theorem hex_len (b : List UInt8) : (hex b).length = 2 * b.length := by
  induction b with
  | nil => rfl
  | cons c t ih =>
    show (hexD (c / 16) :: hexD (c % 16) :: hex t).length = _
    simp only [List.length_cons, ih]; omega
end Hs
end Go.Proofs.YtakanjadcnmciaaDoor
