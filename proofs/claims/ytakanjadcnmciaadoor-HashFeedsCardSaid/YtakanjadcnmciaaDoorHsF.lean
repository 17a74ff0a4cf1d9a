/- Contract of the reference's Unhex (layer 6). A text of at most 2^40 bytes. -/
import Derived.Test.YtakanjadcnmciaaDoorHsL
import Derived.Test.YtakanjadcnmciaaDoorHsD
namespace Go.Proofs.YtakanjadcnmciaaDoor
namespace Hs
open Go.RowKit Ad

theorem unhex_odd : ∀ (n : Nat) (l : List UInt8), l.length ≤ n → l.length % 2 = 1 → unhex l = none := by
  intro n
  induction n with
  | zero => intro l h1 h2; omega
  | succ n ih =>
    intro l h1 h2
    match l, h1, h2 with
    | [], _, h2 => simp at h2
    | [_], _, _ => rfl
    | a :: b :: t, h1, h2 =>
      simp only [List.length_cons] at h1 h2
      have := ih t (by omega) (by omega)
      unfold unhex
      rw [this]
      cases digV a <;> cases digV b <;> rfl
theorem unhex_step (x y a b : UInt8) (r : List UInt8) (hx : digV x = some a) (hy : digV y = some b) : unhex (x :: y :: r) = (unhex r).map ((16 * a + b) :: ·) := by
  conv => lhs; unfold unhex
  rw [hx, hy]
  cases unhex r with
  | none => rfl
  | some t => rfl
theorem digI_cases (c : UInt8) : (digV c = none ∧ digI c = -1) ∨ ∃ d, digV c = some d ∧ digI c = (d.toNat : Int) ∧ d.toNat < 16 := by
  unfold digI
  cases h : digV c with
  | none => exact .inl ⟨rfl, rfl⟩
  | some d => exact .inr ⟨d, rfl, rfl, (hex_dig c d h).2⟩
def UnP (l : List UInt8) (w : World) (e : Ending) (w' : World) : Prop := ∃ v, e = .returned (.tuple #[v, .int .u8 (if (unhex l).isSome then 0 else 5)]) ∧ w'.ownsRow w.heap.size 5 1 v ((unhex l).getD []).length (Lib.byteCells ((unhex l).getD [])) ∧ Below w.heap.size w w'
set_option maxRecDepth 100000 in
set_option maxHeartbeats 1000000 in
theorem runhex_any (s : ByteArray) (w : World) (hs : s.size ≤ 1099511627776) : Calls Tryd.prog 24 #[.string s] w (UnP s.data.toList w) := by
  obtain ⟨i0, hi, hz0, hz1, hz2⟩ := info_parts' infoB
  have hlen := Lx.len_list s
  obtain ⟨L, hL⟩ : ∃ L, s.data.toList = L := ⟨_, rfl⟩
  rw [hL] at hlen ⊢
  by_cases hodd : s.size % 2 = 1
  · have hn := unhex_odd L.length L (Nat.le_refl _) (by omega)
    have hm : ((s.size : Int) % 2 == 1) = true := by rw [beq_iff_eq]; omega
    unfold UnP
    rw [hn]
    clear hn hodd hL hlen
    go_enter Tryd.func24, Tryd.ntmps24
    go_wp2_with fail
    go_ret2
    exact ⟨_, rfl, World.ownsRow_nil _ _ _ _, Below.refl _ _⟩
  · have hm : ((s.size : Int) % 2 == 1) = false := by rw [beq_eq_false_iff_ne]; omega
    have HU := Lib.hid hL
    clear hL
    go_enter Tryd.func24, Tryd.ntmps24
    go_wp2_with fail
    go_loopw [4, 5] (fun v i wr => ∃ (j : Nat) (acc : List UInt8), j ≤ s.size ∧ j % 2 = 0 ∧ acc.length ≤ j ∧ i = .int .i64 j ∧ unhex L = (unhex (L.drop j)).map (acc ++ ·) ∧ wr.ownsRow w.heap.size 5 1 v acc.length (Lib.byteCells acc) ∧ Below w.heap.size w wr) (fun _ i _ => s.size - (intOf i).toNat)
    case atStart => exact ⟨0, [], by omega, rfl, Nat.le_refl _, rfl, by simp, World.ownsRow_nil _ _ _ _, Below.refl _ _⟩
    case round =>
      obtain ⟨j, acc, hj, hj2, ha, rfl, hu, hown, hB⟩ := hrel
      have hsz := hB.size
      by_cases hlt : j < s.size
      · have hlt2 : j + 1 < s.size := by omega
        obtain ⟨x, hx⟩ : ∃ x, s[j] = x := ⟨_, rfl⟩
        obtain ⟨y, hy⟩ : ∃ y, s[j + 1] = y := ⟨_, rfl⟩
        obtain ⟨r, hr⟩ : ∃ r, L.drop (j + 2) = r := ⟨_, rfl⟩
        have hd : L.drop j = x :: y :: r := by
          rw [← HU.out, Lx.drop_step s j hlt, Lx.drop_step s (j + 1) hlt2, hx, hy, HU.out, hr]
        rw [hd] at hu
        have hx2 : (s[j].toNat : Int) = (x.toNat : Int) := by rw [hx]
        obtain ⟨k, hk⟩ : ∃ k, j + 1 = k := ⟨_, rfl⟩
        have ek : (j : Int) + 1 = (k : Int) := by omega
        have wk : IntKind.i64.wrap (k : Int) = (k : Int) := IntWalk.i64_in _ (by omega)
        have hks : k < s.size := by omega
        have hy2 : (s[k].toNat : Int) = (y.toNat : Int) := by subst hk; rw [hy]
        have k0 : (0 : Int) ≤ (k : Int) := by omega
        have k1 : (k : Int) < (s.size : Int) := by omega
        have Ho := Lib.hid hown
        have HB := Lib.hid hB
        have Hu := Lib.hid hu
        have Hk := Lib.hid hk
        have Hr := Lib.hid hr
        clear hx hy hr hd hu hk hown hB
        rcases digI_cases x with ⟨dx, ix⟩ | ⟨a, dx, ix, ax⟩
        · have lx : decide (digI x < 0) = true := by rw [ix]; rfl
          have HN := Lib.hid (by rw [Hu.out]; unfold unhex; rw [dx]; rfl : unhex L = none)
          clear ix dx
          go_wp2_with fail
          go_quiet ((go_at_call 31; exact Calls.quiet_of_same (rdigit_any _ _)))
          go_wp2_with fail
          go_ret2
          unfold UnP
          rw [HN.out]
          exact ⟨_, rfl, World.ownsRow_nil _ _ _ _, below_drewN HB.out _⟩
        · have lx : decide (digI x < 0) = false := by rw [ix, decide_eq_false_iff_not]; omega
          rcases digI_cases y with ⟨dy, iy⟩ | ⟨b, dy, iy, bx⟩
          · have ly : decide (digI y < 0) = true := by rw [iy]; rfl
            have HN := Lib.hid (by rw [Hu.out]; unfold unhex; rw [dx, dy]; rfl : unhex L = none)
            clear ix dx iy dy
            go_wp2_with fail
            go_quiet ((go_at_call 31; exact Calls.quiet_of_same (rdigit_any _ _)))
            go_wp2_with fail
            go_ret2
            unfold UnP
            rw [HN.out]
            exact ⟨_, rfl, World.ownsRow_nil _ _ _ _, below_drewN HB.out _⟩
          · have ly : decide (digI y < 0) = false := by rw [iy, decide_eq_false_iff_not]; omega
            have HN := Lib.hid (by rw [Hu.out, unhex_step x y a b r dx dy]; cases unhex r <;> simp : unhex L = (unhex r).map ((acc ++ [16 * a + b]) ++ ·))
            have IX := Lib.hid ix
            have IY := Lib.hid iy
            clear ix dx iy dy
            go_wp2_with fail
            go_quiet ((go_at_call 31; exact Calls.quiet_of_same (rdigit_any _ _)))
            rw [IX.out, IY.out]
            obtain ⟨c, hc⟩ : ∃ c, 16 * a + b = c := ⟨_, rfl⟩
            have hcv : c.toNat = 16 * a.toNat + b.toNat := by
              rw [← hc, UInt8.toNat_add, UInt8.toNat_mul]
              show (16 * a.toNat % 256 + b.toNat) % 256 = _
              omega
            rw [hc] at HN
            obtain ⟨p, hp⟩ : ∃ p, 16 * a.toNat = p := ⟨_, rfl⟩
            have ep : 16 * (a.toNat : Int) = (p : Int) := by omega
            have wp : IntKind.i64.wrap (p : Int) = (p : Int) := IntWalk.i64_in _ (by omega)
            have ec : (p : Int) + (b.toNat : Int) = (c.toNat : Int) := by omega
            have wc : IntKind.i64.wrap (c.toNat : Int) = (c.toNat : Int) := IntWalk.i64_in _ (by omega)
            have wc8 : IntKind.u8.wrap (c.toNat : Int) = (c.toNat : Int) := wrap8 _ c.toNat_lt
            have na : decide ((a.toNat : Int) < 0) = false := by rw [decide_eq_false_iff_not]; omega
            have nb : decide ((b.toNat : Int) < 0) = false := by rw [decide_eq_false_iff_not]; omega
            have Hod := Lib.hid (show World.ownsRow (World.drewN wr nq) w.heap.size 5 1 _ _ _ from Ho.out)
            have hzq : (World.drewN wr nq).heap.size = wr.heap.size := rfl
            clear hc hcv hp lx ly
            go_wp2_with (at_builtin; refine wpList_append_own _ rfl _ _ 22 rfl w.heap.size 5 i0 (.int .u8 0) 1 1 Tryd.underlying22 hi hz0 hz1 hz2 rfl (by decide) _ _ _ rfl (Hod.out.alloc _) ⟨wr.heap.size, 0, none⟩ 1 1 [.int .u8 (c.toNat : Int)] rfl rfl (cell_one_new _ _ _) (by simp [Value.oneCell']) ?c3 ?c4 ?c5 ?_)
            case c3 => unfold maxLen; omega
            case c4 => omega
            case c5 => first | omega | (simp; omega)
            intro v4 w4 hown' hgrow _
            have HO4 := Lib.hid (by rw [List.length_append]; unfold Lib.byteCells at hown' ⊢; rw [List.map_append, List.map_singleton]; exact hown' : w4.ownsRow w.heap.size 5 1 v4 (acc ++ [c]).length (Lib.byteCells (acc ++ [c])))
            have hB4 := ((below_drewN HB.out nq).alloc (by show w.heap.size ≤ wr.heap.size; omega) (.cells #[.int .u8 (c.toNat : Int)] 5)).grown hgrow (by simp; omega) (fun k' hk' => (Ho.out.lt k' hk').1)
            have hs4 := hB4.size
            clear hown' hgrow
            go_wp2_with fail
            go_roundw
            case rel => exact ⟨j + 2, acc ++ [c], by omega, by omega, by simp; omega, by go_num, by rw [Hr.out]; exact HN.out, HO4.out, hB4⟩
            case measure => simp [intOf]; omega
      · have hjs : j = L.length := by omega
        have HN := Lib.hid (by rw [hu, hjs, List.drop_length]; simp [unhex] : unhex L = some acc)
        go_wp2_with fail
        go_ret2
        unfold UnP
        rw [HN.out]
        exact ⟨_, rfl, hown, hB⟩
end Hs
end Go.Proofs.YtakanjadcnmciaaDoor
