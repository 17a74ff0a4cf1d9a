/- Texts of one set of library modules: HeKm, HeKn, HeKo, HeKp. -/
import Derived.Test.YtbcaindpbeaheaaGreatDoorZ36
import Derived.Test.YtbcaindpbeaheaaGreatDoorZ38
import Derived.Test.YtbcaindpbeaheaaGreatDoorZ32
namespace Go.Proofs.YtbcaindpbeaheaaGreatDoor
namespace Ad
open Go.RowKit Lx
theorem itoa_len2 (x : Int) (h0 : 0 ≤ x) (h1 : x ≤ 2147483647) : (Lib.itoa x).length ≤ 11 := by
 obtain ⟨k, rfl⟩ : ∃ k : Nat, x = k := ⟨x.toNat, by omega⟩
 exact itoa_len k (by omega)
theorem tidK_len (k : Int) (l : List UInt8) (hl : l.length ≤ 1049000) : (tidK k l).1.length ≤ 105000000 := by
 have ht := trS_len l;have hA := tidA_len l;have hI := tidI_len l hl;have hV := tidV_len l hl
 have hC : (tidC l).1.length ≤ 105000000 := by
  have hm := cseq_md l;have h1 := itoa_len2 _ hm.1 hm.2.1
  unfold tidC
  split
  ·exact Nat.zero_le _
  ·simp only [List.length_append, List.length_singleton]; omega
 have hR : (tidR l).1.length ≤ 105000000 := by
  obtain ⟨m1, m2, m3, m4, m5⟩ := rck_md l
  have h1 := itoa_len2 _ m1 m2;have h2 := itoa_len2 _ m3 m4
  unfold tidR
  split
  ·exact Nat.zero_le _
  ·simp only [List.length_append, List.length_singleton]; omega
 have hN : (tidN l).1.length ≤ 105000000 := by
  have h0 := numN_lo (trS l)
  have h1 : numN (trS l) ≤ 2147483647 := by
   unfold numN
   split
   ·decide
   ·omega
  have h2 := itoa_len2 _ h0 h1
  unfold tidN
  split
  ·exact Nat.zero_le _
  ·dsimp only; omega
 have hX : (tidX l).1.length ≤ 105000000 := by
  unfold tidX
  split
  ·exact Nat.zero_le _
  ·dsimp only; omega
 unfold tidK
 repeat' split
 all_goals omega
theorem tidM_len (star : Bool) (f : List UInt8 → List UInt8 × Int) (B : Nat) : ∀ xs : List (List UInt8), (∀ x ∈ xs, x.length ≤ B ∧ (f x).1.length ≤ B) → (tidM star f xs).1.length ≤ xs.length ∧ ∀ y ∈ (tidM star f xs).1, y.length ≤ B := by
 intro xs
 induction xs with
 | nil => intro _; exact ⟨Nat.le_refl _, fun y hy => by cases hy⟩
 | cons x t ih =>
   intro h
   obtain ⟨h1, h2⟩ := ih fun y hy => h y (List.mem_cons_of_mem _ hy)
   obtain ⟨h3, h4⟩ := h x (by simp)
   unfold tidM
   split
   ·refine ⟨by simp; exact h1, fun y hy => ?_⟩
    rcases List.mem_cons.1 hy with rfl | hy
    ·exact h3
    ·exact h2 y hy
   ·split
    ·exact ⟨Nat.zero_le _, fun y hy => by cases hy⟩
    ·refine ⟨by simp; exact h1, fun y hy => ?_⟩
     rcases List.mem_cons.1 hy with rfl | hy
     ·exact h4
     ·exact h2 y hy
theorem join_bound (B : Nat) (sep : List UInt8) : ∀ ys : List (List UInt8), (∀ y ∈ ys, y.length ≤ B) → (Lib.join ys sep).length ≤ ys.length * (B + sep.length) := by
 intro ys h
 cases ys with
 | nil => exact Nat.zero_le _
 | cons y t =>
   rw [Lib.join_cons, List.length_append, List.length_cons, Nat.add_mul, Nat.one_mul]
   have h1 := h y (by simp)
   have h2 : (Lib.joinTail sep t).length ≤ t.length * (B + sep.length) := by
    have ht : ∀ z ∈ t, z.length ≤ B := fun z hz => h z (List.mem_cons_of_mem _ hz)
    clear h h1
    induction t with
    | nil => exact Nat.zero_le _
    | cons z r ih =>
      have h3 := ih fun u hu => ht u (List.mem_cons_of_mem _ hu)
      have h4 := ht z (by simp)
      unfold Lib.joinTail at h3 ⊢
      rw [List.map_cons, List.flatten_cons, List.length_append, List.length_append, List.length_cons, Nat.add_mul, Nat.one_mul]
      omega
   omega
def tidF (nm s : List UInt8) : List UInt8 × Int :=
 if (canR nm).2 ≠ 0 then ([], 5) else if (kindR (canR nm).1).2 = true then (if (listR s).2 ≠ 0 then ([], (listR s).2) else tidJ (tidM ((canR nm).1 == conN) (tidK (kindR (canR nm).1).1) (listR s).1)) else tidK (kindR (canR nm).1).1 s
theorem canR_err (nm : List UInt8) : canR nm = ([], 5) ∨ ∃ a, canR nm = (a, 0) := by
 unfold canR
 cases canB nm
 ·exact .inl rfl
 ·exact .inr ⟨_, rfl⟩
theorem tidy_any (nm s : ByteArray) (w : World) (hn : nm.size ≤ 2097152) (hs : s.size ≤ 1049000) (H : HEnv w) :
   Calls Tryz.prog 4 #[.string nm, .string s] w (TxE (tidF nm.data.toList s.data.toList) w) := by
 have hsl := len_list s
 rcases canR_err nm.data.toList with hc | ⟨cn, hc⟩
 ·have h := tidy_bad nm s w hn H hc
  rwa [show tidF nm.data.toList s.data.toList = ([], 5) from by unfold tidF; rw [hc]; exact if_pos (by decide)]
 ·obtain ⟨k, b, hk⟩ : ∃ k b, kindR cn = (k, b) := ⟨_, _, rfl⟩
  have hkb := kindR_bd cn
  rw [hk] at hkb
  have hF : tidF nm.data.toList s.data.toList = if b = true then (if (listR s.data.toList).2 ≠ 0 then ([], (listR s.data.toList).2) else tidJ (tidM (cn == conN) (tidK k) (listR s.data.toList).1)) else tidK k s.data.toList := by
   unfold tidF
   rw [hc]
   dsimp only
   rw [if_neg (by decide), hk]
  rw [hF]
  cases b
  ·rw [if_neg (by decide)]
   exact tidy_one nm s cn k _ w hn H hc hk fun wz hz => tidyOne_any k hkb s wz hs hz.env
  ·rw [if_pos rfl]
   obtain ⟨xs, x, hl⟩ : ∃ a b, listR s.data.toList = (a, b) := ⟨_, _, rfl⟩
   have hel := list_el s.data.toList
   have hls := list_sz s.data.toList 1049000 (by omega)
   rw [hl] at hel hls ⊢
   dsimp only at hel hls ⊢
   by_cases hx : x = 0
   ·subst hx
    rw [if_neg (by decide)]
    have hne := hel.2 rfl
    have hm := tidM_len (cn == conN) (tidK k) 105000000 xs fun y hy => by
     have := hel.1 y hy
     exact ⟨by omega, tidK_len k y (by omega)⟩
    refine tidy_many nm s cn xs k (tidK k) w hn (by omega) H hc hk hl hne (by omega) (fun y hy => by have := hel.1 y hy; omega) ?_ ?_
    ·intro y wz hm9 _ hz
     have hy := hel.1 y hm9
     have h := tidyOne_any k hkb (Txt y) wz (by rw [txt_size]; omega) hz.env
     rw [txt_list] at h
     exact h
    ·have := join_bound 105000000 [44, 32] _ hm.2
     have h2 := Nat.mul_le_mul_right (105000000 + [44, 32].length) hm.1
     have h3 := Nat.mul_le_mul_right (105000000 + [44, 32].length) hls
     have h4 : 1049001 * (105000000 + [44, 32].length) ≤ 140737488355328 := by decide
     omega
   ·rw [if_pos hx]
    have hxs : xs = [] := by
     have := hl
     unfold listR at this
     split at this
     ·injection this with h1 _; exact h1.symm
     ·split at this
      ·injection this with h1 _; exact h1.symm
      ·injection this with _ h2; exact absurd h2.symm hx
    rw [hxs] at hl
    exact tidy_lerr nm s cn k x w hn (by omega) H hc hk hl hx
end Ad
end Go.Proofs.YtbcaindpbeaheaaGreatDoor
namespace Go.Proofs.YtbcaindpbeaheaaGreatDoor
namespace Ad
open Go.RowKit Lx
theorem itm_trim (v : List UInt8) (l : List Prm) (t : List UInt8) (h : pitO v l = some t) : trS t = t ∧ t ≠ [] := by
 unfold pitO at h
 cases hp : ppO (srt l) with
 | none => rw [hp] at h; cases h
 | some p =>
   rw [hp] at h
   dsimp only at h
   split at h
   ·rename_i hi
    injection h with h
    obtain ⟨he, c, m, hv, hc⟩ := itm_ends v hi
    refine ⟨?_, by rw [← h, hv]; simp⟩
    have hn : NEnd t := by
     rw [← h]
     rcases ppO_end _ _ hp with rfl | hn
     ·rw [List.append_nil]; exact he
     ·exact hn.pre v
    obtain ⟨n, d, h2, hd⟩ := hn
    exact trS_self t (m ++ p) n c d (by rw [← h, hv]; rfl) h2 hc hd
   ·cases h
def Elt (y : List UInt8) : Prop := Sc 44 y ∧ trS y = y ∧ y ≠ []
theorem elt_star : Elt [42] := ⟨plain_sc [42] (by decide), by decide +kernel, by simp⟩
theorem elt_tid (k : Int) (hk : k = 1 ∨ k = 2 ∨ k = 7) (x y : List UInt8) (h : tidK k x = (y, 0)) : Elt y := by
 rcases hk with rfl | rfl | rfl
 ·have h : tidA x = (y, 0) := h
  unfold tidA at h
  split at h
  ·rename_i hx
   injection h with _ h2
   exact absurd h2 hx
  ·cases hp : adrO (adrR (trS x)).1 with
   | none =>
     rw [hp] at h
     injection h with _ h2
     exact absurd h2 (by decide)
   | some s =>
     rw [hp] at h
     simp only [Option.getD_some, Option.isSome_some, if_true] at h
     injection h with h1 _
     subst h1
     refine ⟨sc_adr _ s hp, adr_trim _ s hp, fun e => ?_⟩
     subst e
     rw [adrO_eq] at hp
     split at hp
     ·split at hp
      ·cases hp
      ·injection hp with hp
       have := congrArg List.length hp
       simp at this
     ·cases hp
 ·have h : tidV x = (y, 0) := h
  unfold tidV at h
  split at h
  ·rename_i hx
   injection h with _ h2
   exact absurd h2 hx
  ·cases hp : pvV (viaR x).1 with
   | none =>
     rw [hp] at h
     injection h with _ h2
     exact absurd h2 (by decide)
   | some s =>
     rw [hp] at h
     simp only [Option.getD_some, Option.isSome_some, if_true] at h
     injection h with h1 _
     subst h1
     obtain ⟨ho, p, _, _, h3, _, _, _, h7, _⟩ := via_back _ _ _ _ _ s hp
     refine ⟨sc_pvi _ _ _ _ _ s hp, h7, fun e => ?_⟩
     rw [e] at h3
     have := congrArg List.length h3
     simp [protoL] at this
 ·have h : tidI x = (y, 0) := h
  unfold tidI at h
  split at h
  ·rename_i hx
   injection h with _ h2
   exact absurd h2 hx
  ·cases hp : pitO (itmR x).1.1 (itmR x).1.2 with
   | none =>
     rw [hp] at h
     injection h with _ h2
     exact absurd h2 (by decide)
   | some s =>
     rw [hp] at h
     simp only [Option.getD_some, Option.isSome_some, if_true] at h
     injection h with h1 _
     subst h1
     have := itm_trim _ _ s hp
     exact ⟨sc_pit _ _ s hp, this.1, this.2⟩
theorem many_kind (l : List UInt8) (h : (kindR l).2 = true) : (kindR l).1 = 1 ∨ (kindR l).1 = 2 ∨ (kindR l).1 = 7 := by
 have hall : (kindL.all fun p => !(kindR p.1).2 || decide ((kindR p.1).1 = 1 ∨ (kindR p.1).1 = 2 ∨ (kindR p.1).1 = 7)) = true := by decide +kernel
 cases hl : kindL.find? fun p => p.1 == l
 ·exfalso
  unfold kindR at h
  rw [hl] at h
  exact absurd h (by decide)
 ·rename_i p
  have hp := List.mem_of_find?_eq_some hl
  have he := List.find?_some hl
  have := List.all_eq_true.1 hall p hp
  rw [beq_iff_eq.1 he, h] at this
  exact of_decide_eq_true (by simpa using this)
theorem tidM_again (star : Bool) (k : Int) (hk : k = 1 ∨ k = 2 ∨ k = 7) : ∀ (xs ys : List (List UInt8)), tidM star (tidK k) xs = (ys, 0) → (∀ y ∈ ys, y.length ≤ 1024) → tidM star (tidK k) ys = (ys, 0) ∧ ∀ y ∈ ys, Elt y := by
 intro xs
 induction xs with
 | nil =>
   intro ys h _
   injection h with h1 _
   subst h1
   exact ⟨rfl, fun y hy => by cases hy⟩
 | cons x t ih =>
   intro ys h hl
   unfold tidM at h
   split at h
   ·rename_i hs
    injection h with h1 h2
    have hx : x = [42] := by
     rw [Bool.and_eq_true] at hs
     exact beq_iff_eq.1 hs.2
    subst h1
    obtain ⟨i1, i2⟩ := ih (tidM star (tidK k) t).1 (by rw [← h2]) fun y hy => hl y (List.mem_cons_of_mem _ hy)
    refine ⟨?_, fun y hy => ?_⟩
    ·rw [tidM, if_pos hs, i1]
    ·rcases List.mem_cons.1 hy with rfl | hy
     ·rw [hx]; exact elt_star
     ·exact i2 y hy
   ·rename_i hs
    split at h
    ·rename_i hx
     injection h with _ h2
     exact absurd h2 hx
    ·rename_i hx
     injection h with h1 h2
     subst h1
     have hx0 : tidK k x = ((tidK k x).1, 0) := by rw [← Classical.not_not.1 hx]
     have hy := elt_tid k hk x _ hx0
     have hag := tidK_again k x _ hx0 (hl _ (by simp))
     obtain ⟨i1, i2⟩ := ih (tidM star (tidK k) t).1 (by rw [← h2]) fun y hy => hl y (List.mem_cons_of_mem _ hy)
     refine ⟨?_, fun y hy' => ?_⟩
     ·rw [tidM]
      split
      ·rw [i1]
      ·rw [hag]
       dsimp only
       rw [if_neg (by decide), i1]
     ·rcases List.mem_cons.1 hy' with rfl | hy'
      ·exact hy
      ·exact i2 y hy'
theorem join_part (sep : List UInt8) : ∀ (ys : List (List UInt8)), ∀ y ∈ ys, y.length ≤ (Lib.join ys sep).length := by
 intro ys
 cases ys with
 | nil => intro y hy; cases hy
 | cons z t =>
   rw [Lib.join_cons, List.length_append]
   intro y hy
   rcases List.mem_cons.1 hy with rfl | hy
   ·omega
   ·have : y.length ≤ (Lib.joinTail sep t).length := by
      induction t with
      | nil => cases hy
      | cons u r ih =>
        unfold Lib.joinTail at ih ⊢
        rw [List.map_cons, List.flatten_cons, List.length_append, List.length_append]
        rcases List.mem_cons.1 hy with rfl | hy
        ·omega
        ·have := ih (List.mem_cons_of_mem _ hy) hy
         omega
    omega
theorem tidF_again (nm v a : List UInt8) (h : tidF nm v = (a, 0)) (ha : a.length ≤ 1024) : tidF nm a = (a, 0) := by
 unfold tidF at h ⊢
 split at h
 ·injection h with _ h2
  exact absurd h2 (by decide)
 ·rename_i hc
  rw [if_neg hc]
  split at h
  ·rename_i hm
   rw [if_pos hm]
   split at h
   ·rename_i hl
    injection h with _ h2
    exact absurd h2 hl
   ·rename_i hl
    have hne := (list_el v).2 (Classical.not_not.1 hl);have hk := many_kind _ hm
    obtain ⟨k, hkk⟩ : ∃ k, (kindR (canR nm).1).1 = k := ⟨_, rfl⟩
    rw [hkk] at hk h ⊢
    obtain ⟨star, hst⟩ : ∃ b, ((canR nm).1 == conN) = b := ⟨_, rfl⟩
    rw [hst] at h ⊢
    obtain ⟨ys, x, hM⟩ : ∃ a b, tidM star (tidK k) (listR v).1 = (a, b) := ⟨_, _, rfl⟩
    rw [hM] at h
    unfold tidJ at h
    dsimp only at h
    split at h
    ·rename_i hx
     injection h with _ h2
     exact absurd h2 hx
    ·rename_i hx
     rw [Classical.not_not.1 hx] at hM
     injection h with h1 _
     have hyl : ∀ y ∈ ys, y.length ≤ 1024 := fun y hy => by
      have := join_part [44, 32] ys y hy
      rw [h1] at this
      omega
     obtain ⟨e1, e2⟩ := tidM_again star k hk _ ys hM hyl
     have hys : ys ≠ [] := by
      intro e
      subst e
      obtain ⟨z, zs, hz⟩ := List.exists_cons_of_ne_nil hne
      rw [hz] at hM
      unfold tidM at hM
      split at hM
      ·injection hM with h8 _; cases h8
      ·split at hM
       ·rename_i h7
        injection hM with _ h8
        exact absurd h8 h7
       ·injection hM with h8 _; cases h8
     obtain ⟨z, zs, rfl⟩ := List.exists_cons_of_ne_nil hys
     have hL := list_join z zs e2
     rw [← h1, hL]
     dsimp only
     rw [if_neg (by decide), e1]
     rfl
  ·rename_i hm
   rw [if_neg hm]
   exact tidK_again _ v a h ha
end Ad
end Go.Proofs.YtbcaindpbeaheaaGreatDoor
namespace Go.Proofs.YtbcaindpbeaheaaGreatDoor
namespace Ad
open Go.RowKit Lx
def padV (v : List UInt8) : List UInt8 := [32, 9] ++ (v ++ [32, 32])
theorem pad_b : ∀ c ∈ ([32, 32] : List UInt8), bb c = true := by decide
theorem pad_f : ∀ c ∈ ([32, 9] : List UInt8), bb c = true := by decide
theorem tr_back (v : List UInt8) : trS (v ++ [32, 32]) = trS v := by
 show Lib.trimS _ blk = Lib.trimS _ blk
 rw [trimS_eq, trimS_eq]
 induction v with
 | nil => decide
 | cons c t ih =>
   cases h : bb c with
   | true => rw [List.cons_append, List.dropWhile_cons, List.dropWhile_cons, h, if_pos rfl, if_pos rfl, ih]
   | false => rw [List.cons_append, List.dropWhile_cons, List.dropWhile_cons, h, ← List.cons_append]; exact rd_pad _ _ pad_b
theorem tr_front (v : List UInt8) : trS ([32, 9] ++ v) = trS v := by
 show Lib.trimS _ blk = Lib.trimS _ blk
 rw [trimS_eq, trimS_eq, dw_all _ _ pad_f]
theorem tr_pad (v : List UInt8) : trS (padV v) = trS v := by unfold padV; rw [tr_front, tr_back]
theorem tidK_pad (k : Int) (v : List UInt8) : tidK k (padV v) = tidK k v := by
 have hL : leadR (padV v) = leadR v := by unfold leadR; rw [tr_pad]
 have hC : cseqR (padV v) = cseqR v := by unfold cseqR; rw [hL]
 have hR : rckR (padV v) = rckR v := by unfold rckR; rw [hL]
 have hI : itmR (padV v) = itmR v := by unfold itmR; rw [tr_pad]
 have hV : viaR (padV v) = viaR v := by unfold viaR; rw [tr_pad]
 unfold tidK tidA tidV tidC tidR tidN tidI tidX
 rw [hC, hR, hI, hV, tr_pad]
theorem step_pad (c : UInt8) (t : List UInt8) (i i' : Nat) : (∃ d u, c.toNat = 92 ∧ ctlI c.toNat = false ∧ t = d :: u ∧ escI d.toNat = true) ∨ (c.toNat ≠ 92 ∧ ctlI c.toNat = false) ∨ (c.toNat = 92 ∧ ctlI c.toNat = false ∧ t = []) ∨ ((stepS (c :: t) i).2 = 5 ∧ (stepS (c :: (t ++ [32, 32])) i').2 = 5) := by
 cases hc : ctlI c.toNat with
 | true => exact .inr (.inr (.inr ⟨by rw [stepS_ctl _ _ _ hc], by rw [stepS_ctl _ _ _ hc]⟩))
 | false =>
   by_cases h92 : c.toNat = 92
   ·cases t with
    | nil => exact .inr (.inr (.inl ⟨h92, rfl, rfl⟩))
    | cons d u =>
      cases he : escI d.toNat with
      | true => exact .inl ⟨d, u, h92, rfl, rfl, he⟩
      | false => exact .inr (.inr (.inr ⟨by rw [stepS_bad _ _ _ _ hc h92 he], by rw [List.cons_append, stepS_bad _ _ _ _ hc h92 he]⟩))
   ·exact .inr (.inl ⟨h92, rfl⟩)
theorem qend_blanks (i : Nat) : (qEnd [32, 32] i).2 = 6 := by
 rw [qEnd_step _ _ _ (by decide) (by rw [stepS_one _ _ _ (by decide) (by decide)]), stepS_one _ _ _ (by decide) (by decide)]
 dsimp only
 rw [show i + 1 - i = 1 by omega, List.drop_succ_cons, List.drop_zero, qEnd_step _ _ _ (by decide) (by rw [stepS_one _ _ _ (by decide) (by decide)]), stepS_one _ _ _ (by decide) (by decide)]
 dsimp only
 rw [show i + 1 + 1 - (i + 1) = 1 by omega, List.drop_succ_cons, List.drop_zero, qEnd_nil]
theorem qend_slash (c : UInt8) (i : Nat) (h : c.toNat = 92) (hc : ctlI c.toNat = false) : (qEnd (c :: [32, 32]) i).2 = 6 := by
 rw [qEnd_step _ _ _ (by omega) (by rw [stepS_two _ _ _ _ hc h (by decide)]), stepS_two _ _ _ _ hc h (by decide)]
 dsimp only
 rw [show i + 2 - i = 2 by omega, List.drop_succ_cons, List.drop_succ_cons, List.drop_zero, qEnd_step _ _ _ (by decide) (by rw [stepS_one _ _ _ (by decide) (by decide)]), stepS_one _ _ _ (by decide) (by decide)]
 dsimp only
 rw [show i + 2 + 1 - (i + 2) = 1 by omega, List.drop_succ_cons, List.drop_zero, qEnd_nil]
theorem qend_pad (n : Nat) : ∀ (u : List UInt8) (i i' : Nat), u.length ≤ n → (qEnd u i).2 ≠ 0 → (qEnd (u ++ [32, 32]) i').2 = (qEnd u i).2 := by
 induction n with
 | zero =>
   intro u i i' h _
   obtain rfl : u = [] := List.eq_nil_of_length_eq_zero (by omega)
   rw [List.nil_append, qend_blanks, qEnd_nil]
 | succ n ih =>
   intro u i i' h h0
   match u, h, h0 with
   | [], _, _ => rw [List.nil_append, qend_blanks, qEnd_nil]
   | c :: t, h, h0 =>
     rw [List.length_cons] at h
     by_cases h34 : c.toNat = 34
     ·rw [qEnd_quote _ _ _ h34] at h0; exact absurd rfl h0
     ·rcases step_pad c t i i' with ⟨d, u', h92, hc, rfl, he⟩ | ⟨h92, hc⟩ | ⟨h92, hc, rfl⟩ | ⟨h5, h5'⟩
      ·rw [List.length_cons] at h
       rw [qEnd_step _ _ _ h34 (by rw [stepS_two _ _ _ _ hc h92 he]), stepS_two _ _ _ _ hc h92 he] at h0 ⊢
       dsimp only at h0 ⊢
       rw [show i + 2 - i = 2 by omega, List.drop_succ_cons, List.drop_succ_cons, List.drop_zero] at h0 ⊢
       rw [List.cons_append, List.cons_append, qEnd_step _ _ _ h34 (by rw [stepS_two _ _ _ _ hc h92 he]), stepS_two _ _ _ _ hc h92 he]
       dsimp only
       rw [show i' + 2 - i' = 2 by omega, List.drop_succ_cons, List.drop_succ_cons, List.drop_zero]
       exact ih u' _ _ (by omega) h0
      ·rw [qEnd_step _ _ _ h34 (by rw [stepS_one _ _ _ hc h92]), stepS_one _ _ _ hc h92] at h0 ⊢
       dsimp only at h0 ⊢
       rw [show i + 1 - i = 1 by omega, List.drop_succ_cons, List.drop_zero] at h0 ⊢
       rw [List.cons_append, qEnd_step _ _ _ h34 (by rw [stepS_one _ _ _ hc h92]), stepS_one _ _ _ hc h92]
       dsimp only
       rw [show i' + 1 - i' = 1 by omega, List.drop_succ_cons, List.drop_zero]
       exact ih t _ _ (by omega) h0
      ·rw [List.cons_append, List.nil_append, qend_slash c i' h92 hc, qEnd_err _ _ _ h34 (by rw [stepS_end _ _ hc h92]; show (6 : Int) ≠ 0; decide), stepS_end _ _ hc h92]
      ·rw [List.cons_append, qEnd_err _ _ _ h34 (by rw [h5']; decide), h5', qEnd_err _ _ _ h34 (by rw [h5]; decide), h5]
theorem idx_pad (u : List UInt8) (h : Lib.indexByte u 62 < 0) : Lib.indexByte (u ++ [32, 32]) 62 < 0 := by
 have h2 : ¬ 0 ≤ Lib.indexByte (u ++ [32, 32]) 62 := by
  rw [indexByte_any, List.any_append]
  have h3 : ¬ 0 ≤ Lib.indexByte u 62 := by omega
  rw [indexByte_any] at h3
  rw [Bool.eq_false_iff.2 h3]
  decide
 omega
theorem sk_pad (s s' : ByteArray) (k k' : Nat) (h : k < s.size) (hd : s'.data.toList.drop k' = s.data.toList.drop k ++ [32, 32]) (h0 : (skR s.data.toList k).2 ≠ 0) : k' < s'.size ∧ (skR s'.data.toList k').2 = (skR s.data.toList k).2 := by
 have hdk := drop_step s k h
 rw [hdk, List.cons_append] at hd
 obtain ⟨h', e1, e2⟩ := skR_byte s' k' _ _ hd
 refine ⟨h', ?_⟩
 rw [skR_at s k h] at h0 ⊢
 rw [skR_at s' k' h', e1, e2]
 by_cases h34 : s[k].toNat = 34
 ·rw [if_pos h34] at h0
  rw [if_pos h34, if_pos h34]
  exact qend_pad _ _ _ _ (Nat.le_refl _) h0
 ·rw [if_neg h34] at h0
  rw [if_neg h34, if_neg h34]
  by_cases h60 : s[k].toNat = 60
  ·rw [if_pos h60] at h0
   rw [if_pos h60, if_pos h60]
   by_cases hi : Lib.indexByte (s.data.toList.drop k) 62 < 0
   ·rw [if_pos hi, hd, ← List.cons_append, ← hdk, if_pos (idx_pad _ hi)]
   ·rw [if_neg hi] at h0; exact absurd rfl h0
  ·rw [if_neg h60] at h0
   rw [if_neg h60, if_neg h60]
   by_cases h62 : s[k].toNat = 62
   ·rw [if_pos h62, if_pos h62]
   ·rw [if_neg h62] at h0; exact absurd rfl h0
theorem sp_pad (s s' : ByteArray) (n : Nat) : ∀ (n' a k a' k' : Nat) (acc acc' : List (Nat × List UInt8)), s.size - k ≤ n → s'.size - k' ≤ n' → s'.data.toList.drop k' = s.data.toList.drop k ++ [32, 32] →
   (spR s.data.toList 44 n a k acc).2.2 ≠ 0 → (spR s'.data.toList 44 n' a' k' acc').2.2 = (spR s.data.toList 44 n a k acc).2.2 := by
 induction n with
 | zero =>
   intro n' a k a' k' acc acc' h1 h2 hd h0
   rw [spR_end s _ 0 a k acc (by omega)] at h0
   exact absurd rfl h0
 | succ n ih =>
   intro n' a k a' k' acc acc' h1 h2 hd h0
   by_cases hlt : k < s.size
   ·have hdk := drop_step s k hlt
    have hd' := hd
    rw [hdk, List.cons_append] at hd'
    obtain ⟨h', e1, e2⟩ := skR_byte s' k' _ _ hd'
    obtain ⟨m, rfl⟩ : ∃ m, n' = m + 1 := ⟨n' - 1, by omega⟩
    by_cases hse : (s[k].toNat : Int) = 44
    ·rw [spR_sep s _ n a k acc hlt hse] at h0 ⊢
     rw [spR_sep s' _ m a' k' acc' h' (by rw [e1]; exact hse)]
     exact ih m (k + 1) (k + 1) (k' + 1) (k' + 1) _ _ (by omega) (by omega) e2 h0
    ·have hse' : ¬ (s'[k'].toNat : Int) = 44 := by rw [e1]; exact hse
     by_cases hz : (skR s.data.toList k).2 = 0
     ·rw [spR_skip s _ n a k acc hlt hse hz] at h0 ⊢
      obtain ⟨j, hj⟩ : ∃ j, (skR s.data.toList k).1 = j := ⟨_, rfl⟩
      have hok := skR_ok s k hlt hz
      rw [hj] at hok h0 ⊢
      have htok := tok_of 44 s k j hlt hse (by rw [← hj, ← hz])
      have hl := len_list s
      have hcut : s.data.toList.drop k = (s.data.toList.drop k).take (j - k) ++ s.data.toList.drop j := by
       conv => lhs; rw [← List.take_append_drop (j - k) (s.data.toList.drop k)]
       rw [List.drop_drop, show k + (j - k) = j by omega]
      have hlen : ((s.data.toList.drop k).take (j - k)).length = j - k := by rw [List.length_take, List.length_drop]; omega
      have hsk := htok.2.2.1 s' k' (s.data.toList.drop j ++ [32, 32]) (by rw [hd, ← List.append_assoc, ← hcut])
      rw [hlen] at hsk
      have hl' := len_list s'
      have hd2 : s'.data.toList.drop (k' + (j - k)) = s.data.toList.drop j ++ [32, 32] := by
       rw [← List.drop_drop, hd, hcut, List.append_assoc, List.drop_left' hlen]
      rw [spR_skip s' _ m a' k' acc' h' hse' (by rw [hsk]), hsk]
      exact ih m a j a' (k' + (j - k)) _ _ (by omega) (by omega) hd2 h0
     ·obtain ⟨_, hp⟩ := sk_pad s s' k k' hlt hd hz
      rw [spR_err s _ n a k acc hlt hse hz, spR_err s' _ m a' k' acc' h' hse' (by rw [hp]; exact hz)]
      exact hp
   ·rw [spR_end s _ _ a k acc (by omega)] at h0
    exact absurd rfl h0
theorem last_pad (t : List UInt8) (ts : List (List UInt8)) : ∃ t' ts', padV (t ++ Lx.tl 44 ts) = t' ++ Lx.tl 44 ts' ∧ ((∀ u ∈ t :: ts, Sc 44 u) → ∀ u ∈ t' :: ts', Sc 44 u) ∧ (t' :: ts').map (fun t => Lib.trimS t blk) = (t :: ts).map (fun t => Lib.trimS t blk) := by
 have hf : Sc 44 [32, 9] := plain_sc [32, 9] (by decide)
 have hb : Sc 44 [32, 32] := plain_sc [32, 32] (by decide)
 rcases List.eq_nil_or_concat ts with rfl | ⟨us, u, rfl⟩
 ·refine ⟨[32, 9] ++ (t ++ [32, 32]), [], by simp [padV, Lx.tl], fun h x hx => ?_, ?_⟩
  ·rw [List.mem_singleton.1 hx]
   exact hf.app ((h t (by simp)).app hb)
  ·rw [List.map_cons, List.map_cons]
   congr 1
   exact tr_pad t
 ·refine ⟨[32, 9] ++ t, us ++ [u ++ [32, 32]], by simp [padV, Lx.tl], fun h x hx => ?_, ?_⟩
  ·rcases List.mem_cons.1 hx with rfl | hx
   ·exact hf.app (h t (by simp))
   ·rcases List.mem_append.1 hx with hx | hx
    ·exact h x (by simp [hx])
    ·rw [List.mem_singleton.1 hx]
     exact (h u (by simp)).app hb
  ·simp only [List.concat_eq_append, List.map_cons, List.map_append, List.map_nil]
   congr 1
   ·exact tr_front t
   ·congr 2
    exact tr_back u
theorem listR_of (l : List UInt8) (P : List (Nat × List UInt8)) (x : Nat) (e : Int) (h : spF l 44 = (P, x, e)) : listR l = if e ≠ 0 then ([], e) else if (P.map (·.2)).any (fun p => decide (p = [])) then ([], 5) else (P.map (·.2), 0) := by
 unfold listR
 rw [h, List.any_map]
 rfl
theorem listR_pad (v : List UInt8) : listR (padV v) = listR v := by
 obtain ⟨P, x, e, hP⟩ : ∃ P x e, spF v 44 = (P, x, e) := ⟨_, _, _, rfl⟩
 have hs : spF (Txt v).data.toList 44 = (P, x, e) := by rw [txt_list]; exact hP
 unfold spF at hs
 rw [if_neg (by decide)] at hs
 have hlv := txt_size v
 have hlp : (Txt (padV v)).size = v.length + 4 := by rw [txt_size]; unfold padV; simp
 by_cases he : e = 0
 ·subst he
  obtain ⟨_, t, ts, g1, g2, g3⟩ := split_parts (Txt v) 44 _ 0 0 [] P x (by rw [txt_list, txt_size]; omega) (Nat.le_refl _) (Nat.zero_le _) .nil hs
  rw [List.drop_zero, txt_list] at g1
  rw [List.nil_append] at g3
  obtain ⟨t', ts', p1, p2, p3⟩ := last_pad t ts
  rw [← g1] at p1
  have hp := parts_split (Txt (padV v)) 44 (Txt (padV v)).size 0 0 t' ts' [] (by omega) (Nat.le_refl _) (Nat.zero_le _) (p2 g2 t' (by simp)) (fun u hu => p2 g2 u (List.mem_cons_of_mem _ hu)) (by rw [List.drop_zero, txt_list]; exact p1)
  rw [txt_list, txt_size] at hp
  have hF : spF (padV v) 44 = (Lx.pcs 0 (t' :: ts'), 0, 0) := by
   unfold spF
   rw [if_neg (by decide)]
   exact hp
  rw [listR_of _ _ _ _ hF, listR_of _ _ _ _ hP, g3, Lx.pcs_texts, Lx.pcs_texts, p3]
 ·have h1 := sp_pad (Txt v) (Txt (padV v)) (Txt v).data.toList.length ((padV v).length - 2) 0 0 0 2 [] [] (by rw [txt_list, txt_size]; omega) (by rw [hlp]; unfold padV; simp) (by rw [txt_list, txt_list]; rfl) (by rw [hs]; exact he)
  rw [hs] at h1
  have hz : (Txt (padV v)).size ≠ 0 := by rw [hlp]; omega
  have hF : (spF (padV v) 44).2.2 = e := by
   unfold spF
   rw [if_neg (by decide)]
   have d0 : (Txt (padV v)).data.toList.drop 0 = 32 :: (9 :: (v ++ [32, 32])) := by rw [txt_list]; rfl
   have d1 : (Txt (padV v)).data.toList.drop 1 = 9 :: (v ++ [32, 32]) := by rw [txt_list]; rfl
   obtain ⟨k0, b0, _⟩ := skR_byte _ _ _ _ d0
   obtain ⟨k1, b1, _⟩ := skR_byte _ _ _ _ d1
   have s0 : skR (Txt (padV v)).data.toList 0 = (1, 0) := by rw [skR_at _ _ k0, b0]; rfl
   have s1 : skR (Txt (padV v)).data.toList 1 = (2, 0) := by rw [skR_at _ _ k1, b1]; rfl
   have hn : (padV v).length = ((padV v).length - 2) + 1 + 1 := by unfold padV; simp
   have r0 := spR_skip (Txt (padV v)) 44 ((padV v).length - 2 + 1) 0 0 [] k0 (by rw [b0]; decide) (by rw [s0])
   have r1 := spR_skip (Txt (padV v)) 44 ((padV v).length - 2) 0 1 [] k1 (by rw [b1]; decide) (by rw [s1])
   rw [s0] at r0
   rw [s1] at r1
   rw [txt_list] at r0 r1 h1
   rw [hn, r0, r1]
   exact h1
  obtain ⟨P', x', e', hP'⟩ : ∃ P x e, spF (padV v) 44 = (P, x, e) := ⟨_, _, _, rfl⟩
  rw [hP'] at hF
  dsimp only at hF
  subst hF
  rw [listR_of _ _ _ _ hP', listR_of _ _ _ _ hP, if_pos he, if_pos he]
theorem tidF_pad (nm v : List UInt8) : tidF nm (padV v) = tidF nm v := by
 unfold tidF
 rw [listR_pad, tidK_pad]
end Ad
end Go.Proofs.YtbcaindpbeaheaaGreatDoor
namespace Go.Proofs.YtbcaindpbeaheaaGreatDoor
namespace Ad
open Go.RowKit Lx
theorem tidJ_err (T : List (List UInt8) × Int) (h : (tidJ T).2 ≠ 0) : (tidJ T).1 = [] := by
 unfold tidJ at h ⊢
 split
 ·rfl
 ·rename_i hx; rw [if_neg hx] at h; exact absurd rfl h
theorem tidO_err (o : Option (List UInt8)) (h : (if o.isSome then (0 : Int) else 2) ≠ 0) : o.getD [] = [] := by
 cases o with
 | none => rfl
 | some t => exact absurd rfl h
theorem tidK_err (k : Int) (l : List UInt8) (h : (tidK k l).2 ≠ 0) : (tidK k l).1 = [] := by
 have hA : (tidA l).2 ≠ 0 → (tidA l).1 = [] := by
  intro h; unfold tidA at h ⊢
  split
  ·rfl
  ·rename_i hx; rw [if_neg hx] at h; exact tidO_err _ h
 have hV : (tidV l).2 ≠ 0 → (tidV l).1 = [] := by
  intro h; unfold tidV at h ⊢
  split
  ·rfl
  ·rename_i hx; rw [if_neg hx] at h; exact tidO_err _ h
 have hI : (tidI l).2 ≠ 0 → (tidI l).1 = [] := by
  intro h; unfold tidI at h ⊢
  split
  ·rfl
  ·rename_i hx; rw [if_neg hx] at h; exact tidO_err _ h
 have hC : (tidC l).2 ≠ 0 → (tidC l).1 = [] := by
  intro h; unfold tidC at h ⊢
  split
  ·rfl
  ·rename_i hx; rw [if_neg hx] at h; exact absurd rfl h
 have hR : (tidR l).2 ≠ 0 → (tidR l).1 = [] := by
  intro h; unfold tidR at h ⊢
  split
  ·rfl
  ·rename_i hx; rw [if_neg hx] at h; exact absurd rfl h
 have hN : (tidN l).2 ≠ 0 → (tidN l).1 = [] := by
  intro h; unfold tidN at h ⊢
  split
  ·rfl
  ·rename_i hx; rw [if_neg hx] at h; exact absurd rfl h
 have hX : (tidX l).2 ≠ 0 → (tidX l).1 = [] := by
  intro h; unfold tidX at h ⊢
  split
  ·rfl
  ·rename_i hx; rw [if_neg hx] at h; exact absurd rfl h
 unfold tidK at h ⊢
 split at h
 ·rename_i e; rw [if_pos e]; exact hA h
 ·rename_i e; rw [if_neg e]
  split at h
  ·rename_i e; rw [if_pos e]; exact hV h
  ·rename_i e; rw [if_neg e]
   split at h
   ·rename_i e; rw [if_pos e]; exact hC h
   ·rename_i e; rw [if_neg e]
    split at h
    ·rename_i e; rw [if_pos e]; exact hR h
    ·rename_i e; rw [if_neg e]
     split at h
     ·rename_i e; rw [if_pos e]; exact hN h
     ·rename_i e; rw [if_neg e]
      split at h
      ·rename_i e; rw [if_pos e]; exact hI h
      ·rename_i e; rw [if_neg e]
       split at h
       ·rename_i e; rw [if_pos e]; exact hI h
       ·rename_i e; rw [if_neg e]; exact hX h
theorem tidF_err (nm v : List UInt8) (h : (tidF nm v).2 ≠ 0) : (tidF nm v).1 = [] := by
 unfold tidF at h ⊢
 split at h
 ·rename_i e; rw [if_pos e]
 ·rename_i e; rw [if_neg e]
  split at h
  ·rename_i e; rw [if_pos e]
   split at h
   ·rename_i e; rw [if_pos e]
   ·rename_i e; rw [if_neg e]; exact tidJ_err _ h
  ·rename_i e; rw [if_neg e]; exact tidK_err _ _ h
theorem pad_txt (v : ByteArray) : (⟨#[32, 9]⟩ : ByteArray) ++ v ++ ⟨#[32, 32]⟩ = Txt (padV v.data.toList) := by
 have h1 : (⟨#[32, 9]⟩ : ByteArray) = Txt [32, 9] := rfl
 have h2 : (⟨#[32, 32]⟩ : ByteArray) = Txt [32, 32] := rfl
 rw [h1, h2]
 conv => lhs; rw [← txt_self v]
 rw [cat_txt, cat_txt]
 unfold padV
 rw [List.append_assoc]
set_option maxRecDepth 100000 in
set_option maxHeartbeats 8000000 in
theorem stable_law (nm v : ByteArray) (w : World) (hn : nm.size ≤ 1048576) (hv : v.size ≤ 1048576) (H : HEnv w) : Calls Tryz.prog 3 #[.string nm, .string v] w (BoK true w) := by
 have hlv := len_list v
 have hpl : (padV v.data.toList).length ≤ 1049000 := by unfold padV; simp only [List.length_append, List.length_cons, List.length_nil]; omega
 have hpd := tidF_pad nm.data.toList v.data.toList;have her := tidF_err nm.data.toList v.data.toList;have hag := tidF_again nm.data.toList v.data.toList
 obtain ⟨a, x, hr⟩ : ∃ a x, tidF nm.data.toList v.data.toList = (a, x) := ⟨_, _, rfl⟩
 rw [hr] at hpd her
 have HT1 := Lib.hid (fun wz (h : HEnv wz) => (by have h := tidy_any nm v wz (by omega) (by omega) h; rw [hr] at h; exact h : Calls Tryz.prog 4 #[.string nm, .string v] wz (TxE (a, x) wz)))
 have HT2 := Lib.hid (fun wz (h : HEnv wz) => (by have h := tidy_any nm (Txt (padV v.data.toList)) wz (by omega) (by rw [txt_size]; omega) h; rw [txt_list, hpd, ← pad_txt] at h; exact h : Calls Tryz.prog 4 #[.string nm, .string ((⟨#[32, 9]⟩ : ByteArray) ++ v ++ ⟨#[32, 32]⟩)] wz (TxE (a, x) wz)))
 have HAw := Lib.hid (fun wz (h : HEnv wz) => hawake_any wz h)
 have HE := Lib.hid H
 have HA := Lib.hid (fun (h0 : x = 0) (hl : a.length ≤ 1024) wz (h : HEnv wz) => (by
  have h := tidy_any nm (Txt a) wz (by omega) (by rw [txt_size]; omega) h
  rw [txt_list, hag a (by rw [hr, h0]) hl] at h
  exact h : Calls Tryz.prog 4 #[.string nm, .string (Txt a)] wz (TxE (a, 0) wz)))
 have s1 : ((⟨#[32, 9]⟩ : ByteArray) ++ v).size = v.size + 2 := by rw [ByteArray.size_append]; show 2 + v.size = _; omega
 have haa : ((Txt a).toList == (Txt a).toList) = true := beq_self_eq_true _
 have hts := txt_size a;clear hr hpd hag hpl hlv
 by_cases hx : x = 0
 ·subst hx
  clear her
  by_cases hl : a.length ≤ 1024
  ·have HT3 := Lib.hid (HA.out rfl hl)
   have hc1 : decide ((1024 : Int) < ((Txt a).size : Int)) = false := by rw [hts]; simp; omega
   clear hl hts
   go_enter Tryz.func3, Tryz.ntmps3
   go_wp2_with fail
   refine (HT1.out _ HE.out).mono ?_
   rintro e w1 ⟨rfl, hK1⟩
   have K1 := Lib.hid hK1;clear hK1
   dsimp only
   go_wp2_with fail
   refine (HT2.out _ (HE.out.kp K1.out (by simp))).mono ?_
   rintro e w2 ⟨rfl, hK2⟩
   have K2 := Lib.hid (K1.out.trans hK2);clear hK2
   dsimp only
   go_wp2_with fail
   refine (HT3.out _ (HE.out.kp K2.out (by simp))).mono ?_
   rintro e w3 ⟨rfl, hK3⟩
   have K3 := Lib.hid (K2.out.trans hK3);clear hK3
   dsimp only
   go_wp2_with fail
   refine (HAw.out _ (HE.out.kp K3.out (by simp))).mono ?_
   rintro e w4 ⟨rfl, hK4⟩
   have K4 := Lib.hid (K3.out.trans hK4);clear hK4
   go_wp2_with fail
   go_ret
   exact ⟨rfl, K4.out⟩
  ·have hc1 : decide ((1024 : Int) < ((Txt a).size : Int)) = true := by rw [hts]; simp; omega
   clear hl hts
   go_enter Tryz.func3, Tryz.ntmps3
   go_wp2_with fail
   refine (HT1.out _ HE.out).mono ?_
   rintro e w1 ⟨rfl, hK1⟩
   have K1 := Lib.hid hK1;clear hK1
   dsimp only
   go_wp2_with fail
   refine (HT2.out _ (HE.out.kp K1.out (by simp))).mono ?_
   rintro e w2 ⟨rfl, hK2⟩
   have K2 := Lib.hid (K1.out.trans hK2);clear hK2
   dsimp only
   go_wp2_with fail
   refine (HAw.out _ (HE.out.kp K2.out (by simp))).mono ?_
   rintro e w3 ⟨rfl, hK3⟩
   have K3 := Lib.hid (K2.out.trans hK3);clear hK3
   go_wp2_with fail
   go_ret
   exact ⟨rfl, K3.out⟩
 ·obtain rfl : a = [] := her hx
  have hx0 : (x == (0 : Int)) = false := beq_eq_false_iff_ne.2 hx
  have hxx : (x == x) = true := beq_self_eq_true _
  have te := emp_yes [] rfl
  clear hx her hts
  go_enter Tryz.func3, Tryz.ntmps3
  go_wp2_with fail
  refine (HT1.out _ HE.out).mono ?_
  rintro e w1 ⟨rfl, hK1⟩
  have K1 := Lib.hid hK1;clear hK1
  dsimp only
  go_wp2_with fail
  refine (HT2.out _ (HE.out.kp K1.out (by simp))).mono ?_
  rintro e w2 ⟨rfl, hK2⟩
  have K2 := Lib.hid (K1.out.trans hK2);clear hK2
  dsimp only
  go_wp2_with fail
  refine (HAw.out _ (HE.out.kp K2.out (by simp))).mono ?_
  rintro e w3 ⟨rfl, hK3⟩
  have K3 := Lib.hid (K2.out.trans hK3);clear hK3
  go_wp2_with fail
  go_ret
  exact ⟨rfl, K3.out⟩
end Ad
end Go.Proofs.YtbcaindpbeaheaaGreatDoor
