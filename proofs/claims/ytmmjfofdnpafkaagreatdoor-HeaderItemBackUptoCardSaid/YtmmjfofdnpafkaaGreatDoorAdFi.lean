/- Contracts of find and Get of package address. Names have at most 2^21 bytes. -/
import Derived.Test.YtmmjfofdnpafkaaGreatDoorAdPq
namespace Go.Proofs.YtmmjfofdnpafkaaGreatDoor
namespace Ad
open Go.RowKit Lx

/-- The index of the first parameter whose name is nm in lower case, counted from i; -1: there is none. -/
def fndF (nm : List UInt8) : List Prm → Nat → Int
  | [], _ => -1
  | p :: t, i => if lowL p.1 == nm then (i : Int) else fndF nm t (i + 1)
def fndI (l : List Prm) (nm : List UInt8) : Int := fndF (lowL nm) l 0
theorem fndF_cases (nm : List UInt8) : ∀ (l : List Prm) (i : Nat), (fndF nm l i = -1 ∧ ∀ j, j < l.length → (lowL l[j]!.1 == nm) = false) ∨ ∃ k, k < l.length ∧ fndF nm l i = ((i + k : Nat) : Int) ∧ (lowL l[k]!.1 == nm) = true ∧ ∀ j, j < k → (lowL l[j]!.1 == nm) = false := by
  intro l
  induction l with
  | nil => intro i; exact .inl ⟨rfl, fun j hj => absurd hj (Nat.not_lt_zero _)⟩
  | cons p t ih =>
    intro i
    unfold fndF
    cases hc : lowL p.1 == nm with
    | true => exact .inr ⟨0, by simp, by simp, by simpa using hc, fun j hj => absurd hj (Nat.not_lt_zero _)⟩
    | false =>
      simp only [Bool.false_eq_true, if_false]
      rcases ih (i + 1) with ⟨h, h2⟩ | ⟨k, hk, h, h1, h2⟩
      · refine .inl ⟨h, fun j hj => ?_⟩
        cases j with
        | zero => simpa using hc
        | succ j => simpa using h2 j (by simpa using hj)
      · refine .inr ⟨k + 1, by simpa using hk, by rw [h]; congr 1; omega, by simpa using h1, fun j hj => ?_⟩
        cases j with
        | zero => simpa using hc
        | succ j => simpa using h2 j (by omega)
theorem fndI_cases (l : List Prm) (nm : List UInt8) : (fndI l nm = -1 ∧ ∀ j, j < l.length → (lowL l[j]!.1 == lowL nm) = false) ∨ ∃ k, k < l.length ∧ fndI l nm = (k : Int) ∧ (lowL l[k]!.1 == lowL nm) = true ∧ ∀ j, j < k → (lowL l[j]!.1 == lowL nm) = false := by
  rcases fndF_cases (lowL nm) l 0 with h | ⟨k, hk, h, h1⟩
  · exact .inl h
  · exact .inr ⟨k, hk, by unfold fndI; rw [h, Nat.zero_add], h1⟩
/-- A parameter whose name is not too long. -/
abbrev SPrm := { q : Prm // q.1.length ≤ 2097152 }
instance : Inhabited SPrm := ⟨⟨([], [], false), by simp⟩⟩
theorem lift_prm : ∀ l : List Prm, SzP l → ∃ zs : List SPrm, zs.map (·.val) = l := by
  intro l
  induction l with
  | nil => intro _; exact ⟨[], rfl⟩
  | cons p t ih =>
    intro h
    obtain ⟨zs, hz⟩ := ih (fun q hq => h q (List.mem_cons_of_mem _ hq))
    exact ⟨⟨p, (h p (List.mem_cons_self ..)).1⟩ :: zs, by simp [hz]⟩
theorem idx_map (nm : List UInt8) (d : SPrm) : ∀ (zs : List SPrm) (i : Nat), Lib.idxByFrom (fun _ (q : SPrm) => lowL q.val.1 == nm) d zs i = fndF nm (zs.map (·.val)) i := by
  intro zs
  induction zs with
  | nil => intro i; rfl
  | cons z t ih =>
    intro i
    rw [List.map_cons]
    unfold Lib.idxByFrom fndF
    rw [ih]
set_option maxRecDepth 100000 in
set_option maxHeartbeats 400000 in
/-- The closure of find. -/
theorem find_pred (bp : Nat) (nm : List UInt8) (w : World) (hB : bp < w.heap.size) (hcell : w.cell? ⟨bp, 0, none⟩ = some (.string (Txt nm))) :
    PredBelow Tryz.prog 197 #[.pointer (some ⟨bp, 0, none⟩)] (fun x : SPrm => .agg (pc1 x.val).toArray) (fun q => lowL q.val.1 == nm) w := fun W x hb => by
  have hc : W.cell? ⟨bp, 0, none⟩ = some (.string (Txt nm)) := (hb.cell (p := ⟨bp, 0, none⟩) hB).trans hcell
  have hBW : bp < W.heap.size := Nat.lt_of_lt_of_le hB hb.size
  have hne : bp ≠ W.heap.size := by omega
  obtain ⟨⟨x1, x2, x3⟩, hx⟩ := x
  dsimp only at hx ⊢
  simp only [pc1]
  obtain ⟨wA, hwA⟩ : ∃ wA, W.alloc (.cells #[.string ⟨x1.toArray⟩, .string ⟨x2.toArray⟩, .bool x3] 72) = wA := ⟨_, rfl⟩
  have BA := show Blk wA W.heap.size 72 #[.string (Txt x1), .string (Txt x2), .bool x3] from by rw [← hwA]; exact Blk.new W _ _
  have KA := Lib.hid (show Kp [] W wA from by rw [← hwA]; exact (Kp.refl [] W).alloc _)
  have hr : wA.cell? ⟨bp, 0, none⟩ = some (.string (Txt nm)) := (KA.out.cell (p := ⟨bp, 0, none⟩) hBW (by simp)).trans hc
  have g0 := grew_cell (BA.cell 0)
  have g1 := grew_cell hr
  have HL := Lib.hid (fun wz => lowK x1 hx wz)
  have HS := Lib.hid (by rw [str_beq] : ((Txt (lowL x1)).toList == (Txt nm).toList) = (lowL x1 == nm))
  have Hb := Lib.hid hb
  clear hc hr hb BA hcell
  go_enter Tryz.func197, Tryz.ntmps197
  go_wp2_with fail
  refine wp_region_grew (by kernel_rfl) (by kernel_rfl) ?_
  repeat (go_big_quiet_step ((go_at_call 113; exact Calls.grew_of (HL.out _) (fun _ _ h => h))))
  refine wpQuiet_nil ?_
  intro _ hw'
  obtain ⟨nq, hw''⟩ := hw'
  subst hw''
  go_wp2_with fail
  go_ret
  exact ⟨ret_bool HS.out, Hb.out.trans ((KA.out.trans (grew_kp _ _)).nilBelow.mono Hb.out.size)⟩
/-- An integer, and memory that is only added to. -/
def InK (x : Int) (w : World) (e : Ending) (w' : World) : Prop := e = .returned (.int .i64 x) ∧ Kp [] w w'
/-- slices.IndexFunc at a slice without elements. -/
theorem indexFunc_zero (A : Option Addr) (c : Nat) (f : Value) (w : World) :
    Calls Tryz.prog 196 #[.slice A 0 c, f] w (Ret (.int .i64 (-1)) w) := by
  go_enter Tryz.func196, Tryz.ntmps196
  go_wp2_with fail
  go_loop [5, 8] (fun _ i => i = .int .i64 0) (fun _ _ => 0)
  case atStart => rfl
  case round =>
    subst hrel
    go_wp2_with fail
    go_ret
    exact ⟨rfl, rfl⟩
theorem indexFunc_any (B : Nat) (v : Value) (l : List Prm) (nm : List UInt8) (bp : Nat) (w : World) (hP : PmIn B w v l) (hB : B ≤ w.heap.size) (hz : SzP l) (hl : l.length ≤ 4194304) (hbp : bp < w.heap.size) (hcell : w.cell? ⟨bp, 0, none⟩ = some (.string (Txt nm))) :
    Calls Tryz.prog 196 #[v, .func (.func 197) #[] #[.pointer (some ⟨bp, 0, none⟩)]] w (InK (fndF nm l 0) w) := by
  obtain ⟨n, c, rfl, hc, ⟨h0, rfl⟩ | ⟨b, o, rfl, hb, hcell2⟩⟩ := hP
  · have : l = [] := List.eq_nil_of_length_eq_zero h0
    subst this
    refine (indexFunc_zero none c _ w).mono ?_
    rintro e w' ⟨rfl, rfl⟩
    exact ⟨rfl, Kp.refl _ _⟩
  · obtain ⟨zs, hzs⟩ := lift_prm l hz
    have hlen : zs.length = l.length := by rw [← hzs, List.length_map]
    have hat : ∀ j, j < zs.length → l[j]! = zs[j]!.val := fun j hj => by
      rw [← hzs, getElem!_pos (zs.map _) j (by rw [List.length_map]; exact hj), getElem!_pos zs j hj, List.getElem_map]
    have eg : ∀ args w, (callFunc 197 args).run Tryz.prog w = .ok (.enter 197 args) w := enters_of Tryz.func197 (by kernel_rfl) rfl
    have hix := AnyQ.slices_IndexFunc Tryz.slIdx 3 Tryz.isAgg72 Tryz.sizeOf72 (fun q : SPrm => pc1 q.val) (fun _ => rfl) (fun q => lowL q.val.1 == nm) 197 #[.pointer (some ⟨bp, 0, none⟩)] eg b o l.length c zs w
      (find_pred bp nm w hbp hcell) (by omega) (by omega) (by omega) (fun j hj i v hi => by
        have := pcl_at l j _ (getD_some l j (by omega)) i v (by rw [hat j hj]; exact hi)
        have := hcell2 _ _ this
        rwa [← Nat.add_assoc] at this)
    rw [List.take_of_length_le (by omega)] at hix
    refine hix.mono ?_
    rintro e w' ⟨rfl, h⟩
    refine ⟨?_, (Kp.refl [] w).below h⟩
    rw [← hzs]
    exact congrArg (fun x => Ending.returned (.int .i64 x)) (idx_map nm default zs 0)
set_option maxRecDepth 100000 in
set_option maxHeartbeats 1000000 in
theorem find_any (B : Nat) (v : Value) (l : List Prm) (nm : List UInt8) (w : World) (hP : PmIn B w v l) (hB : B ≤ w.heap.size) (hz : SzP l) (hl : l.length ≤ 4194304) (hn : nm.length ≤ 2097152) :
    Calls Tryz.prog 115 #[v, .string (Txt nm)] w (InK (fndI l nm) w) := by
  have hAl := (Kp.refl [] w).alloc (.cells #[.string (Txt nm)] 9)
  obtain ⟨wA, hwA⟩ : ∃ wA, w.alloc (.cells #[.string (Txt nm)] 9) = wA := ⟨_, rfl⟩
  have BA := show Blk wA w.heap.size 9 #[.string (Txt nm)] from by rw [← hwA]; exact Blk.new w _ _
  rw [hwA] at hAl
  have PA := Lib.hid (hP.kp hAl hB (by simp))
  have b0 := BA.cell 0
  have HBA := Lib.hid BA
  have KA := Lib.hid hAl
  obtain ⟨A, c, rfl⟩ := hP.form
  clear BA hAl hP
  go_enter Tryz.func115, Tryz.ntmps115
  go_wp2_with fail
  refine (lowK nm hn _).mono ?_
  rintro e w1 ⟨rfl, hK1⟩
  have B1 := Lib.hid (HBA.out.kp hK1 (by simp))
  have B2 := Lib.hid (B1.out.set_ 0 (.string (Txt (lowL nm))))
  have hK2 := (Kp.refl [w.heap.size] w1).setCell (p := ⟨w.heap.size, 0, none⟩) (.inl (by simp)) (.string (Txt (lowL nm)))
  have K2 := Lib.hid ((KA.out.trans hK1).setCell (p := ⟨w.heap.size, 0, none⟩) (.inr (Nat.le_refl _)) (.string (Txt (lowL nm))))
  have P2 := Lib.hid ((PA.out.kp hK1 (by have := KA.out.size; omega) (by simp)).kp hK2 (by have := KA.out.size; have := hK1.size; omega) (by simp; omega))
  have c0 := B1.out.cell 0
  have f0 := B1.out.frozen 0
  clear hK1 hK2 b0
  go_wp2_with fail
  refine (indexFunc_any B _ l (lowL nm) w.heap.size _ P2.out (by have := K2.out.size; omega) hz hl (by have := B2.out.lt; exact this) (B2.out.cell 0)).mono ?_
  rintro e w3 ⟨rfl, hK3⟩
  have K3 := Lib.hid (K2.out.trans hK3)
  clear hK3
  go_wp2_with fail
  go_ret
  exact ⟨rfl, K3.out⟩
/-- What Get answers. -/
def getV (l : List Prm) (nm : List UInt8) : List UInt8 := if fndI l nm < 0 then [] else l[(fndI l nm).toNat]!.2.1
def getB (l : List Prm) (nm : List UInt8) : Bool := !decide (fndI l nm < 0)
def GeP (l : List Prm) (nm : List UInt8) (w : World) (e : Ending) (w' : World) : Prop := e = .returned (.tuple #[.string (Txt (getV l nm)), .bool (getB l nm)]) ∧ Kp [] w w'
set_option maxRecDepth 100000 in
set_option maxHeartbeats 1000000 in
theorem get_any (B : Nat) (v : Value) (l : List Prm) (nm : List UInt8) (w : World) (hP : PmIn B w v l) (hB : B ≤ w.heap.size) (hz : SzP l) (hl : l.length ≤ 4194304) (hn : nm.length ≤ 2097152) :
    Calls Tryz.prog 54 #[v, .string (Txt nm)] w (GeP l nm w) := by
  have HF := Lib.hid (find_any B v l nm w hP hB hz hl hn)
  have HPm := Lib.hid hP
  obtain ⟨n, c, hn2, hc, ⟨h0, rfl⟩ | ⟨b, o, rfl, hb, hcell2⟩⟩ := hP
  · have hl0 : l = [] := List.eq_nil_of_length_eq_zero (by omega)
    subst hl0
    have HI := Lib.hid (show fndI [] nm = -1 from rfl)
    have HV := Lib.hid (show getV [] nm = [] from rfl)
    have HG := Lib.hid (show getB [] nm = false from rfl)
    clear h0 hn2 hc hz HPm
    go_enter Tryz.func54, Tryz.ntmps54
    go_wp2_with fail
    refine HF.out.mono ?_
    rintro e w1 ⟨rfl, hK1⟩
    rw [HI.out]
    go_wp2_with fail
    go_ret2
    unfold GeP
    rw [HV.out, HG.out]
    exact ⟨rfl, hK1⟩
  · have HN := Lib.hid hn2
    rcases fndI_cases l nm with ⟨hI, _⟩ | ⟨k, hk, hI, _⟩
    · have HI := Lib.hid hI
      have HV := Lib.hid (by unfold getV; rw [if_pos (by rw [hI]; decide)] : getV l nm = [])
      have HG := Lib.hid (by unfold getB; rw [hI]; rfl : getB l nm = false)
      clear hI hn2 hc hcell2
      go_enter Tryz.func54, Tryz.ntmps54
      go_wp2_with fail
      refine HF.out.mono ?_
      rintro e w1 ⟨rfl, hK1⟩
      rw [HI.out]
      go_wp2_with fail
      go_ret2
      unfold GeP
      rw [HV.out, HG.out]
      exact ⟨rfl, hK1⟩
    · obtain ⟨q1, q2, q3, hq⟩ : ∃ a b c, l[k]! = (a, b, c) := ⟨_, _, _, rfl⟩
      have HI := Lib.hid hI
      have HV := Lib.hid (by unfold getV; rw [if_neg (by rw [hI]; omega), hI, Int.toNat_natCast, hq] : getV l nm = q2)
      have HG := Lib.hid (by unfold getB; rw [hI]; simp : getB l nm = true)
      have hsome : l[k]? = some (q1, q2, q3) := by rw [← hq]; exact getD_some l k hk
      have c1 : w.cell? ⟨b, o + k * 3 + 1, none⟩ = some (.string (Txt q2)) := by rw [Nat.add_assoc]; exact hcell2 _ _ (pcl_at l k _ hsome 1 _ rfl)
      have hbw : b < w.heap.size := by omega
      have HC1 := Lib.hid c1
      have hkn : k < n := by omega
      clear hI hn2 hc hcell2 hq hsome c1
      go_enter Tryz.func54, Tryz.ntmps54
      go_wp2_with fail
      refine HF.out.mono ?_
      rintro e w1 ⟨rfl, hK1⟩
      rw [HI.out]
      have d1 := (hK1.cell (p := ⟨b, o + k * 3 + 1, none⟩) hbw (by simp)).trans HC1.out
      have HK1 := Lib.hid hK1
      clear hK1
      go_wp2_with fail
      go_ret2
      unfold GeP
      rw [HV.out, HG.out]
      exact ⟨rfl, HK1.out⟩
end Ad
end Go.Proofs.YtmmjfofdnpafkaaGreatDoor
