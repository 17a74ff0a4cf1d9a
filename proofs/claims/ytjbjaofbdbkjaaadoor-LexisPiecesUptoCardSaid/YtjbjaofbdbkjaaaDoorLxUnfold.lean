/- The contract of Unfold of package lexis: it returns what the plain specification says, in new memory. Conditions: the text has fewer than 2^32 - 15 bytes, and the library's variable bytealg.MaxLen holds an int. -/
import Derived.Test.YtjbjaofbdbkjaaaDoorLxU
import Derived.Shelf.Strings.SlTrimAscii
namespace Go.Proofs.YtjbjaofbdbkjaaaDoor
namespace Lx
open Go.RowKit Go.Shelf
attribute [local go_sem] Oper.semAt_some

def UnfPost (s : ByteArray) (w : World) (e : Ending) (w' : World) : Prop :=
  ∃ v, e = .returned (.tuple #[v, .int .i64 (unfAt s.data.toList : Nat), .int .u8 (unfE s.data.toList)]) ∧
    w'.ownsRow w.heap.size 43 2 v (unfL s.data.toList).length (pcells (unfL s.data.toList)) ∧ Below w.heap.size w w'

theorem trim_set (s : ByteArray) (w : World) (hs : s.size ≤ 9223372036854775807) :
    Calls Tryd.prog 62 #[.string s, .string ⟨#[32, 9]⟩] w fun e w' => e = .returned (.string ⟨(Lib.trimS s.data.toList blk).toArray⟩) ∧ Below w.heap.size w w' :=
  Any.strings_Trim_laid Tryd.lays160 (by kernel_rfl) s ⟨#[32, 9]⟩ w hs (by decide) (ascii_of_all (by decide))

theorem first_yes (s : ByteArray) (h1 : 1 ≤ s.size) : firstBlank s.data.toList = blankI (s[0]'h1).toNat := by
  have := drop_step s 0 h1
  rw [List.drop_zero] at this
  rw [this]; rfl
theorem first_no (s : ByteArray) (h1 : ¬ 1 ≤ s.size) : s.data.toList = [] := List.eq_nil_of_length_eq_zero (by have := len_list s; omega)
theorem nil_post (s : ByteArray) (w : World) (a : Int) (b : Int) (h1 : unfL s.data.toList = []) (h2 : (unfAt s.data.toList : Int) = a) (h3 : unfE s.data.toList = b) :
    UnfPost s w (.returned (.tuple #[.slice none 0 0, .int .i64 a, .int .u8 b])) w :=
  ⟨_, by rw [h2, h3], by rw [h1]; exact World.ownsRow_nil _ _ _ _, Below.refl _ _⟩

set_option maxRecDepth 100000 in
set_option maxHeartbeats 1000000 in
theorem unfold_blank (s : ByteArray) (w : World) (h1 : 1 ≤ s.size) (hb : blankI (s[0]'h1).toNat = true) :
    Calls Tryd.prog 32 #[.string s] w (UnfPost s w) := by
  have he := isEmpty_no s h1
  have hn := toList_ne s h1
  have hf : firstBlank s.data.toList = true := by rw [first_yes s h1, hb]
  have Hp := Lib.hid (nil_post s w 0 5 (by simp [unfL, hf]) (by simp [unfAt, hf]) (by simp [unfE, hf]))
  have Hb := Lib.hid hb
  clear hb hf
  refine (callsIn_wide (n := 3)).1 ?_
  refine callsIn_of_wp_marks Tryd.func32 rfl trivial ?_ rfl
  simp only [Tryd.ntmps32, List.size_toArray, List.length_cons, List.length_nil, Nat.reduceAdd, Nat.reduceSub, Array.replicate_succ, Array.replicate_zero, List.push_toArray, List.append_toArray, List.nil_append, List.cons_append]
  gi_wp2_with fail
  refine ⟨trivial, ?_⟩
  refine (callsIn_wide.2 (blank_any _ _)).mono ?_
  rintro e w' ⟨rfl, rfl⟩
  rw [Hb.out]
  gi_wp2_with fail
  exact ⟨_, results_tmp3 (t := 2) (u := 3) (v := 4) rfl _ _ _, Hp.out⟩

set_option maxRecDepth 100000 in
set_option maxHeartbeats 1000000 in
theorem unfold_stray (s : ByteArray) (w : World) (h1 : 1 ≤ s.size) (hs : s.size ≤ maxLen) (hb : blankI (s[0]'h1).toNat = false) (hst : stray s.data.toList 0 < s.size) :
    Calls Tryd.prog 32 #[.string s] w (UnfPost s w) := by
  have he := isEmpty_no s h1
  have hn := toList_ne s h1
  have hf : firstBlank s.data.toList = false := by rw [first_yes s h1, hb]
  have hst' : stray s.data.toList 0 < s.data.toList.length := by rw [len_list]; exact hst
  have Hp := Lib.hid (nil_post s w (stray s.data.toList 0) 5 (by unfold unfL; rw [if_pos (by rw [decide_eq_true hst']; simp)]) (by unfold unfAt; rw [hf]; simp only [Bool.false_eq_true, if_false]; rw [if_pos hst']) (by unfold unfE; rw [hf]; simp only [Bool.false_eq_true, if_false]; rw [if_pos hst']))
  have Hb := Lib.hid hb
  have Hs := Lib.hid hs
  obtain ⟨k, hk⟩ : ∃ k, stray s.data.toList 0 = k := ⟨_, rfl⟩
  rw [hk] at hst
  have Hk := Lib.hid hk
  clear hb hf hst' hk hs
  refine (callsIn_wide (n := 3)).1 ?_
  refine callsIn_of_wp_marks Tryd.func32 rfl trivial ?_ rfl
  simp only [Tryd.ntmps32, List.size_toArray, List.length_cons, List.length_nil, Nat.reduceAdd, Nat.reduceSub, Array.replicate_succ, Array.replicate_zero, List.push_toArray, List.append_toArray, List.nil_append, List.cons_append]
  gi_wp2_with fail
  refine ⟨trivial, ?_⟩
  refine (callsIn_wide.2 (blank_any _ _)).mono ?_
  rintro e w' ⟨rfl, rfl⟩
  rw [Hb.out]
  gi_wp2_with fail
  refine ⟨trivial, ?_⟩
  refine (callsIn_wide.2 (stray_any _ _ Hs.out)).mono ?_
  rintro e w' ⟨rfl, rfl⟩
  rw [Hk.out]
  gi_wp2_with fail
  have hp := Hp.out
  rw [Hk.out] at hp
  exact ⟨_, results_tmp3 (t := 2) (u := 3) (v := 4) rfl _ _ _, hp⟩

set_option maxRecDepth 100000 in
set_option maxHeartbeats 1000000 in
theorem unfold_short (s : ByteArray) (w : World) (h1 : 1 ≤ s.size) (hs : s.size ≤ maxLen) (hb : blankI (s[0]'h1).toNat = false) (hst : stray s.data.toList 0 = s.size) (hsuf : Lib.hasSuffix s.data.toList crlf = false) :
    Calls Tryd.prog 32 #[.string s] w (UnfPost s w) := by
  have he := isEmpty_no s h1
  have hn := toList_ne s h1
  have hf : firstBlank s.data.toList = false := by rw [first_yes s h1, hb]
  have hne : (!s.data.toList.isEmpty) = true := by rw [← Lib.toList_data, he]; rfl
  have hst' : ¬ stray s.data.toList 0 < s.data.toList.length := by rw [len_list, hst]; omega
  have Hp := Lib.hid (nil_post s w s.size 6 (by unfold unfL; rw [if_pos (by rw [hsuf, hne]; simp)]) (by unfold unfAt; rw [hf]; simp only [Bool.false_eq_true, if_false]; rw [if_neg hst', if_pos (by rw [hsuf, hne]; rfl), len_list]) (by unfold unfE; rw [hf]; simp only [Bool.false_eq_true, if_false]; rw [if_neg hst', if_pos (by rw [hsuf, hne]; rfl)]))
  have Hb := Lib.hid hb
  have Hs := Lib.hid hs
  have Hk := Lib.hid hst
  have Hsuf := Lib.hid hsuf
  clear hb hf hst' hst hs hsuf hne
  refine (callsIn_wide (n := 3)).1 ?_
  refine callsIn_of_wp_marks Tryd.func32 rfl trivial ?_ rfl
  simp only [Tryd.ntmps32, List.size_toArray, List.length_cons, List.length_nil, Nat.reduceAdd, Nat.reduceSub, Array.replicate_succ, Array.replicate_zero, List.push_toArray, List.append_toArray, List.nil_append, List.cons_append]
  gi_wp2_with fail
  refine ⟨trivial, ?_⟩
  refine (callsIn_wide.2 (blank_any _ _)).mono ?_
  rintro e w' ⟨rfl, rfl⟩
  rw [Hb.out]
  gi_wp2_with fail
  refine ⟨trivial, ?_⟩
  refine (callsIn_wide.2 (stray_any _ _ Hs.out)).mono ?_
  rintro e w' ⟨rfl, rfl⟩
  rw [Hk.out]
  gi_wp2_with fail
  refine ⟨trivial, ?_⟩
  refine (callsIn_wide.2 (Tryd.strings_HasSuffix _ _ _ (by have := Hs.out; unfold maxLen at this; omega))).mono ?_
  rintro e w' ⟨rfl, rfl⟩
  rw [show (⟨#[13, 10]⟩ : ByteArray).data.toList = crlf from rfl, Hsuf.out]
  gi_wp2_with fail
  exact ⟨_, results_tmp3 (t := 2) (u := 3) (v := 4) rfl _ _ _, Hp.out⟩
end Lx
end Go.Proofs.YtjbjaofbdbkjaaaDoor
