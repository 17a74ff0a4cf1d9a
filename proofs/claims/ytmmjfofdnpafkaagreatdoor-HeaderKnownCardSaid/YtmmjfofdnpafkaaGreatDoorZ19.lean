/- Texts of one set of library modules: HeKd. -/
import Derived.Test.YtmmjfofdnpafkaaGreatDoorZ16
import Derived.Test.YtmmjfofdnpafkaaGreatDoorZ9
import Derived.Test.YtmmjfofdnpafkaaGreatDoorZ17
import Derived.Test.YtmmjfofdnpafkaaGreatDoorZ13
import Derived.Test.YtmmjfofdnpafkaaGreatDoorZ7
import Derived.Test.YtmmjfofdnpafkaaGreatDoorZ1
import Derived.Test.YtmmjfofdnpafkaaGreatDoorZ15
import Derived.Test.YtmmjfofdnpafkaaGreatDoorZ6
namespace Go.Proofs.YtmmjfofdnpafkaaGreatDoor
namespace Ad
open Go.RowKit Lx
theorem kd1 : canR (ByteArray.mk #[118]).data.toList = ([86, 105, 97], 0) := by decide +kernel
theorem kd2 : canR (ByteArray.mk #[120, 45, 109, 121, 45, 72, 69, 65, 68, 69, 82]).data.toList = ([88, 45, 77, 121, 45, 72, 101, 97, 100, 101, 114], 0) := by decide +kernel
theorem kd3 : canR (ByteArray.mk #[97, 32, 98]).data.toList = ([], 5) := by decide +kernel
theorem kd4 : listR (ByteArray.mk #[97, 32, 44, 32, 34, 98, 44, 99, 34]).data.toList = ([[97], [34, 98, 44, 99, 34]], 0) := by decide +kernel
theorem kd5 : listR (ByteArray.mk #[97, 44, 44, 98]).data.toList = ([], 5) := by decide +kernel
theorem kd6 : pviO [117, 100, 112] [72] [122, 57] 5060 [] = some [83, 73, 80, 47, 50, 46, 48, 47, 85, 68, 80, 32, 104, 58, 53, 48, 54, 48, 59, 98, 114, 97, 110, 99, 104, 61, 122, 57] := by decide +kernel
theorem kd7 : itmR (ByteArray.mk #[116, 101, 120, 116, 47, 112, 108, 97, 105, 110, 32, 59, 32, 97, 61, 49]).data.toList = (([116, 101, 120, 116, 47, 112, 108, 97, 105, 110], [([97], [49], true)]), 0) := by decide +kernel
theorem kdv0 : viaR (ByteArray.mk #[83, 73, 80, 47, 50, 46, 48, 47, 85, 68, 80]).data.toList = (⟨[], [], 0, [], []⟩, 5) := by decide +kernel
theorem kdv1 : viaR (ByteArray.mk #[83, 73, 80, 47, 50, 46, 48, 47, 85, 68, 80, 32, 104, 58, 48]).data.toList = (⟨[], [], 0, [], []⟩, 3) := by decide +kernel
theorem kdv2 : viaR (ByteArray.mk #[83, 73, 80, 47, 50, 46, 48, 47, 85, 68, 80, 32, 104, 59, 97, 59, 97]).data.toList = (⟨[], [], 0, [], []⟩, 7) := by decide +kernel
theorem kdv3 : viaR (ByteArray.mk #[83, 73, 80, 47, 50, 46, 48, 47, 84, 67, 80, 32, 91, 58, 58, 49, 93, 58, 55, 48, 32, 59, 32, 98, 114, 97, 110, 99, 104, 61, 97]).data.toList = (⟨[84, 67, 80], [91, 58, 58, 49, 93], 70, [97], [([98, 114, 97, 110, 99, 104], [97], true)]⟩, 0) := by decide +kernel
theorem kdv4 : viaR (ByteArray.mk #[83, 73, 80, 47, 51, 46, 48, 47, 85, 68, 80, 32, 104]).data.toList = (⟨[], [], 0, [], []⟩, 5) := by decide +kernel
theorem kdc0 : cseqR (ByteArray.mk #[49]).data.toList = (0, [], 5) := by decide +kernel
theorem kdc1 : cseqR (ByteArray.mk #[120, 32, 65, 67, 75]).data.toList = (0, [], 5) := by decide +kernel
theorem kdc2 : cseqR (ByteArray.mk #[50, 49, 52, 55, 52, 56, 51, 54, 52, 56, 32, 65, 67, 75]).data.toList = (0, [], 3) := by decide +kernel
theorem kdr : rckR (ByteArray.mk #[49, 32, 65, 67, 75]).data.toList = (0, 0, [], 5) := by decide +kernel
theorem kds : trS [32, 42, 32] = [42] := by decide +kernel
theorem kdt : conT (conV [[60, 115, 105, 112, 58, 97, 62, 44, 32, 115, 105, 112, 58, 98], [60, 115, 105, 112, 58, 99, 62]]) = (false, 3, 0) := by decide +kernel
theorem kdtl : ∀ v ∈ ([[60, 115, 105, 112, 58, 97, 62, 44, 32, 115, 105, 112, 58, 98], [60, 115, 105, 112, 58, 99, 62]] : List (List UInt8)), ∀ x ∈ (listR v).1, x.length ≤ 1048576 := by decide +kernel
theorem kdu : conT (conV [[42], [42]]) = (false, 0, 5) := by decide +kernel
theorem kdul : ∀ v ∈ ([[42], [42]] : List (List UInt8)), ∀ x ∈ (listR v).1, x.length ≤ 1048576 := by decide +kernel
theorem kdw0c : canR (ByteArray.mk #[109, 97, 120, 45, 102, 111, 114, 119, 97, 114, 100, 115]).data.toList = ([77, 97, 120, 45, 70, 111, 114, 119, 97, 114, 100, 115], 0) := by decide +kernel
theorem kdw0k : kindR [77, 97, 120, 45, 70, 111, 114, 119, 97, 114, 100, 115] = (5, false) := by decide +kernel
theorem kdw0t : tidN (ByteArray.mk #[32, 48, 55, 48, 32]).data.toList = ([55, 48], 0) := by decide +kernel
theorem kdw0n : numN (trS (ByteArray.mk #[32, 48, 55, 48, 32]).data.toList) ≤ 9223372036854775807 := by decide +kernel
theorem kdw1c : canR (ByteArray.mk #[83, 117, 98, 106, 101, 99, 116]).data.toList = ([83, 117, 98, 106, 101, 99, 116], 0) := by decide +kernel
theorem kdw1k : kindR [83, 117, 98, 106, 101, 99, 116] = (0, false) := by decide +kernel
theorem kdw1t : tidX (ByteArray.mk #[32, 97, 32, 32, 98, 32]).data.toList = ([97, 32, 32, 98], 0) := by decide +kernel
theorem kdw2c : canR (ByteArray.mk #[69, 120, 112, 105, 114, 101, 115]).data.toList = ([69, 120, 112, 105, 114, 101, 115], 0) := by decide +kernel
theorem kdw2k : kindR [69, 120, 112, 105, 114, 101, 115] = (5, false) := by decide +kernel
theorem kdw2t : tidN (ByteArray.mk #[120]).data.toList = ([], 5) := by decide +kernel
theorem kdw2n : numN (trS (ByteArray.mk #[120]).data.toList) ≤ 9223372036854775807 := by decide +kernel
theorem kdxc : canR (ByteArray.mk #[107]).data.toList = ([83, 117, 112, 112, 111, 114, 116, 101, 100], 0) := by decide +kernel
theorem kdxk : kindR [83, 117, 112, 112, 111, 114, 116, 101, 100] = (7, true) := by decide +kernel
theorem kdxl : listR (ByteArray.mk #[84, 105, 109, 101, 114, 32, 44, 49, 48, 48, 114, 101, 108]).data.toList = ([[84, 105, 109, 101, 114], [49, 48, 48, 114, 101, 108]], 0) := by decide +kernel
theorem kdxm : tidM ([83, 117, 112, 112, 111, 114, 116, 101, 100] == conN) tidI [[84, 105, 109, 101, 114], [49, 48, 48, 114, 101, 108]] = ([[84, 105, 109, 101, 114], [49, 48, 48, 114, 101, 108]], 0) := by decide +kernel
theorem kdxj : tidJ ([[84, 105, 109, 101, 114], [49, 48, 48, 114, 101, 108]], 0) = ([84, 105, 109, 101, 114, 44, 32, 49, 48, 48, 114, 101, 108], 0) := by decide +kernel
theorem kdyc : canR (ByteArray.mk #[]).data.toList = ([], 5) := by decide +kernel
set_option maxRecDepth 100000 in
set_option maxHeartbeats 16000000 in
theorem hknown_law (w : World) (H : HEnv w) : Calls Tryz.prog 15 #[] w (BoK true w) := by
 have HC1 := Lib.hid (fun wz (hz : HEnv wz) => (by have h := canon_any (ByteArray.mk #[118]) wz (by decide) hz; rw [kd1] at h; exact h : Calls Tryz.prog 58 #[.string ⟨#[118]⟩] wz (TxE ([86, 105, 97], 0) wz)))
 have HC2 := Lib.hid (fun wz (hz : HEnv wz) => (by have h := canon_any (ByteArray.mk #[120, 45, 109, 121, 45, 72, 69, 65, 68, 69, 82]) wz (by decide) hz; rw [kd2] at h; exact h : Calls Tryz.prog 58 #[.string ⟨#[120, 45, 109, 121, 45, 72, 69, 65, 68, 69, 82]⟩] wz (TxE ([88, 45, 77, 121, 45, 72, 101, 97, 100, 101, 114], 0) wz)))
 have HC3 := Lib.hid (fun wz (hz : HEnv wz) => (by have h := canon_any (ByteArray.mk #[97, 32, 98]) wz (by decide) hz; rw [kd3] at h; exact h : Calls Tryz.prog 58 #[.string ⟨#[97, 32, 98]⟩] wz (TxE ([], 5) wz)))
 have HC4 := Lib.hid (fun wz (_ : HEnv wz) => (by have h := list_any (ByteArray.mk #[97, 32, 44, 32, 34, 98, 44, 99, 34]) wz (by decide); rw [kd4] at h; exact h : Calls Tryz.prog 31 #[.string ⟨#[97, 32, 44, 32, 34, 98, 44, 99, 34]⟩] wz (LtP ([[97], [34, 98, 44, 99, 34]], 0) wz)))
 have HC5 := Lib.hid (fun wz (_ : HEnv wz) => (by have h := list_any (ByteArray.mk #[97, 44, 44, 98]) wz (by decide); rw [kd5] at h; exact h : Calls Tryz.prog 31 #[.string ⟨#[97, 44, 44, 98]⟩] wz (LtP ([], 5) wz)))
 have HC6 := Lib.hid (fun wz (hz : HEnv wz) => (by have h := printVia_any 0 [117, 100, 112] [72] [122, 57] 5060 none 0 [] wz (PmIn.nil _ _) (Nat.zero_le _) (by decide) (by decide) (by decide) (fun p hp => by cases hp) (by decide) (by decide) (by decide) hz.env; rw [kd6] at h; exact h : Calls Tryz.prog 22 #[.agg #[.string ⟨#[117, 100, 112]⟩, .string ⟨#[72]⟩, .int .i64 5060, .string ⟨#[122, 57]⟩, .slice none 0 0]] wz (TxE ([83, 73, 80, 47, 50, 46, 48, 47, 85, 68, 80, 32, 104, 58, 53, 48, 54, 48, 59, 98, 114, 97, 110, 99, 104, 61, 122, 57], 0) wz)))
 have HC7 := Lib.hid (fun wz (hz : HEnv wz) => (by have h := item_any (ByteArray.mk #[116, 101, 120, 116, 47, 112, 108, 97, 105, 110, 32, 59, 32, 97, 61, 49]) wz (by decide) hz.env; rw [kd7] at h; exact h : Calls Tryz.prog 43 #[.string ⟨#[116, 101, 120, 116, 47, 112, 108, 97, 105, 110, 32, 59, 32, 97, 61, 49]⟩] wz (ItP (([116, 101, 120, 116, 47, 112, 108, 97, 105, 110], [([97], [49], true)]), 0) wz)))
 have HV0 := Lib.hid (fun wz (hz : HEnv wz) => (by have h := via_any (ByteArray.mk #[83, 73, 80, 47, 50, 46, 48, 47, 85, 68, 80]) wz (by decide) hz.env; rw [kdv0] at h; exact h : Calls Tryz.prog 20 #[.string ⟨#[83, 73, 80, 47, 50, 46, 48, 47, 85, 68, 80]⟩] wz (ViE (⟨[], [], 0, [], []⟩, 5) wz)))
 have HV1 := Lib.hid (fun wz (hz : HEnv wz) => (by have h := via_any (ByteArray.mk #[83, 73, 80, 47, 50, 46, 48, 47, 85, 68, 80, 32, 104, 58, 48]) wz (by decide) hz.env; rw [kdv1] at h; exact h : Calls Tryz.prog 20 #[.string ⟨#[83, 73, 80, 47, 50, 46, 48, 47, 85, 68, 80, 32, 104, 58, 48]⟩] wz (ViE (⟨[], [], 0, [], []⟩, 3) wz)))
 have HV2 := Lib.hid (fun wz (hz : HEnv wz) => (by have h := via_any (ByteArray.mk #[83, 73, 80, 47, 50, 46, 48, 47, 85, 68, 80, 32, 104, 59, 97, 59, 97]) wz (by decide) hz.env; rw [kdv2] at h; exact h : Calls Tryz.prog 20 #[.string ⟨#[83, 73, 80, 47, 50, 46, 48, 47, 85, 68, 80, 32, 104, 59, 97, 59, 97]⟩] wz (ViE (⟨[], [], 0, [], []⟩, 7) wz)))
 have HV3 := Lib.hid (fun wz (hz : HEnv wz) => (by have h := via_any (ByteArray.mk #[83, 73, 80, 47, 50, 46, 48, 47, 84, 67, 80, 32, 91, 58, 58, 49, 93, 58, 55, 48, 32, 59, 32, 98, 114, 97, 110, 99, 104, 61, 97]) wz (by decide) hz.env; rw [kdv3] at h; exact h : Calls Tryz.prog 20 #[.string ⟨#[83, 73, 80, 47, 50, 46, 48, 47, 84, 67, 80, 32, 91, 58, 58, 49, 93, 58, 55, 48, 32, 59, 32, 98, 114, 97, 110, 99, 104, 61, 97]⟩] wz (ViE (⟨[84, 67, 80], [91, 58, 58, 49, 93], 70, [97], [([98, 114, 97, 110, 99, 104], [97], true)]⟩, 0) wz)))
 have HV4 := Lib.hid (fun wz (hz : HEnv wz) => (by have h := via_any (ByteArray.mk #[83, 73, 80, 47, 51, 46, 48, 47, 85, 68, 80, 32, 104]) wz (by decide) hz.env; rw [kdv4] at h; exact h : Calls Tryz.prog 20 #[.string ⟨#[83, 73, 80, 47, 51, 46, 48, 47, 85, 68, 80, 32, 104]⟩] wz (ViE (⟨[], [], 0, [], []⟩, 5) wz)))
 have HS0 := Lib.hid (fun wz (_ : HEnv wz) => (by have h := cseq_any (ByteArray.mk #[49]) wz (by decide); rw [kdc0] at h; exact h : Calls Tryz.prog 25 #[.string ⟨#[49]⟩] wz (LeP (0, [], 5) wz)))
 have HS1 := Lib.hid (fun wz (_ : HEnv wz) => (by have h := cseq_any (ByteArray.mk #[120, 32, 65, 67, 75]) wz (by decide); rw [kdc1] at h; exact h : Calls Tryz.prog 25 #[.string ⟨#[120, 32, 65, 67, 75]⟩] wz (LeP (0, [], 5) wz)))
 have HS2 := Lib.hid (fun wz (_ : HEnv wz) => (by have h := cseq_any (ByteArray.mk #[50, 49, 52, 55, 52, 56, 51, 54, 52, 56, 32, 65, 67, 75]) wz (by decide); rw [kdc2] at h; exact h : Calls Tryz.prog 25 #[.string ⟨#[50, 49, 52, 55, 52, 56, 51, 54, 52, 56, 32, 65, 67, 75]⟩] wz (LeP (0, [], 3) wz)))
 have HR := Lib.hid (fun wz (_ : HEnv wz) => (by have h := hrack_any (ByteArray.mk #[49, 32, 65, 67, 75]) wz (by decide); rw [kdr] at h; exact h : Calls Tryz.prog 27 #[.string ⟨#[49, 32, 65, 67, 75]⟩] wz (RaE (0, 0, [], 5) wz)))
 have HK1 := Lib.hid (fun wz b (h0 : wz.cell? ⟨b, 0, none⟩ = some (.string ⟨#[32, 42, 32]⟩)) => (contacts_star b 0 1 [32, 42, 32] wz h0 (by decide) kds : Calls Tryz.prog 48 #[.slice (some ⟨b, 0, none⟩) 1 1] wz (CoE (true, 0, 0) wz)))
 have HK2 := Lib.hid (fun wz b (hb : b < wz.heap.size) (h0 : wz.cell? ⟨b, 0, none⟩ = some (.string ⟨#[60, 115, 105, 112, 58, 97, 62, 44, 32, 115, 105, 112, 58, 98]⟩)) (h1 : wz.cell? ⟨b, 1, none⟩ = some (.string ⟨#[60, 115, 105, 112, 58, 99, 62]⟩)) (hz : HEnv wz) => (by have h := contacts_any b 0 2 [[60, 115, 105, 112, 58, 97, 62, 44, 32, 115, 105, 112, 58, 98], [60, 115, 105, 112, 58, 99, 62]] wz hb (fun j v hj => by match j, hj with | 0, hj => (simp at hj; subst hj; exact h0) | 1, hj => (simp at hj; subst hj; exact h1) | j + 2, hj => simp at hj) (by decide) kdtl (by decide) (by decide) hz.env; rw [kdt] at h; exact h : Calls Tryz.prog 48 #[.slice (some ⟨b, 0, none⟩) 2 2] wz (CoE (false, 3, 0) wz)))
 have HK3 := Lib.hid (fun wz b (hb : b < wz.heap.size) (h0 : wz.cell? ⟨b, 0, none⟩ = some (.string ⟨#[42]⟩)) (h1 : wz.cell? ⟨b, 1, none⟩ = some (.string ⟨#[42]⟩)) (hz : HEnv wz) => (by have h := contacts_any b 0 2 [[42], [42]] wz hb (fun j v hj => by match j, hj with | 0, hj => (simp at hj; subst hj; exact h0) | 1, hj => (simp at hj; subst hj; exact h1) | j + 2, hj => simp at hj) (by decide) kdul (by decide) (by decide) hz.env; rw [kdu] at h; exact h : Calls Tryz.prog 48 #[.slice (some ⟨b, 0, none⟩) 2 2] wz (CoE (false, 0, 5) wz)))
 have HT0 := Lib.hid (fun wz (hz : HEnv wz) => (tidy_one (ByteArray.mk #[109, 97, 120, 45, 102, 111, 114, 119, 97, 114, 100, 115]) (ByteArray.mk #[32, 48, 55, 48, 32]) [77, 97, 120, 45, 70, 111, 114, 119, 97, 114, 100, 115] 5 ([55, 48], 0) wz (by decide) hz kdw0c kdw0k (fun wy hy => by have h := tidyOne_number (ByteArray.mk #[32, 48, 55, 48, 32]) wy (by decide) hy.env kdw0n; rw [kdw0t] at h; exact h) : Calls Tryz.prog 50 #[.string ⟨#[109, 97, 120, 45, 102, 111, 114, 119, 97, 114, 100, 115]⟩, .string ⟨#[32, 48, 55, 48, 32]⟩] wz (TxE ([55, 48], 0) wz)))
 have HT1 := Lib.hid (fun wz (hz : HEnv wz) => (tidy_one (ByteArray.mk #[83, 117, 98, 106, 101, 99, 116]) (ByteArray.mk #[32, 97, 32, 32, 98, 32]) [83, 117, 98, 106, 101, 99, 116] 0 ([97, 32, 32, 98], 0) wz (by decide) hz kdw1c kdw1k (fun wy _ => by have h := tidyOne_text (ByteArray.mk #[32, 97, 32, 32, 98, 32]) wy (by decide); rw [kdw1t] at h; exact h) : Calls Tryz.prog 50 #[.string ⟨#[83, 117, 98, 106, 101, 99, 116]⟩, .string ⟨#[32, 97, 32, 32, 98, 32]⟩] wz (TxE ([97, 32, 32, 98], 0) wz)))
 have HT2 := Lib.hid (fun wz (hz : HEnv wz) => (tidy_one (ByteArray.mk #[69, 120, 112, 105, 114, 101, 115]) (ByteArray.mk #[120]) [69, 120, 112, 105, 114, 101, 115] 5 ([], 5) wz (by decide) hz kdw2c kdw2k (fun wy hy => by have h := tidyOne_number (ByteArray.mk #[120]) wy (by decide) hy.env kdw2n; rw [kdw2t] at h; exact h) : Calls Tryz.prog 50 #[.string ⟨#[69, 120, 112, 105, 114, 101, 115]⟩, .string ⟨#[120]⟩] wz (TxE ([], 5) wz)))
 have HTm := Lib.hid (fun wz (hz : HEnv wz) => (by have h := tidy_many (ByteArray.mk #[107]) (ByteArray.mk #[84, 105, 109, 101, 114, 32, 44, 49, 48, 48, 114, 101, 108]) [83, 117, 112, 112, 111, 114, 116, 101, 100] [[84, 105, 109, 101, 114], [49, 48, 48, 114, 101, 108]] 7 tidI wz (by decide) (by decide) hz kdxc kdxk kdxl (by decide) (by decide) (by decide) (fun y wy hy hE => by have h := tidyOne_token (Txt y) wy (by rw [txt_size]; omega) hE.env; rw [txt_list] at h; exact h) (by rw [kdxm]; decide); rw [kdxm, kdxj] at h; exact h : Calls Tryz.prog 50 #[.string ⟨#[107]⟩, .string ⟨#[84, 105, 109, 101, 114, 32, 44, 49, 48, 48, 114, 101, 108]⟩] wz (TxE ([84, 105, 109, 101, 114, 44, 32, 49, 48, 48, 114, 101, 108], 0) wz)))
 have HTb := Lib.hid (fun wz (hz : HEnv wz) => (tidy_bad (ByteArray.mk #[]) (ByteArray.mk #[120]) wz (by decide) hz kdyc : Calls Tryz.prog 50 #[.string ⟨#[]⟩, .string ⟨#[120]⟩] wz (TxE ([], 5) wz)))
 have HAw := Lib.hid (fun wz (hz : HEnv wz) => hawake_any wz hz)
 have HE := Lib.hid H
 clear H
 have K0 := Lib.hid (Kp.refl [] w)
 go_enter Tryz.func15, Tryz.ntmps15
 go_wp2_with fail
 refine (HC1.out _ (HE.out.kp K0.out (by simp))).mono ?_
 rintro e w1 ⟨rfl, hK⟩
 have K1 := Lib.hid (K0.out.trans hK)
 clear hK
 dsimp only
 go_wp2_with fail
 refine (HC2.out _ (HE.out.kp K1.out (by simp))).mono ?_
 rintro e w2 ⟨rfl, hK⟩
 have K2 := Lib.hid (K1.out.trans hK)
 clear hK
 dsimp only
 go_wp2_with fail
 refine (HC3.out _ (HE.out.kp K2.out (by simp))).mono ?_
 rintro e w3 ⟨rfl, hK⟩
 have K3 := Lib.hid (K2.out.trans hK)
 clear hK
 dsimp only
 go_wp2_with fail
 refine (HC4.out _ (HE.out.kp K3.out (by simp))).mono ?_
 rintro e w4 ⟨v, rfl, ho, hK⟩
 have K4 := Lib.hid (K3.out.trans hK)
 obtain ⟨g, d, rfl⟩ : ∃ g d, v = .slice (some ⟨g, 0, none⟩) 2 d := by
  rcases ho.2 with ⟨_, h0⟩ | ⟨g, cap, cur, hv, _⟩
  ·exact absurd h0 (by decide)
  ·exact ⟨g, cap, hv⟩
 have hgl := (ho.lt g rfl).2
 have Hc0 := Lib.hid (show w4.cell? ⟨g, 0, none⟩ = some (.string (Txt [97])) from ho.cellAt 0 (by decide))
 have Hc1 := Lib.hid (show w4.cell? ⟨g, 1, none⟩ = some (.string (Txt [34, 98, 44, 99, 34])) from ho.cellAt 1 (by decide))
 clear ho hK
 dsimp only
 have L4 := Lib.hid (Kp.refl [] w4)
 go_wp2_with fail
 refine (HC5.out _ (HE.out.kp K4.out (by simp))).mono ?_
 rintro e w5 ⟨v, rfl, ho, hK⟩
 have K5 := Lib.hid (K4.out.trans hK)
 have L5 := Lib.hid (L4.out.trans hK)
 obtain ⟨p5, d5, rfl⟩ : ∃ p d, v = .slice p 0 d := by
  rcases ho.2 with ⟨h0, _⟩ | ⟨g, cap, cur, hv, _⟩
  ·exact ⟨none, 0, h0⟩
  ·exact ⟨_, cap, hv⟩
 clear ho hK
 dsimp only
 go_wp2_with fail
 refine (HC6.out _ (HE.out.kp K5.out (by simp))).mono ?_
 rintro e w6 ⟨rfl, hK⟩
 have K6 := Lib.hid (K5.out.trans hK)
 have L6 := Lib.hid (L5.out.trans hK)
 clear hK
 dsimp only
 go_wp2_with fail
 refine (HC7.out _ (HE.out.kp K6.out (by simp))).mono ?_
 rintro e w7 ⟨v, rfl, hP, hK⟩
 have K7 := Lib.hid (K6.out.trans hK)
 have L7 := Lib.hid (L6.out.trans hK)
 obtain ⟨A, c, rfl⟩ := hP.form
 dsimp only
 rw [show ([([97], [49], true)] : List Prm).length = 1 from rfl]
 clear hP hK
 obtain ⟨w8, hw8⟩ : ∃ x, w7.alloc (.cells #[.string (Txt [116, 101, 120, 116, 47, 112, 108, 97, 105, 110]), .slice A 1 c] 59) = x := ⟨_, rfl⟩
 have hKa : Kp [] w7 w8 := by rw [← hw8]; exact (Kp.refl _ _).alloc _
 have K8 := Lib.hid (K7.out.trans hKa)
 have L8 := Lib.hid (L7.out.trans hKa)
 have B8 := Lib.hid (show Blk w8 w7.heap.size 59 #[.string (Txt [116, 101, 120, 116, 47, 112, 108, 97, 105, 110]), .slice A 1 c] from by rw [← hw8]; exact Blk.new w7 _ _)
 clear hKa
 have u0 := B8.out.cell 0
 have u1 := B8.out.cell 1
 have c0 := (L8.out.cell (p := ⟨g, 0, none⟩) hgl (by simp)).trans Hc0.out
 have c1 := (L8.out.cell (p := ⟨g, 1, none⟩) hgl (by simp)).trans Hc1.out
 have t0 := txtl [86, 105, 97]
 have t1 := txtl [88, 45, 77, 121, 45, 72, 101, 97, 100, 101, 114]
 have t2 := txtl [97]
 have t3 := txtl [34, 98, 44, 99, 34]
 have t4 := txtl [83, 73, 80, 47, 50, 46, 48, 47, 85, 68, 80, 32, 104, 58, 53, 48, 54, 48, 59, 98, 114, 97, 110, 99, 104, 61, 122, 57]
 have t5 := txtl [116, 101, 120, 116, 47, 112, 108, 97, 105, 110]
 go_upto_region 9 with fail
 clear u0 u1 c0 c1 Hc0 Hc1 hgl B8 t0 t1 t2 t3 t4 t5
 try rw [hw8]
 try clear hw8
 go_wp2_with fail
 refine (HV0.out _ (HE.out.kp K8.out (by simp))).mono ?_
 rintro e w9 ⟨v, rfl, hP, hK⟩
 have K9 := Lib.hid (K8.out.trans hK)
 obtain ⟨A0, c0, rfl⟩ := hP.form
 dsimp only
 rw [show ([] : List Prm).length = 0 from rfl]
 clear hP hK
 obtain ⟨w10, hw10⟩ : ∃ x, w9.alloc (.cells #[.string (Txt []), .string (Txt []), .int .i64 0, .string (Txt []), .slice A0 0 c0] 33) = x := ⟨_, rfl⟩
 have hKa : Kp [] w9 w10 := by rw [← hw10]; exact (Kp.refl _ _).alloc _
 have K10 := Lib.hid (K9.out.trans hKa)
 clear hKa
 go_upto_region 10 with fail
 try rw [hw10]
 try clear hw10
 go_wp2_with fail
 refine (HV1.out _ (HE.out.kp K10.out (by simp))).mono ?_
 rintro e w11 ⟨v, rfl, hP, hK⟩
 have K11 := Lib.hid (K10.out.trans hK)
 obtain ⟨A1, c1, rfl⟩ := hP.form
 dsimp only
 rw [show ([] : List Prm).length = 0 from rfl]
 clear hP hK
 obtain ⟨w12, hw12⟩ : ∃ x, w11.alloc (.cells #[.string (Txt []), .string (Txt []), .int .i64 0, .string (Txt []), .slice A1 0 c1] 33) = x := ⟨_, rfl⟩
 have hKa : Kp [] w11 w12 := by rw [← hw12]; exact (Kp.refl _ _).alloc _
 have K12 := Lib.hid (K11.out.trans hKa)
 clear hKa
 go_upto_region 11 with fail
 try rw [hw12]
 try clear hw12
 go_wp2_with fail
 refine (HV2.out _ (HE.out.kp K12.out (by simp))).mono ?_
 rintro e w13 ⟨v, rfl, hP, hK⟩
 have K13 := Lib.hid (K12.out.trans hK)
 obtain ⟨A2, c2, rfl⟩ := hP.form
 dsimp only
 rw [show ([] : List Prm).length = 0 from rfl]
 clear hP hK
 obtain ⟨w14, hw14⟩ : ∃ x, w13.alloc (.cells #[.string (Txt []), .string (Txt []), .int .i64 0, .string (Txt []), .slice A2 0 c2] 33) = x := ⟨_, rfl⟩
 have hKa : Kp [] w13 w14 := by rw [← hw14]; exact (Kp.refl _ _).alloc _
 have K14 := Lib.hid (K13.out.trans hKa)
 clear hKa
 go_upto_region 12 with fail
 try rw [hw14]
 try clear hw14
 go_wp2_with fail
 refine (HV3.out _ (HE.out.kp K14.out (by simp))).mono ?_
 rintro e w15 ⟨v, rfl, hP, hK⟩
 have K15 := Lib.hid (K14.out.trans hK)
 obtain ⟨A3, c3, rfl⟩ := hP.form
 dsimp only
 rw [show ([([98, 114, 97, 110, 99, 104], [97], true)] : List Prm).length = 1 from rfl]
 clear hP hK
 obtain ⟨w16, hw16⟩ : ∃ x, w15.alloc (.cells #[.string (Txt [84, 67, 80]), .string (Txt [91, 58, 58, 49, 93]), .int .i64 70, .string (Txt [97]), .slice A3 1 c3] 33) = x := ⟨_, rfl⟩
 have hKa : Kp [] w15 w16 := by rw [← hw16]; exact (Kp.refl _ _).alloc _
 have K16 := Lib.hid (K15.out.trans hKa)
 obtain ⟨gv, hgv⟩ : ∃ x, w15.heap.size = x := ⟨_, rfl⟩
 have BV := Lib.hid (show Blk w16 gv 33 #[.string (Txt [84, 67, 80]), .string (Txt [91, 58, 58, 49, 93]), .int .i64 70, .string (Txt [97]), .slice A3 1 c3] from by rw [← hw16, ← hgv]; exact Blk.new w15 _ _)
 have L16 := Lib.hid (Kp.refl [] w16)
 clear hKa
 go_upto_region 13 with fail
 try rw [hw16]
 try clear hw16
 have HBs := Lib.hid (BV.out.lt)
 go_wp2_with fail
 refine (HV4.out _ (HE.out.kp K16.out (by simp))).mono ?_
 rintro e w17 ⟨v, rfl, hP, hK⟩
 have K17 := Lib.hid (K16.out.trans hK)
 have L17 := Lib.hid (L16.out.trans hK)
 obtain ⟨A4, c4, rfl⟩ := hP.form
 dsimp only
 rw [show ([] : List Prm).length = 0 from rfl]
 clear hP hK
 obtain ⟨w18, hw18⟩ : ∃ x, w17.alloc (.cells #[.string (Txt []), .string (Txt []), .int .i64 0, .string (Txt []), .slice A4 0 c4] 33) = x := ⟨_, rfl⟩
 have hKa : Kp [] w17 w18 := by rw [← hw18]; exact (Kp.refl _ _).alloc _
 have K18 := Lib.hid (K17.out.trans hKa)
 have L18 := Lib.hid (L17.out.trans hKa)
 clear hKa
 go_upto_region 14 with fail
 try rw [hw18]
 try clear hw18
 have BW := Lib.hid (BV.out.kp L18.out (by simp))
 have u0 := BW.out.cell 0
 have u1 := BW.out.cell 1
 have u2 := BW.out.cell 2
 have u3 := BW.out.cell 3
 have u4 := BW.out.cell 4
 have t0 := txtl [91, 58, 58, 49, 93]
 have t1 := txtl [97]
 go_upto_region 15 with fail
 clear u0 u1 u2 u3 u4 t0 t1 BW BV HBs
 go_wp2_with fail
 refine (HS0.out _ (HE.out.kp K18.out (by simp))).mono ?_
 rintro e w19 ⟨rfl, hK⟩
 have K19 := Lib.hid (K18.out.trans hK)
 clear hK
 dsimp only
 go_wp2_with fail
 refine (HS1.out _ (HE.out.kp K19.out (by simp))).mono ?_
 rintro e w20 ⟨rfl, hK⟩
 have K20 := Lib.hid (K19.out.trans hK)
 clear hK
 dsimp only
 go_wp2_with fail
 refine (HS2.out _ (HE.out.kp K20.out (by simp))).mono ?_
 rintro e w21 ⟨rfl, hK⟩
 have K21 := Lib.hid (K20.out.trans hK)
 clear hK
 dsimp only
 go_wp2_with fail
 refine (HR.out _ (HE.out.kp K21.out (by simp))).mono ?_
 rintro e w22 ⟨rfl, hK⟩
 have K22 := Lib.hid (K21.out.trans hK)
 clear hK
 dsimp only
 go_upto_region 20 with fail
 go_wp2_with fail
 obtain ⟨w23, hw23⟩ : ∃ x, w22.alloc (.cells #[.string ⟨#[32, 42, 32]⟩] 9) = x := ⟨_, rfl⟩
 have hKa : Kp [] w22 w23 := by rw [← hw23]; exact (Kp.refl _ _).alloc _
 have BS := Lib.hid (show Blk w23 w22.heap.size 9 #[.string ⟨#[32, 42, 32]⟩] from by rw [← hw23]; exact Blk.new w22 _ _)
 have K23 := Lib.hid (K22.out.trans hKa)
 clear hKa
 try rw [hw23]
 refine (HK1.out _ _ (BS.out.cell 0)).mono ?_
 rintro e w24 ⟨p24, d24, rfl, hK⟩
 have K24 := Lib.hid (K23.out.trans hK)
 clear hK BS hw23
 dsimp only
 go_wp2_with fail
 obtain ⟨w25, hw25⟩ : ∃ x, w24.alloc (.cells #[.string ⟨#[60, 115, 105, 112, 58, 97, 62, 44, 32, 115, 105, 112, 58, 98]⟩, .string ⟨#[60, 115, 105, 112, 58, 99, 62]⟩] 9) = x := ⟨_, rfl⟩
 have hKa : Kp [] w24 w25 := by rw [← hw25]; exact (Kp.refl _ _).alloc _
 have BS := Lib.hid (show Blk w25 w24.heap.size 9 #[.string ⟨#[60, 115, 105, 112, 58, 97, 62, 44, 32, 115, 105, 112, 58, 98]⟩, .string ⟨#[60, 115, 105, 112, 58, 99, 62]⟩] from by rw [← hw25]; exact Blk.new w24 _ _)
 have K25 := Lib.hid (K24.out.trans hKa)
 clear hKa
 try rw [hw25]
 refine (HK2.out _ _ BS.out.lt (BS.out.cell 0) (BS.out.cell 1) (HE.out.kp K25.out (by simp))).mono ?_
 rintro e w26 ⟨p26, d26, rfl, hK⟩
 have K26 := Lib.hid (K25.out.trans hK)
 clear hK BS hw25
 dsimp only
 go_wp2_with fail
 obtain ⟨w27, hw27⟩ : ∃ x, w26.alloc (.cells #[.string ⟨#[42]⟩, .string ⟨#[42]⟩] 9) = x := ⟨_, rfl⟩
 have hKa : Kp [] w26 w27 := by rw [← hw27]; exact (Kp.refl _ _).alloc _
 have BS := Lib.hid (show Blk w27 w26.heap.size 9 #[.string ⟨#[42]⟩, .string ⟨#[42]⟩] from by rw [← hw27]; exact Blk.new w26 _ _)
 have K27 := Lib.hid (K26.out.trans hKa)
 clear hKa
 try rw [hw27]
 refine (HK3.out _ _ BS.out.lt (BS.out.cell 0) (BS.out.cell 1) (HE.out.kp K27.out (by simp))).mono ?_
 rintro e w28 ⟨p28, d28, rfl, hK⟩
 have K28 := Lib.hid (K27.out.trans hK)
 clear hK BS hw27
 dsimp only
 go_upto_region 24 with fail
 go_wp2_with fail
 refine (HT0.out _ (HE.out.kp K28.out (by simp))).mono ?_
 rintro e w29 ⟨rfl, hK⟩
 have K29 := Lib.hid (K28.out.trans hK)
 clear hK
 dsimp only
 go_wp2_with fail
 refine (HT1.out _ (HE.out.kp K29.out (by simp))).mono ?_
 rintro e w30 ⟨rfl, hK⟩
 have K30 := Lib.hid (K29.out.trans hK)
 clear hK
 dsimp only
 go_wp2_with fail
 refine (HTm.out _ (HE.out.kp K30.out (by simp))).mono ?_
 rintro e w31 ⟨rfl, hK⟩
 have K31 := Lib.hid (K30.out.trans hK)
 clear hK
 dsimp only
 go_wp2_with fail
 refine (HT2.out _ (HE.out.kp K31.out (by simp))).mono ?_
 rintro e w32 ⟨rfl, hK⟩
 have K32 := Lib.hid (K31.out.trans hK)
 clear hK
 dsimp only
 go_wp2_with fail
 refine (HTb.out _ (HE.out.kp K32.out (by simp))).mono ?_
 rintro e w33 ⟨rfl, hK⟩
 have K33 := Lib.hid (K32.out.trans hK)
 clear hK
 dsimp only
 have t0 := txtl [55, 48]
 have t1 := txtl [97, 32, 32, 98]
 have t2 := txtl [84, 105, 109, 101, 114, 44, 32, 49, 48, 48, 114, 101, 108]
 go_upto_region 30 with fail
 clear t0 t1 t2
 go_wp2_with fail
 refine (HAw.out _ (HE.out.kp K33.out (by simp))).mono ?_
 rintro e w34 ⟨rfl, hK⟩
 have K34 := Lib.hid (K33.out.trans hK)
 clear hK
 dsimp only
 go_wp2_with fail
 go_ret
 exact ⟨rfl, K34.out⟩
end Ad
end Go.Proofs.YtmmjfofdnpafkaaGreatDoor
