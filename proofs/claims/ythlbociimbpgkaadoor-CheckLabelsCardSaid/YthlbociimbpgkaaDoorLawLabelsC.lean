/- CheckLabels walked: eight ways (layer 17). Laid by wip/tools/gen_ckll.py. -/
import Derived.Test.YthlbociimbpgkaaDoorCF
import Derived.Test.YthlbociimbpgkaaDoorCheckMo
import Derived.Test.YthlbociimbpgkaaDoorBits
import Derived.Test.YthlbociimbpgkaaDoorOpenBool2
import Derived.Deep.CutRange
namespace Go.Proofs.YthlbociimbpgkaaDoor
open Go.RowKit

theorem name_len (a : Nat) (h : a < 4) : (Ck.nameW a).length ≤ 2 := by
  rcases (by omega : a = 0 ∨ a = 1 ∨ a = 2 ∨ a = 3) with rfl | rfl | rfl | rfl <;> decide
theorem names_at (a : Nat) (h : a < 4) : (#[Value.string ⟨#[97]⟩, Value.string ⟨#[98]⟩, Value.string ⟨#[99]⟩, Value.string ⟨#[100, 100]⟩] : Array Value)[a]? = some (.string ⟨(Ck.nameW a).toArray⟩) := by
  rcases (by omega : a = 0 ∨ a = 1 ∨ a = 2 ∨ a = 3) with rfl | rfl | rfl | rfl <;> rfl

set_option maxRecDepth 200000 in
set_option maxHeartbeats 8000000 in
theorem lab_way000 (A B a b : Nat) (ha4 : a < 4) (hb4 : b < 4) (ha : bits .and .u8 (A : Int) 3 = (a : Int)) (hb : bits .and .u8 (B : Int) 3 = (b : Int)) (hab : a ≠ b) (w : World) (hS : SHP w) :
    Calls Tryd.prog 5 #[.int .u8 (A : Int), .int .u8 (B : Int), .agg #[.bool false, .bool false]] w fun e w' => e = .returned (.bool true) ∧ Below w.heap.size w w' := by
  have hlaw := Ck.labels_law ⟨a, ha4⟩ ⟨b, hb4⟩ false false
  unfold Ck.labelsOk at hlaw
  dsimp only at hlaw
  obtain ⟨NA, hNA⟩ : ∃ y, Ck.nameW a = y := ⟨_, rfl⟩
  obtain ⟨NB, hNB⟩ : ∃ y, Ck.nameW b = y := ⟨_, rfl⟩
  have nla : NA.length ≤ 2 := by rw [← hNA]; exact name_len a ha4
  have nlb : NB.length ≤ 2 := by rw [← hNB]; exact name_len b hb4
  have cna := names_at a ha4
  have cnb := names_at b hb4
  rw [hNA] at cna
  rw [hNB] at cnb
  obtain ⟨ZA, lNA⟩ : ∃ y, NA.length = y := ⟨_, rfl⟩
  obtain ⟨ZB, lNB⟩ : ∃ y, NB.length = y := ⟨_, rfl⟩
  rw [lNA] at nla
  rw [lNB] at nlb
  have zNA : (⟨NA.toArray⟩ : ByteArray).size = ZA := lNA
  have zNB : (⟨NB.toArray⟩ : ByteArray).size = ZB := lNB
  obtain ⟨OA, hOA⟩ : ∃ y, [108, 97, 98, 101, 108, 32] ++ NA = y := ⟨_, rfl⟩
  have sOA : (⟨#[108, 97, 98, 101, 108, 32]⟩ ++ ⟨NA.toArray⟩ : ByteArray) = ⟨OA.toArray⟩ := by rw [← hOA]; exact ba_append [108, 97, 98, 101, 108, 32] NA
  obtain ⟨LOA, lOA⟩ : ∃ y, OA.length = y := ⟨_, rfl⟩
  have bOA : LOA ≤ 10 := by have := congrArg List.length hOA; rw [List.length_append] at this; (try simp only [List.length_cons, List.length_nil] at this); omega
  have zOA : (⟨OA.toArray⟩ : ByteArray).size = LOA := lOA
  obtain ⟨OB, hOB⟩ : ∃ y, OA ++ [59] = y := ⟨_, rfl⟩
  have sOB : (⟨OA.toArray⟩ ++ ⟨#[59]⟩ : ByteArray) = ⟨OB.toArray⟩ := by rw [← hOB]; exact ba_append OA [59]
  obtain ⟨LOB, lOB⟩ : ∃ y, OB.length = y := ⟨_, rfl⟩
  have bOB : LOB ≤ 12 := by have := congrArg List.length hOB; rw [List.length_append] at this; (try simp only [List.length_cons, List.length_nil] at this); omega
  have zOB : (⟨OB.toArray⟩ : ByteArray).size = LOB := lOB
  obtain ⟨TA, hTA⟩ : ∃ y, [103, 111, 116, 111, 32] ++ NB = y := ⟨_, rfl⟩
  have sTA : (⟨#[103, 111, 116, 111, 32]⟩ ++ ⟨NB.toArray⟩ : ByteArray) = ⟨TA.toArray⟩ := by rw [← hTA]; exact ba_append [103, 111, 116, 111, 32] NB
  obtain ⟨LTA, lTA⟩ : ∃ y, TA.length = y := ⟨_, rfl⟩
  have bTA : LTA ≤ 10 := by have := congrArg List.length hTA; rw [List.length_append] at this; (try simp only [List.length_cons, List.length_nil] at this); omega
  have zTA : (⟨TA.toArray⟩ : ByteArray).size = LTA := lTA
  obtain ⟨TB, hTB⟩ : ∃ y, TA ++ [59] = y := ⟨_, rfl⟩
  have sTB : (⟨TA.toArray⟩ ++ ⟨#[59]⟩ : ByteArray) = ⟨TB.toArray⟩ := by rw [← hTB]; exact ba_append TA [59]
  obtain ⟨LTB, lTB⟩ : ∃ y, TB.length = y := ⟨_, rfl⟩
  have bTB : LTB ≤ 12 := by have := congrArg List.length hTB; rw [List.length_append] at this; (try simp only [List.length_cons, List.length_nil] at this); omega
  have zTB : (⟨TB.toArray⟩ : ByteArray).size = LTB := lTB
  obtain ⟨CA, hCA⟩ : ∃ y, TB ++ OB = y := ⟨_, rfl⟩
  have sCA : (⟨TB.toArray⟩ ++ ⟨OB.toArray⟩ : ByteArray) = ⟨CA.toArray⟩ := by rw [← hCA]; exact ba_append TB OB
  obtain ⟨LCA, lCA⟩ : ∃ y, CA.length = y := ⟨_, rfl⟩
  have bCA : LCA ≤ 30 := by have := congrArg List.length hCA; rw [List.length_append] at this; (try simp only [List.length_cons, List.length_nil] at this); omega
  have zCA : (⟨CA.toArray⟩ : ByteArray).size = LCA := lCA
  obtain ⟨FT, hFT⟩ : ∃ y, [109, 111, 100, 101, 32, 115, 109, 116, 112, 59] ++ CA = y := ⟨_, rfl⟩
  have sFT : (⟨#[109, 111, 100, 101, 32, 115, 109, 116, 112, 59]⟩ ++ ⟨CA.toArray⟩ : ByteArray) = ⟨FT.toArray⟩ := by rw [← hFT]; exact ba_append [109, 111, 100, 101, 32, 115, 109, 116, 112, 59] CA
  obtain ⟨LFT, lFT⟩ : ∃ y, FT.length = y := ⟨_, rfl⟩
  have bFT : LFT ≤ 80 := by have := congrArg List.length hFT; rw [List.length_append] at this; (try simp only [List.length_cons, List.length_nil] at this); omega
  have zFT : (⟨FT.toArray⟩ : ByteArray).size = LFT := lFT
  have hft : Ck.labelsT a b false false = FT := by rw [← hFT, ← hCA, ← hTB, ← hTA, ← hOB, ← hOA]; simp [Ck.labelsT, Ck.labelsS, Ck.oneW, Ck.twoW, hNA, hNB]
  have ho1 : (Ck.oneW a).length = LOB := by rw [← lOB, ← hOB, ← hOA]; simp [Ck.oneW, hNA]
  have ho2 : (Ck.twoW b).length = LTB := by rw [← lTB, ← hTB, ← hTA]; simp [Ck.twoW, hNB]
  have hE : Ck.labelsE a b false false = some (10, 33) := by simp [Ck.labelsE, hab]
  rw [hft] at hlaw
  obtain ⟨md, row, top, p, c, _, hpc, hout⟩ := source_out FT
  have HSRC := Lib.hid (fun wx hx => source_any FT (by omega) wx hx)
  have HOUT := Lib.hid hout
  obtain ⟨N, hN⟩ : ∃ N, row.length = N := ⟨_, rfl⟩
  have a4 : (a : Int) < 4 := by omega
  have b4 : (b : Int) < 4 := by omega
  have hpc2 : p = 10 ∧ c = 33 := by
    rcases hpc with ⟨_, h1, _⟩ | ⟨_, h1, _⟩
    · rw [h1, hE] at hlaw; cases hlaw
    · rw [h1, hE] at hlaw
      have h2 : (p, c) = (10, 33) := by simpa using hlaw
      exact ⟨congrArg Prod.fst h2, congrArg Prod.snd h2⟩
  obtain ⟨hp, rfl⟩ := hpc2
  have e1 : ((p : Int) == 10) = true := beq_iff_eq.2 (by omega)
  have e2 : ((p : Int) = 10) = True := eq_true (by omega)
  have f1 : ((a : Int) == (b : Int)) = false := beq_eq_false_iff_ne.2 (by omega)
  have f2 : ((a : Int) = (b : Int)) = False := eq_false (by omega)
  have f3 : ((a : Int) != (b : Int)) = true := by rw [bne_iff_ne]; omega
  have f4 : (a = b) = False := eq_false hab
  obtain ⟨T, hT⟩ : ∃ T, w.alloc (.cells #[.bool false, .bool false] 40) = T := ⟨_, rfl⟩
  obtain ⟨q, hq⟩ : ∃ q, w.heap.size = q := ⟨_, rfl⟩
  have hbT : Below q w T := by rw [← hq, ← hT]; exact (Below.refl _ _).alloc (Nat.le_refl _) _
  have hXT : T.heap[q]? = some (.cells #[.bool false, .bool false] 40 (0, 0)) := by rw [← hq, ← hT]; exact heap_alloc_new _ _
  have HS := Lib.hid (hS.below (show Below w.heap.size w T by rw [hq]; exact hbT))
  have SW := shown_any T HS.out
  have HT := Lib.hid hT
  have HQ := Lib.hid hq
  have HBT := Lib.hid hbT
  have HX := Lib.hid hXT
  have HQS := Lib.hid (show q ≤ T.heap.size from Nat.le_of_lt (Array.getElem?_eq_some_iff.1 hXT).1)
  have HN := Lib.hid hN
  have HCA := Lib.hid cna
  have HCB := Lib.hid cnb
  clear hS hE hlaw hpc hout hft ho1 ho2 hNA hNB hT hbT hXT cna cnb hN hOA hOB hTA hTB hCA hFT
  rw [hq]
  clear hq
  go_enter Tryd.func5, Tryd.ntmps5
  go_upto_region 1 with fail
  rw [HT.out, HQ.out]
  go_wp2_with fail
  refine SW.mono ?_
  rintro e wa ⟨rfl, hba⟩
  clear SW
  obtain ⟨W0, hW0⟩ : ∃ x, wa.alloc (.cells #[.string ⟨#[97]⟩, .string ⟨#[98]⟩, .string ⟨#[99]⟩, .string ⟨#[100, 100]⟩] 9) = x := ⟨_, rfl⟩
  obtain ⟨nb, hnb⟩ : ∃ x, wa.heap.size = x := ⟨_, rfl⟩
  have hb0 : Below wa.heap.size wa W0 := by rw [← hW0]; exact (Below.refl _ _).alloc (Nat.le_refl _) _
  have hNN : W0.heap[nb]? = some (.cells #[.string ⟨#[97]⟩, .string ⟨#[98]⟩, .string ⟨#[99]⟩, .string ⟨#[100, 100]⟩] 9 (0, 0)) := by rw [← hnb, ← hW0]; exact heap_alloc_new _ _
  have c1 : W0.cell? ⟨nb, a, none⟩ = some (.string ⟨NA.toArray⟩) := (cell_of_row _ _ _ _ _ _ hNN).trans HCA.out
  have c2 : W0.cell? ⟨nb, b, none⟩ = some (.string ⟨NB.toArray⟩) := (cell_of_row _ _ _ _ _ _ hNN).trans HCB.out
  have hbw := hba.trans (hb0.mono hba.size)
  have hX0 := (hbw.block _ (Array.getElem?_eq_some_iff.1 HX.out).1).trans HX.out
  have x0 : W0.cell? ⟨q, 0, none⟩ = some (.bool false) := cell_of_row _ _ _ _ _ _ hX0
  have x1 : W0.cell? ⟨q, 1, none⟩ = some (.bool false) := cell_of_row _ _ _ _ _ _ hX0
  have HW0 := Lib.hid hW0
  have HNB := Lib.hid hnb
  have HX0 := Lib.hid hX0
  have HBW := Lib.hid (HBT.out.trans (hbw.mono HQS.out))
  have HSW := Lib.hid (HS.out.below hbw)
  have HQW := Lib.hid (Nat.le_trans HQS.out hbw.size)
  clear hW0 hnb hb0 hNN hbw hX0 hba
  go_upto_region 3 with fail
  rw [HW0.out, HNB.out]
  have SX := HSRC.out W0 HSW.out
  clear HW0 HNB
  go_wp2_with fail
  refine SX.mono ?_
  rintro e w2 hP
  obtain ⟨a1, k1, u1, d1, hb2, rfl, _⟩ := HOUT.out _ _ _ hP
  rw [HN.out]
  have hX2 := (hb2.block _ (Array.getElem?_eq_some_iff.1 HX0.out).1).trans HX0.out
  have y0 : ∀ o, (w2.alloc o).cell? ⟨q, 0, none⟩ = some (.bool false) := fun o => cell_of_row _ _ _ _ _ _ ((Below.heap_alloc _ _ _ (Array.getElem?_eq_some_iff.1 hX2).1).trans hX2)
  have y1 : ∀ o, (w2.alloc o).cell? ⟨q, 1, none⟩ = some (.bool false) := fun o => cell_of_row _ _ _ _ _ _ ((Below.heap_alloc _ _ _ (Array.getElem?_eq_some_iff.1 hX2).1).trans hX2)
  have HF := Lib.hid (fun o => (HBW.out.trans (hb2.mono HQW.out)).alloc (Nat.le_trans HQW.out hb2.size) o)
  clear SX hP hb2 hX2 c1 c2 x0 x1
  go_wp2
  go_ret
  exact ⟨rfl, HF.out _⟩

set_option maxRecDepth 200000 in
set_option maxHeartbeats 8000000 in
theorem lab_way001 (A B a : Nat) (ha4 : a < 4) (ha : bits .and .u8 (A : Int) 3 = (a : Int)) (hb : bits .and .u8 (B : Int) 3 = (a : Int)) (w : World) (hS : SHP w) :
    Calls Tryd.prog 5 #[.int .u8 (A : Int), .int .u8 (B : Int), .agg #[.bool false, .bool false]] w fun e w' => e = .returned (.bool true) ∧ Below w.heap.size w w' := by
  have hlaw := Ck.labels_law ⟨a, ha4⟩ ⟨a, ha4⟩ false false
  unfold Ck.labelsOk at hlaw
  dsimp only at hlaw
  obtain ⟨NA, hNA⟩ : ∃ y, Ck.nameW a = y := ⟨_, rfl⟩
  have nla : NA.length ≤ 2 := by rw [← hNA]; exact name_len a ha4
  have cna := names_at a ha4
  rw [hNA] at cna
  obtain ⟨ZA, lNA⟩ : ∃ y, NA.length = y := ⟨_, rfl⟩
  rw [lNA] at nla
  have zNA : (⟨NA.toArray⟩ : ByteArray).size = ZA := lNA
  obtain ⟨OA, hOA⟩ : ∃ y, [108, 97, 98, 101, 108, 32] ++ NA = y := ⟨_, rfl⟩
  have sOA : (⟨#[108, 97, 98, 101, 108, 32]⟩ ++ ⟨NA.toArray⟩ : ByteArray) = ⟨OA.toArray⟩ := by rw [← hOA]; exact ba_append [108, 97, 98, 101, 108, 32] NA
  obtain ⟨LOA, lOA⟩ : ∃ y, OA.length = y := ⟨_, rfl⟩
  have bOA : LOA ≤ 10 := by have := congrArg List.length hOA; rw [List.length_append] at this; (try simp only [List.length_cons, List.length_nil] at this); omega
  have zOA : (⟨OA.toArray⟩ : ByteArray).size = LOA := lOA
  obtain ⟨OB, hOB⟩ : ∃ y, OA ++ [59] = y := ⟨_, rfl⟩
  have sOB : (⟨OA.toArray⟩ ++ ⟨#[59]⟩ : ByteArray) = ⟨OB.toArray⟩ := by rw [← hOB]; exact ba_append OA [59]
  obtain ⟨LOB, lOB⟩ : ∃ y, OB.length = y := ⟨_, rfl⟩
  have bOB : LOB ≤ 12 := by have := congrArg List.length hOB; rw [List.length_append] at this; (try simp only [List.length_cons, List.length_nil] at this); omega
  have zOB : (⟨OB.toArray⟩ : ByteArray).size = LOB := lOB
  obtain ⟨TA, hTA⟩ : ∃ y, [103, 111, 116, 111, 32] ++ NA = y := ⟨_, rfl⟩
  have sTA : (⟨#[103, 111, 116, 111, 32]⟩ ++ ⟨NA.toArray⟩ : ByteArray) = ⟨TA.toArray⟩ := by rw [← hTA]; exact ba_append [103, 111, 116, 111, 32] NA
  obtain ⟨LTA, lTA⟩ : ∃ y, TA.length = y := ⟨_, rfl⟩
  have bTA : LTA ≤ 10 := by have := congrArg List.length hTA; rw [List.length_append] at this; (try simp only [List.length_cons, List.length_nil] at this); omega
  have zTA : (⟨TA.toArray⟩ : ByteArray).size = LTA := lTA
  obtain ⟨TB, hTB⟩ : ∃ y, TA ++ [59] = y := ⟨_, rfl⟩
  have sTB : (⟨TA.toArray⟩ ++ ⟨#[59]⟩ : ByteArray) = ⟨TB.toArray⟩ := by rw [← hTB]; exact ba_append TA [59]
  obtain ⟨LTB, lTB⟩ : ∃ y, TB.length = y := ⟨_, rfl⟩
  have bTB : LTB ≤ 12 := by have := congrArg List.length hTB; rw [List.length_append] at this; (try simp only [List.length_cons, List.length_nil] at this); omega
  have zTB : (⟨TB.toArray⟩ : ByteArray).size = LTB := lTB
  obtain ⟨CA, hCA⟩ : ∃ y, TB ++ OB = y := ⟨_, rfl⟩
  have sCA : (⟨TB.toArray⟩ ++ ⟨OB.toArray⟩ : ByteArray) = ⟨CA.toArray⟩ := by rw [← hCA]; exact ba_append TB OB
  obtain ⟨LCA, lCA⟩ : ∃ y, CA.length = y := ⟨_, rfl⟩
  have bCA : LCA ≤ 30 := by have := congrArg List.length hCA; rw [List.length_append] at this; (try simp only [List.length_cons, List.length_nil] at this); omega
  have zCA : (⟨CA.toArray⟩ : ByteArray).size = LCA := lCA
  obtain ⟨FT, hFT⟩ : ∃ y, [109, 111, 100, 101, 32, 115, 109, 116, 112, 59] ++ CA = y := ⟨_, rfl⟩
  have sFT : (⟨#[109, 111, 100, 101, 32, 115, 109, 116, 112, 59]⟩ ++ ⟨CA.toArray⟩ : ByteArray) = ⟨FT.toArray⟩ := by rw [← hFT]; exact ba_append [109, 111, 100, 101, 32, 115, 109, 116, 112, 59] CA
  obtain ⟨LFT, lFT⟩ : ∃ y, FT.length = y := ⟨_, rfl⟩
  have bFT : LFT ≤ 80 := by have := congrArg List.length hFT; rw [List.length_append] at this; (try simp only [List.length_cons, List.length_nil] at this); omega
  have zFT : (⟨FT.toArray⟩ : ByteArray).size = LFT := lFT
  have hft : Ck.labelsT a a false false = FT := by rw [← hFT, ← hCA, ← hTB, ← hTA, ← hOB, ← hOA]; simp [Ck.labelsT, Ck.labelsS, Ck.oneW, Ck.twoW, hNA]
  have ho1 : (Ck.oneW a).length = LOB := by rw [← lOB, ← hOB, ← hOA]; simp [Ck.oneW, hNA]
  have ho2 : (Ck.twoW a).length = LTB := by rw [← lTB, ← hTB, ← hTA]; simp [Ck.twoW, hNA]
  have hE : Ck.labelsE a a false false = none := by simp [Ck.labelsE]
  rw [hft] at hlaw
  obtain ⟨md, row, top, p, c, _, hpc, hout⟩ := source_out FT
  have HSRC := Lib.hid (fun wx hx => source_any FT (by omega) wx hx)
  have HOUT := Lib.hid hout
  obtain ⟨N, hN⟩ : ∃ N, row.length = N := ⟨_, rfl⟩
  have a4 : (a : Int) < 4 := by omega
  have hpc2 : c = 0 ∧ N = 2 := by
    rcases hpc with ⟨h0, h1, _⟩ | ⟨_, h1, _⟩
    · rw [h1, hE] at hlaw
      have h2 : row.length = 2 := by simpa using hlaw
      exact ⟨h0, hN.symm.trans h2⟩
    · rw [h1, hE] at hlaw; cases hlaw
  obtain ⟨rfl, rfl⟩ := hpc2
  obtain ⟨T, hT⟩ : ∃ T, w.alloc (.cells #[.bool false, .bool false] 40) = T := ⟨_, rfl⟩
  obtain ⟨q, hq⟩ : ∃ q, w.heap.size = q := ⟨_, rfl⟩
  have hbT : Below q w T := by rw [← hq, ← hT]; exact (Below.refl _ _).alloc (Nat.le_refl _) _
  have hXT : T.heap[q]? = some (.cells #[.bool false, .bool false] 40 (0, 0)) := by rw [← hq, ← hT]; exact heap_alloc_new _ _
  have HS := Lib.hid (hS.below (show Below w.heap.size w T by rw [hq]; exact hbT))
  have SW := shown_any T HS.out
  have HT := Lib.hid hT
  have HQ := Lib.hid hq
  have HBT := Lib.hid hbT
  have HX := Lib.hid hXT
  have HQS := Lib.hid (show q ≤ T.heap.size from Nat.le_of_lt (Array.getElem?_eq_some_iff.1 hXT).1)
  have HN := Lib.hid hN
  have HCA := Lib.hid cna
  clear hS hE hlaw hpc hout hft ho1 ho2 hNA hT hbT hXT cna  hN hOA hOB hTA hTB hCA hFT
  rw [hq]
  clear hq
  go_enter Tryd.func5, Tryd.ntmps5
  go_upto_region 1 with fail
  rw [HT.out, HQ.out]
  go_wp2_with fail
  refine SW.mono ?_
  rintro e wa ⟨rfl, hba⟩
  clear SW
  obtain ⟨W0, hW0⟩ : ∃ x, wa.alloc (.cells #[.string ⟨#[97]⟩, .string ⟨#[98]⟩, .string ⟨#[99]⟩, .string ⟨#[100, 100]⟩] 9) = x := ⟨_, rfl⟩
  obtain ⟨nb, hnb⟩ : ∃ x, wa.heap.size = x := ⟨_, rfl⟩
  have hb0 : Below wa.heap.size wa W0 := by rw [← hW0]; exact (Below.refl _ _).alloc (Nat.le_refl _) _
  have hNN : W0.heap[nb]? = some (.cells #[.string ⟨#[97]⟩, .string ⟨#[98]⟩, .string ⟨#[99]⟩, .string ⟨#[100, 100]⟩] 9 (0, 0)) := by rw [← hnb, ← hW0]; exact heap_alloc_new _ _
  have c1 : W0.cell? ⟨nb, a, none⟩ = some (.string ⟨NA.toArray⟩) := (cell_of_row _ _ _ _ _ _ hNN).trans HCA.out
  have hbw := hba.trans (hb0.mono hba.size)
  have hX0 := (hbw.block _ (Array.getElem?_eq_some_iff.1 HX.out).1).trans HX.out
  have x0 : W0.cell? ⟨q, 0, none⟩ = some (.bool false) := cell_of_row _ _ _ _ _ _ hX0
  have x1 : W0.cell? ⟨q, 1, none⟩ = some (.bool false) := cell_of_row _ _ _ _ _ _ hX0
  have HW0 := Lib.hid hW0
  have HNB := Lib.hid hnb
  have HX0 := Lib.hid hX0
  have HBW := Lib.hid (HBT.out.trans (hbw.mono HQS.out))
  have HSW := Lib.hid (HS.out.below hbw)
  have HQW := Lib.hid (Nat.le_trans HQS.out hbw.size)
  clear hW0 hnb hb0 hNN hbw hX0 hba
  go_upto_region 3 with fail
  rw [HW0.out, HNB.out]
  have SX := HSRC.out W0 HSW.out
  clear HW0 HNB
  go_wp2_with fail
  refine SX.mono ?_
  rintro e w2 hP
  obtain ⟨a1, k1, u1, d1, hb2, rfl, _⟩ := HOUT.out _ _ _ hP
  rw [HN.out]
  have hX2 := (hb2.block _ (Array.getElem?_eq_some_iff.1 HX0.out).1).trans HX0.out
  have y0 : ∀ o, (w2.alloc o).cell? ⟨q, 0, none⟩ = some (.bool false) := fun o => cell_of_row _ _ _ _ _ _ ((Below.heap_alloc _ _ _ (Array.getElem?_eq_some_iff.1 hX2).1).trans hX2)
  have y1 : ∀ o, (w2.alloc o).cell? ⟨q, 1, none⟩ = some (.bool false) := fun o => cell_of_row _ _ _ _ _ _ ((Below.heap_alloc _ _ _ (Array.getElem?_eq_some_iff.1 hX2).1).trans hX2)
  have HF := Lib.hid (fun o => (HBW.out.trans (hb2.mono HQW.out)).alloc (Nat.le_trans HQW.out hb2.size) o)
  clear SX hP hb2 hX2 c1 x0 x1
  go_wp2
  go_ret
  exact ⟨rfl, HF.out _⟩

set_option maxRecDepth 200000 in
set_option maxHeartbeats 8000000 in
theorem lab_way010 (A B a b : Nat) (ha4 : a < 4) (hb4 : b < 4) (ha : bits .and .u8 (A : Int) 3 = (a : Int)) (hb : bits .and .u8 (B : Int) 3 = (b : Int)) (hab : a ≠ b) (w : World) (hS : SHP w) :
    Calls Tryd.prog 5 #[.int .u8 (A : Int), .int .u8 (B : Int), .agg #[.bool false, .bool true]] w fun e w' => e = .returned (.bool true) ∧ Below w.heap.size w w' := by
  have hlaw := Ck.labels_law ⟨a, ha4⟩ ⟨b, hb4⟩ false true
  unfold Ck.labelsOk at hlaw
  dsimp only at hlaw
  obtain ⟨NA, hNA⟩ : ∃ y, Ck.nameW a = y := ⟨_, rfl⟩
  obtain ⟨NB, hNB⟩ : ∃ y, Ck.nameW b = y := ⟨_, rfl⟩
  have nla : NA.length ≤ 2 := by rw [← hNA]; exact name_len a ha4
  have nlb : NB.length ≤ 2 := by rw [← hNB]; exact name_len b hb4
  have cna := names_at a ha4
  have cnb := names_at b hb4
  rw [hNA] at cna
  rw [hNB] at cnb
  obtain ⟨ZA, lNA⟩ : ∃ y, NA.length = y := ⟨_, rfl⟩
  obtain ⟨ZB, lNB⟩ : ∃ y, NB.length = y := ⟨_, rfl⟩
  rw [lNA] at nla
  rw [lNB] at nlb
  have zNA : (⟨NA.toArray⟩ : ByteArray).size = ZA := lNA
  have zNB : (⟨NB.toArray⟩ : ByteArray).size = ZB := lNB
  obtain ⟨OA, hOA⟩ : ∃ y, [108, 97, 98, 101, 108, 32] ++ NA = y := ⟨_, rfl⟩
  have sOA : (⟨#[108, 97, 98, 101, 108, 32]⟩ ++ ⟨NA.toArray⟩ : ByteArray) = ⟨OA.toArray⟩ := by rw [← hOA]; exact ba_append [108, 97, 98, 101, 108, 32] NA
  obtain ⟨LOA, lOA⟩ : ∃ y, OA.length = y := ⟨_, rfl⟩
  have bOA : LOA ≤ 10 := by have := congrArg List.length hOA; rw [List.length_append] at this; (try simp only [List.length_cons, List.length_nil] at this); omega
  have zOA : (⟨OA.toArray⟩ : ByteArray).size = LOA := lOA
  obtain ⟨OB, hOB⟩ : ∃ y, OA ++ [59] = y := ⟨_, rfl⟩
  have sOB : (⟨OA.toArray⟩ ++ ⟨#[59]⟩ : ByteArray) = ⟨OB.toArray⟩ := by rw [← hOB]; exact ba_append OA [59]
  obtain ⟨LOB, lOB⟩ : ∃ y, OB.length = y := ⟨_, rfl⟩
  have bOB : LOB ≤ 12 := by have := congrArg List.length hOB; rw [List.length_append] at this; (try simp only [List.length_cons, List.length_nil] at this); omega
  have zOB : (⟨OB.toArray⟩ : ByteArray).size = LOB := lOB
  obtain ⟨TA, hTA⟩ : ∃ y, [103, 111, 116, 111, 32] ++ NB = y := ⟨_, rfl⟩
  have sTA : (⟨#[103, 111, 116, 111, 32]⟩ ++ ⟨NB.toArray⟩ : ByteArray) = ⟨TA.toArray⟩ := by rw [← hTA]; exact ba_append [103, 111, 116, 111, 32] NB
  obtain ⟨LTA, lTA⟩ : ∃ y, TA.length = y := ⟨_, rfl⟩
  have bTA : LTA ≤ 10 := by have := congrArg List.length hTA; rw [List.length_append] at this; (try simp only [List.length_cons, List.length_nil] at this); omega
  have zTA : (⟨TA.toArray⟩ : ByteArray).size = LTA := lTA
  obtain ⟨TB, hTB⟩ : ∃ y, TA ++ [59] = y := ⟨_, rfl⟩
  have sTB : (⟨TA.toArray⟩ ++ ⟨#[59]⟩ : ByteArray) = ⟨TB.toArray⟩ := by rw [← hTB]; exact ba_append TA [59]
  obtain ⟨LTB, lTB⟩ : ∃ y, TB.length = y := ⟨_, rfl⟩
  have bTB : LTB ≤ 12 := by have := congrArg List.length hTB; rw [List.length_append] at this; (try simp only [List.length_cons, List.length_nil] at this); omega
  have zTB : (⟨TB.toArray⟩ : ByteArray).size = LTB := lTB
  obtain ⟨CA, hCA⟩ : ∃ y, TB ++ OB = y := ⟨_, rfl⟩
  have sCA : (⟨TB.toArray⟩ ++ ⟨OB.toArray⟩ : ByteArray) = ⟨CA.toArray⟩ := by rw [← hCA]; exact ba_append TB OB
  obtain ⟨LCA, lCA⟩ : ∃ y, CA.length = y := ⟨_, rfl⟩
  have bCA : LCA ≤ 30 := by have := congrArg List.length hCA; rw [List.length_append] at this; (try simp only [List.length_cons, List.length_nil] at this); omega
  have zCA : (⟨CA.toArray⟩ : ByteArray).size = LCA := lCA
  obtain ⟨CC, hCC⟩ : ∃ y, CA ++ OB = y := ⟨_, rfl⟩
  have sCC : (⟨CA.toArray⟩ ++ ⟨OB.toArray⟩ : ByteArray) = ⟨CC.toArray⟩ := by rw [← hCC]; exact ba_append CA OB
  obtain ⟨LCC, lCC⟩ : ∃ y, CC.length = y := ⟨_, rfl⟩
  have bCC : LCC ≤ 50 := by have := congrArg List.length hCC; rw [List.length_append] at this; (try simp only [List.length_cons, List.length_nil] at this); omega
  have zCC : (⟨CC.toArray⟩ : ByteArray).size = LCC := lCC
  obtain ⟨FT, hFT⟩ : ∃ y, [109, 111, 100, 101, 32, 115, 109, 116, 112, 59] ++ CC = y := ⟨_, rfl⟩
  have sFT : (⟨#[109, 111, 100, 101, 32, 115, 109, 116, 112, 59]⟩ ++ ⟨CC.toArray⟩ : ByteArray) = ⟨FT.toArray⟩ := by rw [← hFT]; exact ba_append [109, 111, 100, 101, 32, 115, 109, 116, 112, 59] CC
  obtain ⟨LFT, lFT⟩ : ∃ y, FT.length = y := ⟨_, rfl⟩
  have bFT : LFT ≤ 80 := by have := congrArg List.length hFT; rw [List.length_append] at this; (try simp only [List.length_cons, List.length_nil] at this); omega
  have zFT : (⟨FT.toArray⟩ : ByteArray).size = LFT := lFT
  have hft : Ck.labelsT a b false true = FT := by rw [← hFT, ← hCC, ← hCA, ← hTB, ← hTA, ← hOB, ← hOA]; simp [Ck.labelsT, Ck.labelsS, Ck.oneW, Ck.twoW, hNA, hNB]
  have ho1 : (Ck.oneW a).length = LOB := by rw [← lOB, ← hOB, ← hOA]; simp [Ck.oneW, hNA]
  have ho2 : (Ck.twoW b).length = LTB := by rw [← lTB, ← hTB, ← hTA]; simp [Ck.twoW, hNB]
  have hE : Ck.labelsE a b false true = some (10, 33) := by simp [Ck.labelsE, hab]
  rw [hft] at hlaw
  obtain ⟨md, row, top, p, c, _, hpc, hout⟩ := source_out FT
  have HSRC := Lib.hid (fun wx hx => source_any FT (by omega) wx hx)
  have HOUT := Lib.hid hout
  obtain ⟨N, hN⟩ : ∃ N, row.length = N := ⟨_, rfl⟩
  have a4 : (a : Int) < 4 := by omega
  have b4 : (b : Int) < 4 := by omega
  have hpc2 : p = 10 ∧ c = 33 := by
    rcases hpc with ⟨_, h1, _⟩ | ⟨_, h1, _⟩
    · rw [h1, hE] at hlaw; cases hlaw
    · rw [h1, hE] at hlaw
      have h2 : (p, c) = (10, 33) := by simpa using hlaw
      exact ⟨congrArg Prod.fst h2, congrArg Prod.snd h2⟩
  obtain ⟨hp, rfl⟩ := hpc2
  have e1 : ((p : Int) == 10) = true := beq_iff_eq.2 (by omega)
  have e2 : ((p : Int) = 10) = True := eq_true (by omega)
  have f1 : ((a : Int) == (b : Int)) = false := beq_eq_false_iff_ne.2 (by omega)
  have f2 : ((a : Int) = (b : Int)) = False := eq_false (by omega)
  have f3 : ((a : Int) != (b : Int)) = true := by rw [bne_iff_ne]; omega
  have f4 : (a = b) = False := eq_false hab
  obtain ⟨T, hT⟩ : ∃ T, w.alloc (.cells #[.bool false, .bool true] 40) = T := ⟨_, rfl⟩
  obtain ⟨q, hq⟩ : ∃ q, w.heap.size = q := ⟨_, rfl⟩
  have hbT : Below q w T := by rw [← hq, ← hT]; exact (Below.refl _ _).alloc (Nat.le_refl _) _
  have hXT : T.heap[q]? = some (.cells #[.bool false, .bool true] 40 (0, 0)) := by rw [← hq, ← hT]; exact heap_alloc_new _ _
  have HS := Lib.hid (hS.below (show Below w.heap.size w T by rw [hq]; exact hbT))
  have SW := shown_any T HS.out
  have HT := Lib.hid hT
  have HQ := Lib.hid hq
  have HBT := Lib.hid hbT
  have HX := Lib.hid hXT
  have HQS := Lib.hid (show q ≤ T.heap.size from Nat.le_of_lt (Array.getElem?_eq_some_iff.1 hXT).1)
  have HN := Lib.hid hN
  have HCA := Lib.hid cna
  have HCB := Lib.hid cnb
  clear hS hE hlaw hpc hout hft ho1 ho2 hNA hNB hT hbT hXT cna cnb hN hOA hOB hTA hTB hCA hCC hFT
  rw [hq]
  clear hq
  go_enter Tryd.func5, Tryd.ntmps5
  go_upto_region 1 with fail
  rw [HT.out, HQ.out]
  go_wp2_with fail
  refine SW.mono ?_
  rintro e wa ⟨rfl, hba⟩
  clear SW
  obtain ⟨W0, hW0⟩ : ∃ x, wa.alloc (.cells #[.string ⟨#[97]⟩, .string ⟨#[98]⟩, .string ⟨#[99]⟩, .string ⟨#[100, 100]⟩] 9) = x := ⟨_, rfl⟩
  obtain ⟨nb, hnb⟩ : ∃ x, wa.heap.size = x := ⟨_, rfl⟩
  have hb0 : Below wa.heap.size wa W0 := by rw [← hW0]; exact (Below.refl _ _).alloc (Nat.le_refl _) _
  have hNN : W0.heap[nb]? = some (.cells #[.string ⟨#[97]⟩, .string ⟨#[98]⟩, .string ⟨#[99]⟩, .string ⟨#[100, 100]⟩] 9 (0, 0)) := by rw [← hnb, ← hW0]; exact heap_alloc_new _ _
  have c1 : W0.cell? ⟨nb, a, none⟩ = some (.string ⟨NA.toArray⟩) := (cell_of_row _ _ _ _ _ _ hNN).trans HCA.out
  have c2 : W0.cell? ⟨nb, b, none⟩ = some (.string ⟨NB.toArray⟩) := (cell_of_row _ _ _ _ _ _ hNN).trans HCB.out
  have hbw := hba.trans (hb0.mono hba.size)
  have hX0 := (hbw.block _ (Array.getElem?_eq_some_iff.1 HX.out).1).trans HX.out
  have x0 : W0.cell? ⟨q, 0, none⟩ = some (.bool false) := cell_of_row _ _ _ _ _ _ hX0
  have x1 : W0.cell? ⟨q, 1, none⟩ = some (.bool true) := cell_of_row _ _ _ _ _ _ hX0
  have HW0 := Lib.hid hW0
  have HNB := Lib.hid hnb
  have HX0 := Lib.hid hX0
  have HBW := Lib.hid (HBT.out.trans (hbw.mono HQS.out))
  have HSW := Lib.hid (HS.out.below hbw)
  have HQW := Lib.hid (Nat.le_trans HQS.out hbw.size)
  clear hW0 hnb hb0 hNN hbw hX0 hba
  go_upto_region 3 with fail
  rw [HW0.out, HNB.out]
  have SX := HSRC.out W0 HSW.out
  clear HW0 HNB
  go_wp2_with fail
  refine SX.mono ?_
  rintro e w2 hP
  obtain ⟨a1, k1, u1, d1, hb2, rfl, _⟩ := HOUT.out _ _ _ hP
  rw [HN.out]
  have hX2 := (hb2.block _ (Array.getElem?_eq_some_iff.1 HX0.out).1).trans HX0.out
  have y0 : ∀ o, (w2.alloc o).cell? ⟨q, 0, none⟩ = some (.bool false) := fun o => cell_of_row _ _ _ _ _ _ ((Below.heap_alloc _ _ _ (Array.getElem?_eq_some_iff.1 hX2).1).trans hX2)
  have y1 : ∀ o, (w2.alloc o).cell? ⟨q, 1, none⟩ = some (.bool true) := fun o => cell_of_row _ _ _ _ _ _ ((Below.heap_alloc _ _ _ (Array.getElem?_eq_some_iff.1 hX2).1).trans hX2)
  have HF := Lib.hid (fun o => (HBW.out.trans (hb2.mono HQW.out)).alloc (Nat.le_trans HQW.out hb2.size) o)
  clear SX hP hb2 hX2 c1 c2 x0 x1
  go_wp2
  go_ret
  exact ⟨rfl, HF.out _⟩

set_option maxRecDepth 200000 in
set_option maxHeartbeats 8000000 in
theorem lab_way011 (A B a : Nat) (ha4 : a < 4) (ha : bits .and .u8 (A : Int) 3 = (a : Int)) (hb : bits .and .u8 (B : Int) 3 = (a : Int)) (w : World) (hS : SHP w) :
    Calls Tryd.prog 5 #[.int .u8 (A : Int), .int .u8 (B : Int), .agg #[.bool false, .bool true]] w fun e w' => e = .returned (.bool true) ∧ Below w.heap.size w w' := by
  have hlaw := Ck.labels_law ⟨a, ha4⟩ ⟨a, ha4⟩ false true
  unfold Ck.labelsOk at hlaw
  dsimp only at hlaw
  obtain ⟨NA, hNA⟩ : ∃ y, Ck.nameW a = y := ⟨_, rfl⟩
  have nla : NA.length ≤ 2 := by rw [← hNA]; exact name_len a ha4
  have cna := names_at a ha4
  rw [hNA] at cna
  obtain ⟨ZA, lNA⟩ : ∃ y, NA.length = y := ⟨_, rfl⟩
  rw [lNA] at nla
  have zNA : (⟨NA.toArray⟩ : ByteArray).size = ZA := lNA
  obtain ⟨OA, hOA⟩ : ∃ y, [108, 97, 98, 101, 108, 32] ++ NA = y := ⟨_, rfl⟩
  have sOA : (⟨#[108, 97, 98, 101, 108, 32]⟩ ++ ⟨NA.toArray⟩ : ByteArray) = ⟨OA.toArray⟩ := by rw [← hOA]; exact ba_append [108, 97, 98, 101, 108, 32] NA
  obtain ⟨LOA, lOA⟩ : ∃ y, OA.length = y := ⟨_, rfl⟩
  have bOA : LOA ≤ 10 := by have := congrArg List.length hOA; rw [List.length_append] at this; (try simp only [List.length_cons, List.length_nil] at this); omega
  have zOA : (⟨OA.toArray⟩ : ByteArray).size = LOA := lOA
  obtain ⟨OB, hOB⟩ : ∃ y, OA ++ [59] = y := ⟨_, rfl⟩
  have sOB : (⟨OA.toArray⟩ ++ ⟨#[59]⟩ : ByteArray) = ⟨OB.toArray⟩ := by rw [← hOB]; exact ba_append OA [59]
  obtain ⟨LOB, lOB⟩ : ∃ y, OB.length = y := ⟨_, rfl⟩
  have bOB : LOB ≤ 12 := by have := congrArg List.length hOB; rw [List.length_append] at this; (try simp only [List.length_cons, List.length_nil] at this); omega
  have zOB : (⟨OB.toArray⟩ : ByteArray).size = LOB := lOB
  obtain ⟨TA, hTA⟩ : ∃ y, [103, 111, 116, 111, 32] ++ NA = y := ⟨_, rfl⟩
  have sTA : (⟨#[103, 111, 116, 111, 32]⟩ ++ ⟨NA.toArray⟩ : ByteArray) = ⟨TA.toArray⟩ := by rw [← hTA]; exact ba_append [103, 111, 116, 111, 32] NA
  obtain ⟨LTA, lTA⟩ : ∃ y, TA.length = y := ⟨_, rfl⟩
  have bTA : LTA ≤ 10 := by have := congrArg List.length hTA; rw [List.length_append] at this; (try simp only [List.length_cons, List.length_nil] at this); omega
  have zTA : (⟨TA.toArray⟩ : ByteArray).size = LTA := lTA
  obtain ⟨TB, hTB⟩ : ∃ y, TA ++ [59] = y := ⟨_, rfl⟩
  have sTB : (⟨TA.toArray⟩ ++ ⟨#[59]⟩ : ByteArray) = ⟨TB.toArray⟩ := by rw [← hTB]; exact ba_append TA [59]
  obtain ⟨LTB, lTB⟩ : ∃ y, TB.length = y := ⟨_, rfl⟩
  have bTB : LTB ≤ 12 := by have := congrArg List.length hTB; rw [List.length_append] at this; (try simp only [List.length_cons, List.length_nil] at this); omega
  have zTB : (⟨TB.toArray⟩ : ByteArray).size = LTB := lTB
  obtain ⟨CA, hCA⟩ : ∃ y, TB ++ OB = y := ⟨_, rfl⟩
  have sCA : (⟨TB.toArray⟩ ++ ⟨OB.toArray⟩ : ByteArray) = ⟨CA.toArray⟩ := by rw [← hCA]; exact ba_append TB OB
  obtain ⟨LCA, lCA⟩ : ∃ y, CA.length = y := ⟨_, rfl⟩
  have bCA : LCA ≤ 30 := by have := congrArg List.length hCA; rw [List.length_append] at this; (try simp only [List.length_cons, List.length_nil] at this); omega
  have zCA : (⟨CA.toArray⟩ : ByteArray).size = LCA := lCA
  obtain ⟨CC, hCC⟩ : ∃ y, CA ++ OB = y := ⟨_, rfl⟩
  have sCC : (⟨CA.toArray⟩ ++ ⟨OB.toArray⟩ : ByteArray) = ⟨CC.toArray⟩ := by rw [← hCC]; exact ba_append CA OB
  obtain ⟨LCC, lCC⟩ : ∃ y, CC.length = y := ⟨_, rfl⟩
  have bCC : LCC ≤ 50 := by have := congrArg List.length hCC; rw [List.length_append] at this; (try simp only [List.length_cons, List.length_nil] at this); omega
  have zCC : (⟨CC.toArray⟩ : ByteArray).size = LCC := lCC
  obtain ⟨FT, hFT⟩ : ∃ y, [109, 111, 100, 101, 32, 115, 109, 116, 112, 59] ++ CC = y := ⟨_, rfl⟩
  have sFT : (⟨#[109, 111, 100, 101, 32, 115, 109, 116, 112, 59]⟩ ++ ⟨CC.toArray⟩ : ByteArray) = ⟨FT.toArray⟩ := by rw [← hFT]; exact ba_append [109, 111, 100, 101, 32, 115, 109, 116, 112, 59] CC
  obtain ⟨LFT, lFT⟩ : ∃ y, FT.length = y := ⟨_, rfl⟩
  have bFT : LFT ≤ 80 := by have := congrArg List.length hFT; rw [List.length_append] at this; (try simp only [List.length_cons, List.length_nil] at this); omega
  have zFT : (⟨FT.toArray⟩ : ByteArray).size = LFT := lFT
  have hft : Ck.labelsT a a false true = FT := by rw [← hFT, ← hCC, ← hCA, ← hTB, ← hTA, ← hOB, ← hOA]; simp [Ck.labelsT, Ck.labelsS, Ck.oneW, Ck.twoW, hNA]
  have ho1 : (Ck.oneW a).length = LOB := by rw [← lOB, ← hOB, ← hOA]; simp [Ck.oneW, hNA]
  have ho2 : (Ck.twoW a).length = LTB := by rw [← lTB, ← hTB, ← hTA]; simp [Ck.twoW, hNA]
  have hE : Ck.labelsE a a false true = some (10 + LOB + LTB, 31) := by simp [Ck.labelsE, ho1, ho2]
  rw [hft] at hlaw
  obtain ⟨md, row, top, p, c, _, hpc, hout⟩ := source_out FT
  have HSRC := Lib.hid (fun wx hx => source_any FT (by omega) wx hx)
  have HOUT := Lib.hid hout
  obtain ⟨N, hN⟩ : ∃ N, row.length = N := ⟨_, rfl⟩
  have a4 : (a : Int) < 4 := by omega
  have hpc2 : p = 10 + LOB + LTB ∧ c = 31 := by
    rcases hpc with ⟨_, h1, _⟩ | ⟨_, h1, _⟩
    · rw [h1, hE] at hlaw; cases hlaw
    · rw [h1, hE] at hlaw
      have h2 : (p, c) = (10 + LOB + LTB, 31) := by simpa using hlaw
      exact ⟨congrArg Prod.fst h2, congrArg Prod.snd h2⟩
  obtain ⟨hp, rfl⟩ := hpc2
  have e1 : ((p : Int) == 10 + (LOB : Int) + (LTB : Int)) = true := beq_iff_eq.2 (by omega)
  have e2 : ((p : Int) = 10 + (LOB : Int) + (LTB : Int)) = True := eq_true (by omega)
  obtain ⟨T, hT⟩ : ∃ T, w.alloc (.cells #[.bool false, .bool true] 40) = T := ⟨_, rfl⟩
  obtain ⟨q, hq⟩ : ∃ q, w.heap.size = q := ⟨_, rfl⟩
  have hbT : Below q w T := by rw [← hq, ← hT]; exact (Below.refl _ _).alloc (Nat.le_refl _) _
  have hXT : T.heap[q]? = some (.cells #[.bool false, .bool true] 40 (0, 0)) := by rw [← hq, ← hT]; exact heap_alloc_new _ _
  have HS := Lib.hid (hS.below (show Below w.heap.size w T by rw [hq]; exact hbT))
  have SW := shown_any T HS.out
  have HT := Lib.hid hT
  have HQ := Lib.hid hq
  have HBT := Lib.hid hbT
  have HX := Lib.hid hXT
  have HQS := Lib.hid (show q ≤ T.heap.size from Nat.le_of_lt (Array.getElem?_eq_some_iff.1 hXT).1)
  have HN := Lib.hid hN
  have HCA := Lib.hid cna
  clear hS hE hlaw hpc hout hft ho1 ho2 hNA hT hbT hXT cna  hN hOA hOB hTA hTB hCA hCC hFT
  rw [hq]
  clear hq
  go_enter Tryd.func5, Tryd.ntmps5
  go_upto_region 1 with fail
  rw [HT.out, HQ.out]
  go_wp2_with fail
  refine SW.mono ?_
  rintro e wa ⟨rfl, hba⟩
  clear SW
  obtain ⟨W0, hW0⟩ : ∃ x, wa.alloc (.cells #[.string ⟨#[97]⟩, .string ⟨#[98]⟩, .string ⟨#[99]⟩, .string ⟨#[100, 100]⟩] 9) = x := ⟨_, rfl⟩
  obtain ⟨nb, hnb⟩ : ∃ x, wa.heap.size = x := ⟨_, rfl⟩
  have hb0 : Below wa.heap.size wa W0 := by rw [← hW0]; exact (Below.refl _ _).alloc (Nat.le_refl _) _
  have hNN : W0.heap[nb]? = some (.cells #[.string ⟨#[97]⟩, .string ⟨#[98]⟩, .string ⟨#[99]⟩, .string ⟨#[100, 100]⟩] 9 (0, 0)) := by rw [← hnb, ← hW0]; exact heap_alloc_new _ _
  have c1 : W0.cell? ⟨nb, a, none⟩ = some (.string ⟨NA.toArray⟩) := (cell_of_row _ _ _ _ _ _ hNN).trans HCA.out
  have hbw := hba.trans (hb0.mono hba.size)
  have hX0 := (hbw.block _ (Array.getElem?_eq_some_iff.1 HX.out).1).trans HX.out
  have x0 : W0.cell? ⟨q, 0, none⟩ = some (.bool false) := cell_of_row _ _ _ _ _ _ hX0
  have x1 : W0.cell? ⟨q, 1, none⟩ = some (.bool true) := cell_of_row _ _ _ _ _ _ hX0
  have HW0 := Lib.hid hW0
  have HNB := Lib.hid hnb
  have HX0 := Lib.hid hX0
  have HBW := Lib.hid (HBT.out.trans (hbw.mono HQS.out))
  have HSW := Lib.hid (HS.out.below hbw)
  have HQW := Lib.hid (Nat.le_trans HQS.out hbw.size)
  clear hW0 hnb hb0 hNN hbw hX0 hba
  go_upto_region 3 with fail
  rw [HW0.out, HNB.out]
  have SX := HSRC.out W0 HSW.out
  clear HW0 HNB
  go_wp2_with fail
  refine SX.mono ?_
  rintro e w2 hP
  obtain ⟨a1, k1, u1, d1, hb2, rfl, _⟩ := HOUT.out _ _ _ hP
  rw [HN.out]
  have hX2 := (hb2.block _ (Array.getElem?_eq_some_iff.1 HX0.out).1).trans HX0.out
  have y0 : ∀ o, (w2.alloc o).cell? ⟨q, 0, none⟩ = some (.bool false) := fun o => cell_of_row _ _ _ _ _ _ ((Below.heap_alloc _ _ _ (Array.getElem?_eq_some_iff.1 hX2).1).trans hX2)
  have y1 : ∀ o, (w2.alloc o).cell? ⟨q, 1, none⟩ = some (.bool true) := fun o => cell_of_row _ _ _ _ _ _ ((Below.heap_alloc _ _ _ (Array.getElem?_eq_some_iff.1 hX2).1).trans hX2)
  have HF := Lib.hid (fun o => (HBW.out.trans (hb2.mono HQW.out)).alloc (Nat.le_trans HQW.out hb2.size) o)
  clear SX hP hb2 hX2 c1 x0 x1
  go_wp2
  go_ret
  exact ⟨rfl, HF.out _⟩

set_option maxRecDepth 200000 in
set_option maxHeartbeats 8000000 in
theorem lab_way100 (A B a b : Nat) (ha4 : a < 4) (hb4 : b < 4) (ha : bits .and .u8 (A : Int) 3 = (a : Int)) (hb : bits .and .u8 (B : Int) 3 = (b : Int)) (hab : a ≠ b) (w : World) (hS : SHP w) :
    Calls Tryd.prog 5 #[.int .u8 (A : Int), .int .u8 (B : Int), .agg #[.bool true, .bool false]] w fun e w' => e = .returned (.bool true) ∧ Below w.heap.size w w' := by
  have hlaw := Ck.labels_law ⟨a, ha4⟩ ⟨b, hb4⟩ true false
  unfold Ck.labelsOk at hlaw
  dsimp only at hlaw
  obtain ⟨NA, hNA⟩ : ∃ y, Ck.nameW a = y := ⟨_, rfl⟩
  obtain ⟨NB, hNB⟩ : ∃ y, Ck.nameW b = y := ⟨_, rfl⟩
  have nla : NA.length ≤ 2 := by rw [← hNA]; exact name_len a ha4
  have nlb : NB.length ≤ 2 := by rw [← hNB]; exact name_len b hb4
  have cna := names_at a ha4
  have cnb := names_at b hb4
  rw [hNA] at cna
  rw [hNB] at cnb
  obtain ⟨ZA, lNA⟩ : ∃ y, NA.length = y := ⟨_, rfl⟩
  obtain ⟨ZB, lNB⟩ : ∃ y, NB.length = y := ⟨_, rfl⟩
  rw [lNA] at nla
  rw [lNB] at nlb
  have zNA : (⟨NA.toArray⟩ : ByteArray).size = ZA := lNA
  have zNB : (⟨NB.toArray⟩ : ByteArray).size = ZB := lNB
  obtain ⟨OA, hOA⟩ : ∃ y, [108, 97, 98, 101, 108, 32] ++ NA = y := ⟨_, rfl⟩
  have sOA : (⟨#[108, 97, 98, 101, 108, 32]⟩ ++ ⟨NA.toArray⟩ : ByteArray) = ⟨OA.toArray⟩ := by rw [← hOA]; exact ba_append [108, 97, 98, 101, 108, 32] NA
  obtain ⟨LOA, lOA⟩ : ∃ y, OA.length = y := ⟨_, rfl⟩
  have bOA : LOA ≤ 10 := by have := congrArg List.length hOA; rw [List.length_append] at this; (try simp only [List.length_cons, List.length_nil] at this); omega
  have zOA : (⟨OA.toArray⟩ : ByteArray).size = LOA := lOA
  obtain ⟨OB, hOB⟩ : ∃ y, OA ++ [59] = y := ⟨_, rfl⟩
  have sOB : (⟨OA.toArray⟩ ++ ⟨#[59]⟩ : ByteArray) = ⟨OB.toArray⟩ := by rw [← hOB]; exact ba_append OA [59]
  obtain ⟨LOB, lOB⟩ : ∃ y, OB.length = y := ⟨_, rfl⟩
  have bOB : LOB ≤ 12 := by have := congrArg List.length hOB; rw [List.length_append] at this; (try simp only [List.length_cons, List.length_nil] at this); omega
  have zOB : (⟨OB.toArray⟩ : ByteArray).size = LOB := lOB
  obtain ⟨TA, hTA⟩ : ∃ y, [103, 111, 116, 111, 32] ++ NB = y := ⟨_, rfl⟩
  have sTA : (⟨#[103, 111, 116, 111, 32]⟩ ++ ⟨NB.toArray⟩ : ByteArray) = ⟨TA.toArray⟩ := by rw [← hTA]; exact ba_append [103, 111, 116, 111, 32] NB
  obtain ⟨LTA, lTA⟩ : ∃ y, TA.length = y := ⟨_, rfl⟩
  have bTA : LTA ≤ 10 := by have := congrArg List.length hTA; rw [List.length_append] at this; (try simp only [List.length_cons, List.length_nil] at this); omega
  have zTA : (⟨TA.toArray⟩ : ByteArray).size = LTA := lTA
  obtain ⟨TB, hTB⟩ : ∃ y, TA ++ [59] = y := ⟨_, rfl⟩
  have sTB : (⟨TA.toArray⟩ ++ ⟨#[59]⟩ : ByteArray) = ⟨TB.toArray⟩ := by rw [← hTB]; exact ba_append TA [59]
  obtain ⟨LTB, lTB⟩ : ∃ y, TB.length = y := ⟨_, rfl⟩
  have bTB : LTB ≤ 12 := by have := congrArg List.length hTB; rw [List.length_append] at this; (try simp only [List.length_cons, List.length_nil] at this); omega
  have zTB : (⟨TB.toArray⟩ : ByteArray).size = LTB := lTB
  obtain ⟨CA, hCA⟩ : ∃ y, TB ++ OB = y := ⟨_, rfl⟩
  have sCA : (⟨TB.toArray⟩ ++ ⟨OB.toArray⟩ : ByteArray) = ⟨CA.toArray⟩ := by rw [← hCA]; exact ba_append TB OB
  obtain ⟨LCA, lCA⟩ : ∃ y, CA.length = y := ⟨_, rfl⟩
  have bCA : LCA ≤ 30 := by have := congrArg List.length hCA; rw [List.length_append] at this; (try simp only [List.length_cons, List.length_nil] at this); omega
  have zCA : (⟨CA.toArray⟩ : ByteArray).size = LCA := lCA
  obtain ⟨CB, hCB⟩ : ∃ y, OB ++ TB = y := ⟨_, rfl⟩
  have sCB : (⟨OB.toArray⟩ ++ ⟨TB.toArray⟩ : ByteArray) = ⟨CB.toArray⟩ := by rw [← hCB]; exact ba_append OB TB
  obtain ⟨LCB, lCB⟩ : ∃ y, CB.length = y := ⟨_, rfl⟩
  have bCB : LCB ≤ 30 := by have := congrArg List.length hCB; rw [List.length_append] at this; (try simp only [List.length_cons, List.length_nil] at this); omega
  have zCB : (⟨CB.toArray⟩ : ByteArray).size = LCB := lCB
  obtain ⟨FT, hFT⟩ : ∃ y, [109, 111, 100, 101, 32, 115, 109, 116, 112, 59] ++ CB = y := ⟨_, rfl⟩
  have sFT : (⟨#[109, 111, 100, 101, 32, 115, 109, 116, 112, 59]⟩ ++ ⟨CB.toArray⟩ : ByteArray) = ⟨FT.toArray⟩ := by rw [← hFT]; exact ba_append [109, 111, 100, 101, 32, 115, 109, 116, 112, 59] CB
  obtain ⟨LFT, lFT⟩ : ∃ y, FT.length = y := ⟨_, rfl⟩
  have bFT : LFT ≤ 80 := by have := congrArg List.length hFT; rw [List.length_append] at this; (try simp only [List.length_cons, List.length_nil] at this); omega
  have zFT : (⟨FT.toArray⟩ : ByteArray).size = LFT := lFT
  have hft : Ck.labelsT a b true false = FT := by rw [← hFT, ← hCB, ← hTB, ← hTA, ← hOB, ← hOA]; simp [Ck.labelsT, Ck.labelsS, Ck.oneW, Ck.twoW, hNA, hNB]
  have ho1 : (Ck.oneW a).length = LOB := by rw [← lOB, ← hOB, ← hOA]; simp [Ck.oneW, hNA]
  have ho2 : (Ck.twoW b).length = LTB := by rw [← lTB, ← hTB, ← hTA]; simp [Ck.twoW, hNB]
  have hE : Ck.labelsE a b true false = some (10 + LOB, 33) := by simp [Ck.labelsE, ho1, hab]
  rw [hft] at hlaw
  obtain ⟨md, row, top, p, c, _, hpc, hout⟩ := source_out FT
  have HSRC := Lib.hid (fun wx hx => source_any FT (by omega) wx hx)
  have HOUT := Lib.hid hout
  obtain ⟨N, hN⟩ : ∃ N, row.length = N := ⟨_, rfl⟩
  have a4 : (a : Int) < 4 := by omega
  have b4 : (b : Int) < 4 := by omega
  have hpc2 : p = 10 + LOB ∧ c = 33 := by
    rcases hpc with ⟨_, h1, _⟩ | ⟨_, h1, _⟩
    · rw [h1, hE] at hlaw; cases hlaw
    · rw [h1, hE] at hlaw
      have h2 : (p, c) = (10 + LOB, 33) := by simpa using hlaw
      exact ⟨congrArg Prod.fst h2, congrArg Prod.snd h2⟩
  obtain ⟨hp, rfl⟩ := hpc2
  have e1 : ((p : Int) == 10 + (LOB : Int)) = true := beq_iff_eq.2 (by omega)
  have e2 : ((p : Int) = 10 + (LOB : Int)) = True := eq_true (by omega)
  have f1 : ((a : Int) == (b : Int)) = false := beq_eq_false_iff_ne.2 (by omega)
  have f2 : ((a : Int) = (b : Int)) = False := eq_false (by omega)
  have f3 : ((a : Int) != (b : Int)) = true := by rw [bne_iff_ne]; omega
  have f4 : (a = b) = False := eq_false hab
  obtain ⟨T, hT⟩ : ∃ T, w.alloc (.cells #[.bool true, .bool false] 40) = T := ⟨_, rfl⟩
  obtain ⟨q, hq⟩ : ∃ q, w.heap.size = q := ⟨_, rfl⟩
  have hbT : Below q w T := by rw [← hq, ← hT]; exact (Below.refl _ _).alloc (Nat.le_refl _) _
  have hXT : T.heap[q]? = some (.cells #[.bool true, .bool false] 40 (0, 0)) := by rw [← hq, ← hT]; exact heap_alloc_new _ _
  have HS := Lib.hid (hS.below (show Below w.heap.size w T by rw [hq]; exact hbT))
  have SW := shown_any T HS.out
  have HT := Lib.hid hT
  have HQ := Lib.hid hq
  have HBT := Lib.hid hbT
  have HX := Lib.hid hXT
  have HQS := Lib.hid (show q ≤ T.heap.size from Nat.le_of_lt (Array.getElem?_eq_some_iff.1 hXT).1)
  have HN := Lib.hid hN
  have HCA := Lib.hid cna
  have HCB := Lib.hid cnb
  clear hS hE hlaw hpc hout hft ho1 ho2 hNA hNB hT hbT hXT cna cnb hN hOA hOB hTA hTB hCA hCB hFT
  rw [hq]
  clear hq
  go_enter Tryd.func5, Tryd.ntmps5
  go_upto_region 1 with fail
  rw [HT.out, HQ.out]
  go_wp2_with fail
  refine SW.mono ?_
  rintro e wa ⟨rfl, hba⟩
  clear SW
  obtain ⟨W0, hW0⟩ : ∃ x, wa.alloc (.cells #[.string ⟨#[97]⟩, .string ⟨#[98]⟩, .string ⟨#[99]⟩, .string ⟨#[100, 100]⟩] 9) = x := ⟨_, rfl⟩
  obtain ⟨nb, hnb⟩ : ∃ x, wa.heap.size = x := ⟨_, rfl⟩
  have hb0 : Below wa.heap.size wa W0 := by rw [← hW0]; exact (Below.refl _ _).alloc (Nat.le_refl _) _
  have hNN : W0.heap[nb]? = some (.cells #[.string ⟨#[97]⟩, .string ⟨#[98]⟩, .string ⟨#[99]⟩, .string ⟨#[100, 100]⟩] 9 (0, 0)) := by rw [← hnb, ← hW0]; exact heap_alloc_new _ _
  have c1 : W0.cell? ⟨nb, a, none⟩ = some (.string ⟨NA.toArray⟩) := (cell_of_row _ _ _ _ _ _ hNN).trans HCA.out
  have c2 : W0.cell? ⟨nb, b, none⟩ = some (.string ⟨NB.toArray⟩) := (cell_of_row _ _ _ _ _ _ hNN).trans HCB.out
  have hbw := hba.trans (hb0.mono hba.size)
  have hX0 := (hbw.block _ (Array.getElem?_eq_some_iff.1 HX.out).1).trans HX.out
  have x0 : W0.cell? ⟨q, 0, none⟩ = some (.bool true) := cell_of_row _ _ _ _ _ _ hX0
  have x1 : W0.cell? ⟨q, 1, none⟩ = some (.bool false) := cell_of_row _ _ _ _ _ _ hX0
  have HW0 := Lib.hid hW0
  have HNB := Lib.hid hnb
  have HX0 := Lib.hid hX0
  have HBW := Lib.hid (HBT.out.trans (hbw.mono HQS.out))
  have HSW := Lib.hid (HS.out.below hbw)
  have HQW := Lib.hid (Nat.le_trans HQS.out hbw.size)
  clear hW0 hnb hb0 hNN hbw hX0 hba
  go_upto_region 3 with fail
  rw [HW0.out, HNB.out]
  have SX := HSRC.out W0 HSW.out
  clear HW0 HNB
  go_wp2_with fail
  refine SX.mono ?_
  rintro e w2 hP
  obtain ⟨a1, k1, u1, d1, hb2, rfl, _⟩ := HOUT.out _ _ _ hP
  rw [HN.out]
  have hX2 := (hb2.block _ (Array.getElem?_eq_some_iff.1 HX0.out).1).trans HX0.out
  have y0 : ∀ o, (w2.alloc o).cell? ⟨q, 0, none⟩ = some (.bool true) := fun o => cell_of_row _ _ _ _ _ _ ((Below.heap_alloc _ _ _ (Array.getElem?_eq_some_iff.1 hX2).1).trans hX2)
  have y1 : ∀ o, (w2.alloc o).cell? ⟨q, 1, none⟩ = some (.bool false) := fun o => cell_of_row _ _ _ _ _ _ ((Below.heap_alloc _ _ _ (Array.getElem?_eq_some_iff.1 hX2).1).trans hX2)
  have HF := Lib.hid (fun o => (HBW.out.trans (hb2.mono HQW.out)).alloc (Nat.le_trans HQW.out hb2.size) o)
  clear SX hP hb2 hX2 c1 c2 x0 x1
  go_wp2
  go_ret
  exact ⟨rfl, HF.out _⟩

set_option maxRecDepth 200000 in
set_option maxHeartbeats 8000000 in
theorem lab_way101 (A B a : Nat) (ha4 : a < 4) (ha : bits .and .u8 (A : Int) 3 = (a : Int)) (hb : bits .and .u8 (B : Int) 3 = (a : Int)) (w : World) (hS : SHP w) :
    Calls Tryd.prog 5 #[.int .u8 (A : Int), .int .u8 (B : Int), .agg #[.bool true, .bool false]] w fun e w' => e = .returned (.bool true) ∧ Below w.heap.size w w' := by
  have hlaw := Ck.labels_law ⟨a, ha4⟩ ⟨a, ha4⟩ true false
  unfold Ck.labelsOk at hlaw
  dsimp only at hlaw
  obtain ⟨NA, hNA⟩ : ∃ y, Ck.nameW a = y := ⟨_, rfl⟩
  have nla : NA.length ≤ 2 := by rw [← hNA]; exact name_len a ha4
  have cna := names_at a ha4
  rw [hNA] at cna
  obtain ⟨ZA, lNA⟩ : ∃ y, NA.length = y := ⟨_, rfl⟩
  rw [lNA] at nla
  have zNA : (⟨NA.toArray⟩ : ByteArray).size = ZA := lNA
  obtain ⟨OA, hOA⟩ : ∃ y, [108, 97, 98, 101, 108, 32] ++ NA = y := ⟨_, rfl⟩
  have sOA : (⟨#[108, 97, 98, 101, 108, 32]⟩ ++ ⟨NA.toArray⟩ : ByteArray) = ⟨OA.toArray⟩ := by rw [← hOA]; exact ba_append [108, 97, 98, 101, 108, 32] NA
  obtain ⟨LOA, lOA⟩ : ∃ y, OA.length = y := ⟨_, rfl⟩
  have bOA : LOA ≤ 10 := by have := congrArg List.length hOA; rw [List.length_append] at this; (try simp only [List.length_cons, List.length_nil] at this); omega
  have zOA : (⟨OA.toArray⟩ : ByteArray).size = LOA := lOA
  obtain ⟨OB, hOB⟩ : ∃ y, OA ++ [59] = y := ⟨_, rfl⟩
  have sOB : (⟨OA.toArray⟩ ++ ⟨#[59]⟩ : ByteArray) = ⟨OB.toArray⟩ := by rw [← hOB]; exact ba_append OA [59]
  obtain ⟨LOB, lOB⟩ : ∃ y, OB.length = y := ⟨_, rfl⟩
  have bOB : LOB ≤ 12 := by have := congrArg List.length hOB; rw [List.length_append] at this; (try simp only [List.length_cons, List.length_nil] at this); omega
  have zOB : (⟨OB.toArray⟩ : ByteArray).size = LOB := lOB
  obtain ⟨TA, hTA⟩ : ∃ y, [103, 111, 116, 111, 32] ++ NA = y := ⟨_, rfl⟩
  have sTA : (⟨#[103, 111, 116, 111, 32]⟩ ++ ⟨NA.toArray⟩ : ByteArray) = ⟨TA.toArray⟩ := by rw [← hTA]; exact ba_append [103, 111, 116, 111, 32] NA
  obtain ⟨LTA, lTA⟩ : ∃ y, TA.length = y := ⟨_, rfl⟩
  have bTA : LTA ≤ 10 := by have := congrArg List.length hTA; rw [List.length_append] at this; (try simp only [List.length_cons, List.length_nil] at this); omega
  have zTA : (⟨TA.toArray⟩ : ByteArray).size = LTA := lTA
  obtain ⟨TB, hTB⟩ : ∃ y, TA ++ [59] = y := ⟨_, rfl⟩
  have sTB : (⟨TA.toArray⟩ ++ ⟨#[59]⟩ : ByteArray) = ⟨TB.toArray⟩ := by rw [← hTB]; exact ba_append TA [59]
  obtain ⟨LTB, lTB⟩ : ∃ y, TB.length = y := ⟨_, rfl⟩
  have bTB : LTB ≤ 12 := by have := congrArg List.length hTB; rw [List.length_append] at this; (try simp only [List.length_cons, List.length_nil] at this); omega
  have zTB : (⟨TB.toArray⟩ : ByteArray).size = LTB := lTB
  obtain ⟨CA, hCA⟩ : ∃ y, TB ++ OB = y := ⟨_, rfl⟩
  have sCA : (⟨TB.toArray⟩ ++ ⟨OB.toArray⟩ : ByteArray) = ⟨CA.toArray⟩ := by rw [← hCA]; exact ba_append TB OB
  obtain ⟨LCA, lCA⟩ : ∃ y, CA.length = y := ⟨_, rfl⟩
  have bCA : LCA ≤ 30 := by have := congrArg List.length hCA; rw [List.length_append] at this; (try simp only [List.length_cons, List.length_nil] at this); omega
  have zCA : (⟨CA.toArray⟩ : ByteArray).size = LCA := lCA
  obtain ⟨CB, hCB⟩ : ∃ y, OB ++ TB = y := ⟨_, rfl⟩
  have sCB : (⟨OB.toArray⟩ ++ ⟨TB.toArray⟩ : ByteArray) = ⟨CB.toArray⟩ := by rw [← hCB]; exact ba_append OB TB
  obtain ⟨LCB, lCB⟩ : ∃ y, CB.length = y := ⟨_, rfl⟩
  have bCB : LCB ≤ 30 := by have := congrArg List.length hCB; rw [List.length_append] at this; (try simp only [List.length_cons, List.length_nil] at this); omega
  have zCB : (⟨CB.toArray⟩ : ByteArray).size = LCB := lCB
  obtain ⟨FT, hFT⟩ : ∃ y, [109, 111, 100, 101, 32, 115, 109, 116, 112, 59] ++ CB = y := ⟨_, rfl⟩
  have sFT : (⟨#[109, 111, 100, 101, 32, 115, 109, 116, 112, 59]⟩ ++ ⟨CB.toArray⟩ : ByteArray) = ⟨FT.toArray⟩ := by rw [← hFT]; exact ba_append [109, 111, 100, 101, 32, 115, 109, 116, 112, 59] CB
  obtain ⟨LFT, lFT⟩ : ∃ y, FT.length = y := ⟨_, rfl⟩
  have bFT : LFT ≤ 80 := by have := congrArg List.length hFT; rw [List.length_append] at this; (try simp only [List.length_cons, List.length_nil] at this); omega
  have zFT : (⟨FT.toArray⟩ : ByteArray).size = LFT := lFT
  have hft : Ck.labelsT a a true false = FT := by rw [← hFT, ← hCB, ← hTB, ← hTA, ← hOB, ← hOA]; simp [Ck.labelsT, Ck.labelsS, Ck.oneW, Ck.twoW, hNA]
  have ho1 : (Ck.oneW a).length = LOB := by rw [← lOB, ← hOB, ← hOA]; simp [Ck.oneW, hNA]
  have ho2 : (Ck.twoW a).length = LTB := by rw [← lTB, ← hTB, ← hTA]; simp [Ck.twoW, hNA]
  have hE : Ck.labelsE a a true false = none := by simp [Ck.labelsE]
  rw [hft] at hlaw
  obtain ⟨md, row, top, p, c, _, hpc, hout⟩ := source_out FT
  have HSRC := Lib.hid (fun wx hx => source_any FT (by omega) wx hx)
  have HOUT := Lib.hid hout
  obtain ⟨N, hN⟩ : ∃ N, row.length = N := ⟨_, rfl⟩
  have a4 : (a : Int) < 4 := by omega
  have hpc2 : c = 0 ∧ N = 2 := by
    rcases hpc with ⟨h0, h1, _⟩ | ⟨_, h1, _⟩
    · rw [h1, hE] at hlaw
      have h2 : row.length = 2 := by simpa using hlaw
      exact ⟨h0, hN.symm.trans h2⟩
    · rw [h1, hE] at hlaw; cases hlaw
  obtain ⟨rfl, rfl⟩ := hpc2
  obtain ⟨T, hT⟩ : ∃ T, w.alloc (.cells #[.bool true, .bool false] 40) = T := ⟨_, rfl⟩
  obtain ⟨q, hq⟩ : ∃ q, w.heap.size = q := ⟨_, rfl⟩
  have hbT : Below q w T := by rw [← hq, ← hT]; exact (Below.refl _ _).alloc (Nat.le_refl _) _
  have hXT : T.heap[q]? = some (.cells #[.bool true, .bool false] 40 (0, 0)) := by rw [← hq, ← hT]; exact heap_alloc_new _ _
  have HS := Lib.hid (hS.below (show Below w.heap.size w T by rw [hq]; exact hbT))
  have SW := shown_any T HS.out
  have HT := Lib.hid hT
  have HQ := Lib.hid hq
  have HBT := Lib.hid hbT
  have HX := Lib.hid hXT
  have HQS := Lib.hid (show q ≤ T.heap.size from Nat.le_of_lt (Array.getElem?_eq_some_iff.1 hXT).1)
  have HN := Lib.hid hN
  have HCA := Lib.hid cna
  clear hS hE hlaw hpc hout hft ho1 ho2 hNA hT hbT hXT cna  hN hOA hOB hTA hTB hCA hCB hFT
  rw [hq]
  clear hq
  go_enter Tryd.func5, Tryd.ntmps5
  go_upto_region 1 with fail
  rw [HT.out, HQ.out]
  go_wp2_with fail
  refine SW.mono ?_
  rintro e wa ⟨rfl, hba⟩
  clear SW
  obtain ⟨W0, hW0⟩ : ∃ x, wa.alloc (.cells #[.string ⟨#[97]⟩, .string ⟨#[98]⟩, .string ⟨#[99]⟩, .string ⟨#[100, 100]⟩] 9) = x := ⟨_, rfl⟩
  obtain ⟨nb, hnb⟩ : ∃ x, wa.heap.size = x := ⟨_, rfl⟩
  have hb0 : Below wa.heap.size wa W0 := by rw [← hW0]; exact (Below.refl _ _).alloc (Nat.le_refl _) _
  have hNN : W0.heap[nb]? = some (.cells #[.string ⟨#[97]⟩, .string ⟨#[98]⟩, .string ⟨#[99]⟩, .string ⟨#[100, 100]⟩] 9 (0, 0)) := by rw [← hnb, ← hW0]; exact heap_alloc_new _ _
  have c1 : W0.cell? ⟨nb, a, none⟩ = some (.string ⟨NA.toArray⟩) := (cell_of_row _ _ _ _ _ _ hNN).trans HCA.out
  have hbw := hba.trans (hb0.mono hba.size)
  have hX0 := (hbw.block _ (Array.getElem?_eq_some_iff.1 HX.out).1).trans HX.out
  have x0 : W0.cell? ⟨q, 0, none⟩ = some (.bool true) := cell_of_row _ _ _ _ _ _ hX0
  have x1 : W0.cell? ⟨q, 1, none⟩ = some (.bool false) := cell_of_row _ _ _ _ _ _ hX0
  have HW0 := Lib.hid hW0
  have HNB := Lib.hid hnb
  have HX0 := Lib.hid hX0
  have HBW := Lib.hid (HBT.out.trans (hbw.mono HQS.out))
  have HSW := Lib.hid (HS.out.below hbw)
  have HQW := Lib.hid (Nat.le_trans HQS.out hbw.size)
  clear hW0 hnb hb0 hNN hbw hX0 hba
  go_upto_region 3 with fail
  rw [HW0.out, HNB.out]
  have SX := HSRC.out W0 HSW.out
  clear HW0 HNB
  go_wp2_with fail
  refine SX.mono ?_
  rintro e w2 hP
  obtain ⟨a1, k1, u1, d1, hb2, rfl, _⟩ := HOUT.out _ _ _ hP
  rw [HN.out]
  have hX2 := (hb2.block _ (Array.getElem?_eq_some_iff.1 HX0.out).1).trans HX0.out
  have y0 : ∀ o, (w2.alloc o).cell? ⟨q, 0, none⟩ = some (.bool true) := fun o => cell_of_row _ _ _ _ _ _ ((Below.heap_alloc _ _ _ (Array.getElem?_eq_some_iff.1 hX2).1).trans hX2)
  have y1 : ∀ o, (w2.alloc o).cell? ⟨q, 1, none⟩ = some (.bool false) := fun o => cell_of_row _ _ _ _ _ _ ((Below.heap_alloc _ _ _ (Array.getElem?_eq_some_iff.1 hX2).1).trans hX2)
  have HF := Lib.hid (fun o => (HBW.out.trans (hb2.mono HQW.out)).alloc (Nat.le_trans HQW.out hb2.size) o)
  clear SX hP hb2 hX2 c1 x0 x1
  go_wp2
  go_ret
  exact ⟨rfl, HF.out _⟩

set_option maxRecDepth 200000 in
set_option maxHeartbeats 8000000 in
theorem lab_way110 (A B a b : Nat) (ha4 : a < 4) (hb4 : b < 4) (ha : bits .and .u8 (A : Int) 3 = (a : Int)) (hb : bits .and .u8 (B : Int) 3 = (b : Int)) (hab : a ≠ b) (w : World) (hS : SHP w) :
    Calls Tryd.prog 5 #[.int .u8 (A : Int), .int .u8 (B : Int), .agg #[.bool true, .bool true]] w fun e w' => e = .returned (.bool true) ∧ Below w.heap.size w w' := by
  have hlaw := Ck.labels_law ⟨a, ha4⟩ ⟨b, hb4⟩ true true
  unfold Ck.labelsOk at hlaw
  dsimp only at hlaw
  obtain ⟨NA, hNA⟩ : ∃ y, Ck.nameW a = y := ⟨_, rfl⟩
  obtain ⟨NB, hNB⟩ : ∃ y, Ck.nameW b = y := ⟨_, rfl⟩
  have nla : NA.length ≤ 2 := by rw [← hNA]; exact name_len a ha4
  have nlb : NB.length ≤ 2 := by rw [← hNB]; exact name_len b hb4
  have cna := names_at a ha4
  have cnb := names_at b hb4
  rw [hNA] at cna
  rw [hNB] at cnb
  obtain ⟨ZA, lNA⟩ : ∃ y, NA.length = y := ⟨_, rfl⟩
  obtain ⟨ZB, lNB⟩ : ∃ y, NB.length = y := ⟨_, rfl⟩
  rw [lNA] at nla
  rw [lNB] at nlb
  have zNA : (⟨NA.toArray⟩ : ByteArray).size = ZA := lNA
  have zNB : (⟨NB.toArray⟩ : ByteArray).size = ZB := lNB
  obtain ⟨OA, hOA⟩ : ∃ y, [108, 97, 98, 101, 108, 32] ++ NA = y := ⟨_, rfl⟩
  have sOA : (⟨#[108, 97, 98, 101, 108, 32]⟩ ++ ⟨NA.toArray⟩ : ByteArray) = ⟨OA.toArray⟩ := by rw [← hOA]; exact ba_append [108, 97, 98, 101, 108, 32] NA
  obtain ⟨LOA, lOA⟩ : ∃ y, OA.length = y := ⟨_, rfl⟩
  have bOA : LOA ≤ 10 := by have := congrArg List.length hOA; rw [List.length_append] at this; (try simp only [List.length_cons, List.length_nil] at this); omega
  have zOA : (⟨OA.toArray⟩ : ByteArray).size = LOA := lOA
  obtain ⟨OB, hOB⟩ : ∃ y, OA ++ [59] = y := ⟨_, rfl⟩
  have sOB : (⟨OA.toArray⟩ ++ ⟨#[59]⟩ : ByteArray) = ⟨OB.toArray⟩ := by rw [← hOB]; exact ba_append OA [59]
  obtain ⟨LOB, lOB⟩ : ∃ y, OB.length = y := ⟨_, rfl⟩
  have bOB : LOB ≤ 12 := by have := congrArg List.length hOB; rw [List.length_append] at this; (try simp only [List.length_cons, List.length_nil] at this); omega
  have zOB : (⟨OB.toArray⟩ : ByteArray).size = LOB := lOB
  obtain ⟨TA, hTA⟩ : ∃ y, [103, 111, 116, 111, 32] ++ NB = y := ⟨_, rfl⟩
  have sTA : (⟨#[103, 111, 116, 111, 32]⟩ ++ ⟨NB.toArray⟩ : ByteArray) = ⟨TA.toArray⟩ := by rw [← hTA]; exact ba_append [103, 111, 116, 111, 32] NB
  obtain ⟨LTA, lTA⟩ : ∃ y, TA.length = y := ⟨_, rfl⟩
  have bTA : LTA ≤ 10 := by have := congrArg List.length hTA; rw [List.length_append] at this; (try simp only [List.length_cons, List.length_nil] at this); omega
  have zTA : (⟨TA.toArray⟩ : ByteArray).size = LTA := lTA
  obtain ⟨TB, hTB⟩ : ∃ y, TA ++ [59] = y := ⟨_, rfl⟩
  have sTB : (⟨TA.toArray⟩ ++ ⟨#[59]⟩ : ByteArray) = ⟨TB.toArray⟩ := by rw [← hTB]; exact ba_append TA [59]
  obtain ⟨LTB, lTB⟩ : ∃ y, TB.length = y := ⟨_, rfl⟩
  have bTB : LTB ≤ 12 := by have := congrArg List.length hTB; rw [List.length_append] at this; (try simp only [List.length_cons, List.length_nil] at this); omega
  have zTB : (⟨TB.toArray⟩ : ByteArray).size = LTB := lTB
  obtain ⟨CA, hCA⟩ : ∃ y, TB ++ OB = y := ⟨_, rfl⟩
  have sCA : (⟨TB.toArray⟩ ++ ⟨OB.toArray⟩ : ByteArray) = ⟨CA.toArray⟩ := by rw [← hCA]; exact ba_append TB OB
  obtain ⟨LCA, lCA⟩ : ∃ y, CA.length = y := ⟨_, rfl⟩
  have bCA : LCA ≤ 30 := by have := congrArg List.length hCA; rw [List.length_append] at this; (try simp only [List.length_cons, List.length_nil] at this); omega
  have zCA : (⟨CA.toArray⟩ : ByteArray).size = LCA := lCA
  obtain ⟨CB, hCB⟩ : ∃ y, OB ++ TB = y := ⟨_, rfl⟩
  have sCB : (⟨OB.toArray⟩ ++ ⟨TB.toArray⟩ : ByteArray) = ⟨CB.toArray⟩ := by rw [← hCB]; exact ba_append OB TB
  obtain ⟨LCB, lCB⟩ : ∃ y, CB.length = y := ⟨_, rfl⟩
  have bCB : LCB ≤ 30 := by have := congrArg List.length hCB; rw [List.length_append] at this; (try simp only [List.length_cons, List.length_nil] at this); omega
  have zCB : (⟨CB.toArray⟩ : ByteArray).size = LCB := lCB
  obtain ⟨CC, hCC⟩ : ∃ y, CB ++ OB = y := ⟨_, rfl⟩
  have sCC : (⟨CB.toArray⟩ ++ ⟨OB.toArray⟩ : ByteArray) = ⟨CC.toArray⟩ := by rw [← hCC]; exact ba_append CB OB
  obtain ⟨LCC, lCC⟩ : ∃ y, CC.length = y := ⟨_, rfl⟩
  have bCC : LCC ≤ 50 := by have := congrArg List.length hCC; rw [List.length_append] at this; (try simp only [List.length_cons, List.length_nil] at this); omega
  have zCC : (⟨CC.toArray⟩ : ByteArray).size = LCC := lCC
  obtain ⟨FT, hFT⟩ : ∃ y, [109, 111, 100, 101, 32, 115, 109, 116, 112, 59] ++ CC = y := ⟨_, rfl⟩
  have sFT : (⟨#[109, 111, 100, 101, 32, 115, 109, 116, 112, 59]⟩ ++ ⟨CC.toArray⟩ : ByteArray) = ⟨FT.toArray⟩ := by rw [← hFT]; exact ba_append [109, 111, 100, 101, 32, 115, 109, 116, 112, 59] CC
  obtain ⟨LFT, lFT⟩ : ∃ y, FT.length = y := ⟨_, rfl⟩
  have bFT : LFT ≤ 80 := by have := congrArg List.length hFT; rw [List.length_append] at this; (try simp only [List.length_cons, List.length_nil] at this); omega
  have zFT : (⟨FT.toArray⟩ : ByteArray).size = LFT := lFT
  have hft : Ck.labelsT a b true true = FT := by rw [← hFT, ← hCC, ← hCB, ← hTB, ← hTA, ← hOB, ← hOA]; simp [Ck.labelsT, Ck.labelsS, Ck.oneW, Ck.twoW, hNA, hNB]
  have ho1 : (Ck.oneW a).length = LOB := by rw [← lOB, ← hOB, ← hOA]; simp [Ck.oneW, hNA]
  have ho2 : (Ck.twoW b).length = LTB := by rw [← lTB, ← hTB, ← hTA]; simp [Ck.twoW, hNB]
  have hE : Ck.labelsE a b true true = some (10 + LOB, 33) := by simp [Ck.labelsE, ho1, hab]
  rw [hft] at hlaw
  obtain ⟨md, row, top, p, c, _, hpc, hout⟩ := source_out FT
  have HSRC := Lib.hid (fun wx hx => source_any FT (by omega) wx hx)
  have HOUT := Lib.hid hout
  obtain ⟨N, hN⟩ : ∃ N, row.length = N := ⟨_, rfl⟩
  have a4 : (a : Int) < 4 := by omega
  have b4 : (b : Int) < 4 := by omega
  have hpc2 : p = 10 + LOB ∧ c = 33 := by
    rcases hpc with ⟨_, h1, _⟩ | ⟨_, h1, _⟩
    · rw [h1, hE] at hlaw; cases hlaw
    · rw [h1, hE] at hlaw
      have h2 : (p, c) = (10 + LOB, 33) := by simpa using hlaw
      exact ⟨congrArg Prod.fst h2, congrArg Prod.snd h2⟩
  obtain ⟨hp, rfl⟩ := hpc2
  have e1 : ((p : Int) == 10 + (LOB : Int)) = true := beq_iff_eq.2 (by omega)
  have e2 : ((p : Int) = 10 + (LOB : Int)) = True := eq_true (by omega)
  have f1 : ((a : Int) == (b : Int)) = false := beq_eq_false_iff_ne.2 (by omega)
  have f2 : ((a : Int) = (b : Int)) = False := eq_false (by omega)
  have f3 : ((a : Int) != (b : Int)) = true := by rw [bne_iff_ne]; omega
  have f4 : (a = b) = False := eq_false hab
  obtain ⟨T, hT⟩ : ∃ T, w.alloc (.cells #[.bool true, .bool true] 40) = T := ⟨_, rfl⟩
  obtain ⟨q, hq⟩ : ∃ q, w.heap.size = q := ⟨_, rfl⟩
  have hbT : Below q w T := by rw [← hq, ← hT]; exact (Below.refl _ _).alloc (Nat.le_refl _) _
  have hXT : T.heap[q]? = some (.cells #[.bool true, .bool true] 40 (0, 0)) := by rw [← hq, ← hT]; exact heap_alloc_new _ _
  have HS := Lib.hid (hS.below (show Below w.heap.size w T by rw [hq]; exact hbT))
  have SW := shown_any T HS.out
  have HT := Lib.hid hT
  have HQ := Lib.hid hq
  have HBT := Lib.hid hbT
  have HX := Lib.hid hXT
  have HQS := Lib.hid (show q ≤ T.heap.size from Nat.le_of_lt (Array.getElem?_eq_some_iff.1 hXT).1)
  have HN := Lib.hid hN
  have HCA := Lib.hid cna
  have HCB := Lib.hid cnb
  clear hS hE hlaw hpc hout hft ho1 ho2 hNA hNB hT hbT hXT cna cnb hN hOA hOB hTA hTB hCA hCB hCC hFT
  rw [hq]
  clear hq
  go_enter Tryd.func5, Tryd.ntmps5
  go_upto_region 1 with fail
  rw [HT.out, HQ.out]
  go_wp2_with fail
  refine SW.mono ?_
  rintro e wa ⟨rfl, hba⟩
  clear SW
  obtain ⟨W0, hW0⟩ : ∃ x, wa.alloc (.cells #[.string ⟨#[97]⟩, .string ⟨#[98]⟩, .string ⟨#[99]⟩, .string ⟨#[100, 100]⟩] 9) = x := ⟨_, rfl⟩
  obtain ⟨nb, hnb⟩ : ∃ x, wa.heap.size = x := ⟨_, rfl⟩
  have hb0 : Below wa.heap.size wa W0 := by rw [← hW0]; exact (Below.refl _ _).alloc (Nat.le_refl _) _
  have hNN : W0.heap[nb]? = some (.cells #[.string ⟨#[97]⟩, .string ⟨#[98]⟩, .string ⟨#[99]⟩, .string ⟨#[100, 100]⟩] 9 (0, 0)) := by rw [← hnb, ← hW0]; exact heap_alloc_new _ _
  have c1 : W0.cell? ⟨nb, a, none⟩ = some (.string ⟨NA.toArray⟩) := (cell_of_row _ _ _ _ _ _ hNN).trans HCA.out
  have c2 : W0.cell? ⟨nb, b, none⟩ = some (.string ⟨NB.toArray⟩) := (cell_of_row _ _ _ _ _ _ hNN).trans HCB.out
  have hbw := hba.trans (hb0.mono hba.size)
  have hX0 := (hbw.block _ (Array.getElem?_eq_some_iff.1 HX.out).1).trans HX.out
  have x0 : W0.cell? ⟨q, 0, none⟩ = some (.bool true) := cell_of_row _ _ _ _ _ _ hX0
  have x1 : W0.cell? ⟨q, 1, none⟩ = some (.bool true) := cell_of_row _ _ _ _ _ _ hX0
  have HW0 := Lib.hid hW0
  have HNB := Lib.hid hnb
  have HX0 := Lib.hid hX0
  have HBW := Lib.hid (HBT.out.trans (hbw.mono HQS.out))
  have HSW := Lib.hid (HS.out.below hbw)
  have HQW := Lib.hid (Nat.le_trans HQS.out hbw.size)
  clear hW0 hnb hb0 hNN hbw hX0 hba
  go_upto_region 3 with fail
  rw [HW0.out, HNB.out]
  have SX := HSRC.out W0 HSW.out
  clear HW0 HNB
  go_wp2_with fail
  refine SX.mono ?_
  rintro e w2 hP
  obtain ⟨a1, k1, u1, d1, hb2, rfl, _⟩ := HOUT.out _ _ _ hP
  rw [HN.out]
  have hX2 := (hb2.block _ (Array.getElem?_eq_some_iff.1 HX0.out).1).trans HX0.out
  have y0 : ∀ o, (w2.alloc o).cell? ⟨q, 0, none⟩ = some (.bool true) := fun o => cell_of_row _ _ _ _ _ _ ((Below.heap_alloc _ _ _ (Array.getElem?_eq_some_iff.1 hX2).1).trans hX2)
  have y1 : ∀ o, (w2.alloc o).cell? ⟨q, 1, none⟩ = some (.bool true) := fun o => cell_of_row _ _ _ _ _ _ ((Below.heap_alloc _ _ _ (Array.getElem?_eq_some_iff.1 hX2).1).trans hX2)
  have HF := Lib.hid (fun o => (HBW.out.trans (hb2.mono HQW.out)).alloc (Nat.le_trans HQW.out hb2.size) o)
  clear SX hP hb2 hX2 c1 c2 x0 x1
  go_wp2
  go_ret
  exact ⟨rfl, HF.out _⟩

set_option maxRecDepth 200000 in
set_option maxHeartbeats 8000000 in
theorem lab_way111 (A B a : Nat) (ha4 : a < 4) (ha : bits .and .u8 (A : Int) 3 = (a : Int)) (hb : bits .and .u8 (B : Int) 3 = (a : Int)) (w : World) (hS : SHP w) :
    Calls Tryd.prog 5 #[.int .u8 (A : Int), .int .u8 (B : Int), .agg #[.bool true, .bool true]] w fun e w' => e = .returned (.bool true) ∧ Below w.heap.size w w' := by
  have hlaw := Ck.labels_law ⟨a, ha4⟩ ⟨a, ha4⟩ true true
  unfold Ck.labelsOk at hlaw
  dsimp only at hlaw
  obtain ⟨NA, hNA⟩ : ∃ y, Ck.nameW a = y := ⟨_, rfl⟩
  have nla : NA.length ≤ 2 := by rw [← hNA]; exact name_len a ha4
  have cna := names_at a ha4
  rw [hNA] at cna
  obtain ⟨ZA, lNA⟩ : ∃ y, NA.length = y := ⟨_, rfl⟩
  rw [lNA] at nla
  have zNA : (⟨NA.toArray⟩ : ByteArray).size = ZA := lNA
  obtain ⟨OA, hOA⟩ : ∃ y, [108, 97, 98, 101, 108, 32] ++ NA = y := ⟨_, rfl⟩
  have sOA : (⟨#[108, 97, 98, 101, 108, 32]⟩ ++ ⟨NA.toArray⟩ : ByteArray) = ⟨OA.toArray⟩ := by rw [← hOA]; exact ba_append [108, 97, 98, 101, 108, 32] NA
  obtain ⟨LOA, lOA⟩ : ∃ y, OA.length = y := ⟨_, rfl⟩
  have bOA : LOA ≤ 10 := by have := congrArg List.length hOA; rw [List.length_append] at this; (try simp only [List.length_cons, List.length_nil] at this); omega
  have zOA : (⟨OA.toArray⟩ : ByteArray).size = LOA := lOA
  obtain ⟨OB, hOB⟩ : ∃ y, OA ++ [59] = y := ⟨_, rfl⟩
  have sOB : (⟨OA.toArray⟩ ++ ⟨#[59]⟩ : ByteArray) = ⟨OB.toArray⟩ := by rw [← hOB]; exact ba_append OA [59]
  obtain ⟨LOB, lOB⟩ : ∃ y, OB.length = y := ⟨_, rfl⟩
  have bOB : LOB ≤ 12 := by have := congrArg List.length hOB; rw [List.length_append] at this; (try simp only [List.length_cons, List.length_nil] at this); omega
  have zOB : (⟨OB.toArray⟩ : ByteArray).size = LOB := lOB
  obtain ⟨TA, hTA⟩ : ∃ y, [103, 111, 116, 111, 32] ++ NA = y := ⟨_, rfl⟩
  have sTA : (⟨#[103, 111, 116, 111, 32]⟩ ++ ⟨NA.toArray⟩ : ByteArray) = ⟨TA.toArray⟩ := by rw [← hTA]; exact ba_append [103, 111, 116, 111, 32] NA
  obtain ⟨LTA, lTA⟩ : ∃ y, TA.length = y := ⟨_, rfl⟩
  have bTA : LTA ≤ 10 := by have := congrArg List.length hTA; rw [List.length_append] at this; (try simp only [List.length_cons, List.length_nil] at this); omega
  have zTA : (⟨TA.toArray⟩ : ByteArray).size = LTA := lTA
  obtain ⟨TB, hTB⟩ : ∃ y, TA ++ [59] = y := ⟨_, rfl⟩
  have sTB : (⟨TA.toArray⟩ ++ ⟨#[59]⟩ : ByteArray) = ⟨TB.toArray⟩ := by rw [← hTB]; exact ba_append TA [59]
  obtain ⟨LTB, lTB⟩ : ∃ y, TB.length = y := ⟨_, rfl⟩
  have bTB : LTB ≤ 12 := by have := congrArg List.length hTB; rw [List.length_append] at this; (try simp only [List.length_cons, List.length_nil] at this); omega
  have zTB : (⟨TB.toArray⟩ : ByteArray).size = LTB := lTB
  obtain ⟨CA, hCA⟩ : ∃ y, TB ++ OB = y := ⟨_, rfl⟩
  have sCA : (⟨TB.toArray⟩ ++ ⟨OB.toArray⟩ : ByteArray) = ⟨CA.toArray⟩ := by rw [← hCA]; exact ba_append TB OB
  obtain ⟨LCA, lCA⟩ : ∃ y, CA.length = y := ⟨_, rfl⟩
  have bCA : LCA ≤ 30 := by have := congrArg List.length hCA; rw [List.length_append] at this; (try simp only [List.length_cons, List.length_nil] at this); omega
  have zCA : (⟨CA.toArray⟩ : ByteArray).size = LCA := lCA
  obtain ⟨CB, hCB⟩ : ∃ y, OB ++ TB = y := ⟨_, rfl⟩
  have sCB : (⟨OB.toArray⟩ ++ ⟨TB.toArray⟩ : ByteArray) = ⟨CB.toArray⟩ := by rw [← hCB]; exact ba_append OB TB
  obtain ⟨LCB, lCB⟩ : ∃ y, CB.length = y := ⟨_, rfl⟩
  have bCB : LCB ≤ 30 := by have := congrArg List.length hCB; rw [List.length_append] at this; (try simp only [List.length_cons, List.length_nil] at this); omega
  have zCB : (⟨CB.toArray⟩ : ByteArray).size = LCB := lCB
  obtain ⟨CC, hCC⟩ : ∃ y, CB ++ OB = y := ⟨_, rfl⟩
  have sCC : (⟨CB.toArray⟩ ++ ⟨OB.toArray⟩ : ByteArray) = ⟨CC.toArray⟩ := by rw [← hCC]; exact ba_append CB OB
  obtain ⟨LCC, lCC⟩ : ∃ y, CC.length = y := ⟨_, rfl⟩
  have bCC : LCC ≤ 50 := by have := congrArg List.length hCC; rw [List.length_append] at this; (try simp only [List.length_cons, List.length_nil] at this); omega
  have zCC : (⟨CC.toArray⟩ : ByteArray).size = LCC := lCC
  obtain ⟨FT, hFT⟩ : ∃ y, [109, 111, 100, 101, 32, 115, 109, 116, 112, 59] ++ CC = y := ⟨_, rfl⟩
  have sFT : (⟨#[109, 111, 100, 101, 32, 115, 109, 116, 112, 59]⟩ ++ ⟨CC.toArray⟩ : ByteArray) = ⟨FT.toArray⟩ := by rw [← hFT]; exact ba_append [109, 111, 100, 101, 32, 115, 109, 116, 112, 59] CC
  obtain ⟨LFT, lFT⟩ : ∃ y, FT.length = y := ⟨_, rfl⟩
  have bFT : LFT ≤ 80 := by have := congrArg List.length hFT; rw [List.length_append] at this; (try simp only [List.length_cons, List.length_nil] at this); omega
  have zFT : (⟨FT.toArray⟩ : ByteArray).size = LFT := lFT
  have hft : Ck.labelsT a a true true = FT := by rw [← hFT, ← hCC, ← hCB, ← hTB, ← hTA, ← hOB, ← hOA]; simp [Ck.labelsT, Ck.labelsS, Ck.oneW, Ck.twoW, hNA]
  have ho1 : (Ck.oneW a).length = LOB := by rw [← lOB, ← hOB, ← hOA]; simp [Ck.oneW, hNA]
  have ho2 : (Ck.twoW a).length = LTB := by rw [← lTB, ← hTB, ← hTA]; simp [Ck.twoW, hNA]
  have hE : Ck.labelsE a a true true = some (10 + LOB + LTB, 31) := by simp [Ck.labelsE, ho1, ho2]
  rw [hft] at hlaw
  obtain ⟨md, row, top, p, c, _, hpc, hout⟩ := source_out FT
  have HSRC := Lib.hid (fun wx hx => source_any FT (by omega) wx hx)
  have HOUT := Lib.hid hout
  obtain ⟨N, hN⟩ : ∃ N, row.length = N := ⟨_, rfl⟩
  have a4 : (a : Int) < 4 := by omega
  have hpc2 : p = 10 + LOB + LTB ∧ c = 31 := by
    rcases hpc with ⟨_, h1, _⟩ | ⟨_, h1, _⟩
    · rw [h1, hE] at hlaw; cases hlaw
    · rw [h1, hE] at hlaw
      have h2 : (p, c) = (10 + LOB + LTB, 31) := by simpa using hlaw
      exact ⟨congrArg Prod.fst h2, congrArg Prod.snd h2⟩
  obtain ⟨hp, rfl⟩ := hpc2
  have e1 : ((p : Int) == 10 + (LOB : Int) + (LTB : Int)) = true := beq_iff_eq.2 (by omega)
  have e2 : ((p : Int) = 10 + (LOB : Int) + (LTB : Int)) = True := eq_true (by omega)
  obtain ⟨T, hT⟩ : ∃ T, w.alloc (.cells #[.bool true, .bool true] 40) = T := ⟨_, rfl⟩
  obtain ⟨q, hq⟩ : ∃ q, w.heap.size = q := ⟨_, rfl⟩
  have hbT : Below q w T := by rw [← hq, ← hT]; exact (Below.refl _ _).alloc (Nat.le_refl _) _
  have hXT : T.heap[q]? = some (.cells #[.bool true, .bool true] 40 (0, 0)) := by rw [← hq, ← hT]; exact heap_alloc_new _ _
  have HS := Lib.hid (hS.below (show Below w.heap.size w T by rw [hq]; exact hbT))
  have SW := shown_any T HS.out
  have HT := Lib.hid hT
  have HQ := Lib.hid hq
  have HBT := Lib.hid hbT
  have HX := Lib.hid hXT
  have HQS := Lib.hid (show q ≤ T.heap.size from Nat.le_of_lt (Array.getElem?_eq_some_iff.1 hXT).1)
  have HN := Lib.hid hN
  have HCA := Lib.hid cna
  clear hS hE hlaw hpc hout hft ho1 ho2 hNA hT hbT hXT cna  hN hOA hOB hTA hTB hCA hCB hCC hFT
  rw [hq]
  clear hq
  go_enter Tryd.func5, Tryd.ntmps5
  go_upto_region 1 with fail
  rw [HT.out, HQ.out]
  go_wp2_with fail
  refine SW.mono ?_
  rintro e wa ⟨rfl, hba⟩
  clear SW
  obtain ⟨W0, hW0⟩ : ∃ x, wa.alloc (.cells #[.string ⟨#[97]⟩, .string ⟨#[98]⟩, .string ⟨#[99]⟩, .string ⟨#[100, 100]⟩] 9) = x := ⟨_, rfl⟩
  obtain ⟨nb, hnb⟩ : ∃ x, wa.heap.size = x := ⟨_, rfl⟩
  have hb0 : Below wa.heap.size wa W0 := by rw [← hW0]; exact (Below.refl _ _).alloc (Nat.le_refl _) _
  have hNN : W0.heap[nb]? = some (.cells #[.string ⟨#[97]⟩, .string ⟨#[98]⟩, .string ⟨#[99]⟩, .string ⟨#[100, 100]⟩] 9 (0, 0)) := by rw [← hnb, ← hW0]; exact heap_alloc_new _ _
  have c1 : W0.cell? ⟨nb, a, none⟩ = some (.string ⟨NA.toArray⟩) := (cell_of_row _ _ _ _ _ _ hNN).trans HCA.out
  have hbw := hba.trans (hb0.mono hba.size)
  have hX0 := (hbw.block _ (Array.getElem?_eq_some_iff.1 HX.out).1).trans HX.out
  have x0 : W0.cell? ⟨q, 0, none⟩ = some (.bool true) := cell_of_row _ _ _ _ _ _ hX0
  have x1 : W0.cell? ⟨q, 1, none⟩ = some (.bool true) := cell_of_row _ _ _ _ _ _ hX0
  have HW0 := Lib.hid hW0
  have HNB := Lib.hid hnb
  have HX0 := Lib.hid hX0
  have HBW := Lib.hid (HBT.out.trans (hbw.mono HQS.out))
  have HSW := Lib.hid (HS.out.below hbw)
  have HQW := Lib.hid (Nat.le_trans HQS.out hbw.size)
  clear hW0 hnb hb0 hNN hbw hX0 hba
  go_upto_region 3 with fail
  rw [HW0.out, HNB.out]
  have SX := HSRC.out W0 HSW.out
  clear HW0 HNB
  go_wp2_with fail
  refine SX.mono ?_
  rintro e w2 hP
  obtain ⟨a1, k1, u1, d1, hb2, rfl, _⟩ := HOUT.out _ _ _ hP
  rw [HN.out]
  have hX2 := (hb2.block _ (Array.getElem?_eq_some_iff.1 HX0.out).1).trans HX0.out
  have y0 : ∀ o, (w2.alloc o).cell? ⟨q, 0, none⟩ = some (.bool true) := fun o => cell_of_row _ _ _ _ _ _ ((Below.heap_alloc _ _ _ (Array.getElem?_eq_some_iff.1 hX2).1).trans hX2)
  have y1 : ∀ o, (w2.alloc o).cell? ⟨q, 1, none⟩ = some (.bool true) := fun o => cell_of_row _ _ _ _ _ _ ((Below.heap_alloc _ _ _ (Array.getElem?_eq_some_iff.1 hX2).1).trans hX2)
  have HF := Lib.hid (fun o => (HBW.out.trans (hb2.mono HQW.out)).alloc (Nat.le_trans HQW.out hb2.size) o)
  clear SX hP hb2 hX2 c1 x0 x1
  go_wp2
  go_ret
  exact ⟨rfl, HF.out _⟩

theorem byte_of {a : Int} (h : (Lit.int .u8 a).wf = true) : ∃ A : Nat, a = (A : Int) ∧ A < 256 := by
  have h' : 0 ≤ a ∧ a ≤ 255 := by
    unfold Lit.wf at h
    rw [Bool.and_eq_true, decide_eq_true_eq, decide_eq_true_eq, show IntKind.min .u8 = 0 by decide, show IntKind.max .u8 = 255 by decide] at h
    exact h
  exact ⟨a.toNat, by omega, by omega⟩
theorem and3 (A : Nat) (h : A < 256) : bits .and .u8 (A : Int) 3 = ((A % 4 : Nat) : Int) := mask_u8 2 (by decide) (by omega) (by omega)
theorem lawLabelsC (a b : Int) (x0 x1 : Bool) (ha : (Lit.int .u8 a).wf = true) (hb : (Lit.int .u8 b).wf = true) (w : World) (hS : SHP w) :
    Calls Tryd.prog 5 #[.int .u8 a, .int .u8 b, .agg #[.bool x0, .bool x1]] w fun e w' => e = .returned (.bool true) ∧ Below w.heap.size w w' := by
  obtain ⟨A, rfl, hA⟩ := byte_of ha
  obtain ⟨B, rfl, hB⟩ := byte_of hb
  have h1 := and3 A hA
  have h2 := and3 B hB
  by_cases hab : A % 4 = B % 4
  · cases x0 <;> cases x1
    · exact lab_way001 A B _ (by omega) h1 (hab ▸ h2) w hS
    · exact lab_way011 A B _ (by omega) h1 (hab ▸ h2) w hS
    · exact lab_way101 A B _ (by omega) h1 (hab ▸ h2) w hS
    · exact lab_way111 A B _ (by omega) h1 (hab ▸ h2) w hS
  · cases x0 <;> cases x1
    · exact lab_way000 A B _ _ (by omega) (by omega) h1 h2 hab w hS
    · exact lab_way010 A B _ _ (by omega) (by omega) h1 h2 hab w hS
    · exact lab_way100 A B _ _ (by omega) (by omega) h1 h2 hab w hS
    · exact lab_way110 A B _ _ (by omega) (by omega) h1 h2 hab w hS
end Go.Proofs.YthlbociimbpgkaaDoor
