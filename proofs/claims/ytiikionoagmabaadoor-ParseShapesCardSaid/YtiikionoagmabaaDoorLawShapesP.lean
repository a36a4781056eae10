/- ParseShapes walked (layer 15). (Laid by wip/tools/gen_lshapes.py.) -/
import Derived.Test.YtiikionoagmabaaDoorParseLaw
import Derived.Test.YtiikionoagmabaaDoorPN
import Derived.Test.YtiikionoagmabaaDoorPO
import Derived.Test.YtiikionoagmabaaDoorPQ
import Derived.Test.YtiikionoagmabaaDoorPM
import Derived.Deep.CutRange
namespace Go.Proofs.YtiikionoagmabaaDoor
open Go.RowKit

/-- The words of a shape, as the reference parts it. -/
theorem rwords_any (k : Nat) (h1 : 1 ≤ k) (h2 : k ≤ 17) (w : World) : Calls Tryd.prog 20 #[.string ⟨(Ps.shapeS k).toArray⟩] w fun e w' =>
    ∃ g n cap, e = .returned (.slice (some ⟨g, 0, none⟩) n cap) ∧ n = (Ps.fw k :: Ps.tailW k).length ∧ (∀ j x, (Ps.fw k :: Ps.tailW k)[j]? = some x → w'.cell? ⟨g, j, none⟩ = some (.string ⟨x.toArray⟩)) ∧ Below w.heap.size w w' := by
  have hl := Ps.shapeS_len ⟨k, by omega⟩
  refine (ref_words ⟨(Ps.shapeS k).toArray⟩ w (by show (Ps.shapeS k).length ≤ _; simp only at hl; omega)).mono ?_
  rintro e w' ⟨v, rfl, ho, hb⟩
  rw [show (⟨(Ps.shapeS k).toArray⟩ : ByteArray).data.toList = Ps.shapeS k from rfl, Ps.words_of h1 h2] at ho
  obtain ⟨g, cap, rfl, hg, _, _, hc⟩ := own_pos ho (by simp)
  exact ⟨g, _, cap, rfl, rfl, fun j x hx => hc j _ (by rw [List.getElem?_map, hx]; rfl), hb⟩
theorem no_big {x : Nat} (h : x ≤ 1000) : (9223372036854775807 < x) = False := eq_false (by omega)
theorem sums_small {LA LB L1 L2 L3 : Nat} (h1 : LA ≤ 40) (h2 : LB ≤ 40) (h3 : L1 ≤ 40) (h4 : L2 ≤ 40) (h5 : L3 ≤ 40) : (9223372036854775807 < 5 + LA) = False ∧ (9223372036854775807 < 5 + LA + 1) = False ∧ (9223372036854775807 < 1 + LA) = False ∧ (9223372036854775807 < 1 + LA + 1) = False ∧ (9223372036854775807 < LA + 1) = False ∧ (9223372036854775807 < LA + 1 + LB) = False ∧ (9223372036854775807 < LA + 1 + LB + 1) = False ∧ (9223372036854775807 < 5 + LA) = False ∧ (9223372036854775807 < 5 + LA + 1) = False ∧ (9223372036854775807 < 5 + LA + 1 + LB) = False ∧ (9223372036854775807 < LA + 2) = False ∧ (9223372036854775807 < L1 + 1) = False ∧ (9223372036854775807 < L1 + 1 + L2) = False ∧ (9223372036854775807 < L1 + 1 + L2 + 1) = False ∧ (9223372036854775807 < L1 + 1 + L2 + 1 + L3) = False := by
  refine ⟨no_big ?_, no_big ?_, no_big ?_, no_big ?_, no_big ?_, no_big ?_, no_big ?_, no_big ?_, no_big ?_, no_big ?_, no_big ?_, no_big ?_, no_big ?_, no_big ?_, no_big ?_⟩ <;> omega
/-- What ParseShapes wants, kind by kind, in a row. -/
theorem want_cell {w : World} {g : Nat} {t : TypeId} {a b N2 P2 A3 C2 NB AA : List UInt8} (h : w.heap[g]? = some (.cells #[.string ⟨#[]⟩, .string ⟨N2.toArray⟩, .string ⟨P2.toArray⟩, .string ⟨A3.toArray⟩, .string ⟨A3.toArray⟩, .string ⟨C2.toArray⟩, .string ⟨#[124, 124]⟩, .string ⟨NB.toArray⟩, .string ⟨A3.toArray⟩, .string ⟨NB.toArray⟩, .string ⟨N2.toArray⟩, .string ⟨A3.toArray⟩, .string ⟨#[124, 124]⟩, .string ⟨#[110, 97, 109, 101, 124, 124]⟩, .string ⟨#[110, 97, 109, 101, 124, 124]⟩, .string ⟨#[110, 97, 109, 101, 124, 124]⟩, .string ⟨AA.toArray⟩, .string ⟨#[124, 124]⟩] t (0, 0)))
    (h1 : N2 = Ps.wName ++ [124] ++ a ++ [124]) (h2 : P2 = [124] ++ a ++ [124]) (h3 : A3 = a ++ [124] ++ b ++ [124]) (h5 : C2 = Ps.wCode ++ [124] ++ a ++ [124]) (h7 : NB = Ps.wName ++ [124] ++ a ++ [124] ++ b) (h16 : AA = a ++ [124, 124]) (k : Nat) (hk : 1 ≤ k) (hk2 : k ≤ 17) :
    w.cell? ⟨g, k, none⟩ = some (.string ⟨(Ps.wantOfS a b k).toArray⟩) := by
  subst h1 h2 h3 h5 h7 h16
  rw [cell_of_row _ _ _ _ _ _ h]
  have hks : k = 1 ∨ k = 2 ∨ k = 3 ∨ k = 4 ∨ k = 5 ∨ k = 6 ∨ k = 7 ∨ k = 8 ∨ k = 9 ∨ k = 10 ∨ k = 11 ∨ k = 12 ∨ k = 13 ∨ k = 14 ∨ k = 15 ∨ k = 16 ∨ k = 17 := by omega
  rcases hks with rfl | rfl | rfl | rfl | rfl | rfl | rfl | rfl | rfl | rfl | rfl | rfl | rfl | rfl | rfl | rfl | rfl <;> rfl

set_option maxRecDepth 40000 in
set_option maxHeartbeats 40000000 in
theorem lawShapesP (a0 : Int) (s0 s1 : ByteArray) (n0 : Int) (h0 : (Lit.int .u8 a0).wf = true) (hs0 : s0.size ≤ maxLen) (hs1 : s1.size ≤ maxLen) (_hn0 : (Lit.int .i64 n0).wf = true) (w : World) (hS : SHP w) :
    Calls Tryd.prog 7 #[.int .u8 a0, .agg #[.string s0, .string s1], .int .i64 n0] w fun e w' => e = .returned (.bool true) ∧ Below w.heap.size w w' := by
  have hb0 := bounds_u8 h0
  obtain ⟨A, rfl⟩ := Int.eq_ofNat_of_zero_le hb0.1
  obtain ⟨K, hK⟩ : ∃ K, 1 + A % 17 = K := ⟨_, rfl⟩
  have hK1 : 1 ≤ K := by omega
  have hK17 : K ≤ 17 := by omega
  have hA : A < 256 := by omega
  have n1 : 1 + (A : Int) % 17 = (K : Int) := by omega
  have n2 : 1 + (A : Int).tmod 17 = (K : Int) := by rw [Int.tmod_eq_emod_of_nonneg (by omega)]; exact n1
  obtain ⟨U, hU⟩ : ∃ U : Nat, n0 % 536870912 = (U : Int) := Int.eq_ofNat_of_zero_le (Int.emod_nonneg _ (by decide))
  have hU9 : U < 536870912 := by have := Int.emod_lt_of_pos n0 (show (0 : Int) < 536870912 by decide); omega
  have hand : bits .and .i64 n0 536870911 = (U : Int) := (i64_29 n0).trans hU
  have SW := Lib.hid (fun wx hx => shown_any wx hx)
  have SP := Lib.hid (fun s hs wx => splain_any s hs wx)
  have HS := Lib.hid hS
  have HK := Lib.hid hK
  obtain ⟨g0, hg0⟩ : ∃ g, w.heap.size = g := ⟨_, rfl⟩
  obtain ⟨wb, hwb⟩ : ∃ wb, w.alloc (.cells #[.string s0, .string s1] 45) = wb := ⟨_, rfl⟩
  have hbb : Below g0 w wb := by rw [← hwb, ← hg0]; exact (Below.refl _ _).alloc (Nat.le_refl _) _
  have hbh : wb.heap[g0]? = some (.cells #[.string s0, .string s1] 45 (0, 0)) := by rw [← hwb, ← hg0]; exact heap_alloc_new _ _
  have HBB := Lib.hid hbb
  have HBH := Lib.hid hbh
  have HG0 := Lib.hid hg0
  have hglt : g0 < wb.heap.size := (Array.getElem?_eq_some_iff.1 hbh).1
  clear h0 hb0 hU hS hK hbb hbh
  go_enter Tryd.func7, Tryd.ntmps7
  go_wp2_with fail
  refine (SW.out _ (HS.out.below (by rw [HG0.out]; exact HBB.out))).mono ?_
  rintro e wa ⟨rfl, hba⟩
  have b0 : wa.cell? ⟨g0, 0, none⟩ = some (.string s0) := (hba.cell hglt).trans ((cell_of_row _ _ _ _ _ _ HBH.out).trans rfl)
  have b1 : wa.cell? ⟨g0, 1, none⟩ = some (.string s1) := (hba.cell hglt).trans ((cell_of_row _ _ _ _ _ _ HBH.out).trans rfl)
  have hbw : Below g0 w wa := HBB.out.trans (hba.mono (Nat.le_of_lt hglt))
  have HBA := Lib.hid (show Below w.heap.size w wa by rw [HG0.out]; exact hbw)
  clear hba hbw
  go_wp2_with fail
  refine (SP.out s0 hs0 wa).mono ?_
  rintro e wc ⟨a, rfl, hal, hap, hw⟩
  subst hw
  go_wp2_with fail
  refine (SP.out s1 hs1 wa).mono ?_
  rintro e wc ⟨b, rfl, hbl, hbp, hw⟩
  subst hw
  have SH := Lib.hid (pshape_any K (by omega) wa (HS.out.below HBA.out))
  have RW := Lib.hid (rwords_any K hK1 hK17 wa)
  have SQ := Lib.hid (fun x h1 h2 wx => squote_any x h1 h2 wx)
  have HAP := Lib.hid hap
  have HBP := Lib.hid hbp
  obtain ⟨LA, hLA⟩ : ∃ LA, a.length = LA := ⟨_, rfl⟩
  obtain ⟨LB, hLB⟩ : ∃ LB, b.length = LB := ⟨_, rfl⟩
  have hqa := Ps.quote_len hal
  have hqb := Ps.quote_len hbl
  have HAL := Lib.hid hal
  have HBL := Lib.hid hbl
  rw [hLA] at hal
  rw [hLB] at hbl
  have hza : (⟨a.toArray⟩ : ByteArray).size = LA := hLA
  have hzb : (⟨b.toArray⟩ : ByteArray).size = LB := hLB
  obtain ⟨d, hd⟩ : ∃ d, Lib.itoa (U : Int) = d := ⟨_, rfl⟩
  have hd2 : d = Lib.decDigits U := by rw [← hd, Lib.itoa, if_neg (by omega)]; rfl
  have hdl : d.length ≤ 9 := by rw [hd2]; exact Ps.dec_len 8 U (by omega)
  have DG := Lib.hid (fun wx => by have h := ref_digits (U : Int) wx (by omega) (by omega); rw [hd] at h; exact h)
  have hdn : Ps.num d = U := by rw [hd2]; exact (Ps.dec_num U).1
  have hfit : Ps.Fit a b d := ⟨by omega, List.all_eq_true.2 fun c hc => by have := HAP.out c hc; unfold Lx.mayQ; simp [this.1, this.2], by omega, List.all_eq_true.2 fun c hc => by have := HBP.out c hc; unfold Lx.mayQ; simp [this.1, this.2], by rw [hd2]; exact (Ps.dec_num U).2.1, by rw [hd2]; exact (Ps.dec_num U).2.2, hdl⟩
  obtain ⟨ws, hws⟩ : ∃ ws, Ps.fw K :: Ps.tailW K = ws := ⟨_, rfl⟩
  obtain ⟨FU, hFU⟩ : ∃ FU, Ps.srcOf a b d 0 ws = FU := ⟨_, rfl⟩
  have hfs : FU = Ps.str (Ps.pieces K a b d ++ [Ps.signP (Ps.lastC K)]) := by rw [← hFU, ← hws]; exact Ps.src_of K hK1 hK17 a b d
  have hfl : FU.length ≤ 1000 := by rw [← hFU, ← hws]; exact Ps.src_short a b d hqa hqb hdl K hK1 hK17
  have HFIT := Lib.hid hfit
  have HFS := Lib.hid hfs
  have HFL := Lib.hid hfl
  have HFU := Lib.hid hFU
  have HDN := Lib.hid hdn
  have HDL := Lib.hid hdl
  have HQA := Lib.hid hqa
  have HQB := Lib.hid hqb
  clear hd hd2 hdl hdn hfit hfs hfl hFU hqa hqb hap hbp SP hLA hLB b0 b1
  go_wp2_with fail
  refine SH.out.mono ?_
  rintro e wc ⟨rfl, hw⟩
  subst hw
  go_wp2_with fail
  refine RW.out.mono ?_
  rintro e ww ⟨gw, nw, cw, rfl, hnw, hcw, hbww⟩
  rw [hws] at hnw hcw
  have HCW := Lib.hid hcw
  have HNW := Lib.hid hnw
  have HBW := Lib.hid (HBA.out.trans (hbww.mono HBA.out.size))
  have hnb : nw ≤ 100 := by rw [hnw, ← hws]; have := (show ∀ k : Fin 18, (Ps.fw k.val :: Ps.tailW k.val).length ≤ 100 by decide) ⟨K, by omega⟩; exact this
  have HWS := Lib.hid hws
  clear hnw hcw hbww SH RW hws
  go_wp2
  go_loopw [13, 14, 15, 16, 57, 59, 61, 65, 75] (fun s13 s14 s15 s16 s57 s59 s61 s65 s75 wr => ∃ (i t m : Nat) (X : List UInt8), i ≤ nw ∧ s15 = .int .i64 i ∧ s14 = .int .i64 t ∧ t ≤ i ∧ s13 = .string ⟨X.toArray⟩ ∧ X.length = m ∧ Hid (X ++ Ps.srcOf a b d t (ws.drop i) = FU) ∧ wr = ww) (fun s13 s14 s15 s16 s57 s59 s61 s65 s75 _ => nw - (intOf s15).toNat)
  case atStart => exact ⟨0, 0, 0, [], Nat.zero_le _, rfl, rfl, Nat.le_refl _, rfl, rfl, Lib.hid HFU.out, rfl⟩
  case round =>
    obtain ⟨i, t, m, X, hi, rfl, rfl, hti, rfl, hm, HX, rfl⟩ := hrel
    have hzX : (⟨X.toArray⟩ : ByteArray).size = m := hm
    have HM := Lib.hid hm
    by_cases hlt : i < nw
    · obtain ⟨wd, hwd⟩ : ∃ wd, ws[i]? = some wd := ⟨_, List.getElem?_eq_getElem (by rw [← HNW.out]; exact hlt)⟩
      have hc := HCW.out i wd hwd
      have hdr : ws.drop i = wd :: ws.drop (i + 1) := by
        obtain ⟨h1, rfl⟩ := List.getElem?_eq_some_iff.1 hwd
        exact List.drop_eq_getElem_cons h1
      have hx := HX.out
      rw [hdr, Ps.srcOf] at hx
      have hx2 : (X ++ 32 :: Ps.partOf a b d t wd) ++ Ps.srcOf a b d (if wd = [116] then t + 1 else t) (ws.drop (i + 1)) = FU := by rw [← hx]; simp
      have hlen : m + 1 + (Ps.partOf a b d t wd).length ≤ 1000 := by
        have h1 := congrArg List.length hx2
        have h2 := HFL.out
        rw [List.length_append, List.length_append, List.length_cons, HM.out] at h1
        omega
      have j1 : (⟨X.toArray⟩ : ByteArray) ++ ⟨#[32]⟩ = ⟨(X ++ [32]).toArray⟩ := ByteArray.mk_append_mk _ _
      obtain ⟨Y, hY⟩ : ∃ Y, X ++ [32] = Y := ⟨_, rfl⟩
      rw [hY] at j1
      have hYl : Y.length = m + 1 := by rw [← hY, List.length_append, HM.out]; rfl
      have hzY : (⟨Y.toArray⟩ : ByteArray).size = m + 1 := hYl
      have hz32 : (⟨#[32]⟩ : ByteArray).size = 1 := rfl
      have hsm1 : (9223372036854775807 < m + 1) = False := eq_false (by omega)
      have HX2 := Lib.hid hx2
      have HY := Lib.hid hY
      have HLEN := Lib.hid hlen
      have HYL := Lib.hid hYl
      clear hwd hdr hx hx2 hlen hm hY hYl
      by_cases c110 : wd = [110]
      · have e110 : (wd == [110]) = true := beq_iff_eq.2 c110
        have f110 : (wd = [110]) = True := eq_true c110
        have hpt : Ps.partOf a b d t wd = Ps.wName := by unfold Ps.partOf; rw [if_pos c110]
        have hx2 := HX2.out
        have hlen := HLEN.out
        rw [hpt] at hx2 hlen
        rw [if_neg (show ¬ wd = [116] by rw [c110]; decide)] at hx2
        obtain ⟨PL, hPL⟩ : ∃ PL, (Ps.wName : List UInt8).length = PL := ⟨_, rfl⟩
        rw [hPL] at hlen
        have hzP : (⟨#[110, 97, 109, 101]⟩ : ByteArray).size = PL := hPL
        have j2 : (⟨Y.toArray⟩ : ByteArray) ++ ⟨#[110, 97, 109, 101]⟩ = ⟨(Y ++ Ps.wName).toArray⟩ := ByteArray.mk_append_mk _ _
        obtain ⟨Z, hZ⟩ : ∃ Z, Y ++ Ps.wName = Z := ⟨_, rfl⟩
        rw [hZ] at j2
        have hZl : Z.length = m + 1 + PL := by rw [← hZ, List.length_append, HYL.out, hPL]
        have HZ : Hid (Z ++ Ps.srcOf a b d t (ws.drop (i + 1)) = FU) := Lib.hid (by rw [← hx2, ← hZ, ← HY.out]; simp)
        have hsm2 : (9223372036854775807 < m + 1 + PL) = False := eq_false (by omega)
        clear hx2 hZ hPL hpt c110
        go_wp2
        go_roundw
        case rel => exact ⟨i + 1, t, m + 1 + PL, Z, by omega, by first | rfl | go_num, by first | rfl | go_num, by omega, by first | rfl | simp only [j2], hZl, HZ, by first | rfl | trivial⟩
        case measure => simp [intOf]; omega
      by_cases c119 : wd = [119]
      · have e110 : (wd == [110]) = false := beq_eq_false_iff_ne.2 c110
        have f110 : (wd = [110]) = False := eq_false c110
        have e119 : (wd == [119]) = true := beq_iff_eq.2 c119
        have f119 : (wd = [119]) = True := eq_true c119
        have hpt : Ps.partOf a b d t wd = Ps.wCode := by unfold Ps.partOf; rw [if_neg c110, if_pos c119]
        have hx2 := HX2.out
        have hlen := HLEN.out
        rw [hpt] at hx2 hlen
        rw [if_neg (show ¬ wd = [116] by rw [c119]; decide)] at hx2
        obtain ⟨PL, hPL⟩ : ∃ PL, (Ps.wCode : List UInt8).length = PL := ⟨_, rfl⟩
        rw [hPL] at hlen
        have hzP : (⟨#[99, 111, 100, 101]⟩ : ByteArray).size = PL := hPL
        have j2 : (⟨Y.toArray⟩ : ByteArray) ++ ⟨#[99, 111, 100, 101]⟩ = ⟨(Y ++ Ps.wCode).toArray⟩ := ByteArray.mk_append_mk _ _
        obtain ⟨Z, hZ⟩ : ∃ Z, Y ++ Ps.wCode = Z := ⟨_, rfl⟩
        rw [hZ] at j2
        have hZl : Z.length = m + 1 + PL := by rw [← hZ, List.length_append, HYL.out, hPL]
        have HZ : Hid (Z ++ Ps.srcOf a b d t (ws.drop (i + 1)) = FU) := Lib.hid (by rw [← hx2, ← hZ, ← HY.out]; simp)
        have hsm2 : (9223372036854775807 < m + 1 + PL) = False := eq_false (by omega)
        clear hx2 hZ hPL hpt c110 c119
        go_wp2
        go_roundw
        case rel => exact ⟨i + 1, t, m + 1 + PL, Z, by omega, by first | rfl | go_num, by first | rfl | go_num, by omega, by first | rfl | simp only [j2], hZl, HZ, by first | rfl | trivial⟩
        case measure => simp [intOf]; omega
      by_cases c105 : wd = [105]
      · have e110 : (wd == [110]) = false := beq_eq_false_iff_ne.2 c110
        have f110 : (wd = [110]) = False := eq_false c110
        have e119 : (wd == [119]) = false := beq_eq_false_iff_ne.2 c119
        have f119 : (wd = [119]) = False := eq_false c119
        have e105 : (wd == [105]) = true := beq_iff_eq.2 c105
        have f105 : (wd = [105]) = True := eq_true c105
        have hpt : Ps.partOf a b d t wd = d := by unfold Ps.partOf; rw [if_neg c110, if_neg c119, if_pos c105]
        have hx2 := HX2.out
        have hlen := HLEN.out
        rw [hpt] at hx2 hlen
        rw [if_neg (show ¬ wd = [116] by rw [c105]; decide)] at hx2
        obtain ⟨PL, hPL⟩ : ∃ PL, (d : List UInt8).length = PL := ⟨_, rfl⟩
        rw [hPL] at hlen
        have hzP : (⟨d.toArray⟩ : ByteArray).size = PL := hPL
        have j2 : (⟨Y.toArray⟩ : ByteArray) ++ ⟨d.toArray⟩ = ⟨(Y ++ d).toArray⟩ := ByteArray.mk_append_mk _ _
        obtain ⟨Z, hZ⟩ : ∃ Z, Y ++ d = Z := ⟨_, rfl⟩
        rw [hZ] at j2
        have hZl : Z.length = m + 1 + PL := by rw [← hZ, List.length_append, HYL.out, hPL]
        have HZ : Hid (Z ++ Ps.srcOf a b d t (ws.drop (i + 1)) = FU) := Lib.hid (by rw [← hx2, ← hZ, ← HY.out]; simp)
        have hsm2 : (9223372036854775807 < m + 1 + PL) = False := eq_false (by omega)
        clear hx2 hZ hPL hpt c110 c119 c105
        go_wp2_with fail
        refine (DG.out _).mono ?_
        rintro e wq ⟨rfl, hw⟩
        subst hw
        go_wp2
        go_roundw
        case rel => exact ⟨i + 1, t, m + 1 + PL, Z, by omega, by first | rfl | go_num, by first | rfl | go_num, by omega, by first | rfl | simp only [j2], hZl, HZ, by first | rfl | trivial⟩
        case measure => simp [intOf]; omega
      by_cases c116 : wd = [116]
      · have SQA := Lib.hid (SQ.out a (Nat.le_trans HAL.out (by decide)) HAP.out)
        by_cases ht : 0 < t
        · have ht1 : ((0 : Int) < (t : Int)) = True := eq_true (by omega)
          have e110 : (wd == [110]) = false := beq_eq_false_iff_ne.2 c110
          have f110 : (wd = [110]) = False := eq_false c110
          have e119 : (wd == [119]) = false := beq_eq_false_iff_ne.2 c119
          have f119 : (wd = [119]) = False := eq_false c119
          have e105 : (wd == [105]) = false := beq_eq_false_iff_ne.2 c105
          have f105 : (wd = [105]) = False := eq_false c105
          have e116 : (wd == [116]) = true := beq_iff_eq.2 c116
          have f116 : (wd = [116]) = True := eq_true c116
          have hpt : Ps.partOf a b d t wd = Ps.quoteS b := by unfold Ps.partOf; rw [if_neg c110, if_neg c119, if_neg c105, if_pos c116]; rw [if_pos ht]
          have hx2 := HX2.out
          have hlen := HLEN.out
          rw [hpt] at hx2 hlen
          rw [if_pos c116] at hx2
          obtain ⟨PL, hPL⟩ : ∃ PL, (Ps.quoteS b : List UInt8).length = PL := ⟨_, rfl⟩
          rw [hPL] at hlen
          have hzP : (⟨(Ps.quoteS b).toArray⟩ : ByteArray).size = PL := hPL
          have j2 : (⟨Y.toArray⟩ : ByteArray) ++ ⟨(Ps.quoteS b).toArray⟩ = ⟨(Y ++ Ps.quoteS b).toArray⟩ := ByteArray.mk_append_mk _ _
          obtain ⟨Z, hZ⟩ : ∃ Z, Y ++ Ps.quoteS b = Z := ⟨_, rfl⟩
          rw [hZ] at j2
          have hZl : Z.length = m + 1 + PL := by rw [← hZ, List.length_append, HYL.out, hPL]
          have HZ : Hid (Z ++ Ps.srcOf a b d (t + 1) (ws.drop (i + 1)) = FU) := Lib.hid (by rw [← hx2, ← hZ, ← HY.out]; simp)
          have hsm2 : (9223372036854775807 < m + 1 + PL) = False := eq_false (by omega)
          clear hx2 hZ hPL hpt c110 c119 c105 c116
          have SQB := Lib.hid (SQ.out b (Nat.le_trans HBL.out (by decide)) HBP.out)
          go_wp2_with fail
          refine (SQA.out _).mono ?_
          rintro e wq ⟨rfl, hw⟩
          subst hw
          go_wp2_with fail
          refine (SQB.out _).mono ?_
          rintro e wq ⟨rfl, hw⟩
          subst hw
          go_wp2
          go_roundw
          case rel => exact ⟨i + 1, t + 1, m + 1 + PL, Z, by omega, by first | rfl | go_num, by first | rfl | go_num, by omega, by first | rfl | simp only [j2], hZl, HZ, by first | rfl | trivial⟩
          case measure => simp [intOf]; omega
        · have ht1 : ((0 : Int) < (t : Int)) = False := eq_false (by omega)
          have e110 : (wd == [110]) = false := beq_eq_false_iff_ne.2 c110
          have f110 : (wd = [110]) = False := eq_false c110
          have e119 : (wd == [119]) = false := beq_eq_false_iff_ne.2 c119
          have f119 : (wd = [119]) = False := eq_false c119
          have e105 : (wd == [105]) = false := beq_eq_false_iff_ne.2 c105
          have f105 : (wd = [105]) = False := eq_false c105
          have e116 : (wd == [116]) = true := beq_iff_eq.2 c116
          have f116 : (wd = [116]) = True := eq_true c116
          have hpt : Ps.partOf a b d t wd = Ps.quoteS a := by unfold Ps.partOf; rw [if_neg c110, if_neg c119, if_neg c105, if_pos c116]; rw [if_neg ht]
          have hx2 := HX2.out
          have hlen := HLEN.out
          rw [hpt] at hx2 hlen
          rw [if_pos c116] at hx2
          obtain ⟨PL, hPL⟩ : ∃ PL, (Ps.quoteS a : List UInt8).length = PL := ⟨_, rfl⟩
          rw [hPL] at hlen
          have hzP : (⟨(Ps.quoteS a).toArray⟩ : ByteArray).size = PL := hPL
          have j2 : (⟨Y.toArray⟩ : ByteArray) ++ ⟨(Ps.quoteS a).toArray⟩ = ⟨(Y ++ Ps.quoteS a).toArray⟩ := ByteArray.mk_append_mk _ _
          obtain ⟨Z, hZ⟩ : ∃ Z, Y ++ Ps.quoteS a = Z := ⟨_, rfl⟩
          rw [hZ] at j2
          have hZl : Z.length = m + 1 + PL := by rw [← hZ, List.length_append, HYL.out, hPL]
          have HZ : Hid (Z ++ Ps.srcOf a b d (t + 1) (ws.drop (i + 1)) = FU) := Lib.hid (by rw [← hx2, ← hZ, ← HY.out]; simp)
          have hsm2 : (9223372036854775807 < m + 1 + PL) = False := eq_false (by omega)
          clear hx2 hZ hPL hpt c110 c119 c105 c116
          go_wp2_with fail
          refine (SQA.out _).mono ?_
          rintro e wq ⟨rfl, hw⟩
          subst hw
          go_wp2
          go_roundw
          case rel => exact ⟨i + 1, t + 1, m + 1 + PL, Z, by omega, by first | rfl | go_num, by first | rfl | go_num, by omega, by first | rfl | simp only [j2], hZl, HZ, by first | rfl | trivial⟩
          case measure => simp [intOf]; omega
      by_cases c123 : wd = [123]
      · have e110 : (wd == [110]) = false := beq_eq_false_iff_ne.2 c110
        have f110 : (wd = [110]) = False := eq_false c110
        have e119 : (wd == [119]) = false := beq_eq_false_iff_ne.2 c119
        have f119 : (wd = [119]) = False := eq_false c119
        have e105 : (wd == [105]) = false := beq_eq_false_iff_ne.2 c105
        have f105 : (wd = [105]) = False := eq_false c105
        have e116 : (wd == [116]) = false := beq_eq_false_iff_ne.2 c116
        have f116 : (wd = [116]) = False := eq_false c116
        have e123 : (wd == [123]) = true := beq_iff_eq.2 c123
        have f123 : (wd = [123]) = True := eq_true c123
        have hpt : Ps.partOf a b d t wd = [123, 32, 125] := by unfold Ps.partOf; rw [if_neg c110, if_neg c119, if_neg c105, if_neg c116, if_pos c123]
        have hx2 := HX2.out
        have hlen := HLEN.out
        rw [hpt] at hx2 hlen
        rw [if_neg c116] at hx2
        obtain ⟨PL, hPL⟩ : ∃ PL, ([123, 32, 125] : List UInt8).length = PL := ⟨_, rfl⟩
        rw [hPL] at hlen
        have hzP : (⟨#[123, 32, 125]⟩ : ByteArray).size = PL := hPL
        have j2 : (⟨Y.toArray⟩ : ByteArray) ++ ⟨#[123, 32, 125]⟩ = ⟨(Y ++ [123, 32, 125]).toArray⟩ := ByteArray.mk_append_mk _ _
        obtain ⟨Z, hZ⟩ : ∃ Z, Y ++ [123, 32, 125] = Z := ⟨_, rfl⟩
        rw [hZ] at j2
        have hZl : Z.length = m + 1 + PL := by rw [← hZ, List.length_append, HYL.out, hPL]
        have HZ : Hid (Z ++ Ps.srcOf a b d t (ws.drop (i + 1)) = FU) := Lib.hid (by rw [← hx2, ← hZ, ← HY.out]; simp)
        have hsm2 : (9223372036854775807 < m + 1 + PL) = False := eq_false (by omega)
        clear hx2 hZ hPL hpt c110 c119 c105 c116 c123
        go_wp2
        go_roundw
        case rel => exact ⟨i + 1, t, m + 1 + PL, Z, by omega, by first | rfl | go_num, by first | rfl | go_num, by omega, by first | rfl | simp only [j2], hZl, HZ, by first | rfl | trivial⟩
        case measure => simp [intOf]; omega
      · have e110 : (wd == [110]) = false := beq_eq_false_iff_ne.2 c110
        have f110 : (wd = [110]) = False := eq_false c110
        have e119 : (wd == [119]) = false := beq_eq_false_iff_ne.2 c119
        have f119 : (wd = [119]) = False := eq_false c119
        have e105 : (wd == [105]) = false := beq_eq_false_iff_ne.2 c105
        have f105 : (wd = [105]) = False := eq_false c105
        have e116 : (wd == [116]) = false := beq_eq_false_iff_ne.2 c116
        have f116 : (wd = [116]) = False := eq_false c116
        have e123 : (wd == [123]) = false := beq_eq_false_iff_ne.2 c123
        have f123 : (wd = [123]) = False := eq_false c123
        have hpt : Ps.partOf a b d t wd = wd := by unfold Ps.partOf; rw [if_neg c110, if_neg c119, if_neg c105, if_neg c116, if_neg c123]
        have hx2 := HX2.out
        have hlen := HLEN.out
        rw [hpt] at hx2 hlen
        rw [if_neg c116] at hx2
        obtain ⟨PL, hPL⟩ : ∃ PL, (wd : List UInt8).length = PL := ⟨_, rfl⟩
        rw [hPL] at hlen
        have hzP : (⟨wd.toArray⟩ : ByteArray).size = PL := hPL
        have j2 : (⟨Y.toArray⟩ : ByteArray) ++ ⟨wd.toArray⟩ = ⟨(Y ++ wd).toArray⟩ := ByteArray.mk_append_mk _ _
        obtain ⟨Z, hZ⟩ : ∃ Z, Y ++ wd = Z := ⟨_, rfl⟩
        rw [hZ] at j2
        have hZl : Z.length = m + 1 + PL := by rw [← hZ, List.length_append, HYL.out, hPL]
        have HZ : Hid (Z ++ Ps.srcOf a b d t (ws.drop (i + 1)) = FU) := Lib.hid (by rw [← hx2, ← hZ, ← HY.out]; simp)
        have hsm2 : (9223372036854775807 < m + 1 + PL) = False := eq_false (by omega)
        clear hx2 hZ hPL hpt c110 c119 c105 c116 c123
        go_wp2
        go_roundw
        case rel => exact ⟨i + 1, t, m + 1 + PL, Z, by omega, by first | rfl | go_num, by first | rfl | go_num, by omega, by first | rfl | simp only [j2], hZl, HZ, by first | rfl | trivial⟩
        case measure => simp [intOf]; omega
    · obtain rfl : i = nw := by omega
      have hXF : X = FU := by
        have h := HX.out
        rw [HNW.out, List.drop_length, Ps.srcOf, List.append_nil] at h
        exact h
      subst hXF
      obtain ⟨CU, hCU⟩ : ∃ CU, X.dropLast = CU := ⟨_, rfl⟩
      have hcu : CU = Ps.str (Ps.pieces K a b d) ++ [32] := by rw [← hCU, HFS.out, Ps.str_cut]
      have hxl : X = CU ++ [Ps.lastC K] := by rw [HFS.out, Ps.str_snoc, hcu]; simp
      obtain ⟨F1, hF1⟩ : ∃ F1, CU.length = F1 := ⟨_, rfl⟩
      have hm1 : m = F1 + 1 := by rw [← HM.out, hxl, List.length_append, hF1]; rfl
      have hmb : m ≤ 1000 := by rw [← HM.out]; exact HFL.out
      subst hm1
      have hne : X ≠ [] := by rw [hxl]; simp
      have x1 : X.isEmpty = false := by cases X with | nil => exact absurd rfl hne | cons c r => rfl
      have x2 : (X == []) = false := beq_eq_false_iff_ne.2 hne
      have x3 : (X = []) = False := eq_false hne
      have hext : (⟨X.toArray⟩ : ByteArray).extract 0 F1 = ⟨CU.toArray⟩ := by
        rw [ba_extract, hxl, List.drop_zero, List.take_left' hF1]
      have j1 : (⟨#[109, 111, 100, 101, 32, 102, 116, 112, 59]⟩ : ByteArray) ++ ⟨X.toArray⟩ = ⟨(Ps.begins Ps.ftpS ++ X).toArray⟩ := ByteArray.mk_append_mk _ _
      have j2 : (⟨#[109, 111, 100, 101, 32, 102, 116, 112, 59]⟩ : ByteArray) ++ ⟨CU.toArray⟩ = ⟨(Ps.begins Ps.ftpS ++ CU).toArray⟩ := ByteArray.mk_append_mk _ _
      have hb9 : (Ps.begins Ps.ftpS).length = 9 := rfl
      have hok := Ps.shape_ok HFIT.out K hK1 hK17 (by rw [← HFS.out, List.length_append, hb9, HM.out]; omega)
      obtain ⟨pc, hcut⟩ := Ps.shape_cut HFIT.out K hK1 hK17 (by rw [← hcu, List.length_append, hb9, hF1]; omega)
      rw [← HFS.out] at hok
      rw [← hcu] at hcut
      have P1 := Lib.hid (fun wy hy => by have h := pall_any (Ps.begins Ps.ftpS ++ X) (by rw [List.length_append, hb9, HM.out]; omega) wy hy; rw [hok] at h; exact h)
      have P2 := Lib.hid (fun wy hy => by have h := pall_any (Ps.begins Ps.ftpS ++ CU) (by rw [List.length_append, hb9, hF1]; omega) wy hy; rw [hcut] at h; exact h)
      obtain ⟨V1, hV1⟩ : ∃ V1, Ps.begins Ps.ftpS ++ X = V1 := ⟨_, rfl⟩
      obtain ⟨V2, hV2⟩ : ∃ V2, Ps.begins Ps.ftpS ++ CU = V2 := ⟨_, rfl⟩
      rw [hV1] at j1 P1
      rw [hV2] at j2 P2
      have hz9 : (⟨#[109, 111, 100, 101, 32, 102, 116, 112, 59]⟩ : ByteArray).size = 9 := rfl
      have hzc : (⟨CU.toArray⟩ : ByteArray).size = F1 := hF1
      have hsm1 : (9223372036854775807 < 9 + (F1 + 1)) = False := eq_false (by omega)
      have hsm2 : (9223372036854775807 < 9 + F1) = False := eq_false (by omega)
      obtain ⟨st, hst⟩ : ∃ st, Ps.shaped K a b d = st := ⟨_, rfl⟩
      rw [hst] at P1
      have HST := Lib.hid hst
      clear hcu hxl hne hok hcut hV1 hV2 hCU hF1 hb9 hst hm
      go_wp2_with fail
      refine (P1.out _ (HS.out.below HBW.out)).mono ?_
      rintro e w1 ⟨hb1, sv1, tv1, rfl, hpr⟩
      obtain ⟨so, sc, rfl, _, hat⟩ := hpr.at
      obtain ⟨g, xl, xm, rfl, rxl, rxm, hcell⟩ := hat 0 _ rfl
      obtain ⟨tvo, tvc, rfl, _⟩ := hpr.top.formV
      rw [show [st].length = 1 from rfl, show (List.map nv [0]).length = 1 from rfl]
      obtain ⟨xlo, xlc, rfl, _⟩ := rxl.formV
      obtain ⟨xmo, xmc, rfl, _⟩ := rxm.formV
      have hst := HST.out
      obtain ⟨k1, k2, k3, k4, k5⟩ := Ps.shaped_at K hK1 hK17 a b d
      obtain ⟨l1, l2, l3⟩ := Ps.shaped_len d HAL.out HBL.out K hK1 hK17
      have hwant := Ps.want_of K hK1 hK17 a b d
      rw [hst] at k1 k2 k3 k4 k5 l1 l2 l3 hwant
      rw [List.length_map, List.length_map, k4, k5] at hcell
      have hall : st.s ++ [124] ++ st.t ++ [124] ++ st.u = Ps.wantOfS a b K := hwant
      obtain ⟨kd, sS, sT, sU, nn, pp, ll, mm⟩ := st
      dsimp only at k1 k2 k3 l1 l2 l3 hall
      subst k1
      subst k2
      have HB1 := Lib.hid (HBW.out.trans (hb1.mono HBW.out.size))
      obtain ⟨g1, hg1⟩ : ∃ g1, w1.heap.size = g1 := ⟨_, rfl⟩
      have HG1 := Lib.hid hg1
      obtain ⟨W1, hW1⟩ : ∃ W1, w1.alloc (.cells #[.int .i64 3, .slice (some ⟨g, 0, none⟩) 1 sc, .slice tvo 1 tvc] 27) = W1 := ⟨_, rfl⟩
      have hbW1 : Below w1.heap.size w1 W1 := by rw [← hW1]; exact (Below.refl _ _).alloc (Nat.le_refl _) _
      have h31 : H3 W1 g1 [.int .i64 3, .slice (some ⟨g, 0, none⟩) 1 sc, .slice tvo 1 tvc] := by rw [← hW1, ← hg1]; exact heap_alloc_new _ _
      have HC1 := Lib.hid (fun (j : Nat) (u : Value) hu => (hbW1.cell (World.block_lt_of_cell? w1 _ (hcell j u hu))).trans (hcell j u hu))
      have H31 := Lib.hid h31
      have HBW1 := Lib.hid (HB1.out.trans (hbW1.mono HB1.out.size))
      have HW1 := Lib.hid hW1
      clear hbW1 h31 hcell hpr hat rxl rxm hst hwant k4 k5 hb1 hg1
      go_upto_region 31 with fail
      rw [HG1.out]
      clear hW1
      go_wp2_with fail
      refine (P2.out _ (HS.out.below HBW1.out)).mono ?_
      rintro e w2 ⟨hb2, rfl, _⟩
      obtain ⟨W2, hW2⟩ : ∃ W2, w2.alloc (.cells #[.int .i64 0, .slice none 0 0, .slice none 0 0] 27) = W2 := ⟨_, rfl⟩
      have hb12 : Below W1.heap.size W1 W2 := by rw [← hW2]; exact hb2.alloc hb2.size _
      have HW2 := Lib.hid hW2
      have HB12 := Lib.hid hb12
      clear hW2 hb2 hb12
      go_upto_region 32 with fail
      rw [HW2.out]
      clear HW2
      have p11 := (HB12.out.cell (show g1 < W1.heap.size from H31.out.lt)).trans (H31.out.cell (i := 1) rfl)
      have d0 := (HB12.out.cell (World.block_lt_of_cell? W1 _ (HC1.out 0 _ rfl))).trans (HC1.out 0 _ rfl)
      have d1 := (HB12.out.cell (World.block_lt_of_cell? W1 _ (HC1.out 1 _ rfl))).trans (HC1.out 1 _ rfl)
      have d2 := (HB12.out.cell (World.block_lt_of_cell? W1 _ (HC1.out 2 _ rfl))).trans (HC1.out 2 _ rfl)
      have d3 := (HB12.out.cell (World.block_lt_of_cell? W1 _ (HC1.out 3 _ rfl))).trans (HC1.out 3 _ rfl)
      have d4 := (HB12.out.cell (World.block_lt_of_cell? W1 _ (HC1.out 4 _ rfl))).trans (HC1.out 4 _ rfl)
      have d5 := (HB12.out.cell (World.block_lt_of_cell? W1 _ (HC1.out 5 _ rfl))).trans (HC1.out 5 _ rfl)
      have d6 := (HB12.out.cell (World.block_lt_of_cell? W1 _ (HC1.out 6 _ rfl))).trans (HC1.out 6 _ rfl)
      have d7 := (HB12.out.cell (World.block_lt_of_cell? W1 _ (HC1.out 7 _ rfl))).trans (HC1.out 7 _ rfl)
      simp only [Nat.zero_mul, Nat.add_zero, Nat.zero_add] at d0 d1 d2 d3 d4 d5 d6 d7
      have HB2 := Lib.hid (HBW1.out.trans (HB12.out.mono HBW1.out.size))
      rw [show ((10 : Nat) : Int) = 10 from rfl] at d5
      have HK3 := Lib.hid k3
      clear k3
      rw [List.length_nil] at d6 d7
      obtain ⟨L1, hL1⟩ : ∃ n, sS.length = n := ⟨_, rfl⟩
      rw [hL1] at l1
      have hzsS : (⟨sS.toArray⟩ : ByteArray).size = L1 := hL1
      have HHL1 := Lib.hid hL1
      clear hL1
      obtain ⟨L2, hL2⟩ : ∃ n, sT.length = n := ⟨_, rfl⟩
      rw [hL2] at l2
      have hzsT : (⟨sT.toArray⟩ : ByteArray).size = L2 := hL2
      have HHL2 := Lib.hid hL2
      clear hL2
      obtain ⟨L3, hL3⟩ : ∃ n, sU.length = n := ⟨_, rfl⟩
      rw [hL3] at l3
      have hzsU : (⟨sU.toArray⟩ : ByteArray).size = L3 := hL3
      have HHL3 := Lib.hid hL3
      clear hL3
      have HHLA : Hid (a.length = LA) := Lib.hid hza
      have HHLB : Hid (b.length = LB) := Lib.hid hzb
      have hzl1 : (⟨#[110, 97, 109, 101, 124]⟩ : ByteArray).size = 5 := rfl
      obtain ⟨N1, qN1⟩ : ∃ q, [110, 97, 109, 101, 124] ++ a = q := ⟨_, rfl⟩
      have jN1 : (⟨#[110, 97, 109, 101, 124]⟩ : ByteArray) ++ ⟨a.toArray⟩ = ⟨N1.toArray⟩ := by rw [← qN1]; exact ByteArray.mk_append_mk _ _
      have nN1 : N1.length = 5 + LA := by rw [← qN1, List.length_append, show ([110, 97, 109, 101, 124] : List UInt8).length = 5 from rfl, HHLA.out]
      have hzN1 : (⟨N1.toArray⟩ : ByteArray).size = 5 + LA := nN1
      have hzl2 : (⟨#[124]⟩ : ByteArray).size = 1 := rfl
      obtain ⟨N2, qN2⟩ : ∃ q, N1 ++ [124] = q := ⟨_, rfl⟩
      have jN2 : (⟨N1.toArray⟩ : ByteArray) ++ ⟨#[124]⟩ = ⟨N2.toArray⟩ := by rw [← qN2]; exact ByteArray.mk_append_mk _ _
      have nN2 : N2.length = 5 + LA + 1 := by rw [← qN2, List.length_append, nN1, show ([124] : List UInt8).length = 1 from rfl]
      have hzN2 : (⟨N2.toArray⟩ : ByteArray).size = 5 + LA + 1 := nN2
      obtain ⟨P1, qP1⟩ : ∃ q, [124] ++ a = q := ⟨_, rfl⟩
      have jP1 : (⟨#[124]⟩ : ByteArray) ++ ⟨a.toArray⟩ = ⟨P1.toArray⟩ := by rw [← qP1]; exact ByteArray.mk_append_mk _ _
      have nP1 : P1.length = 1 + LA := by rw [← qP1, List.length_append, show ([124] : List UInt8).length = 1 from rfl, HHLA.out]
      have hzP1 : (⟨P1.toArray⟩ : ByteArray).size = 1 + LA := nP1
      obtain ⟨P2, qP2⟩ : ∃ q, P1 ++ [124] = q := ⟨_, rfl⟩
      have jP2 : (⟨P1.toArray⟩ : ByteArray) ++ ⟨#[124]⟩ = ⟨P2.toArray⟩ := by rw [← qP2]; exact ByteArray.mk_append_mk _ _
      have nP2 : P2.length = 1 + LA + 1 := by rw [← qP2, List.length_append, nP1, show ([124] : List UInt8).length = 1 from rfl]
      have hzP2 : (⟨P2.toArray⟩ : ByteArray).size = 1 + LA + 1 := nP2
      obtain ⟨A1, qA1⟩ : ∃ q, a ++ [124] = q := ⟨_, rfl⟩
      have jA1 : (⟨a.toArray⟩ : ByteArray) ++ ⟨#[124]⟩ = ⟨A1.toArray⟩ := by rw [← qA1]; exact ByteArray.mk_append_mk _ _
      have nA1 : A1.length = LA + 1 := by rw [← qA1, List.length_append, HHLA.out, show ([124] : List UInt8).length = 1 from rfl]
      have hzA1 : (⟨A1.toArray⟩ : ByteArray).size = LA + 1 := nA1
      obtain ⟨A2, qA2⟩ : ∃ q, A1 ++ b = q := ⟨_, rfl⟩
      have jA2 : (⟨A1.toArray⟩ : ByteArray) ++ ⟨b.toArray⟩ = ⟨A2.toArray⟩ := by rw [← qA2]; exact ByteArray.mk_append_mk _ _
      have nA2 : A2.length = LA + 1 + LB := by rw [← qA2, List.length_append, nA1, HHLB.out]
      have hzA2 : (⟨A2.toArray⟩ : ByteArray).size = LA + 1 + LB := nA2
      obtain ⟨A3, qA3⟩ : ∃ q, A2 ++ [124] = q := ⟨_, rfl⟩
      have jA3 : (⟨A2.toArray⟩ : ByteArray) ++ ⟨#[124]⟩ = ⟨A3.toArray⟩ := by rw [← qA3]; exact ByteArray.mk_append_mk _ _
      have nA3 : A3.length = LA + 1 + LB + 1 := by rw [← qA3, List.length_append, nA2, show ([124] : List UInt8).length = 1 from rfl]
      have hzA3 : (⟨A3.toArray⟩ : ByteArray).size = LA + 1 + LB + 1 := nA3
      have hzl3 : (⟨#[99, 111, 100, 101, 124]⟩ : ByteArray).size = 5 := rfl
      obtain ⟨C1, qC1⟩ : ∃ q, [99, 111, 100, 101, 124] ++ a = q := ⟨_, rfl⟩
      have jC1 : (⟨#[99, 111, 100, 101, 124]⟩ : ByteArray) ++ ⟨a.toArray⟩ = ⟨C1.toArray⟩ := by rw [← qC1]; exact ByteArray.mk_append_mk _ _
      have nC1 : C1.length = 5 + LA := by rw [← qC1, List.length_append, show ([99, 111, 100, 101, 124] : List UInt8).length = 5 from rfl, HHLA.out]
      have hzC1 : (⟨C1.toArray⟩ : ByteArray).size = 5 + LA := nC1
      obtain ⟨C2, qC2⟩ : ∃ q, C1 ++ [124] = q := ⟨_, rfl⟩
      have jC2 : (⟨C1.toArray⟩ : ByteArray) ++ ⟨#[124]⟩ = ⟨C2.toArray⟩ := by rw [← qC2]; exact ByteArray.mk_append_mk _ _
      have nC2 : C2.length = 5 + LA + 1 := by rw [← qC2, List.length_append, nC1, show ([124] : List UInt8).length = 1 from rfl]
      have hzC2 : (⟨C2.toArray⟩ : ByteArray).size = 5 + LA + 1 := nC2
      obtain ⟨NB, qNB⟩ : ∃ q, N2 ++ b = q := ⟨_, rfl⟩
      have jNB : (⟨N2.toArray⟩ : ByteArray) ++ ⟨b.toArray⟩ = ⟨NB.toArray⟩ := by rw [← qNB]; exact ByteArray.mk_append_mk _ _
      have nNB : NB.length = 5 + LA + 1 + LB := by rw [← qNB, List.length_append, nN2, HHLB.out]
      have hzNB : (⟨NB.toArray⟩ : ByteArray).size = 5 + LA + 1 + LB := nNB
      have hzl4 : (⟨#[124, 124]⟩ : ByteArray).size = 2 := rfl
      obtain ⟨AA, qAA⟩ : ∃ q, a ++ [124, 124] = q := ⟨_, rfl⟩
      have jAA : (⟨a.toArray⟩ : ByteArray) ++ ⟨#[124, 124]⟩ = ⟨AA.toArray⟩ := by rw [← qAA]; exact ByteArray.mk_append_mk _ _
      have nAA : AA.length = LA + 2 := by rw [← qAA, List.length_append, HHLA.out, show ([124, 124] : List UInt8).length = 2 from rfl]
      have hzAA : (⟨AA.toArray⟩ : ByteArray).size = LA + 2 := nAA
      obtain ⟨B1, qB1⟩ : ∃ q, sS ++ [124] = q := ⟨_, rfl⟩
      have jB1 : (⟨sS.toArray⟩ : ByteArray) ++ ⟨#[124]⟩ = ⟨B1.toArray⟩ := by rw [← qB1]; exact ByteArray.mk_append_mk _ _
      have nB1 : B1.length = L1 + 1 := by rw [← qB1, List.length_append, HHL1.out, show ([124] : List UInt8).length = 1 from rfl]
      have hzB1 : (⟨B1.toArray⟩ : ByteArray).size = L1 + 1 := nB1
      obtain ⟨B2, qB2⟩ : ∃ q, B1 ++ sT = q := ⟨_, rfl⟩
      have jB2 : (⟨B1.toArray⟩ : ByteArray) ++ ⟨sT.toArray⟩ = ⟨B2.toArray⟩ := by rw [← qB2]; exact ByteArray.mk_append_mk _ _
      have nB2 : B2.length = L1 + 1 + L2 := by rw [← qB2, List.length_append, nB1, HHL2.out]
      have hzB2 : (⟨B2.toArray⟩ : ByteArray).size = L1 + 1 + L2 := nB2
      obtain ⟨B3, qB3⟩ : ∃ q, B2 ++ [124] = q := ⟨_, rfl⟩
      have jB3 : (⟨B2.toArray⟩ : ByteArray) ++ ⟨#[124]⟩ = ⟨B3.toArray⟩ := by rw [← qB3]; exact ByteArray.mk_append_mk _ _
      have nB3 : B3.length = L1 + 1 + L2 + 1 := by rw [← qB3, List.length_append, nB2, show ([124] : List UInt8).length = 1 from rfl]
      have hzB3 : (⟨B3.toArray⟩ : ByteArray).size = L1 + 1 + L2 + 1 := nB3
      obtain ⟨ALL, qALL⟩ : ∃ q, B3 ++ sU = q := ⟨_, rfl⟩
      have jALL : (⟨B3.toArray⟩ : ByteArray) ++ ⟨sU.toArray⟩ = ⟨ALL.toArray⟩ := by rw [← qALL]; exact ByteArray.mk_append_mk _ _
      have nALL : ALL.length = L1 + 1 + L2 + 1 + L3 := by rw [← qALL, List.length_append, nB3, HHL3.out]
      have hzALL : (⟨ALL.toArray⟩ : ByteArray).size = L1 + 1 + L2 + 1 + L3 := nALL
      have hN2 : N2 = Ps.wName ++ [124] ++ a ++ [124] := by rw [← qN2, ← qN1]; rfl
      have hP2 : P2 = [124] ++ a ++ [124] := by rw [← qP2, ← qP1]
      have hA3 : A3 = a ++ [124] ++ b ++ [124] := by rw [← qA3, ← qA2, ← qA1]
      have hC2 : C2 = Ps.wCode ++ [124] ++ a ++ [124] := by rw [← qC2, ← qC1]; rfl
      have hNB : NB = Ps.wName ++ [124] ++ a ++ [124] ++ b := by rw [← qNB, hN2]
      have hAA : AA = a ++ [124, 124] := qAA.symm
      have hALL : sS ++ [124] ++ sT ++ [124] ++ sU = ALL := by rw [← qALL, ← qB3, ← qB2, ← qB1]
      obtain ⟨sN1, sN2, sP1, sP2, sA1, sA2, sA3, sC1, sC2, sNB, sAA, sB1, sB2, sB3, sALL⟩ := sums_small hal hbl l1 l2 l3
      clear qN1 qN2 qP1 qP2 qA1 qA2 qA3 qC1 qC2 qNB qAA qB1 qB2 qB3 qALL nN1 nN2 nP1 nP2 nA1 nA2 nA3 nC1 nC2 nNB nAA nB1 nB2 nB3 nALL
      obtain ⟨W3, hW3⟩ : ∃ W3, W2.alloc (.cells #[.int .i64 (kd : Int), .string ⟨sS.toArray⟩, .string ⟨sT.toArray⟩, .string ⟨sU.toArray⟩, .int .i64 (nn : Int), .int .i64 10, .slice xlo 0 xlc, .slice xmo 0 xmc] 37) = W3 := ⟨_, rfl⟩
      obtain ⟨g3, hg3⟩ : ∃ g3, W2.heap.size = g3 := ⟨_, rfl⟩
      have hx3 : W3.heap[g3]? = some (.cells #[.int .i64 (kd : Int), .string ⟨sS.toArray⟩, .string ⟨sT.toArray⟩, .string ⟨sU.toArray⟩, .int .i64 (nn : Int), .int .i64 10, .slice xlo 0 xlc, .slice xmo 0 xmc] 37 (0, 0)) := by rw [← hW3, ← hg3]; exact heap_alloc_new _ _
      have hb3 : Below W2.heap.size W2 W3 := by rw [← hW3]; exact (Below.refl _ _).alloc (Nat.le_refl _) _
      obtain ⟨W5, hW5⟩ : ∃ W5, W3.alloc (.cells #[.string ⟨#[]⟩, .string ⟨N2.toArray⟩, .string ⟨P2.toArray⟩, .string ⟨A3.toArray⟩, .string ⟨A3.toArray⟩, .string ⟨C2.toArray⟩, .string ⟨#[124, 124]⟩, .string ⟨NB.toArray⟩, .string ⟨A3.toArray⟩, .string ⟨NB.toArray⟩, .string ⟨N2.toArray⟩, .string ⟨A3.toArray⟩, .string ⟨#[124, 124]⟩, .string ⟨#[110, 97, 109, 101, 124, 124]⟩, .string ⟨#[110, 97, 109, 101, 124, 124]⟩, .string ⟨#[110, 97, 109, 101, 124, 124]⟩, .string ⟨AA.toArray⟩, .string ⟨#[124, 124]⟩] 9) = W5 := ⟨_, rfl⟩
      have hx5 : W5.heap[W3.heap.size]? = some (.cells #[.string ⟨#[]⟩, .string ⟨N2.toArray⟩, .string ⟨P2.toArray⟩, .string ⟨A3.toArray⟩, .string ⟨A3.toArray⟩, .string ⟨C2.toArray⟩, .string ⟨#[124, 124]⟩, .string ⟨NB.toArray⟩, .string ⟨A3.toArray⟩, .string ⟨NB.toArray⟩, .string ⟨N2.toArray⟩, .string ⟨A3.toArray⟩, .string ⟨#[124, 124]⟩, .string ⟨#[110, 97, 109, 101, 124, 124]⟩, .string ⟨#[110, 97, 109, 101, 124, 124]⟩, .string ⟨#[110, 97, 109, 101, 124, 124]⟩, .string ⟨AA.toArray⟩, .string ⟨#[124, 124]⟩] 9 (0, 0)) := by rw [← hW5]; exact heap_alloc_new _ _
      have hb5 : Below W3.heap.size W3 W5 := by rw [← hW5]; exact (Below.refl _ _).alloc (Nat.le_refl _) _
      have hwc := want_cell hx5 hN2 hP2 hA3 hC2 hNB hAA kd hK1 hK17
      rw [← hall, hALL] at hwc
      have HW5 := Lib.hid hW5
      have g3lt : g3 < W3.heap.size := (Array.getElem?_eq_some_iff.1 hx3).1
      have c0 := (cell_of_row W3 g3 0 _ _ _ hx3).trans rfl
      have c1 := (cell_of_row W3 g3 1 _ _ _ hx3).trans rfl
      have c2 := (cell_of_row W3 g3 2 _ _ _ hx3).trans rfl
      have c3 := (cell_of_row W3 g3 3 _ _ _ hx3).trans rfl
      have e0 := (hb5.cell (p := ⟨g3, 0, none⟩) g3lt).trans c0
      have e4 := (hb5.cell (p := ⟨g3, 4, none⟩) g3lt).trans ((cell_of_row W3 g3 4 _ _ _ hx3).trans rfl)
      have e5 := (hb5.cell (p := ⟨g3, 5, none⟩) g3lt).trans ((cell_of_row W3 g3 5 _ _ _ hx3).trans rfl)
      have HB5 := Lib.hid ((HB2.out.trans (hb3.mono HB2.out.size)).trans (hb5.mono (Nat.le_trans HB2.out.size hb3.size)))
      have hkp : (0 : Int) ≤ (kd : Int) := by omega
      have hkl : (kd : Int) < 18 := by omega
      have HG3 := Lib.hid hg3
      clear hx3 hb3 hx5 hb5 hall hALL hN2 hP2 hA3 hC2 hNB hAA hg3
      go_upto_region 35 with fail
      rw [HG3.out]
      by_cases h6 : kd = 6
      · obtain rfl : nn = U := by rw [HK3.out, if_pos (Or.inl h6), HDN.out]
        have f1 : ((kd : Int) == 6) = true := beq_iff_eq.2 (by omega)
        have f2 : ((kd : Int) = 6) = True := eq_true (by omega)
        have f3 : (kd = 6) = True := eq_true h6
        clear h6
        go_wp2
        go_ret
        exact ⟨by first | rfl | simp, HB5.out⟩
      have f1 : ((kd : Int) == 6) = false := beq_eq_false_iff_ne.2 (by omega)
      have f2 : ((kd : Int) = 6) = False := eq_false (by omega)
      have f3 : (kd = 6) = False := eq_false h6
      by_cases h12 : kd = 12
      · obtain rfl : nn = U := by rw [HK3.out, if_pos (Or.inr h12), HDN.out]
        have f4 : ((kd : Int) == 12) = true := beq_iff_eq.2 (by omega)
        have f5 : ((kd : Int) = 12) = True := eq_true (by omega)
        have f6 : (kd = 12) = True := eq_true h12
        clear h6 h12
        go_wp2
        go_ret
        exact ⟨by first | rfl | simp, HB5.out⟩
      · obtain rfl : nn = 0 := by rw [HK3.out, if_neg (by omega)]
        have f4 : ((kd : Int) == 12) = false := beq_eq_false_iff_ne.2 (by omega)
        have f5 : ((kd : Int) = 12) = False := eq_false (by omega)
        have f6 : (kd = 12) = False := eq_false h12
        clear h6 h12
        go_wp2
        go_ret
        exact ⟨by first | rfl | simp, HB5.out⟩
end Go.Proofs.YtiikionoagmabaaDoor
