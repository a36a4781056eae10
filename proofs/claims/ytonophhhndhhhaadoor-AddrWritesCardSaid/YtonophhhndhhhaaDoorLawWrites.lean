/- AddrWrites walked (layer 13). -/
import Derived.Test.YtonophhhndhhhaaDoorALawP
import Derived.Test.YtonophhhndhhhaaDoorAddrText
namespace Go.Proofs.YtonophhhndhhhaaDoor
open Go.RowKit

/-- The numbers of a host, made small. -/
def low4 (h0 h1 h2 h3 : Int) (k : Nat) : Nat := ([h0, h1, h2, h3].getD k 0 % 256).toNat
theorem low4_le (h0 h1 h2 h3 : Int) (k : Nat) : low4 h0 h1 h2 h3 k ≤ 255 := by unfold low4; omega
theorem low4_at {h0 h1 h2 h3 n : Int} {k : Nat} (h : [h0, h1, h2, h3][k]? = some n) : n % 256 = (low4 h0 h1 h2 h3 k : Int) := by
  unfold low4
  rw [List.getD_eq_getElem?_getD, h]
  simp only [Option.getD_some]
  omega

structure WL (w wr : World) (h0 h1 h2 h3 : Int) (g k : Nat) (p : Int) : Prop where
  below : Below w.heap.size w wr
  host : wr.heap[w.heap.size]? = some (.cells #[.int .i64 h0, .int .i64 h1, .int .i64 h2, .int .i64 h3] 22 (0, 0))
  pl : AB wr g (part (low4 h0 h1 h2 h3) k p)
  hg : w.heap.size < g
theorem WL.cell {w wr : World} {h0 h1 h2 h3 : Int} {g k : Nat} {p n : Int} (h : WL w wr h0 h1 h2 h3 g k p) {i : Nat} (hi : [h0, h1, h2, h3][i]? = some n) : wr.cell? ⟨w.heap.size, i, none⟩ = some (.int .i64 n) := by
  rw [cell_of_row _ _ _ _ _ _ h.host, ← Array.getElem?_toList]
  match i with
  | 0 => simp at hi; subst hi; rfl
  | 1 => simp at hi; subst hi; rfl
  | 2 => simp at hi; subst hi; rfl
  | 3 => simp at hi; subst hi; rfl
  | i + 4 => simp at hi
theorem WL.set {w wr : World} {h0 h1 h2 h3 : Int} {g k : Nat} {p : Int} (h : WL w wr h0 h1 h2 h3 g k p) (hk : k < 4) : WL w (wr.setCell ⟨g, k, none⟩ (.int .i64 (low4 h0 h1 h2 h3 k : Int))) h0 h1 h2 h3 g (k + 1) p :=
  ⟨h.below.setCell (Nat.le_of_lt h.hg) _, (heap_setCell_other _ _ _ _ (Nat.ne_of_lt h.hg)).trans h.host, h.pl.num hk, h.hg⟩
theorem WL.next {w wr w' : World} {h0 h1 h2 h3 : Int} {g k : Nat} {p : Int} (h : WL w wr h0 h1 h2 h3 g k p) (hb : Below wr.heap.size wr w') : WL w w' h0 h1 h2 h3 g k p :=
  ⟨h.below.trans (hb.mono h.below.size), (hb.block _ (Array.getElem?_eq_some_iff.1 h.host).1).trans h.host, h.pl.below hb (Array.getElem?_eq_some_iff.1 h.pl.blk).1, h.hg⟩

set_option maxHeartbeats 8000000 in
set_option maxRecDepth 20000 in
theorem lawWrites (h0 h1 h2 h3 pt : Int) (_ : (Lit.int .i64 h0).wf = true) (_ : (Lit.int .i64 h1).wf = true) (_ : (Lit.int .i64 h2).wf = true) (_ : (Lit.int .i64 h3).wf = true) (wp : (Lit.int .u16 pt).wf = true) (w : World) (ht : TB w) :
    Calls Tryd.prog 7 #[.agg #[.int .i64 h0, .int .i64 h1, .int .i64 h2, .int .i64 h3], .int .u16 pt] w fun e w' => e = .returned (.bool true) ∧ Below w.heap.size w w' := by
  have hpt : 0 ≤ pt ∧ pt ≤ 65535 := by
    unfold Lit.wf at wp
    rw [Bool.and_eq_true, decide_eq_true_eq, decide_eq_true_eq, show IntKind.min .u16 = 0 by decide, show IntKind.max .u16 = 65535 by decide] at wp
    exact wp
  obtain ⟨p, rfl⟩ : ∃ p : Nat, pt = (p : Int) := ⟨pt.toNat, by omega⟩
  have hp : p ≤ 65535 := by omega
  obtain ⟨m, hm⟩ : ∃ m, low4 h0 h1 h2 h3 = m := ⟨_, rfl⟩
  have hm255 : ∀ k, m k ≤ 255 := fun k => by rw [← hm]; exact low4_le _ _ _ _ k
  obtain ⟨pe, hpe⟩ : ∃ e, p / 256 = e := ⟨_, rfl⟩
  obtain ⟨pf, hpf⟩ : ∃ f, p % 256 = f := ⟨_, rfl⟩
  have hfit := fit_of m hm255 pe pf (by omega) (by omega) (p : Int) (by omega)
  have HT := Lib.hid ht
  have SW := Lib.hid (fun wx => shown_any wx)
  have TX := Lib.hid (fun wx (hb : Below w.heap.size w wx) => text_any _ (fit_aw hfit) wx (HT.out.below hb))
  have hpv := fit_pasv hfit
  have PV := Lib.hid (fun wx => pasv_c (Ad.text ⟨(m 0 : Int), (m 1 : Int), (m 2 : Int), (m 3 : Int), (p : Int)⟩) (by have := fit_len hfit; omega) _ hpv wx)
  have HTXT := Lib.hid (hostD_text hfit)
  have HLEN := Lib.hid (hostD_len m hm255)
  have DG := Lib.hid (fun n (hn : n ≤ 1048576) wx => ldigits_any n n (Nat.le_refl _) hn wx)
  have HM := Lib.hid hm
  have HM255 := Lib.hid hm255
  have HMA := Lib.hid (fun n k (h : [h0, h1, h2, h3][k]? = some n) => (low4_at h).trans (by rw [hm]))
  have q2 := adHeld
  have q3 := adGuard
  have H0 := Lib.hid (show Below w.heap.size w (w.alloc (.cells #[.int .i64 h0, .int .i64 h1, .int .i64 h2, .int .i64 h3] 22)) ∧ (w.alloc (.cells #[.int .i64 h0, .int .i64 h1, .int .i64 h2, .int .i64 h3] 22)).heap[w.heap.size]? = some (.cells #[.int .i64 h0, .int .i64 h1, .int .i64 h2, .int .i64 h3] 22 (0, 0)) from ⟨(Below.refl _ _).alloc (Nat.le_refl _) _, heap_alloc_new _ _⟩)
  unfold adv adc at TX
  dsimp only at TX
  clear ht wp hpt hm255 hm hfit hpv
  go_enter Tryd.func7, Tryd.ntmps7
  go_wp2_with fail
  refine (SW.out _).mono ?_
  rintro e wa ⟨rfl, hb⟩
  have HW := Lib.hid (show WL w (wa.alloc (.cells #[.int .i64 0, .int .i64 0, .int .i64 0, .int .i64 0, .int .i64 (p : Int)] 24)) h0 h1 h2 h3 wa.heap.size 0 p from by
    have hlt := (Array.getElem?_eq_some_iff.1 H0.out.2).1
    have hs := hb.size
    have e1 : wa.heap[w.heap.size]? = _ := (hb.block _ hlt).trans H0.out.2
    exact ⟨(H0.out.1.trans (hb.mono (Nat.le_of_lt hlt))).alloc (by omega) _, (heap_alloc_old _ _ (by omega)).trans e1, ⟨heap_alloc_new _ _⟩, by omega⟩)
  clear hb H0 SW
  go_wp2_with fail
  go_loopw [7, 8] (fun s7 s8 wr => ∃ k : Nat, k ≤ 4 ∧ s8 = .int .i64 k ∧ s7 = .string ⟨(hostD m k).toArray⟩ ∧ Hid (WL w wr h0 h1 h2 h3 wa.heap.size k p)) (fun _ s8 _ => 4 - (intOf s8).toNat)
  case atStart => exact ⟨0, by omega, rfl, rfl, HW.out⟩
  case round =>
    obtain ⟨k, hk, rfl, rfl, HR⟩ := hrel
    by_cases h4 : k < 4
    · obtain ⟨n, hn⟩ : ∃ n, [h0, h1, h2, h3][k]? = some n := ⟨_, List.getElem?_eq_getElem (show k < 4 from h4)⟩
      have hc := HR.out.cell hn
      obtain ⟨old, ho⟩ := HR.out.pl.someCell h4
      have hfz := HR.out.pl.froz k
      have hand : bits .and .i64 n 255 = (m k : Int) := by rw [i64_255]; exact HMA.out n k hn
      have hne : (wa.heap.size = w.heap.size) = False := eq_false (by have := HR.out.hg; omega)
      have hne2 : (w.heap.size = wa.heap.size) = False := eq_false (by have := HR.out.hg; omega)
      have HR2 := Lib.hid (HR.out.set h4)
      rw [HM.out] at HR2
      have hc2 := HR2.out.cell hn
      have hl := HLEN.out k
      have hd := fun wx => DG.out (m k) (by have := HM255.out k; omega) wx
      have hl2 := itoaN_len (m k) (by have := HM255.out k; omega)
      obtain ⟨A, hA⟩ : ∃ A, hostD m k = A := ⟨_, rfl⟩
      have HN := Lib.hid (show hostD m (k + 1) = A ++ Lib.decDigits (m k) ++ [44] by rw [← hA]; rfl)
      rw [hA] at hl ⊢
      obtain ⟨D, hD⟩ : ∃ D, Lib.decDigits (m k) = D := ⟨_, rfl⟩
      rw [hD] at hd hl2 HN
      obtain ⟨v, hv⟩ : ∃ v, m k = v := ⟨_, rfl⟩
      rw [hv] at hand HR2 hc2 hd
      have z1 : (⟨A.toArray⟩ : ByteArray).size = A.length := rfl
      have z2 : (⟨D.toArray⟩ : ByteArray).size = D.length := rfl
      have z3 : (⟨#[44]⟩ : ByteArray).size = 1 := rfl
      have e1 := ba_bytes A D
      have e2 := ba_comma (A ++ D)
      have z4 : (⟨(A ++ D).toArray⟩ : ByteArray).size = A.length + D.length := by show (A ++ D).length = _; simp
      generalize A ++ D = E at *
      generalize E ++ [44] = F at *
      have hl3 : A.length ≤ 124 := by omega
      clear hA hD hl hn hv
      go_wp2_with fail
      refine (hd _).mono ?_
      rintro e w' ⟨rfl, rfl⟩
      clear hd
      go_wp2
      go_roundw
      case rel => exact ⟨k + 1, by omega, by go_num, by rw [HN.out], HR2.out⟩
      case measure => simp [intOf]; omega
    · obtain rfl : k = 4 := by omega
      have hl := HLEN.out 4
      obtain ⟨A, hA⟩ : ∃ A, hostD m 4 = A := ⟨_, rfl⟩
      rw [hA] at hl ⊢
      rw [hA] at HTXT
      have d1 := fun wx => DG.out pe (by omega) wx
      have d2 := fun wx => DG.out pf (by omega) wx
      have l1 := itoaN_len pe (by omega)
      have l2 := itoaN_len pf (by omega)
      obtain ⟨X, hX⟩ : ∃ X, Ad.text ⟨(m 0 : Int), (m 1 : Int), (m 2 : Int), (m 3 : Int), (p : Int)⟩ = X := ⟨_, rfl⟩
      rw [hX] at HTXT TX PV
      obtain ⟨F, hF⟩ : ∃ F, Lib.decDigits pe = F := ⟨_, rfl⟩
      obtain ⟨G, hG⟩ : ∃ G, Lib.decDigits pf = G := ⟨_, rfl⟩
      rw [hF] at d1 l1
      rw [hG] at d2 l2
      rw [hF, hG] at HTXT
      have hpl := HR.out.pl
      rw [HM.out, part_four] at hpl
      have HPL := Lib.hid hpl
      have HBL := Lib.hid HR.out.below
      obtain ⟨n0, hn0⟩ : ∃ n, m 0 = n := ⟨_, rfl⟩
      obtain ⟨n1, hn1⟩ : ∃ n, m 1 = n := ⟨_, rfl⟩
      obtain ⟨n2, hn2⟩ : ∃ n, m 2 = n := ⟨_, rfl⟩
      obtain ⟨n3, hn3⟩ : ∃ n, m 3 = n := ⟨_, rfl⟩
      rw [hn0, hn1, hn2, hn3] at TX PV HPL
      have HL0 := Lib.hid (show LA w wr [(wa.heap.size, ⟨(n0 : Int), (n1 : Int), (n2 : Int), (n3 : Int), (p : Int)⟩)] from ⟨HBL.out, fun q hq => by simp at hq; subst hq; exact HPL.out⟩)
      have A0 := HPL.out
      have c0 := A0.c0
      have c1 := A0.c1
      have c2 := A0.c2
      have c3 := A0.c3
      have c4 := A0.c4
      dsimp only at c0 c1 c2 c3 c4
      have q1 : (p : Int).tdiv 256 = (pe : Int) := by rw [Int.tdiv_eq_ediv_of_nonneg (by omega)]; omega
      have q3' : (p : Int).tmod 256 = (pf : Int) := by rw [Int.tmod_eq_emod_of_nonneg (by omega)]; omega
      have q4 : (p : Int) / 256 = (pe : Int) := by omega
      have q5 : (p : Int) % 256 = (pf : Int) := by omega
      have hpeb : pe ≤ 255 := by omega
      have z1 : (⟨A.toArray⟩ : ByteArray).size = A.length := rfl
      have z2 : (⟨F.toArray⟩ : ByteArray).size = F.length := rfl
      have z3 : (⟨#[44]⟩ : ByteArray).size = 1 := rfl
      have z4 : (⟨G.toArray⟩ : ByteArray).size = G.length := rfl
      have e1 := ba_bytes A F
      have e2 := ba_comma (A ++ F)
      have e3 := ba_bytes (A ++ F ++ [44]) G
      rw [HTXT.out] at e3
      have z5 : (⟨(A ++ F).toArray⟩ : ByteArray).size = A.length + F.length := by show (A ++ F).length = _; simp
      have z6 : (⟨(A ++ F ++ [44]).toArray⟩ : ByteArray).size = A.length + F.length + 1 := by show (A ++ F ++ [44]).length = _; simp; omega
      clear HTXT
      generalize A ++ F ++ [44] = E2 at *
      generalize A ++ F = E1 at *
      have hl3 : A.length ≤ 124 := by omega
      have he : ∀ w, (Op.equalIn 10000 24 (.agg #[.int .i64 (n0 : Int), .int .i64 (n1 : Int), .int .i64 (n2 : Int), .int .i64 (n3 : Int), .int .i64 (p : Int)]) (.agg #[.int .i64 (n0 : Int), .int .i64 (n1 : Int), .int .i64 (n2 : Int), .int .i64 (n3 : Int), .int .i64 (p : Int)])).run Tryd.prog w = .ok true w := fun w => by
        have := equalAd ⟨(n0 : Int), (n1 : Int), (n2 : Int), (n3 : Int), (p : Int)⟩ ⟨(n0 : Int), (n1 : Int), (n2 : Int), (n3 : Int), (p : Int)⟩ w
        simpa [adv, adc] using this
      clear A0 HPL HBL HR HM HMA HM255 HLEN DG hl hX hF hG hA hn0 hn1 hn2 hn3 HW hpl hpe hpf
      by_cases hp0 : p = 0
      · have hz : ((0 : Int) < (p : Int)) = False := eq_false (by omega)
        have hz2 : (0 < p) = False := eq_false (by omega)
        have hz3 : (p = 0) = True := eq_true hp0
        rw [if_pos (by simp [hp0])] at PV
        dsimp only [Option.getD_none, Option.isSome_none, ad0] at PV
        clear hp0
        go_wp2_with fail
        refine (d1 _).mono ?_
        rintro e w' ⟨rfl, rfl⟩
        clear d1
        go_wp2_with fail
        refine (d2 _).mono ?_
        rintro e w' ⟨rfl, rfl⟩
        clear d2
        go_wp2_with fail
        refine (TX.out _ HL0.out.below).mono ?_
        rintro e v1 ⟨rfl, hb1⟩
        have HL1 := Lib.hid (HL0.out.next hb1)
        clear hb1 HL0
        go_wp2_with fail
        refine (PV.out _).mono ?_
        rintro e v2 ⟨rfl, hb2⟩
        have HL2 := Lib.hid (HL1.out.next hb2)
        have HL3 := Lib.hid (HL2.out.push 0 0 0 0 0)
        clear hb2 HL1 HL2 c0 c1 c2 c3 c4 PV
        have A1 := HL3.out.at1
        have c0 := A1.c0
        have c1 := A1.c1
        have c2 := A1.c2
        have c3 := A1.c3
        have c4 := A1.c4
        dsimp only at c0 c1 c2 c3 c4
        clear A1
        go_wp2_with fail
        refine (TX.out _ HL3.out.below).mono ?_
        rintro e v4 ⟨rfl, hb4⟩
        have HL4 := Lib.hid (HL3.out.next hb4)
        clear hb4 HL3 TX c0 c1 c2 c3 c4
        have A0 := HL4.out.at0
        have A1 := HL4.out.at1
        have c0 := A1.c0
        have c1 := A1.c1
        have c2 := A1.c2
        have c3 := A1.c3
        have c4 := A1.c4
        have b0 := A0.c0
        have b1 := A0.c1
        have b2 := A0.c2
        have b3 := A0.c3
        have b4 := A0.c4
        dsimp only at c0 c1 c2 c3 c4 b0 b1 b2 b3 b4
        clear A0 A1
        go_wp2
        go_ret
        exact ⟨rfl, HL4.out.below⟩
      · have hz : ((0 : Int) < (p : Int)) = True := eq_true (by omega)
        have hz2 : (0 < p) = True := eq_true (by omega)
        have hz3 : (p = 0) = False := eq_false hp0
        rw [if_neg (by simpa using hp0)] at PV
        dsimp only [Option.getD_some, Option.isSome_some] at PV
        clear hp0
        go_wp2_with fail
        refine (d1 _).mono ?_
        rintro e w' ⟨rfl, rfl⟩
        clear d1
        go_wp2_with fail
        refine (d2 _).mono ?_
        rintro e w' ⟨rfl, rfl⟩
        clear d2
        go_wp2_with fail
        refine (TX.out _ HL0.out.below).mono ?_
        rintro e v1 ⟨rfl, hb1⟩
        have HL1 := Lib.hid (HL0.out.next hb1)
        clear hb1 HL0
        go_wp2_with fail
        refine (PV.out _).mono ?_
        rintro e v2 ⟨rfl, hb2⟩
        have HL2 := Lib.hid (HL1.out.next hb2)
        have HL3 := Lib.hid (HL2.out.push (n0 : Int) (n1 : Int) (n2 : Int) (n3 : Int) (p : Int))
        clear hb2 HL1 HL2 c0 c1 c2 c3 c4 PV
        have A1 := HL3.out.at1
        have c0 := A1.c0
        have c1 := A1.c1
        have c2 := A1.c2
        have c3 := A1.c3
        have c4 := A1.c4
        dsimp only at c0 c1 c2 c3 c4
        clear A1
        go_wp2_with fail
        refine (TX.out _ HL3.out.below).mono ?_
        rintro e v4 ⟨rfl, hb4⟩
        have HL4 := Lib.hid (HL3.out.next hb4)
        clear hb4 HL3 TX c0 c1 c2 c3 c4
        have A0 := HL4.out.at0
        have A1 := HL4.out.at1
        have c0 := A1.c0
        have c1 := A1.c1
        have c2 := A1.c2
        have c3 := A1.c3
        have c4 := A1.c4
        have b0 := A0.c0
        have b1 := A0.c1
        have b2 := A0.c2
        have b3 := A0.c3
        have b4 := A0.c4
        dsimp only at c0 c1 c2 c3 c4 b0 b1 b2 b3 b4
        clear A0 A1
        go_wp2
        go_ret
        exact ⟨rfl, HL4.out.below⟩
end Go.Proofs.YtonophhhndhhhaaDoor
