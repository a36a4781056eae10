/- AddrBack walked (layer 13; by gen_aback.py). -/
import Derived.Test.YtonophhhndhhhaaDoorALawQ
import Derived.Test.YtonophhhndhhhaaDoorAddrText
namespace Go.Proofs.YtonophhhndhhhaaDoor
open Go.RowKit

/-- The numbers of a host, made small. -/
def low4 (h0 h1 h2 h3 : Int) (k : Nat) : Nat := ([h0, h1, h2, h3].getD k 0 % 256).toNat
theorem low4_le (h0 h1 h2 h3 : Int) (k : Nat) : low4 h0 h1 h2 h3 k ≤ 255 := by unfold low4; omega
theorem low4_at {h0 h1 h2 h3 n : Int} {k : Nat} (h : [h0, h1, h2, h3][k]? = some n) : n % 256 = (low4 h0 h1 h2 h3 k : Int) := by
  unfold low4
  rw [List.getD_eq_getElem?_getD, h]
  simp only [Option.getD_some]
  omega

/-- The box of what came, and the place that is made. -/
structure BL (w wr : World) (x : Ad.Ad) (m : Nat → Nat) (g k : Nat) (p : Int) : Prop where
  below : Below w.heap.size w wr
  host : AB wr w.heap.size x
  pl : AB wr g (part m k p)
  hg : w.heap.size < g
theorem BL.cell {w wr : World} {x : Ad.Ad} {m : Nat → Nat} {g k : Nat} {p n : Int} (h : BL w wr x m g k p) {i : Nat} (hi : [x.a, x.b, x.c, x.d][i]? = some n) : wr.cell? ⟨w.heap.size, i, none⟩ = some (.int .i64 n) := by
  match i with
  | 0 => simp at hi; subst hi; exact h.host.c0
  | 1 => simp at hi; subst hi; exact h.host.c1
  | 2 => simp at hi; subst hi; exact h.host.c2
  | 3 => simp at hi; subst hi; exact h.host.c3
  | i + 4 => simp at hi
theorem BL.set {w wr : World} {x : Ad.Ad} {m : Nat → Nat} {g k : Nat} {p : Int} (h : BL w wr x m g k p) (hk : k < 4) : BL w (wr.setCell ⟨g, k, none⟩ (.int .i64 (m k : Int))) x m g (k + 1) p :=
  ⟨h.below.setCell (Nat.le_of_lt h.hg) _, ⟨(heap_setCell_other _ _ _ _ (Nat.ne_of_lt h.hg)).trans h.host.blk⟩, h.pl.num hk, h.hg⟩

set_option maxHeartbeats 8000000 in
set_option maxRecDepth 20000 in
theorem lawBack (xa xb xc xd xp : Int) (s t : ByteArray) (_ : (Lit.int .i64 xa).wf = true) (_ : (Lit.int .i64 xb).wf = true) (_ : (Lit.int .i64 xc).wf = true) (_ : (Lit.int .i64 xd).wf = true) (_ : (Lit.int .i64 xp).wf = true) (hs : s.size ≤ maxLen) (ht : t.size ≤ maxLen) (w : World) (htb : TB w) :
    Calls Tryd.prog 4 #[.agg #[.int .i64 xa, .int .i64 xb, .int .i64 xc, .int .i64 xd, .int .i64 xp], .string s, .string t] w fun e w' => e = .returned (.bool true) ∧ Below w.heap.size w w' := by
  obtain ⟨ls, rfl⟩ : ∃ l : List UInt8, s = ⟨l.toArray⟩ := ⟨s.data.toList, rfl⟩
  obtain ⟨lt, rfl⟩ : ∃ l : List UInt8, t = ⟨l.toArray⟩ := ⟨t.data.toList, rfl⟩
  obtain ⟨m, hm⟩ : ∃ m, low4 xa xb xc xd = m := ⟨_, rfl⟩
  have hm255 : ∀ k, m k ≤ 255 := fun k => by rw [← hm]; exact low4_le _ _ _ _ k
  have HMA := Lib.hid (fun n k (h : [xa, xb, xc, xd][k]? = some n) => (low4_at h).trans (by rw [hm]))
  obtain ⟨q, hq⟩ : ∃ q : Nat, xp % 1048576 = (q : Int) := ⟨(xp % 1048576).toNat, by omega⟩
  obtain ⟨p, hp⟩ : ∃ p, 1 + q % 65535 = p := ⟨_, rfl⟩
  have hp1 : 1 ≤ p ∧ p ≤ 65535 := by omega
  have hand : bits .and .i64 xp 1048575 = (q : Int) := by rw [i64_20]; exact hq
  have hq20 : q < 1048576 := by omega
  have e1 : (q : Int).tmod 65535 = ((p - 1 : Nat) : Int) := by rw [Int.tmod_eq_emod_of_nonneg (by omega)]; omega
  have e2 : (q : Int) % 65535 = ((p - 1 : Nat) : Int) := by omega
  have e3 : (1 : Int) + ((p - 1 : Nat) : Int) = (p : Int) := by omega
  have hfit := fit_of m hm255 (p / 256) (p % 256) (by omega) (by omega) (p : Int) (by omega)
  have hfit0 := fit_of m hm255 0 0 (by omega) (by omega) 0 (by omega)
  have HT := Lib.hid htb
  have SW := Lib.hid (fun wx => shown_any wx)
  have BA := Lib.hid (fun wx => bare_any ls hs wx)
  have BB := Lib.hid (fun wx => bare_any lt ht wx)
  have TX := Lib.hid (fun wx (hb : Below w.heap.size w wx) => text_any _ (fit_aw hfit) wx (HT.out.below hb))
  have TZ := Lib.hid (fun wx (hb : Below w.heap.size w wx) => text_any _ (fit_aw hfit0) wx (HT.out.below hb))
  have l1 := fit_len hfit
  have l0 := fit_len hfit0
  have k1 := bareL_len ls
  have k2 := bareL_len lt
  have hstop : Ad.Stop (bareL lt) := fun c hc => bareL_no lt c (List.mem_of_head? hc)
  have P1 := Lib.hid (fun wx => pasv_c (bareL ls ++ (Ad.text ⟨(m 0 : Int), (m 1 : Int), (m 2 : Int), (m 3 : Int), (p : Int)⟩ ++ bareL lt)) (by simp only [List.length_append]; omega) _ ((hfit.around (bareL_no ls) hstop).trans (if_neg (by show ¬ (p : Int) = 0; omega))) wx)
  have P2 := Lib.hid (fun wx => pasv_c (Ad.text ⟨(m 0 : Int), (m 1 : Int), (m 2 : Int), (m 3 : Int), 0⟩) (by omega) _ ((fit_pasv hfit0).trans (if_pos rfl)) wx)
  have P3 := Lib.hid (fun wx => pasv_c ([50, 53, 54, 44] ++ Ad.text ⟨(m 0 : Int), (m 1 : Int), (m 2 : Int), (m 3 : Int), (p : Int)⟩) (by simp only [List.length_append, List.length_cons, List.length_nil]; omega) _ hfit.big wx)
  have P4 := Lib.hid (fun wx => pasv_c (Ad.text ⟨(m 0 : Int), (m 1 : Int), (m 2 : Int), (m 3 : Int), (p : Int)⟩ ++ [48, 48, 48, 48]) (by simp only [List.length_append, List.length_cons, List.length_nil]; omega) _ hfit.long wx)
  dsimp only [Option.getD_some, Option.isSome_some, Option.getD_none, Option.isSome_none, ad0] at P1 P2 P3 P4
  obtain ⟨T, hT⟩ : ∃ T, Ad.text ⟨(m 0 : Int), (m 1 : Int), (m 2 : Int), (m 3 : Int), (p : Int)⟩ = T := ⟨_, rfl⟩
  obtain ⟨Z, hZ⟩ : ∃ Z, Ad.text ⟨(m 0 : Int), (m 1 : Int), (m 2 : Int), (m 3 : Int), 0⟩ = Z := ⟨_, rfl⟩
  obtain ⟨A, hA⟩ : ∃ A, bareL ls = A := ⟨_, rfl⟩
  obtain ⟨C, hC⟩ : ∃ C, bareL lt = C := ⟨_, rfl⟩
  rw [hT] at TX P1 P3 P4 l1
  rw [hZ] at TZ P2 l0
  rw [hA] at BA P1 k1
  rw [hC] at BB P1 k2
  have q2 := adHeld
  have q3 := adGuard
  have H0 := Lib.hid ((LA.nil w).push xa xb xc xd xp)
  unfold adv adc at TX TZ
  dsimp only at TX TZ
  clear hs ht htb hm hm255 hq hp hfit hfit0 hstop hT hZ hA hC
  go_enter Tryd.func4, Tryd.ntmps4
  go_wp2_with fail
  refine (SW.out _).mono ?_
  rintro e wa ⟨rfl, hb⟩
  have H1 := Lib.hid (H0.out.next hb)
  have c4 := H1.out.at0.c4
  dsimp only at c4
  have HW := Lib.hid (show BL w (wa.alloc (.cells #[.int .i64 0, .int .i64 0, .int .i64 0, .int .i64 0, .int .i64 (p : Int)] 24)) ⟨xa, xb, xc, xd, xp⟩ m wa.heap.size 0 p from by
    have hlt := (Array.getElem?_eq_some_iff.1 H1.out.at0.blk).1
    exact ⟨H1.out.below.alloc H1.out.below.size _, ⟨(heap_alloc_old _ _ hlt).trans H1.out.at0.blk⟩, ⟨heap_alloc_new _ _⟩, hlt⟩)
  clear hb H0 SW H1
  go_wp2_with fail
  clear c4
  go_loopw [9] (fun s9 wr => ∃ k : Nat, k ≤ 4 ∧ s9 = .int .i64 k ∧ Hid (BL w wr ⟨xa, xb, xc, xd, xp⟩ m wa.heap.size k p)) (fun s9 _ => 4 - (intOf s9).toNat)
  case atStart => exact ⟨0, by omega, rfl, HW.out⟩
  case round =>
    obtain ⟨k, hk, rfl, HR⟩ := hrel
    by_cases h4 : k < 4
    · obtain ⟨n, hn⟩ : ∃ n, [xa, xb, xc, xd][k]? = some n := ⟨_, List.getElem?_eq_getElem (show k < 4 from h4)⟩
      have hc := HR.out.cell (x := ⟨xa, xb, xc, xd, xp⟩) hn
      obtain ⟨old, ho⟩ := HR.out.pl.someCell h4
      have hfz := HR.out.pl.froz k
      have hnd : bits .and .i64 n 255 = (m k : Int) := by rw [i64_255]; exact HMA.out n k hn
      have HR2 := Lib.hid (HR.out.set h4)
      obtain ⟨v, hv⟩ : ∃ v, m k = v := ⟨_, rfl⟩
      rw [hv] at hnd HR2
      clear hn hv
      go_wp2
      go_roundw
      case rel => exact ⟨k + 1, by omega, by go_num, HR2.out⟩
      case measure => simp [intOf]; omega
    · obtain rfl : k = 4 := by omega
      have hpl := HR.out.pl
      rw [part_four] at hpl
      obtain ⟨n0, hn0⟩ : ∃ n, m 0 = n := ⟨_, rfl⟩
      obtain ⟨n1, hn1⟩ : ∃ n, m 1 = n := ⟨_, rfl⟩
      obtain ⟨n2, hn2⟩ : ∃ n, m 2 = n := ⟨_, rfl⟩
      obtain ⟨n3, hn3⟩ : ∃ n, m 3 = n := ⟨_, rfl⟩
      rw [hn0, hn1, hn2, hn3] at hpl
      simp only [hn0, hn1, hn2, hn3] at TX TZ P1
      have HL0 := Lib.hid (show LA w wr [(wa.heap.size, ⟨(n0 : Int), (n1 : Int), (n2 : Int), (n3 : Int), (p : Int)⟩)] from ⟨HR.out.below, fun q hq => by simp at hq; subst hq; exact hpl⟩)
      have he : ∀ w, (Op.equalIn 10000 24 (.agg #[.int .i64 (n0 : Int), .int .i64 (n1 : Int), .int .i64 (n2 : Int), .int .i64 (n3 : Int), .int .i64 (p : Int)]) (.agg #[.int .i64 (n0 : Int), .int .i64 (n1 : Int), .int .i64 (n2 : Int), .int .i64 (n3 : Int), .int .i64 (p : Int)])).run Tryd.prog w = .ok true w := fun w => by
        have := equalAd ⟨(n0 : Int), (n1 : Int), (n2 : Int), (n3 : Int), (p : Int)⟩ ⟨(n0 : Int), (n1 : Int), (n2 : Int), (n3 : Int), (p : Int)⟩ w
        simpa [adv, adc] using this
      have z1 : (⟨A.toArray⟩ : ByteArray).size = A.length := rfl
      have z2 : (⟨C.toArray⟩ : ByteArray).size = C.length := rfl
      have z3 : (⟨T.toArray⟩ : ByteArray).size = T.length := rfl
      have z4 : (⟨Z.toArray⟩ : ByteArray).size = Z.length := rfl
      have z5 : (⟨#[50, 53, 54, 44]⟩ : ByteArray).size = 4 := rfl
      have z6 : (⟨#[48, 48, 48, 48]⟩ : ByteArray).size = 4 := rfl
      have s1 := ba_bytes A T
      have s2 := ba_bytes (A ++ T) C
      rw [List.append_assoc] at s2
      have s3 : (⟨#[50, 53, 54, 44]⟩ : ByteArray) ++ ⟨T.toArray⟩ = ⟨([50, 53, 54, 44] ++ T).toArray⟩ := ByteArray.mk_append_mk [50, 53, 54, 44] T
      have s4 : (⟨T.toArray⟩ : ByteArray) ++ ⟨#[48, 48, 48, 48]⟩ = ⟨(T ++ [48, 48, 48, 48]).toArray⟩ := ByteArray.mk_append_mk T [48, 48, 48, 48]
      have z7 : (⟨(A ++ T).toArray⟩ : ByteArray).size = A.length + T.length := by show (A ++ T).length = _; simp
      generalize A ++ (T ++ C) = E1 at *
      generalize A ++ T = E2 at *
      generalize [50, 53, 54, 44] ++ T = E3 at *
      generalize T ++ [48, 48, 48, 48] = E4 at *
      clear HR hpl hn0 hn1 hn2 hn3 HMA HW
      go_wp2_with fail
      refine (BA.out _).mono ?_
      rintro e w' ⟨rfl, hw⟩
      rw [hw]
      clear hw w' BA
      go_wp2_with fail
      refine (BB.out _).mono ?_
      rintro e w' ⟨rfl, hw⟩
      rw [hw]
      clear hw w' BB
      have A0 := HL0.out.at0
      have c0 := A0.c0
      have c1 := A0.c1
      have c2 := A0.c2
      have c3 := A0.c3
      have c4 := A0.c4
      dsimp only at c0 c1 c2 c3 c4
      clear A0
      go_wp2_with fail
      refine (TX.out _ HL0.out.below).mono ?_
      rintro e v1 ⟨rfl, hb⟩
      have HN1 := Lib.hid (HL0.out.next hb)
      clear hb HL0
      go_wp2_with fail
      refine (P1.out _).mono ?_
      rintro e v2 ⟨rfl, hb⟩
      have HN2 := Lib.hid (HN1.out.next hb)
      clear hb HN1
      have HP1 := Lib.hid (HN2.out.push (n0 : Int) (n1 : Int) (n2 : Int) (n3 : Int) (p : Int))
      clear HN2 c0 c1 c2 c3 c4 P1
      have A0 := HP1.out.at1
      have c0 := A0.c0
      have c1 := A0.c1
      have c2 := A0.c2
      have c3 := A0.c3
      have c4 := A0.c4
      dsimp only at c0 c1 c2 c3 c4
      clear A0
      have HP2 := Lib.hid (HP1.out.push (n0 : Int) (n1 : Int) (n2 : Int) (n3 : Int) 0)
      clear HP1
      go_wp2_with fail
      refine (TZ.out _ HP2.out.below).mono ?_
      rintro e v3 ⟨rfl, hb⟩
      have HN3 := Lib.hid (HP2.out.next hb)
      clear hb HP2
      clear TZ c0 c1 c2 c3 c4
      go_wp2_with fail
      refine (P2.out _).mono ?_
      rintro e v4 ⟨rfl, hb⟩
      have HN4 := Lib.hid (HN3.out.next hb)
      clear hb HN3
      have HP3 := Lib.hid (HN4.out.push 0 0 0 0 0)
      clear HN4 P2
      have A0 : AB _ (wa.heap.size) ⟨(n0 : Int), (n1 : Int), (n2 : Int), (n3 : Int), (p : Int)⟩ := HP3.out.ab (wa.heap.size, ⟨(n0 : Int), (n1 : Int), (n2 : Int), (n3 : Int), (p : Int)⟩) (by simp)
      have c0 := A0.c0
      have c1 := A0.c1
      have c2 := A0.c2
      have c3 := A0.c3
      have c4 := A0.c4
      dsimp only at c0 c1 c2 c3 c4
      clear A0
      go_wp2_with fail
      refine (TX.out _ HP3.out.below).mono ?_
      rintro e v5 ⟨rfl, hb⟩
      have HN5 := Lib.hid (HP3.out.next hb)
      clear hb HP3
      clear c0 c1 c2 c3 c4
      go_wp2_with fail
      refine (P3.out _).mono ?_
      rintro e v6 ⟨rfl, hb⟩
      have HN6 := Lib.hid (HN5.out.next hb)
      clear hb HN5
      have HP4 := Lib.hid (HN6.out.push 0 0 0 0 0)
      clear HN6 P3
      have A0 : AB _ (wa.heap.size) ⟨(n0 : Int), (n1 : Int), (n2 : Int), (n3 : Int), (p : Int)⟩ := HP4.out.ab (wa.heap.size, ⟨(n0 : Int), (n1 : Int), (n2 : Int), (n3 : Int), (p : Int)⟩) (by simp)
      have c0 := A0.c0
      have c1 := A0.c1
      have c2 := A0.c2
      have c3 := A0.c3
      have c4 := A0.c4
      dsimp only at c0 c1 c2 c3 c4
      clear A0
      go_wp2_with fail
      refine (TX.out _ HP4.out.below).mono ?_
      rintro e v7 ⟨rfl, hb⟩
      have HN7 := Lib.hid (HP4.out.next hb)
      clear hb HP4
      clear c0 c1 c2 c3 c4
      go_wp2_with fail
      refine (P4.out _).mono ?_
      rintro e v8 ⟨rfl, hb⟩
      have HN8 := Lib.hid (HN7.out.next hb)
      clear hb HN7
      have HP5 := Lib.hid (HN8.out.push 0 0 0 0 0)
      clear HN8 P4 TX
      have A0 : AB _ (wa.heap.size) ⟨(n0 : Int), (n1 : Int), (n2 : Int), (n3 : Int), (p : Int)⟩ := HP5.out.ab (wa.heap.size, ⟨(n0 : Int), (n1 : Int), (n2 : Int), (n3 : Int), (p : Int)⟩) (by simp)
      have c0 := A0.c0
      have c1 := A0.c1
      have c2 := A0.c2
      have c3 := A0.c3
      have c4 := A0.c4
      dsimp only at c0 c1 c2 c3 c4
      clear A0
      have A0 : AB _ (v2.heap.size) ⟨(n0 : Int), (n1 : Int), (n2 : Int), (n3 : Int), (p : Int)⟩ := HP5.out.ab (v2.heap.size, ⟨(n0 : Int), (n1 : Int), (n2 : Int), (n3 : Int), (p : Int)⟩) (by simp)
      have b0 := A0.c0
      have b1 := A0.c1
      have b2 := A0.c2
      have b3 := A0.c3
      have b4 := A0.c4
      dsimp only at b0 b1 b2 b3 b4
      clear A0
      go_wp2
      go_ret
      exact ⟨rfl, HP5.out.below⟩
end Go.Proofs.YtonophhhndhhhaaDoor
