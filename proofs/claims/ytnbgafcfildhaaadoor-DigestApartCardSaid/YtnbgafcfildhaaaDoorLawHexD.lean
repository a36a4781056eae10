/- The law DigestHex walked. -/
import Derived.Test.YtnbgafcfildhaaaDoorDigestLaw
import Derived.OpenShut
namespace Go.Proofs.YtnbgafcfildhaaaDoor
open Go.RowKit

theorem unhexb_yes (s : ByteArray) (b : List UInt8) (w : World) (hs : s.size ≤ 1048576) (h : s.data.toList = Md5.hex b) :
    Calls Tryd.prog 10 #[.string s] w fun e w' => ∃ v, e = .returned (.tuple #[v, .bool true]) ∧ Rd w' v (b.map bv) ∧ Below w.heap.size w w' := by
  refine (unhexb_any s w hs).mono ?_
  rintro e w' (⟨b', v, h1, rfl, h2, h3⟩ | ⟨h1, _⟩)
  · obtain rfl := Md5.hex_inj (h1.trans h)
    exact ⟨v, rfl, h2, h3⟩
  · exact absurd h.symm (h1 b)

theorem unhexb_no (s : ByteArray) (w : World) (hs : s.size ≤ 1048576) (h : ∀ b, Md5.hex b ≠ s.data.toList) :
    Calls Tryd.prog 10 #[.string s] w fun e w' => e = .returned (.tuple #[.slice none 0 0, .bool false]) ∧ Below w.heap.size w w' := by
  refine (unhexb_any s w hs).mono ?_
  rintro e w' (⟨b', v, h1, _⟩ | ⟨_, rfl, h3⟩)
  · exact absurd h1 (h b')
  · exact ⟨rfl, h3⟩

theorem half_yes {c : UInt8} (h : (48 ≤ c.toNat ∧ c.toNat ≤ 57) ∨ (97 ≤ c.toNat ∧ c.toNat ≤ 102)) : 0 ≤ Md5.half c := by
  unfold Md5.half
  rcases h with h | h
  · rw [if_pos h]; omega
  · rw [if_neg (by omega), if_pos h]; omega
theorem half_no {c : UInt8} (h1 : ¬ (48 ≤ c.toNat ∧ c.toNat ≤ 57)) (h2 : ¬ (97 ≤ c.toNat ∧ c.toNat ≤ 102)) : Md5.half c < 0 := by
  unfold Md5.half
  rw [if_neg h1, if_neg h2]; omega

set_option maxHeartbeats 1000000 in
theorem lawHexD (v0 : Value) (x0 : List UInt8) (a c : Int) (h0 : x0.length ≤ maxLen) (ha : (Lit.int .u16 a).wf = true) (hc : (Lit.int .u8 c).wf = true) (w : World) (r0 : Rd w v0 (x0.map bv)) (ht : TBL w) :
    Calls Tryd.prog 4 #[v0, .int .u16 a, .int .u8 c] w fun e w' => e = .returned (.bool true) ∧ Below w.heap.size w w' := by
  have ba := bounds_u16 ha
  have bc := bounds_u8 hc
  obtain ⟨c8, rfl⟩ : ∃ c8 : UInt8, c = (c8.toNat : Int) := ⟨UInt8.ofNat c.toNat, by rw [UInt8.toNat_ofNat']; omega⟩
  have kcv := fun w : World => bytes_string ((Rd.made w [c8] 5 (0, 0) 1 rfl (by decide)).below ((Below.refl _ _).drew))
  have KCV : Hid (∀ w : World, (convert 22 9 (.slice (some ⟨w.heap.size, 0, none⟩) 1 1)).run Tryd.prog (w.alloc (.cells #[.int .u8 (c8.toNat : Int)] 5)).drew = .ok (.string ⟨#[c8]⟩) (w.alloc (.cells #[.int .u8 (c8.toNat : Int)] 5)).drew) := kcv
  clear ha hc kcv
  go_enter Tryd.func4, Tryd.ntmps4
  go_wp2_with fail
  refine (shown_any _ ht).mono ?_
  rintro e w1 ⟨rfl, hb1⟩
  have s0 := r0.below hb1
  clear r0 ht
  go_wp2_with fail
  refine (short_any v0 x0 _ s0 h0).mono ?_
  rintro e w1' ⟨va, rfl, ra, rfl⟩
  clear s0
  have la : (x0.take 600).length ≤ 600 := List.length_take_le _ _
  generalize x0.take 600 = xa at ra la
  obtain ⟨ao, cap, rfl, hcap, _⟩ := ra.form
  obtain ⟨L, hL⟩ : ∃ L, L = xa.length := ⟨_, rfl⟩
  rw [← hL] at ra la hcap ⊢
  have HL := Lib.hid hL
  clear hL
  go_wp2_with fail
  refine (hexb_any _ _ _ ra (by rw [← HL.out]; omega)).mono ?_
  rintro e w2 ⟨rfl, hb2⟩
  have c2 : Below w.heap.size w w2 := hb1.trans (hb2.mono hb1.size)
  have ra2 := ra.below hb2
  clear hb1 hb2 ra
  obtain ⟨S, hS⟩ : ∃ S : ByteArray, S = ⟨(Md5.hex xa).toArray⟩ := ⟨_, rfl⟩
  have e1 : sv (Md5.hex xa) = .string S := by rw [hS]; rfl
  have hSl : S.data.toList = Md5.hex xa := by rw [hS]
  obtain ⟨N, hN⟩ : ∃ N, N = S.size := ⟨_, rfl⟩
  have hNL : N = 2 * L := by rw [hN, Lib.size_eq, hSl, Md5.hex_len, ← HL.out]
  have hNb : N ≤ 1200 := by omega
  have hNq : ((N : Int) != 2 * (L : Int)) = false := by simp; omega
  have hSz : S.size = N := hN.symm
  rw [e1]
  have HSL := Lib.hid hSl
  have HNL := Lib.hid hNL
  have HSZ := Lib.hid hSz
  clear hS e1 hSl hN hNL hSz
  go_wp2_with fail
  refine (unhexb_yes S xa _ (by rw [HSZ.out]; omega) HSL.out).mono ?_
  rintro e w3 ⟨vx, rfl, rx, hb3⟩
  have c3 : Below w.heap.size w w3 := c2.trans (hb3.mono c2.size)
  have ra3 := ra2.below hb3
  clear c2 ra2 hb3
  have hSz := HSZ.out
  go_wp2_with fail
  have hz : (S ++ ⟨#[48]⟩ : ByteArray).size ≤ 1048576 := by rw [ByteArray.size_append', HSZ.out]; show N + 1 ≤ _; omega
  have hn : ∀ b, Md5.hex b ≠ (S ++ ⟨#[48]⟩ : ByteArray).data.toList := Md5.hex_odd (by
    have : (S ++ ⟨#[48]⟩ : ByteArray).data.toList = S.data.toList ++ [48] := by simp
    rw [this, List.length_append, HSL.out, Md5.hex_len, ← HL.out]
    show (2 * L + 1) % 2 = 1
    omega)
  have ht := unhexb_no _ w3 hz hn
  clear hz hn
  refine ht.mono ?_
  clear ht
  rintro e w4 ⟨rfl, hb4⟩
  have c4 : Below w.heap.size w w4 := c3.trans (hb4.mono c3.size)
  have ra4 := ra3.below hb4
  have rx4 := rx.below hb4
  clear c3 ra3 hb4 rx
  obtain ⟨B, hB⟩ : ∃ B : ByteArray, B = ⟨xa.toArray⟩ := ⟨_, rfl⟩
  have eB : sv xa = .string B := by rw [hB]; rfl
  have hBl : B.data.toList = xa := by rw [hB]
  have k1 := bytes_string rx4
  have k2 := bytes_string ra4
  rw [eB] at k1 k2
  have HBL := Lib.hid hBl
  clear eB hB rx4 hBl
  by_cases hN0 : N = 0
  · have hN00 : ((N : Int) == 0) = true := by simp; omega
    clear hN0
    go_wp2
    go_ret
    exact ⟨rfl, c4⟩
  · have hNp : 0 < N := by omega
    have hN0q : ((N : Int) == 0) = false := by simp; omega
    obtain ⟨i, hi⟩ : ∃ i : Nat, a % (N : Int) = (i : Int) := ⟨(a % (N : Int)).toNat, (Int.toNat_of_nonneg (Int.emod_nonneg _ (by omega))).symm⟩
    have hiN : i < N := by have := Int.emod_lt_of_pos a (show (0 : Int) < (N : Int) by omega); omega
    clear hN0
    go_wp2
    rw [hi]
    clear hi
    have kcv := KCV.out w4
    have i0 : (0 : Int) ≤ (i : Int) := Int.natCast_nonneg _
    have i1 : (i : Int) ≤ (N : Int) := by omega
    have i2 : IntKind.i64.wrap ((i : Int) + 1) = (i : Int) + 1 := wraps_i64 _ (by omega) (by omega)
    have i3 : (0 : Int) ≤ (i : Int) + 1 := by omega
    have i4 : (i : Int) + 1 ≤ (N : Int) := by omega
    have i5 : ((i : Int) + 1).toNat = i + 1 := by omega
    go_region
    have hz : (S.extract 0 i ++ ⟨#[c8]⟩ ++ S.extract (i + 1) N : ByteArray).size ≤ 1048576 := by
      rw [ByteArray.size_append', ByteArray.size_append', ByteArray.size_extract, ByteArray.size_extract, HSZ.out]
      show min i N - 0 + 1 + (min N N - (i + 1)) ≤ _
      omega
    have htl : (S.extract 0 i ++ ⟨#[c8]⟩ ++ S.extract (i + 1) N : ByteArray).data.toList = (Md5.hex xa).take i ++ [c8] ++ (Md5.hex xa).drop (i + 1) := by
      have e1 : ∀ (p q : ByteArray), (p ++ q).data.toList = p.data.toList ++ q.data.toList := fun p q => by simp
      have e2 : (S.extract 0 i).data.toList = (Md5.hex xa).take i := by rw [Lib.extract_eq, ← HSL.out]; simp
      have e3 : (S.extract (i + 1) N).data.toList = (Md5.hex xa).drop (i + 1) := by
        rw [Lib.extract_eq, ← HSL.out]
        exact List.take_of_length_le (by rw [List.length_drop, ← Lib.size_eq, HSZ.out]; exact Nat.le_refl _)
      rw [e1, e1, e2, e3]
    have hcases := Md5.hex_turned (b := xa) (i := i) (c := c8) (by rw [Md5.hex_len, ← HL.out, ← HNL.out]; exact hiN)
    rw [← htl] at hcases
    generalize (S.extract 0 i ++ ⟨#[c8]⟩ ++ S.extract (i + 1) N : ByteArray) = t at hz hcases ⊢
    have hb6 : Below w4.heap.size w4 ((w4.alloc (.cells #[.int .u8 (c8.toNat : Int)] 5)).drew) := ((Below.refl _ _).alloc (Nat.le_refl _) _).drew
    have c6 : Below w.heap.size w ((w4.alloc (.cells #[.int .u8 (c8.toNat : Int)] 5)).drew) := c4.trans (hb6.mono c4.size)
    have ra6 := ra4.below hb6
    generalize ((w4.alloc (.cells #[.int .u8 (c8.toNat : Int)] 5)).drew) = w6 at c6 ra6 ⊢
    clear kcv i0 i1 i2 i3 i4 i5 hb6 c4 ra4 KCV k1 k2
    rcases hcases with ⟨hc0, l, hl⟩ | ⟨hc0, hno⟩
    · have hrange : (48 ≤ c8.toNat ∧ c8.toNat ≤ 57) ∨ (97 ≤ c8.toNat ∧ c8.toNat ≤ 102) := by
        by_cases h1 : 48 ≤ c8.toNat ∧ c8.toNat ≤ 57
        · exact .inl h1
        by_cases h2 : 97 ≤ c8.toNat ∧ c8.toNat ≤ 102
        · exact .inr h2
        · have := half_no h1 h2; omega
      have hu := unhexb_yes t l w6 hz hl.symm
      have hq : (t.toList == S.toList) = true ∨ ((t.toList == S.toList) = false ∧ l ≠ xa) := by
        by_cases hts : t.data.toList = S.data.toList
        · left; rw [Lib.toList_data, Lib.toList_data, hts]; simp
        · right
          refine ⟨beq_eq_false_iff_ne.2 (by rw [Lib.toList_data, Lib.toList_data]; exact hts), fun e => hts ?_⟩
          rw [← hl, e, HSL.out]
      have HL2 := Lib.hid hl
      clear hc0 hz hl
      go_wp2_with fail
      refine hu.mono ?_
      clear hu
      rintro e w7 ⟨v7, rfl, r7, hb7⟩
      have c7 : Below w.heap.size w w7 := c6.trans (hb7.mono c6.size)
      have ra7 := ra6.below hb7
      obtain ⟨B2, hB2⟩ : ∃ B2 : ByteArray, B2 = ⟨l.toArray⟩ := ⟨_, rfl⟩
      have eB : sv l = .string B2 := by rw [hB2]; rfl
      have eA : sv xa = .string B := by
        rw [← HBL.out]
        rfl
      have k1 := bytes_string r7
      have k2 := bytes_string ra7
      rw [eB] at k1
      rw [eA] at k2
      rcases hq with hq | ⟨hq, hne⟩
      · clear hb7 c6 ra6 ra7 r7 hB2 eB eA
        rcases hrange with hr | hr
        · go_wp2
          go_ret
          exact ⟨rfl, c7⟩
        · have hh : ((c8.toNat : Int) ≤ 57) = False := eq_false (by omega)
          have hh2 : ((c8.toNat : Int) ≤ 102) = True := eq_true (by omega)
          go_wp2
          go_ret
          exact ⟨rfl, c7⟩
      · have hq2 : (B2.toList == B.toList) = false := beq_eq_false_iff_ne.2 (by
          rw [Lib.toList_data, Lib.toList_data, HBL.out, hB2]
          exact hne)
        clear hb7 c6 ra6 ra7 r7 hB2 eB eA hne
        rcases hrange with hr | hr
        · go_wp2
          go_ret
          exact ⟨rfl, c7⟩
        · have hh : ((c8.toNat : Int) ≤ 57) = False := eq_false (by omega)
          have hh2 : ((c8.toNat : Int) ≤ 102) = True := eq_true (by omega)
          go_wp2
          go_ret
          exact ⟨rfl, c7⟩
    · have hu := unhexb_no t w6 hz hno
      have hrange : c8.toNat < 48 ∨ (57 < c8.toNat ∧ c8.toNat < 97) ∨ 102 < c8.toNat := by
        by_cases h1 : 48 ≤ c8.toNat ∧ c8.toNat ≤ 57
        · have := half_yes (.inl h1); omega
        by_cases h2 : 97 ≤ c8.toNat ∧ c8.toNat ≤ 102
        · have := half_yes (.inr h2); omega
        omega
      have hts : t.data.toList ≠ S.data.toList := fun e => hno xa (by rw [e, HSL.out])
      have hq : (t.toList == S.toList) = false := beq_eq_false_iff_ne.2 (by rw [Lib.toList_data, Lib.toList_data]; exact hts)
      have hBne : B.data.toList ≠ [] := by
        rw [HBL.out]
        intro e
        have h1 := HL.out
        rw [e] at h1
        have h2 := HNL.out
        simp only [List.length_nil] at h1
        omega
      clear hc0 hz hno hts
      go_wp2_with fail
      refine hu.mono ?_
      clear hu
      rintro e w7 ⟨rfl, hb7⟩
      have c7 : Below w.heap.size w w7 := c6.trans (hb7.mono c6.size)
      have ra7 := ra6.below hb7
      have eA : sv xa = .string B := by
        rw [← HBL.out]
        rfl
      have k1 := bytes_string (rd_nil w7)
      have k2 := bytes_string ra7
      rw [sv] at k1
      rw [eA] at k2
      have hq2 : ((⟨#[]⟩ : ByteArray).toList == B.toList) = false := beq_eq_false_iff_ne.2 (by
        rw [Lib.toList_data, Lib.toList_data]
        exact fun e => hBne e.symm)
      have hq3 : B.toList.isEmpty = false := by
        rw [Lib.toList_data]
        cases h : B.data.toList with
        | nil => exact absurd h hBne
        | cons _ _ => rfl
      clear hb7 c6 ra6 ra7 eA hBne
      rcases hrange with hr | hr | hr
      · have hh : (48 ≤ (c8.toNat : Int)) = False := eq_false (by omega)
        have hh2 : (97 ≤ (c8.toNat : Int)) = False := eq_false (by omega)
        go_wp2
        go_ret
        exact ⟨rfl, c7⟩
      · have hh : ((c8.toNat : Int) ≤ 57) = False := eq_false (by omega)
        have hh2 : (97 ≤ (c8.toNat : Int)) = False := eq_false (by omega)
        go_wp2
        go_ret
        exact ⟨rfl, c7⟩
      · have hh : ((c8.toNat : Int) ≤ 57) = False := eq_false (by omega)
        have hh2 : ((c8.toNat : Int) ≤ 102) = False := eq_false (by omega)
        go_wp2
        go_ret
        exact ⟨rfl, c7⟩
end Go.Proofs.YtnbgafcfildhaaaDoor
