/- The law B64Back walked. -/
import Derived.Test.YteagmogkhbdabaaB64Take
import Derived.Test.YteagmogkhbdabaaB64Law
import Derived.OpenShut
import Derived.RegionTactic
import Derived.ChangeAlike
namespace Go.Proofs.Yteagmogkhbdabaa
open Go.RowKit

/-- What letters that stand for bytes are taken to. -/
theorem take_put (s : ByteArray) (b : List UInt8) (w : World) (hs : s.size ≤ 1048576) (h : s.data.toList = B64.put b) :
    Calls Try.prog 10 #[.string s] w fun e w' => ∃ v, e = .returned (.tuple #[v, .bool true]) ∧ Rd w' v (b.map bv) ∧ Below w.heap.size w w' := by
  refine (take_any s w hs).mono ?_
  rintro e w' (⟨b', v, h1, rfl, h2, h3⟩ | ⟨h1, _⟩)
  · obtain rfl := B64.put_inj _ _ (h1.trans h)
    exact ⟨v, rfl, Rd.of_own h2, h3⟩
  · exact absurd h.symm (h1 b)

theorem take_no (s : ByteArray) (w : World) (hs : s.size ≤ 1048576) (h : ∀ b, B64.put b ≠ s.data.toList) :
    Calls Try.prog 10 #[.string s] w fun e w' => e = .returned (.tuple #[.slice none 0 0, .bool false]) ∧ Below w.heap.size w w' := by
  refine (take_any s w hs).mono ?_
  rintro e w' (⟨b', v, h1, _⟩ | ⟨_, rfl, h3⟩)
  · exact absurd h1 (h b')
  · exact ⟨rfl, h3⟩

theorem no_len {l : List UInt8} (h : l.length % 4 ≠ 0) : ∀ b, B64.put b ≠ l := by
  intro b hb
  rw [← hb, B64.put_len] at h
  omega

set_option maxHeartbeats 400000 in
theorem lawBack (v0 : Value) (x0 : List UInt8) (a c : Int) (h0 : x0.length ≤ maxLen) (ha : (Lit.int .u16 a).wf = true) (hc : (Lit.int .u8 c).wf = true) (w : World) (r0 : Rd w v0 (x0.map bv)) :
    Calls Try.prog 4 #[v0, .int .u16 a, .int .u8 c] w fun e w' => e = .returned (.bool true) ∧ Below w.heap.size w w' := by
  have ba := bounds_u16 ha
  have bc := bounds_u8 hc
  obtain ⟨c8, rfl⟩ : ∃ c8 : UInt8, c = (c8.toNat : Int) := ⟨UInt8.ofNat c.toNat, by rw [UInt8.toNat_ofNat']; omega⟩
  have kcv := fun w : World => bytes_string ((Rd.made w [c8] 5 (0, 0) 1 rfl (by decide)).below ((Below.refl _ _).drew))
  have KCV : Hid (∀ w : World, (convert 22 9 (.slice (some ⟨w.heap.size, 0, none⟩) 1 1)).run Try.prog (w.alloc (.cells #[.int .u8 (c8.toNat : Int)] 5)).drew = .ok (.string ⟨#[c8]⟩) (w.alloc (.cells #[.int .u8 (c8.toNat : Int)] 5)).drew) := kcv
  clear ha hc kcv
  go_enter Try.func4, Try.ntmps4
  go_wp2_with fail
  refine (shown_any _).mono ?_
  rintro e w1 ⟨rfl, hb1⟩
  have s0 := r0.below hb1
  clear r0
  go_wp2_with fail
  refine (short_any v0 x0 _ s0 h0).mono ?_
  rintro e w1' ⟨va, rfl, ra, rfl⟩
  clear s0
  have la : (x0.take 600).length ≤ 600 := List.length_take_le _ _
  generalize x0.take 600 = xa at ra la
  obtain ⟨ao, cap, rfl, hcap, _⟩ := ra.form
  obtain ⟨L, hL⟩ : ∃ L, L = xa.length := ⟨_, rfl⟩
  rw [← hL] at ra la hcap ⊢
  have HL := Lib.hid hL
  clear hL
  go_wp2_with fail
  refine (putb_any _ _ _ ra (by rw [← HL.out]; omega)).mono ?_
  rintro e w2 ⟨rfl, hb2⟩
  have c2 : Below w.heap.size w w2 := hb1.trans (hb2.mono hb1.size)
  have ra2 := ra.below hb2
  clear hb1 hb2 ra
  obtain ⟨S, hS⟩ : ∃ S : ByteArray, S = ⟨(B64.put xa).toArray⟩ := ⟨_, rfl⟩
  have e1 : sv (B64.put xa) = .string S := by rw [hS]; rfl
  have hSl : S.data.toList = B64.put xa := by rw [hS]
  obtain ⟨N, hN⟩ : ∃ N, N = S.size := ⟨_, rfl⟩
  have hNL : N = (L + 2) / 3 * 4 := by rw [hN, Lib.size_eq, hSl, B64.put_len, ← HL.out]
  have hNb : N ≤ 1000 := by omega
  have hNq : ((N : Int) != ((L : Int) + 2) / 3 * 4) = false := by simp; omega
  have hSz : S.size = N := hN.symm
  rw [e1]
  have HSL := Lib.hid hSl
  have HNL := Lib.hid hNL
  have HSZ := Lib.hid hSz
  clear hS e1 hSl hN hNL hSz
  go_wp2_with fail
  refine (take_put S xa _ (by rw [HSZ.out]; omega) HSL.out).mono ?_
  rintro e w3 ⟨vx, rfl, rx, hb3⟩
  have c3 : Below w.heap.size w w3 := c2.trans (hb3.mono c2.size)
  have ra3 := ra2.below hb3
  clear c2 ra2 hb3
  obtain ⟨B, hB⟩ : ∃ B : ByteArray, B = ⟨xa.toArray⟩ := ⟨_, rfl⟩
  have eB : sv xa = .string B := by rw [hB]; rfl
  have hBl : B.data.toList = xa := by rw [hB]
  have k1 := bytes_string rx
  have k2 := bytes_string ra3
  rw [eB] at k1 k2
  have HBL := Lib.hid hBl
  have hSz := HSZ.out
  clear eB hB rx hBl
  go_wp2_with fail
  have hz : (S ++ ⟨#[65]⟩ : ByteArray).size ≤ 1048576 := by rw [ByteArray.size_append', HSZ.out]; show N + 1 ≤ _; omega
  have hn : ∀ b, B64.put b ≠ (S ++ ⟨#[65]⟩ : ByteArray).data.toList := no_len (by
    have : (S ++ ⟨#[65]⟩ : ByteArray).data.toList = S.data.toList ++ [65] := by simp
    rw [this, List.length_append, HSL.out, B64.put_len, ← HL.out]
    show ((L + 2) / 3 * 4 + 1) % 4 ≠ 0
    omega)
  have ht := take_no _ w3 hz hn
  clear hz hn
  refine ht.mono ?_
  clear ht
  rintro e w4 ⟨rfl, hb4⟩
  have c4 : Below w.heap.size w w4 := c3.trans (hb4.mono c3.size)
  have ra4 := ra3.below hb4
  clear c3 ra3 hb4 k1 k2
  by_cases hN0 : N = 0
  · have hmax : max ((N : Int) - 1) 0 = ((0 : Nat) : Int) := by omega
    have hput : S.data.toList = [] := by
      have : S.data.toList.length = 0 := by rw [← Lib.size_eq, HSZ.out, hN0]
      exact List.eq_nil_of_length_eq_zero this
    have hN0' : N ≤ 0 := by omega
    have HP := Lib.hid hput
    have hN00 : ((N : Int) == 0) = true := by simp; omega
    clear hN0 hput
    go_wp2_with fail
    refine (take_put ByteArray.empty [] _ (by decide) rfl).mono ?_
    rintro e w5 ⟨v5, rfl, _, hb5⟩
    have c5 : Below w.heap.size w w5 := c4.trans (hb5.mono c4.size)
    clear hb5 c4
    go_wp2
    go_ret
    exact ⟨rfl, c5⟩
  · have hmax : max ((N : Int) - 1) 0 = ((N - 1 : Nat) : Int) := by omega
    have hNp : 0 < N := by omega
    have hN0q : ((N : Int) == 0) = false := by simp; omega
    have hz : (S.extract 0 (N - 1)).size ≤ 1048576 := by rw [ByteArray.size_extract, HSZ.out]; omega
    have hn : ∀ b, B64.put b ≠ (S.extract 0 (N - 1)).data.toList := no_len (by
      have : S.data.toList.length = N := by rw [← Lib.size_eq, HSZ.out]
      rw [Lib.extract_eq]
      simp only [List.drop_zero, List.length_take, this]
      have := HNL.out
      omega)
    have ht := take_no _ w4 hz hn
    clear hN0 hz hn
    go_wp2_with fail
    refine ht.mono ?_
    rintro e w5 ⟨rfl, hb5⟩
    have c5 : Below w.heap.size w w5 := c4.trans (hb5.mono c4.size)
    have ra5 := ra4.below hb5
    clear ht hb5 c4 ra4
    obtain ⟨i, hi⟩ : ∃ i : Nat, a % (N : Int) = (i : Int) := ⟨(a % (N : Int)).toNat, (Int.toNat_of_nonneg (Int.emod_nonneg _ (by omega))).symm⟩
    have hiN : i < N := by have := Int.emod_lt_of_pos a (show (0 : Int) < (N : Int) by omega); omega
    go_wp2
    rw [hi]
    clear hi
    have kcv := KCV.out w5
    have i0 : (0 : Int) ≤ (i : Int) := Int.natCast_nonneg _
    have i1 : (i : Int) ≤ (N : Int) := by omega
    have i2 : IntKind.i64.wrap ((i : Int) + 1) = (i : Int) + 1 := wraps_i64 _ (by omega) (by omega)
    have i3 : (0 : Int) ≤ (i : Int) + 1 := by omega
    have i4 : (i : Int) + 1 ≤ (N : Int) := by omega
    have i5 : ((i : Int) + 1).toNat = i + 1 := by omega
    go_region
    have hz : (S.extract 0 i ++ ⟨#[c8]⟩ ++ S.extract (i + 1) N : ByteArray).size ≤ 1048576 := by
      rw [ByteArray.size_append', ByteArray.size_append', ByteArray.size_extract, ByteArray.size_extract, HSZ.out]
      show min i N - 0 + 1 + (min N N - (i + 1)) ≤ _
      omega
    generalize (S.extract 0 i ++ ⟨#[c8]⟩ ++ S.extract (i + 1) N : ByteArray) = t at hz ⊢
    have hb6 : Below w5.heap.size w5 ((w5.alloc (.cells #[.int .u8 (c8.toNat : Int)] 5)).drew) := ((Below.refl _ _).alloc (Nat.le_refl _) _).drew
    have c6 : Below w.heap.size w ((w5.alloc (.cells #[.int .u8 (c8.toNat : Int)] 5)).drew) := c5.trans (hb6.mono c5.size)
    have ra6 := ra5.below hb6
    generalize ((w5.alloc (.cells #[.int .u8 (c8.toNat : Int)] 5)).drew) = w6 at c6 ra6 ⊢
    clear kcv i0 i1 i2 i3 i4 i5 hb6 c5 ra5 KCV
    by_cases hts : t.data.toList = S.data.toList
    · obtain rfl := Go.WideShapes.bytes_inj hts
      clear hts
      have ht := take_put t xa w6 hz HSL.out
      clear hz
      go_wp2_with fail
      refine ht.mono ?_
      rintro e w7 ⟨v7, rfl, _, hb7⟩
      have c7 : Below w.heap.size w w7 := c6.trans (hb7.mono c6.size)
      clear ht hb7 c6
      go_wp2
      go_ret
      exact ⟨rfl, c7⟩
    · have hq : (t.toList == S.toList) = false := beq_eq_false_iff_ne.2 (by rw [Lib.toList_data, Lib.toList_data]; exact hts)
      have ht := take_any t w6 hz
      have HTS := Lib.hid hts
      clear hz hts
      go_wp2_with fail
      refine ht.mono ?_
      clear ht
      rintro e w7 (⟨b, v7, hp, rfl, hown, hb7⟩ | ⟨_, rfl, hb7⟩)
      · have c7 : Below w.heap.size w w7 := c6.trans (hb7.mono c6.size)
        have ra7 := ra6.below hb7
        obtain ⟨B2, hB2⟩ : ∃ B2 : ByteArray, B2 = ⟨b.toArray⟩ := ⟨_, rfl⟩
        have eB : sv b = .string B2 := by rw [hB2]; rfl
        have eA : sv xa = .string B := by
          rw [← HBL.out]
          rfl
        have k1 := bytes_string (Rd.of_own hown)
        have k2 := bytes_string ra7
        rw [eB] at k1
        rw [eA] at k2
        have hq2 : (B2.toList == B.toList) = false := beq_eq_false_iff_ne.2 (by
          rw [Lib.toList_data, Lib.toList_data, HBL.out, hB2]
          intro e
          have e : b = xa := e
          subst e
          exact HTS.out (hp.symm.trans HSL.out.symm))
        clear hb7 c6 ra6 ra7 hown hp hB2 eB eA
        go_wp2
        go_ret
        exact ⟨rfl, c7⟩
      · have c7 : Below w.heap.size w w7 := c6.trans (hb7.mono c6.size)
        clear hb7 c6
        go_wp2
        go_ret
        exact ⟨rfl, c7⟩
end Go.Proofs.Yteagmogkhbdabaa
