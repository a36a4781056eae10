/- The law AuthStamps walked. -/
import Derived.Test.YtjogdflhpciciaaDoorAuthLaw
import Derived.Test.YtjogdflhpciciaaDoorAuthStamp
import Derived.Test.YtjogdflhpciciaaDoorToBytes
namespace Go.Proofs.YtjogdflhpciciaaDoor
open Go.RowKit

def notMark (c : UInt8) : Bool := c != 60 && c != 62
def notEnd (c : UInt8) : Bool := c != 62

/-- What a text has of those bytes, so far. -/
structure Kept (p : UInt8 → Bool) (s : ByteArray) (k : Nat) (B : ByteArray) : Prop where
  e : B.data.toList = (s.data.toList.take k).filter p
theorem Kept.start (p : UInt8 → Bool) (s : ByteArray) : Kept p s 0 ⟨#[]⟩ := ⟨rfl⟩
theorem Kept.few {p : UInt8 → Bool} {s : ByteArray} {k : Nat} {B : ByteArray} (h : Kept p s k B) : B.size ≤ k := by
  rw [Lib.size_eq, h.e]
  exact Nat.le_trans (List.length_filter_le _ _) (List.length_take_le _ _)
theorem get_byte (s : ByteArray) (k : Nat) (h : k < s.size) : s.data.toList[k]? = some (s[k]'h) := by
  rw [byte_at s k h, List.getD_eq_getElem?_getD, List.getElem?_eq_getElem (by rw [← Lib.size_eq]; exact h)]
  rfl
theorem Kept.yes {p : UInt8 → Bool} {s : ByteArray} {k : Nat} {B : ByteArray} (h : Kept p s k B) (hk : k < s.size) (hp : p (s[k]'hk) = true) : Kept p s (k + 1) (B ++ s.extract k (k + 1)) := by
  have hg := get_byte s k hk
  have hd : s.data.toList.drop k = s[k]'hk :: s.data.toList.drop (k + 1) := by
    have hl : k < s.data.toList.length := by rw [← Lib.size_eq]; exact hk
    rw [List.drop_eq_getElem_cons hl]
    rw [List.getElem?_eq_getElem hl] at hg
    rw [Option.some.inj hg]
  have he : (s.extract k (k + 1)).data.toList = [s[k]'hk] := by
    rw [Lib.extract_eq, show k + 1 - k = 1 by omega, hd]
    rfl
  refine ⟨?_⟩
  rw [show (B ++ s.extract k (k + 1) : ByteArray).data.toList = B.data.toList ++ (s.extract k (k + 1)).data.toList by simp, he, List.take_add_one, hg, h.e, List.filter_append]
  simp [hp]
theorem Kept.no {p : UInt8 → Bool} {s : ByteArray} {k : Nat} {B : ByteArray} (h : Kept p s k B) (hk : k < s.size) (hp : p (s[k]'hk) = false) : Kept p s (k + 1) B := by
  refine ⟨?_⟩
  rw [List.take_add_one, get_byte s k hk, h.e, List.filter_append]
  simp [hp]
theorem Kept.done {p : UInt8 → Bool} {s : ByteArray} {B : ByteArray} (h : Kept p s s.size B) : B.data.toList = s.data.toList.filter p := by
  rw [h.e, List.take_of_length_le (by rw [← Lib.size_eq]; exact Nat.le_refl _)]
theorem u8_ne {c d : UInt8} (h : ((c.toNat : Int) != (d.toNat : Int)) = true) : (c != d) = true := by
  rw [bne_iff_ne] at h ⊢
  exact fun e => h (by rw [e])
theorem u8_eq {c d : UInt8} (h : ((c.toNat : Int) != (d.toNat : Int)) = false) : (c != d) = false := by
  rw [bne_eq_false_iff_eq] at h ⊢
  rw [← UInt8.toNat_inj]
  omega

theorem size_cat3 (a b c : ByteArray) : (a ++ b ++ c : ByteArray).size = a.size + b.size + c.size := by rw [ByteArray.size_append', ByteArray.size_append']

/-- What the three greetings have. -/
theorem three (B I s : ByteArray) (h1 : 60 ∉ B.data.toList) (h2 : 62 ∉ I.data.toList) :
    stampV (B ++ ⟨#[60]⟩ ++ I ++ ⟨#[62]⟩ ++ s : ByteArray).data.toList = (if I.data.toList = [] then .tuple #[.string ⟨#[]⟩, .bool false] else .tuple #[.string (⟨#[60]⟩ ++ I ++ ⟨#[62]⟩), .bool true]) ∧
    stampV (B ++ ⟨#[62]⟩ ++ B : ByteArray).data.toList = .tuple #[.string ⟨#[]⟩, .bool false] ∧ stampV (B ++ ⟨#[60]⟩ ++ I : ByteArray).data.toList = .tuple #[.string ⟨#[]⟩, .bool false] := by
  refine ⟨?_, ?_, ?_⟩
  · have e : (B ++ ⟨#[60]⟩ ++ I ++ ⟨#[62]⟩ ++ s : ByteArray).data.toList = B.data.toList ++ 60 :: (I.data.toList ++ 62 :: s.data.toList) := by simp
    have hm := Au.stamp_made (s := s.data.toList) h1 h2
    rw [e]
    by_cases h : I.data.toList = []
    · rw [if_pos h] at hm ⊢
      exact stampV_none hm
    · rw [if_neg h] at hm ⊢
      rw [stampV_some hm, sv_eq (s := ⟨#[60]⟩ ++ I ++ ⟨#[62]⟩) (by simp)]
  · refine stampV_none (Au.stamp_bare ?_)
    simp [h1]
  · rw [show (B ++ ⟨#[60]⟩ ++ I : ByteArray).data.toList = B.data.toList ++ 60 :: I.data.toList by simp]
    exact stampV_none (Au.stamp_open h1 h2)

set_option maxHeartbeats 2000000 in
theorem lawStamps (a0 a1 : ByteArray) (w0 : a0.size ≤ maxLen) (w1 : a1.size ≤ maxLen) (w : World) (ht : TBL w) :
    Calls Tryd.prog 5 #[.string a0, .string a1] w fun e w' => e = .returned (.bool true) ∧ Below w.heap.size w w' := by
  have hs0 := short5_le a0
  have ht0 := short5_le a1
  have hs := fun w => shortA_any a0 w w0
  have hts := fun w => shortA_any a1 w w1
  generalize short5 a0 = s at hs0 hs
  generalize short5 a1 = t at ht0 hts
  have HS := Lib.hid hs
  have HT := Lib.hid hts
  have HTB := Lib.hid ht
  clear hs hts ht
  go_enter Tryd.func5, Tryd.ntmps5
  go_wp2_with fail
  refine (shownA_any _ HTB.out).mono ?_
  rintro e w2 ⟨rfl, hb1⟩
  go_wp2_with fail
  refine (HS.out _).mono ?_
  rintro e w3 ⟨rfl, rfl⟩
  go_wp2_with fail
  refine (HT.out _).mono ?_
  rintro e w3 ⟨rfl, rfl⟩
  have HB1 := Lib.hid hb1
  clear hb1
  obtain ⟨n, hn⟩ : ∃ n, n = s.size := ⟨_, rfl⟩
  have hsz := hn.symm
  obtain ⟨m, hm⟩ : ∃ m, m = t.size := ⟨_, rfl⟩
  have htz := hm.symm
  rw [← hn] at hs0
  rw [← hm] at ht0
  clear hn hm
  go_wp2
  go_loopw [6, 7] (fun b i wr => ∃ (k : Nat) (B : ByteArray), k ≤ n ∧ i = .int .i64 k ∧ b = .string B ∧ Hid (Kept notMark s k B) ∧ B.size ≤ k ∧ wr = w2) (fun _ i _ => n - (intOf i).toNat)
  case atStart => exact ⟨0, ⟨#[]⟩, Nat.zero_le _, rfl, rfl, Lib.hid (Kept.start _ _), Nat.le_refl _, rfl⟩
  case round =>
    obtain ⟨k, B, hk, rfl, rfl, hK, hB, rfl⟩ := hrel
    by_cases hlt : k < n
    · have hks : k < s.size := by rw [hsz]; exact hlt
      cases h60 : (((s[k]'hks).toNat : Int) != 60)
      · have RS := Lib.hid (hK.out.no hks (by rw [notMark, u8_eq (d := 60) h60, Bool.false_and]))
        go_wp2
        go_roundw
        case rel => exact ⟨k + 1, B, by omega, by go_num, rfl, RS, by omega, by first | rfl | trivial⟩
        case measure => simp [intOf]; omega
      · cases h62 : (((s[k]'hks).toNat : Int) != 62)
        · have RS := Lib.hid (hK.out.no hks (by rw [notMark, u8_eq (d := 62) h62, Bool.and_false]))
          go_wp2
          go_roundw
          case rel => exact ⟨k + 1, B, by omega, by go_num, rfl, RS, by omega, by first | rfl | trivial⟩
          case measure => simp [intOf]; omega
        · have RS := Lib.hid (hK.out.yes hks (by rw [notMark, u8_ne (d := 60) h60, u8_ne (d := 62) h62, Bool.and_true]))
          have hfew := RS.out.few
          have hez : (s.extract k (k + 1)).size = 1 := by rw [ByteArray.size_extract, hsz]; omega
          go_wp2
          go_roundw
          case rel => exact ⟨k + 1, _, by omega, by go_num, rfl, RS, hfew, by first | rfl | trivial⟩
          case measure => simp [intOf]; omega
    · obtain rfl : k = n := by omega
      have hbare := Kept.done (p := notMark) (s := s) (B := B) (by rw [hsz]; exact hK.out)
      have hno : 60 ∉ B.data.toList := by rw [hbare]; simp [notMark]
      have HNO := Lib.hid hno
      clear hK hbare hno hk
      go_wp2
      go_loopw [8, 9] (fun b i w8 => ∃ (j : Nat) (I : ByteArray), j ≤ m ∧ i = .int .i64 j ∧ b = .string I ∧ Hid (Kept notEnd t j I) ∧ I.size ≤ j ∧ w8 = wr) (fun _ i _ => m - (intOf i).toNat)
      case atStart => exact ⟨0, ⟨#[]⟩, Nat.zero_le _, rfl, rfl, Lib.hid (Kept.start _ _), Nat.le_refl _, by first | rfl | trivial⟩
      case round =>
        obtain ⟨j, I, hj, rfl, rfl, hK, hI, rfl⟩ := hrel
        by_cases hlt2 : j < m
        · have hjs : j < t.size := by rw [htz]; exact hlt2
          cases h62 : (((t[j]'hjs).toNat : Int) != 62)
          · have RS := Lib.hid (hK.out.no hjs (by rw [notEnd, u8_eq (d := 62) h62]))
            go_wp2
            go_roundw
            case rel => exact ⟨j + 1, I, by omega, by go_num, rfl, RS, by omega, by first | rfl | trivial⟩
            case measure => simp [intOf]; omega
          · have RS := Lib.hid (hK.out.yes hjs (by rw [notEnd, u8_ne (d := 62) h62]))
            have hfew := RS.out.few
            have hez : (t.extract j (j + 1)).size = 1 := by rw [ByteArray.size_extract, htz]; omega
            go_wp2
            go_roundw
            case rel => exact ⟨j + 1, _, by omega, by go_num, rfl, RS, hfew, by first | rfl | trivial⟩
            case measure => simp [intOf]; omega
        · obtain rfl : j = m := by omega
          have hin := Kept.done (p := notEnd) (s := t) (B := I) (by rw [htz]; exact hK.out)
          have hno2 : 62 ∉ I.data.toList := by rw [hin]; simp [notEnd]
          obtain ⟨q1, q2, q3⟩ := three B I s HNO.out hno2
          clear hK hin hno2 hj
          have z1 : (⟨#[60]⟩ : ByteArray).size = 1 := rfl
          have z2 : (⟨#[62]⟩ : ByteArray).size = 1 := rfl
          have c1 := fun w9 => stamp_any (B ++ ⟨#[60]⟩ ++ I ++ ⟨#[62]⟩ ++ s) w9 (by rw [size_cat3, size_cat3, z1, z2]; omega)
          have c2 := fun w9 => stamp_any (B ++ ⟨#[62]⟩ ++ B) w9 (by rw [size_cat3, z2]; omega)
          have c3 := fun w9 => stamp_any (B ++ ⟨#[60]⟩ ++ I) w9 (by rw [size_cat3, z1]; omega)
          rw [q2] at c2
          rw [q3] at c3
          rw [q1] at c1
          by_cases hI0 : I.data.toList = []
          · rw [if_pos hI0] at c1
            have hIe : I.toList.isEmpty = true := by rw [Lib.toList_data, hI0]; rfl
            have C1 := Lib.hid c1
            have C2 := Lib.hid c2
            have C3 := Lib.hid c3
            clear c1 c2 c3 q1 q2 q3 hI0 z1 z2
            go_wp2_with fail
            refine (C1.out _).mono ?_
            rintro e w3 ⟨rfl, rfl⟩
            go_wp2_with fail
            refine (C2.out _).mono ?_
            rintro e w3 ⟨rfl, rfl⟩
            go_wp2_with fail
            refine (C3.out _).mono ?_
            rintro e w3 ⟨rfl, rfl⟩
            have c9 := HB1.out
            go_wp2
            go_ret
            exact ⟨rfl, c9⟩
          · rw [if_neg hI0] at c1
            have hIe : I.toList.isEmpty = false := by rw [Lib.toList_data]; cases h : I.data.toList with | nil => exact absurd h hI0 | cons a b => rfl
            have C1 := Lib.hid c1
            have C2 := Lib.hid c2
            have C3 := Lib.hid c3
            clear c1 c2 c3 q1 q2 q3 hI0 z1 z2
            go_wp2_with fail
            refine (C1.out _).mono ?_
            rintro e w3 ⟨rfl, rfl⟩
            go_wp2_with fail
            refine (C2.out _).mono ?_
            rintro e w3 ⟨rfl, rfl⟩
            go_wp2_with fail
            refine (C3.out _).mono ?_
            rintro e w3 ⟨rfl, rfl⟩
            have c9 := HB1.out
            go_wp2
            go_ret
            exact ⟨rfl, c9⟩
end Go.Proofs.YtjogdflhpciciaaDoor
