/- auth.Stamp walked. -/
import Derived.Test.YtjogdflhpciciaaDoorRd
import Derived.Test.YtjogdflhpciciaaDoorAuth
import Derived.Test.YtjogdflhpciciaaDoorShelf
namespace Go.Proofs.YtjogdflhpciciaaDoor
open Go.RowKit

namespace Au
/-- Where the first c is, in the library's words, and in these. -/
theorem index_at (c : UInt8) : ∀ l : List UInt8, (Lib.indexByte l c = -1 ∧ behind c l = none) ∨ ∃ k : Nat, k < l.length ∧ Lib.indexByte l c = (k : Int) ∧ upTo c l = l.take k ∧ behind c l = some (l.drop (k + 1)) ∧ l.drop k = c :: l.drop (k + 1)
  | [] => .inl ⟨rfl, rfl⟩
  | b :: l => by
    rw [Lib.indexByte, behind, upTo]
    by_cases hb : b = c
    · subst hb
      exact .inr ⟨0, by simp, by simp, by simp, by simp, rfl⟩
    · have e : (b == c) = false := by simpa using hb
      rw [e, if_neg hb, if_neg hb]
      rcases index_at c l with ⟨h1, h2⟩ | ⟨k, h1, h2, h3, h4, h5⟩
      · exact .inl ⟨by simp [h1], h2⟩
      · refine .inr ⟨k + 1, by simp; omega, ?_, by rw [h3]; rfl, by rw [h4]; rfl, by simpa using h5⟩
        rw [h2]
        have : ((k : Int) == -1) = false := by simp
        simp [this]

/-- How the code finds a stamp. -/
theorem stamp_at (l : List UInt8) : (Lib.indexByte l 60 = -1 ∧ stamp l = none) ∨ ∃ k : Nat, k < l.length ∧ Lib.indexByte l 60 = (k : Int) ∧
    ((Lib.indexByte (l.drop k) 62 = -1 ∧ stamp l = none) ∨ ∃ m : Nat, m < l.length - k ∧ Lib.indexByte (l.drop k) 62 = (m : Int) ∧ stamp l = if m < 2 then none else some ((l.drop k).take (m + 1))) := by
  rcases index_at 60 l with ⟨h1, h2⟩ | ⟨k, h1, h2, h3, h4, h5⟩
  · exact .inl ⟨h1, by rw [stamp, h2]⟩
  · refine .inr ⟨k, h1, h2, ?_⟩
    have hl : (l.drop (k + 1)).length = l.length - (k + 1) := List.length_drop
    rw [stamp, h4, h5]
    simp only
    generalize l.drop (k + 1) = r at hl ⊢
    have hi : Lib.indexByte (60 :: r) 62 = if Lib.indexByte r 62 == -1 then -1 else Lib.indexByte r 62 + 1 := by rw [Lib.indexByte]; rfl
    rw [hi]
    rcases index_at 62 r with ⟨g1, g2⟩ | ⟨j, g1, g2, g3, g4, g5⟩
    · exact .inl ⟨by rw [g1]; rfl, by rw [g2]⟩
    · have e : ((j : Int) == -1) = false := by simp
      refine .inr ⟨j + 1, by omega, by simp [g2, e], ?_⟩
      rw [g4]
      simp only
      rw [g3]
      by_cases hj : j = 0
      · subst hj
        simp
      · have hne : r.take j ≠ [] := fun e => by
          have := congrArg List.length e
          rw [List.length_take, List.length_nil] at this
          omega
        rw [if_neg hne, if_neg (by omega), List.take_succ_cons]
        congr 1
        have hx : r[j]? = some 62 := by
          have := congrArg (fun x => x[0]?) g5
          simpa using this
        rw [List.take_add_one, hx]
        rfl
end Au

/-- What Stamp answers. -/
def stampV (l : List UInt8) : Value := .tuple #[sv ((Au.stamp l).getD []), .bool (Au.stamp l).isSome]
theorem stampV_none {l : List UInt8} (h : Au.stamp l = none) : stampV l = .tuple #[.string ⟨#[]⟩, .bool false] := by rw [stampV, h]; rfl
theorem stampV_some {l x : List UInt8} (h : Au.stamp l = some x) : stampV l = .tuple #[sv x, .bool true] := by rw [stampV, h]; rfl

theorem stamp_any (s : ByteArray) (w : World) (hs : s.size ≤ 1048576) :
    Calls Tryd.prog 11 #[.string s] w fun e w' => e = .returned (stampV s.data.toList) ∧ w = w' := by
  have hl := Lib.size_eq s
  have hi := fun w => Tryd.strings_IndexByte s 60 w
  rw [show (60 : Int).toNat.toUInt8 = 60 from rfl] at hi
  rcases Au.stamp_at s.data.toList with ⟨h1, h2⟩ | ⟨k, h1, h2, h3⟩
  · rw [stampV_none h2]
    rw [h1] at hi
    have HI := Lib.hid hi
    clear hi h1 h2 hl
    go_enter Tryd.func11, Tryd.ntmps11
    go_wp2_with fail
    refine (HI.out _).mono ?_
    rintro e w' ⟨rfl, rfl⟩
    go_wp2
    go_ret2
    exact ⟨rfl, rfl⟩
  · rw [h2] at hi
    rw [← hl] at h1 h3
    obtain ⟨n, hn⟩ : ∃ n, n = s.size := ⟨_, rfl⟩
    have hj := fun w => Tryd.strings_IndexByte (s.extract k n) 62 w
    have he : (s.extract k n).data.toList = s.data.toList.drop k := by
      rw [Lib.extract_eq]
      show (s.data.toList.drop k).take (n - k) = _
      exact List.take_of_length_le (by rw [List.length_drop, ← hl, hn]; exact Nat.le_refl _)
    rw [show (62 : Int).toNat.toUInt8 = 62 from rfl, he] at hj
    rw [← hn] at h1 h3 hs
    have hz : (s.extract k n).size = n - k := by rw [ByteArray.size_extract, ← hn]; omega
    have HI := Lib.hid hi
    have HN := Lib.hid hn
    have hsz := hn.symm
    rcases h3 with ⟨g1, g2⟩ | ⟨m, g1, g2, g3⟩
    · rw [stampV_none g2]
      rw [g1] at hj
      have HJ := Lib.hid hj
      clear hi hj h2 g1 g2 hl he hn
      go_enter Tryd.func11, Tryd.ntmps11
      go_wp2_with fail
      refine (HI.out _).mono ?_
      rintro e w' ⟨rfl, rfl⟩
      go_wp2_with fail
      refine (HJ.out _).mono ?_
      rintro e w' ⟨rfl, rfl⟩
      go_wp2
      go_ret2
      exact ⟨rfl, rfl⟩
    · rw [g2] at hj
      have HJ := Lib.hid hj
      by_cases hm : m < 2
      · rw [if_pos hm] at g3
        rw [stampV_none g3]
        clear hi hj h2 g2 g3 hl he hn
        go_enter Tryd.func11, Tryd.ntmps11
        go_wp2_with fail
        refine (HI.out _).mono ?_
        rintro e w' ⟨rfl, rfl⟩
        go_wp2_with fail
        refine (HJ.out _).mono ?_
        rintro e w' ⟨rfl, rfl⟩
        go_wp2
        go_ret2
        exact ⟨rfl, rfl⟩
      · rw [if_neg hm] at g3
        have hx : sv ((s.data.toList.drop k).take (m + 1)) = .string ((s.extract k n).extract 0 (m + 1)) := by
          rw [Lib.extract_eq (s.extract k n), he]
          rfl
        rw [stampV_some g3, hx]
        clear hi hj h2 g2 g3 hl he hn hx
        go_enter Tryd.func11, Tryd.ntmps11
        go_wp2_with fail
        refine (HI.out _).mono ?_
        rintro e w' ⟨rfl, rfl⟩
        go_wp2_with fail
        refine (HJ.out _).mono ?_
        rintro e w' ⟨rfl, rfl⟩
        go_wp2
        go_ret2
        exact ⟨rfl, rfl⟩
end Go.Proofs.YtjogdflhpciciaaDoor
