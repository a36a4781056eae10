/- The law AuthFirst walked. -/
import Derived.Test.YtjogdflhpciciaaDoorAuthLaw
import Derived.Test.YtjogdflhpciciaaDoorAuthStamp
namespace Go.Proofs.YtjogdflhpciciaaDoor
open Go.RowKit

/-- A stamp is not longer than the greeting. -/
theorem stamp_len {l x : List UInt8} (h : Au.stamp l = some x) : x.length ≤ l.length := by
  unfold Au.stamp at h
  cases h1 : Au.behind 60 l with
  | none => rw [h1] at h; cases h
  | some r =>
    rw [h1] at h
    simp only at h
    have e1 := congrArg List.length (Au.split h1)
    cases h2 : Au.behind 62 r with
    | none => rw [h2] at h; cases h
    | some s =>
      rw [h2] at h
      simp only at h
      have e2 := congrArg List.length (Au.split h2)
      split at h
      · cases h
      · rw [← Option.some.inj h]
        simp only [List.length_append, List.length_cons, List.length_nil] at e1 e2 ⊢
        omega

/-- A stamp as a text: at least three bytes, the first and the last one. -/
theorem stamp_text {l x : List UInt8} (h : Au.stamp l = some x) : ∃ (X : ByteArray) (m : Nat), sv x = .string X ∧ X.size = m + 1 ∧ 2 ≤ m ∧ m ≤ l.length ∧ X.data.toList[0]? = some 60 ∧ X.data.toList[m]? = some 62 := by
  have hl := stamp_len h
  obtain ⟨i, h1, _, rfl⟩ := Au.stamp_some h
  have hp := List.length_pos_iff.2 h1
  have hz : (60 :: i ++ [62]).length = i.length + 1 + 1 := by simp
  rw [hz] at hl
  refine ⟨⟨(60 :: i ++ [62]).toArray⟩, i.length + 1, rfl, by rw [Lib.size_eq]; exact hz, by omega, by omega, rfl, ?_⟩
  show (60 :: i ++ [62])[i.length + 1]? = some 62
  rw [List.getElem?_append_right (by simp)]
  simp

theorem at_byte {s : ByteArray} {k : Nat} {c : UInt8} (h : s.data.toList[k]? = some c) (hk : k < s.size) : (s[k]'hk).toNat = c.toNat := by
  rw [byte_at, List.getD_eq_getElem?_getD, h]
  rfl

set_option maxHeartbeats 1000000 in
theorem lawFirst (a0 a1 : ByteArray) (w0 : a0.size ≤ maxLen) (w1 : a1.size ≤ maxLen) (w : World) (ht : TBL w) :
    Calls Tryd.prog 6 #[.string a0, .string a1] w fun e w' => e = .returned (.bool true) ∧ Below w.heap.size w w' := by
  have hs0 := short5_le a0
  have ht0 := short5_le a1
  have hs := fun w => shortA_any a0 w w0
  have hts := fun w => shortA_any a1 w w1
  generalize short5 a0 = s at hs0 hs
  generalize short5 a1 = t at ht0 hts
  have HS := Lib.hid hs
  have HT := Lib.hid hts
  have HTB := Lib.hid ht
  clear hs hts ht
  have c1 := fun w => stamp_any s w (by omega)
  have c2 := fun w => stamp_any (s ++ t) w (by rw [ByteArray.size_append']; omega)
  have hcat : (s ++ t : ByteArray).data.toList = s.data.toList ++ t.data.toList := by simp
  rw [hcat] at c2
  cases h1 : Au.stamp s.data.toList with
  | some x =>
    have h2 := Au.stamp_app t.data.toList h1
    obtain ⟨X, m, hX, hXs, hm, hm2, b0, b1⟩ := stamp_text h1
    rw [← Lib.size_eq] at hm2
    rw [stampV_some h1, hX] at c1
    rw [stampV_some h2, hX] at c2
    have k0 : 0 < X.size := by omega
    have k1 : m < X.size := by omega
    have e0 : (X[0]'k0).toNat = 60 := at_byte b0 k0
    have e1 : (X[m]'k1).toNat = 62 := at_byte b1 k1
    have hge : decide ((3 : Int) ≤ (m : Int) + 1) = true := decide_eq_true (by omega)
    have C1 := Lib.hid c1
    have C2 := Lib.hid c2
    clear c1 c2 h1 h2 hX b0 b1 hcat
    go_enter Tryd.func6, Tryd.ntmps6
    go_wp2_with fail
    refine (shownA_any _ HTB.out).mono ?_
    rintro e w2 ⟨rfl, hb1⟩
    go_wp2_with fail
    refine (HS.out _).mono ?_
    rintro e w3 ⟨rfl, rfl⟩
    go_wp2_with fail
    refine (HT.out _).mono ?_
    rintro e w3 ⟨rfl, rfl⟩
    go_wp2_with fail
    refine (C1.out _).mono ?_
    rintro e w3 ⟨rfl, rfl⟩
    go_wp2_with fail
    refine (C2.out _).mono ?_
    rintro e w3 ⟨rfl, rfl⟩
    go_wp2
    go_ret
    exact ⟨rfl, hb1⟩
  | none =>
    rw [stampV_none h1] at c1
    have C1 := Lib.hid c1
    clear c1 h1 hcat
    cases h2 : Au.stamp (s.data.toList ++ t.data.toList) with
    | none =>
      rw [stampV_none h2] at c2
      have C2 := Lib.hid c2
      clear c2 h2
      go_enter Tryd.func6, Tryd.ntmps6
      go_wp2_with fail
      refine (shownA_any _ HTB.out).mono ?_
      rintro e w2 ⟨rfl, hb1⟩
      go_wp2_with fail
      refine (HS.out _).mono ?_
      rintro e w3 ⟨rfl, rfl⟩
      go_wp2_with fail
      refine (HT.out _).mono ?_
      rintro e w3 ⟨rfl, rfl⟩
      go_wp2_with fail
      refine (C1.out _).mono ?_
      rintro e w3 ⟨rfl, rfl⟩
      go_wp2_with fail
      refine (C2.out _).mono ?_
      rintro e w3 ⟨rfl, rfl⟩
      go_wp2
      go_ret
      exact ⟨rfl, hb1⟩
    | some y =>
      obtain ⟨Y, m, hY, hYs, hm, hm2, _, _⟩ := stamp_text h2
      rw [List.length_append, ← Lib.size_eq, ← Lib.size_eq] at hm2
      have hge : decide ((3 : Int) ≤ (m : Int) + 1) = true := decide_eq_true (by omega)
      rw [stampV_some h2, hY] at c2
      have C2 := Lib.hid c2
      clear c2 h2 hY
      go_enter Tryd.func6, Tryd.ntmps6
      go_wp2_with fail
      refine (shownA_any _ HTB.out).mono ?_
      rintro e w2 ⟨rfl, hb1⟩
      go_wp2_with fail
      refine (HS.out _).mono ?_
      rintro e w3 ⟨rfl, rfl⟩
      go_wp2_with fail
      refine (HT.out _).mono ?_
      rintro e w3 ⟨rfl, rfl⟩
      go_wp2_with fail
      refine (C1.out _).mono ?_
      rintro e w3 ⟨rfl, rfl⟩
      go_wp2_with fail
      refine (C2.out _).mono ?_
      rintro e w3 ⟨rfl, rfl⟩
      go_wp2
      go_ret
      exact ⟨rfl, hb1⟩
end Go.Proofs.YtjogdflhpciciaaDoor
