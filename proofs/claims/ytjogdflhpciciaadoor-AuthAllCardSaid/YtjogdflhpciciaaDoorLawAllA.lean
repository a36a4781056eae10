/- The law AuthAll walked. -/
import Derived.Test.YtjogdflhpciciaaDoorAuthLaw
import Derived.Test.YtjogdflhpciciaaDoorAuthStamp
import Derived.Test.YtjogdflhpciciaaDoorAuthRef
import Derived.Test.YtjogdflhpciciaaDoorAuthRefStamp
namespace Go.Proofs.YtjogdflhpciciaaDoor
open Go.RowKit

theorem sv_str (l : List UInt8) : ∃ X : ByteArray, sv l = .string X := ⟨⟨l.toArray⟩, rfl⟩

theorem cram_both (u p s : ByteArray) (hu : u.size ≤ 200) (hp : p.size ≤ 200) (hs : s.size ≤ 200) : ∃ (X : ByteArray) (b : Bool),
    (∀ w, TBL w → Calls Tryd.prog 9 #[.string u, .string p, .string s] w fun e w' => e = .returned (.tuple #[.string X, .bool b]) ∧ Below w.heap.size w w') ∧
    ∀ w, Calls Tryd.prog 10 #[.string u, .string p, .string s] w fun e w' => e = .returned (.tuple #[.string X, .bool b]) ∧ Below w.heap.size w w' := by
  by_cases h : ∃ b, B64.put b = s.data.toList
  · obtain ⟨b, hb⟩ := h
    obtain ⟨X, hX⟩ := sv_str (cramL u.data.toList p.data.toList b)
    refine ⟨X, true, fun w ht => ?_, fun w => ?_⟩
    · rw [← hX]
      exact cram_put u p s b w (by omega) (by omega) (by omega) hb.symm ht
    · rw [← hX]
      exact refCram_put u p s b w (by omega) (by omega) (by omega) hb.symm
  · have h : ∀ b, B64.put b ≠ s.data.toList := fun b e => h ⟨b, e⟩
    exact ⟨⟨#[]⟩, false, fun w _ => cram_no u p s w (by omega) h, fun w => refCram_no u p s w (by omega) h⟩

set_option maxHeartbeats 2000000 in
theorem lawAllA (a0 a1 a2 : ByteArray) (w0 : a0.size ≤ maxLen) (w1 : a1.size ≤ maxLen) (w2 : a2.size ≤ maxLen) (w : World) (ht : TBL w) :
    Calls Tryd.prog 3 #[.string a0, .string a1, .string a2] w fun e w' => e = .returned (.bool true) ∧ Below w.heap.size w w' := by
  have hu0 := short5_le a0
  have hp0 := short5_le a1
  have hs0 := short5_le a2
  have hu := fun w => shortA_any a0 w w0
  have hp := fun w => shortA_any a1 w w1
  have hs := fun w => shortA_any a2 w w2
  generalize short5 a0 = u at hu0 hu
  generalize short5 a1 = p at hp0 hp
  generalize short5 a2 = s at hs0 hs
  obtain ⟨X, b, hX1, hX2⟩ := cram_both u p s hu0 hp0 hs0
  obtain ⟨Y, d, hY⟩ : ∃ Y d, stampV s.data.toList = .tuple #[.string Y, .bool d] := ⟨_, _, rfl⟩
  have hY1 := fun w => stamp_any s w (by omega)
  have hY2 := fun w => refStamp_any s w (by omega)
  rw [hY] at hY1 hY2
  obtain ⟨P, hP⟩ := sv_str (B64.put (Au.plain u.data.toList p.data.toList))
  have hP1 := fun w => plain_any u p w (by omega) (by omega)
  have hP2 := fun w => refPlain_any u p w (by omega) (by omega)
  rw [hP] at hP1 hP2
  obtain ⟨L, hL⟩ := sv_str (B64.put u.data.toList)
  have hL1 := fun w => login_any u w (by omega)
  have hL2 := fun w => refLogin_any u w (by omega)
  rw [hL] at hL1 hL2
  obtain ⟨Z, hZ⟩ := sv_str (Md5.hex (Md5.sum (s.data.toList ++ p.data.toList)))
  have hZ1 := fun w ht => apop_any s p w (by omega) (by omega) ht
  have hZ2 := fun w => refApop_any s p w (by omega) (by omega)
  rw [hZ] at hZ1 hZ2
  have HU := Lib.hid hu
  have HP := Lib.hid hp
  have HS := Lib.hid hs
  have HX1 := Lib.hid hX1
  have HX2 := Lib.hid hX2
  have HY1 := Lib.hid hY1
  have HY2 := Lib.hid hY2
  have HP1 := Lib.hid hP1
  have HP2 := Lib.hid hP2
  have HL1 := Lib.hid hL1
  have HL2 := Lib.hid hL2
  have HZ1 := Lib.hid hZ1
  have HZ2 := Lib.hid hZ2
  have HTB := Lib.hid ht
  clear hu hp hs hX1 hX2 hY hY1 hY2 hP hP1 hP2 hL hL1 hL2 hZ hZ1 hZ2 ht
  go_enter Tryd.func3, Tryd.ntmps3
  go_wp2_with fail
  refine (shownA_any _ HTB.out).mono ?_
  rintro e w1 ⟨rfl, hb1⟩
  have C1 := Lib.hid hb1
  clear hb1
  go_wp2_with fail
  refine (HU.out _).mono ?_
  rintro e w3 ⟨rfl, rfl⟩
  go_wp2_with fail
  refine (HP.out _).mono ?_
  rintro e w3 ⟨rfl, rfl⟩
  go_wp2_with fail
  refine (HS.out _).mono ?_
  rintro e w3 ⟨rfl, rfl⟩
  go_wp2_with fail
  refine (HX1.out _ (HTB.out.below C1.out)).mono ?_
  rintro e w2 ⟨rfl, hb⟩
  have C2 := Lib.hid (C1.out.trans (hb.mono C1.out.size))
  clear hb C1
  go_wp2_with fail
  refine (HX2.out _).mono ?_
  rintro e w3 ⟨rfl, hb⟩
  have C3 := Lib.hid (C2.out.trans (hb.mono C2.out.size))
  clear hb C2
  go_wp2_with fail
  refine (HY1.out _).mono ?_
  rintro e w4 ⟨rfl, rfl⟩
  go_wp2_with fail
  refine (HY2.out _).mono ?_
  rintro e w4 ⟨rfl, rfl⟩
  go_wp2_with fail
  refine (HP1.out _).mono ?_
  rintro e w4 ⟨rfl, hb⟩
  have C4 := Lib.hid (C3.out.trans (hb.mono C3.out.size))
  clear hb C3
  go_wp2_with fail
  refine (HP2.out _).mono ?_
  rintro e w5 ⟨rfl, hb⟩
  have C5 := Lib.hid (C4.out.trans (hb.mono C4.out.size))
  clear hb C4
  go_wp2_with fail
  refine (HL1.out _).mono ?_
  rintro e w6 ⟨rfl, hb⟩
  have C6 := Lib.hid (C5.out.trans (hb.mono C5.out.size))
  clear hb C5
  go_wp2_with fail
  refine (HL2.out _).mono ?_
  rintro e w7 ⟨rfl, hb⟩
  have C7 := Lib.hid (C6.out.trans (hb.mono C6.out.size))
  clear hb C6
  go_wp2_with fail
  refine (HZ1.out _ (HTB.out.below C7.out)).mono ?_
  rintro e w8 ⟨rfl, hb⟩
  have C8 := Lib.hid (C7.out.trans (hb.mono C7.out.size))
  clear hb C7
  go_wp2_with fail
  refine (HZ2.out _).mono ?_
  rintro e w9 ⟨rfl, hb⟩
  have c9 := C8.out.trans (hb.mono C8.out.size)
  clear hb C8
  go_wp2
  go_ret
  exact ⟨rfl, c9⟩
end Go.Proofs.YtjogdflhpciciaaDoor
