/- The law AuthBack walked. -/
import Derived.Test.YtjogdflhpciciaaDoorAuthLaw
import Derived.Test.YtjogdflhpciciaaDoorToBytes
namespace Go.Proofs.YtjogdflhpciciaaDoor
open Go.RowKit

theorem put_bang (l b : List UInt8) : B64.put b ≠ B64.put l ++ [33] := fun e => by
  have := congrArg List.length e
  rw [List.length_append, B64.put_len, B64.put_len, List.length_singleton] at this
  omega

set_option maxHeartbeats 2000000 in
theorem lawBackA (a0 a1 a2 : ByteArray) (w0 : a0.size ≤ maxLen) (w1 : a1.size ≤ maxLen) (w2 : a2.size ≤ maxLen) (w : World) (ht : TBL w) :
    Calls Tryd.prog 4 #[.string a0, .string a1, .string a2] w fun e w' => e = .returned (.bool true) ∧ Below w.heap.size w w' := by
  have hu0 := short5_le a0
  have hp0 := short5_le a1
  have hs0 := short5_le a2
  have hu := fun w => shortA_any a0 w w0
  have hp := fun w => shortA_any a1 w w1
  have hs := fun w => shortA_any a2 w w2
  generalize short5 a0 = u at hu0 hu
  generalize short5 a1 = p at hp0 hp
  generalize short5 a2 = s at hs0 hs
  obtain ⟨S1, hS1⟩ : ∃ S1 : ByteArray, S1.data.toList = B64.put (Au.plain u.data.toList p.data.toList) := ⟨⟨(B64.put (Au.plain u.data.toList p.data.toList)).toArray⟩, rfl⟩
  obtain ⟨S2, hS2⟩ : ∃ S2 : ByteArray, S2.data.toList = B64.put u.data.toList := ⟨⟨(B64.put u.data.toList).toArray⟩, rfl⟩
  obtain ⟨S3, hS3⟩ : ∃ S3 : ByteArray, S3.data.toList = B64.put s.data.toList := ⟨⟨(B64.put s.data.toList).toArray⟩, rfl⟩
  obtain ⟨D, hD⟩ : ∃ D, D = u.data.toList ++ 32 :: Md5.hex (Hm.sum p.data.toList s.data.toList) := ⟨_, rfl⟩
  obtain ⟨S4, hS4⟩ : ∃ S4 : ByteArray, S4.data.toList = B64.put D := ⟨⟨(B64.put D).toArray⟩, rfl⟩
  have hD4 : cramL u.data.toList p.data.toList s.data.toList = S4.data.toList := by rw [cramL, hS4, hD]
  have hDl : D.length = u.size + 33 := by rw [hD, List.length_append, List.length_cons, Md5.hex_len, Hm.sum_len, ← Lib.size_eq]
  have hDt : D.take (u.size + 1) = (u ++ ⟨#[32]⟩ : ByteArray).data.toList := by
    have h1 : u.data.toList.take (u.size + 1) = u.data.toList := List.take_of_length_le (by rw [← Lib.size_eq]; omega)
    rw [hD, List.take_append, h1, ← Lib.size_eq, show u.size + 1 - u.size = 1 by omega]
    simp
  have z1 : S1.size ≤ 1000 := by
    rw [Lib.size_eq, hS1, B64.put_len, Au.plain, List.cons_append, List.length_cons, List.length_append, List.length_cons, ← Lib.size_eq, ← Lib.size_eq]
    omega
  have z2 : S2.size ≤ 1000 := by rw [Lib.size_eq, hS2, B64.put_len, ← Lib.size_eq]; omega
  have z3 : S3.size ≤ 1000 := by rw [Lib.size_eq, hS3, B64.put_len, ← Lib.size_eq]; omega
  have z4 : S4.size ≤ 1000 := by rw [Lib.size_eq, hS4, B64.put_len, hDl]; omega
  have z5 : (S3 ++ ⟨#[33]⟩ : ByteArray).size ≤ 1001 := by rw [ByteArray.size_append']; show S3.size + 1 ≤ _; omega
  have n5 : ∀ b, B64.put b ≠ (S3 ++ ⟨#[33]⟩ : ByteArray).data.toList := fun b => by
    rw [show (S3 ++ ⟨#[33]⟩ : ByteArray).data.toList = S3.data.toList ++ [33] by simp, hS3]
    exact put_bang _ _
  have hpl := fun w => plain_any u p w (by omega) (by omega)
  rw [← hS1] at hpl
  have hlo := fun w => login_any u w (by omega)
  rw [← hS2] at hlo
  have hcr := fun w ht => cram_put u p S3 s.data.toList w (by omega) (by omega) (by omega) hS3 ht
  rw [hD4] at hcr
  have hno := fun w => cram_no u p (S3 ++ ⟨#[33]⟩) w (by omega) n5
  simp only [sv_ba] at hpl hlo hcr
  have ht1 := fun w => take_put S1 _ w (by omega) hS1
  have ht2 := fun w => take_put S2 _ w (by omega) hS2
  have ht4 := fun w => take_put S4 _ w (by omega) hS4
  have hP : sv (Au.plain u.data.toList p.data.toList) = .string (⟨#[0]⟩ ++ u ++ ⟨#[0]⟩ ++ p) := sv_eq (by simp [Au.plain])
  have hE : sv (u ++ ⟨#[32]⟩ : ByteArray).data.toList = .string (u ++ ⟨#[32]⟩) := sv_ba _
  have HU := Lib.hid hu
  have HP := Lib.hid hp
  have HS := Lib.hid hs
  have HPL := Lib.hid hpl
  have HLO := Lib.hid hlo
  have HCR := Lib.hid hcr
  have HNO := Lib.hid hno
  have HT1 := Lib.hid ht1
  have HT2 := Lib.hid ht2
  have HT4 := Lib.hid ht4
  have HPV := Lib.hid hP
  have HEV := Lib.hid hE
  have HDL := Lib.hid hDl
  have HDT := Lib.hid hDt
  have HTB := Lib.hid ht
  have HS3 := Lib.hid hS3
  clear hu hp hs hpl hlo hcr hno ht1 ht2 ht4 hP hE hDl hDt ht hS1 hS2 hS3 hS4 hD hD4 n5
  go_enter Tryd.func4, Tryd.ntmps4
  go_wp2_with fail
  refine (shownA_any _ HTB.out).mono ?_
  rintro e w1 ⟨rfl, hb1⟩
  have C1 := Lib.hid hb1
  clear hb1
  go_wp2_with fail
  refine (HU.out _).mono ?_
  rintro e w3 ⟨rfl, rfl⟩
  go_wp2_with fail
  refine (HP.out _).mono ?_
  rintro e w3 ⟨rfl, rfl⟩
  go_wp2_with fail
  refine (HS.out _).mono ?_
  rintro e w3 ⟨rfl, rfl⟩
  go_wp2_with fail
  refine (HPL.out _).mono ?_
  rintro e w2 ⟨rfl, hb⟩
  have C2 := Lib.hid (C1.out.trans (hb.mono C1.out.size))
  clear hb C1
  go_wp2_with fail
  refine (HT1.out _).mono ?_
  rintro e w3 ⟨va, rfl, ra, hb⟩
  have C3 := Lib.hid (C2.out.trans (hb.mono C2.out.size))
  clear hb C2
  go_wp2_with fail
  refine (HLO.out _).mono ?_
  rintro e w4 ⟨rfl, hb⟩
  have C4 := Lib.hid (C3.out.trans (hb.mono C3.out.size))
  have ra4 := ra.below hb
  clear hb C3 ra
  go_wp2_with fail
  refine (HT2.out _).mono ?_
  rintro e w5 ⟨vb, rfl, rb, hb⟩
  have C5 := Lib.hid (C4.out.trans (hb.mono C4.out.size))
  have ra5 := ra4.below hb
  clear hb C4 ra4
  obtain ⟨w6, c6, hcv, rs, hb⟩ := to_bytes w5 s (by unfold maxLen; omega)
  have C6 := Lib.hid (C5.out.trans (hb.mono C5.out.size))
  have ra6 := ra5.below hb
  have rb6 := rb.below hb
  clear hb C5 ra5 rb
  have hput := putb_any _ s.data.toList w6 rs (by rw [← Lib.size_eq]; omega)
  rw [← HS3.out, sv_ba] at hput
  clear rs
  go_wp2_with fail
  refine hput.mono ?_
  rintro e w7 ⟨rfl, hb⟩
  have C7 := Lib.hid (C6.out.trans (hb.mono C6.out.size))
  have ra7 := ra6.below hb
  have rb7 := rb6.below hb
  clear hb C6 ra6 rb6 hput hcv
  go_wp2_with fail
  refine (HCR.out _ (HTB.out.below C7.out)).mono ?_
  rintro e w8 ⟨rfl, hb⟩
  have C8 := Lib.hid (C7.out.trans (hb.mono C7.out.size))
  have ra8 := ra7.below hb
  have rb8 := rb7.below hb
  clear hb C7 ra7 rb7
  go_wp2_with fail
  refine (HT4.out _).mono ?_
  rintro e w9 ⟨vd, rfl, rd, hb⟩
  have C9 := Lib.hid (C8.out.trans (hb.mono C8.out.size))
  have ra9 := ra8.below hb
  have rb9 := rb8.below hb
  clear hb C8 ra8 rb8
  obtain ⟨w10, c10, hcv, rs, hb⟩ := to_bytes w9 s (by unfold maxLen; omega)
  have C10 := Lib.hid (C9.out.trans (hb.mono C9.out.size))
  have ra10 := ra9.below hb
  have rb10 := rb9.below hb
  have rd10 := rd.below hb
  clear hb C9 ra9 rb9 rd
  have hput := putb_any _ s.data.toList w10 rs (by rw [← Lib.size_eq]; omega)
  rw [← HS3.out, sv_ba] at hput
  clear rs
  go_wp2_with fail
  refine hput.mono ?_
  rintro e w11 ⟨rfl, hb⟩
  have C11 := Lib.hid (C10.out.trans (hb.mono C10.out.size))
  have ra11 := ra10.below hb
  have rb11 := rb10.below hb
  have rd11 := rd10.below hb
  clear hb C10 ra10 rb10 rd10 hput hcv
  go_wp2_with fail
  refine (HNO.out _).mono ?_
  rintro e w12 ⟨rfl, hb⟩
  have c12 := C11.out.trans (hb.mono C11.out.size)
  have ra12 := ra11.below hb
  have rb12 := rb11.below hb
  have rd12 := rd11.below hb
  clear hb C11 ra11 rb11 rd11
  obtain ⟨ad, cd, rfl, hcd, _⟩ := rd12.form
  obtain ⟨n, hn⟩ : ∃ n, n = u.size := ⟨_, rfl⟩
  have hN : D.length = n + 33 := by rw [HDL.out, hn]
  rw [hN] at rd12 hcd ⊢
  have k1 := bytes_string ra12
  rw [HPV.out] at k1
  have k2 := bytes_string rb12
  rw [sv_ba] at k2
  have k3 := bytes_string (rd12.cut (m := n + 1) hN.symm (by omega))
  have hdt := HDT.out
  rw [← hn] at hdt hu0
  rw [hdt, HEV.out] at k3
  have hun := hn.symm
  clear ra12 rb12 rd12 hN hdt hn
  go_wp2
  go_ret
  exact ⟨rfl, c12⟩
end Go.Proofs.YtjogdflhpciciaaDoor
