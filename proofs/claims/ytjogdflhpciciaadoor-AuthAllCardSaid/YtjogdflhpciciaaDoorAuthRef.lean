/- The reference of layer 5 walked: Plain, Login, Apop, Cram. -/
import Derived.Test.YtjogdflhpciciaaDoorAuth
import Derived.Test.YtjogdflhpciciaaDoorToBytes
import Derived.Test.YtjogdflhpciciaaDoorB64Ref
import Derived.Test.YtjogdflhpciciaaDoorB64RefTakeP
import Derived.Test.YtjogdflhpciciaaDoorDigestRefSum
import Derived.Test.YtjogdflhpciciaaDoorDigestRefHx
import Derived.Test.YtjogdflhpciciaaDoorHmacRefSum
namespace Go.Proofs.YtjogdflhpciciaaDoor
open Go.RowKit

theorem refLogin_any (s : ByteArray) (w : World) (hs : s.size ≤ 20000) :
    Calls Tryd.prog 16 #[.string s] w fun e w' => e = .returned (sv (B64.put s.data.toList)) ∧ Below w.heap.size w w' := by
  obtain ⟨w1, cap, hcv, hr, hb1⟩ := to_bytes w s (by unfold maxLen; omega)
  have HR := Lib.hid hr
  have HB := Lib.hid hb1
  clear hr hb1
  go_enter Tryd.func16, Tryd.ntmps16
  go_wp2_with fail
  refine (refPut_any _ s.data.toList w1 HR.out (by rw [← Lib.size_eq]; omega)).mono ?_
  rintro e w3 ⟨rfl, rfl⟩
  have c3 := HB.out
  clear hcv
  go_wp2
  go_ret
  exact ⟨rfl, c3⟩

theorem refPlain_any (a b : ByteArray) (w : World) (ha : a.size ≤ 20000) (hb : b.size ≤ 20000) :
    Calls Tryd.prog 14 #[.string a, .string b] w fun e w' => e = .returned (sv (B64.put (Au.plain a.data.toList b.data.toList))) ∧ Below w.heap.size w w' := by
  have hz : (⟨#[0]⟩ ++ a ++ ⟨#[0]⟩ ++ b : ByteArray).data.toList = Au.plain a.data.toList b.data.toList := by simp [Au.plain]
  have hl : (Au.plain a.data.toList b.data.toList).length ≤ 1000000 := by
    rw [Au.plain, List.cons_append, List.length_cons, List.length_append, List.length_cons, ← Lib.size_eq, ← Lib.size_eq]
    omega
  have hsz : (⟨#[0]⟩ ++ a ++ ⟨#[0]⟩ ++ b : ByteArray).size ≤ maxLen := by rw [Lib.size_eq, hz]; unfold maxLen; omega
  obtain ⟨w1, cap, hcv, hr, hb1⟩ := to_bytes w (⟨#[0]⟩ ++ a ++ ⟨#[0]⟩ ++ b) hsz
  rw [hz] at hr
  generalize hN : (⟨#[0]⟩ ++ a ++ ⟨#[0]⟩ ++ b : ByteArray).size = N at hcv hr
  have HR := Lib.hid hr
  have HB := Lib.hid hb1
  have HL := Lib.hid hl
  clear hr hb1 hz hsz hl hN
  go_enter Tryd.func14, Tryd.ntmps14
  go_wp2_with fail
  refine (refPut_any _ _ w1 HR.out (by have := HL.out; omega)).mono ?_
  rintro e w3 ⟨rfl, rfl⟩
  have c3 := HB.out
  clear hcv
  go_wp2
  go_ret
  exact ⟨rfl, c3⟩

set_option maxHeartbeats 1000000 in
theorem refApop_any (a b : ByteArray) (w : World) (ha : a.size ≤ 20000) (hb : b.size ≤ 20000) :
    Calls Tryd.prog 18 #[.string a, .string b] w fun e w' => e = .returned (sv (Md5.hex (Md5.sum (a.data.toList ++ b.data.toList)))) ∧ Below w.heap.size w w' := by
  obtain ⟨X, hX⟩ : ∃ X, X = a.data.toList ++ b.data.toList := ⟨_, rfl⟩
  have hz : (a ++ b : ByteArray).data.toList = X := by simp [hX]
  have hl : X.length ≤ 60000 := by
    rw [hX, List.length_append, ← Lib.size_eq, ← Lib.size_eq]
    omega
  rw [← hX]
  have hsz : (a ++ b : ByteArray).size ≤ maxLen := by rw [Lib.size_eq, hz]; unfold maxLen; omega
  obtain ⟨w1, cap, hcv, hr, hb1⟩ := to_bytes w (a ++ b) hsz
  rw [hz] at hr
  generalize hN : (a ++ b : ByteArray).size = N at hcv hr
  obtain ⟨I, hI⟩ : ∃ I, I = Md5.sum X := ⟨_, rfl⟩
  have hIl : I.length = 16 := by rw [hI, Md5.sum_len]
  obtain ⟨T, hT⟩ : ∃ T, T = I.map bv := ⟨_, rfl⟩
  have hTl : T.length = 16 := by rw [hT, List.length_map, hIl]
  have htv : av (Md5.sum X) = .agg T.toArray := by rw [hT, hI]
  have HTV := Lib.hid htv
  have HIT := Lib.hid (info16 hTl)
  have HONET := Lib.hid (show ∀ v ∈ T, v.oneCell' = true by rw [hT]; exact bv_cell _)
  have HTL := Lib.hid hTl
  have HT := Lib.hid hT
  have HI := Lib.hid hI
  have HILN := Lib.hid hIl
  have HR := Lib.hid hr
  have HB := Lib.hid hb1
  have HL := Lib.hid hl
  clear hr hb1 hz hsz hl hN hI hIl hT hTl htv hX
  go_enter Tryd.func18, Tryd.ntmps18
  go_wp2_with fail
  refine (refSum_any _ X w1 HR.out (by have := HL.out; omega)).mono ?_
  rintro e w3 ⟨rfl, hb3⟩
  rw [HTV.out]
  have HB3 := Lib.hid (HB.out.trans (hb3.mono HB.out.size))
  clear hb3 HB HR hcv
  go_wp2_with (refine wpList_store_at rfl 37 _ _ rfl w3.heap.size T rfl rfl 37 _ (heap_alloc_new w3 _) ?cb HIT.out HONET.out ?_)
  case cb => rw [HTL.out]; rfl
  intro w4 hg4 hgr4
  have b4 : Below w3.heap.size w3 w4 := ((Below.refl _ _).alloc (Nat.le_refl _) _).grown hgr4 (by simp) (fun k hk => by cases hk; exact Nat.le_refl _)
  have HB4 := Lib.hid (HB3.out.trans (b4.mono HB3.out.size))
  have hr4 : Rd w4 (.slice (some ⟨w3.heap.size, 0, none⟩) 16 16) (I.map bv) := Rd.row (by rw [← HT.out]; exact hg4.out) (by rw [HILN.out]) (by decide)
  obtain ⟨g7, hg7⟩ : ∃ g, g = w3.heap.size := ⟨_, rfl⟩
  rw [← hg7] at hr4 ⊢
  have HR4 := Lib.hid hr4
  clear hg4 hgr4 b4 hr4 hg7 HB3
  go_wp2_with fail
  refine (refHex_any _ I w4 HR4.out (by rw [HILN.out]; decide)).mono ?_
  rintro e w5 ⟨rfl, hb5⟩
  have c5 := HB4.out.trans (hb5.mono HB4.out.size)
  rw [HI.out]
  clear hb5
  go_wp2
  go_ret
  exact ⟨rfl, c5⟩

theorem refCram_no (u p s : ByteArray) (w : World) (hs : s.size ≤ 20000) (h : ∀ b, B64.put b ≠ s.data.toList) :
    Calls Tryd.prog 10 #[.string u, .string p, .string s] w fun e w' => e = .returned (.tuple #[.string ⟨#[]⟩, .bool false]) ∧ Below w.heap.size w w' := by
  have HTK := Lib.hid (refTake_no s w (by omega) h)
  clear h
  go_enter Tryd.func10, Tryd.ntmps10
  go_wp2_with fail
  refine HTK.out.mono ?_
  rintro e w1 ⟨rfl, hb1⟩
  clear HTK
  go_wp2
  go_ret2
  exact ⟨rfl, hb1⟩

set_option maxHeartbeats 1000000 in
theorem refCram_put (u p s : ByteArray) (b : List UInt8) (w : World) (hu : u.size ≤ 20000) (hp : p.size ≤ 20000) (hs : s.size ≤ 20000) (h : s.data.toList = B64.put b) :
    Calls Tryd.prog 10 #[.string u, .string p, .string s] w fun e w' => e = .returned (.tuple #[sv (B64.put (u.data.toList ++ 32 :: Md5.hex (Hm.sum p.data.toList b))), .bool true]) ∧ Below w.heap.size w w' := by
  have hbl : b.length ≤ 60000 := by
    have := congrArg List.length h
    rw [B64.put_len, ← Lib.size_eq] at this
    omega
  have HTK := Lib.hid (refTake_put s b w (by omega) h)
  obtain ⟨X, hX⟩ : ∃ X : ByteArray, X = ⟨(Md5.hex (Hm.sum p.data.toList b)).toArray⟩ := ⟨_, rfl⟩
  have eX : sv (Md5.hex (Hm.sum p.data.toList b)) = .string X := by rw [hX]; rfl
  have hXz : X.size = 32 := by rw [Lib.size_eq, hX]; simp [Md5.hex_len, Hm.sum_len]
  have hz : (u ++ ⟨#[32]⟩ ++ X : ByteArray).data.toList = u.data.toList ++ 32 :: Md5.hex (Hm.sum p.data.toList b) := by simp [hX]
  have hl : (u.data.toList ++ 32 :: Md5.hex (Hm.sum p.data.toList b)).length ≤ 1000000 := by
    rw [List.length_append, List.length_cons, Md5.hex_len, Hm.sum_len, ← Lib.size_eq]
    omega
  have hsz : (u ++ ⟨#[32]⟩ ++ X : ByteArray).size ≤ maxLen := by rw [Lib.size_eq, hz]; unfold maxLen; omega
  have EX := Lib.hid eX
  have HZ := Lib.hid hz
  have HL := Lib.hid hl
  have HSZ := Lib.hid hsz
  clear hX eX hz hl hsz h
  go_enter Tryd.func10, Tryd.ntmps10
  go_wp2_with fail
  refine HTK.out.mono ?_
  rintro e w1 ⟨vb, rfl, rb, hb1⟩
  clear HTK
  obtain ⟨w2, cp, hcv, rp, hb2⟩ := to_bytes w1 p (by unfold maxLen; omega)
  have HB2 := Lib.hid (hb1.trans (hb2.mono hb1.size))
  have rb2 := rb.below hb2
  clear hb1 hb2 rb
  go_wp2_with fail
  refine (rhex4_any _ p.data.toList vb b w2 rp rb2 (by rw [← Lib.size_eq]; omega) hbl).mono ?_
  rintro e w3 ⟨rfl, hb3⟩
  rw [EX.out]
  have HB3 := Lib.hid (HB2.out.trans (hb3.mono HB2.out.size))
  clear hb3 HB2 rp rb2 hcv
  obtain ⟨w4, c4, hcv, r4, hb4⟩ := to_bytes w3 (u ++ ⟨#[32]⟩ ++ X) HSZ.out
  rw [HZ.out] at r4
  have HB4 := Lib.hid (HB3.out.trans (hb4.mono HB3.out.size))
  generalize hN : (u ++ ⟨#[32]⟩ ++ X : ByteArray).size = N at hcv r4
  clear hb4 HB3 hN
  go_wp2_with fail
  refine (refPut_any _ _ w4 r4 (by have := HL.out; omega)).mono ?_
  rintro e w5 ⟨rfl, rfl⟩
  have c5 := HB4.out
  clear HB4 r4 hcv
  go_wp2
  go_ret2
  exact ⟨rfl, c5⟩
end Go.Proofs.YtjogdflhpciciaaDoor
