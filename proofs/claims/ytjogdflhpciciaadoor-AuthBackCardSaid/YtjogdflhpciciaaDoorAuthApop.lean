/- auth.Apop, auth.Cram walked. -/
import Derived.Test.YtjogdflhpciciaaDoorAuthSay
import Derived.Test.YtjogdflhpciciaaDoorB64TakeP
import Derived.Test.YtjogdflhpciciaaDoorDigestHex
import Derived.Test.YtjogdflhpciciaaDoorDigestSum
import Derived.Test.YtjogdflhpciciaaDoorHmacSum
namespace Go.Proofs.YtjogdflhpciciaaDoor
open Go.RowKit

set_option maxHeartbeats 1000000 in
theorem apop_any (a b : ByteArray) (w : World) (ha : a.size ≤ 100000) (hb : b.size ≤ 100000) (ht : TBL w) :
    Calls Tryd.prog 17 #[.string a, .string b] w fun e w' => e = .returned (sv (Md5.hex (Md5.sum (a.data.toList ++ b.data.toList)))) ∧ Below w.heap.size w w' := by
  obtain ⟨X, hX⟩ : ∃ X, X = a.data.toList ++ b.data.toList := ⟨_, rfl⟩
  have hg : glue [a, b] = X := by simp [glue, hX]
  have hl : X.length ≤ 1000000 := by
    rw [hX, List.length_append, ← Lib.size_eq, ← Lib.size_eq]
    omega
  rw [← hX]
  have hb1 : Below w.heap.size w (w.alloc (.cells #[.string a, .string b] 9)) := (Below.refl _ _).alloc (Nat.le_refl _) _
  have hr1 : Rd (w.alloc (.cells #[.string a, .string b] 9)) (.slice (some ⟨w.heap.size, 0, none⟩) 2 2) ([a, b].map Value.string) := Rd.texts w [a, b] _ _ 2 rfl (by decide)
  obtain ⟨I, hI⟩ : ∃ I, I = Md5.sum X := ⟨_, rfl⟩
  have hIl : I.length = 16 := by rw [hI, Md5.sum_len]
  obtain ⟨T, hT⟩ : ∃ T, T = I.map bv := ⟨_, rfl⟩
  have hTl : T.length = 16 := by rw [hT, List.length_map, hIl]
  have htv : av (Md5.sum X) = .agg T.toArray := by rw [hT, hI]
  have HTV := Lib.hid htv
  have HIT := Lib.hid (info16 hTl)
  have HONET := Lib.hid (show ∀ v ∈ T, v.oneCell' = true by rw [hT]; exact bv_cell _)
  have HTL := Lib.hid hTl
  have HT := Lib.hid hT
  have HI := Lib.hid hI
  have HILN := Lib.hid hIl
  have HG := Lib.hid hg
  have HL := Lib.hid hl
  have HB1 := Lib.hid hb1
  have HR1 := Lib.hid hr1
  have HTB := Lib.hid ht
  clear hI hIl hT hTl htv hg hl hb1 hr1 hX ht
  go_enter Tryd.func17, Tryd.ntmps17
  go_wp2_with fail
  refine (joined_any _ [a, b] _ HR1.out (by rw [HG.out]; have := HL.out; omega) (by simp)).mono ?_
  rintro e w2 ⟨v2, rfl, hr2, hb2⟩
  have HB2 := Lib.hid (HB1.out.trans (hb2.mono HB1.out.size))
  rw [HG.out] at hr2
  clear hb2 HB1 HR1
  go_wp2_with fail
  refine (sum_any v2 X w2 hr2 (by have := HL.out; omega) (HTB.out.below HB2.out)).mono ?_
  rintro e w3 ⟨rfl, hb3⟩
  rw [HTV.out]
  have HB3 := Lib.hid (HB2.out.trans (hb3.mono HB2.out.size))
  clear hb3 HB2 hr2
  go_wp2_with (refine wpList_store_at rfl 37 _ _ rfl w3.heap.size T rfl rfl 37 _ (heap_alloc_new w3 _) ?cb HIT.out HONET.out ?_)
  case cb => rw [HTL.out]; rfl
  intro w4 hg4 hgr4
  have b4 : Below w3.heap.size w3 w4 := ((Below.refl _ _).alloc (Nat.le_refl _) _).grown hgr4 (by simp) (fun k hk => by cases hk; exact Nat.le_refl _)
  have HB4 := Lib.hid (HB3.out.trans (b4.mono HB3.out.size))
  have hr4 : Rd w4 (.slice (some ⟨w3.heap.size, 0, none⟩) 16 16) (I.map bv) := Rd.row (by rw [← HT.out]; exact hg4.out) (by rw [HILN.out]) (by decide)
  obtain ⟨g7, hg7⟩ : ∃ g, g = w3.heap.size := ⟨_, rfl⟩
  rw [← hg7] at hr4 ⊢
  have HR4 := Lib.hid hr4
  clear hg4 hgr4 b4 hr4 hg7 HB3
  go_wp2_with fail
  refine (hexb_any _ I w4 HR4.out (by rw [HILN.out]; decide)).mono ?_
  rintro e w5 ⟨rfl, hb5⟩
  have c5 := HB4.out.trans (hb5.mono HB4.out.size)
  rw [HI.out]
  clear hb5
  go_wp2
  go_ret
  exact ⟨rfl, c5⟩

/-- What Cram answers of a challenge that is letters of these bytes. -/
def cramL (u p b : List UInt8) : List UInt8 := B64.put (u ++ 32 :: Md5.hex (Hm.sum p b))

theorem cram_put (u p s : ByteArray) (b : List UInt8) (w : World) (hu : u.size ≤ 100000) (hp : p.size ≤ 100000) (hs : s.size ≤ 100000) (h : s.data.toList = B64.put b) (ht : TBL w) :
    Calls Tryd.prog 9 #[.string u, .string p, .string s] w fun e w' => e = .returned (.tuple #[sv (cramL u.data.toList p.data.toList b), .bool true]) ∧ Below w.heap.size w w' := by
  have hbl : b.length ≤ 1000000 := by
    have := congrArg List.length h
    rw [B64.put_len, ← Lib.size_eq] at this
    omega
  have HTK := Lib.hid (take_put s b w (by omega) h)
  have hg : glue [p] = p.data.toList := by simp [glue]
  have hgl : (glue [p]).length ≤ 1000000 := by rw [hg, ← Lib.size_eq]; omega
  have hr1 := fun w : World => Rd.texts w [p] 9 (0, 0) 1 rfl (by decide)
  obtain ⟨X, hX⟩ : ∃ X : ByteArray, X = ⟨(Md5.hex (Hm.sum p.data.toList b)).toArray⟩ := ⟨_, rfl⟩
  have eX : sv (Md5.hex (Hm.sum p.data.toList b)) = .string X := by rw [hX]; rfl
  have hg2 : glue [u, ⟨#[32]⟩, X] = u.data.toList ++ 32 :: Md5.hex (Hm.sum p.data.toList b) := by simp [glue, hX]
  have hgl2 : (u.data.toList ++ 32 :: Md5.hex (Hm.sum p.data.toList b)).length ≤ 1000000 := by
    rw [List.length_append, List.length_cons, Md5.hex_len, Hm.sum_len, ← Lib.size_eq]
    omega
  have hr2 := fun w : World => Rd.texts w [u, ⟨#[32]⟩, X] 9 (0, 0) 3 rfl (by decide)
  have HG := Lib.hid hg
  have HGL := Lib.hid hgl
  have HR1 := Lib.hid hr1
  have EX := Lib.hid eX
  have HG2 := Lib.hid hg2
  have HGL2 := Lib.hid hgl2
  have HR2 := Lib.hid hr2
  have HTB := Lib.hid ht
  clear hg hgl hr1 hX eX hg2 hgl2 hr2 ht h
  go_enter Tryd.func9, Tryd.ntmps9
  go_wp2_with fail
  refine HTK.out.mono ?_
  rintro e w1 ⟨vb, rfl, rb, hb1⟩
  have HB1 := Lib.hid hb1
  clear hb1 HTK
  have ba : Below w1.heap.size w1 (w1.alloc (.cells #[.string p] 9)) := (Below.refl _ _).alloc (Nat.le_refl _) _
  have RB := Lib.hid (rb.below ba)
  have HBA := Lib.hid (HB1.out.trans (ba.mono HB1.out.size))
  clear ba rb
  go_wp2_with fail
  refine (joined_any _ [p] _ (HR1.out w1) (by have := HGL.out; omega) (by simp)).mono ?_
  rintro e w2 ⟨v2, rfl, hr2, hb2⟩
  have HB2 := Lib.hid (HBA.out.trans (hb2.mono HBA.out.size))
  rw [HG.out] at hr2
  have rb2 := RB.out.below hb2
  clear hb2 HB1 HBA RB HR1
  go_wp2_with fail
  refine (hhex_any v2 p.data.toList vb b w2 hr2 rb2 (by rw [← Lib.size_eq]; omega) hbl (HTB.out.below HB2.out)).mono ?_
  rintro e w3 ⟨rfl, hb3⟩
  rw [EX.out]
  have HB3 := Lib.hid (HB2.out.trans (hb3.mono HB2.out.size))
  clear hb3 HB2 hr2 rb2
  have ba : Below w3.heap.size w3 (w3.alloc (.cells #[.string u, .string ⟨#[32]⟩, .string X] 9)) := (Below.refl _ _).alloc (Nat.le_refl _) _
  have HBA := Lib.hid (HB3.out.trans (ba.mono HB3.out.size))
  clear ba HB3
  go_wp2_with fail
  refine (joined_any _ [u, ⟨#[32]⟩, X] _ (HR2.out w3) (by rw [HG2.out]; have := HGL2.out; omega) (by simp)).mono ?_
  rintro e w4 ⟨v4, rfl, hr4, hb4⟩
  have HB4 := Lib.hid (HBA.out.trans (hb4.mono HBA.out.size))
  rw [HG2.out] at hr4
  clear hb4 HBA HR2
  go_wp2_with fail
  refine (putb_any v4 _ w4 hr4 (by have := HGL2.out; omega)).mono ?_
  rintro e w5 ⟨rfl, hb5⟩
  have c5 := HB4.out.trans (hb5.mono HB4.out.size)
  clear hb5 HB4 hr4
  go_wp2
  go_ret2
  exact ⟨rfl, c5⟩

theorem cram_no (u p s : ByteArray) (w : World) (hs : s.size ≤ 100000) (h : ∀ b, B64.put b ≠ s.data.toList) :
    Calls Tryd.prog 9 #[.string u, .string p, .string s] w fun e w' => e = .returned (.tuple #[.string ⟨#[]⟩, .bool false]) ∧ Below w.heap.size w w' := by
  have HTK := Lib.hid (take_no s w (by omega) h)
  clear h
  go_enter Tryd.func9, Tryd.ntmps9
  go_wp2_with fail
  refine HTK.out.mono ?_
  rintro e w1 ⟨rfl, hb1⟩
  clear HTK
  go_wp2
  go_ret2
  exact ⟨rfl, hb1⟩
end Go.Proofs.YtjogdflhpciciaaDoor
