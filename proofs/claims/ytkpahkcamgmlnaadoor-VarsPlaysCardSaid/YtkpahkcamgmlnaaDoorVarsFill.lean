/- vars' filled walked, by whatever state its function keeps (layer 16). Laid by wip/tools/gen_vfill.py. -/
import Derived.Test.YtkpahkcamgmlnaaDoorVarsFl
import Derived.Test.YtkpahkcamgmlnaaDoorAppendT
import Derived.Test.YtkpahkcamgmlnaaDoorOwnSet
import Derived.Test.YtkpahkcamgmlnaaDoorBits
import Derived.BigQuiet
import Derived.Deep.QuietTactic
namespace Go.Proofs.YtkpahkcamgmlnaaDoor
open Go.RowKit

/-- What is kept while a text is filled: J names asked, the row of bytes, its bytes. -/
structure Keeps (B : Nat) (J : List (List UInt8) → Value → List UInt8 → World → Prop) : Prop where
  own : ∀ {a v xs W}, J a v xs W → W.ownsRow B 5 1 v xs.length (xs.map bv) ∧ B ≤ W.heap.size
  grow : ∀ {a v v' xs W W'} (ys : List UInt8), J a v xs W → W'.ownsRow B 5 1 v' (xs.length + ys.length) (xs.map bv ++ ys.map bv) → W.grownBy W' v.ownBlock → J a v' (xs ++ ys) W'
  below : ∀ {a v xs W W'}, J a v xs W → Below W.heap.size W W' → J a v xs W'
def lenS : Value → Nat | .string s => s.size | _ => 0
theorem hp1 (b : List UInt8) : Lib.hasPrefix b [36] = decide (b.head? = some 36) := by
  cases b with
  | nil => rfl
  | cons c r =>
    by_cases h : c = 36
    · subst h; rfl
    · have h1 : (c == 36) = false := by simpa using h
      have h2 : ((36 : UInt8) == c) = false := by simpa using fun e => h e.symm
      simp [Lib.hasPrefix, h, h2, List.isPrefixOf]


set_option maxHeartbeats 4000000 in
theorem fillG_any (g : Nat) (J : List (List UInt8) → Value → List UInt8 → World → Prop) (val : List UInt8 → Option (List UInt8)) (w0 : World) (t : List UInt8) (hK : Keeps w0.heap.size J) (hJ : J [] (.slice none 0 0) [] w0) (ht : t.length ≤ 10000)
    (hval : ∀ n, ((val n).getD []).length ≤ 1000)
    (hcall : ∀ n a v xs W, J a v xs W → a.length ≤ 10000 → n.length ≤ 16777216 → Calls Tryd.prog 16 #[.pointer (some ⟨g, 0, none⟩), .string ⟨n.toArray⟩] W fun e w' => e = .returned (.tuple #[.string ⟨((val n).getD []).toArray⟩, .bool (val n).isSome]) ∧ J (a ++ [n]) v xs w') :
    Calls Tryd.prog 23 #[.string ⟨t.toArray⟩, .func (.func 16) #[.pointer (some ⟨g, 0, none⟩)] #[]] w0 fun e w' => ∃ a v xs, J a v xs w' ∧ e = .returned (.tuple #[.string ⟨(((Va.both val t).map (·.1)).getD []).toArray⟩, .bool (Va.both val t).isSome]) ∧ ∀ p, Va.both val t = some p → a = p.2 := by
  have HK := Lib.hid hK
  have HJ := Lib.hid hJ
  have HC := Lib.hid hcall
  have HV := Lib.hid hval
  have HS := Lib.hid (Va.St.start val t)
  clear hK hJ hcall hval
  go_enter Tryd.func23, Tryd.ntmps23
  go_wp2
  go_loopw [0, 6, 7, 8, 9, 10, 11, 12] (fun s0 s6 _ _ _ _ _ _ wr => ∃ (L N cap : Nat) (ao : Option Addr) (t1 xs : List UInt8) (a : List (List UInt8)), s0 = .string ⟨t1.toArray⟩ ∧ s6 = .slice ao N cap ∧ L = t1.length ∧ N + 1001 * L ≤ 10010000 ∧ a.length + L ≤ 10000 ∧ Hid (N = xs.length ∧ J a (.slice ao N cap) xs wr ∧ Va.St val t t1 xs a)) (fun s0 _ _ _ _ _ _ _ _ => lenS s0)
  case atStart =>
    exact ⟨t.length, 0, 0, none, t, [], [], rfl, rfl, rfl, by omega, by simpa using ht, Lib.hid ⟨rfl, HJ.out, HS.out⟩⟩
  case round =>
    obtain ⟨L, N, cap, ao, t1, xs, a, rfl, rfl, hL, hb, hal, HE⟩ := hrel
    have hz : (⟨t1.toArray⟩ : ByteArray).size = t1.length := rfl
    have hc := sCut_any t1 36 (by omega) wr
    rcases cut1_at 36 t1 with ⟨hno, hcut⟩ | ⟨k, hk, hno, hsp, hcut⟩
    · rw [hcut] at hc
      unfold sv at hc
      have HR := Lib.hid (HE.out.2.2.all hno)
      have HC1 := Lib.hid hc
      clear hno hcut hc
      go_wp2_with fail
      refine HC1.out.mono ?_
      rintro e w1 ⟨rfl, q1, hw1⟩
      have hb1 : Below wr.heap.size wr w1 := by rw [hw1]; exact ⟨rfl, rfl, rfl, Nat.le_refl _, fun _ _ => rfl⟩
      have HJ1 := Lib.hid (HK.out.below HE.out.2.1 hb1)
      have HO1 := Lib.hid (show w1.ownsRow w0.heap.size 5 1 (.slice ao N cap) N (xs.map bv) from by have := (HK.out.own HJ1.out).1; rw [← HE.out.1] at this; exact this)
      have HB1 := Lib.hid (HK.out.own HJ1.out).2
      clear hw1 hb1 HC1
      go_wp2_with (at_builtin; refine append_text rfl (.tmp 19) (.tmp 20) rfl rfl HO1.out ⟨t1.toArray⟩ rfl ?ca HB1.out ?_)
      case ca => rw [hz, ← hL]; omega
      intro v2 w2 ho2 hg2
      obtain ⟨ao2, cap2, rfl⟩ := own_form ho2
      have hrd := Rd.of_own ho2
      have HJ2 := Lib.hid (HK.out.grow t1 HJ1.out (by rw [← HE.out.1]; exact ho2) hg2)
      have hcv := bytes_string (l := xs ++ t1) (by rw [List.map_append]; exact hrd)
      unfold sv at hcv
      clear ho2 hg2 hrd HO1 HB1 HJ1 HE
      go_wp2
      go_ret2
      refine ⟨a, _, _, HJ2.out, ?_, ?_⟩
      · rw [HR.out]; rfl
      · intro p hp
        rw [HR.out] at hp
        cases hp
        rfl
    · have hc : Calls Tryd.prog 28 #[.string ⟨t1.toArray⟩, .string ⟨#[36]⟩] wr fun e w' => e = .returned (.tuple #[.string ⟨(t1.take k).toArray⟩, .string ⟨(t1.drop (k + 1)).toArray⟩, .bool true]) ∧ ∃ q, w' = wr.drewN q := by rw [hcut] at hc; exact hc
      obtain ⟨P, hP⟩ : ∃ P, P = t1.take k := ⟨_, rfl⟩
      obtain ⟨b, hbb⟩ : ∃ b, b = t1.drop (k + 1) := ⟨_, rfl⟩
      rw [← hP] at hc hno hsp
      rw [← hbb] at hc hsp
      have hlen := congrArg List.length hsp
      rw [List.length_append, List.length_cons, ← hL] at hlen
      have HS1 := HE.out.2.2
      rw [hsp] at HS1
      have HS2 := Lib.hid (HS1.plain hno)
      have HC1 := Lib.hid hc
      have hzp : (⟨P.toArray⟩ : ByteArray).size = P.length := rfl
      have hzb : (⟨b.toArray⟩ : ByteArray).size = b.length := rfl
      have HL := Lib.hid hL
      clear hno hcut hc hsp HS1 hP hbb hk hz hL
      go_wp2_with fail
      refine HC1.out.mono ?_
      rintro e w1 ⟨rfl, q1, hw1⟩
      have hb1 : Below wr.heap.size wr w1 := by rw [hw1]; exact ⟨rfl, rfl, rfl, Nat.le_refl _, fun _ _ => rfl⟩
      have HJ1 := Lib.hid (HK.out.below HE.out.2.1 hb1)
      have HO1 := Lib.hid (show w1.ownsRow w0.heap.size 5 1 (.slice ao N cap) N (xs.map bv) from by have := (HK.out.own HJ1.out).1; rw [← HE.out.1] at this; exact this)
      have HB1 := Lib.hid (HK.out.own HJ1.out).2
      clear hw1 hb1 HC1
      go_wp2_with (at_builtin; refine append_text rfl (.tmp 19) (.tmp 20) rfl rfl HO1.out ⟨P.toArray⟩ rfl ?ca HB1.out ?_)
      case ca => rw [hzp]; omega
      intro v2 w2 ho2 hg2
      obtain ⟨ao2, cap2, rfl⟩ := own_form ho2
      have HJ2 := Lib.hid (HK.out.grow P HJ1.out (by rw [← HE.out.1]; exact ho2) hg2)
      have HN2 := Lib.hid (show N + P.length = (xs ++ P).length by rw [List.length_append, HE.out.1])
      obtain ⟨N2, hN2⟩ : ∃ N2, N2 = N + P.length := ⟨_, rfl⟩
      rw [← hN2] at HJ2 HN2 ⊢
      have hb2 : N2 + 1001 * (b.length + 1) ≤ 10010000 := by omega
      have hbl : b.length + 1 ≤ L := by omega
      clear ho2 hg2 HO1 HB1 HJ1 HE hN2 hlen hb
      have hp := Tryd.strings_HasPrefix ⟨b.toArray⟩ ⟨#[36]⟩ w2
      rw [show (⟨b.toArray⟩ : ByteArray).data.toList = b from rfl, show (⟨#[36]⟩ : ByteArray).data.toList = [36] from rfl, hp1] at hp
      by_cases hd : b.head? = some 36
      · rw [decide_eq_true hd] at hp
        obtain ⟨b', rfl⟩ : ∃ b', b = 36 :: b' := by
          cases b with
          | nil => cases hd
          | cons c r =>
            obtain rfl : c = 36 := by simpa using hd
            exact ⟨r, rfl⟩
        have HP := Lib.hid hp
        have HS3 := Lib.hid HS2.out.two
        have hx1 : (⟨(36 :: b').toArray⟩ : ByteArray).extract 1 (b'.length + 1) = ⟨b'.toArray⟩ := by rw [ba_extract, show (36 :: b').take (b'.length + 1) = 36 :: b' from List.take_of_length_le (by simp)]; rfl
        obtain ⟨q, hq⟩ : ∃ q, q = 36 :: b' := ⟨_, rfl⟩
        have hzq : (⟨q.toArray⟩ : ByteArray).size = b'.length + 1 := by rw [hq]; rfl
        rw [← hq] at HP hx1 ⊢
        have hq1 : (1 : Int) ≤ (b'.length : Int) + 1 := by omega
        rw [List.length_cons] at hb2 hbl
        clear hp hd hzb hq HS2
        go_wp2_with fail
        refine HP.out.mono ?_
        rintro e w3 ⟨rfl, hw3⟩
        obtain rfl := hw3.symm
        have HO2 := Lib.hid (show w2.ownsRow w0.heap.size 5 1 (.slice ao2 N2 cap2) N2 ((xs ++ P).map bv) from by have := (HK.out.own HJ2.out).1; rw [← HN2.out] at this; exact this)
        have HB2 := Lib.hid (HK.out.own HJ2.out).2
        go_wp2_with (at_builtin; refine append_text rfl (.tmp 28) (.const (.string ⟨#[36]⟩)) rfl rfl HO2.out ⟨#[36]⟩ rfl ?ca HB2.out ?_)
        case ca => show N2 + 1 ≤ _; omega
        intro v3 w4 ho3 hg3
        obtain ⟨ao3, cap3, rfl⟩ := own_form ho3
        have HJ3 := Lib.hid (HK.out.grow [36] HJ2.out (by rw [← HN2.out, List.map_append, List.append_assoc]; exact ho3) hg3)
        have HN3 := Lib.hid (show N2 + 1 = (xs ++ P ++ [36]).length by rw [List.length_append, ← HN2.out]; rfl)
        clear ho3 hg3 HO2 HB2 HJ2 HP
        go_wp2
        go_roundw
        case rel => exact ⟨b'.length, N2 + 1, cap3, ao3, b', _, a, rfl, rfl, rfl, by omega, by omega, Lib.hid ⟨HN3.out, HJ3.out, HS3.out⟩⟩
        case measure => show b'.length < t1.length; rw [← HL.out]; omega
      · rw [decide_eq_false hd] at hp
        have HP := Lib.hid hp
        have HN := Lib.hid (fun w => vname_any b (by omega) w)
        clear hp
        by_cases hnm : Va.name b = []
        · rw [hnm] at HN
          unfold sv at HN
          have HR := Lib.hid (HS2.out.wrong hnm hd)
          have h0 : (⟨#[]⟩ : ByteArray).toList.isEmpty = true := by rw [Lib.toList_data]; rfl
          clear hnm hd HS2
          go_wp2_with fail
          refine HP.out.mono ?_
          rintro e w3 ⟨rfl, hw3⟩
          obtain rfl := hw3.symm
          go_wp2_with fail
          refine (HN.out _).mono ?_
          rintro e w3 ⟨rfl, hb3⟩
          have HJ3 := Lib.hid (HK.out.below HJ2.out hb3)
          clear hb3 HN HP
          go_wp2
          go_ret2
          exact ⟨a, _, _, HJ3.out, by rw [HR.out]; rfl, fun p hp => by rw [HR.out] at hp; cases hp⟩
        · have HNM := Lib.hid hnm
          obtain ⟨n, hn⟩ : ∃ n, n = Va.name b := ⟨_, rfl⟩
          have hnl := Va.name_len b
          rw [← hn] at hnl HN hnm
          have hn1 : 1 ≤ n.length := by
            cases n with
            | nil => exact absurd rfl hnm
            | cons _ _ => simp
          have hne : (⟨n.toArray⟩ : ByteArray).toList.isEmpty = false := by
            rw [Lib.toList_data]
            cases n with
            | nil => exact absurd rfl hnm
            | cons _ _ => rfl
          have hne2 : n.isEmpty = false := by
            cases n with
            | nil => exact absurd rfl hnm
            | cons _ _ => rfl
          have hzn : (⟨n.toArray⟩ : ByteArray).size = n.length := rfl
          have hx2 : (⟨b.toArray⟩ : ByteArray).extract n.length b.length = ⟨(b.drop n.length).toArray⟩ := by rw [ba_extract, List.take_of_length_le (Nat.le_refl _)]
          have hnl2 : (n.length : Int) ≤ (b.length : Int) := by omega
          have HNN := Lib.hid hn
          unfold sv at HN
          clear hd hnm hn
          cases hv : val n with
          | none =>
            have HR := Lib.hid (HS2.out.unset HNM.out (HNN.out ▸ hv))
            have HCL := Lib.hid (fun W v xs h => HC.out n a v xs W h (by omega) (by omega))
            rw [hv] at HCL
            clear hv HS2
            go_wp2_with fail
            refine HP.out.mono ?_
            rintro e w3 ⟨rfl, hw3⟩
            obtain rfl := hw3.symm
            go_wp2_with fail
            refine (HN.out _).mono ?_
            rintro e w3 ⟨rfl, hb3⟩
            have HJ3 := Lib.hid (HK.out.below HJ2.out hb3)
            clear hb3 HN HP HJ2
            go_wp2_with fail
            refine (HCL.out _ _ _ HJ3.out).mono ?_
            rintro e w4 ⟨rfl, hj4⟩
            have HJ4 := Lib.hid hj4
            clear hj4 HCL HJ3
            go_wp2
            go_ret2
            exact ⟨_, _, _, HJ4.out, by rw [HR.out]; rfl, fun p hp => by rw [HR.out] at hp; cases hp⟩
          | some v =>
            have HS3 := Lib.hid (HS2.out.name HNM.out (HNN.out ▸ hv))
            have hvl : v.length ≤ 1000 := by have := HV.out n; rw [hv] at this; exact this
            have HCL := Lib.hid (fun W v xs h => HC.out n a v xs W h (by omega) (by omega))
            rw [hv] at HCL
            rw [← HNN.out] at HS3
            have hzv : (⟨v.toArray⟩ : ByteArray).size = v.length := rfl
            clear hv HS2 HNN
            go_wp2_with fail
            refine HP.out.mono ?_
            rintro e w3 ⟨rfl, hw3⟩
            obtain rfl := hw3.symm
            go_wp2_with fail
            refine (HN.out _).mono ?_
            rintro e w3 ⟨rfl, hb3⟩
            have HJ3 := Lib.hid (HK.out.below HJ2.out hb3)
            clear hb3 HN HP HJ2
            go_wp2_with fail
            refine (HCL.out _ _ _ HJ3.out).mono ?_
            rintro e w4 ⟨rfl, hj4⟩
            have HJ4 := Lib.hid hj4
            have HO4 := Lib.hid (show w4.ownsRow w0.heap.size 5 1 (.slice ao2 N2 cap2) N2 ((xs ++ P).map bv) from by have := (HK.out.own HJ4.out).1; rw [← HN2.out] at this; exact this)
            have HB4 := Lib.hid (HK.out.own HJ4.out).2
            clear hj4 HCL HJ3
            go_wp2_with (at_builtin; refine append_text rfl (.tmp 44) (.tmp 45) rfl rfl HO4.out ⟨v.toArray⟩ rfl ?ca HB4.out ?_)
            case ca => rw [hzv]; omega
            intro v5 w5 ho5 hg5
            obtain ⟨ao5, cap5, rfl⟩ := own_form ho5
            have HJ5 := Lib.hid (HK.out.grow v HJ4.out (by rw [← HN2.out, List.map_append, List.append_assoc]; exact ho5) hg5)
            have HN5 := Lib.hid (show N2 + v.length = (xs ++ P ++ v).length by rw [List.length_append, ← HN2.out])
            clear ho5 hg5 HO4 HB4 HJ4
            go_wp2
            go_roundw
            case rel => exact ⟨(b.drop n.length).length, N2 + v.length, cap5, ao5, b.drop n.length, _, _, rfl, rfl, rfl, by rw [List.length_drop]; omega, by rw [List.length_drop, List.length_append]; show a.length + 1 + _ ≤ _; omega, Lib.hid ⟨HN5.out, HJ5.out, HS3.out⟩⟩
            case measure => show (b.drop n.length).length < t1.length; rw [← HL.out, List.length_drop]; omega

set_option maxHeartbeats 4000000 in
theorem fillN_any (g : Nat) (J : List (List UInt8) → Value → List UInt8 → World → Prop) (val : List UInt8 → Option (List UInt8)) (w0 : World) (t : List UInt8) (hK : Keeps w0.heap.size J) (hJ : J [] (.slice none 0 0) [] w0) (ht : t.length ≤ 10000)
    (hval : ∀ n, ((val n).getD []).length ≤ 1000)
    (hcall : ∀ n a v xs W, J a v xs W → a.length ≤ 10000 → n.length ≤ 16777216 → Calls Tryd.prog 24 #[.string ⟨n.toArray⟩, .pointer (some ⟨g, 0, none⟩)] W fun e w' => e = .returned (.tuple #[.string ⟨((val n).getD []).toArray⟩, .bool (val n).isSome]) ∧ J (a ++ [n]) v xs w') :
    Calls Tryd.prog 23 #[.string ⟨t.toArray⟩, .func (.func 24) #[] #[.pointer (some ⟨g, 0, none⟩)]] w0 fun e w' => ∃ a v xs, J a v xs w' ∧ e = .returned (.tuple #[.string ⟨(((Va.both val t).map (·.1)).getD []).toArray⟩, .bool (Va.both val t).isSome]) ∧ ∀ p, Va.both val t = some p → a = p.2 := by
  have HK := Lib.hid hK
  have HJ := Lib.hid hJ
  have HC := Lib.hid hcall
  have HV := Lib.hid hval
  have HS := Lib.hid (Va.St.start val t)
  clear hK hJ hcall hval
  go_enter Tryd.func23, Tryd.ntmps23
  go_wp2
  go_loopw [0, 6, 7, 8, 9, 10, 11, 12] (fun s0 s6 _ _ _ _ _ _ wr => ∃ (L N cap : Nat) (ao : Option Addr) (t1 xs : List UInt8) (a : List (List UInt8)), s0 = .string ⟨t1.toArray⟩ ∧ s6 = .slice ao N cap ∧ L = t1.length ∧ N + 1001 * L ≤ 10010000 ∧ a.length + L ≤ 10000 ∧ Hid (N = xs.length ∧ J a (.slice ao N cap) xs wr ∧ Va.St val t t1 xs a)) (fun s0 _ _ _ _ _ _ _ _ => lenS s0)
  case atStart =>
    exact ⟨t.length, 0, 0, none, t, [], [], rfl, rfl, rfl, by omega, by simpa using ht, Lib.hid ⟨rfl, HJ.out, HS.out⟩⟩
  case round =>
    obtain ⟨L, N, cap, ao, t1, xs, a, rfl, rfl, hL, hb, hal, HE⟩ := hrel
    have hz : (⟨t1.toArray⟩ : ByteArray).size = t1.length := rfl
    have hc := sCut_any t1 36 (by omega) wr
    rcases cut1_at 36 t1 with ⟨hno, hcut⟩ | ⟨k, hk, hno, hsp, hcut⟩
    · rw [hcut] at hc
      unfold sv at hc
      have HR := Lib.hid (HE.out.2.2.all hno)
      have HC1 := Lib.hid hc
      clear hno hcut hc
      go_wp2_with fail
      refine HC1.out.mono ?_
      rintro e w1 ⟨rfl, q1, hw1⟩
      have hb1 : Below wr.heap.size wr w1 := by rw [hw1]; exact ⟨rfl, rfl, rfl, Nat.le_refl _, fun _ _ => rfl⟩
      have HJ1 := Lib.hid (HK.out.below HE.out.2.1 hb1)
      have HO1 := Lib.hid (show w1.ownsRow w0.heap.size 5 1 (.slice ao N cap) N (xs.map bv) from by have := (HK.out.own HJ1.out).1; rw [← HE.out.1] at this; exact this)
      have HB1 := Lib.hid (HK.out.own HJ1.out).2
      clear hw1 hb1 HC1
      go_wp2_with (at_builtin; refine append_text rfl (.tmp 19) (.tmp 20) rfl rfl HO1.out ⟨t1.toArray⟩ rfl ?ca HB1.out ?_)
      case ca => rw [hz, ← hL]; omega
      intro v2 w2 ho2 hg2
      obtain ⟨ao2, cap2, rfl⟩ := own_form ho2
      have hrd := Rd.of_own ho2
      have HJ2 := Lib.hid (HK.out.grow t1 HJ1.out (by rw [← HE.out.1]; exact ho2) hg2)
      have hcv := bytes_string (l := xs ++ t1) (by rw [List.map_append]; exact hrd)
      unfold sv at hcv
      clear ho2 hg2 hrd HO1 HB1 HJ1 HE
      go_wp2
      go_ret2
      refine ⟨a, _, _, HJ2.out, ?_, ?_⟩
      · rw [HR.out]; rfl
      · intro p hp
        rw [HR.out] at hp
        cases hp
        rfl
    · have hc : Calls Tryd.prog 28 #[.string ⟨t1.toArray⟩, .string ⟨#[36]⟩] wr fun e w' => e = .returned (.tuple #[.string ⟨(t1.take k).toArray⟩, .string ⟨(t1.drop (k + 1)).toArray⟩, .bool true]) ∧ ∃ q, w' = wr.drewN q := by rw [hcut] at hc; exact hc
      obtain ⟨P, hP⟩ : ∃ P, P = t1.take k := ⟨_, rfl⟩
      obtain ⟨b, hbb⟩ : ∃ b, b = t1.drop (k + 1) := ⟨_, rfl⟩
      rw [← hP] at hc hno hsp
      rw [← hbb] at hc hsp
      have hlen := congrArg List.length hsp
      rw [List.length_append, List.length_cons, ← hL] at hlen
      have HS1 := HE.out.2.2
      rw [hsp] at HS1
      have HS2 := Lib.hid (HS1.plain hno)
      have HC1 := Lib.hid hc
      have hzp : (⟨P.toArray⟩ : ByteArray).size = P.length := rfl
      have hzb : (⟨b.toArray⟩ : ByteArray).size = b.length := rfl
      have HL := Lib.hid hL
      clear hno hcut hc hsp HS1 hP hbb hk hz hL
      go_wp2_with fail
      refine HC1.out.mono ?_
      rintro e w1 ⟨rfl, q1, hw1⟩
      have hb1 : Below wr.heap.size wr w1 := by rw [hw1]; exact ⟨rfl, rfl, rfl, Nat.le_refl _, fun _ _ => rfl⟩
      have HJ1 := Lib.hid (HK.out.below HE.out.2.1 hb1)
      have HO1 := Lib.hid (show w1.ownsRow w0.heap.size 5 1 (.slice ao N cap) N (xs.map bv) from by have := (HK.out.own HJ1.out).1; rw [← HE.out.1] at this; exact this)
      have HB1 := Lib.hid (HK.out.own HJ1.out).2
      clear hw1 hb1 HC1
      go_wp2_with (at_builtin; refine append_text rfl (.tmp 19) (.tmp 20) rfl rfl HO1.out ⟨P.toArray⟩ rfl ?ca HB1.out ?_)
      case ca => rw [hzp]; omega
      intro v2 w2 ho2 hg2
      obtain ⟨ao2, cap2, rfl⟩ := own_form ho2
      have HJ2 := Lib.hid (HK.out.grow P HJ1.out (by rw [← HE.out.1]; exact ho2) hg2)
      have HN2 := Lib.hid (show N + P.length = (xs ++ P).length by rw [List.length_append, HE.out.1])
      obtain ⟨N2, hN2⟩ : ∃ N2, N2 = N + P.length := ⟨_, rfl⟩
      rw [← hN2] at HJ2 HN2 ⊢
      have hb2 : N2 + 1001 * (b.length + 1) ≤ 10010000 := by omega
      have hbl : b.length + 1 ≤ L := by omega
      clear ho2 hg2 HO1 HB1 HJ1 HE hN2 hlen hb
      have hp := Tryd.strings_HasPrefix ⟨b.toArray⟩ ⟨#[36]⟩ w2
      rw [show (⟨b.toArray⟩ : ByteArray).data.toList = b from rfl, show (⟨#[36]⟩ : ByteArray).data.toList = [36] from rfl, hp1] at hp
      by_cases hd : b.head? = some 36
      · rw [decide_eq_true hd] at hp
        obtain ⟨b', rfl⟩ : ∃ b', b = 36 :: b' := by
          cases b with
          | nil => cases hd
          | cons c r =>
            obtain rfl : c = 36 := by simpa using hd
            exact ⟨r, rfl⟩
        have HP := Lib.hid hp
        have HS3 := Lib.hid HS2.out.two
        have hx1 : (⟨(36 :: b').toArray⟩ : ByteArray).extract 1 (b'.length + 1) = ⟨b'.toArray⟩ := by rw [ba_extract, show (36 :: b').take (b'.length + 1) = 36 :: b' from List.take_of_length_le (by simp)]; rfl
        obtain ⟨q, hq⟩ : ∃ q, q = 36 :: b' := ⟨_, rfl⟩
        have hzq : (⟨q.toArray⟩ : ByteArray).size = b'.length + 1 := by rw [hq]; rfl
        rw [← hq] at HP hx1 ⊢
        have hq1 : (1 : Int) ≤ (b'.length : Int) + 1 := by omega
        rw [List.length_cons] at hb2 hbl
        clear hp hd hzb hq HS2
        go_wp2_with fail
        refine HP.out.mono ?_
        rintro e w3 ⟨rfl, hw3⟩
        obtain rfl := hw3.symm
        have HO2 := Lib.hid (show w2.ownsRow w0.heap.size 5 1 (.slice ao2 N2 cap2) N2 ((xs ++ P).map bv) from by have := (HK.out.own HJ2.out).1; rw [← HN2.out] at this; exact this)
        have HB2 := Lib.hid (HK.out.own HJ2.out).2
        go_wp2_with (at_builtin; refine append_text rfl (.tmp 28) (.const (.string ⟨#[36]⟩)) rfl rfl HO2.out ⟨#[36]⟩ rfl ?ca HB2.out ?_)
        case ca => show N2 + 1 ≤ _; omega
        intro v3 w4 ho3 hg3
        obtain ⟨ao3, cap3, rfl⟩ := own_form ho3
        have HJ3 := Lib.hid (HK.out.grow [36] HJ2.out (by rw [← HN2.out, List.map_append, List.append_assoc]; exact ho3) hg3)
        have HN3 := Lib.hid (show N2 + 1 = (xs ++ P ++ [36]).length by rw [List.length_append, ← HN2.out]; rfl)
        clear ho3 hg3 HO2 HB2 HJ2 HP
        go_wp2
        go_roundw
        case rel => exact ⟨b'.length, N2 + 1, cap3, ao3, b', _, a, rfl, rfl, rfl, by omega, by omega, Lib.hid ⟨HN3.out, HJ3.out, HS3.out⟩⟩
        case measure => show b'.length < t1.length; rw [← HL.out]; omega
      · rw [decide_eq_false hd] at hp
        have HP := Lib.hid hp
        have HN := Lib.hid (fun w => vname_any b (by omega) w)
        clear hp
        by_cases hnm : Va.name b = []
        · rw [hnm] at HN
          unfold sv at HN
          have HR := Lib.hid (HS2.out.wrong hnm hd)
          have h0 : (⟨#[]⟩ : ByteArray).toList.isEmpty = true := by rw [Lib.toList_data]; rfl
          clear hnm hd HS2
          go_wp2_with fail
          refine HP.out.mono ?_
          rintro e w3 ⟨rfl, hw3⟩
          obtain rfl := hw3.symm
          go_wp2_with fail
          refine (HN.out _).mono ?_
          rintro e w3 ⟨rfl, hb3⟩
          have HJ3 := Lib.hid (HK.out.below HJ2.out hb3)
          clear hb3 HN HP
          go_wp2
          go_ret2
          exact ⟨a, _, _, HJ3.out, by rw [HR.out]; rfl, fun p hp => by rw [HR.out] at hp; cases hp⟩
        · have HNM := Lib.hid hnm
          obtain ⟨n, hn⟩ : ∃ n, n = Va.name b := ⟨_, rfl⟩
          have hnl := Va.name_len b
          rw [← hn] at hnl HN hnm
          have hn1 : 1 ≤ n.length := by
            cases n with
            | nil => exact absurd rfl hnm
            | cons _ _ => simp
          have hne : (⟨n.toArray⟩ : ByteArray).toList.isEmpty = false := by
            rw [Lib.toList_data]
            cases n with
            | nil => exact absurd rfl hnm
            | cons _ _ => rfl
          have hne2 : n.isEmpty = false := by
            cases n with
            | nil => exact absurd rfl hnm
            | cons _ _ => rfl
          have hzn : (⟨n.toArray⟩ : ByteArray).size = n.length := rfl
          have hx2 : (⟨b.toArray⟩ : ByteArray).extract n.length b.length = ⟨(b.drop n.length).toArray⟩ := by rw [ba_extract, List.take_of_length_le (Nat.le_refl _)]
          have hnl2 : (n.length : Int) ≤ (b.length : Int) := by omega
          have HNN := Lib.hid hn
          unfold sv at HN
          clear hd hnm hn
          cases hv : val n with
          | none =>
            have HR := Lib.hid (HS2.out.unset HNM.out (HNN.out ▸ hv))
            have HCL := Lib.hid (fun W v xs h => HC.out n a v xs W h (by omega) (by omega))
            rw [hv] at HCL
            clear hv HS2
            go_wp2_with fail
            refine HP.out.mono ?_
            rintro e w3 ⟨rfl, hw3⟩
            obtain rfl := hw3.symm
            go_wp2_with fail
            refine (HN.out _).mono ?_
            rintro e w3 ⟨rfl, hb3⟩
            have HJ3 := Lib.hid (HK.out.below HJ2.out hb3)
            clear hb3 HN HP HJ2
            go_wp2_with fail
            refine (HCL.out _ _ _ HJ3.out).mono ?_
            rintro e w4 ⟨rfl, hj4⟩
            have HJ4 := Lib.hid hj4
            clear hj4 HCL HJ3
            go_wp2
            go_ret2
            exact ⟨_, _, _, HJ4.out, by rw [HR.out]; rfl, fun p hp => by rw [HR.out] at hp; cases hp⟩
          | some v =>
            have HS3 := Lib.hid (HS2.out.name HNM.out (HNN.out ▸ hv))
            have hvl : v.length ≤ 1000 := by have := HV.out n; rw [hv] at this; exact this
            have HCL := Lib.hid (fun W v xs h => HC.out n a v xs W h (by omega) (by omega))
            rw [hv] at HCL
            rw [← HNN.out] at HS3
            have hzv : (⟨v.toArray⟩ : ByteArray).size = v.length := rfl
            clear hv HS2 HNN
            go_wp2_with fail
            refine HP.out.mono ?_
            rintro e w3 ⟨rfl, hw3⟩
            obtain rfl := hw3.symm
            go_wp2_with fail
            refine (HN.out _).mono ?_
            rintro e w3 ⟨rfl, hb3⟩
            have HJ3 := Lib.hid (HK.out.below HJ2.out hb3)
            clear hb3 HN HP HJ2
            go_wp2_with fail
            refine (HCL.out _ _ _ HJ3.out).mono ?_
            rintro e w4 ⟨rfl, hj4⟩
            have HJ4 := Lib.hid hj4
            have HO4 := Lib.hid (show w4.ownsRow w0.heap.size 5 1 (.slice ao2 N2 cap2) N2 ((xs ++ P).map bv) from by have := (HK.out.own HJ4.out).1; rw [← HN2.out] at this; exact this)
            have HB4 := Lib.hid (HK.out.own HJ4.out).2
            clear hj4 HCL HJ3
            go_wp2_with (at_builtin; refine append_text rfl (.tmp 44) (.tmp 45) rfl rfl HO4.out ⟨v.toArray⟩ rfl ?ca HB4.out ?_)
            case ca => rw [hzv]; omega
            intro v5 w5 ho5 hg5
            obtain ⟨ao5, cap5, rfl⟩ := own_form ho5
            have HJ5 := Lib.hid (HK.out.grow v HJ4.out (by rw [← HN2.out, List.map_append, List.append_assoc]; exact ho5) hg5)
            have HN5 := Lib.hid (show N2 + v.length = (xs ++ P ++ v).length by rw [List.length_append, ← HN2.out])
            clear ho5 hg5 HO4 HB4 HJ4
            go_wp2
            go_roundw
            case rel => exact ⟨(b.drop n.length).length, N2 + v.length, cap5, ao5, b.drop n.length, _, _, rfl, rfl, rfl, by rw [List.length_drop]; omega, by rw [List.length_drop, List.length_append]; show a.length + 1 + _ ≤ _; omega, Lib.hid ⟨HN5.out, HJ5.out, HS3.out⟩⟩
            case measure => show (b.drop n.length).length < t1.length; rw [← HL.out, List.length_drop]; omega
end Go.Proofs.YtkpahkcamgmlnaaDoor
