/- The reference's Hex, half and Unhex walked. -/
import Derived.Test.YtnbgafcfildhaaaDoorDigestUnhex
import Derived.Test.YtnbgafcfildhaaaDoorDigestMix
namespace Go.Proofs.YtnbgafcfildhaaaDoor
open Go.RowKit

theorem halfr_any (c : UInt8) (w : World) :
    Calls Tryd.prog 17 #[bv c] w fun e w' => e = .returned (.int .i64 (Md5.half c)) ∧ w = w' := by
  unfold bv
  have hc := c.toNat_lt
  go_enter Tryd.func17, Tryd.ntmps17
  unfold Md5.half
  by_cases h1 : 48 ≤ c.toNat ∧ c.toNat ≤ 57
  · rw [if_pos h1]
    go_wp2
    go_ret
    exact ⟨rfl, rfl⟩
  rw [if_neg h1]
  by_cases h2 : 97 ≤ c.toNat ∧ c.toNat ≤ 102
  · rw [if_pos h2]
    have hh : ((c.toNat : Int) ≤ 57) = False := eq_false (by omega)
    go_wp2
    go_ret
    exact ⟨rfl, rfl⟩
  rw [if_neg h2]
  rcases (by omega : c.toNat < 48 ∨ (57 < c.toNat ∧ c.toNat < 97) ∨ 102 < c.toNat) with h | h | h
  · have hh : (48 ≤ (c.toNat : Int)) = False := eq_false (by omega)
    have hh2 : (97 ≤ (c.toNat : Int)) = False := eq_false (by omega)
    clear h1 h2
    go_wp2
    go_ret
    exact ⟨rfl, rfl⟩
  · have hh : ((c.toNat : Int) ≤ 57) = False := eq_false (by omega)
    have hh2 : (97 ≤ (c.toNat : Int)) = False := eq_false (by omega)
    clear h1 h2
    go_wp2
    go_ret
    exact ⟨rfl, rfl⟩
  · have hh : ((c.toNat : Int) ≤ 57) = False := eq_false (by omega)
    have hh2 : ((c.toNat : Int) ≤ 102) = False := eq_false (by omega)
    clear h1 h2
    go_wp2
    go_ret
    exact ⟨rfl, rfl⟩

theorem extract_hl : ∀ n : Fin 16, (⟨#[48, 49, 50, 51, 52, 53, 54, 55, 56, 57, 97, 98, 99, 100, 101, 102]⟩ : ByteArray).extract n.val (n.val + 1) = ⟨#[Md5.hl n.val]⟩ := by decide +kernel

theorem hex_snoc {xs : List UInt8} {p : Nat} (h : p < xs.length) : Md5.hex (xs.take (p + 1)) = Md5.hex (xs.take p) ++ [Md5.hl ((xs.getD p 0).toNat / 16)] ++ [Md5.hl ((xs.getD p 0).toNat % 16)] := by
  rw [List.take_add_one, List.getElem?_eq_getElem h, Md5.hex_app, List.getD_eq_getElem?_getD, List.getElem?_eq_getElem h, List.append_assoc]
  rfl

theorem refHex_any (v : Value) (xs : List UInt8) (w : World) (h : Rd w v (xs.map bv)) (hs : xs.length ≤ 65536) :
    Calls Tryd.prog 15 #[v] w fun e w' => e = .returned (sv (Md5.hex xs)) ∧ Below w.heap.size w w' := by
  obtain ⟨ao, cap, rfl, hcap, hc⟩ := h.form
  obtain ⟨L, hL⟩ : ∃ L, L = xs.length := ⟨_, rfl⟩
  rw [← hL] at hs hcap hc ⊢
  have HL := Lib.hid hL
  have HC := Lib.hid hc
  clear hL hc h
  go_enter Tryd.func15, Tryd.ntmps15
  go_wp2
  go_loopw [4, 5] (fun s i wr => ∃ (S : ByteArray) (p : Nat), s = .string S ∧ i = .int .i64 p ∧ p ≤ L ∧ Hid (S.data.toList = Md5.hex (xs.take p)) ∧ Below w.heap.size w wr) (fun _ i _ => L - (intOf i).toNat)
  case atStart => exact ⟨⟨#[]⟩, 0, rfl, rfl, by omega, rfl, Below.refl _ _⟩
  case round =>
    obtain ⟨S, p, rfl, rfl, hp, hS, hb⟩ := hrel
    by_cases hlt : p < L
    · obtain ⟨b, o, rfl, hm, hc⟩ := HC.out (by omega)
      unfold maxLen at hm
      have hcw := hc p hlt
      have hcr : wr.cell? ⟨b, o + p, none⟩ = some (bv (xs.getD p 0)) := (hb.cell (World.block_lt_of_cell? w _ hcw)).trans hcw
      unfold bv at hcr
      have hx : (xs.getD p 0).toNat < 256 := UInt8.toNat_lt _
      have hsn := hex_snoc (xs := xs) (p := p) (by rw [← HL.out]; exact hlt)
      generalize (xs.getD p 0).toNat = x at hcr hx hsn
      obtain ⟨q, hq⟩ : ∃ q, q = x / 16 := ⟨_, rfl⟩
      obtain ⟨r, hr⟩ : ∃ r, r = x % 16 := ⟨_, rfl⟩
      have hq16 : q < 16 := by omega
      have hr16 : r < 16 := by omega
      rw [← hq, ← hr] at hsn
      have e1 := extract_hl ⟨q, hq16⟩
      have e2 := extract_hl ⟨r, hr16⟩
      simp only at e1 e2
      have hSs : S.size ≤ 131072 := by rw [Lib.size_eq, hS.out, Md5.hex_len, List.length_take]; omega
      have i0 : (0 : Int) ≤ (q : Int) := Int.natCast_nonneg _
      have i1 : (x : Int) / 16 = (q : Int) := by omega
      have i2 : (x : Int).tmod 16 = (r : Int) := by rw [Int.tmod_eq_emod_of_nonneg (by omega)]; omega
      have i3 : IntKind.i64.wrap (q : Int) = (q : Int) := wraps_i64 _ (by omega) (by omega)
      have i4 : IntKind.i64.wrap (r : Int) = (r : Int) := wraps_i64 _ (by omega) (by omega)
      have i5 : IntKind.i64.wrap ((q : Int) + 1) = (q : Int) + 1 := wraps_i64 _ (by omega) (by omega)
      have i6 : IntKind.i64.wrap ((r : Int) + 1) = (r : Int) + 1 := wraps_i64 _ (by omega) (by omega)
      have i7 : (0 : Int) ≤ (r : Int) := Int.natCast_nonneg _
      have i8 : (q : Int) ≤ (q : Int) + 1 := by omega
      have i9 : (r : Int) ≤ (r : Int) + 1 := by omega
      have i10 : (q : Int) + 1 ≤ 16 := by omega
      have i11 : (r : Int) + 1 ≤ 16 := by omega
      have i12 : ((q : Int) + 1).toNat = q + 1 := by omega
      have i13 : ((r : Int) + 1).toNat = r + 1 := by omega
      have HSN := Lib.hid hsn
      clear hc hcw hq hr hsn
      go_wp2
      go_quiet (fail)
      have hb2 := below_drewN hb nq
      generalize wr.drewN nq = w3 at hb2 ⊢
      clear hcr e1 e2 i0 i1 i2 i3 i4 i5 i6 i7 i8 i9 i10 i11 i12 i13 hb
      go_wp2
      go_roundw
      case rel =>
        refine ⟨S ++ ⟨#[Md5.hl q]⟩ ++ ⟨#[Md5.hl r]⟩, p + 1, rfl, by go_num, by omega, Lib.hid ?_, hb2⟩
        rw [HSN.out, ← hS.out]
        simp
      case measure => simp [intOf]; omega
    · obtain rfl : p = L := by omega
      have hfin : S.data.toList = Md5.hex xs := by rw [hS.out, List.take_of_length_le (by have := HL.out; omega)]
      have hsv : Value.string S = sv (Md5.hex xs) := by rw [← hfin]; rfl
      have HSV := Lib.hid hsv
      clear hfin hsv hS
      go_wp2
      go_ret
      exact ⟨congrArg Ending.returned HSV.out, hb⟩

theorem refUnhex_any (s : ByteArray) (w : World) (hs : s.size ≤ 1048576) :
    Calls Tryd.prog 11 #[.string s] w fun e w' => (∃ b v, Md5.hex b = s.data.toList ∧ e = .returned (.tuple #[v, .bool true]) ∧ Rd w' v (b.map bv) ∧ Below w.heap.size w w') ∨
      ((∀ b, Md5.hex b ≠ s.data.toList) ∧ e = .returned (.tuple #[.slice none 0 0, .bool false]) ∧ Below w.heap.size w w') := by
  have hsl := Lib.size_eq s
  by_cases hpar : s.size % 2 = 0
  · obtain ⟨H, hH⟩ : ∃ H, H = s.size / 2 := ⟨_, rfl⟩
    have i0 : ((s.size : Int) % 2 != 0) = false := by simp; omega
    have hHs : 2 * H = s.size := by omega
    have HSL := Lib.hid hsl
    have HH := Lib.hid hHs
    clear hsl hH hpar hHs
    go_enter Tryd.func11, Tryd.ntmps11
    go_wp2
    go_loopw [4, 5] (fun o i wr => ∃ (k p : Nat), k ≤ H ∧ i = .int .i64 p ∧ Hid (p = 2 * k) ∧ Hid (wr.ownsRow w.heap.size 5 1 o k (((List.range k).map (decB s.data.toList)).map bv)) ∧ Below w.heap.size w wr ∧ Hid (∀ j, j < 2 * k → 0 ≤ Md5.half (s.data.toList.getD j 0))) (fun _ i _ => s.size - (intOf i).toNat)
    case atStart => exact ⟨0, 0, by omega, rfl, rfl, World.ownsRow_made (base := w.heap.size) w #[] 0 (Nat.le_refl _) (Nat.zero_le _) rfl, (Below.refl _ _).alloc (Nat.le_refl _) _, Lib.hid (fun j hj => by omega)⟩
    case round =>
      obtain ⟨k, p, hk, rfl, HP, ho, hb, hgood⟩ := hrel
      by_cases hlt : k < H
      · have j2 : p < s.size := by have := HH.out; have := HP.out; omega
        have j3 : p + 1 < s.size := by have := HH.out; have := HP.out; omega
        have d1 := byte_at s p j2
        have d2 := byte_at s (p + 1) j3
        have hdec : decB s.data.toList k = UInt8.ofNat ((Md5.half (s[p]'j2)).toNat * 16 + (Md5.half (s[p + 1]'j3)).toNat) := by rw [d1, d2, decB, HP.out]
        have HDEC := Lib.hid hdec
        have D1 := Lib.hid d1
        have D2 := Lib.hid d2
        clear hdec d1 d2
        obtain ⟨x, hx⟩ : ∃ x, x = Md5.half (s[p]'j2) := ⟨_, rfl⟩
        obtain ⟨y, hy⟩ : ∃ y, y = Md5.half (s[p + 1]'j3) := ⟨_, rfl⟩
        have bx := Md5.half_small (s[p]'j2)
        have b2 := Md5.half_small (s[p + 1]'j3)
        rw [← hx] at bx
        rw [← hy] at b2
        have HX := Lib.hid hx
        have HY := Lib.hid hy
        clear hx hy
        go_wp2_with fail
        refine (halfr_any (s[p]'j2) _).mono ?_
        rintro e w' ⟨rfl, rfl⟩
        rw [← HX.out]
        go_wp2_with fail
        refine (halfr_any (s[p + 1]'j3) _).mono ?_
        rintro e w' ⟨rfl, rfl⟩
        rw [← HY.out]
        by_cases hx0 : x < 0
        · have hbad := bad_letter (s := s.data.toList) (j := p) (by rw [← HSL.out]; exact j2) (by rw [← D1.out, ← HX.out]; exact hx0)
          have HBAD := Lib.hid hbad
          clear hbad
          go_wp2
          go_ret2
          exact Or.inr ⟨HBAD.out, rfl, hb⟩
        by_cases hy0 : y < 0
        · have hbad := bad_letter (s := s.data.toList) (j := p + 1) (by rw [← HSL.out]; exact j3) (by rw [← D2.out, ← HY.out]; exact hy0)
          have HBAD := Lib.hid hbad
          clear hbad
          go_wp2
          go_ret2
          exact Or.inr ⟨HBAD.out, rfl, hb⟩
        obtain ⟨c, hc⟩ : ∃ c : UInt8, c = decB s.data.toList k := ⟨_, rfl⟩
        have hcI : x * 16 + y = (c.toNat : Int) := by
          rw [hc, HDEC.out, ← HX.out, ← HY.out, UInt8.toNat_ofNat']
          omega
        have hrd := Rd.made wr [c] 5 (0, 0) 1 rfl (by decide)
        have hrd : Rd (wr.alloc (.cells #[.int .u8 (c.toNat : Int)] 5)) (.slice (some ⟨wr.heap.size, 0, none⟩) 1 1) ([c].map bv) := hrd
        have HRD := Lib.hid hrd
        have HC := Lib.hid hc
        have hk2 : k ≤ 600000 := by have := HH.out; omega
        clear hrd hc
        go_wp2_with (at_builtin; refine append_u8s rfl (.tmp 34) (.tmp 40) rfl rfl (ho.out.alloc _) ([c].map bv) HRD.out (bv_cell _) ?ca ?cb ?_)
        case ca => simp; omega
        case cb => have := hb.size; simp; omega
        intro v7 w7 hown7 hg7
        have hb7 : Below w.heap.size w w7 := (hb.alloc hb.size _).grown hg7 (by have := hb.size; simp; omega) (fun k hk => (ho.out.lt k hk).1)
        have ho7 : Hid (w7.ownsRow w.heap.size 5 1 v7 (k + 1) (((List.range (k + 1)).map (decB s.data.toList)).map bv)) := Lib.hid (by
          rw [List.range_succ, List.map_append, List.map_cons, List.map_nil, ← HC.out]
          simpa using hown7)
        clear hg7 hown7
        go_wp2
        go_roundw
        case rel =>
          refine ⟨k + 1, p + 2, by omega, by go_num, Lib.hid (by have := HP.out; omega), ho7, hb7, Lib.hid (fun j hj => ?_)⟩
          by_cases hj2 : j < 2 * k
          · exact hgood.out j hj2
          · have hp := HP.out
            rcases (by omega : j = p ∨ j = p + 1) with rfl | rfl
            · rw [← D1.out, ← HX.out]; omega
            · rw [← D2.out, ← HY.out]; omega
        case measure => simp [intOf]; omega
      · obtain rfl : k = H := by omega
        have hpl : ((p : Int) < (s.size : Int)) = False := eq_false (by have := HH.out; have := HP.out; omega)
        have hrd := Rd.of_own ho.out
        have hdec := decB_all (s := s.data.toList) (n := k) (by rw [← HSL.out]; exact HH.out.symm) hgood.out
        have HRD := Lib.hid hrd
        have HDEC := Lib.hid hdec
        clear hrd hdec
        go_wp2
        go_ret2
        exact Or.inl ⟨_, _, HDEC.out, rfl, HRD.out, hb⟩
  · have i0 : ((s.size : Int) % 2 != 0) = true := by simp; omega
    have hno := Md5.hex_odd (s := s.data.toList) (by omega)
    have HNO := Lib.hid hno
    clear hno hsl
    go_enter Tryd.func11, Tryd.ntmps11
    go_wp2
    go_ret2
    exact Or.inr ⟨HNO.out, rfl, Below.refl _ _⟩
end Go.Proofs.YtnbgafcfildhaaaDoor
