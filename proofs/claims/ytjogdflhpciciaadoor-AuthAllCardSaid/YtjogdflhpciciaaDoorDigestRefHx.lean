/- The reference's Hex walked. -/
import Derived.Test.YtjogdflhpciciaaDoorDigestMix
namespace Go.Proofs.YtjogdflhpciciaaDoor
open Go.RowKit

theorem extract_hl : ∀ n : Fin 16, (⟨#[48, 49, 50, 51, 52, 53, 54, 55, 56, 57, 97, 98, 99, 100, 101, 102]⟩ : ByteArray).extract n.val (n.val + 1) = ⟨#[Md5.hl n.val]⟩ := by decide +kernel

theorem hex_snoc {xs : List UInt8} {p : Nat} (h : p < xs.length) : Md5.hex (xs.take (p + 1)) = Md5.hex (xs.take p) ++ [Md5.hl ((xs.getD p 0).toNat / 16)] ++ [Md5.hl ((xs.getD p 0).toNat % 16)] := by
  rw [List.take_add_one, List.getElem?_eq_getElem h, Md5.hex_app, List.getD_eq_getElem?_getD, List.getElem?_eq_getElem h, List.append_assoc]
  rfl

theorem refHex_any (v : Value) (xs : List UInt8) (w : World) (h : Rd w v (xs.map bv)) (hs : xs.length ≤ 65536) :
    Calls Tryd.prog 30 #[v] w fun e w' => e = .returned (sv (Md5.hex xs)) ∧ Below w.heap.size w w' := by
  obtain ⟨ao, cap, rfl, hcap, hc⟩ := h.form
  obtain ⟨L, hL⟩ : ∃ L, L = xs.length := ⟨_, rfl⟩
  rw [← hL] at hs hcap hc ⊢
  have HL := Lib.hid hL
  have HC := Lib.hid hc
  clear hL hc h
  go_enter Tryd.func30, Tryd.ntmps30
  go_wp2
  go_loopw [4, 5] (fun s i wr => ∃ (S : ByteArray) (p : Nat), s = .string S ∧ i = .int .i64 p ∧ p ≤ L ∧ Hid (S.data.toList = Md5.hex (xs.take p)) ∧ Below w.heap.size w wr) (fun _ i _ => L - (intOf i).toNat)
  case atStart => exact ⟨⟨#[]⟩, 0, rfl, rfl, by omega, rfl, Below.refl _ _⟩
  case round =>
    obtain ⟨S, p, rfl, rfl, hp, hS, hb⟩ := hrel
    by_cases hlt : p < L
    · obtain ⟨b, o, rfl, hm, hc⟩ := HC.out (by omega)
      unfold maxLen at hm
      have hcw := hc p hlt
      have hcr : wr.cell? ⟨b, o + p, none⟩ = some (bv (xs.getD p 0)) := (hb.cell (World.block_lt_of_cell? w _ hcw)).trans hcw
      unfold bv at hcr
      have hx : (xs.getD p 0).toNat < 256 := UInt8.toNat_lt _
      have hsn := hex_snoc (xs := xs) (p := p) (by rw [← HL.out]; exact hlt)
      generalize (xs.getD p 0).toNat = x at hcr hx hsn
      obtain ⟨q, hq⟩ : ∃ q, q = x / 16 := ⟨_, rfl⟩
      obtain ⟨r, hr⟩ : ∃ r, r = x % 16 := ⟨_, rfl⟩
      have hq16 : q < 16 := by omega
      have hr16 : r < 16 := by omega
      rw [← hq, ← hr] at hsn
      have e1 := extract_hl ⟨q, hq16⟩
      have e2 := extract_hl ⟨r, hr16⟩
      simp only at e1 e2
      have hSs : S.size ≤ 131072 := by rw [Lib.size_eq, hS.out, Md5.hex_len, List.length_take]; omega
      have i0 : (0 : Int) ≤ (q : Int) := Int.natCast_nonneg _
      have i1 : (x : Int) / 16 = (q : Int) := by omega
      have i2 : (x : Int).tmod 16 = (r : Int) := by rw [Int.tmod_eq_emod_of_nonneg (by omega)]; omega
      have i3 : IntKind.i64.wrap (q : Int) = (q : Int) := wraps_i64 _ (by omega) (by omega)
      have i4 : IntKind.i64.wrap (r : Int) = (r : Int) := wraps_i64 _ (by omega) (by omega)
      have i5 : IntKind.i64.wrap ((q : Int) + 1) = (q : Int) + 1 := wraps_i64 _ (by omega) (by omega)
      have i6 : IntKind.i64.wrap ((r : Int) + 1) = (r : Int) + 1 := wraps_i64 _ (by omega) (by omega)
      have i7 : (0 : Int) ≤ (r : Int) := Int.natCast_nonneg _
      have i8 : (q : Int) ≤ (q : Int) + 1 := by omega
      have i9 : (r : Int) ≤ (r : Int) + 1 := by omega
      have i10 : (q : Int) + 1 ≤ 16 := by omega
      have i11 : (r : Int) + 1 ≤ 16 := by omega
      have i12 : ((q : Int) + 1).toNat = q + 1 := by omega
      have i13 : ((r : Int) + 1).toNat = r + 1 := by omega
      have HSN := Lib.hid hsn
      clear hc hcw hq hr hsn
      go_wp2
      go_quiet (fail)
      have hb2 := below_drewN hb nq
      generalize wr.drewN nq = w3 at hb2 ⊢
      clear hcr e1 e2 i0 i1 i2 i3 i4 i5 i6 i7 i8 i9 i10 i11 i12 i13 hb
      go_wp2
      go_roundw
      case rel =>
        refine ⟨S ++ ⟨#[Md5.hl q]⟩ ++ ⟨#[Md5.hl r]⟩, p + 1, rfl, by go_num, by omega, Lib.hid ?_, hb2⟩
        rw [HSN.out, ← hS.out]
        simp
      case measure => simp [intOf]; omega
    · obtain rfl : p = L := by omega
      have hfin : S.data.toList = Md5.hex xs := by rw [hS.out, List.take_of_length_le (by have := HL.out; omega)]
      have hsv : Value.string S = sv (Md5.hex xs) := by rw [← hfin]; rfl
      have HSV := Lib.hid hsv
      clear hfin hsv hS
      go_wp2
      go_ret
      exact ⟨congrArg Ending.returned HSV.out, hb⟩
end Go.Proofs.YtjogdflhpciciaaDoor
