/- The reference's Text walked (layer 13). -/
import Derived.Test.YtonophhhndhhhaaDoorAddrGo
import Derived.Test.YtonophhhndhhhaaDoorRefDigits
import Derived.Test.YtonophhhndhhhaaDoorBa
import Derived.WalkSpells
import Derived.WalkSmall
import Derived.WalkLawsBesides
namespace Go.Proofs.YtonophhhndhhhaaDoor
open Go.RowKit

theorem ba_bytes (a b : List UInt8) : (⟨a.toArray⟩ : ByteArray) ++ ⟨b.toArray⟩ = ⟨(a ++ b).toArray⟩ := ByteArray.mk_append_mk a b
theorem ba_comma (a : List UInt8) : (⟨a.toArray⟩ : ByteArray) ++ ⟨#[44]⟩ = ⟨(a ++ [44]).toArray⟩ := ByteArray.mk_append_mk a [44]
theorem itoa_len (n : Int) (h : -9223372036854775808 ≤ n ∧ n ≤ 9223372036854775807) : (Lib.itoa n).length ≤ 30 := by
  have hd : ∀ u : Nat, u < 10 ^ 20 → (Lib.decDigits u).length ≤ 20 := by
    intro u hu
    obtain ⟨_, _, h3, _, _⟩ := Tx.dec_facts u u (Nat.le_refl _)
    rcases Nat.eq_zero_or_pos u with rfl | hp
    · rw [Lib.decDigits]; simp
    · have h6 := h3 hp
      rcases Nat.lt_or_ge 20 (Lib.decDigits u).length with hg | hg
      · have : 10 ^ 20 ≤ 10 ^ ((Lib.decDigits u).length - 1) := Nat.pow_le_pow_right (by decide) (by omega)
        omega
      · exact hg
  have h20 : (10 : Nat) ^ 20 = 100000000000000000000 := by decide
  rw [Lib.itoa]
  split
  · have := hd n.natAbs (by omega)
    simp only [List.length_cons]
    omega
  · have := hd n.natAbs (by omega)
    rw [show n.toNat = n.natAbs by omega] at *
    omega
/-- Each number as an int may be. -/
structure AW (x : Ad.Ad) : Prop where
  a : -9223372036854775808 ≤ x.a ∧ x.a ≤ 9223372036854775807
  b : -9223372036854775808 ≤ x.b ∧ x.b ≤ 9223372036854775807
  c : -9223372036854775808 ≤ x.c ∧ x.c ≤ 9223372036854775807
  d : -9223372036854775808 ≤ x.d ∧ x.d ≤ 9223372036854775807
  p : -9223372036854775808 ≤ x.port ∧ x.port ≤ 9223372036854775807

/-- The first k numbers, each with a comma behind it. -/
def hostT (x : Ad.Ad) (k : Nat) : List UInt8 := (([x.a, x.b, x.c, x.d].take k).map fun n => Lib.itoa n ++ [44]).flatten
theorem host_more {x : Ad.Ad} {k : Nat} {n : Int} (hn : [x.a, x.b, x.c, x.d][k]? = some n) : hostT x (k + 1) = hostT x k ++ Lib.itoa n ++ [44] := by
  unfold hostT
  rw [List.take_add_one, hn]
  simp
theorem AW.num {x : Ad.Ad} (h : AW x) {k : Nat} {n : Int} (hn : [x.a, x.b, x.c, x.d][k]? = some n) : -9223372036854775808 ≤ n ∧ n ≤ 9223372036854775807 := by
  have hm := List.mem_of_getElem? hn
  simp only [List.mem_cons, List.not_mem_nil, or_false] at hm
  rcases hm with rfl | rfl | rfl | rfl
  · exact h.a
  · exact h.b
  · exact h.c
  · exact h.d
theorem host_len {x : Ad.Ad} (h : AW x) : ∀ (k : Nat), k ≤ 4 → (hostT x k).length ≤ 31 * k
  | 0, _ => by simp [hostT]
  | k + 1, hk => by
    obtain ⟨n, hn⟩ : ∃ n, [x.a, x.b, x.c, x.d][k]? = some n := ⟨_, List.getElem?_eq_getElem (show k < 4 by omega)⟩
    have ih := host_len h k (by omega)
    have := itoa_len n (h.num hn)
    rw [host_more hn]
    simp only [List.length_append, List.length_cons, List.length_nil]
    omega
theorem host_text (x : Ad.Ad) : hostT x 4 ++ Lib.itoa (x.port / 256) ++ [44] ++ Lib.itoa (x.port % 256) = Ad.text x := by
  unfold hostT Ad.text
  simp

set_option maxHeartbeats 4000000 in
theorem rtext_any (x : Ad.Ad) (hx : AW x) (w : World) :
    Calls Tryd.prog 15 #[adv x] w fun e w' => e = .returned (.string ⟨(Ad.text x).toArray⟩) ∧ Below w.heap.size w w' := by
  have DG := Lib.hid (fun n wx (hn : -9223372036854775808 ≤ n ∧ n ≤ 9223372036854775807) => ref_digits n wx hn.1 hn.2)
  have HX := Lib.hid hx
  have HTX := Lib.hid (host_text x)
  have hbox : AB (w.alloc (.cells #[.int .i64 x.a, .int .i64 x.b, .int .i64 x.c, .int .i64 x.d, .int .i64 x.port] 24)) w.heap.size x := ⟨heap_alloc_new _ _⟩
  have HB := Lib.hid (show Below w.heap.size w (w.alloc (.cells #[.int .i64 x.a, .int .i64 x.b, .int .i64 x.c, .int .i64 x.d, .int .i64 x.port] 24)) from (Below.refl _ _).alloc (Nat.le_refl _) _)
  have hcell : ∀ (k : Nat) n, [x.a, x.b, x.c, x.d][k]? = some n → (w.alloc (.cells #[.int .i64 x.a, .int .i64 x.b, .int .i64 x.c, .int .i64 x.d, .int .i64 x.port] 24)).cell? ⟨w.heap.size, k, none⟩ = some (.int .i64 n) := by
    intro k n hn
    match k with
    | 0 => simp at hn; subst hn; exact hbox.c0
    | 1 => simp at hn; subst hn; exact hbox.c1
    | 2 => simp at hn; subst hn; exact hbox.c2
    | 3 => simp at hn; subst hn; exact hbox.c3
    | k + 4 => simp at hn
  have d4 := hbox.c4
  have HBX := Lib.hid hbox
  have HC := Lib.hid hcell
  have hpx := hx.p
  clear hx hcell hbox
  show Calls _ _ #[.agg #[.int .i64 x.a, .int .i64 x.b, .int .i64 x.c, .int .i64 x.d, .int .i64 x.port]] _ _
  go_enter Tryd.func15, Tryd.ntmps15
  go_wp2_with fail
  go_loop [3, 4] (fun s3 s4 => ∃ k : Nat, k ≤ 4 ∧ s3 = .string ⟨(hostT x k).toArray⟩ ∧ s4 = .int .i64 k) (fun _ s4 => 4 - (intOf s4).toNat)
  case atStart => exact ⟨0, by omega, rfl, rfl⟩
  case round =>
    obtain ⟨k, hk, rfl, rfl⟩ := hrel
    by_cases h4 : k < 4
    · obtain ⟨n, hn⟩ : ∃ n, [x.a, x.b, x.c, x.d][k]? = some n := ⟨_, List.getElem?_eq_getElem (show k < 4 by omega)⟩
      have hc := HC.out k n hn
      have hn1 := HX.out.num hn
      have hd := fun wx => DG.out n wx hn1
      have hl := host_len HX.out k hk
      have hl2 := itoa_len n hn1
      have HM := Lib.hid (host_more hn)
      clear hn hn1
      obtain ⟨A, hA⟩ : ∃ A, hostT x k = A := ⟨_, rfl⟩
      obtain ⟨D, hD⟩ : ∃ D, Lib.itoa n = D := ⟨_, rfl⟩
      rw [hA, hD] at HM
      rw [hA] at hl
      rw [hD] at hl2 hd
      rw [hA]
      have z1 : (⟨A.toArray⟩ : ByteArray).size = A.length := rfl
      have z2 : (⟨D.toArray⟩ : ByteArray).size = D.length := rfl
      have z3 : (⟨#[44]⟩ : ByteArray).size = 1 := rfl
      have e1 := ba_bytes A D
      have e2 := ba_comma (A ++ D)
      have z4 : (⟨(A ++ D).toArray⟩ : ByteArray).size = A.length + D.length := by show (A ++ D).length = _; simp
      generalize A ++ D = E at *
      generalize E ++ [44] = F at *
      have hl3 : A.length ≤ 124 := by omega
      clear hA hD hl
      go_wp2_with (go_at_call 29; refine (hd _).mono ?_; rintro e w' ⟨rfl, rfl⟩)
      go_round
      case rel => exact ⟨k + 1, by omega, by rw [HM.out], by go_num⟩
      case measure => simp [intOf]; omega
    · obtain rfl : k = 4 := by omega
      have hl := host_len HX.out 4 (by omega)
      have hT := HTX.out
      obtain ⟨A, hA⟩ : ∃ A, hostT x 4 = A := ⟨_, rfl⟩
      rw [hA] at hl ⊢
      rw [hA] at hT
      obtain ⟨q, hq⟩ : ∃ q, Int.tdiv x.port 256 = q := ⟨_, rfl⟩
      obtain ⟨r, hr⟩ : ∃ r, Int.tmod x.port 256 = r := ⟨_, rfl⟩
      have hqr : 256 * q + r = x.port := by rw [← hq, ← hr]; exact Int.mul_tdiv_add_tmod x.port 256
      have hrb : -256 < r ∧ r < 256 := by
        rw [← hr]
        exact ⟨Int.lt_tmod_of_pos x.port (by decide), Int.tmod_lt_of_pos x.port (by decide)⟩
      obtain ⟨f, hf⟩ : ∃ f, x.port / 256 = f := ⟨_, rfl⟩
      obtain ⟨g, hg⟩ : ∃ g, x.port % 256 = g := ⟨_, rfl⟩
      have hfb : -9223372036854775808 ≤ f ∧ f ≤ 9223372036854775807 := by omega
      have hgb : -9223372036854775808 ≤ g ∧ g ≤ 9223372036854775807 := by omega
      have hqb : -9223372036854775808 ≤ q ∧ q ≤ 9223372036854775807 := by omega
      have hqw : IntKind.i64.wrap q = q := IntWalk.i64_in _ hqb
      have DF := fun wx => DG.out f wx hfb
      have DE := fun wx => DG.out g wx hgb
      have hlf := itoa_len f hfb
      have hlg := itoa_len g hgb
      rw [hf, hg] at hT
      obtain ⟨F, hF⟩ : ∃ F, Lib.itoa f = F := ⟨_, rfl⟩
      obtain ⟨G, hG⟩ : ∃ G, Lib.itoa g = G := ⟨_, rfl⟩
      rw [hF, hG] at hT
      rw [hF] at DF hlf
      rw [hG] at DE hlg
      have HTT := Lib.hid hT
      have z1 : (⟨A.toArray⟩ : ByteArray).size = A.length := rfl
      have z2 : (⟨F.toArray⟩ : ByteArray).size = F.length := rfl
      have z3 : (⟨#[44]⟩ : ByteArray).size = 1 := rfl
      have z4 : (⟨G.toArray⟩ : ByteArray).size = G.length := rfl
      have e1 := ba_bytes A F
      have e2 := ba_comma (A ++ F)
      have e3 := ba_bytes (A ++ F ++ [44]) G
      have z5 : (⟨(A ++ F).toArray⟩ : ByteArray).size = A.length + F.length := by show (A ++ F).length = _; simp
      have z6 : (⟨(A ++ F ++ [44]).toArray⟩ : ByteArray).size = A.length + F.length + 1 := by show (A ++ F ++ [44]).length = _; simp; omega
      generalize A ++ F ++ [44] ++ G = E3 at *
      generalize A ++ F ++ [44] = E2 at *
      generalize A ++ F = E1 at *
      have hl3 : A.length ≤ 124 := by omega
      clear hA hl hT hF hG
      by_cases hneg : r < 0
      · have e4 : (r < 0) = True := eq_true hneg
        have e5 : IntKind.i64.wrap (q - 1) = f := by rw [IntWalk.i64_in _ ⟨by omega, by omega⟩]; omega
        have e6 : IntKind.i64.wrap (r + 256) = g := by rw [IntWalk.i64_in _ ⟨by omega, by omega⟩]; omega
        have e7 : q - 1 = f := by omega
        have e8 : r + 256 = g := by omega
        clear hf hg hqr
        go_wp2_with fail
        refine (DF _).mono ?_
        rintro e w' ⟨rfl, rfl⟩
        clear DF
        go_wp2_with fail
        refine (DE _).mono ?_
        rintro e w' ⟨rfl, rfl⟩
        clear DE
        go_wp2
        go_ret
        exact ⟨by first | rfl | (rw [HTT.out]; rfl), HB.out⟩
      · have e4 : (r < 0) = False := eq_false hneg
        have e5 : q = f := by omega
        have e6 : r = g := by omega
        clear hf hg hqr
        rw [e5] at hq hqw
        rw [e6] at hr e4
        go_wp2_with fail
        refine (DF _).mono ?_
        rintro e w' ⟨rfl, rfl⟩
        clear DF
        go_wp2_with fail
        refine (DE _).mono ?_
        rintro e w' ⟨rfl, rfl⟩
        clear DE
        go_wp2
        go_ret
        exact ⟨by first | rfl | (rw [HTT.out]; rfl), HB.out⟩
end Go.Proofs.YtonophhhndhhhaaDoor
