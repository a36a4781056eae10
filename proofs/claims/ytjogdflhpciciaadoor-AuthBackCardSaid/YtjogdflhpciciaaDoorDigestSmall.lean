/- digest's small functions walked, and the reference's. -/
import Derived.Test.YtjogdflhpciciaaDoorRdB
import Derived.Test.YtjogdflhpciciaaDoorBits
import Derived.Test.YtjogdflhpciciaaDoorMd5
import Derived.Deep.QuietTactic
import Derived.BigQuiet
namespace Go.Proofs.YtjogdflhpciciaaDoor
open Go.RowKit

/-- A word as a value. -/
abbrev uv (n : Nat) : Value := .int .u32 (n : Int)

section
variable {a b c d : Nat}
theorem and_w (_hb : b < 4294967296) (_ha : a < 4294967296) : a &&& b < 4294967296 := Nat.and_lt_two_pow (n := 32) _ (by omega)
theorem or_w (_ha : a < 4294967296) (_hb : b < 4294967296) : a ||| b < 4294967296 := Nat.or_lt_two_pow (n := 32) (by omega) (by omega)
theorem xor_w (_ha : a < 4294967296) (_hb : b < 4294967296) : a ^^^ b < 4294967296 := Nat.xor_lt_two_pow (n := 32) (by omega) (by omega)
theorem inv_lt (a : Nat) : Md5.inv a < 4294967296 := by unfold Md5.inv; omega
theorem inv_u32 (ha : a < 4294967296) : bits .xor .u32 IntKind.u32.max (a : Int) = ((Md5.inv a : Nat) : Int) := by
  have h1 : BitVec.ofInt 32 IntKind.u32.max = BitVec.allOnes 32 := by decide
  show IntKind.u32.wrap ((BitVec.ofInt 32 IntKind.u32.max ^^^ BitVec.ofInt 32 (a : Int)).toNat : Int) = _
  rw [h1, BitVec.allOnes_xor, BitVec.toNat_not, ofInt_u32 a ha, IntKind.wrap_u32', Md5.inv]
  omega

theorem mix0 (hb : b < 4294967296) (hc : c < 4294967296) (hd : d < 4294967296) : bits .or .u32 (bits .and .u32 (b : Int) (c : Int)) (bits .and .u32 (bits .xor .u32 IntKind.u32.max (b : Int)) (d : Int)) = (((b &&& c) ||| (Md5.inv b &&& d) : Nat) : Int) := by
  rw [inv_u32 hb, u32_and_nat _ _ hb hc, u32_and_nat _ _ (inv_lt b) hd, u32_or_nat _ _ (and_w hc hb) (and_w hd (inv_lt b))]
theorem mix2 (hb : b < 4294967296) (hc : c < 4294967296) (hd : d < 4294967296) : bits .xor .u32 (bits .xor .u32 (b : Int) (c : Int)) (d : Int) = (((b ^^^ c) ^^^ d : Nat) : Int) := by
  rw [u32_xor_nat _ _ hb hc, u32_xor_nat _ _ (xor_w hb hc) hd]
theorem mix3 (hb : b < 4294967296) (hc : c < 4294967296) (hd : d < 4294967296) : bits .xor .u32 (c : Int) (bits .or .u32 (b : Int) (bits .xor .u32 IntKind.u32.max (d : Int))) = ((c ^^^ (b ||| Md5.inv d) : Nat) : Int) := by
  rw [inv_u32 hd, u32_or_nat _ _ hb (inv_lt d), u32_xor_nat _ _ hc (or_w hb (inv_lt d))]
theorem mixF_lt (i : Nat) (hb : b < 4294967296) (hc : c < 4294967296) (hd : d < 4294967296) : Md5.mixF i b c d < 4294967296 := by
  unfold Md5.mixF
  split
  · exact or_w (and_w hc hb) (and_w hd (inv_lt b))
  split
  · exact or_w (and_w hb hd) (and_w hc (inv_lt d))
  split
  · exact xor_w (xor_w hb hc) hd
  · exact xor_w hc (or_w hb (inv_lt d))
theorem mixG_lt {i : Nat} (hi : i < 64) : Md5.mixG i < 16 := by
  unfold Md5.mixG
  repeat' split
  all_goals omega
end

section
variable {i b c d : Nat}
theorem mixF0 (h : i < 16) (hb : b < 4294967296) (hc : c < 4294967296) (hd : d < 4294967296) : bits .or .u32 (bits .and .u32 (b : Int) (c : Int)) (bits .and .u32 (bits .xor .u32 IntKind.u32.max (b : Int)) (d : Int)) = ((Md5.mixF i b c d : Nat) : Int) := by
  rw [mix0 hb hc hd, Md5.mixF, if_pos (by omega)]
theorem mixF1 (h : 16 ≤ i) (h2 : i < 32) (hb : b < 4294967296) (hc : c < 4294967296) (hd : d < 4294967296) : bits .or .u32 (bits .and .u32 (d : Int) (b : Int)) (bits .and .u32 (bits .xor .u32 IntKind.u32.max (d : Int)) (c : Int)) = ((Md5.mixF i b c d : Nat) : Int) := by
  rw [mix0 hd hb hc, Md5.mixF, if_neg (by omega), if_pos (by omega)]
theorem mixF2 (h : 32 ≤ i) (h2 : i < 48) (hb : b < 4294967296) (hc : c < 4294967296) (hd : d < 4294967296) : bits .xor .u32 (bits .xor .u32 (b : Int) (c : Int)) (d : Int) = ((Md5.mixF i b c d : Nat) : Int) := by
  rw [mix2 hb hc hd, Md5.mixF, if_neg (by omega), if_neg (by omega), if_pos (by omega)]
theorem mixF3 (h : 48 ≤ i) (h2 : i < 64) (hb : b < 4294967296) (hc : c < 4294967296) (hd : d < 4294967296) : bits .xor .u32 (c : Int) (bits .or .u32 (b : Int) (bits .xor .u32 IntKind.u32.max (d : Int))) = ((Md5.mixF i b c d : Nat) : Int) := by
  rw [mix3 hb hc hd, Md5.mixF, if_neg (by omega), if_neg (by omega), if_neg (by omega)]
end
theorem mixG0 {i : Nat} (h : i < 16) : (i : Int) = (Md5.mixG i : Int) := by rw [Md5.mixG, if_pos (by omega)]
theorem mixG1 {i : Nat} (h : 16 ≤ i) (h2 : i < 32) : (5 * (i : Int) + 1) % 16 = (Md5.mixG i : Int) := by
  rw [Md5.mixG, if_neg (by omega), if_pos (by omega)]; omega
theorem mixG2 {i : Nat} (h : 32 ≤ i) (h2 : i < 48) : (3 * (i : Int) + 5) % 16 = (Md5.mixG i : Int) := by
  rw [Md5.mixG, if_neg (by omega), if_neg (by omega), if_pos (by omega)]; omega
theorem mixG3 {i : Nat} (h : 48 ≤ i) (h2 : i < 64) : 7 * (i : Int) % 16 = (Md5.mixG i : Int) := by
  rw [Md5.mixG, if_neg (by omega), if_neg (by omega), if_neg (by omega)]; omega
theorem ret_ui {F G : Int} {x : Nat} {y : Nat} (h1 : F = (x : Int)) (h2 : G = (y : Int)) : Ending.returned (.tuple #[.int .u32 F, .int .i64 G]) = .returned (.tuple #[uv x, .int .i64 (y : Int)]) := by rw [h1, h2]

theorem choose_any (i b c d : Nat) (hi : i < 64) (hb : b < 4294967296) (hc : c < 4294967296) (hd : d < 4294967296) (w : World) :
    Calls Tryd.prog 53 #[.int .i64 (i : Int), uv b, uv c, uv d] w fun e w' => e = .returned (.tuple #[uv (Md5.mixF i b c d), .int .i64 (Md5.mixG i : Int)]) ∧ w = w' := by
  by_cases h0 : i < 16
  · have e0 : ((i : Int) / 16 == 0) = true := beq_iff_eq.2 (by omega)
    go_enter Tryd.func53, Tryd.ntmps53
    go_wp2
    go_ret2
    exact ⟨ret_ui (mixF0 h0 hb hc hd) (mixG0 h0), rfl⟩
  have e0 : ((i : Int) / 16 == 0) = false := beq_eq_false_iff_ne.2 (by omega)
  by_cases h1 : i < 32
  · have e1 : ((i : Int) / 16 == 1) = true := beq_iff_eq.2 (by omega)
    go_enter Tryd.func53, Tryd.ntmps53
    go_wp2
    go_ret2
    exact ⟨ret_ui (mixF1 (by omega) h1 hb hc hd) (mixG1 (by omega) h1), rfl⟩
  have e1 : ((i : Int) / 16 == 1) = false := beq_eq_false_iff_ne.2 (by omega)
  by_cases h2 : i < 48
  · have e2 : ((i : Int) / 16 == 2) = true := beq_iff_eq.2 (by omega)
    go_enter Tryd.func53, Tryd.ntmps53
    go_wp2
    go_ret2
    exact ⟨ret_ui (mixF2 (by omega) h2 hb hc hd) (mixG2 (by omega) h2), rfl⟩
  have e2 : ((i : Int) / 16 == 2) = false := beq_eq_false_iff_ne.2 (by omega)
  go_enter Tryd.func53, Tryd.ntmps53
  go_wp2
  go_ret2
  exact ⟨ret_ui (mixF3 (by omega) hi hb hc hd) (mixG3 (by omega) hi), rfl⟩

theorem round_any (i b c d : Nat) (hi : i < 64) (hb : b < 4294967296) (hc : c < 4294967296) (hd : d < 4294967296) (w : World) :
    Calls Tryd.prog 43 #[.int .i64 (i : Int), uv b, uv c, uv d] w fun e w' => e = .returned (.tuple #[uv (Md5.mixF i b c d), .int .i64 (Md5.mixG i : Int)]) ∧ w = w' := by
  by_cases h0 : i < 16
  · have e0 : ((i : Int) / 16 == 0) = true := beq_iff_eq.2 (by omega)
    go_enter Tryd.func43, Tryd.ntmps43
    go_wp2
    go_ret2
    exact ⟨ret_ui (mixF0 h0 hb hc hd) (mixG0 h0), rfl⟩
  have e0 : ((i : Int) / 16 == 0) = false := beq_eq_false_iff_ne.2 (by omega)
  by_cases h1 : i < 32
  · have e1 : ((i : Int) / 16 == 1) = true := beq_iff_eq.2 (by omega)
    go_enter Tryd.func43, Tryd.ntmps43
    go_wp2
    go_ret2
    exact ⟨ret_ui (mixF1 (by omega) h1 hb hc hd) (mixG1 (by omega) h1), rfl⟩
  have e1 : ((i : Int) / 16 == 1) = false := beq_eq_false_iff_ne.2 (by omega)
  by_cases h2 : i < 48
  · have e2 : ((i : Int) / 16 == 2) = true := beq_iff_eq.2 (by omega)
    go_enter Tryd.func43, Tryd.ntmps43
    go_wp2
    go_ret2
    exact ⟨ret_ui (mixF2 (by omega) h2 hb hc hd) (mixG2 (by omega) h2), rfl⟩
  have e2 : ((i : Int) / 16 == 2) = false := beq_eq_false_iff_ne.2 (by omega)
  go_enter Tryd.func43, Tryd.ntmps43
  go_wp2
  go_ret2
  exact ⟨ret_ui (mixF3 (by omega) hi hb hc hd) (mixG3 (by omega) hi), rfl⟩

theorem wraps_u64 (n : Int) (h₀ : 0 ≤ n) (h₁ : n < 2 ^ 64) : IntKind.u64.wrap n = n := by rw [IntKind.wrap_u64]; omega
theorem rot_bits {x s : Nat} (hx : x < 4294967296) (_h1 : 1 ≤ s) (_h2 : s < 32) : bits .or .u32 ((x : Int) * 2 ^ s % 4294967296) ((x : Int) / 2 ^ (32 - s)) = ((Md5.rot x s : Nat) : Int) := by
  have e1 : (x : Int) * 2 ^ s % 4294967296 = ((x * 2 ^ s % 4294967296 : Nat) : Int) := by simp
  have e2 : (x : Int) / 2 ^ (32 - s) = ((x / 2 ^ (32 - s) : Nat) : Int) := by simp
  have hd : x / 2 ^ (32 - s) ≤ x := Nat.div_le_self _ _
  rw [e1, e2, u32_or_nat _ _ (Nat.mod_lt _ (by decide)) (by omega), Md5.rot]
theorem rot_lt {x s : Nat} (hx : x < 4294967296) : Md5.rot x s < 4294967296 := by
  have hd : x / 2 ^ (32 - s) ≤ x := Nat.div_le_self _ _
  exact or_w (Nat.mod_lt _ (by decide)) (by omega)

theorem rotate_any (x s : Nat) (hx : x < 4294967296) (h1 : 1 ≤ s) (h2 : s < 32) (w : World) :
    Calls Tryd.prog 54 #[uv x, .int .i64 (s : Int)] w fun e w' => e = .returned (uv (Md5.rot x s)) ∧ w = w' := by
  have hm : bits .and .u64 (s : Int) 31 = (s : Int) := by
    rw [show (31 : Int) = 2 ^ 5 - 1 from rfl, bits_mask .u64 64 (by decide) wraps_u64 5 (by decide) _ (by omega) (by omega)]
    omega
  go_enter Tryd.func54, Tryd.ntmps54
  go_wp2
  go_ret
  exact ⟨congrArg (fun z => Ending.returned (.int .u32 z)) (rot_bits hx h1 h2), rfl⟩

theorem turned_any (x s : Nat) (hx : x < 4294967296) (h1 : 1 ≤ s) (h2 : s < 32) (w : World) :
    Calls Tryd.prog 44 #[uv x, .int .i64 (s : Int)] w fun e w' => e = .returned (uv (Md5.rot x s)) ∧ ∃ k, w' = w.drewN k := by
  have i0 : (0 : Int) ≤ (s : Int) := Int.natCast_nonneg _
  have i1 : (0 : Int) ≤ 32 - (s : Int) := by omega
  go_enter Tryd.func44, Tryd.ntmps44
  go_wp2
  go_quiet (fail)
  go_wp2
  go_ret
  exact ⟨congrArg (fun z => Ending.returned (.int .u32 z)) (rot_bits hx h1 h2), nq, rfl⟩

/-- The four bytes of a word, the lowest first. -/
theorem wordr_any (v : Value) (xs : List UInt8) (p : Nat) (w : World) (h : Rd w v (xs.map bv)) (hs : xs.length ≤ 1048576) (hp : p + 4 ≤ xs.length) :
    Calls Tryd.prog 45 #[v, .int .i64 (p : Int)] w fun e w' => e = .returned (uv (Md5.word xs p)) ∧ ∃ k, w' = w.drewN k := by
  obtain ⟨ao, cap, rfl, hcap, hc⟩ := h.form
  obtain ⟨b, o, rfl, hm, hc⟩ := hc (by omega)
  have c0 := hc p (by omega)
  have c1 := hc (p + 1) (by omega)
  have c2 := hc (p + 2) (by omega)
  have c3 := hc (p + 3) (by omega)
  unfold Md5.word
  unfold bv at c0 c1 c2 c3
  have b0 := (xs.getD p 0).toNat_lt
  have b1 := (xs.getD (p + 1) 0).toNat_lt
  have b2 := (xs.getD (p + 2) 0).toNat_lt
  have b3 := (xs.getD (p + 3) 0).toNat_lt
  generalize (xs.getD p 0).toNat = x0 at c0 b0 ⊢
  generalize (xs.getD (p + 1) 0).toNat = x1 at c1 b1 ⊢
  generalize (xs.getD (p + 2) 0).toNat = x2 at c2 b2 ⊢
  generalize (xs.getD (p + 3) 0).toNat = x3 at c3 b3 ⊢
  generalize xs.length = L at hs hp hcap ⊢
  clear hc h
  have i0 : (0 : Int) ≤ (p : Int) := Int.natCast_nonneg _
  have i1 : (p : Int) < (L : Int) := by omega
  have i2 : IntKind.i64.wrap ((p : Int) + 1) = (p : Int) + 1 := wraps_i64 _ (by omega) (by omega)
  have i3 : IntKind.i64.wrap ((p : Int) + 2) = (p : Int) + 2 := wraps_i64 _ (by omega) (by omega)
  have i4 : IntKind.i64.wrap ((p : Int) + 3) = (p : Int) + 3 := wraps_i64 _ (by omega) (by omega)
  have i5 : (0 : Int) ≤ (p : Int) + 1 := by omega
  have i6 : (0 : Int) ≤ (p : Int) + 2 := by omega
  have i7 : (0 : Int) ≤ (p : Int) + 3 := by omega
  have i8 : (p : Int) + 1 < (L : Int) := by omega
  have i9 : (p : Int) + 2 < (L : Int) := by omega
  have i10 : (p : Int) + 3 < (L : Int) := by omega
  go_enter Tryd.func45, Tryd.ntmps45
  go_wp2
  go_quiet (fail)
  go_wp2
  go_ret
  refine ⟨congrArg (fun z => Ending.returned (.int .u32 z)) ?_, nq, rfl⟩
  omega
end Go.Proofs.YtjogdflhpciciaaDoor
