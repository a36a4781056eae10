/- Whole numbers as words of IEEE 754: exact while below 2 to the 53rd; a port weighed; a rest rounded down. -/
import Derived.WalkLawsBesides
namespace Go.Proofs.YtonophhhndhhhaaDoor


/-- A word that stands for a whole number. -/
def Fx (b : Nat) (n : Int) : Prop := ∃ s m k, Ieee.double.read b = .number s m (-((k : Nat) : Int)) ∧ m = n.natAbs * 2 ^ k ∧ (if s then n ≤ 0 else 0 ≤ n)

theorem cut_even (s : Bool) (g d : Nat) : Ieee.Toward.even.cut s (g * 2 ^ d) d = g := by
  by_cases hg : g = 0
  · subst hg
    unfold Ieee.Toward.cut
    simp
  · have h1 : d ≤ (g * 2 ^ d).log2 := by
      rw [Nat.le_log2 (Nat.mul_ne_zero hg (Nat.ne_of_gt (Nat.two_pow_pos d)))]
      exact Nat.le_mul_of_pos_left _ (by omega)
    unfold Ieee.Toward.cut
    have h2 : min d ((g * 2 ^ d).log2 + 2) = d := by omega
    have hp : 0 < 2 ^ d := Nat.two_pow_pos d
    simp [h2, Nat.one_shiftLeft, Nat.mul_div_cancel _ hp, Nat.mul_mod_left]

theorem cut_zero (s : Bool) (g d : Nat) : Ieee.Toward.zero.cut s (g * 2 ^ d) d = g := by
  by_cases hg : g = 0
  · subst hg
    unfold Ieee.Toward.cut
    simp
  · have h1 : d ≤ (g * 2 ^ d).log2 := by
      rw [Nat.le_log2 (Nat.mul_ne_zero hg (Nat.ne_of_gt (Nat.two_pow_pos d)))]
      exact Nat.le_mul_of_pos_left _ (by omega)
    unfold Ieee.Toward.cut
    have h2 : min d ((g * 2 ^ d).log2 + 2) = d := by omega
    have hp : 0 < 2 ^ d := Nat.two_pow_pos d
    simp [h2, Nat.one_shiftLeft, Nat.mul_div_cancel _ hp]

theorem signW : Ieee.double.signWeight = 9223372036854775808 := by decide
theorem binadeW : Ieee.double.binade = 4503599627370496 := by decide
theorem infW : Ieee.double.infRung = 9218868437227405312 := by decide
theorem leastW : Ieee.double.leastPlace = -1074 := by decide

theorem read_word (s : Bool) (r : Nat) (h : r < 9218868437227405312) :
    Ieee.double.read (Ieee.double.word s r) = if r < 4503599627370496 then .number s r (-1074) else .number s (4503599627370496 + r % 4503599627370496) (-1074 + ((r / 4503599627370496 - 1 : Nat) : Int)) := by
  unfold Ieee.Format.read Ieee.Format.word
  rw [signW, binadeW, infW, leastW]
  cases s
  · have e1 : r / 9223372036854775808 % 2 = 0 := by omega
    have e2 : r % 9223372036854775808 = r := by omega
    simp [e1, e2, h]
  · have e1 : (9223372036854775808 + r) / 9223372036854775808 % 2 = 1 := by omega
    have e2 : (9223372036854775808 + r) % 9223372036854775808 = r := by omega
    simp only [↓reduceIte, e1, e2, h]
    rfl

theorem rung_at (B M q : Nat) (hB : 0 < B) (h1 : B ≤ M) (h2 : M < B + B) (hq : q ≤ 52) : ((1074 - q) * B + M) / B = 1075 - q ∧ B + ((1074 - q) * B + M) % B = M := by
  obtain ⟨x, rfl⟩ : ∃ x, M = B + x := ⟨M - B, by omega⟩
  have hx : x < B := by omega
  have e : (1074 - q) * B + (B + x) = x + B * (1075 - q) := by
    rw [show 1075 - q = (1074 - q) + 1 by omega, Nat.mul_add, Nat.mul_comm B (1074 - q)]
    omega
  rw [e, Nat.add_mul_div_left _ _ hB, Nat.add_mul_mod_self_left, Nat.div_eq_of_lt hx, Nat.mod_eq_of_lt hx]
  omega

/-- What is written of a whole number, exactly. -/
theorem fx_write (s : Bool) (N k : Nat) (hN : N < 9007199254740992) : Fx (Ieee.double.write (.number s (N * 2 ^ k) (-(k : Int)))) (if s then -(N : Int) else N) := by
  by_cases h0 : N = 0
  · subst h0
    have e : Ieee.double.write (.number s (0 * 2 ^ k) (-(k : Int))) = Ieee.double.word s 0 := by simp [Ieee.Format.write, Ieee.Format.nearest]
    rw [e]
    obtain ⟨K, hK⟩ : ∃ K : Nat, K = 1074 := ⟨_, rfl⟩
    refine ⟨s, 0, K, ?_, (by rw [show (if s = true then -((0 : Nat) : Int) else ((0 : Nat) : Int)).natAbs = 0 by cases s <;> rfl, Nat.zero_mul]), by cases s <;> simp⟩
    rw [read_word s 0 (by decide), hK]
    rfl
  · have hp : 0 < 2 ^ k := Nat.two_pow_pos k
    have hl : (N * 2 ^ k).log2 = N.log2 + k := by
      refine (Nat.log2_eq_iff (Nat.mul_ne_zero h0 (Nat.ne_of_gt hp))).2 ⟨?_, ?_⟩
      · rw [Nat.pow_add]; exact Nat.mul_le_mul_right _ (Nat.log2_self_le h0)
      · rw [Nat.add_right_comm, Nat.pow_add]; exact Nat.mul_lt_mul_of_pos_right Nat.lt_log2_self hp
    have hl52 : N.log2 ≤ 52 := by
      have : N.log2 < 53 := (Nat.log2_lt h0).2 (by omega)
      omega
    have hm : N * 2 ^ k ≠ 0 := Nat.mul_ne_zero h0 (Nat.ne_of_gt hp)
    obtain ⟨q, hq⟩ : ∃ q, q + N.log2 = 52 := ⟨52 - N.log2, by omega⟩
    have hkept : 4503599627370496 ≤ N * 2 ^ q ∧ N * 2 ^ q < 9007199254740992 := by
      have a := Nat.log2_self_le h0
      have b := Nat.lt_log2_self (n := N)
      have hq0 : 0 < 2 ^ q := Nat.two_pow_pos q
      constructor
      · have : 2 ^ N.log2 * 2 ^ q ≤ N * 2 ^ q := Nat.mul_le_mul_right _ a
        rw [← Nat.pow_add, Nat.add_comm, hq] at this
        exact this
      · have : N * 2 ^ q < 2 ^ (N.log2 + 1) * 2 ^ q := Nat.mul_lt_mul_of_pos_right b hq0
        rw [← Nat.pow_add, show N.log2 + 1 + q = 53 by omega] at this
        exact this
    have hlast : max (-(k : Int) + ((N * 2 ^ k).log2 : Int) - (Ieee.double.fractionBits : Int)) Ieee.double.leastPlace = -(q : Int) := by
      rw [leastW, hl]
      have : (Ieee.double.fractionBits : Int) = 52 := rfl
      rw [this]
      omega
    have hcut : Ieee.Toward.even.cut s ((N * 2 ^ k) <<< (-(k : Int) - -(q : Int)).toNat) (-(q : Int) - -(k : Int)).toNat = N * 2 ^ q := by
      by_cases h : k ≤ q
      · have e1 : (-(k : Int) - -(q : Int)).toNat = q - k := by omega
        have e2 : (-(q : Int) - -(k : Int)).toNat = 0 := by omega
        rw [e1, e2, Nat.shiftLeft_eq, Nat.mul_assoc, ← Nat.pow_add, show k + (q - k) = q by omega]
        have := cut_even s (N * 2 ^ q) 0
        simpa using this
      · have e1 : (-(k : Int) - -(q : Int)).toNat = 0 := by omega
        have e2 : (-(q : Int) - -(k : Int)).toNat = k - q := by omega
        rw [e1, e2, Nat.shiftLeft_zero]
        have := cut_even s (N * 2 ^ q) (k - q)
        rwa [Nat.mul_assoc, ← Nat.pow_add, show q + (k - q) = k by omega] at this
    have e : Ieee.double.write (.number s (N * 2 ^ k) (-(k : Int))) = Ieee.double.word s ((1074 - q) * 4503599627370496 + N * 2 ^ q) := by
      unfold Ieee.Format.write Ieee.Format.nearest
      dsimp only
      rw [if_neg hm, hlast, hcut, leastW, binadeW, infW]
      have : (-(q : Int) - -1074).toNat = 1074 - q := by omega
      rw [this, Nat.min_eq_left (Nat.le_trans (Nat.add_le_add (Nat.mul_le_mul_right _ (Nat.sub_le _ _)) (Nat.le_of_lt hkept.2)) (by decide))]
    have hr := rung_at 4503599627370496 (N * 2 ^ q) q (by decide) hkept.1 hkept.2 (by omega)
    have hbig : (1074 - q) * 4503599627370496 + N * 2 ^ q < 9218868437227405312 := Nat.lt_of_lt_of_le (Nat.add_lt_add_of_le_of_lt (Nat.mul_le_mul_right _ (Nat.sub_le _ _)) hkept.2) (by decide)
    have hsm : ¬ (1074 - q) * 4503599627370496 + N * 2 ^ q < 4503599627370496 := Nat.not_lt.2 (Nat.le_trans hkept.1 (Nat.le_add_left _ _))
    rw [e]
    clear e hcut hlast
    obtain ⟨M, hM⟩ : ∃ M, M = N * 2 ^ q := ⟨_, rfl⟩
    rw [← hM] at hkept hr hbig hsm ⊢
    generalize (1074 - q) * 4503599627370496 + M = R at *
    refine ⟨s, M, q, ?_, ?_, ?_⟩
    · rw [read_word s _ hbig, if_neg hsm, hr.1, hr.2, show (-1074 + ((1075 - q - 1 : Nat) : Int)) = -(q : Int) by omega]
    · rw [hM]; cases s <;> simp
    · cases s <;> simp

theorem fx_nearest (n : Int) (h : n.natAbs < 9007199254740992) : Fx (FloatKind.f64.nearest n) n := by
  have := fx_write (decide (n < 0)) n.natAbs 0 h
  simp only [Nat.pow_zero, Nat.mul_one] at this
  have e : (if decide (n < 0) = true then -(n.natAbs : Int) else n.natAbs) = n := by
    by_cases hn : n < 0 <;> simp [hn] <;> omega
  rw [e] at this
  exact this

theorem fx_mul (x y : Nat) (m n : Int) (hx : Fx x m) (hy : Fx y n) (h : (m * n).natAbs < 9007199254740992) : ∃ r, floatBits .mul .f64 x y = some r ∧ Fx r (m * n) := by
  obtain ⟨s, a, i, e1, rfl, s1⟩ := hx
  obtain ⟨t, b, j, e2, rfl, s2⟩ := hy
  refine ⟨_, show Ieee.double.mul x y = some _ by unfold Ieee.Format.mul; rw [e1, e2]; rfl, ?_⟩
  have := fx_write (s ^^ t) (m * n).natAbs (i + j) h
  rw [show m.natAbs * 2 ^ i * (n.natAbs * 2 ^ j) = (m * n).natAbs * 2 ^ (i + j) by rw [Int.natAbs_mul, Nat.pow_add]; simp only [Nat.mul_assoc, Nat.mul_left_comm], show -(i : Int) + -(j : Int) = -((i + j : Nat) : Int) by omega]
  have e : (if (s ^^ t) = true then -((m * n).natAbs : Int) else ((m * n).natAbs : Int)) = m * n := by
    rw [Int.natAbs_mul]
    cases s <;> cases t <;> simp at s1 s2 ⊢
    · rw [Int.ofNat_natAbs_of_nonneg s1, Int.ofNat_natAbs_of_nonneg s2]
    · rw [Int.ofNat_natAbs_of_nonneg s1, Int.ofNat_natAbs_of_nonpos s2, Int.mul_neg, Int.neg_neg]
    · rw [Int.ofNat_natAbs_of_nonpos s1, Int.ofNat_natAbs_of_nonneg s2, Int.neg_mul, Int.neg_neg]
    · rw [Int.ofNat_natAbs_of_nonpos s1, Int.ofNat_natAbs_of_nonpos s2, Int.neg_mul_neg]
  rwa [e] at this

theorem signed_eq (s : Bool) (n : Int) (i d K : Nat) (hs : if s then n ≤ 0 else 0 ≤ n) (hK : i + d = K) : Ieee.signed s (n.natAbs * 2 ^ i) d = n * ((2 ^ K : Nat) : Int) := by
  unfold Ieee.signed
  rw [Nat.shiftLeft_eq, Nat.mul_assoc, ← Nat.pow_add, hK]
  generalize 2 ^ K = B
  cases s
  · simp only [Bool.false_eq_true, if_false] at hs ⊢
    rw [Int.natCast_mul, Int.ofNat_natAbs_of_nonneg hs]
  · simp only [if_true] at hs ⊢
    rw [Int.natCast_mul, Int.ofNat_natAbs_of_nonpos hs, Int.neg_mul, Int.neg_neg]

theorem fx_sum (x : Nat) (m n : Int) (hx : Fx x m) (hy : Ieee.Datum) (hy' : ∃ s a k, hy = .number s a (-((k : Nat) : Int)) ∧ a = n.natAbs * 2 ^ k ∧ (if s then n ≤ 0 else 0 ≤ n)) (h : (m + n).natAbs < 9007199254740992) :
    ∃ r, ((Ieee.double.read x).sum hy).map Ieee.double.write = some r ∧ Fx r (m + n) := by
  obtain ⟨s, a, i, e1, rfl, s1⟩ := hx
  obtain ⟨t, b, j, rfl, rfl, s2⟩ := hy'
  rw [e1]
  obtain ⟨K, hK1, hK2, hK⟩ : ∃ K : Nat, i ≤ K ∧ j ≤ K ∧ min (-(i : Int)) (-(j : Int)) = -(K : Int) := ⟨max i j, by omega, by omega, by omega⟩
  unfold Ieee.Datum.sum
  dsimp only
  rw [hK, signed_eq s m i _ K s1 (by omega), signed_eq t n j _ K s2 (by omega), ← Int.add_mul]
  have hp : (0 : Int) < ((2 ^ K : Nat) : Int) := Int.natCast_pos.2 (Nat.two_pow_pos K)
  refine ⟨_, rfl, ?_⟩
  have e : ((m + n) * ((2 ^ K : Nat) : Int)).natAbs = (m + n).natAbs * 2 ^ K := by rw [Int.natAbs_mul, Int.natAbs_natCast]
  rw [e]
  generalize hs : (if (m + n) * ((2 ^ K : Nat) : Int) = 0 then s && t else decide ((m + n) * ((2 ^ K : Nat) : Int) < 0)) = sg
  have := fx_write sg (m + n).natAbs K h
  have e : (if sg = true then -((m + n).natAbs : Int) else ((m + n).natAbs : Int)) = m + n := by
    rw [← hs]
    by_cases h0 : m + n = 0
    · rw [h0]; simp
    · have h1 : ¬ (m + n) * ((2 ^ K : Nat) : Int) = 0 := Int.mul_ne_zero h0 (Int.ne_of_gt hp)
      rw [if_neg h1]
      by_cases hn : m + n < 0
      · have : (m + n) * ((2 ^ K : Nat) : Int) < 0 := Int.mul_neg_of_neg_of_pos hn hp
        rw [if_pos (decide_eq_true this)]; omega
      · have : ¬ (m + n) * ((2 ^ K : Nat) : Int) < 0 := Int.not_lt.2 (Int.mul_nonneg (by omega) (Int.le_of_lt hp))
        rw [if_neg (by rw [decide_eq_true_eq]; exact this)]; omega
  rwa [e] at this

theorem fx_add (x y : Nat) (m n : Int) (hx : Fx x m) (hy : Fx y n) (h : (m + n).natAbs < 9007199254740992) : ∃ r, floatBits .add .f64 x y = some r ∧ Fx r (m + n) := by
  obtain ⟨s, a, i, e1, h1, s1⟩ := hy
  exact fx_sum x m n hx _ ⟨s, a, i, e1, h1, s1⟩ h

theorem fx_sub (x y : Nat) (m n : Int) (hx : Fx x m) (hy : Fx y n) (h : (m - n).natAbs < 9007199254740992) : ∃ r, floatBits .sub .f64 x y = some r ∧ Fx r (m - n) := by
  obtain ⟨s, a, i, e1, h1, s1⟩ := hy
  refine fx_sum x m (-n) hx _ ⟨!s, a, i, (congrArg Ieee.Datum.opposite e1).trans rfl, by rw [Int.natAbs_neg]; exact h1, ?_⟩ h
  cases s <;> simp at s1 ⊢ <;> omega

theorem fx_int (b : Nat) (n : Int) (hb : Fx b n) (hn : n.natAbs < 9007199254740992) : floatToIntVal .f64 b .i64 = some n := by
  obtain ⟨s, a, i, e1, rfl, s1⟩ := hb
  have e2 : (FloatKind.f64.decode b).toInt .zero = some n := by
    show (Ieee.double.read b).toInt .zero = some n
    rw [e1]
    unfold Ieee.Datum.toInt Ieee.Datum.integral
    dsimp only
    rw [show (-(i : Int)).toNat = 0 by omega, show (-(-(i : Int))).toNat = i by omega, Nat.shiftLeft_zero, cut_zero]
    have := signed_eq s n 0 0 0 s1 rfl
    simpa using this
  unfold floatToIntVal
  rw [e2]
  have h1 : IntKind.min .i64 = -9223372036854775808 := by decide
  have h2 : IntKind.max .i64 = 9223372036854775807 := by decide
  simp only [h1, h2]
  rw [if_pos (by omega)]

/-- 256 and -1, as words. -/
theorem fx_256 : Fx 4643211215818981376 256 := ⟨false, 4503599627370496, 44, by decide, by decide, by decide⟩
theorem fx_neg1 : Fx 13830554455654793216 (-1) := ⟨true, 4503599627370496, 52, by decide, by decide, by decide⟩

/-- A port of its two numbers, weighed. -/
theorem port_bits (a b : Nat) (ha : a ≤ 255) (hb : b ≤ 255) : ∃ re im, cMulBits (FloatKind.f64.nearest a) (FloatKind.f64.nearest b) 4643211215818981376 13830554455654793216 = some (re, im) ∧ floatToIntVal .f64 re .i64 = some ((a * 256 + b : Nat) : Int) := by
  have fa := fx_nearest (a : Int) (by omega)
  have fb := fx_nearest (b : Int) (by omega)
  obtain ⟨ac, h1, f1⟩ := fx_mul _ _ _ _ fa fx_256 (by omega)
  obtain ⟨bd, h2, f2⟩ := fx_mul _ _ _ _ fb fx_neg1 (by omega)
  obtain ⟨re, h3, f3⟩ := fx_sub _ _ _ _ f1 f2 (by omega)
  obtain ⟨ad, h4, f4⟩ := fx_mul _ _ _ _ fa fx_neg1 (by omega)
  obtain ⟨bc, h5, f5⟩ := fx_mul _ _ _ _ fb fx_256 (by omega)
  obtain ⟨im, h6, f6⟩ := fx_add _ _ _ _ f4 f5 (by omega)
  refine ⟨re, im, ?_, ?_⟩
  · unfold cMulBits
    rw [h1, h2]
    simp only [Option.bind_some, h3, h4, h5, h6]
  · rw [fx_int re _ f3 (by omega)]
    congr 1
    omega

def okPart (r : Int) : Bool :=
  match floatBits .quo .f64 (FloatKind.f64.nearest r) 4643211215818981376 with
  | some q => (match FloatKind.f64.decode q with | .nan .. => false | d => floatToIntVal .f64 (FloatKind.f64.encode (d.integral .down)) .i64 == some (r / 256))
  | none => false

set_option maxRecDepth 100000 in
theorem part_all : ((List.range 511).all fun a => okPart ((a : Int) - 255)) = true := by decide +kernel

/-- A rest by 256, rounded down. -/
theorem part_bits (r : Int) (h1 : -255 ≤ r) (h2 : r ≤ 255) : ∃ q d, floatBits .quo .f64 (FloatKind.f64.nearest r) 4643211215818981376 = some q ∧ FloatKind.f64.decode q = d ∧ d.isNaN = false ∧
    floatToIntVal .f64 (FloatKind.f64.encode (d.integral .down)) .i64 = some (r / 256) := by
  have h := List.all_eq_true.1 part_all (r + 255).toNat (List.mem_range.2 (by omega))
  rw [show (((r + 255).toNat : Nat) : Int) - 255 = r by omega] at h
  unfold okPart at h
  split at h
  · rename_i q hq
    refine ⟨q, _, hq, rfl, ?_⟩
    split at h
    · cases h
    · rename_i d hd
      refine ⟨?_, ?_⟩
      · cases hq2 : FloatKind.f64.decode q with
        | nan s t => exact absurd hq2 (hd s t)
        | _ => rfl
      · exact eq_of_beq h
  · cases h
end Go.Proofs.YtonophhhndhhhaaDoor
