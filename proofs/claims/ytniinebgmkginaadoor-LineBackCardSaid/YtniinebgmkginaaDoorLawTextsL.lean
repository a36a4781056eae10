/- The walk of LineTexts. (Laid by wip/tools/gen_ltexts.py.) -/
import Derived.Test.YtniinebgmkginaaDoorLineLaw
import Derived.Test.YtniinebgmkginaaDoorRdB
import Derived.Test.YtniinebgmkginaaDoorRdCut
namespace Go.Proofs.YtniinebgmkginaaDoor
open Go.RowKit

set_option maxHeartbeats 8000000 in
set_option maxRecDepth 20000 in
theorem texts_blank (n : Int)  (m r N : Nat) (e1 : bits .and .i64 n 1023 = (m : Int)) (e2 : (m : Int).tmod 500 = (r : Int)) (e3 : (100 : Int) + (r : Int) = (N : Int)) (hN : N < 1000)
    (l q : List UInt8) (K KZ KT EZ ET T : ByteArray) (g1 : K ++ (⟨#[32]⟩ : ByteArray) = KZ) (g2 : KZ ++ T = KT) (g3 : (⟨#[45, 69, 82, 82]⟩ : ByteArray) ++ (⟨#[32]⟩ : ByteArray) = EZ) (g4 : EZ ++ T = ET) (z1 : K.size = 3) (z2 : KZ.size = 4) (z3 : EZ.size = 5) (z4 : T.size ≤ 200)
    (hsh : ∀ w, Calls Tryd.prog 9 #[.string (ba l)] w fun e w' => e = .returned (.string T) ∧ w' = w)
    (D : ∀ w, Calls Tryd.prog 16 #[.int .i64 (N : Int)] w fun e w' => e = .returned (.string K) ∧ Below w.heap.size w w')
    (S3 : ∀ w, Calls Tryd.prog 10 #[.int .i64 3, .string KT] w fun e w' => e = .returned (.tuple #[.agg #[.string K, .bool false, .string T], .bool true]) ∧ Below w.heap.size w w')
    (S2 : ∀ w, Calls Tryd.prog 10 #[.int .i64 2, .string ET] w fun e w' => e = .returned (.tuple #[.agg #[.string ⟨#[45]⟩, .bool false, .string T], .bool true]) ∧ Below w.heap.size w w') (w : World) :
    Calls Tryd.prog 7 #[.int .i64 n, .int .u8 32, .string (ba l)] w fun e w' => e = .returned (.bool true) ∧ Below w.heap.size w w' := by
  have q2 := stHeld
  have q3 := stGuard
  have hcv := fun w : World => bytes_string (Rd.made w [32] 5 (0, 0) 1 rfl (by decide))
  replace hcv : ∀ w : World, (convert 37 9 (.slice (some ⟨w.heap.size, 0, none⟩) 1 1)).run Tryd.prog (w.alloc (.cells #[.int .u8 32] 5)) = .ok (.string ⟨#[32]⟩) (w.alloc (.cells #[.int .u8 32] 5)) := hcv
  have zz : (⟨#[32]⟩ : ByteArray).size = 1 := rfl
  have z5 : (⟨#[45, 69, 82, 82]⟩ : ByteArray).size = 4 := rfl
  go_enter Tryd.func7, Tryd.ntmps7
  go_wp2_with (first
    | (go_at_call 8; refine (shown_any _).mono ?_; rintro e w1 ⟨rfl, hb1⟩)
    | (go_at_call 9; refine (hsh _).mono ?_; rintro e w' ⟨rfl, hw⟩; rw [hw]; clear hw)
    | (go_at_call 16; refine (D _).mono ?_; rintro e w2 ⟨rfl, hb2⟩; clear D; replace hb2 := hb1.trans (hb2.mono hb1.size); clear hb1)
    | (go_at_call 10; first
      | (refine (S3 _).mono ?_; rintro e w3 ⟨rfl, hb3⟩; clear S3; replace hb3 := (hb2.alloc hb2.size (.cells #[.int .u8 32] 5)).trans (hb3.mono (by have := hb2.size; simp; omega)); clear hb2)
      | (refine (S2 _).mono ?_; rintro e w4 ⟨rfl, hb4⟩; clear S2; have sA := (St3.new w3 K T false).same (hb4.block _ (by simp)); replace hb4 := (hb3.alloc hb3.size (.cells #[.string K, .bool false, .string T] 25)).trans (hb4.mono (by have := hb3.size; simp; omega)); clear hb3; have a0 := fun o o' => ((sA.alloc o).alloc o').c0; have a1 := fun o o' => ((sA.alloc o).alloc o').c1; have a2 := fun o o' => ((sA.alloc o).alloc o').c2)))
  go_ret
  exact ⟨rfl, (hb4.alloc hb4.size _).alloc (by rw [World.size_alloc]; have := hb4.size; omega) _⟩

set_option maxHeartbeats 8000000 in
set_option maxRecDepth 20000 in
theorem texts_sign (n : Int)  (m r N : Nat) (e1 : bits .and .i64 n 1023 = (m : Int)) (e2 : (m : Int).tmod 500 = (r : Int)) (e3 : (100 : Int) + (r : Int) = (N : Int)) (hN : N < 1000)
    (l q : List UInt8) (K KZ KT EZ ET T : ByteArray) (g1 : K ++ (⟨#[45]⟩ : ByteArray) = KZ) (g2 : KZ ++ T = KT) (g3 : (⟨#[45, 69, 82, 82]⟩ : ByteArray) ++ (⟨#[45]⟩ : ByteArray) = EZ) (g4 : EZ ++ T = ET) (z1 : K.size = 3) (z2 : KZ.size = 4) (z3 : EZ.size = 5) (z4 : T.size ≤ 200)
    (hsh : ∀ w, Calls Tryd.prog 9 #[.string (ba l)] w fun e w' => e = .returned (.string T) ∧ w' = w)
    (D : ∀ w, Calls Tryd.prog 16 #[.int .i64 (N : Int)] w fun e w' => e = .returned (.string K) ∧ Below w.heap.size w w')
    (S3 : ∀ w, Calls Tryd.prog 10 #[.int .i64 3, .string KT] w fun e w' => e = .returned (.tuple #[.agg #[.string K, .bool true, .string T], .bool true]) ∧ Below w.heap.size w w')
    (S2 : ∀ w, Calls Tryd.prog 10 #[.int .i64 2, .string ET] w fun e w' => e = .returned (.tuple #[.agg #[.string ⟨#[]⟩, .bool false, .string ⟨#[]⟩], .bool false]) ∧ Below w.heap.size w w') (w : World) :
    Calls Tryd.prog 7 #[.int .i64 n, .int .u8 45, .string (ba l)] w fun e w' => e = .returned (.bool true) ∧ Below w.heap.size w w' := by
  have q2 := stHeld
  have q3 := stGuard
  have hcv := fun w : World => bytes_string (Rd.made w [45] 5 (0, 0) 1 rfl (by decide))
  replace hcv : ∀ w : World, (convert 37 9 (.slice (some ⟨w.heap.size, 0, none⟩) 1 1)).run Tryd.prog (w.alloc (.cells #[.int .u8 45] 5)) = .ok (.string ⟨#[45]⟩) (w.alloc (.cells #[.int .u8 45] 5)) := hcv
  have zz : (⟨#[45]⟩ : ByteArray).size = 1 := rfl
  have z5 : (⟨#[45, 69, 82, 82]⟩ : ByteArray).size = 4 := rfl
  go_enter Tryd.func7, Tryd.ntmps7
  go_wp2_with (first
    | (go_at_call 8; refine (shown_any _).mono ?_; rintro e w1 ⟨rfl, hb1⟩)
    | (go_at_call 9; refine (hsh _).mono ?_; rintro e w' ⟨rfl, hw⟩; rw [hw]; clear hw)
    | (go_at_call 16; refine (D _).mono ?_; rintro e w2 ⟨rfl, hb2⟩; clear D; replace hb2 := hb1.trans (hb2.mono hb1.size); clear hb1)
    | (go_at_call 10; first
      | (refine (S3 _).mono ?_; rintro e w3 ⟨rfl, hb3⟩; clear S3; replace hb3 := (hb2.alloc hb2.size (.cells #[.int .u8 45] 5)).trans (hb3.mono (by have := hb2.size; simp; omega)); clear hb2)
      | (refine (S2 _).mono ?_; rintro e w4 ⟨rfl, hb4⟩; clear S2; have sA := (St3.new w3 K T true).same (hb4.block _ (by simp)); replace hb4 := (hb3.alloc hb3.size (.cells #[.string K, .bool true, .string T] 25)).trans (hb4.mono (by have := hb3.size; simp; omega)); clear hb3; have a0 := fun o o' => ((sA.alloc o).alloc o').c0; have a1 := fun o o' => ((sA.alloc o).alloc o').c1; have a2 := fun o o' => ((sA.alloc o).alloc o').c2)))
  go_ret
  exact ⟨rfl, (hb4.alloc hb4.size _).alloc (by rw [World.size_alloc]; have := hb4.size; omega) _⟩

set_option maxHeartbeats 8000000 in
set_option maxRecDepth 20000 in
theorem texts_other (n : Int) (z : UInt8) (n1 : ((z.toNat : Int) == 32) = false) (n2 : ((z.toNat : Int) == 45) = false) (n3 : ((z.toNat : Int) = 32) = False) (n4 : ((z.toNat : Int) = 45) = False) (m r N : Nat) (e1 : bits .and .i64 n 1023 = (m : Int)) (e2 : (m : Int).tmod 500 = (r : Int)) (e3 : (100 : Int) + (r : Int) = (N : Int)) (hN : N < 1000)
    (l q : List UInt8) (K KZ KT EZ ET T : ByteArray) (g1 : K ++ (⟨#[z]⟩ : ByteArray) = KZ) (g2 : KZ ++ T = KT) (g3 : (⟨#[45, 69, 82, 82]⟩ : ByteArray) ++ (⟨#[z]⟩ : ByteArray) = EZ) (g4 : EZ ++ T = ET) (z1 : K.size = 3) (z2 : KZ.size = 4) (z3 : EZ.size = 5) (z4 : T.size ≤ 200)
    (hsh : ∀ w, Calls Tryd.prog 9 #[.string (ba l)] w fun e w' => e = .returned (.string T) ∧ w' = w)
    (D : ∀ w, Calls Tryd.prog 16 #[.int .i64 (N : Int)] w fun e w' => e = .returned (.string K) ∧ Below w.heap.size w w')
    (S3 : ∀ w, Calls Tryd.prog 10 #[.int .i64 3, .string KT] w fun e w' => e = .returned (.tuple #[.agg #[.string ⟨#[]⟩, .bool false, .string ⟨#[]⟩], .bool false]) ∧ Below w.heap.size w w')
    (S2 : ∀ w, Calls Tryd.prog 10 #[.int .i64 2, .string ET] w fun e w' => e = .returned (.tuple #[.agg #[.string ⟨#[]⟩, .bool false, .string ⟨#[]⟩], .bool false]) ∧ Below w.heap.size w w') (w : World) :
    Calls Tryd.prog 7 #[.int .i64 n, .int .u8 (z.toNat : Int), .string (ba l)] w fun e w' => e = .returned (.bool true) ∧ Below w.heap.size w w' := by
  have q2 := stHeld
  have q3 := stGuard
  have hcv := fun w : World => bytes_string (Rd.made w [z] 5 (0, 0) 1 rfl (by decide))
  replace hcv : ∀ w : World, (convert 37 9 (.slice (some ⟨w.heap.size, 0, none⟩) 1 1)).run Tryd.prog (w.alloc (.cells #[.int .u8 (z.toNat : Int)] 5)) = .ok (.string ⟨#[z]⟩) (w.alloc (.cells #[.int .u8 (z.toNat : Int)] 5)) := hcv
  have zz : (⟨#[z]⟩ : ByteArray).size = 1 := rfl
  have z5 : (⟨#[45, 69, 82, 82]⟩ : ByteArray).size = 4 := rfl
  go_enter Tryd.func7, Tryd.ntmps7
  go_wp2_with (first
    | (go_at_call 8; refine (shown_any _).mono ?_; rintro e w1 ⟨rfl, hb1⟩)
    | (go_at_call 9; refine (hsh _).mono ?_; rintro e w' ⟨rfl, hw⟩; rw [hw]; clear hw)
    | (go_at_call 16; refine (D _).mono ?_; rintro e w2 ⟨rfl, hb2⟩; clear D; replace hb2 := hb1.trans (hb2.mono hb1.size); clear hb1)
    | (go_at_call 10; first
      | (refine (S3 _).mono ?_; rintro e w3 ⟨rfl, hb3⟩; clear S3; replace hb3 := (hb2.alloc hb2.size (.cells #[.int .u8 (z.toNat : Int)] 5)).trans (hb3.mono (by have := hb2.size; simp; omega)); clear hb2)
      | (refine (S2 _).mono ?_; rintro e w4 ⟨rfl, hb4⟩; clear S2; have sA := (St3.new w3 ⟨#[]⟩ ⟨#[]⟩ false).same (hb4.block _ (by simp)); replace hb4 := (hb3.alloc hb3.size (.cells #[.string ⟨#[]⟩, .bool false, .string ⟨#[]⟩] 25)).trans (hb4.mono (by have := hb3.size; simp; omega)); clear hb3; have a0 := fun o o' => ((sA.alloc o).alloc o').c0; have a1 := fun o o' => ((sA.alloc o).alloc o').c1; have a2 := fun o o' => ((sA.alloc o).alloc o').c2)))
  go_ret
  exact ⟨rfl, (hb4.alloc hb4.size _).alloc (by rw [World.size_alloc]; have := hb4.size; omega) _⟩

/-- Numbers that are made codes. -/
theorem code_of (n : Int) (hn : (Lit.int .i64 n).wf = true) : ∃ m r N : Nat, bits .and .i64 n 1023 = (m : Int) ∧ (m : Int).tmod 500 = (r : Int) ∧ (100 : Int) + (r : Int) = (N : Int) ∧ 100 ≤ N ∧ N < 600 := by
  refine ⟨(n % 1024).toNat, (n % 1024).toNat % 500, 100 + (n % 1024).toNat % 500, ?_, ?_, by omega, by omega, by omega⟩
  · rw [and_1023]; omega
  · rw [Int.tmod_eq_emod_of_nonneg (by omega)]; omega
theorem code_shape (N : Nat) (h1 : 100 ≤ N) (h2 : N < 600) : ∃ a b c, Ln.codeOf N = [a, b, c] ∧ Ln.first a = true ∧ Ln.digit b = true ∧ Ln.digit c = true := by
  have := Ln.code_digits ⟨N - 100, by omega⟩
  simp only [show 100 + (N - 100) = N from by omega] at this
  exact ⟨_, _, _, rfl, this⟩
theorem ba_append (a b : List UInt8) : ba a ++ ba b = ba (a ++ b) := by
  rw [ba, ba, one_append]
  simp [ba]
theorem dig_below (N : Nat) (h1 : 100 ≤ N) (h2 : N < 1000) (w : World) : Calls Tryd.prog 16 #[.int .i64 (N : Int)] w fun e w' => e = .returned (.string (ba (Ln.codeOf N))) ∧ Below w.heap.size w w' := by
  refine (digits_any N h1 h2 w).mono ?_
  rintro e w' ⟨he, q, rfl⟩
  exact ⟨he, rfl, rfl, rfl, Nat.le_refl _, fun _ _ => rfl⟩

theorem lawTexts (n c : Int) (a0 : ByteArray) (hn : (Lit.int .i64 n).wf = true) (hc : (Lit.int .u8 c).wf = true) (h0 : a0.size ≤ maxLen) (w : World) :
    Calls Tryd.prog 7 #[.int .i64 n, .int .u8 c, .string a0] w fun e w' => e = .returned (.bool true) ∧ Below w.heap.size w w' := by
  obtain ⟨l, rfl⟩ : ∃ l, a0 = ba l := ⟨a0.data.toList, (ba_self a0).symm⟩
  have hsh := short_any l h0
  have hql : (l.take 200).length ≤ 200 := by rw [List.length_take]; omega
  generalize l.take 200 = q at hsh hql
  obtain ⟨m, r, N, e1, e2, e3, h1, h2⟩ := code_of n hn
  have D := dig_below N h1 (by omega)
  obtain ⟨a, b, d, hk, ha, hb, hd⟩ := code_shape N h1 h2
  rw [hk] at D
  obtain ⟨z, hz⟩ : ∃ z : UInt8, c = (z.toNat : Int) := by
    have : 0 ≤ c ∧ c < 256 := by simp [Lit.wf, IntKind.min, IntKind.max, IntKind.bits, IntKind.signed] at hc; omega
    refine ⟨UInt8.ofNat c.toNat, ?_⟩
    rw [UInt8.toNat_ofNat_of_lt' (by show c.toNat < 256; omega)]
    omega
  have S3 := status_any 3 ([a, b, d] ++ [z] ++ q) (by simp; omega)
  have S2 := status_any 2 ([45, 69, 82, 82] ++ [z] ++ q) (by simp; omega)
  have v3 : Ln.status 3 ([a, b, d] ++ [z] ++ q) = Ln.tail3 [a, b, d] (z :: q) := Ln.num_tail ha hb hd _
  have v2 : Ln.status 2 ([45, 69, 82, 82] ++ [z] ++ q) = if z = 32 then some ⟨[45], false, q⟩ else none := Ln.pop_err z q
  rw [v3] at S3
  rw [v2] at S2
  have zq : (ba q).size ≤ 200 := hql
  by_cases h32 : z = 32
  · subst h32
    rw [hz]
    exact texts_blank n m r N e1 e2 e3 (by omega) l q (ba [a, b, d]) (ba ([a, b, d] ++ [32])) _ (ba ([45, 69, 82, 82] ++ [32])) _ (ba q) (ba_append _ [32]) (ba_append _ _) (ba_append _ [32]) (ba_append _ _) rfl rfl rfl zq hsh D S3 S2 w
  · rw [if_neg h32] at S2
    by_cases h45 : z = 45
    · subst h45
      rw [hz]
      exact texts_sign n m r N e1 e2 e3 (by omega) l q (ba [a, b, d]) (ba ([a, b, d] ++ [45])) _ (ba ([45, 69, 82, 82] ++ [45])) _ (ba q) (ba_append _ [45]) (ba_append _ _) (ba_append _ [45]) (ba_append _ _) rfl rfl rfl zq hsh D S3 S2 w
    · have v4 : Ln.tail3 [a, b, d] (z :: q) = none := by show (if z = 32 then some _ else if z = 45 then some _ else none) = none; rw [if_neg h32, if_neg h45]
      rw [v4] at S3
      have k32 : (z.toNat : Int) ≠ 32 := fun e => h32 (UInt8.toNat_inj.1 (by show z.toNat = 32; omega))
      have k45 : (z.toNat : Int) ≠ 45 := fun e => h45 (UInt8.toNat_inj.1 (by show z.toNat = 45; omega))
      rw [hz]
      exact texts_other n z (by simpa using k32) (by simpa using k45) (eq_false k32) (eq_false k45) m r N e1 e2 e3 (by omega) l q (ba [a, b, d]) (ba ([a, b, d] ++ [z])) _ (ba ([45, 69, 82, 82] ++ [z])) _ (ba q) (ba_append _ [z]) (ba_append _ _) (ba_append _ [z]) (ba_append _ _) rfl rfl rfl zq hsh D S3 S2 w
end Go.Proofs.YtniinebgmkginaaDoor
