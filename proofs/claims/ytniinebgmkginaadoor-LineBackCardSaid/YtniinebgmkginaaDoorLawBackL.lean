/- The walk of LineBack. (Laid by wip/tools/gen_lback.py.) -/
import Derived.Test.YtniinebgmkginaaDoorLawTextsL
import Derived.Test.YtniinebgmkginaaDoorLineCodes
import Derived.Test.YtniinebgmkginaaDoorLineMatch
namespace Go.Proofs.YtniinebgmkginaaDoor
open Go.RowKit

theorem below_five {n : Nat} {w w' : World} (h : Below n w w') (hn : n ≤ w'.heap.size) (o1 o2 o3 o4 o5 : Obj) : Below n w (((((w'.alloc o1).alloc o2).alloc o3).alloc o4).alloc o5) :=
  ((((h.alloc hn o1).alloc (by rw [World.size_alloc]; omega) o2).alloc (by rw [World.size_alloc, World.size_alloc]; omega) o3).alloc (by rw [World.size_alloc, World.size_alloc, World.size_alloc]; omega) o4).alloc (by rw [World.size_alloc, World.size_alloc, World.size_alloc, World.size_alloc]; omega) o5

set_option maxHeartbeats 16000000 in
set_option maxRecDepth 20000 in
theorem back_more (n : Int) (m r N : Nat) (e1 : bits .and .i64 n 1023 = (m : Int)) (e2 : (m : Int).tmod 500 = (r : Int)) (e3 : (100 : Int) + (r : Int) = (N : Int)) (hN : N < 1000)
    (l : List UInt8) (K KB KT OT AT K1 K2 N2 T : ByteArray) (g1 : K ++ (⟨#[45]⟩ : ByteArray) = KB) (g2 : KB ++ T = KT) (g3 : (⟨#[43, 79, 75, 32]⟩ : ByteArray) ++ T = OT) (g4 : (⟨#[43, 32]⟩ : ByteArray) ++ T = AT) (g5 : K.extract 0 1 = K1) (g6 : K.extract 0 2 = K2) (g7 : (⟨#[57, 44]⟩ : ByteArray) ++ K2 = N2)
    (z1 : K.size = 3) (z2 : KB.size = 4) (z3 : K2.size = 2) (z4 : T.size ≤ 200)
    (hsh : ∀ w, Calls Tryd.prog 9 #[.string (ba l)] w fun e w' => e = .returned (.string T) ∧ w' = w)
    (D : ∀ w, Calls Tryd.prog 16 #[.int .i64 (N : Int)] w fun e w' => e = .returned (.string K) ∧ Below w.heap.size w w')
    (S1 : ∀ w, Calls Tryd.prog 10 #[.int .i64 1, .string KT] w fun e w' => e = .returned (.tuple #[.agg #[.string K, .bool true, .string T], .bool true]) ∧ Below w.heap.size w w')
    (S2 : ∀ w, Calls Tryd.prog 10 #[.int .i64 3, .string KT] w fun e w' => e = .returned (.tuple #[.agg #[.string K, .bool true, .string T], .bool true]) ∧ Below w.heap.size w w')
    (S3 : ∀ w, Calls Tryd.prog 10 #[.int .i64 2, .string KT] w fun e w' => e = .returned (.tuple #[.agg #[.string ⟨#[]⟩, .bool false, .string ⟨#[]⟩], .bool false]) ∧ Below w.heap.size w w')
    (S4 : ∀ w, Calls Tryd.prog 10 #[.int .i64 1, .string K] w fun e w' => e = .returned (.tuple #[.agg #[.string K, .bool false, .string ⟨#[]⟩], .bool true]) ∧ Below w.heap.size w w')
    (S5 : ∀ w, Calls Tryd.prog 10 #[.int .i64 2, .string OT] w fun e w' => e = .returned (.tuple #[.agg #[.string ⟨#[43]⟩, .bool false, .string T], .bool true]) ∧ Below w.heap.size w w')
    (S6 : ∀ w, Calls Tryd.prog 10 #[.int .i64 1, .string OT] w fun e w' => e = .returned (.tuple #[.agg #[.string ⟨#[]⟩, .bool false, .string ⟨#[]⟩], .bool false]) ∧ Below w.heap.size w w')
    (S7 : ∀ w, Calls Tryd.prog 10 #[.int .i64 2, .string AT] w fun e w' => e = .returned (.tuple #[.agg #[.string ⟨#[62]⟩, .bool false, .string T], .bool true]) ∧ Below w.heap.size w w')
    (CC : ∀ w, Calls Tryd.prog 12 #[.int .i64 1, .string K] w fun e w' => e = .returned (.bool true) ∧ Below w.heap.size w w')
    (M1 : ∀ w, Calls Tryd.prog 14 #[.string K, .string K] w fun e w' => e = .returned (.bool true) ∧ Below w.heap.size w w')
    (M2 : ∀ w, Calls Tryd.prog 14 #[.string K1, .string K] w fun e w' => e = .returned (.bool true) ∧ Below w.heap.size w w')
    (M3 : ∀ w, Calls Tryd.prog 14 #[.string N2, .string K] w fun e w' => e = .returned (.bool true) ∧ Below w.heap.size w w') (w : World) :
    Calls Tryd.prog 4 #[.int .i64 n, .string (ba l), .bool true] w fun e w' => e = .returned (.bool true) ∧ Below w.heap.size w w' := by
  have q2 := stHeld
  have q3 := stGuard
  have y1 : (⟨#[45]⟩ : ByteArray).size = 1 := rfl
  have y2 : (⟨#[43, 79, 75, 32]⟩ : ByteArray).size = 4 := rfl
  have y3 : (⟨#[43, 32]⟩ : ByteArray).size = 2 := rfl
  have y4 : (⟨#[57, 44]⟩ : ByteArray).size = 2 := rfl
  go_enter Tryd.func4, Tryd.ntmps4
  go_wp2_with (first
    | (go_at_call 8; refine (shown_any _).mono ?_; rintro e w1 ⟨rfl, hb1⟩)
    | (go_at_call 9; refine (hsh _).mono ?_; rintro e w' ⟨rfl, hw⟩; rw [hw]; clear hw)
    | (go_at_call 16; refine (D _).mono ?_; rintro e w2 ⟨rfl, hb2⟩; clear D; replace hb2 := hb1.trans (hb2.mono hb1.size); clear hb1)
    | (go_at_call 10; first
      | (refine (S1 _).mono ?_; rintro e w3 ⟨rfl, hb3⟩; clear S1; replace hb3 := hb2.trans (hb3.mono hb2.size); clear hb2)
      | (refine (S2 _).mono ?_; rintro e w4 ⟨rfl, hb4⟩; clear S2; have sA := (St3.new w3 K T true).same (hb4.block _ (by simp)); replace hb4 := (hb3.alloc hb3.size (.cells #[.string K, .bool true, .string T] 25)).trans (hb4.mono (by have := hb3.size; simp; omega)); clear hb3)
      | (refine (S3 _).mono ?_; rintro e w5 ⟨rfl, hb5⟩; clear S3; replace sA := (sA.alloc (.cells #[.string K, .bool true, .string T] 25)).same (hb5.block _ (by have := sA.lt; simp; omega)); have sB := (St3.new w4 K T true).same (hb5.block _ (by simp)); replace hb5 := (hb4.alloc hb4.size (.cells #[.string K, .bool true, .string T] 25)).trans (hb5.mono (by have := hb4.size; simp; omega)); clear hb4)
      | (refine (S4 _).mono ?_; rintro e w6 ⟨rfl, hb6⟩; clear S4; replace sA := (sA.alloc (.cells #[.string ⟨#[]⟩, .bool false, .string ⟨#[]⟩] 25)).same (hb6.block _ (by have := sA.lt; simp; omega)); replace sB := (sB.alloc (.cells #[.string ⟨#[]⟩, .bool false, .string ⟨#[]⟩] 25)).same (hb6.block _ (by have := sB.lt; simp; omega)); replace hb6 := (hb5.alloc hb5.size (.cells #[.string ⟨#[]⟩, .bool false, .string ⟨#[]⟩] 25)).trans (hb6.mono (by have := hb5.size; simp; omega)); clear hb5)
      | (refine (S5 _).mono ?_; rintro e w7 ⟨rfl, hb7⟩; clear S5; replace sA := (sA.alloc (.cells #[.string K, .bool false, .string ⟨#[]⟩] 25)).same (hb7.block _ (by have := sA.lt; simp; omega)); replace sB := (sB.alloc (.cells #[.string K, .bool false, .string ⟨#[]⟩] 25)).same (hb7.block _ (by have := sB.lt; simp; omega)); have sC := (St3.new w6 K ⟨#[]⟩ false).same (hb7.block _ (by simp)); replace hb7 := (hb6.alloc hb6.size (.cells #[.string K, .bool false, .string ⟨#[]⟩] 25)).trans (hb7.mono (by have := hb6.size; simp; omega)); clear hb6)
      | (refine (S6 _).mono ?_; rintro e w8 ⟨rfl, hb8⟩; clear S6; replace sA := (sA.alloc (.cells #[.string ⟨#[43]⟩, .bool false, .string T] 25)).same (hb8.block _ (by have := sA.lt; simp; omega)); replace sB := (sB.alloc (.cells #[.string ⟨#[43]⟩, .bool false, .string T] 25)).same (hb8.block _ (by have := sB.lt; simp; omega)); replace sC := (sC.alloc (.cells #[.string ⟨#[43]⟩, .bool false, .string T] 25)).same (hb8.block _ (by have := sC.lt; simp; omega)); have sD := (St3.new w7 ⟨#[43]⟩ T false).same (hb8.block _ (by simp)); replace hb8 := (hb7.alloc hb7.size (.cells #[.string ⟨#[43]⟩, .bool false, .string T] 25)).trans (hb8.mono (by have := hb7.size; simp; omega)); clear hb7)
      | (refine (S7 _).mono ?_; rintro e w9 ⟨rfl, hb9⟩; clear S7; replace sA := (sA.alloc (.cells #[.string ⟨#[]⟩, .bool false, .string ⟨#[]⟩] 25)).same (hb9.block _ (by have := sA.lt; simp; omega)); replace sB := (sB.alloc (.cells #[.string ⟨#[]⟩, .bool false, .string ⟨#[]⟩] 25)).same (hb9.block _ (by have := sB.lt; simp; omega)); replace sC := (sC.alloc (.cells #[.string ⟨#[]⟩, .bool false, .string ⟨#[]⟩] 25)).same (hb9.block _ (by have := sC.lt; simp; omega)); replace sD := (sD.alloc (.cells #[.string ⟨#[]⟩, .bool false, .string ⟨#[]⟩] 25)).same (hb9.block _ (by have := sD.lt; simp; omega)); replace hb9 := (hb8.alloc hb8.size (.cells #[.string ⟨#[]⟩, .bool false, .string ⟨#[]⟩] 25)).trans (hb9.mono (by have := hb8.size; simp; omega)); clear hb8; have sA0 := fun o1 o2 => ((sA.alloc o1).alloc o2).c0; have sA1 := fun o1 o2 => ((sA.alloc o1).alloc o2).c1; have sA2 := fun o1 o2 => ((sA.alloc o1).alloc o2).c2; have sB0 := fun o1 o2 => ((sB.alloc o1).alloc o2).c0; have sB1 := fun o1 o2 => ((sB.alloc o1).alloc o2).c1; have sB2 := fun o1 o2 => ((sB.alloc o1).alloc o2).c2; have sC0 := fun o1 o2 o3 o4 o5 => (((((sC.alloc o1).alloc o2).alloc o3).alloc o4).alloc o5).c0; have sC1 := fun o1 o2 o3 o4 o5 => (((((sC.alloc o1).alloc o2).alloc o3).alloc o4).alloc o5).c1; have sC2 := fun o1 o2 o3 o4 o5 => (((((sC.alloc o1).alloc o2).alloc o3).alloc o4).alloc o5).c2; have sD0 := fun o1 o2 o3 o4 o5 => (((((sD.alloc o1).alloc o2).alloc o3).alloc o4).alloc o5).c0; have sD1 := fun o1 o2 o3 o4 o5 => (((((sD.alloc o1).alloc o2).alloc o3).alloc o4).alloc o5).c1; have sD2 := fun o1 o2 o3 o4 o5 => (((((sD.alloc o1).alloc o2).alloc o3).alloc o4).alloc o5).c2))
    | (go_at_call 12; refine (CC _).mono ?_; rintro e w10 ⟨rfl, hb10⟩; clear CC; replace hb10 := (below_five hb9 hb9.size (.cells #[.string ⟨#[62]⟩, .bool false, .string T] 25) (.cells #[.string K, .bool true, .string T] 25) (.cells #[.string K, .bool false, .string ⟨#[]⟩] 25) (.cells #[.string ⟨#[43]⟩, .bool false, .string T] 25) (.cells #[.string ⟨#[62]⟩, .bool false, .string T] 25)).trans (hb10.mono (by have := hb9.size; simp; omega)); clear hb9)
    | (go_at_call 14; first
      | (refine (M1 _).mono ?_; rintro e w11 ⟨rfl, hb11⟩; clear M1; replace hb11 := hb10.trans (hb11.mono hb10.size); clear hb10)
      | (refine (M2 _).mono ?_; rintro e w12 ⟨rfl, hb12⟩; clear M2; replace hb12 := hb11.trans (hb12.mono hb11.size); clear hb11)
      | (refine (M3 _).mono ?_; rintro e w13 ⟨rfl, hb13⟩; clear M3; replace hb13 := hb12.trans (hb13.mono hb12.size); clear hb12)))
  go_ret
  exact ⟨rfl, hb13⟩

set_option maxHeartbeats 16000000 in
set_option maxRecDepth 20000 in
theorem back_last (n : Int) (m r N : Nat) (e1 : bits .and .i64 n 1023 = (m : Int)) (e2 : (m : Int).tmod 500 = (r : Int)) (e3 : (100 : Int) + (r : Int) = (N : Int)) (hN : N < 1000)
    (l : List UInt8) (K KB KT OT AT K1 K2 N2 T : ByteArray) (g1 : K ++ (⟨#[32]⟩ : ByteArray) = KB) (g2 : KB ++ T = KT) (g3 : (⟨#[43, 79, 75, 32]⟩ : ByteArray) ++ T = OT) (g4 : (⟨#[43, 32]⟩ : ByteArray) ++ T = AT) (g5 : K.extract 0 1 = K1) (g6 : K.extract 0 2 = K2) (g7 : (⟨#[57, 44]⟩ : ByteArray) ++ K2 = N2)
    (z1 : K.size = 3) (z2 : KB.size = 4) (z3 : K2.size = 2) (z4 : T.size ≤ 200)
    (hsh : ∀ w, Calls Tryd.prog 9 #[.string (ba l)] w fun e w' => e = .returned (.string T) ∧ w' = w)
    (D : ∀ w, Calls Tryd.prog 16 #[.int .i64 (N : Int)] w fun e w' => e = .returned (.string K) ∧ Below w.heap.size w w')
    (S1 : ∀ w, Calls Tryd.prog 10 #[.int .i64 1, .string KT] w fun e w' => e = .returned (.tuple #[.agg #[.string K, .bool false, .string T], .bool true]) ∧ Below w.heap.size w w')
    (S2 : ∀ w, Calls Tryd.prog 10 #[.int .i64 3, .string KT] w fun e w' => e = .returned (.tuple #[.agg #[.string K, .bool false, .string T], .bool true]) ∧ Below w.heap.size w w')
    (S3 : ∀ w, Calls Tryd.prog 10 #[.int .i64 2, .string KT] w fun e w' => e = .returned (.tuple #[.agg #[.string ⟨#[]⟩, .bool false, .string ⟨#[]⟩], .bool false]) ∧ Below w.heap.size w w')
    (S4 : ∀ w, Calls Tryd.prog 10 #[.int .i64 1, .string K] w fun e w' => e = .returned (.tuple #[.agg #[.string K, .bool false, .string ⟨#[]⟩], .bool true]) ∧ Below w.heap.size w w')
    (S5 : ∀ w, Calls Tryd.prog 10 #[.int .i64 2, .string OT] w fun e w' => e = .returned (.tuple #[.agg #[.string ⟨#[43]⟩, .bool false, .string T], .bool true]) ∧ Below w.heap.size w w')
    (S6 : ∀ w, Calls Tryd.prog 10 #[.int .i64 1, .string OT] w fun e w' => e = .returned (.tuple #[.agg #[.string ⟨#[]⟩, .bool false, .string ⟨#[]⟩], .bool false]) ∧ Below w.heap.size w w')
    (S7 : ∀ w, Calls Tryd.prog 10 #[.int .i64 2, .string AT] w fun e w' => e = .returned (.tuple #[.agg #[.string ⟨#[62]⟩, .bool false, .string T], .bool true]) ∧ Below w.heap.size w w')
    (CC : ∀ w, Calls Tryd.prog 12 #[.int .i64 1, .string K] w fun e w' => e = .returned (.bool true) ∧ Below w.heap.size w w')
    (M1 : ∀ w, Calls Tryd.prog 14 #[.string K, .string K] w fun e w' => e = .returned (.bool true) ∧ Below w.heap.size w w')
    (M2 : ∀ w, Calls Tryd.prog 14 #[.string K1, .string K] w fun e w' => e = .returned (.bool true) ∧ Below w.heap.size w w')
    (M3 : ∀ w, Calls Tryd.prog 14 #[.string N2, .string K] w fun e w' => e = .returned (.bool true) ∧ Below w.heap.size w w') (w : World) :
    Calls Tryd.prog 4 #[.int .i64 n, .string (ba l), .bool false] w fun e w' => e = .returned (.bool true) ∧ Below w.heap.size w w' := by
  have q2 := stHeld
  have q3 := stGuard
  have y1 : (⟨#[32]⟩ : ByteArray).size = 1 := rfl
  have y2 : (⟨#[43, 79, 75, 32]⟩ : ByteArray).size = 4 := rfl
  have y3 : (⟨#[43, 32]⟩ : ByteArray).size = 2 := rfl
  have y4 : (⟨#[57, 44]⟩ : ByteArray).size = 2 := rfl
  go_enter Tryd.func4, Tryd.ntmps4
  go_wp2_with (first
    | (go_at_call 8; refine (shown_any _).mono ?_; rintro e w1 ⟨rfl, hb1⟩)
    | (go_at_call 9; refine (hsh _).mono ?_; rintro e w' ⟨rfl, hw⟩; rw [hw]; clear hw)
    | (go_at_call 16; refine (D _).mono ?_; rintro e w2 ⟨rfl, hb2⟩; clear D; replace hb2 := hb1.trans (hb2.mono hb1.size); clear hb1)
    | (go_at_call 10; first
      | (refine (S1 _).mono ?_; rintro e w3 ⟨rfl, hb3⟩; clear S1; replace hb3 := hb2.trans (hb3.mono hb2.size); clear hb2)
      | (refine (S2 _).mono ?_; rintro e w4 ⟨rfl, hb4⟩; clear S2; have sA := (St3.new w3 K T false).same (hb4.block _ (by simp)); replace hb4 := (hb3.alloc hb3.size (.cells #[.string K, .bool false, .string T] 25)).trans (hb4.mono (by have := hb3.size; simp; omega)); clear hb3)
      | (refine (S3 _).mono ?_; rintro e w5 ⟨rfl, hb5⟩; clear S3; replace sA := (sA.alloc (.cells #[.string K, .bool false, .string T] 25)).same (hb5.block _ (by have := sA.lt; simp; omega)); have sB := (St3.new w4 K T false).same (hb5.block _ (by simp)); replace hb5 := (hb4.alloc hb4.size (.cells #[.string K, .bool false, .string T] 25)).trans (hb5.mono (by have := hb4.size; simp; omega)); clear hb4)
      | (refine (S4 _).mono ?_; rintro e w6 ⟨rfl, hb6⟩; clear S4; replace sA := (sA.alloc (.cells #[.string ⟨#[]⟩, .bool false, .string ⟨#[]⟩] 25)).same (hb6.block _ (by have := sA.lt; simp; omega)); replace sB := (sB.alloc (.cells #[.string ⟨#[]⟩, .bool false, .string ⟨#[]⟩] 25)).same (hb6.block _ (by have := sB.lt; simp; omega)); replace hb6 := (hb5.alloc hb5.size (.cells #[.string ⟨#[]⟩, .bool false, .string ⟨#[]⟩] 25)).trans (hb6.mono (by have := hb5.size; simp; omega)); clear hb5)
      | (refine (S5 _).mono ?_; rintro e w7 ⟨rfl, hb7⟩; clear S5; replace sA := (sA.alloc (.cells #[.string K, .bool false, .string ⟨#[]⟩] 25)).same (hb7.block _ (by have := sA.lt; simp; omega)); replace sB := (sB.alloc (.cells #[.string K, .bool false, .string ⟨#[]⟩] 25)).same (hb7.block _ (by have := sB.lt; simp; omega)); have sC := (St3.new w6 K ⟨#[]⟩ false).same (hb7.block _ (by simp)); replace hb7 := (hb6.alloc hb6.size (.cells #[.string K, .bool false, .string ⟨#[]⟩] 25)).trans (hb7.mono (by have := hb6.size; simp; omega)); clear hb6)
      | (refine (S6 _).mono ?_; rintro e w8 ⟨rfl, hb8⟩; clear S6; replace sA := (sA.alloc (.cells #[.string ⟨#[43]⟩, .bool false, .string T] 25)).same (hb8.block _ (by have := sA.lt; simp; omega)); replace sB := (sB.alloc (.cells #[.string ⟨#[43]⟩, .bool false, .string T] 25)).same (hb8.block _ (by have := sB.lt; simp; omega)); replace sC := (sC.alloc (.cells #[.string ⟨#[43]⟩, .bool false, .string T] 25)).same (hb8.block _ (by have := sC.lt; simp; omega)); have sD := (St3.new w7 ⟨#[43]⟩ T false).same (hb8.block _ (by simp)); replace hb8 := (hb7.alloc hb7.size (.cells #[.string ⟨#[43]⟩, .bool false, .string T] 25)).trans (hb8.mono (by have := hb7.size; simp; omega)); clear hb7)
      | (refine (S7 _).mono ?_; rintro e w9 ⟨rfl, hb9⟩; clear S7; replace sA := (sA.alloc (.cells #[.string ⟨#[]⟩, .bool false, .string ⟨#[]⟩] 25)).same (hb9.block _ (by have := sA.lt; simp; omega)); replace sB := (sB.alloc (.cells #[.string ⟨#[]⟩, .bool false, .string ⟨#[]⟩] 25)).same (hb9.block _ (by have := sB.lt; simp; omega)); replace sC := (sC.alloc (.cells #[.string ⟨#[]⟩, .bool false, .string ⟨#[]⟩] 25)).same (hb9.block _ (by have := sC.lt; simp; omega)); replace sD := (sD.alloc (.cells #[.string ⟨#[]⟩, .bool false, .string ⟨#[]⟩] 25)).same (hb9.block _ (by have := sD.lt; simp; omega)); replace hb9 := (hb8.alloc hb8.size (.cells #[.string ⟨#[]⟩, .bool false, .string ⟨#[]⟩] 25)).trans (hb9.mono (by have := hb8.size; simp; omega)); clear hb8; have sA0 := fun o1 o2 => ((sA.alloc o1).alloc o2).c0; have sA1 := fun o1 o2 => ((sA.alloc o1).alloc o2).c1; have sA2 := fun o1 o2 => ((sA.alloc o1).alloc o2).c2; have sB0 := fun o1 o2 => ((sB.alloc o1).alloc o2).c0; have sB1 := fun o1 o2 => ((sB.alloc o1).alloc o2).c1; have sB2 := fun o1 o2 => ((sB.alloc o1).alloc o2).c2; have sC0 := fun o1 o2 o3 o4 o5 => (((((sC.alloc o1).alloc o2).alloc o3).alloc o4).alloc o5).c0; have sC1 := fun o1 o2 o3 o4 o5 => (((((sC.alloc o1).alloc o2).alloc o3).alloc o4).alloc o5).c1; have sC2 := fun o1 o2 o3 o4 o5 => (((((sC.alloc o1).alloc o2).alloc o3).alloc o4).alloc o5).c2; have sD0 := fun o1 o2 o3 o4 o5 => (((((sD.alloc o1).alloc o2).alloc o3).alloc o4).alloc o5).c0; have sD1 := fun o1 o2 o3 o4 o5 => (((((sD.alloc o1).alloc o2).alloc o3).alloc o4).alloc o5).c1; have sD2 := fun o1 o2 o3 o4 o5 => (((((sD.alloc o1).alloc o2).alloc o3).alloc o4).alloc o5).c2))
    | (go_at_call 12; refine (CC _).mono ?_; rintro e w10 ⟨rfl, hb10⟩; clear CC; replace hb10 := (below_five hb9 hb9.size (.cells #[.string ⟨#[62]⟩, .bool false, .string T] 25) (.cells #[.string K, .bool false, .string T] 25) (.cells #[.string K, .bool false, .string ⟨#[]⟩] 25) (.cells #[.string ⟨#[43]⟩, .bool false, .string T] 25) (.cells #[.string ⟨#[62]⟩, .bool false, .string T] 25)).trans (hb10.mono (by have := hb9.size; simp; omega)); clear hb9)
    | (go_at_call 14; first
      | (refine (M1 _).mono ?_; rintro e w11 ⟨rfl, hb11⟩; clear M1; replace hb11 := hb10.trans (hb11.mono hb10.size); clear hb10)
      | (refine (M2 _).mono ?_; rintro e w12 ⟨rfl, hb12⟩; clear M2; replace hb12 := hb11.trans (hb12.mono hb11.size); clear hb11)
      | (refine (M3 _).mono ?_; rintro e w13 ⟨rfl, hb13⟩; clear M3; replace hb13 := hb12.trans (hb13.mono hb12.size); clear hb12)))
  go_ret
  exact ⟨rfl, hb13⟩

theorem lawBack (n : Int) (a0 : ByteArray) (more : Bool) (hn : (Lit.int .i64 n).wf = true) (h0 : a0.size ≤ maxLen) (w : World) :
    Calls Tryd.prog 4 #[.int .i64 n, .string a0, .bool more] w fun e w' => e = .returned (.bool true) ∧ Below w.heap.size w w' := by
  obtain ⟨l, rfl⟩ : ∃ l, a0 = ba l := ⟨a0.data.toList, (ba_self a0).symm⟩
  have hsh := short_any l h0
  have hql : (l.take 200).length ≤ 200 := by rw [List.length_take]; omega
  generalize l.take 200 = q at hsh hql
  obtain ⟨m, r, N, e1, e2, e3, h1, h2⟩ := code_of n hn
  have D := dig_below N h1 (by omega)
  obtain ⟨a, b, d, hk, ha, hb, hd⟩ := code_shape N h1 h2
  rw [hk] at D
  have zq : (ba q).size ≤ 200 := hql
  have S4 := status_any 1 [a, b, d] (by simp)
  have S5 := status_any 2 ([43, 79, 75, 32] ++ q) (by simp; omega)
  have S6 := status_any 1 ([43, 79, 75, 32] ++ q) (by simp; omega)
  have S7 := status_any 2 ([43, 32] ++ q) (by simp; omega)
  have v4 : Ln.status 1 [a, b, d] = some ⟨[a, b, d], false, []⟩ := Ln.num_bare ha hb hd
  have v5 : Ln.status 2 ([43, 79, 75, 32] ++ q) = some ⟨[43], false, q⟩ := Ln.pop_ok q
  have v6 : Ln.status 1 ([43, 79, 75, 32] ++ q) = none := Ln.num_ok q
  have v7 : Ln.status 2 ([43, 32] ++ q) = some ⟨[62], false, q⟩ := Ln.pop_ask q
  rw [v4] at S4
  rw [v5] at S5
  rw [v6] at S6
  rw [v7] at S7
  have CC := codes_any 1 [a, b, d] (by simp)
  have M1 := match_any [a, b, d] [a, b, d] (by simp) (by simp)
  have M2 := match_any [a] [a, b, d] (by simp) (by simp)
  have M3 := match_any ([57, 44] ++ [a, b]) [a, b, d] (by simp) (by simp)
  rw [Ln.codes_own (.inl rfl) ha hb hd] at CC
  rw [Ln.mat_own ha hb hd] at M1
  rw [Ln.mat_first ha] at M2
  rw [show Ln.mat ([57, 44] ++ [a, b]) [a, b, d] = true from Ln.mat_two ha hb] at M3
  have x1 : (ba [a, b, d]).extract 0 1 = ba [a] := by rw [ba, ba_extract]; rfl
  have x2 : (ba [a, b, d]).extract 0 2 = ba [a, b] := by rw [ba, ba_extract]; rfl
  cases more with
  | true =>
    have S1 := status_any 1 ([a, b, d] ++ [45] ++ q) (by simp; omega)
    have S2 := status_any 3 ([a, b, d] ++ [45] ++ q) (by simp; omega)
    have S3 := status_any 2 ([a, b, d] ++ [45] ++ q) (by simp; omega)
    have v1 : Ln.status 1 ([a, b, d] ++ [45] ++ q) = some ⟨[a, b, d], true, q⟩ := Ln.num_sign ha hb hd q
    have v2 : Ln.status 3 ([a, b, d] ++ [45] ++ q) = some ⟨[a, b, d], true, q⟩ := Ln.num_sign ha hb hd q
    have v3 : Ln.status 2 ([a, b, d] ++ [45] ++ q) = none := Ln.pop_num ha _
    rw [v1] at S1
    rw [v2] at S2
    rw [v3] at S3
    exact back_more n m r N e1 e2 e3 (by omega) l (ba [a, b, d]) (ba ([a, b, d] ++ [45])) _ _ _ (ba [a]) (ba [a, b]) _ (ba q) (ba_append _ [45]) (ba_append _ _) (ba_append [43, 79, 75, 32] q) (ba_append [43, 32] q) x1 x2 (ba_append [57, 44] _) rfl rfl rfl zq hsh D S1 S2 S3 S4 S5 S6 S7 CC M1 M2 M3 w
  | false =>
    have S1 := status_any 1 ([a, b, d] ++ [32] ++ q) (by simp; omega)
    have S2 := status_any 3 ([a, b, d] ++ [32] ++ q) (by simp; omega)
    have S3 := status_any 2 ([a, b, d] ++ [32] ++ q) (by simp; omega)
    have v1 : Ln.status 1 ([a, b, d] ++ [32] ++ q) = some ⟨[a, b, d], false, q⟩ := Ln.num_blank ha hb hd q
    have v2 : Ln.status 3 ([a, b, d] ++ [32] ++ q) = some ⟨[a, b, d], false, q⟩ := Ln.num_blank ha hb hd q
    have v3 : Ln.status 2 ([a, b, d] ++ [32] ++ q) = none := Ln.pop_num ha _
    rw [v1] at S1
    rw [v2] at S2
    rw [v3] at S3
    exact back_last n m r N e1 e2 e3 (by omega) l (ba [a, b, d]) (ba ([a, b, d] ++ [32])) _ _ _ (ba [a]) (ba [a, b]) _ (ba q) (ba_append _ [32]) (ba_append _ _) (ba_append [43, 79, 75, 32] q) (ba_append [43, 32] q) x1 x2 (ba_append [57, 44] _) rfl rfl rfl zq hsh D S1 S2 S3 S4 S5 S6 S7 CC M1 M2 M3 w
end Go.Proofs.YtniinebgmkginaaDoor
