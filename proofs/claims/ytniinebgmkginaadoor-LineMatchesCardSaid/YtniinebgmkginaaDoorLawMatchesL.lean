/- The walk of LineMatches. (Laid by wip/tools/gen_lmatches.py.) -/
import Derived.Test.YtniinebgmkginaaDoorLineLaw
import Derived.Test.YtniinebgmkginaaDoorLineCodes
import Derived.Test.YtniinebgmkginaaDoorLineMatch
import Derived.Test.YtniinebgmkginaaDoorOpenCase
namespace Go.Proofs.YtniinebgmkginaaDoor
open Go.RowKit

set_option maxHeartbeats 8000000 in
set_option maxRecDepth 20000 in
theorem matches_true_true (la lb lc : List UInt8) (A B C AX AB : ByteArray) (proto : Int) (kB : Bool) (g1 : A ++ (⟨#[44]⟩ : ByteArray) = AX) (g2 : AX ++ B = AB) (z1 : A.size ≤ 200) (z2 : B.size ≤ 200) (z3 : AX.size ≤ 201)
    (H1 : ∀ w, Calls Tryd.prog 9 #[.string (ba la)] w fun e w' => e = .returned (.string A) ∧ w' = w)
    (H2 : ∀ w, Calls Tryd.prog 9 #[.string (ba lb)] w fun e w' => e = .returned (.string B) ∧ w' = w)
    (H3 : ∀ w, Calls Tryd.prog 9 #[.string (ba lc)] w fun e w' => e = .returned (.string C) ∧ w' = w)
    (M1 : ∀ w, Calls Tryd.prog 14 #[.string AB, .string C] w fun e w' => e = .returned (.bool true) ∧ Below w.heap.size w w')
    (M2 : ∀ w, Calls Tryd.prog 14 #[.string A, .string C] w fun e w' => e = .returned (.bool true) ∧ Below w.heap.size w w')
    (M4 : ∀ w, Calls Tryd.prog 14 #[.string ⟨#[]⟩, .string C] w fun e w' => e = .returned (.bool false) ∧ Below w.heap.size w w')
    (M5 : ∀ w, Calls Tryd.prog 14 #[.string ⟨#[44]⟩, .string C] w fun e w' => e = .returned (.bool false) ∧ Below w.heap.size w w')
    (K1 : ∀ w, Calls Tryd.prog 12 #[.int .i64 proto, .string AB] w fun e w' => e = .returned (.bool kB) ∧ Below w.heap.size w w')
    (K2 : ∀ w, Calls Tryd.prog 12 #[.int .i64 proto, .string A] w fun e w' => e = .returned (.bool true) ∧ Below w.heap.size w w')
    (K3 : ∀ w, Calls Tryd.prog 12 #[.int .i64 proto, .string B] w fun e w' => e = .returned (.bool kB) ∧ Below w.heap.size w w')
    (K4 : ∀ w, Calls Tryd.prog 12 #[.int .i64 proto, .string ⟨#[]⟩] w fun e w' => e = .returned (.bool false) ∧ Below w.heap.size w w') (w : World) :
    Calls Tryd.prog 5 #[.string (ba la), .string (ba lb), .agg #[.string (ba lc), .int .i64 proto]] w fun e w' => e = .returned (.bool true) ∧ Below w.heap.size w w' := by
  have zz : (⟨#[44]⟩ : ByteArray).size = 1 := rfl
  go_enter Tryd.func5, Tryd.ntmps5
  go_wp2_with (first
    | (go_at_call 8; refine (shown_any _).mono ?_; rintro e w1 ⟨rfl, hb1⟩; have c0 := (hb1.block w.heap.size (by simp)).trans (World.alloc_heap_new w (.cells #[.string (ba lc), .int .i64 proto] 34)); have HB := ((Below.refl _ w).alloc (Nat.le_refl _) _).trans (hb1.mono (by simp)); have d0 : w1.cell? ⟨w.heap.size, 0, none⟩ = some (.string (ba lc)) := (by simp [World.cell?, c0]); have d1 : w1.cell? ⟨w.heap.size, 1, none⟩ = some (.int .i64 proto) := (by simp [World.cell?, c0]); clear c0 hb1)
    | (go_at_call 9; first | (refine (H1 _).mono ?_; rintro e w' ⟨rfl, hw⟩; rw [hw]; clear hw H1) | (refine (H2 _).mono ?_; rintro e w' ⟨rfl, hw⟩; rw [hw]; clear hw H2) | (refine (H3 _).mono ?_; rintro e w' ⟨rfl, hw⟩; rw [hw]; clear hw H3 d0 d1))
    | (go_at_call 14; first
      | (refine (M1 _).mono ?_; rintro e w2 ⟨rfl, hb⟩; clear M1; replace HB := HB.trans (hb.mono HB.size); clear hb)
      | (refine (M2 _).mono ?_; rintro e w3 ⟨rfl, hb⟩; clear M2; replace HB := HB.trans (hb.mono HB.size); clear hb)
      | (refine (M4 _).mono ?_; rintro e w5 ⟨rfl, hb⟩; clear M4; replace HB := HB.trans (hb.mono HB.size); clear hb)
      | (refine (M5 _).mono ?_; rintro e w6 ⟨rfl, hb⟩; clear M5; replace HB := HB.trans (hb.mono HB.size); clear hb))
    | (go_at_call 12; first
      | (refine (K1 _).mono ?_; rintro e w7 ⟨rfl, hb⟩; clear K1; replace HB := HB.trans (hb.mono HB.size); clear hb)
      | (refine (K2 _).mono ?_; rintro e w8 ⟨rfl, hb⟩; clear K2; replace HB := HB.trans (hb.mono HB.size); clear hb)
      | (refine (K3 _).mono ?_; rintro e w9 ⟨rfl, hb⟩; clear K3; replace HB := HB.trans (hb.mono HB.size); clear hb)
      | (refine (K4 _).mono ?_; rintro e wA ⟨rfl, hb⟩; clear K4; replace HB := HB.trans (hb.mono HB.size); clear hb)))
  go_ret
  exact ⟨rfl, HB⟩

set_option maxHeartbeats 8000000 in
set_option maxRecDepth 20000 in
theorem matches_true_false (la lb lc : List UInt8) (A B C AX AB : ByteArray) (proto : Int)  (g1 : A ++ (⟨#[44]⟩ : ByteArray) = AX) (g2 : AX ++ B = AB) (z1 : A.size ≤ 200) (z2 : B.size ≤ 200) (z3 : AX.size ≤ 201)
    (H1 : ∀ w, Calls Tryd.prog 9 #[.string (ba la)] w fun e w' => e = .returned (.string A) ∧ w' = w)
    (H2 : ∀ w, Calls Tryd.prog 9 #[.string (ba lb)] w fun e w' => e = .returned (.string B) ∧ w' = w)
    (H3 : ∀ w, Calls Tryd.prog 9 #[.string (ba lc)] w fun e w' => e = .returned (.string C) ∧ w' = w)
    (M1 : ∀ w, Calls Tryd.prog 14 #[.string AB, .string C] w fun e w' => e = .returned (.bool true) ∧ Below w.heap.size w w')
    (M2 : ∀ w, Calls Tryd.prog 14 #[.string A, .string C] w fun e w' => e = .returned (.bool true) ∧ Below w.heap.size w w')
    (M4 : ∀ w, Calls Tryd.prog 14 #[.string ⟨#[]⟩, .string C] w fun e w' => e = .returned (.bool false) ∧ Below w.heap.size w w')
    (M5 : ∀ w, Calls Tryd.prog 14 #[.string ⟨#[44]⟩, .string C] w fun e w' => e = .returned (.bool false) ∧ Below w.heap.size w w')
    (K1 : ∀ w, Calls Tryd.prog 12 #[.int .i64 proto, .string AB] w fun e w' => e = .returned (.bool false) ∧ Below w.heap.size w w')
    (K2 : ∀ w, Calls Tryd.prog 12 #[.int .i64 proto, .string A] w fun e w' => e = .returned (.bool false) ∧ Below w.heap.size w w')
    (K4 : ∀ w, Calls Tryd.prog 12 #[.int .i64 proto, .string ⟨#[]⟩] w fun e w' => e = .returned (.bool false) ∧ Below w.heap.size w w') (w : World) :
    Calls Tryd.prog 5 #[.string (ba la), .string (ba lb), .agg #[.string (ba lc), .int .i64 proto]] w fun e w' => e = .returned (.bool true) ∧ Below w.heap.size w w' := by
  have zz : (⟨#[44]⟩ : ByteArray).size = 1 := rfl
  go_enter Tryd.func5, Tryd.ntmps5
  go_wp2_with (first
    | (go_at_call 8; refine (shown_any _).mono ?_; rintro e w1 ⟨rfl, hb1⟩; have c0 := (hb1.block w.heap.size (by simp)).trans (World.alloc_heap_new w (.cells #[.string (ba lc), .int .i64 proto] 34)); have HB := ((Below.refl _ w).alloc (Nat.le_refl _) _).trans (hb1.mono (by simp)); have d0 : w1.cell? ⟨w.heap.size, 0, none⟩ = some (.string (ba lc)) := (by simp [World.cell?, c0]); have d1 : w1.cell? ⟨w.heap.size, 1, none⟩ = some (.int .i64 proto) := (by simp [World.cell?, c0]); clear c0 hb1)
    | (go_at_call 9; first | (refine (H1 _).mono ?_; rintro e w' ⟨rfl, hw⟩; rw [hw]; clear hw H1) | (refine (H2 _).mono ?_; rintro e w' ⟨rfl, hw⟩; rw [hw]; clear hw H2) | (refine (H3 _).mono ?_; rintro e w' ⟨rfl, hw⟩; rw [hw]; clear hw H3 d0 d1))
    | (go_at_call 14; first
      | (refine (M1 _).mono ?_; rintro e w2 ⟨rfl, hb⟩; clear M1; replace HB := HB.trans (hb.mono HB.size); clear hb)
      | (refine (M2 _).mono ?_; rintro e w3 ⟨rfl, hb⟩; clear M2; replace HB := HB.trans (hb.mono HB.size); clear hb)
      | (refine (M4 _).mono ?_; rintro e w5 ⟨rfl, hb⟩; clear M4; replace HB := HB.trans (hb.mono HB.size); clear hb)
      | (refine (M5 _).mono ?_; rintro e w6 ⟨rfl, hb⟩; clear M5; replace HB := HB.trans (hb.mono HB.size); clear hb))
    | (go_at_call 12; first
      | (refine (K1 _).mono ?_; rintro e w7 ⟨rfl, hb⟩; clear K1; replace HB := HB.trans (hb.mono HB.size); clear hb)
      | (refine (K2 _).mono ?_; rintro e w8 ⟨rfl, hb⟩; clear K2; replace HB := HB.trans (hb.mono HB.size); clear hb)
      | (refine (K4 _).mono ?_; rintro e wA ⟨rfl, hb⟩; clear K4; replace HB := HB.trans (hb.mono HB.size); clear hb)))
  go_ret
  exact ⟨rfl, HB⟩

set_option maxHeartbeats 8000000 in
set_option maxRecDepth 20000 in
theorem matches_false_true (la lb lc : List UInt8) (A B C AX AB : ByteArray) (proto : Int) (mB kB : Bool) (g1 : A ++ (⟨#[44]⟩ : ByteArray) = AX) (g2 : AX ++ B = AB) (z1 : A.size ≤ 200) (z2 : B.size ≤ 200) (z3 : AX.size ≤ 201)
    (H1 : ∀ w, Calls Tryd.prog 9 #[.string (ba la)] w fun e w' => e = .returned (.string A) ∧ w' = w)
    (H2 : ∀ w, Calls Tryd.prog 9 #[.string (ba lb)] w fun e w' => e = .returned (.string B) ∧ w' = w)
    (H3 : ∀ w, Calls Tryd.prog 9 #[.string (ba lc)] w fun e w' => e = .returned (.string C) ∧ w' = w)
    (M1 : ∀ w, Calls Tryd.prog 14 #[.string AB, .string C] w fun e w' => e = .returned (.bool mB) ∧ Below w.heap.size w w')
    (M2 : ∀ w, Calls Tryd.prog 14 #[.string A, .string C] w fun e w' => e = .returned (.bool false) ∧ Below w.heap.size w w')
    (M3 : ∀ w, Calls Tryd.prog 14 #[.string B, .string C] w fun e w' => e = .returned (.bool mB) ∧ Below w.heap.size w w')
    (M4 : ∀ w, Calls Tryd.prog 14 #[.string ⟨#[]⟩, .string C] w fun e w' => e = .returned (.bool false) ∧ Below w.heap.size w w')
    (M5 : ∀ w, Calls Tryd.prog 14 #[.string ⟨#[44]⟩, .string C] w fun e w' => e = .returned (.bool false) ∧ Below w.heap.size w w')
    (K1 : ∀ w, Calls Tryd.prog 12 #[.int .i64 proto, .string AB] w fun e w' => e = .returned (.bool kB) ∧ Below w.heap.size w w')
    (K2 : ∀ w, Calls Tryd.prog 12 #[.int .i64 proto, .string A] w fun e w' => e = .returned (.bool true) ∧ Below w.heap.size w w')
    (K3 : ∀ w, Calls Tryd.prog 12 #[.int .i64 proto, .string B] w fun e w' => e = .returned (.bool kB) ∧ Below w.heap.size w w')
    (K4 : ∀ w, Calls Tryd.prog 12 #[.int .i64 proto, .string ⟨#[]⟩] w fun e w' => e = .returned (.bool false) ∧ Below w.heap.size w w') (w : World) :
    Calls Tryd.prog 5 #[.string (ba la), .string (ba lb), .agg #[.string (ba lc), .int .i64 proto]] w fun e w' => e = .returned (.bool true) ∧ Below w.heap.size w w' := by
  have zz : (⟨#[44]⟩ : ByteArray).size = 1 := rfl
  go_enter Tryd.func5, Tryd.ntmps5
  go_wp2_with (first
    | (go_at_call 8; refine (shown_any _).mono ?_; rintro e w1 ⟨rfl, hb1⟩; have c0 := (hb1.block w.heap.size (by simp)).trans (World.alloc_heap_new w (.cells #[.string (ba lc), .int .i64 proto] 34)); have HB := ((Below.refl _ w).alloc (Nat.le_refl _) _).trans (hb1.mono (by simp)); have d0 : w1.cell? ⟨w.heap.size, 0, none⟩ = some (.string (ba lc)) := (by simp [World.cell?, c0]); have d1 : w1.cell? ⟨w.heap.size, 1, none⟩ = some (.int .i64 proto) := (by simp [World.cell?, c0]); clear c0 hb1)
    | (go_at_call 9; first | (refine (H1 _).mono ?_; rintro e w' ⟨rfl, hw⟩; rw [hw]; clear hw H1) | (refine (H2 _).mono ?_; rintro e w' ⟨rfl, hw⟩; rw [hw]; clear hw H2) | (refine (H3 _).mono ?_; rintro e w' ⟨rfl, hw⟩; rw [hw]; clear hw H3 d0 d1))
    | (go_at_call 14; first
      | (refine (M1 _).mono ?_; rintro e w2 ⟨rfl, hb⟩; clear M1; replace HB := HB.trans (hb.mono HB.size); clear hb)
      | (refine (M2 _).mono ?_; rintro e w3 ⟨rfl, hb⟩; clear M2; replace HB := HB.trans (hb.mono HB.size); clear hb)
      | (refine (M3 _).mono ?_; rintro e w4 ⟨rfl, hb⟩; clear M3; replace HB := HB.trans (hb.mono HB.size); clear hb)
      | (refine (M4 _).mono ?_; rintro e w5 ⟨rfl, hb⟩; clear M4; replace HB := HB.trans (hb.mono HB.size); clear hb)
      | (refine (M5 _).mono ?_; rintro e w6 ⟨rfl, hb⟩; clear M5; replace HB := HB.trans (hb.mono HB.size); clear hb))
    | (go_at_call 12; first
      | (refine (K1 _).mono ?_; rintro e w7 ⟨rfl, hb⟩; clear K1; replace HB := HB.trans (hb.mono HB.size); clear hb)
      | (refine (K2 _).mono ?_; rintro e w8 ⟨rfl, hb⟩; clear K2; replace HB := HB.trans (hb.mono HB.size); clear hb)
      | (refine (K3 _).mono ?_; rintro e w9 ⟨rfl, hb⟩; clear K3; replace HB := HB.trans (hb.mono HB.size); clear hb)
      | (refine (K4 _).mono ?_; rintro e wA ⟨rfl, hb⟩; clear K4; replace HB := HB.trans (hb.mono HB.size); clear hb)))
  go_ret
  exact ⟨rfl, HB⟩

set_option maxHeartbeats 8000000 in
set_option maxRecDepth 20000 in
theorem matches_false_false (la lb lc : List UInt8) (A B C AX AB : ByteArray) (proto : Int) (mB : Bool) (g1 : A ++ (⟨#[44]⟩ : ByteArray) = AX) (g2 : AX ++ B = AB) (z1 : A.size ≤ 200) (z2 : B.size ≤ 200) (z3 : AX.size ≤ 201)
    (H1 : ∀ w, Calls Tryd.prog 9 #[.string (ba la)] w fun e w' => e = .returned (.string A) ∧ w' = w)
    (H2 : ∀ w, Calls Tryd.prog 9 #[.string (ba lb)] w fun e w' => e = .returned (.string B) ∧ w' = w)
    (H3 : ∀ w, Calls Tryd.prog 9 #[.string (ba lc)] w fun e w' => e = .returned (.string C) ∧ w' = w)
    (M1 : ∀ w, Calls Tryd.prog 14 #[.string AB, .string C] w fun e w' => e = .returned (.bool mB) ∧ Below w.heap.size w w')
    (M2 : ∀ w, Calls Tryd.prog 14 #[.string A, .string C] w fun e w' => e = .returned (.bool false) ∧ Below w.heap.size w w')
    (M3 : ∀ w, Calls Tryd.prog 14 #[.string B, .string C] w fun e w' => e = .returned (.bool mB) ∧ Below w.heap.size w w')
    (M4 : ∀ w, Calls Tryd.prog 14 #[.string ⟨#[]⟩, .string C] w fun e w' => e = .returned (.bool false) ∧ Below w.heap.size w w')
    (M5 : ∀ w, Calls Tryd.prog 14 #[.string ⟨#[44]⟩, .string C] w fun e w' => e = .returned (.bool false) ∧ Below w.heap.size w w')
    (K1 : ∀ w, Calls Tryd.prog 12 #[.int .i64 proto, .string AB] w fun e w' => e = .returned (.bool false) ∧ Below w.heap.size w w')
    (K2 : ∀ w, Calls Tryd.prog 12 #[.int .i64 proto, .string A] w fun e w' => e = .returned (.bool false) ∧ Below w.heap.size w w')
    (K4 : ∀ w, Calls Tryd.prog 12 #[.int .i64 proto, .string ⟨#[]⟩] w fun e w' => e = .returned (.bool false) ∧ Below w.heap.size w w') (w : World) :
    Calls Tryd.prog 5 #[.string (ba la), .string (ba lb), .agg #[.string (ba lc), .int .i64 proto]] w fun e w' => e = .returned (.bool true) ∧ Below w.heap.size w w' := by
  have zz : (⟨#[44]⟩ : ByteArray).size = 1 := rfl
  go_enter Tryd.func5, Tryd.ntmps5
  go_wp2_with (first
    | (go_at_call 8; refine (shown_any _).mono ?_; rintro e w1 ⟨rfl, hb1⟩; have c0 := (hb1.block w.heap.size (by simp)).trans (World.alloc_heap_new w (.cells #[.string (ba lc), .int .i64 proto] 34)); have HB := ((Below.refl _ w).alloc (Nat.le_refl _) _).trans (hb1.mono (by simp)); have d0 : w1.cell? ⟨w.heap.size, 0, none⟩ = some (.string (ba lc)) := (by simp [World.cell?, c0]); have d1 : w1.cell? ⟨w.heap.size, 1, none⟩ = some (.int .i64 proto) := (by simp [World.cell?, c0]); clear c0 hb1)
    | (go_at_call 9; first | (refine (H1 _).mono ?_; rintro e w' ⟨rfl, hw⟩; rw [hw]; clear hw H1) | (refine (H2 _).mono ?_; rintro e w' ⟨rfl, hw⟩; rw [hw]; clear hw H2) | (refine (H3 _).mono ?_; rintro e w' ⟨rfl, hw⟩; rw [hw]; clear hw H3 d0 d1))
    | (go_at_call 14; first
      | (refine (M1 _).mono ?_; rintro e w2 ⟨rfl, hb⟩; clear M1; replace HB := HB.trans (hb.mono HB.size); clear hb)
      | (refine (M2 _).mono ?_; rintro e w3 ⟨rfl, hb⟩; clear M2; replace HB := HB.trans (hb.mono HB.size); clear hb)
      | (refine (M3 _).mono ?_; rintro e w4 ⟨rfl, hb⟩; clear M3; replace HB := HB.trans (hb.mono HB.size); clear hb)
      | (refine (M4 _).mono ?_; rintro e w5 ⟨rfl, hb⟩; clear M4; replace HB := HB.trans (hb.mono HB.size); clear hb)
      | (refine (M5 _).mono ?_; rintro e w6 ⟨rfl, hb⟩; clear M5; replace HB := HB.trans (hb.mono HB.size); clear hb))
    | (go_at_call 12; first
      | (refine (K1 _).mono ?_; rintro e w7 ⟨rfl, hb⟩; clear K1; replace HB := HB.trans (hb.mono HB.size); clear hb)
      | (refine (K2 _).mono ?_; rintro e w8 ⟨rfl, hb⟩; clear K2; replace HB := HB.trans (hb.mono HB.size); clear hb)
      | (refine (K4 _).mono ?_; rintro e wA ⟨rfl, hb⟩; clear K4; replace HB := HB.trans (hb.mono HB.size); clear hb)))
  go_ret
  exact ⟨rfl, HB⟩

theorem lawMatches (a0 a1 a2 : ByteArray) (x2 : Int) (h0 : a0.size ≤ maxLen) (h1 : a1.size ≤ maxLen) (h2 : a2.size ≤ maxLen) (_ : (Lit.int .i64 x2).wf = true) (w : World) :
    Calls Tryd.prog 5 #[.string a0, .string a1, .agg #[.string a2, .int .i64 x2]] w fun e w' => e = .returned (.bool true) ∧ Below w.heap.size w w' := by
  obtain ⟨la, rfl⟩ : ∃ l, a0 = ba l := ⟨a0.data.toList, (ba_self a0).symm⟩
  obtain ⟨lb, rfl⟩ : ∃ l, a1 = ba l := ⟨a1.data.toList, (ba_self a1).symm⟩
  obtain ⟨lc, rfl⟩ : ∃ l, a2 = ba l := ⟨a2.data.toList, (ba_self a2).symm⟩
  have H1 := short_any la h0
  have H2 := short_any lb h1
  have H3 := short_any lc h2
  have z1 : (la.take 200).length ≤ 200 := by rw [List.length_take]; omega
  have z2 : (lb.take 200).length ≤ 200 := by rw [List.length_take]; omega
  have z3 : (lc.take 200).length ≤ 200 := by rw [List.length_take]; omega
  generalize la.take 200 = a at H1 z1
  generalize lb.take 200 = b at H2 z2
  generalize lc.take 200 = c at H3 z3
  have M1 := match_any (a ++ [44] ++ b) c (by simp; omega) (by omega)
  have M2 := match_any a c (by omega) (by omega)
  have M3 := match_any b c (by omega) (by omega)
  have M4 := match_any [] c (by simp) (by omega)
  have M5 := match_any [44] c (by simp) (by omega)
  have K1 := codes_any x2 (a ++ [44] ++ b) (by simp; omega)
  have K2 := codes_any x2 a (by omega)
  have K3 := codes_any x2 b (by omega)
  have K4 := codes_any x2 [] (by simp)
  rw [show a ++ [44] ++ b = a ++ 44 :: b by simp, Ln.mat_append] at M1
  rw [show a ++ [44] ++ b = a ++ 44 :: b by simp, Ln.codes_append] at K1
  rw [Ln.mat_nil] at M4
  rw [Ln.mat_comma] at M5
  rw [Ln.codes_nil] at K4
  have g1 : ba a ++ (⟨#[44]⟩ : ByteArray) = ba (a ++ [44]) := by rw [ba, one_append]; simp [ba]
  have g2 : ba (a ++ [44]) ++ ba b = ba (a ++ 44 :: b) := by rw [ba, ba, one_append]; simp [ba]
  have y1 : (ba a).size ≤ 200 := z1
  have y2 : (ba b).size ≤ 200 := z2
  have y3 : (ba (a ++ [44])).size ≤ 201 := by rw [ba_size]; simp; omega
  cases hm : Ln.mat a c
  all_goals cases hk : Ln.codes x2 a
  all_goals
    rw [hm] at M1 M2
    rw [hk] at K1 K2
  · exact matches_false_false la lb lc _ _ _ _ _ x2 _ g1 g2 y1 y2 y3 H1 H2 H3 M1 M2 M3 M4 M5 K1 K2 K4 w
  · exact matches_false_true la lb lc _ _ _ _ _ x2 _ _ g1 g2 y1 y2 y3 H1 H2 H3 M1 M2 M3 M4 M5 K1 K2 K3 K4 w
  · exact matches_true_false la lb lc _ _ _ _ _ x2 g1 g2 y1 y2 y3 H1 H2 H3 M1 M2 M4 M5 K1 K2 K4 w
  · exact matches_true_true la lb lc _ _ _ _ _ x2 _ g1 g2 y1 y2 y3 H1 H2 H3 M1 M2 M4 M5 K1 K2 K3 K4 w
end Go.Proofs.YtniinebgmkginaaDoor
