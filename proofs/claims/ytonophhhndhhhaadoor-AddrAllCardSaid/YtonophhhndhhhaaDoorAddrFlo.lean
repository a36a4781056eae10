/- addr.port, addr.parts walked: a complex number's product, a float rounded down (layer 13). -/
import Derived.Test.YtonophhhndhhhaaDoorFlo
import Derived.Test.YtonophhhndhhhaaDoorRd
import Derived.Laws.Externs
namespace Go.Proofs.YtonophhhndhhhaaDoor
open Go.RowKit

theorem floor_body (x : Nat) (d : Ieee.Datum) (hd : FloatKind.f64.decode x = d) (hn : d.isNaN = false) :
    Extern.MathFloor.toIntegral "math.archFloor" .down #[.float .f64 x] = pure (.float .f64 (FloatKind.f64.encode (d.integral .down))) := by
  change (match FloatKind.f64.decode x with
    | .nan s t =>
      if FloatKind.f64.format.quiet t = t then (pure (.float .f64 x) : Sem Value) else do
      let kept ← choose (.extern "math.Floor,Ceil,Trunc,RoundToEven.signallingNaN kept" 2)
      pure (.float .f64 (if kept == 1 then x else FloatKind.f64.encode (.nan s (FloatKind.f64.format.quiet t))))
    | d => pure (.float .f64 (FloatKind.f64.encode (d.integral .down)))) = _
  rw [hd]
  cases d with
  | nan s t => cases hn
  | number s m e => rfl
  | infinity s => rfl

theorem floor_ext (x : Nat) (d : Ieee.Datum) (hd : FloatKind.f64.decode x = d) (hn : d.isNaN = false) (w : World) :
    (callFunc 55 #[.float .f64 x]).run Tryd.prog w = .ok (.value (.float .f64 (FloatKind.f64.encode (d.integral .down)))) w := by
  rw [run_callFunc_extern (e := Extern.MathFloor.toIntegral "math.archFloor" .down) Tryd.func55 (by kernel_rfl) (by kernel_rfl) (by kernel_rfl) (by kernel_rfl), floor_body x d hd hn]
  rfl

theorem floor_any (x : Nat) (d : Ieee.Datum) (hd : FloatKind.f64.decode x = d) (hn : d.isNaN = false) (w : World) :
    Calls Tryd.prog 41 #[.float .f64 x] w fun e w' => e = .returned (.float .f64 (FloatKind.f64.encode (d.integral .down))) ∧ w = w' := by
  have hx := floor_ext x d hd hn
  generalize FloatKind.f64.encode (d.integral .down) = y at *
  clear hd hn
  go_enter Tryd.func41, Tryd.ntmps41
  go_wp2
  go_ret
  exact ⟨rfl, rfl⟩

/-- A port of its two numbers. -/
theorem port_any (a b : Nat) (ha : a ≤ 255) (hb : b ≤ 255) (w : World) :
    Calls Tryd.prog 36 #[.complex .f64 (floatOfInt .f64 a) (floatOfInt .f64 b)] w fun e w' => e = .returned (.int .i64 ((a * 256 + b : Nat) : Int)) ∧ w = w' := by
  obtain ⟨re, im, h1, h2⟩ := port_bits a b ha hb
  unfold floatOfInt
  generalize FloatKind.f64.nearest a = x at *
  generalize FloatKind.f64.nearest b = y at *
  have hm := fun t w => run_complex_mul (P := Tryd.prog) w t x y _ _ re im h1
  have hc := fun w => run_convert_float_int (P := Tryd.prog) w 68 3 .f64 .i64 re _ (by rw [Tryd.underlying68]; rfl) Tryd.underlying3 h2
  generalize ((a * 256 + b : Nat) : Int) = p at *
  clear h1 h2 ha hb
  go_enter Tryd.func36, Tryd.ntmps36
  go_wp2
  go_ret
  exact ⟨rfl, rfl⟩

/-- A port by 256, rounded down, and the rest. -/
theorem parts_any (p : Int) (h0 : -9223372036854775808 ≤ p) (h1 : p ≤ 9223372036854775807) (w : World) :
    Calls Tryd.prog 27 #[.int .i64 p] w fun e w' => e = .returned (.tuple #[.int .i64 (p / 256), .int .i64 (p % 256)]) ∧ w = w' := by
  obtain ⟨r, hr⟩ : ∃ r, Int.tmod p 256 = r := ⟨_, rfl⟩
  obtain ⟨t, ht⟩ : ∃ t, Int.tdiv p 256 = t := ⟨_, rfl⟩
  have e : 256 * t + r = p := by rw [← hr, ← ht]; exact Int.mul_tdiv_add_tmod p 256
  have hlt : -255 ≤ r ∧ r ≤ 255 := by
    have := Int.tmod_lt_of_pos p (show (0 : Int) < 256 by decide)
    have h3 : -256 < Int.tmod p 256 := by
      have := Int.lt_tmod_of_pos p (show (0 : Int) < 256 by decide)
      exact this
    omega
  obtain ⟨q, d, k1, k2, k3, k4⟩ := part_bits r hlt.1 hlt.2
  have hd := fun t w => run_float_arith (P := Tryd.prog) w .quo t .f64 (floatOfInt .f64 r) 4643211215818981376 q k1
  have hf := fun w => floor_any q d k2 k3 w
  generalize FloatKind.f64.encode (d.integral .down) = y at *
  have hc := fun w => run_convert_float_int (P := Tryd.prog) w 68 3 .f64 .i64 y _ (by rw [Tryd.underlying68]; rfl) Tryd.underlying3 k4
  obtain ⟨z, hz⟩ : ∃ z, r / 256 = z := ⟨_, rfl⟩
  rw [hz] at hc
  have hzz : z = 0 ∨ z = -1 := by omega
  have e1 : IntKind.i64.wrap (t + z) = p / 256 := by rw [IntWalk.i64_in _ ⟨by omega, by omega⟩]; omega
  have e2 : IntKind.i64.wrap (r - z * 256) = p % 256 := by rw [IntWalk.i64_in _ ⟨by omega, by omega⟩]; omega
  clear k1 k2 k3 k4
  go_enter Tryd.func27, Tryd.ntmps27
  go_wp2_with (go_at_call 41; refine (hf _).mono ?_; rintro e w' ⟨rfl, rfl⟩)
  go_ret2
  exact ⟨rfl, rfl⟩
end Go.Proofs.YtonophhhndhhhaaDoor
