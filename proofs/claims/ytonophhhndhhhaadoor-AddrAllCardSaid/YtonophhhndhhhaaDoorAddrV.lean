/- A place as a value: four numbers and a port; two compared; addr.told walked (layer 13). -/
import Derived.Test.YtonophhhndhhhaaDoorAddrP
import Derived.Test.YtonophhhndhhhaaDoorRd
import Derived.Laws.StructEq
namespace Go.Proofs.YtonophhhndhhhaaDoor
open Go.RowKit

def adc (x : Ad.Ad) : Array Value := #[.int .i64 x.a, .int .i64 x.b, .int .i64 x.c, .int .i64 x.d, .int .i64 x.port]
def adv (x : Ad.Ad) : Value := .agg (adc x)
def ad0 : Ad.Ad := ⟨0, 0, 0, 0, 0⟩

theorem adGuard : Tryd.prog.eqGuardType Tryd.prog.depth 24 = false := by kernel_rfl
theorem adHeld : Tryd.prog.stoodInHeld 24 = false := by kernel_rfl
theorem equalHost (d : Nat) (a b c e a' b' c' e' : Int) (w : World) :
    (Op.equalIn (d + 2) 22 (.agg #[.int .i64 a, .int .i64 b, .int .i64 c, .int .i64 e]) (.agg #[.int .i64 a', .int .i64 b', .int .i64 c', .int .i64 e'])).run Tryd.prog w = .ok (a == a' && b == b' && c == c' && e == e') w := by
  have hi := Tryd.underlying22
  have h1 := fun x y w => run_equalIn_int (P := Tryd.prog) w d 3 .i64 .i64 x y Tryd.underlying3
  have h2 := Tryd.isAgg3
  have h3 := Tryd.sizeOf3
  rw [Op.equalIn]
  simp only [Sem.run_bind, run_underlying hi, Result.andThen_ok, h3, Std.Legacy.Range.forIn_eq_forIn_range', Std.Legacy.Range.size, Nat.sub_zero, Nat.add_sub_cancel, Nat.div_one]
  rw [show List.range' 0 4 1 = [0, 1, 2, 3] from rfl]
  cases ha : (a == a') <;> cases hb : (b == b') <;> cases hc : (c == c') <;> cases he : (e == e') <;>
    simp [part, h1, h2, ha, hb, hc, he]

theorem equalAd (x y : Ad.Ad) (w : World) : (Op.equalIn 10000 24 (adv x) (adv y)).run Tryd.prog w = .ok (decide (x = y)) w := by
  obtain ⟨F0, F1, hf, n0, n1, t0, t1, o0, o1⟩ : ∃ F0 F1 : Field, Tryd.prog.fieldsOf 24 = #[F0, F1] ∧ F0.name ≠ "_" ∧ F1.name ≠ "_" ∧ F0.type = 22 ∧ F1.type = 3 ∧ F0.offset = 0 ∧ F1.offset = 4 :=
    ⟨_, _, by rw [Program.fieldsOf, Tryd.underlying24], by decide, by decide, rfl, rfl, rfl, rfl⟩
  have hu : Tryd.prog.underlying 24 = some (.struct (Tryd.prog.fieldsOf 24)) := by rw [Program.fieldsOf, Tryd.underlying24]
  obtain ⟨a, b, c, d, p⟩ := x
  obtain ⟨a', b', c', d', p'⟩ := y
  have h1 := fun w => equalHost 9997 a b c d a' b' c' d' w
  have h2 := fun w => run_equalIn_int (P := Tryd.prog) w 9998 3 .i64 .i64 p p' Tryd.underlying3
  have i1 := Tryd.isAgg3
  have i4 := Tryd.isAgg22
  have z4 := Tryd.sizeOf22
  have e0 : (adc ⟨a, b, c, d, p⟩).extract 0 4 = #[.int .i64 a, .int .i64 b, .int .i64 c, .int .i64 d] := rfl
  have e1 : (adc ⟨a', b', c', d', p'⟩).extract 0 4 = #[.int .i64 a', .int .i64 b', .int .i64 c', .int .i64 d'] := rfl
  have e2 : (adc ⟨a, b, c, d, p⟩)[4]? = some (.int .i64 p) := rfl
  have e3 : (adc ⟨a', b', c', d', p'⟩)[4]? = some (.int .i64 p') := rfl
  have hd : decide ((⟨a, b, c, d, p⟩ : Ad.Ad) = ⟨a', b', c', d', p'⟩) = (a == a' && b == b' && c == c' && d == d' && p == p') := by
    rw [Bool.eq_iff_iff]
    simp [and_assoc]
  rw [adv, adv, run_equalIn_struct w 9999 24 _ _ hu adHeld, hf, hd]
  simp only [Op.eqFields, n0, n1, t0, t1, o0, o1, ne_eq, not_false_eq_true, if_true, part, Sem.run_bind, i4, z4, Result.andThen_ok, Nat.zero_add, e0, e1, Sem.run_pure, h1]
  cases (a == a' && b == b' && c == c' && d == d')
  · simp only [Bool.not_false, if_true, Sem.run_pure, Bool.false_and]
  · simp only [Bool.not_true, Bool.false_eq_true, if_false, Sem.run_bind, i1, e2, e3, Sem.run_pure, Result.andThen_ok, h2, Bool.true_and]
    cases (p == p')
    · simp only [Bool.not_false, if_true, Sem.run_pure]
    · simp only [Bool.not_true, Bool.false_eq_true, if_false, Sem.run_pure]

set_option maxHeartbeats 1000000 in
/-- An address, and whether it is one. -/
theorem told_any (x : Ad.Ad) (w : World) :
    Calls Tryd.prog 19 #[adv x] w fun e w' => e = .returned (.tuple #[adv x, .bool (decide (x ≠ ad0))]) ∧ Below w.heap.size w w' := by
  have q2 := adHeld
  have q3 := adGuard
  have he := fun w => equalAd x ad0 w
  have hd : decide (x ≠ ad0) = !decide (x = ad0) := by simp
  rw [hd]
  generalize decide (x = ad0) = r at *
  rw [adv, adv] at he
  rw [adv]
  show Calls _ _ _ _ _
  unfold adc ad0 at he
  unfold adc
  go_enter Tryd.func19, Tryd.ntmps19
  go_wp2_with fail
  go_region
  go_wp2
  refine bodyPost_ret (v := .tuple #[adv x, .bool (!r)]) (by simp [results, Tryd.f19, go_sem, adv, adc]) rfl ⟨rfl, ?_⟩
  exact (((Below.refl _ _).alloc (Nat.le_refl _) _).alloc (by simp) _).drew
end Go.Proofs.YtonophhhndhhhaaDoor
