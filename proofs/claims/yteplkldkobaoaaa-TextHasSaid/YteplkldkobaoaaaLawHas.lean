/- The law TextHas walked. -/
import Derived.Test.YteplkldkobaoaaaTurns
import Derived.OpenShut
namespace Go.Proofs.Yteplkldkobaoaaa
open Go.RowKit

theorem part_in (s : ByteArray) (i n : Nat) : ∃ a b, s.data.toList = a ++ (s.extract i (i + n)).data.toList ++ b ∧ (Tx.plain s.data.toList = true → Tx.plain (s.extract i (i + n)).data.toList = true) := by
  have e : s.data.toList = s.data.toList.take i ++ (s.extract i (i + n)).data.toList ++ s.data.toList.drop (i + n) := by
    rw [Lib.extract_data, show i + n - i = n from by omega, List.append_assoc, ← List.drop_drop, List.take_append_drop, List.take_append_drop]
  refine ⟨_, _, e, fun h => ?_⟩
  rw [e, Tx.plain_app, Tx.plain_app] at h
  simp only [Bool.and_eq_true] at h
  exact h.1.2

set_option maxHeartbeats 2000000 in
theorem lawHas (a0 : ByteArray) (x y : Int) (w0 : a0.size ≤ maxLen) (hx0 : 0 ≤ x) (hx1 : x ≤ 65535) (hy0 : 0 ≤ y) (hy1 : y ≤ 65535) (w : World) (hm : MX w) :
    Calls Try.prog 4 #[.string a0, .agg #[.int .u16 x, .int .u16 y]] w fun e w' => e = .returned (.bool true) ∧ Below w.heap.size w w' := by
  have hs0 := shortOf_le a0
  have hs := fun w => short_any a0 w w0
  generalize shortOf a0 = s at hs0 hs
  have HS := Lib.hid hs
  clear hs
  obtain ⟨i, hxi, hil⟩ : ∃ i : Nat, x % ((s.size : Int) + 1) = (i : Int) ∧ i ≤ s.size := by
    refine ⟨(x % ((s.size : Int) + 1)).toNat, ?_, ?_⟩
    · have := Int.emod_nonneg x (show ((s.size : Int) + 1) ≠ 0 by omega)
      omega
    · have := Int.emod_lt_of_pos x (show (0 : Int) < (s.size : Int) + 1 by omega)
      omega
  obtain ⟨n, hyn, hnl⟩ : ∃ n : Nat, y % ((s.size : Int) - (i : Int) + 1) = (n : Int) ∧ i + n ≤ s.size := by
    refine ⟨(y % ((s.size : Int) - (i : Int) + 1)).toNat, ?_, ?_⟩
    · have := Int.emod_nonneg y (show ((s.size : Int) - (i : Int) + 1) ≠ 0 by omega)
      omega
    · have := Int.emod_lt_of_pos y (show (0 : Int) < (s.size : Int) - (i : Int) + 1 by omega)
      omega
  have hba : Below w.heap.size w (w.alloc (.cells #[.int .u16 x, .int .u16 y] 29)) := (Below.refl _ _).alloc (Nat.le_refl _) _
  go_enter Try.func4, Try.ntmps4
  go_wp2_with fail
  refine (shown_any _).mono ?_
  rintro e w2 ⟨rfl, hb1⟩
  have hm2 := (hm.below hba).below hb1
  have c2 := hba.trans (hb1.mono hba.size)
  have k0 : w2.cell? ⟨w.heap.size, 0, none⟩ = some (.int .u16 x) := (hb1.cell (by simp)).trans (by simp)
  have k1 : w2.cell? ⟨w.heap.size, 1, none⟩ = some (.int .u16 y) := (hb1.cell (by simp)).trans (by simp)
  clear hm hba hb1
  go_wp2_with fail
  refine (HS.out _).mono ?_
  rintro e w2' ⟨rfl, rfl⟩
  go_wp2_with fail
  clear hx0 hx1 hy0 hy1 hxi hyn k0 k1
  obtain ⟨l, r, q1, q2⟩ := part_in s i n
  have q3 : (s.extract i (i + n)).size ≤ s.size := by rw [ByteArray.size_extract]; omega
  generalize s.extract i (i + n) = p at q1 q2 q3
  obtain ⟨u, hu⟩ : ∃ u, u = Tx.up p.data.toList := ⟨_, rfl⟩
  obtain ⟨us, hus⟩ : ∃ us, us = Tx.up s.data.toList := ⟨_, rfl⟩
  have hul : u.length = p.size := by rw [hu, Tx.up_len, ← Lib.size_eq]
  have husl : us.length ≤ 400 := by rw [hus, Tx.up_len, ← Lib.size_eq]; exact hs0
  have hul2 : u.length ≤ 400 := by omega
  have e1 : true = Tx.has s.data.toList p.data.toList := by rw [q1, Tx.has_mid]
  have e2 : true = Tx.has s.data.toList (⟨u.toArray⟩ : ByteArray).data.toList := by
    show true = Tx.has s.data.toList u
    rw [hu, Tx.has_upp]; exact e1
  have e3 : true = Tx.has (⟨us.toArray⟩ : ByteArray).data.toList p.data.toList := by
    show true = Tx.has us p.data.toList
    rw [hus, Tx.has_up]; exact e1
  have e4 : true = Tx.has s.data.toList (⟨#[]⟩ : ByteArray).data.toList := by
    have := Tx.has_mid s.data.toList [] []
    rw [List.append_nil, List.append_nil] at this
    exact this.symm
  have e5 : false = Tx.has p.data.toList (s ++ ⟨#[120]⟩).data.toList := by
    cases h : Tx.has p.data.toList (s ++ ⟨#[120]⟩).data.toList
    · rfl
    · have := Tx.has_len h
      rw [← Lib.size_eq, ← Lib.size_eq, ByteArray.size_append'] at this
      have h1 : (⟨#[120]⟩ : ByteArray).size = 1 := rfl
      omega
  have e6 : u = Tx.up (⟨u.toArray⟩ : ByteArray).data.toList := by
    show u = Tx.up u
    rw [hu, Tx.up_up]
  have e7 : ∀ b, Tx.plain s.data.toList = b → ∃ c, Tx.plain p.data.toList = c ∧ (b = true → c = true) := fun b hb => ⟨_, rfl, fun e => q2 (by rw [hb, e])⟩
  have E1 := Lib.hid e1
  have E2 := Lib.hid e2
  have E3 := Lib.hid e3
  have E4 := Lib.hid e4
  have E5 := Lib.hid e5
  have E6 := Lib.hid e6
  have E7 := Lib.hid e7
  have HU := Lib.hid hu
  have HUS := Lib.hid hus
  have hq : ((u.length : Int) == (p.size : Int)) = true := by simp [hul]
  clear e1 e2 e3 e4 e5 e6 e7 hu hus hul q1 q2 hnl hil l r
  refine (upper_at HU.out _ (by omega)).mono ?_
  rintro e w3 ⟨rfl, hb3⟩
  have hm3 := hm2.below hb3
  have c3 := c2.trans (hb3.mono c2.size)
  clear hb3 hm2 c2
  go_wp2_with fail
  refine (has_of E1.out _ hm3 (by omega) (by omega)).mono ?_
  rintro e w4 ⟨rfl, hb4⟩
  have hm4 := hm3.below hb4
  have c4 := c3.trans (hb4.mono c3.size)
  clear hb4 hm3 c3
  go_wp2_with fail
  refine (has_of E2.out _ hm4 (by omega) (by show u.toArray.size ≤ _; rw [List.size_toArray]; omega)).mono ?_
  rintro e w5 ⟨rfl, hb5⟩
  have hm5 := hm4.below hb5
  have c5 := c4.trans (hb5.mono c4.size)
  clear hb5 hm4 c4
  go_wp2_with fail
  refine (upper_at HUS.out _ (by omega)).mono ?_
  rintro e w6 ⟨rfl, hb6⟩
  have hm6 := hm5.below hb6
  have c6 := c5.trans (hb6.mono c5.size)
  clear hb6 hm5 c5
  go_wp2_with fail
  refine (has_of E3.out _ hm6 (by show us.toArray.size ≤ _; rw [List.size_toArray]; omega) (by omega)).mono ?_
  rintro e w7 ⟨rfl, hb7⟩
  have hm7 := hm6.below hb7
  have c7 := c6.trans (hb7.mono c6.size)
  clear hb7 hm6 c6
  go_wp2_with fail
  refine (has_of E4.out _ hm7 (by omega) (by decide)).mono ?_
  rintro e w8 ⟨rfl, hb8⟩
  have hm8 := hm7.below hb8
  have c8 := c7.trans (hb8.mono c7.size)
  clear hb8 hm7 c7
  go_wp2_with fail
  refine (has_of E5.out _ hm8 (by omega) (by rw [ByteArray.size_append']; show s.size + 1 ≤ _; omega)).mono ?_
  rintro e w9 ⟨rfl, hb9⟩
  have c9 := c8.trans (hb9.mono c8.size)
  clear hb9 hm8 c8
  go_wp2_with fail
  refine (upper_at E6.out _ (by show u.toArray.size ≤ _; rw [List.size_toArray]; omega)).mono ?_
  rintro e w10 ⟨rfl, hb10⟩
  have c10 := c9.trans (hb10.mono c9.size)
  clear hb10 c9
  obtain ⟨b, hb⟩ : ∃ b, Tx.plain s.data.toList = b := ⟨_, rfl⟩
  obtain ⟨c, hc, hbc⟩ := E7.out b hb
  have HB := Lib.hid hb
  have HC := Lib.hid hc
  clear hb hc
  cases c
  · have hbf : b = false := by cases b <;> simp_all
    subst hbf
    clear hbc
    go_wp2_with fail
    refine (plain_at HC.out _).mono ?_
    rintro e w11 ⟨rfl, hb11⟩
    have c11 := c10.trans (hb11.mono c10.size)
    clear hb11 c10
    go_wp2_with fail
    refine (plain_at HB.out _).mono ?_
    rintro e w12 ⟨rfl, hb12⟩
    have c12 := c11.trans (hb12.mono c11.size)
    clear hb12 c11
    go_wp2
    go_ret
    exact ⟨rfl, c12⟩
  · clear hbc
    go_wp2_with fail
    refine (plain_at HC.out _).mono ?_
    rintro e w11 ⟨rfl, hb11⟩
    have c11 := c10.trans (hb11.mono c10.size)
    clear hb11 c10
    go_wp2
    go_ret
    exact ⟨rfl, c11⟩

theorem lawHas_row (a0 : ByteArray) (x y : Int) (w0 : a0.size ≤ maxLen) (hx : (Lit.int .u16 x).wf = true) (hy : (Lit.int .u16 y).wf = true) (w : World) (hm : MX w) :
    Calls Try.prog 4 #[.string a0, .agg #[.int .u16 x, .int .u16 y]] w fun e w' => e = .returned (.bool true) ∧ Below w.heap.size w w' := by
  have h1 := bounds_u16 hx
  have h2 := bounds_u16 hy
  exact lawHas a0 x y w0 h1.1 h1.2 h2.1 h2.2 w hm

end Go.Proofs.Yteplkldkobaoaaa
