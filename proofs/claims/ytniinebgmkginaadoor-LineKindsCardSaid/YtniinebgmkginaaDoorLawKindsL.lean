/- The walk of LineKinds. (Laid by wip/tools/gen_lkinds.py.) -/
import Derived.Test.YtniinebgmkginaaDoorLineLaw
import Derived.Test.YtniinebgmkginaaDoorLineCodes
namespace Go.Proofs.YtniinebgmkginaaDoor
open Go.RowKit

set_option maxHeartbeats 4000000 in
set_option maxRecDepth 20000 in
theorem kinds_num (l q : List UInt8) (cA tA : ByteArray) (mA : Bool) (h3 : (cA.size : Int) = 3) (hle : (tA.size : Int) ≤ (q.length : Int)) (K1 : ∀ w, Calls Tryd.prog 12 #[.int .i64 1, .string cA] w fun e w' => e = .returned (.bool true) ∧ Below w.heap.size w w') (K2 : ∀ w, Calls Tryd.prog 12 #[.int .i64 2, .string cA] w fun e w' => e = .returned (.bool false) ∧ Below w.heap.size w w') (hsh : ∀ w, Calls Tryd.prog 9 #[.string (ba l)] w fun e w' => e = .returned (.string (ba q)) ∧ w' = w)
    (S1 : ∀ w, Calls Tryd.prog 10 #[.int .i64 1, .string (ba q)] w fun e w' => e = .returned (.tuple #[.agg #[.string cA, .bool mA, .string tA], .bool true]) ∧ Below w.heap.size w w')
    (S3 : ∀ w, Calls Tryd.prog 10 #[.int .i64 3, .string (ba q)] w fun e w' => e = .returned (.tuple #[.agg #[.string cA, .bool mA, .string tA], .bool true]) ∧ Below w.heap.size w w')
    (S2 : ∀ w, Calls Tryd.prog 10 #[.int .i64 2, .string (ba q)] w fun e w' => e = .returned (.tuple #[.agg #[.string ⟨#[]⟩, .bool false, .string ⟨#[]⟩], .bool false]) ∧ Below w.heap.size w w')
    (S0 : ∀ w, Calls Tryd.prog 10 #[.int .i64 0, .string (ba q)] w fun e w' => e = .returned (.tuple #[.agg #[.string ⟨#[]⟩, .bool false, .string ⟨#[]⟩], .bool false]) ∧ Below w.heap.size w w') (w : World) :
    Calls Tryd.prog 6 #[.string (ba l)] w fun e w' => e = .returned (.bool true) ∧ Below w.heap.size w w' := by
  have q2 := stHeld
  have q3 := stGuard
  have hz : (ba q).size = q.length := rfl
  go_enter Tryd.func6, Tryd.ntmps6
  go_wp2_with (first
    | (go_at_call 8; refine (shown_any _).mono ?_; rintro e w1 ⟨rfl, hb1⟩)
    | (go_at_call 9; refine (hsh _).mono ?_; rintro e w' ⟨rfl, hw⟩; rw [hw]; clear hw)
    | (go_at_call 10; first
      | (refine (S1 _).mono ?_; rintro e w2 ⟨rfl, hb2⟩; clear S1; replace hb2 := hb1.trans (hb2.mono hb1.size); clear hb1)
      | (refine (S3 _).mono ?_; rintro e w3 ⟨rfl, hb3⟩; clear S3; have sA := (St3.new w2 cA tA mA).same (hb3.block _ (by simp)); replace hb3 := (hb2.alloc hb2.size (.cells #[.string cA, .bool mA, .string tA] 25)).trans (hb3.mono (by have := hb2.size; simp; omega)); clear hb2)
      | (refine (S2 _).mono ?_; rintro e w4 ⟨rfl, hb4⟩; clear S2; replace sA := (sA.alloc (.cells #[.string cA, .bool mA, .string tA] 25)).same (hb4.block _ (by have := sA.lt; simp; omega)); have sB := (St3.new w3 cA tA mA).same (hb4.block _ (by simp)); replace hb4 := (hb3.alloc hb3.size (.cells #[.string cA, .bool mA, .string tA] 25)).trans (hb4.mono (by have := hb3.size; simp; omega)); clear hb3)
      | (refine (S0 _).mono ?_; rintro e w5 ⟨rfl, hb5⟩; clear S0; replace sA := (sA.alloc (.cells #[.string ⟨#[]⟩, .bool false, .string ⟨#[]⟩] 25)).same (hb5.block _ (by have := sA.lt; simp; omega)); replace sB := (sB.alloc (.cells #[.string ⟨#[]⟩, .bool false, .string ⟨#[]⟩] 25)).same (hb5.block _ (by have := sB.lt; simp; omega)); have sC := (St3.new w4 ⟨#[]⟩ ⟨#[]⟩ false).same (hb5.block _ (by simp)); replace hb5 := (hb4.alloc hb4.size (.cells #[.string ⟨#[]⟩, .bool false, .string ⟨#[]⟩] 25)).trans (hb5.mono (by have := hb4.size; simp; omega)); clear hb4; have a0 := fun o => (sA.alloc o).c0; have a1 := fun o => (sA.alloc o).c1; have a2 := fun o => (sA.alloc o).c2; have b0 := fun o => (sB.alloc o).c0; have b1 := fun o => (sB.alloc o).c1; have b2 := fun o => (sB.alloc o).c2; have k0 := fun o => (sC.alloc o).c0; have k1 := fun o => (sC.alloc o).c1; have k2 := fun o => (sC.alloc o).c2))
    | (go_at_call 12; first
      | (refine (K1 _).mono ?_; rintro e w6 ⟨rfl, hb6⟩; clear K1 a0 a1 a2 b0 b1 b2 k0 k1 k2 sB sC; replace sA := (sA.alloc (.cells #[.string ⟨#[]⟩, .bool false, .string ⟨#[]⟩] 25)).same (hb6.block _ (by have := sA.lt; simp; omega)); replace hb6 := (hb5.alloc hb5.size (.cells #[.string ⟨#[]⟩, .bool false, .string ⟨#[]⟩] 25)).trans (hb6.mono (by have := hb5.size; simp; omega)); clear hb5; have a0 := sA.c0)
      | (refine (K2 _).mono ?_; rintro e w7 ⟨rfl, hb7⟩; clear K2 a0; replace sA := sA.same (hb7.block _ sA.lt); replace hb7 := hb6.trans (hb7.mono hb6.size); clear hb6; have a0 := sA.c0; have a2 := sA.c2)))
  go_ret
  exact ⟨rfl, hb7⟩

set_option maxHeartbeats 4000000 in
set_option maxRecDepth 20000 in
theorem kinds_pop (l q : List UInt8) (cC tC : ByteArray) (h1 : (cC.size : Int) = 1) (K2 : ∀ w, Calls Tryd.prog 12 #[.int .i64 2, .string cC] w fun e w' => e = .returned (.bool true) ∧ Below w.heap.size w w') (hsh : ∀ w, Calls Tryd.prog 9 #[.string (ba l)] w fun e w' => e = .returned (.string (ba q)) ∧ w' = w)
    (S1 : ∀ w, Calls Tryd.prog 10 #[.int .i64 1, .string (ba q)] w fun e w' => e = .returned (.tuple #[.agg #[.string ⟨#[]⟩, .bool false, .string ⟨#[]⟩], .bool false]) ∧ Below w.heap.size w w')
    (S3 : ∀ w, Calls Tryd.prog 10 #[.int .i64 3, .string (ba q)] w fun e w' => e = .returned (.tuple #[.agg #[.string ⟨#[]⟩, .bool false, .string ⟨#[]⟩], .bool false]) ∧ Below w.heap.size w w')
    (S2 : ∀ w, Calls Tryd.prog 10 #[.int .i64 2, .string (ba q)] w fun e w' => e = .returned (.tuple #[.agg #[.string cC, .bool false, .string tC], .bool true]) ∧ Below w.heap.size w w')
    (S0 : ∀ w, Calls Tryd.prog 10 #[.int .i64 0, .string (ba q)] w fun e w' => e = .returned (.tuple #[.agg #[.string ⟨#[]⟩, .bool false, .string ⟨#[]⟩], .bool false]) ∧ Below w.heap.size w w') (w : World) :
    Calls Tryd.prog 6 #[.string (ba l)] w fun e w' => e = .returned (.bool true) ∧ Below w.heap.size w w' := by
  have q2 := stHeld
  have q3 := stGuard
  have hz : (ba q).size = q.length := rfl
  go_enter Tryd.func6, Tryd.ntmps6
  go_wp2_with (first
    | (go_at_call 8; refine (shown_any _).mono ?_; rintro e w1 ⟨rfl, hb1⟩)
    | (go_at_call 9; refine (hsh _).mono ?_; rintro e w' ⟨rfl, hw⟩; rw [hw]; clear hw)
    | (go_at_call 10; first
      | (refine (S1 _).mono ?_; rintro e w2 ⟨rfl, hb2⟩; clear S1; replace hb2 := hb1.trans (hb2.mono hb1.size); clear hb1)
      | (refine (S3 _).mono ?_; rintro e w3 ⟨rfl, hb3⟩; clear S3; have sA := (St3.new w2 ⟨#[]⟩ ⟨#[]⟩ false).same (hb3.block _ (by simp)); replace hb3 := (hb2.alloc hb2.size (.cells #[.string ⟨#[]⟩, .bool false, .string ⟨#[]⟩] 25)).trans (hb3.mono (by have := hb2.size; simp; omega)); clear hb2)
      | (refine (S2 _).mono ?_; rintro e w4 ⟨rfl, hb4⟩; clear S2; replace sA := (sA.alloc (.cells #[.string ⟨#[]⟩, .bool false, .string ⟨#[]⟩] 25)).same (hb4.block _ (by have := sA.lt; simp; omega)); have sB := (St3.new w3 ⟨#[]⟩ ⟨#[]⟩ false).same (hb4.block _ (by simp)); replace hb4 := (hb3.alloc hb3.size (.cells #[.string ⟨#[]⟩, .bool false, .string ⟨#[]⟩] 25)).trans (hb4.mono (by have := hb3.size; simp; omega)); clear hb3)
      | (refine (S0 _).mono ?_; rintro e w5 ⟨rfl, hb5⟩; clear S0; replace sA := (sA.alloc (.cells #[.string cC, .bool false, .string tC] 25)).same (hb5.block _ (by have := sA.lt; simp; omega)); replace sB := (sB.alloc (.cells #[.string cC, .bool false, .string tC] 25)).same (hb5.block _ (by have := sB.lt; simp; omega)); have sC := (St3.new w4 cC tC false).same (hb5.block _ (by simp)); replace hb5 := (hb4.alloc hb4.size (.cells #[.string cC, .bool false, .string tC] 25)).trans (hb5.mono (by have := hb4.size; simp; omega)); clear hb4; have a0 := fun o => (sA.alloc o).c0; have a1 := fun o => (sA.alloc o).c1; have a2 := fun o => (sA.alloc o).c2; have b0 := fun o => (sB.alloc o).c0; have b1 := fun o => (sB.alloc o).c1; have b2 := fun o => (sB.alloc o).c2; have k0 := fun o => (sC.alloc o).c0; have k1 := fun o => (sC.alloc o).c1; have k2 := fun o => (sC.alloc o).c2))
    | (go_at_call 12; refine (K2 _).mono ?_; rintro e w6 ⟨rfl, hb6⟩; clear K2 a0 a1 a2 b0 b1 b2 k0 k1 k2 sA sB; replace sC := (sC.alloc (.cells #[.string ⟨#[]⟩, .bool false, .string ⟨#[]⟩] 25)).same (hb6.block _ (by have := sC.lt; simp; omega)); replace hb6 := (hb5.alloc hb5.size (.cells #[.string ⟨#[]⟩, .bool false, .string ⟨#[]⟩] 25)).trans (hb6.mono (by have := hb5.size; simp; omega)); clear hb5; have k0 := sC.c0; have k1 := sC.c1))
  go_ret
  exact ⟨rfl, hb6⟩

set_option maxHeartbeats 4000000 in
set_option maxRecDepth 20000 in
theorem kinds_none (l q : List UInt8)  (hsh : ∀ w, Calls Tryd.prog 9 #[.string (ba l)] w fun e w' => e = .returned (.string (ba q)) ∧ w' = w)
    (S1 : ∀ w, Calls Tryd.prog 10 #[.int .i64 1, .string (ba q)] w fun e w' => e = .returned (.tuple #[.agg #[.string ⟨#[]⟩, .bool false, .string ⟨#[]⟩], .bool false]) ∧ Below w.heap.size w w')
    (S3 : ∀ w, Calls Tryd.prog 10 #[.int .i64 3, .string (ba q)] w fun e w' => e = .returned (.tuple #[.agg #[.string ⟨#[]⟩, .bool false, .string ⟨#[]⟩], .bool false]) ∧ Below w.heap.size w w')
    (S2 : ∀ w, Calls Tryd.prog 10 #[.int .i64 2, .string (ba q)] w fun e w' => e = .returned (.tuple #[.agg #[.string ⟨#[]⟩, .bool false, .string ⟨#[]⟩], .bool false]) ∧ Below w.heap.size w w')
    (S0 : ∀ w, Calls Tryd.prog 10 #[.int .i64 0, .string (ba q)] w fun e w' => e = .returned (.tuple #[.agg #[.string ⟨#[]⟩, .bool false, .string ⟨#[]⟩], .bool false]) ∧ Below w.heap.size w w') (w : World) :
    Calls Tryd.prog 6 #[.string (ba l)] w fun e w' => e = .returned (.bool true) ∧ Below w.heap.size w w' := by
  have q2 := stHeld
  have q3 := stGuard
  have hz : (ba q).size = q.length := rfl
  go_enter Tryd.func6, Tryd.ntmps6
  go_wp2_with (first
    | (go_at_call 8; refine (shown_any _).mono ?_; rintro e w1 ⟨rfl, hb1⟩)
    | (go_at_call 9; refine (hsh _).mono ?_; rintro e w' ⟨rfl, hw⟩; rw [hw]; clear hw)
    | (go_at_call 10; first
      | (refine (S1 _).mono ?_; rintro e w2 ⟨rfl, hb2⟩; clear S1; replace hb2 := hb1.trans (hb2.mono hb1.size); clear hb1)
      | (refine (S3 _).mono ?_; rintro e w3 ⟨rfl, hb3⟩; clear S3; have sA := (St3.new w2 ⟨#[]⟩ ⟨#[]⟩ false).same (hb3.block _ (by simp)); replace hb3 := (hb2.alloc hb2.size (.cells #[.string ⟨#[]⟩, .bool false, .string ⟨#[]⟩] 25)).trans (hb3.mono (by have := hb2.size; simp; omega)); clear hb2)
      | (refine (S2 _).mono ?_; rintro e w4 ⟨rfl, hb4⟩; clear S2; replace sA := (sA.alloc (.cells #[.string ⟨#[]⟩, .bool false, .string ⟨#[]⟩] 25)).same (hb4.block _ (by have := sA.lt; simp; omega)); have sB := (St3.new w3 ⟨#[]⟩ ⟨#[]⟩ false).same (hb4.block _ (by simp)); replace hb4 := (hb3.alloc hb3.size (.cells #[.string ⟨#[]⟩, .bool false, .string ⟨#[]⟩] 25)).trans (hb4.mono (by have := hb3.size; simp; omega)); clear hb3)
      | (refine (S0 _).mono ?_; rintro e w5 ⟨rfl, hb5⟩; clear S0; replace sA := (sA.alloc (.cells #[.string ⟨#[]⟩, .bool false, .string ⟨#[]⟩] 25)).same (hb5.block _ (by have := sA.lt; simp; omega)); replace sB := (sB.alloc (.cells #[.string ⟨#[]⟩, .bool false, .string ⟨#[]⟩] 25)).same (hb5.block _ (by have := sB.lt; simp; omega)); have sC := (St3.new w4 ⟨#[]⟩ ⟨#[]⟩ false).same (hb5.block _ (by simp)); replace hb5 := (hb4.alloc hb4.size (.cells #[.string ⟨#[]⟩, .bool false, .string ⟨#[]⟩] 25)).trans (hb5.mono (by have := hb4.size; simp; omega)); clear hb4; have a0 := fun o => (sA.alloc o).c0; have a1 := fun o => (sA.alloc o).c1; have a2 := fun o => (sA.alloc o).c2; have b0 := fun o => (sB.alloc o).c0; have b1 := fun o => (sB.alloc o).c1; have b2 := fun o => (sB.alloc o).c2; have k0 := fun o => (sC.alloc o).c0; have k1 := fun o => (sC.alloc o).c1; have k2 := fun o => (sC.alloc o).c2)))
  go_ret
  exact ⟨rfl, hb5.alloc hb5.size _⟩

theorem lawKinds (a0 : ByteArray) (h0 : a0.size ≤ maxLen) (w : World) :
    Calls Tryd.prog 6 #[.string a0] w fun e w' => e = .returned (.bool true) ∧ Below w.heap.size w w' := by
  obtain ⟨l, rfl⟩ : ∃ l, a0 = ba l := ⟨a0.data.toList, (ba_self a0).symm⟩
  have hsh := short_any l h0
  have hql : (l.take 200).length ≤ 16777216 := by rw [List.length_take]; omega
  generalize l.take 200 = q at hsh hql
  have S1 := status_any 1 q hql
  have S3 := status_any 3 q hql
  have S2 := status_any 2 q hql
  have S0 := status_any 0 q hql
  have e1 : Ln.status 1 q = Ln.num q := rfl
  have e3 : Ln.status 3 q = Ln.num q := rfl
  have e2 : Ln.status 2 q = Ln.pop q := rfl
  have e0 : Ln.status 0 q = none := rfl
  rw [e1] at S1
  rw [e3] at S3
  rw [e2] at S2
  rw [e0] at S0
  cases hn : Ln.num q with
  | some r =>
    obtain ⟨a, b, c, t, hq, ha, hb, hc, hcode, ht⟩ := Ln.num_some hn
    obtain ⟨_, hlen, _⟩ := Ln.tail3_some ht
    rw [hn] at S1 S3
    rw [Ln.num_pop hn] at S2
    refine kinds_num l q (ba r.code) (ba r.text) r.more (by rw [ba_size, hcode]; rfl) (by rw [ba_size, hq]; simp; omega) ?_ ?_ hsh S1 S3 S2 S0 w
    · intro w
      have := codes_any 1 r.code (by rw [hcode]; simp) w
      rwa [hcode, Ln.codes_own (.inl rfl) ha hb hc, ← hcode] at this
    · intro w
      have := codes_any 2 r.code (by rw [hcode]; simp) w
      rwa [hcode, Ln.codes_not_pop ha hb hc, ← hcode] at this
  | none =>
    rw [hn] at S1 S3
    cases hp : Ln.pop q with
    | some r =>
      obtain ⟨hm, hcode⟩ := Ln.pop_some hp
      rw [hp] at S2
      obtain ⟨c, m, t⟩ := r
      simp only at hm hcode
      subst hm
      have hl : c.length = 1 := by rcases hcode with rfl | rfl | rfl <;> rfl
      have hk : Ln.codes 2 c = true := by rcases hcode with rfl | rfl | rfl <;> rfl
      refine kinds_pop l q (ba c) (ba t) (by rw [ba_size, hl]; rfl) ?_ hsh S1 S3 S2 S0 w
      intro w
      have := codes_any 2 c (by omega) w
      rwa [hk] at this
    | none =>
      rw [hp] at S2
      exact kinds_none l q hsh S1 S3 S2 S0 w
end Go.Proofs.YtniinebgmkginaaDoor
