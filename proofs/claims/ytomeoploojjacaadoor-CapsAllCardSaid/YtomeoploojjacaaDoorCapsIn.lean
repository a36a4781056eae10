/- caps.inner, capitals walked. -/
import Derived.Test.YtomeoploojjacaaDoorCapsP
import Derived.Test.YtomeoploojjacaaDoorRowCut
import Derived.Test.YtomeoploojjacaaDoorWords
import Derived.Test.YtomeoploojjacaaDoorUpper
namespace Go.Proofs.YtomeoploojjacaaDoor
open Go.RowKit

set_option maxHeartbeats 1000000 in
/-- All but the first, and as many of the last (k is 0 or 1). -/
theorem inner_any (k : Nat) (hk : k ≤ 1) (v : Value) (vs : List Value) (w : World) (h : Rd w v vs) (hl : vs.length ≤ 1048576) :
    Calls Tryd.prog 30 #[v, .int .i64 (k : Int)] w fun e w' => ∃ v', e = .returned v' ∧ Rd w' v' ((vs.drop 1).take (vs.length - 1 - k)) ∧ w' = w := by
  obtain ⟨ao, cap, rfl, hc, hz, _⟩ := h.formV
  obtain ⟨L, hL⟩ : ∃ L, L = vs.length := ⟨_, rfl⟩
  rw [← hL] at h hc hl ⊢
  by_cases hlt : L < 1 + k
  · have e : (vs.drop 1).take (L - 1 - k) = [] := by rw [show L - 1 - k = 0 by omega, List.take_zero]
    rw [e]
    have t1 : (L : Int) < 1 + (k : Int) := by omega
    clear h hL e
    go_enter Tryd.func30, Tryd.ntmps30
    go_wp2
    go_ret
    exact ⟨_, rfl, .inl ⟨rfl, _, _, fun _ => rfl, rfl⟩, rfl⟩
  · have h1 := h.tailV hL (m := 1) (by omega)
    have h2 := h1.cutW (m := L - 1 - k) (by rw [List.length_drop, hL]) (by omega)
    generalize (vs.drop 1).take (L - 1 - k) = R at h2 ⊢
    obtain ⟨M, hM⟩ : ∃ M, M = L - k := ⟨_, rfl⟩
    have t1 : ((L : Int) < 1 + (k : Int)) = False := eq_false (by omega)
    have t2 : (L : Int) - (k : Int) = (M : Int) := by omega
    have t3 : (1 : Int) ≤ (M : Int) := by omega
    have t4 : (M : Int) ≤ (cap : Int) := by omega
    have t5 : M - 1 = L - 1 - k := by omega
    have t6 : M ≤ 1048576 := by omega
    clear h h1 hL hM hlt
    by_cases hcap : cap = 1
    · rw [if_pos hcap] at h2
      subst hcap
      rw [show L - 1 - k = 0 by omega] at h2
      have H := Lib.hid h2
      clear h2
      go_enter Tryd.func30, Tryd.ntmps30
      go_wp2
      go_ret
      exact ⟨_, rfl, H.out, rfl⟩
    · rw [if_neg hcap] at h2
      have e1 : ∀ x : Addr, x.add 1 = { block := x.block, off := x.off + 1 } := fun x => by unfold Addr.add; rw [if_neg (by decide)]
      simp only [e1] at h2
      have H := Lib.hid h2
      clear h2 e1
      go_enter Tryd.func30, Tryd.ntmps30
      go_wp2
      go_ret
      exact ⟨_, rfl, H.out, rfl⟩

theorem capitals_any (s : ByteArray) (w : World) (hs : s.size ≤ 1048576) :
    Calls Tryd.prog 21 #[.string s] w fun e w' => ∃ v, e = .returned v ∧ w'.ownsRow w.heap.size 9 1 v (Tx.words (Tx.up s.data.toList)).length ((Tx.words (Tx.up s.data.toList)).map sv) ∧ Below w.heap.size w w' := by
  go_enter Tryd.func21, Tryd.ntmps21
  have hu : (⟨(Tx.up s.data.toList).toArray⟩ : ByteArray).size ≤ 1048576 := by
    rw [Lib.size_eq]
    show (Tx.up s.data.toList).length ≤ _
    rw [Tx.up_len, ← Lib.size_eq]
    exact hs
  have C1 := upper_any s w hs
  have C2 := fun w1 => words_any ⟨(Tx.up s.data.toList).toArray⟩ w1 hu
  go_wp2_with fail
  refine C1.mono ?_
  rintro e w1 ⟨rfl, hb1⟩
  go_wp2_with fail
  refine (C2 w1).mono ?_
  rintro e w2 ⟨v, rfl, ho, hb2⟩
  go_wp2
  go_ret
  exact ⟨v, rfl, ownsRow_lower ho hb1.size, hb1.trans (hb2.mono hb1.size)⟩
end Go.Proofs.YtomeoploojjacaaDoor
