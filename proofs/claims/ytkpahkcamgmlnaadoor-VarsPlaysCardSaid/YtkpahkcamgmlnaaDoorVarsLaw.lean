/- The small functions of the laws of layer 16, walked. -/
import Derived.Test.YtkpahkcamgmlnaaDoorVarsSet
import Derived.Test.YtkpahkcamgmlnaaDoorVarsEx
namespace Go.Proofs.YtkpahkcamgmlnaaDoor
open Go.RowKit

theorem short_any (s : ByteArray) (hs : s.size ≤ maxLen) (n : Nat) (hn : n ≤ 10000) (w : World) :
    Calls Tryd.prog 10 #[.string s, .int .i64 (n : Int)] w fun e w' => e = .returned (.string ⟨(s.data.toList.take n).toArray⟩) ∧ w = w' := by
  unfold maxLen at hs
  have hl := Lib.size_eq s
  obtain ⟨L, hL⟩ : ∃ L, s.size = L := ⟨_, rfl⟩
  rw [hL] at hs
  have hz : s.size = L := hL
  by_cases hlt : n < L
  · have hx : s.extract 0 n = ⟨(s.data.toList.take n).toArray⟩ := by
      have := ba_extract s.data.toList 0 n
      simpa using this
    have h1 : ((n : Int) < (L : Int)) = True := eq_true (by omega)
    have h2 : (n : Int) ≤ (L : Int) := by omega
    rw [← hx]
    clear hx hlt hL hl
    go_enter Tryd.func10, Tryd.ntmps10
    go_wp2
    go_ret
    exact ⟨rfl, rfl⟩
  · have e : (⟨(s.data.toList.take n).toArray⟩ : ByteArray) = s := by
      rw [List.take_of_length_le (by rw [← hl]; omega)]
    have h1 : ((n : Int) < (L : Int)) = False := eq_false (by omega)
    rw [e]
    clear e hlt hL hl
    go_enter Tryd.func10, Tryd.ntmps10
    go_wp2
    go_ret
    exact ⟨rfl, rfl⟩

/-- A map's names of the call's own: since w nothing turned below. -/
structure VN (w wr : World) (b : Nat) (x : Option Nat) (σ : Va.Env) : Prop where
  vo : VO wr b x σ
  own : ∀ k, VF b x k → w.heap.size ≤ k
  below : Below w.heap.size w wr
section
variable {w wr w' : World} {b : Nat} {x x' : Option Nat} {σ σ' : Va.Env}
theorem VN.later (h : VN w wr b x σ) (hb : Below wr.heap.size wr w') : VN w w' b x σ := ⟨h.vo.below hb, h.own, h.below.trans (hb.mono h.below.size)⟩
theorem VN.turn (h : VN w wr b x σ) (hv : VO w' b x' σ') (ht : Trn (VF b x) wr w') (hf : Fx (VF b x) (VF b x') wr.heap.size) : VN w w' b x' σ' :=
  ⟨hv, fun k hk => by
    rcases hf k hk with hk | hk
    · exact h.own k hk
    · exact Nat.le_trans h.below.size hk, h.below.trans (ht.below h.own h.below.size)⟩
end
theorem vnew_own (w : World) : Calls Tryd.prog 9 #[] w fun e w' => ∃ b, e = .returned (.pointer (some ⟨b, 0, none⟩)) ∧ VN w w' b none [] ∧ w.heap.size ≤ b := by
  refine (vnew_any w).mono ?_
  rintro e w' ⟨rfl, h1, h2⟩
  refine ⟨_, rfl, ⟨h1, ?_, h2⟩, Nat.le_refl _⟩
  rintro k (rfl | hk)
  · exact Nat.le_refl _
  · cases hk
theorem vset_own {w wr : World} {b : Nat} {x : Option Nat} {σ : Va.Env} (h : VN w wr b x σ) (n v : List UInt8) (hn : n.length ≤ 16777216) (hv : v.length ≤ 16777216) :
    Calls Tryd.prog 14 #[.pointer (some ⟨b, 0, none⟩), .string ⟨n.toArray⟩, .string ⟨v.toArray⟩] wr fun e w' =>
      ∃ x', e = .returned (.int .i64 ((Va.set σ n v).2 : Int)) ∧ VN w w' b x' (Va.set σ n v).1 := by
  refine (vset_any h.vo n v hn hv).mono ?_
  rintro e w' ⟨x', rfl, h1, h2, h3⟩
  exact ⟨x', rfl, h.turn h1 h2 h3⟩

set_option maxHeartbeats 2000000 in
theorem shown_any (w : World) : Calls Tryd.prog 8 #[] w fun e w' => e = .returned (.bool true) ∧ Below w.heap.size w w' := by
  have hx : ((⟨#[120, 46, 36]⟩ : ByteArray).toList == (⟨#[120, 46, 36]⟩ : ByteArray).toList) = true := by rw [Lib.toList_data]; rfl
  go_enter Tryd.func8, Tryd.ntmps8
  go_wp2_with fail
  refine (vnew_own w).mono ?_
  rintro e w1 ⟨b, rfl, h1, _⟩
  have H1 := Lib.hid h1
  clear h1
  go_wp2_with fail
  refine (vset_own H1.out [97] [120] (by decide) (by decide)).mono ?_
  rintro e w2 ⟨x2, rfl, h2⟩
  have H2 := Lib.hid h2
  clear h2 H1
  go_wp2_with fail
  have hex := vexpand_any H2.out.vo [36, 97, 46, 36, 36] (by decide)
  rw [show (Va.set [] [97] [120]).1 = [([97], [120])] from rfl, Va.shown] at hex
  have hex : Calls Tryd.prog 18 #[.pointer (some ⟨b, 0, none⟩), .string ⟨#[36, 97, 46, 36, 36]⟩] w2 fun e w' => e = .returned (.tuple #[.string ⟨#[120, 46, 36]⟩, .bool true]) ∧ Below w2.heap.size w2 w' := hex
  refine hex.mono ?_
  rintro e w3 ⟨rfl, hb3⟩
  have HB := Lib.hid (H2.out.later hb3).below
  clear hb3 hex H2
  rw [show (Va.set [] [97] [120]).2 = 0 from rfl]
  go_wp2
  go_ret
  exact ⟨rfl, HB.out⟩
end Go.Proofs.YtkpahkcamgmlnaaDoor
