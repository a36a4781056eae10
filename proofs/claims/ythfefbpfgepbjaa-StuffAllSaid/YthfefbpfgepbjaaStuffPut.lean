/- stuff.eachLine, Whole and Put walked. -/
import Derived.Test.YthfefbpfgepbjaaStuffEach
namespace Go.Proofs.Ythfefbpfgepbjaa
open Go.RowKit

/-- What holds at the head of a round. -/
structure EL (w0 wr : World) (g : Nat) (xs : List UInt8) (v : Value) (L : Nat) (ys done : List UInt8) (s : Value) : Prop where
  e : xs = done ++ ys
  l : L = ys.length
  d : done = [] ∨ St.ends done = true
  y : ys = [] ∨ St.ends ys = true
  r : RowAt w0 wr g s (St.dots [] done)
  rd : ∀ w s' xs', RowAt w0 w g s' xs' → Rd w v (ys.map bv)
def lenV : Value → Nat | .slice _ n _ => n | _ => 0

set_option maxHeartbeats 1000000 in
theorem each_any (v : Value) (xs : List UInt8) (g : Nat) (w0 : World) (h : Rd w0 v (xs.map bv)) (hx : xs = [] ∨ St.ends xs = true) (hs : xs.length ≤ 1000000) (hg : w0.heap[g]? = some (.cells #[.slice none 0 0] 22 (0, 0))) (hm : MX w0) :
    Calls Try.prog 19 #[v, .func (.func 20) #[] #[.pointer (some ⟨g, 0, none⟩)]] w0 fun e w' => ∃ s, e = .returned (.tuple #[]) ∧ RowAt w0 w' g s (St.dots [] xs) := by
  obtain ⟨ao, cap, rfl, _, _⟩ := h.form
  have hst : EL w0 w0 g xs (.slice ao xs.length cap) xs.length xs [] (.slice none 0 0) := ⟨rfl, rfl, .inl rfl, hx, RowAt.start hg, fun w s' xs' hr => hr.rd hg h⟩
  have hmx : ∀ w s' xs', RowAt w0 w g s' xs' → MX w := fun w s' xs' hr => hr.mx hg hm
  have HS := Lib.hid hs
  have HM := Lib.hid hmx
  have HST := Lib.hid hst
  have kc := fun (w : World) (C : Array Value) (n c : Nat) => Lib.run_convert_bytes_const (P := Try.prog) w 22 5 C n c Try.underlying22 Try.underlying5
  clear h hx hg hm hst hmx
  go_enter Try.func19, Try.ntmps19
  go_wp2
  go_loopw [0] (fun v wr => ∃ (ao : Option Addr) (cap L : Nat) (ys done : List UInt8) (s : Value), v = .slice ao L cap ∧ L ≤ 1000000 ∧ Hid (EL w0 wr g xs v L ys done s)) (fun v _ => lenV v)
  case atStart => exact ⟨ao, cap, xs.length, xs, [], _, rfl, hs, HST⟩
  case round =>
    obtain ⟨ao, cap, L, ys, done, s, rfl, hL, HE⟩ := hrel
    by_cases hlt : 0 < L
    · have hy : St.ends ys = true := by
        rcases HE.out.y with h | h
        · have := HE.out.l
          rw [h] at this
          simp at this
          omega
        · exact h
      obtain ⟨k, hk1, hk2, hk3, hk4, hk5⟩ := St.first_line hy
      rw [← HE.out.l] at hk2
      have ha := (Below.refl wr.heap.size wr).alloc (Nat.le_refl _) (.cells ([13, 10].map bv).toArray 5 (2, 3))
      have hr1 := HE.out.r.next ha
      have hix := index_any _ _ ys 13 10 _ (HE.out.rd _ _ _ hr1) (by rw [← HE.out.l]; exact hlt) (by rw [← HE.out.l]; omega) (Rd.made wr [13, 10] 5 (2, 3) 2 rfl (by decide)) (HM.out _ _ _ hr1)
      rw [hk1] at hix
      have HIX := Lib.hid hix
      have HR1 := Lib.hid hr1
      obtain ⟨K, hK⟩ : ∃ K, K = k + 2 := ⟨_, rfl⟩
      have hKi : (k : Int) + 2 = (K : Int) := by omega
      rw [← hK] at hk2 hk3 hk4 hk5
      have hcapL : L ≤ cap := by
        obtain ⟨ao', cap', e, hc, _⟩ := (HE.out.rd _ _ _ hr1).form
        simp only [Value.slice.injEq] at e
        rw [HE.out.l, e.2.2]; exact hc
      have i1 : (K : Int) ≤ (cap : Int) := by omega
      have i2 : (K : Int) ≤ (L : Int) := by omega
      have hK2 : k + 2 ≤ 1000000 := by omega
      have HK := Lib.hid hK
      have H3 := Lib.hid hk3
      have H4 := Lib.hid hk4
      have H5 := Lib.hid hk5
      clear hix hr1 ha hk1 hk3 hk4 hk5 hy hK
      go_wp2_with fail
      refine HIX.out.mono ?_
      rintro e w2 ⟨rfl, hb2⟩
      have h2 := Lib.hid (HR1.out.next hb2)
      clear hb2 HIX HR1
      obtain ⟨A, hA⟩ : ∃ A, (if cap = K then ao else Option.map (fun x => x.add K) ao) = A := ⟨_, rfl⟩
      have htl := Lib.hid (show ∀ w s' xs', RowAt w0 w g s' xs' → Rd w (.slice A (L - K) (cap - K)) ((ys.drop K).map bv) from fun w s' xs' hr => by
        have := (HE.out.rd _ _ _ hr).tailAny HE.out.l hk2
        rw [hA] at this
        exact this)
      go_wp2_with fail
      have hdl : (St.dots [] done).length ≤ 2000000 := by
        have h1 := (St.dots_len done []).2
        have h2 := congrArg List.length HE.out.e
        rw [List.length_append] at h2
        have := HS.out
        omega
      have hcl := visit_any w0 w2 g s (St.dots [] done) (.slice ao K cap) (ys.take K) h2.out (fun s' xs' w' hr => (HE.out.rd _ _ _ hr).cut HE.out.l hk2) (by rw [List.length_take]; omega)
      have hhd : (ys.take K).head? = ys.head? := by
        rw [HK.out]
        cases ys <;> rfl
      rw [hhd, ← H5.out] at hcl
      refine hcl.mono ?_
      clear hcl hhd hdl h2
      rintro e w3 ⟨s3, rfl, h3⟩
      have hnx : EL w0 w3 g xs (.slice A (L - K) (cap - K)) (L - K) (ys.drop K) (done ++ ys.take K) s3 := by
        refine ⟨by rw [List.append_assoc, List.take_append_drop]; exact HE.out.e, by rw [List.length_drop, ← HE.out.l], .inr ?_, H4.out, ?_, htl.out⟩
        · rw [St.ends_append _ (by rw [List.length_take, ← HE.out.l]; have := HK.out; omega)]
          exact H3.out
        · rw [St.dots_append, List.nil_append]
          have := St.dots_ahead HE.out.d (ys.take K) []
          rw [List.append_nil] at this
          rw [this]
          exact h3
      have HN := Lib.hid hnx
      clear h3 hnx htl H3 H4 H5 HE
      go_wp2
      go_roundw
      case rel => exact ⟨A, cap - K, L - K, ys.drop K, done ++ ys.take K, s3, rfl, by omega, HN⟩
      case measure => simp [lenV]; have := HK.out; omega
    · obtain rfl : L = 0 := by omega
      have hy : ys = [] := List.eq_nil_of_length_eq_zero HE.out.l.symm
      have hr := HE.out.r
      have he := HE.out.e
      rw [hy, List.append_nil] at he
      rw [← he] at hr
      have HR := Lib.hid hr
      clear hr he HE
      go_wp2
      go_end0
      exact ⟨_, rfl, HR.out⟩
end Go.Proofs.Ythfefbpfgepbjaa
