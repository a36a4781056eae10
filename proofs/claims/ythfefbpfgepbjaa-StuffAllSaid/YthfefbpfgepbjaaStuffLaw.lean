/- The small functions of the laws of layer 9, walked. -/
import Derived.Test.YthfefbpfgepbjaaStuffPutP
import Derived.Lib.SlBytesConst
namespace Go.Proofs.Ythfefbpfgepbjaa
open Go.RowKit

theorem short_any (v : Value) (xs : List UInt8) (w : World) (h : Rd w v (xs.map bv)) (hs : xs.length ≤ maxLen) :
    Calls Try.prog 8 #[v] w fun e w' => ∃ v', e = .returned v' ∧ (∀ w1, Rd w1 v (xs.map bv) → Rd w1 v' ((xs.take 600).map bv)) ∧ w = w' := by
  unfold maxLen at hs
  obtain ⟨ao, cap, rfl, hcap, hc⟩ := h.form
  obtain ⟨L, hL⟩ : ∃ L, L = xs.length := ⟨_, rfl⟩
  rw [← hL] at hs hcap hc ⊢
  by_cases hlt : 600 < L
  · obtain ⟨b, o, rfl, hm, _⟩ := hc (by omega)
    unfold maxLen at hm
    have hr : ∀ w1, Rd w1 (.slice (some ⟨b, o, none⟩) L cap) (xs.map bv) → Rd w1 (.slice (some ⟨b, o, none⟩) 600 cap) ((xs.take 600).map bv) := fun w1 h => h.head (m := 600) hL (by omega) (by omega)
    have hr := Lib.hid hr
    have HL := Lib.hid hL
    clear hL hc h
    go_enter Try.func8, Try.ntmps8
    go_wp2
    go_ret
    exact ⟨_, rfl, hr.out, rfl⟩
  · have e : xs.take 600 = xs := List.take_of_length_le (by omega)
    rw [e]
    have HL := Lib.hid hL
    clear hL hc e h
    go_enter Try.func8, Try.ntmps8
    go_wp2
    go_ret
    exact ⟨_, rfl, fun _ h => h, rfl⟩

theorem put_da : St.put [46, 97] = [46, 46, 97, 13, 10, 46, 13, 10] := by decide +kernel

theorem shown_any (w : World) (hm : MX w) : Calls Try.prog 7 #[] w fun e w' => e = .returned (.bool true) ∧ Below w.heap.size w w' := by
  have kc := fun (w : World) (C : Array Value) (n c : Nat) => Lib.run_convert_bytes_const (P := Try.prog) w 22 5 C n c Try.underlying22 Try.underlying5
  have ha := (Below.refl w.heap.size w).alloc (Nat.le_refl _) (.cells ([46, 97].map bv).toArray 5 (2, 3))
  have hp := sput_any _ [46, 97] _ (Rd.made w [46, 97] 5 (2, 3) 2 rfl (by decide)) (by decide) (hm.below ha)
  rw [put_da] at hp
  have HP := Lib.hid hp
  have HA := Lib.hid ha
  clear hp ha hm
  go_enter Try.func7, Try.ntmps7
  go_wp2_with fail
  refine HP.out.mono ?_
  rintro e w1 ⟨ao, c, rfl, hr, hb⟩
  have hst := bytes_string hr
  have hb1 := HA.out.trans (hb.mono HA.out.size)
  rw [show ([46, 46, 97, 13, 10, 46, 13, 10] : List UInt8).length = 8 from rfl] at hst
  unfold sv at hst
  clear hr hb HA HP kc
  go_wp2
  go_ret
  exact ⟨rfl, hb1⟩

/-- Bytes as a text. -/
def kt (l : List UInt8) : ByteArray := ⟨l.toArray⟩
theorem kt_list (l : List UInt8) : (kt l).data.toList = l := rfl
theorem kt_size (l : List UInt8) : (kt l).size = l.length := rfl
theorem kt_append (a b : List UInt8) : kt (a ++ b) = kt a ++ kt b := by
  simp [kt, ByteArray.mk_append_mk]
theorem kt_take (l : List UInt8) (m : Nat) : (kt l).extract 0 m = kt (l.take m) := by
  apply ByteArray.ext
  rw [ByteArray.data_extract]
  simp [kt]

theorem kt_cut (l : List UInt8) (i j : Nat) : (kt l).extract i j = kt ((l.drop i).take (j - i)) := by
  apply ByteArray.ext
  rw [ByteArray.data_extract]
  apply Array.ext'
  rw [Array.toList_extract]
  simp [kt, List.extract]
/-- What stands while a law goes on: new memory alone, and the library's variable. -/
structure LW (w wr : World) : Prop where
  b : Below w.heap.size w wr
  m : MX wr
theorem LW.next {w wr w' : World} (h : LW w wr) (hb : Below wr.heap.size wr w') : LW w w' := ⟨h.b.trans (hb.mono h.b.size), h.m.below hb⟩
theorem LW.drew {w wr : World} (h : LW w wr) : LW w wr.drew := h.next ((Below.refl _ _).drew)

theorem put_text {w wr : World} (h : LW w wr) {v : Value} {xs : List UInt8} (hr : Rd w v (xs.map bv)) (hs : xs.length ≤ 100000) {K : ByteArray} (hK : K = kt (St.put xs)) {n : Nat} (hn : n = K.size) :
    Calls Try.prog 11 #[v] wr fun e w' => ∃ ao c, e = .returned (.slice ao n c) ∧ (convert 22 9 (.slice ao n c)).run Try.prog w' = .ok (.string K) w' ∧ LW w w' := by
  subst hn hK
  refine (sput_any v xs wr (hr.below h.b) hs h.m).mono ?_
  rintro e w' ⟨ao, c, rfl, hr2, hb⟩
  exact ⟨ao, c, rfl, bytes_string hr2, h.next hb⟩
theorem whole_text {w wr : World} (h : LW w wr) {v : Value} {xs : List UInt8} (hr : Rd wr v (xs.map bv)) (hs : xs.length ≤ 1000000) {K : ByteArray} (hK : K = kt (St.whole xs)) {n : Nat} (hn : n = K.size) :
    Calls Try.prog 13 #[v] wr fun e w' => ∃ ao c, e = .returned (.slice ao n c) ∧ (convert 22 9 (.slice ao n c)).run Try.prog w' = .ok (.string K) w' ∧ Rd w' (.slice ao n c) (K.data.toList.map bv) ∧ LW w w' ∧ Below wr.heap.size wr w' := by
  subst hn hK
  refine (whole_any v xs wr hr hs).mono ?_
  rintro e w' ⟨ao, c, rfl, hr2, hb⟩
  exact ⟨ao, c, rfl, bytes_string hr2, hr2, h.next hb, hb⟩
end Go.Proofs.Ythfefbpfgepbjaa
