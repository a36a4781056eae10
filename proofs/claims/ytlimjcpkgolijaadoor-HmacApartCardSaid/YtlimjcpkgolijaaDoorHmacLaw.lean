/- The small functions of the laws of layer 4, walked. -/
import Derived.Test.YtlimjcpkgolijaaDoorHmacSum
import Derived.Lib.SlBytesConst
namespace Go.Proofs.YtlimjcpkgolijaaDoor
open Go.RowKit

theorem short_any (v : Value) (xs : List UInt8) (w : World) (h : Rd w v (xs.map bv)) (hs : xs.length ≤ maxLen) :
    Calls Tryd.prog 8 #[v] w fun e w' => ∃ v', e = .returned v' ∧ Rd w' v' ((xs.take 300).map bv) ∧ w = w' := by
  unfold maxLen at hs
  obtain ⟨ao, cap, rfl, hcap, hc⟩ := h.form
  obtain ⟨L, hL⟩ : ∃ L, L = xs.length := ⟨_, rfl⟩
  rw [← hL] at hs hcap h hc ⊢
  by_cases hlt : 300 < L
  · obtain ⟨b, o, rfl, hm, _⟩ := hc (by omega)
    unfold maxLen at hm
    have hr := h.head (m := 300) hL (by omega) (by omega)
    have HL := Lib.hid hL
    clear hL hc h
    go_enter Tryd.func8, Tryd.ntmps8
    go_wp2
    go_ret
    exact ⟨_, rfl, hr, rfl⟩
  · have e : xs.take 300 = xs := List.take_of_length_le (by omega)
    rw [e]
    have HL := Lib.hid hL
    clear hL hc e
    go_enter Tryd.func8, Tryd.ntmps8
    go_wp2
    go_ret
    exact ⟨_, rfl, h, rfl⟩

def LJ : List UInt8 := [74, 101, 102, 101]
def LW : List UInt8 := [119, 104, 97, 116, 32, 100, 111, 32, 121, 97, 32, 119, 97, 110, 116, 32, 102, 111, 114, 32, 110, 111, 116, 104, 105, 110, 103, 63]
theorem sum_LJ : Md5.hex (Hm.sum LJ LW) = [55, 53, 48, 99, 55, 56, 51, 101, 54, 97, 98, 48, 98, 53, 48, 51, 101, 97, 97, 56, 54, 101, 51, 49, 48, 97, 53, 100, 98, 55, 51, 56] := Hm.sum_jefe

set_option maxRecDepth 20000 in
theorem shown_any (w : World) (ht : TBL w) : Calls Tryd.prog 7 #[] w fun e w' => e = .returned (.bool true) ∧ Below w.heap.size w w' := by
  have kc := fun (w : World) (C : Array Value) (n c : Nat) => Lib.run_convert_bytes_const (P := Tryd.prog) w 22 5 C n c Tryd.underlying22 Tryd.underlying5
  have kc2 : ∀ (C D : Array Value) (fr : Nat × Nat) (n c : Nat), (convert 22 22 (.slice (some ⟨w.heap.size + 1, 0, none⟩) n c)).run Tryd.prog ((w.alloc (.cells D 5 fr)).alloc (.cells C 5)) =
      .ok (.slice (some ⟨w.heap.size + 1, 0, none⟩) n c) ((w.alloc (.cells D 5 fr)).alloc (.cells C 5 (C.size, C.size + 1))) := fun C D fr n c => by
    have := kc (w.alloc (.cells D 5 fr)) C n c
    rwa [show (w.alloc (.cells D 5 fr)).heap.size = w.heap.size + 1 by simp] at this
  obtain ⟨w1, hw1⟩ : ∃ w1, w1 = w.alloc (.cells (LJ.map bv).toArray 5 (4, 5)) := ⟨_, rfl⟩
  have hb1 : Below w.heap.size w w1 := by rw [hw1]; exact (Below.refl _ _).alloc (Nat.le_refl _) _
  have hsz : w1.heap.size = w.heap.size + 1 := by rw [hw1]; simp
  have r1 : Rd w1 (.slice (some ⟨w.heap.size, 0, none⟩) 4 4) (LJ.map bv) := by rw [hw1]; exact Rd.made w LJ _ _ 4 rfl (by decide)
  have hb2 : Below w1.heap.size w1 (w1.alloc (.cells (LW.map bv).toArray 5 (28, 29))) := (Below.refl _ _).alloc (Nat.le_refl _) _
  have r2 : Rd (w1.alloc (.cells (LW.map bv).toArray 5 (28, 29))) (.slice (some ⟨w1.heap.size, 0, none⟩) 28 28) (LW.map bv) := Rd.made w1 LW _ _ 28 rfl (by decide)
  have c2 := hb1.trans (hb2.mono hb1.size)
  have hc := hhex_any _ LJ _ LW _ (r1.below hb2) r2 (by decide) (by decide) (ht.below c2)
  have C2 := Lib.hid c2
  rw [sum_LJ, hsz, hw1] at hc
  rw [hw1] at C2
  have HC := Lib.hid hc
  clear hc c2 r2 hb2 r1 hsz hb1 hw1
  go_enter Tryd.func7, Tryd.ntmps7
  go_wp2_with fail
  refine Calls.mono HC.out ?_
  rintro e w3 ⟨rfl, hb3⟩
  have c3 := C2.out.trans (hb3.mono C2.out.size)
  rw [sv]
  clear hb3 HC kc kc2
  go_wp2
  go_ret
  exact ⟨rfl, c3⟩
end Go.Proofs.YtlimjcpkgolijaaDoor
