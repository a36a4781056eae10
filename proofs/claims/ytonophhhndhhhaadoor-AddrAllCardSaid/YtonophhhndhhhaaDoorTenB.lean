/- strings.IndexRune of the rune that stands for what is no rune, in the ten digits. -/
import Derived.Test.YtonophhhndhhhaaDoorTen
namespace Go.Proofs.YtonophhhndhhhaaDoor
open Go.RowKit

set_option maxHeartbeats 4000000 in
set_option maxRecDepth 1000000 in
theorem rune_bad (C : ByteArray) (hC : C = ten) (w : World) :
    Calls Tryd.prog 30 #[.string C, .int .i32 65533] w fun e w' => e = .returned (.int .i64 (-1)) ∧ Below w.heap.size w w' := by
  have g3 : C.size = 10 := by rw [hC]; rfl
  have LO := Lib.hid (show ∀ b ∈ C.data.toList, b.toNat < 128 by rw [hC]; exact ten_low)
  clear hC
  go_enter Tryd.func30, Tryd.ntmps30
  go_wp2
  go_loopw [5, 6] (fun _ _ wr => ∃ p : Nat, p ≤ C.size ∧ wr.heap[w.heap.size]? = some (.stringIter C p) ∧ Hid (Below w.heap.size w wr)) (fun _ _ wr => C.size - wr.iterPos w.heap.size)
  case atStart => exact ⟨0, Nat.zero_le _, World.iter_heap _ _ _, (Below.refl _ _).alloc (Nat.le_refl _) _⟩
  case round =>
    obtain ⟨p, hp, hit, HB⟩ := hrel
    have HP := Lib.hid (iterPos_of hit)
    by_cases hlt : p < C.size
    · have hnx := fun ty => Lib.run_next_any_at (P := Tryd.prog) wr w.heap.size C p ty hit hlt
      have hit2 := Lib.iterAt_heap wr w.heap.size C p (p + (Utf8.decode C p).2) hit
      have hb2 := Lib.below_iterAt HB.out (Nat.le_refl _) C (p + (Utf8.decode C p).2)
      have hb : (C[p]'hlt).toNat < 128 := LO.out _ (Array.getElem_mem_toList hlt)
      have hd := decode_ascii C p hlt hb
      rw [hd] at hnx hit2 hb2
      obtain ⟨x, hx⟩ : ∃ x, x = (C[p]'hlt).toNat := ⟨_, rfl⟩
      rw [← hx] at hnx hb
      dsimp only at hnx hit2 hb2
      have HB2 := Lib.hid hb2
      have HI2 := Lib.hid hit2
      have hc2 : ((x : Int) == 65533) = false := beq_eq_false_iff_ne.2 (by omega)
      have hc3 : ((x : Int) = 65533) = False := eq_false (by omega)
      clear hx hd hb2 hit2 hb
      go_wp2
      go_roundw
      case rel => exact ⟨p + 1, by omega, HI2.out, HB2.out⟩
      case measure =>
        rw [iterPos_of HI2.out, HP.out]
        omega
    · have hnx := fun ty => Lib.run_next_end_at (P := Tryd.prog) wr w.heap.size C p ty hit hlt
      obtain rfl : p = C.size := by omega
      go_wp2
      go_ret
      exact ⟨rfl, HB.out⟩

end Go.Proofs.YtonophhhndhhhaaDoor
