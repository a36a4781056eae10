/- A body as a law has it: where below the law's beginning nothing has turned. -/
import Derived.Test.YthfefbpfgepbjaaDoorStuffLine
import Derived.Test.YthfefbpfgepbjaaDoorStuffLaw
namespace Go.Proofs.YthfefbpfgepbjaaDoor
open Go.RowKit

structure BF (W : World) (g : Nat) (s : Value) (most : Int) (b : St.Bd) (wr : World) : Prop where
  o : BO wr W.heap.size g s most b
  b : Below W.heap.size W wr
section
variable {W wr w' : World} {g : Nat} {s : Value} {most : Int} {b : St.Bd}
theorem BF.next (h : BF W g s most b wr) (hb : Below wr.heap.size wr w') : BF W g s most b w' := ⟨h.o.next hb, h.b.trans (hb.mono h.b.size)⟩
theorem BF.new (hb : Below W.heap.size W wr) (m : Int) (hm : m < 9223372036854775808) :
    Calls Tryd.prog 7 #[.int .i64 m] wr fun e w' => e = .returned (.pointer (some ⟨wr.heap.size, 0, none⟩)) ∧ BF W wr.heap.size (.slice none 0 0) (max 0 m) ⟨[], 0⟩ w' ∧ Below wr.heap.size wr w' := by
  refine (snew_any m hm wr).mono ?_
  rintro e w' ⟨rfl, h1, h2⟩
  exact ⟨rfl, ⟨⟨h2.c, ownsRow_lower h2.o hb.size, Nat.le_trans hb.size h2.hg, h2.h0, h2.hm⟩, hb.trans (h1.mono hb.size)⟩, h1⟩
theorem BF.line (h : BF W g s most b wr) (t : ByteArray) (hs : b.bs.length ≤ 1000000) (hn : b.n ≤ 1000000) (ht : t.size ≤ 1000000) {x : Bool} {er : Nat} {b' : St.Bd} (hr : b.line most t.data.toList = (x, er, b')) :
    Calls Tryd.prog 11 #[.pointer (some ⟨g, 0, none⟩), .string t] wr fun e w' => ∃ s', e = .returned (.tuple #[.bool x, .int .i64 (er : Int)]) ∧ BF W g s' most b' w' ∧ Turn g s wr w' ∧ Nx s s' wr.heap.size := by
  refine (sline_any wr W.heap.size g s most b t h.o hs hn ht h.b.size).mono ?_
  rintro e w' ⟨s', rfl, ho, hT, hN⟩
  rw [hr] at ho ⊢
  exact ⟨s', rfl, ⟨ho, h.b.trans (h.o.turn hT h.b.size)⟩, hT, hN⟩
theorem BF.bytes_rd (h : BF W g s most b wr) (hs : b.bs.length ≤ 1000000) {K : ByteArray} (hK : K = kt b.bs) {n : Nat} (hn : n = K.size) :
    Calls Tryd.prog 12 #[.pointer (some ⟨g, 0, none⟩)] wr fun e w' => ∃ ao c, e = .returned (.slice ao n c) ∧ (convert 22 9 (.slice ao n c)).run Tryd.prog w' = .ok (.string K) w' ∧ BF W g s most b w' ∧ Below wr.heap.size wr w' ∧ Rd w' (.slice ao n c) (K.data.toList.map bv) := by
  subst hn hK
  refine (sbytes_any h.o (by omega)).mono ?_
  rintro e w' ⟨ao, c, rfl, hr, hb⟩
  exact ⟨ao, c, rfl, bytes_string hr, h.next hb, hb, hr⟩
theorem BF.bytes (h : BF W g s most b wr) (hs : b.bs.length ≤ 1000000) {K : ByteArray} (hK : K = kt b.bs) {n : Nat} (hn : n = K.size) :
    Calls Tryd.prog 12 #[.pointer (some ⟨g, 0, none⟩)] wr fun e w' => ∃ ao c, e = .returned (.slice ao n c) ∧ (convert 22 9 (.slice ao n c)).run Tryd.prog w' = .ok (.string K) w' ∧ BF W g s most b w' ∧ Below wr.heap.size wr w' := by
  refine (h.bytes_rd hs hK hn).mono ?_
  rintro e w' ⟨ao, c, rfl, h1, h2, h3, _⟩
  exact ⟨ao, c, rfl, h1, h2, h3⟩
theorem BF.lines (h : BF W g s most b wr) {n : Nat} (hn : n = b.n) :
    Calls Tryd.prog 14 #[.pointer (some ⟨g, 0, none⟩)] wr fun e w' => e = .returned (.int .i64 (n : Int)) ∧ wr = w' := by
  rw [hn]; exact slines_any h.o
end
end Go.Proofs.YthfefbpfgepbjaaDoor
