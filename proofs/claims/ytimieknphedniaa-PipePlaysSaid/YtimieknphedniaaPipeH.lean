/- Who waits longest: Head, walked. -/
import Derived.Test.YtimieknphedniaaPipeW
import Derived.Test.YtimieknphedniaaWantB
namespace Go.Proofs.Ytimieknphedniaa
open Go.RowKit

section
variable {w : World} {g : Nat} {l : List Wt}
theorem head_any (h : PO w g l) (x : Wt) (hx : (full l)[0]? = some x) (b : Bool) (hb : decide (0 < l.length) = b) :
    Calls Try.prog 13 #[.pointer (some ⟨g, 0, none⟩)] w fun e w' => e = .returned (.tuple #[x.val, .bool b]) ∧ Below w.heap.size w w' := by
  obtain ⟨xt, xc, xb, xd⟩ := x
  obtain ⟨w1, hw1⟩ : ∃ x, w.alloc (.cells #[.string ⟨#[]⟩, .string ⟨#[]⟩, .bool false, .int .i64 0] 31) = x := ⟨_, rfl⟩
  have hz : WB w1 w.heap.size Wt.zero := by rw [← hw1]; exact WB.new w Wt.zero
  have hB : Below w.heap.size w w1 := by rw [← hw1]; exact (Below.refl _ w).alloc (Nat.le_refl _) _
  have h1 := h.next hB
  have c0 := h1.cnt
  have k0 : w1.cell? ⟨g, 0, none⟩ = some (.string xt) := h1.at hx (i := 0) rfl
  have k1 : w1.cell? ⟨g, 1, none⟩ = some (.string xc) := h1.at hx (i := 1) rfl
  have k2 : w1.cell? ⟨g, 2, none⟩ = some (.bool xb) := h1.at hx (i := 2) rfl
  have k3 : w1.cell? ⟨g, 3, none⟩ = some (.int .i64 xd) := h1.at hx (i := 3) rfl
  have z0 := hz.c0
  have z1 := hz.c1
  have z2 := hz.c2
  have z3 := hz.c3
  have zf := hz.froz
  have HP := Lib.hid (hz.put ⟨xt, xc, xb, xd⟩)
  have HB2 := Lib.hid (setN_below (Nat.le_refl _) (Wt.mk xt xc xb xd).cells 0 hB)
  generalize l.length = n at *
  clear h1 hz hB h hx
  unfold Wt.val
  dsimp only [Wt.zero] at z0 z1 z2 z3
  go_enter Try.func13, Try.ntmps13
  go_wp2_with fail
  clear hw1
  go_region
  obtain ⟨w3, hw3⟩ : ∃ x, ((((w1.setCell ⟨w.heap.size, 0, none⟩ (.string xt)).setCell ⟨w.heap.size, 1, none⟩ (.string xc)).setCell ⟨w.heap.size, 2, none⟩ (.bool xb)).setCell ⟨w.heap.size, 3, none⟩ (.int .i64 xd)).drew = x := ⟨_, rfl⟩
  rw [hw3]
  have hw : WB w3 w.heap.size ⟨xt, xc, xb, xd⟩ := by rw [← hw3]; exact ⟨HP.out.blk⟩
  have hB3 : Below w.heap.size w w3 := by rw [← hw3]; exact HB2.out.drew
  clear hw3 k0 k1 k2 k3 z0 z1 z2 z3 zf c0 HP HB2
  have d0 := hw.c0
  have d1 := hw.c1
  have d2 := hw.c2
  have d3 := hw.c3
  dsimp only at d0 d1 d2 d3
  have HB3 := Lib.hid hB3
  clear hw hB3
  simp only [Exit.then]
  go_wp2_with fail
  refine bodyPost_ret (v := .tuple #[.agg #[.string xt, .string xc, .bool xb, .int .i64 xd], .bool b]) (by simp [results, Try.results13, go_sem, d0, d1, d2, d3]) rfl ⟨rfl, HB3.out⟩
end
end Go.Proofs.Ytimieknphedniaa
