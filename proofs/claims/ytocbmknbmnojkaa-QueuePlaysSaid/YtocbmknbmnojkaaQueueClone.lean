/- Clone of a queue walked. -/
import Derived.Test.YtocbmknbmnojkaaQueueTake
namespace Go.Proofs.Ytocbmknbmnojkaa
open Go.RowKit
section
variable {w : World} {B g t : Nat} {s : Value} {most : Int} {xs : List UInt8}

/-- A row of the call's own, as a queue has it. -/
theorem qo_clone {w1 : World} {s' : Value} {B' : Nat} (h : QO w B g s most xs t) (hf : Fr w1 B' s' xs) (hn : s = .slice none 0 0 → s' = .slice none 0 0) (hB : B' ≤ w1.heap.size) :
    QO (w1.alloc (.cells #[.int .i64 most, s', .int .i64 (t : Int)] 47)) B' w1.heap.size s' most xs t := by
  have ho : w1.ownsRow B' 5 1 s' xs.length (xs.map bv) := by
    rcases hf with ⟨rfl, _⟩ | ⟨_, ho⟩
    · rw [hn (h.e rfl)]
      exact World.ownsRow_nil _ _ _ _
    · exact ho
  refine ⟨heap_alloc_new _ _, ho.alloc _, hB, fun e => ?_, fun e => hn (h.e e), h.ht, h.hs, h.hl, h.hm⟩
  have := (ho.lt _ e).2
  omega

/-- 'Clone'. -/
theorem clone_any (h : QO w B g s most xs t) :
    Calls Try.prog 16 #[.pointer (some ⟨g, 0, none⟩)] w fun e w' => ∃ g' s', e = .returned (.pointer (some ⟨g', 0, none⟩)) ∧ QO w' w.heap.size g' s' most xs t ∧ Below w.heap.size w w' := by
  have K0 : KQ w B g s most xs t w.drew := ⟨h.next ((Below.refl _ _).drew), (Below.refl _ _).drew⟩
  have C1 := Lib.hid (fun wr (hb : KQ w B g s most xs t wr) => own_any s xs wr hb.q.rd h.hs)
  have c0 := h.c0
  have c1 := h.c1
  have c2 := h.c2
  have H := Lib.hid h
  clear h
  go_enter Try.func16, Try.ntmps16
  go_wp2
  go_region_held3 (fun w' => w'.cell? ⟨g, 0, none⟩ = some (.int .i64 most) ∧ w'.cell? ⟨g, 1, none⟩ = some s ∧ w'.cell? ⟨g, 2, none⟩ = some (.int .i64 (t : Int))) (first | (refine ⟨?_, ?_, ?_⟩ <;> assumption) | go_keep)
    (first | (go_at_call 22; refine (C1.out _ (by assumption)).mono ?_; rintro e w3 ⟨v, rfl, hb, hn, hf⟩; obtain ⟨xo, xc, hvf⟩ := hf.form; subst hvf; have K3 := K0.next hb; have d0 := K3.q.c0; have d1 := K3.q.c1; have d2 := K3.q.c2))
  have hq := Lib.hid (qo_clone H.out (B' := w.heap.size) hf hn K3.below.size)
  have hb := Lib.hid (K3.below.alloc K3.below.size (.cells #[.int .i64 most, .slice xo xs.length xc, .int .i64 (t : Int)] 47))
  clear hf hn K3 d0 d1 d2 c0 c1 c2 C1 K0 H
  go_wp2
  go_ret
  exact ⟨_, _, rfl, hq.out, hb.out⟩
end
end Go.Proofs.Ytocbmknbmnojkaa
