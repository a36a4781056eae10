/- Put of a framer: put together. (Laid by wip/tools/gen_fput.py.) -/
import Derived.Test.YthfefbpfgepbjaaDoorFramerPutB
import Derived.Test.YthfefbpfgepbjaaDoorFramerPutC
namespace Go.Proofs.YthfefbpfgepbjaaDoor
open Go.RowKit
set_option maxHeartbeats 8000000 in
set_option maxRecDepth 20000 in
/-- 'Put': no error is there. -/
theorem fput_ok {w : World} {B g : Nat} {s : Value} {most : Int} {ls0 : List UInt8} (h : FO w B g s most ⟨ls0, 0⟩) (v : Value) (xs : List UInt8) (hr : ∀ wx, Turn g s w wx → Rd wx v (xs.map bv)) (ht : ∀ wx, Turn g s w wx → LT wx) (hn : ls0.length + xs.length ≤ 1048576) (hB : B ≤ w.heap.size) :
    Calls Tryd.prog 8 #[.pointer (some ⟨g, 0, none⟩), v] w (FPost w B g s most ⟨ls0, 0⟩ xs) := by
  have h0 := h.h0
  have hm := h.hm
  have HP := Lib.hid (show PS w w B g s s (.slice none 0 0) most ⟨ls0, 0⟩ [] from ⟨h, World.ownsRow_nil _ _ _ _, Turn.refl _ _ _, Nx.refl _ _⟩)
  have c2 := h.c2
  have HR := Lib.hid hr
  have HT := Lib.hid ht
  have HN := Lib.hid hn
  have CE := Lib.hid (fends_any h)
  have HO := Lib.hid h
  clear h hr ht hn
  have p0 := fput_p0 (ls0 := ls0) h0 hm xs HT hB
  have p1 := fput_p1 (ls0 := ls0) h0 hm xs HT hB p0
  have P0 := Lib.hid p0
  have P1 := Lib.hid p1
  clear p0 p1
  go_enter Tryd.func8, Tryd.ntmps8
  go_wp2
  refine wp_scope_two (PJ w B g s most ⟨ls0, 0⟩ xs) pMu pj_two ?p0 ?p1 ?first
  case p0 => exact P0.out
  case p1 => exact fun _ => P1.out
  case first =>
    intro hp
    go_wp2_with fail
    refine CE.out.mono ?_
    rintro e w1 ⟨rfl, hb⟩
    have HP1 := Lib.hid (HP.out.next hb)
    clear CE c2 hb
    by_cases hcr : ls0.getLast? = some 13
    · have hd : decide (ls0.getLast? = some 13) = true := decide_eq_true hcr
      dsimp only at hd ⊢
      rw [hd]
      clear hd
      go_wp2
      go_step3
      exact ⟨v, _, s, ls0, xs, [], pj_act _ rfl, HP1.out, HR.out, by simp, HN.out, by have := HN.out; simp; omega, .inl ⟨rfl, hcr⟩⟩
    · have hd : decide (ls0.getLast? = some 13) = false := decide_eq_false hcr
      dsimp only at hd ⊢
      rw [hd]
      clear hd
      have hbare : Li.Bare ls0 := fun b hb => ⟨Li.no_cr HO.out.ok.cr hcr b hb, HO.out.ok.lf b hb⟩
      go_wp2
      go_step3
      rename_i K hk
      refine hk _ _ ?_
      exact fall (hp 1 _ _ ⟨v, _, s, ls0, xs, [], pj_act _ rfl, HP1.out, HR.out, by simp, HN.out, by have := HN.out; simp; omega, .inr ⟨rfl, hbare⟩⟩) (by with_unfolding_all rfl)

/-- 'Put'. -/
theorem fput_any {w : World} {B g : Nat} {s : Value} {most : Int} {f : Li.Fm} (h : FO w B g s most f) (v : Value) (xs : List UInt8) (hr : ∀ wx, Turn g s w wx → Rd wx v (xs.map bv)) (ht : ∀ wx, Turn g s w wx → LT wx) (hn : f.ls.length + xs.length ≤ 1048576) (hB : B ≤ w.heap.size) :
    Calls Tryd.prog 8 #[.pointer (some ⟨g, 0, none⟩), v] w (FPost w B g s most f xs) := by
  by_cases he : f.err = 0
  · obtain ⟨ls, er⟩ := f
    obtain rfl : er = 0 := he
    exact fput_ok h v xs hr ht hn hB
  · exact fput_err h v xs he
end Go.Proofs.YthfefbpfgepbjaaDoor
