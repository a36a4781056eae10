/- stuff.Put's closure, stuff.eachLine walked. -/
import Derived.Test.YthfefbpfgepbjaaStuffRow
import Derived.Test.YthfefbpfgepbjaaBits
import Derived.Lib.SlBytesConst
namespace Go.Proofs.Ythfefbpfgepbjaa
open Go.RowKit

set_option maxHeartbeats 1000000 in
/-- The closure: a dot more, if the line begins by one; the line. -/
theorem visit_any (w0 w : World) (g : Nat) (s : Value) (xs : List UInt8) (v : Value) (ls : List UInt8) (h : RowAt w0 w g s xs) (hl : ∀ s' xs' w', RowAt w0 w' g s' xs' → Rd w' v (ls.map bv)) (hs : xs.length + ls.length + 1 ≤ 16777216) :
    Calls Try.prog 20 #[v, .pointer (some ⟨g, 0, none⟩)] w fun e w' => ∃ s', e = .returned (.tuple #[]) ∧ RowAt w0 w' g s' (xs ++ ((if ls.head? = some 46 then [46] else []) ++ ls)) := by
  have ha := (Below.refl w.heap.size w).alloc (Nat.le_refl _) (.cells ([46].map bv).toArray 5 (1, 2))
  have hr := hl s xs w h
  have h1 := h.next ha
  have hr1 := hr.below ha
  obtain ⟨ao, cap, rfl, hcap, _⟩ := hr.form
  obtain ⟨L, hL⟩ : ∃ L, L = ls.length := ⟨_, rfl⟩
  have hpre := bprefix_any _ _ ls [46] _ hr1 (Rd.made w [46] 5 (1, 2) 1 rfl (by decide))
  rw [St.dot_prefix] at hpre
  have HL := Lib.hid hL
  have HR := Lib.hid hl
  rw [← hL] at hpre hcap hs ⊢
  clear hl hr hr1 ha hL
  by_cases hd : ls.head? = some 46
  · rw [if_pos hd]
    rw [decide_eq_true hd] at hpre
    have HP := Lib.hid hpre
    have H1 := Lib.hid h1
    clear hpre h1 hd h
    have kc := fun (w : World) (C : Array Value) (n c : Nat) => Lib.run_convert_bytes_const (P := Try.prog) w 22 5 C n c Try.underlying22 Try.underlying5
    go_enter Try.func20, Try.ntmps20
    go_wp2_with fail
    refine HP.out.mono ?_
    rintro e w1 ⟨rfl, hw⟩
    have h1 : RowAt w0 w1 g s xs := hw ▸ H1.out
    clear hw HP H1
    have c1 := h1.c0
    go_wp2_with (at_builtin; refine append_text rfl (.tmp 7) (.const (.string ⟨#[46]⟩)) rfl rfl h1.o ⟨#[46]⟩ rfl ?ca h1.size ?_)
    case ca => show xs.length + 1 ≤ _; omega
    intro v2 w2 ho2 hg2
    obtain ⟨bo, bc, rfl⟩ := own_form ho2
    have h2 : RowAt w0 (w2.setCell ⟨g, 0, none⟩ (.slice bo (xs.length + 1) bc)) g (.slice bo (xs.length + 1) bc) (xs ++ [46]) := h1.put (ys := [46]) ho2 hg2
    have hc2 := h1.cgrown hg2
    have c2 : w2.cell? ⟨g, 0, none⟩ = some s := cell_of_row _ _ _ _ _ _ hc2
    have f2 : w2.frozen? ⟨g, 0, none⟩ = false := frozen_of_row _ _ _ _ _ hc2
    have H2 := Lib.hid h2
    clear ho2 hg2 hc2 c1 h1 h2
    go_wp2_with (at_builtin; refine append_u8s rfl (.tmp 9) (.tmp 10) rfl rfl H2.out.o (ls.map bv) (HL.out ▸ HR.out _ _ _ H2.out) (bv_cell _) ?ca H2.out.size ?_)
    case ca => rw [List.length_map, List.length_append, ← HL.out]; simp; omega
    intro v3 w3 ho3 hg3
    obtain ⟨co, cc, rfl⟩ := own_form ho3
    have h3 := H2.out.put (s' := .slice co (xs.length + 1 + ls.length) cc) (ys := ls) (by simpa using ho3) hg3
    have hc3 := H2.out.cgrown hg3
    have c3 : w3.cell? ⟨g, 0, none⟩ = some _ := cell_of_row _ _ _ _ _ _ hc3
    have f3 : w3.frozen? ⟨g, 0, none⟩ = false := frozen_of_row _ _ _ _ _ hc3
    have H3 := Lib.hid h3
    clear ho3 hg3 hc3 h3 H2 c2 f2
    go_wp2
    go_end0
    exact ⟨_, rfl, by have := H3.out; simpa using this⟩
  · rw [if_neg hd]
    rw [decide_eq_false hd] at hpre
    have HP := Lib.hid hpre
    have H1 := Lib.hid h1
    clear hpre h1 hd h
    have kc := fun (w : World) (C : Array Value) (n c : Nat) => Lib.run_convert_bytes_const (P := Try.prog) w 22 5 C n c Try.underlying22 Try.underlying5
    go_enter Try.func20, Try.ntmps20
    go_wp2_with fail
    refine HP.out.mono ?_
    rintro e w1 ⟨rfl, hw⟩
    have h1 : RowAt w0 w1 g s xs := hw ▸ H1.out
    clear hw HP H1
    have c1 := h1.c0
    have H2 := Lib.hid h1
    clear h1
    go_wp2_with (at_builtin; refine append_u8s rfl (.tmp 9) (.tmp 10) rfl rfl H2.out.o (ls.map bv) (HL.out ▸ HR.out _ _ _ H2.out) (bv_cell _) ?ca H2.out.size ?_)
    case ca => rw [List.length_map, ← HL.out]; omega
    intro v3 w3 ho3 hg3
    obtain ⟨co, cc, rfl⟩ := own_form ho3
    have h3 := H2.out.put (s' := .slice co (xs.length + ls.length) cc) (ys := ls) (by simpa using ho3) hg3
    have hc3 := H2.out.cgrown hg3
    have c3 : w3.cell? ⟨g, 0, none⟩ = some _ := cell_of_row _ _ _ _ _ _ hc3
    have f3 : w3.frozen? ⟨g, 0, none⟩ = false := frozen_of_row _ _ _ _ _ hc3
    have H3 := Lib.hid h3
    clear ho3 hg3 hc3 h3 H2 c1
    go_wp2
    go_end0
    exact ⟨_, rfl, by have := H3.out; simpa using this⟩
end Go.Proofs.Ythfefbpfgepbjaa
