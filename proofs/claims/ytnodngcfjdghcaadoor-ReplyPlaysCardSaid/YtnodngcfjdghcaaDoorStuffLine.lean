/- A body's Line walked. -/
import Derived.Test.YtnodngcfjdghcaaDoorStuffBody
import Derived.Test.YtnodngcfjdghcaaDoorToBytes
namespace Go.Proofs.YtnodngcfjdghcaaDoor
open Go.RowKit

/-- What Line does: its answer, and what has turned. -/
def BPost (w : World) (B g : Nat) (s : Value) (most : Int) (b : St.Bd) (t : List UInt8) (e : Ending) (w' : World) : Prop :=
  ∃ s', e = .returned (.tuple #[.bool (b.line most t).1, .int .i64 ((b.line most t).2.1 : Int)]) ∧ BO w' B g s' most (b.line most t).2.2 ∧ Turn g s w w' ∧ Nx s s' w.heap.size

set_option maxHeartbeats 4000000 in
theorem sline_any (w : World) (B g : Nat) (s : Value) (most : Int) (b : St.Bd) (t : ByteArray) (h : BO w B g s most b) (hs : b.bs.length ≤ 1000000) (hnb : b.n ≤ 1000000) (ht : t.size ≤ 1000000) (hB : B ≤ w.heap.size) :
    Calls Tryd.prog 38 #[.pointer (some ⟨g, 0, none⟩), .string t] w (BPost w B g s most b t.data.toList) := by
  unfold BPost
  by_cases hd : t.data.toList = [46]
  · have ht : t = ⟨#[46]⟩ := by
      cases t with
      | mk d =>
        have : d = [46].toArray := by rw [← hd]
        rw [this]
    subst ht
    show Calls _ _ _ _ fun e w' => ∃ s', e = .returned (.tuple #[.bool (b.line most [46]).1, .int .i64 ((b.line most [46]).2.1 : Int)]) ∧ BO w' B g s' most (b.line most [46]).2.2 ∧ Turn g s w w' ∧ Nx s s' w.heap.size
    rw [St.line_end]
    have H := Lib.hid h
    clear h hd hs ht
    go_enter Tryd.func38, Tryd.ntmps38
    go_wp2
    go_ret2
    exact ⟨s, rfl, H.out, Turn.refl _ _ _, Nx.refl _ _⟩
  · have hne : (t.toList == [46]) = false := by rw [Lib.toList_data]; exact beq_eq_false_iff_ne.2 hd
    have htr := trim_dot t w
    obtain ⟨p, hp⟩ : ∃ p : ByteArray, p = ⟨(St.bare t.data.toList).toArray⟩ := ⟨_, rfl⟩
    have hpl : p.data.toList = St.bare t.data.toList := by rw [hp]
    have hsv : sv (St.bare t.data.toList) = .string p := by rw [hp]; rfl
    rw [hsv] at htr
    have hps : p.size = (St.bare t.data.toList).length := by rw [Lib.size_eq, hpl]
    have hpb : p.size ≤ 1000000 := by
      rw [hps]
      have := St.bare_len t.data.toList
      rw [Lib.size_eq] at ht
      omega
    have c0 := h.c0
    have c1 := h.c1
    have h0 := h.h0
    have hm := h.hm
    obtain ⟨bo, bc, rfl⟩ := own_form h.o
    by_cases hf : most < ((b.bs.length + (St.bare t.data.toList).length + 2 : Nat) : Int)
    · rw [St.line_full hd hf]
      have HT := Lib.hid htr
      have H := Lib.hid (show ∀ q, BO (w.drewN q) B g (.slice bo b.bs.length bc) most b ∧ Below w.heap.size w (w.drewN q) from fun q => ⟨h.next (below_drewN w q), below_drewN w q⟩)
      rw [← hps] at hf
      generalize b.bs.length = L at *
      have i1 : IntKind.i64.wrap ((p.size : Int) + 2) = (p.size : Int) + 2 := wraps_i64 _ (by omega) (by omega)
      have i2 : IntKind.i64.wrap (most - (L : Int)) = most - (L : Int) := by rw [IntKind.wrap_i64]; omega
      have i3 : (most - (L : Int) < (p.size : Int) + 2) = True := eq_true (by omega)
      clear htr hd hp hpl hsv hps h ht
      go_enter Tryd.func38, Tryd.ntmps38
      go_wp2_with fail
      refine HT.out.mono ?_
      rintro e w2 ⟨rfl, hw⟩
      rw [← hw]
      clear hw HT
      go_wp2
      go_quiet (fail)
      simp only [Exit.then]
      go_wp2
      go_ret2
      exact ⟨_, rfl, (H.out nq).1, .of_below (H.out nq).2, Nx.refl _ _⟩
    · rw [St.line_more hd (by omega)]
      have HT := Lib.hid htr
      have H := Lib.hid (show ∀ q, BO (w.drewN q) B g (.slice bo b.bs.length bc) most b ∧ Below w.heap.size w (w.drewN q) from fun q => ⟨h.next (below_drewN w q), below_drewN w q⟩)
      have HO := Lib.hid h.o
      rw [← hps] at hf
      have HP := Lib.hid hpl
      have c2 := h.c2
      obtain ⟨L, hL⟩ : ∃ L, L = b.bs.length := ⟨_, rfl⟩
      rw [← hL] at hs hf c1 ⊢
      obtain ⟨N, hN⟩ : ∃ N, N = b.n := ⟨_, rfl⟩
      rw [← hN] at hnb c2 ⊢
      have HN := Lib.hid hN
      have HL := Lib.hid hL
      have i1 : IntKind.i64.wrap ((p.size : Int) + 2) = (p.size : Int) + 2 := wraps_i64 _ (by omega) (by omega)
      have i2 : IntKind.i64.wrap (most - (L : Int)) = most - (L : Int) := by rw [IntKind.wrap_i64]; omega
      have i3 : (most - (L : Int) < (p.size : Int) + 2) = False := eq_false (by omega)
      clear htr hd hp hpl hsv hps h ht hL hN
      go_enter Tryd.func38, Tryd.ntmps38
      go_wp2_with fail
      refine HT.out.mono ?_
      rintro e w2 ⟨rfl, hw⟩
      rw [← hw]
      clear hw HT
      go_wp2
      go_quiet (fail)
      simp only [Exit.then]
      obtain ⟨h1, hb1⟩ := H.out nq
      clear H HO i1 i2 i3 c0 c1 c2
      rw [← HL.out] at h1
      generalize w.drewN nq = w1 at h1 hb1 ⊢
      have c1 := h1.c1
      have HB1 := Lib.hid hb1
      have H1 := Lib.hid h1
      have ho1 := h1.o
      rw [← HL.out] at ho1
      have hB1 : B ≤ w1.heap.size := Nat.le_trans hB hb1.size
      have HO1 := Lib.hid ho1
      clear h1 hb1 ho1
      go_wp2_with (at_builtin; refine append_text_at rfl (.tmp 29) (.tmp 30) rfl rfl HO1.out p rfl ?ca hB1 ?_)
      case ca => omega
      intro v2 w2 ho2 hg2 hl2
      obtain ⟨co, cc, rfl⟩ := own_form ho2
      have hgr := H1.out.grow (ys := St.bare t.data.toList) (by rw [← HL.out, ← HP.out, ← Lib.size_eq]; exact ho2) hg2 hl2
      have hc2 := (hg2.block g H1.out.lt (fun e => H1.out.ne e.symm)).trans H1.out.c
      have c2 : w2.cell? ⟨g, 1, none⟩ = some _ := cell_of_row _ _ _ _ _ _ hc2
      have f2 : w2.frozen? ⟨g, 1, none⟩ = false := frozen_of_row _ _ _ _ _ hc2
      have HG := Lib.hid hgr
      have HOX := Lib.hid (own_setCell (g := g) (i := 1) (u := .slice co (L + p.size) cc) ho2 (own_not ho2 hc2 (by decide)))
      have hB2 : B ≤ (w2.setCell ⟨g, 1, none⟩ (.slice co (L + p.size) cc)).heap.size := by simp [World.setCell]; exact Nat.le_trans hB1 hg2.size
      clear ho2 hg2 hl2 hc2 hgr c1 HO1
      go_wp2_with (at_builtin; refine append_text_at rfl (.tmp 38) (.const (.string ⟨#[13, 10]⟩)) rfl rfl HOX.out ⟨#[13, 10]⟩ rfl ?cb hB2 ?_)
      case cb => show L + p.size + 2 ≤ _; omega
      intro v3 w3 ho3 hg3 hl3
      obtain ⟨fo, fc, rfl⟩ := own_form ho3
      have hgr3 := HG.out.1.grow (s' := .slice fo (L + p.size + 2) fc) (ys := [13, 10]) (by
        rw [show (⟨b.bs ++ St.bare t.data.toList, b.n⟩ : St.Bd).bs.length = L + p.size by show (b.bs ++ St.bare t.data.toList).length = _; rw [List.length_append, ← HL.out, Lib.size_eq, HP.out]]
        show w3.ownsRow B _ _ _ (L + p.size + 2) ((b.bs ++ St.bare t.data.toList).map bv ++ _)
        rw [← HP.out]
        simpa using ho3) hg3 (by simpa [World.setCell] using hl3)
      have hc3 := (hg3.block g HG.out.1.lt (fun e => HG.out.1.ne e.symm)).trans HG.out.1.c
      have c3 : w3.cell? ⟨g, 1, none⟩ = some _ := cell_of_row _ _ _ _ _ _ hc3
      have f3 : w3.frozen? ⟨g, 1, none⟩ = false := frozen_of_row _ _ _ _ _ hc3
      have c4 : w3.cell? ⟨g, 2, none⟩ = some (.int .i64 (b.n : Int)) := cell_of_row _ _ _ _ _ _ hc3
      have f4 : w3.frozen? ⟨g, 2, none⟩ = false := frozen_of_row _ _ _ _ _ hc3
      have hcn := hgr3.1.count
      have hT := (hgr3.2.1.trans3 hgr3.2.2 (fturn_setCell _ g 2 (.slice fo (L + p.size + 2) fc) (.int .i64 ((b.n + 1 : Nat) : Int))))
      have hTT := Turn.before HB1.out (HG.out.2.1.trans3 HG.out.2.2 hT)
      have hNN := (HG.out.2.2.trans hgr3.2.2 (HG.out.2.1.size)).lower HB1.out.size
      have HF := Lib.hid (show BO _ B g _ most ⟨b.bs ++ St.bare t.data.toList ++ [13, 10], b.n + 1⟩ ∧ _ ∧ _ from ⟨hcn, hTT, hNN⟩)
      clear hcn hT hTT hNN hgr3 hc3 ho3 hg3 hl3 HG HOX hB2 c2 f2 H1 HB1
      dsimp only at HF
      rw [← HN.out] at HF
      rw [← HN.out] at c4
      rw [show ((N + 1 : Nat) : Int) = (N : Int) + 1 by omega] at HF
      go_wp2
      go_ret2
      exact ⟨rfl, _, by have := HF.out.1; rw [List.append_assoc] at this; exact this, HF.out.2.1, HF.out.2.2⟩
end Go.Proofs.YtnodngcfjdghcaaDoor
