/- The reader in memory; parse's wrong, is walked (layer 15). -/
import Derived.Test.YtiikionoagmabaaDoorPF
import Derived.Test.YtiikionoagmabaaDoorTokRow
import Derived.Test.YtiikionoagmabaaDoorPJ
namespace Go.Proofs.YtiikionoagmabaaDoor
open Go.RowKit

/-- A reader in a block of its own. -/
def RB (w : World) (g : Nat) (lv ov : Value) (md : Nat) (sv tv : Value) (a f : Nat) : Prop :=
  w.heap[g]? = some (.cells #[lv, ov, .int .i64 (md : Int), sv, tv, .int .i64 (a : Int), .int .i64 (f : Int)] 50 (0, 0))
section
variable {w w' : World} {g md a f : Nat} {lv ov sv tv : Value} {F : Nat → Prop}
theorem RB.c0 (h : RB w g lv ov md sv tv a f) : w.cell? ⟨g, 0, none⟩ = some lv := by unfold RB at h; simp [World.cell?, h]
theorem RB.c1 (h : RB w g lv ov md sv tv a f) : w.cell? ⟨g, 1, none⟩ = some ov := by unfold RB at h; simp [World.cell?, h]
theorem RB.c2 (h : RB w g lv ov md sv tv a f) : w.cell? ⟨g, 2, none⟩ = some (.int .i64 (md : Int)) := by unfold RB at h; simp [World.cell?, h]
theorem RB.c3 (h : RB w g lv ov md sv tv a f) : w.cell? ⟨g, 3, none⟩ = some sv := by unfold RB at h; simp [World.cell?, h]
theorem RB.c4 (h : RB w g lv ov md sv tv a f) : w.cell? ⟨g, 4, none⟩ = some tv := by unfold RB at h; simp [World.cell?, h]
theorem RB.c5 (h : RB w g lv ov md sv tv a f) : w.cell? ⟨g, 5, none⟩ = some (.int .i64 (a : Int)) := by unfold RB at h; simp [World.cell?, h]
theorem RB.c6 (h : RB w g lv ov md sv tv a f) : w.cell? ⟨g, 6, none⟩ = some (.int .i64 (f : Int)) := by unfold RB at h; simp [World.cell?, h]
theorem RB.fr (h : RB w g lv ov md sv tv a f) (i : Nat) : w.frozen? ⟨g, i, none⟩ = false := by unfold RB at h; simp [World.frozen?, h]
theorem RB.lt (h : RB w g lv ov md sv tv a f) : g < w.heap.size := (Array.getElem?_eq_some_iff.1 h).1
theorem RB.same (h : RB w g lv ov md sv tv a f) (e : w'.heap[g]? = w.heap[g]?) : RB w' g lv ov md sv tv a f := e.trans h
theorem RB.below (h : RB w g lv ov md sv tv a f) (hb : Below w.heap.size w w') : RB w' g lv ov md sv tv a f := h.same (hb.block _ h.lt)
theorem RB.trn (h : RB w g lv ov md sv tv a f) (ht : Trn F w w') (hF : ¬ F g) : RB w' g lv ov md sv tv a f := h.same (ht.block _ h.lt hF)
theorem RB.set0 (h : RB w g lv ov md sv tv a f) (u : Value) : RB (w.setCell ⟨g, 0, none⟩ u) g u ov md sv tv a f := by unfold RB at *; rw [setCell_row h]; rfl
theorem RB.set1 (h : RB w g lv ov md sv tv a f) (u : Value) : RB (w.setCell ⟨g, 1, none⟩ u) g lv u md sv tv a f := by unfold RB at *; rw [setCell_row h]; rfl
theorem RB.set2 (h : RB w g lv ov md sv tv a f) (n : Nat) : RB (w.setCell ⟨g, 2, none⟩ (.int .i64 (n : Int))) g lv ov n sv tv a f := by unfold RB at *; rw [setCell_row h]; rfl
theorem RB.set3 (h : RB w g lv ov md sv tv a f) (u : Value) : RB (w.setCell ⟨g, 3, none⟩ u) g lv ov md u tv a f := by unfold RB at *; rw [setCell_row h]; rfl
theorem RB.set4 (h : RB w g lv ov md sv tv a f) (u : Value) : RB (w.setCell ⟨g, 4, none⟩ u) g lv ov md sv u a f := by unfold RB at *; rw [setCell_row h]; rfl
theorem RB.set5 (h : RB w g lv ov md sv tv a f) (n : Nat) : RB (w.setCell ⟨g, 5, none⟩ (.int .i64 (n : Int))) g lv ov md sv tv n f := by unfold RB at *; rw [setCell_row h]; rfl
theorem RB.set6 (h : RB w g lv ov md sv tv a f) (n : Nat) : RB (w.setCell ⟨g, 6, none⟩ (.int .i64 (n : Int))) g lv ov md sv tv a n := by unfold RB at *; rw [setCell_row h]; rfl
end

/-- A slice of tokens, read out of block b. -/
def TR (w : World) (b : Nat) (v : Value) (ts : List Lx.Tok) : Prop := ∃ o cap, v = .slice (some ⟨b, o, none⟩) ts.length cap ∧ ts.length ≤ cap ∧ cap ≤ maxLen ∧
  ∀ k t, ts[k]? = some t → w.cell? ⟨b, o + k * 3, none⟩ = some (.int .i64 (t.kind : Int)) ∧ w.cell? ⟨b, o + k * 3 + 1, none⟩ = some (.string ⟨t.text.toArray⟩) ∧ w.cell? ⟨b, o + k * 3 + 2, none⟩ = some (.int .i64 (t.place : Int))
section
variable {w w' : World} {b : Nat} {v : Value} {ts : List Lx.Tok} {F : Nat → Prop}
theorem TR.trn (h : TR w b v ts) (ht : Trn F w w') (hF : ¬ F b) : TR w' b v ts := by
  obtain ⟨o, cap, h1, h2, h3, h4⟩ := h
  have hc : ∀ i u, w.cell? ⟨b, i, none⟩ = some u → w'.cell? ⟨b, i, none⟩ = some u := fun i u hu => (World.cell?_of_block (ht.block b (World.block_lt_of_cell? w _ hu) hF)).trans hu
  exact ⟨o, cap, h1, h2, h3, fun k t hk => ⟨hc _ _ (h4 k t hk).1, hc _ _ (h4 k t hk).2.1, hc _ _ (h4 k t hk).2.2⟩⟩
theorem TR.below (h : TR w b v ts) (hb : Below w.heap.size w w') : TR w' b v ts := h.trn (F := fun _ => False) (Trn.of_below hb) id
theorem TR.of_own {B : Nat} {e : TypeId} (h : TO w B e v ts) (hn : ts ≠ []) : ∃ b, B ≤ b ∧ b < w.heap.size ∧ v.ownBlock = some b ∧ TR w b v ts := by
  rcases h.2 with ⟨rfl, hn'⟩ | ⟨g, cap, cur, rfl, hB, hg, h2, h3, h4, h5⟩
  · exact absurd (List.length_eq_zero_iff.1 hn') hn
  · obtain ⟨ao, cap', e1, hc⟩ := TO.form h
    refine ⟨g, hB, (Array.getElem?_eq_some_iff.1 hg).1, rfl, 0, cap, rfl, h2, h3, fun k t hk => ?_⟩
    obtain ⟨g', e2, c0, c1, c2⟩ := hc k t hk
    simp only [Value.slice.injEq] at e1
    obtain ⟨e1, _, _⟩ := e1
    rw [e2] at e1
    cases e1
    rw [Nat.zero_add]
    exact ⟨c0, c1, c2⟩
theorem TR.lt (h : TR w b v ts) (hn : ts ≠ []) : b < w.heap.size := by
  obtain ⟨o, cap, _, _, _, h4⟩ := h
  cases ts with
  | nil => exact absurd rfl hn
  | cons t ts => exact World.block_lt_of_cell? w _ (h4 0 t rfl).1
end
/-- Just that block may turn. -/
abbrev only (g : Nat) : Nat → Prop := fun k => k = g

set_option maxHeartbeats 1000000 in
theorem wrong_any (k : Nat) (t : List UInt8) (p c : Nat) (g md a f : Nat) (lv ov sv tv : Value) (w : World) (h : RB w g lv ov md sv tv a f) :
    Calls Tryd.prog 38 #[.pointer (some ⟨g, 0, none⟩), tkv k t p, .int .i64 (c : Int)] w fun e w' => e = .returned (.tuple #[]) ∧ RB w' g lv ov md sv tv p c ∧ Trn (only g) w w' := by
  unfold tkv
  have hx : ∀ o, ((w.alloc o).frozen? ⟨g, 5, none⟩ = false) ∧ ((w.alloc o).frozen? ⟨g, 6, none⟩ = false) := fun o => ⟨(h.same (Below.heap_alloc _ _ _ h.lt)).fr 5, (h.same (Below.heap_alloc _ _ _ h.lt)).fr 6⟩
  have hy : ∀ o, RB (((w.alloc o).setCell ⟨g, 5, none⟩ (.int .i64 (p : Int))).setCell ⟨g, 6, none⟩ (.int .i64 (c : Int))) g lv ov md sv tv p c := fun o => ((h.same (Below.heap_alloc _ _ _ h.lt)).set5 p).set6 c
  have ht : ∀ o, Trn (only g) w (((w.alloc o).setCell ⟨g, 5, none⟩ (.int .i64 (p : Int))).setCell ⟨g, 6, none⟩ (.int .i64 (c : Int))) := fun o => Trn.setCell (F := only g) (Trn.setCell (F := only g) ((Trn.refl (only g) w).alloc o) (show g = g from rfl) _) (show g = g from rfl) _
  have h5 : ∀ o, ∃ u, (w.alloc o).cell? ⟨g, 5, none⟩ = some u := fun o => ⟨_, (h.same (Below.heap_alloc _ _ _ h.lt)).c5⟩
  have c5 : ∀ o, (w.alloc o).cell? ⟨g, 5, none⟩ = some (.int .i64 (a : Int)) := fun o => (h.same (Below.heap_alloc _ _ _ h.lt)).c5
  have c6 : ∀ o, (w.alloc o).cell? ⟨g, 6, none⟩ = some (.int .i64 (f : Int)) := fun o => (h.same (Below.heap_alloc _ _ _ h.lt)).c6
  have f5 := fun o => (hx o).1
  have f6 := fun o => (hx o).2
  have HY := Lib.hid hy
  have HT := Lib.hid ht
  clear hx hy ht h5 h
  go_enter Tryd.func38, Tryd.ntmps38
  go_wp2
  go_end0
  exact ⟨rfl, HY.out _, HT.out _⟩

set_option maxHeartbeats 1000000 in
theorem is_any (wd : List UInt8) (b g md a f : Nat) (lv ov sv tv : Value) (t : Lx.Tok) (ts : List Lx.Tok) (w : World) (h : RB w g lv ov md sv tv a f) (ht : TR w b lv (t :: ts)) :
    Calls Tryd.prog 39 #[.pointer (some ⟨g, 0, none⟩), .string ⟨wd.toArray⟩] w fun e w' => e = .returned (.bool (Ps.fitsT wd t)) ∧ Below w.heap.size w w' := by
  obtain ⟨o, cap, rfl, hc, _, hcell⟩ := ht
  obtain ⟨k0, k1, k2⟩ := hcell 0 t rfl
  rw [Nat.zero_mul, Nat.add_zero] at k0 k1 k2
  have hp : (0 : Int) < ((t :: ts).length : Int) := by simp only [List.length_cons]; omega
  have hp2 : 0 < (t :: ts).length := by simp
  have c0 := h.c0
  generalize (t :: ts).length = L at hp hp2 c0
  have FA := fits_any t.kind t.text t.place wd w
  unfold tkv at FA
  clear hcell h
  go_enter Tryd.func39, Tryd.ntmps39
  go_wp2_with fail
  refine FA.mono ?_
  rintro e w1 ⟨rfl, hb⟩
  go_wp2
  go_ret
  exact ⟨rfl, hb⟩
end Go.Proofs.YtiikionoagmabaaDoor
