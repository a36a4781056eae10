/- Put of a framer walked. (Laid by wip/tools/gen_fput.py.) -/
import Derived.Test.YthfefbpfgepbjaaDoorFramer
import Derived.Test.YthfefbpfgepbjaaDoorScope
import Derived.Test.YthfefbpfgepbjaaDoorStrs
import Derived.Test.YthfefbpfgepbjaaDoorHeld
namespace Go.Proofs.YthfefbpfgepbjaaDoor
open Go.RowKit

/-- append, at the operation: where the new slice lies. -/
theorem wp_append_at {o : Oper} {a : Act} {K : Act → World → Prop} {Q : Exit → Act → World → Prop} {w : World} {B n : Nat} {v : Value} {xs : List Value}
    (s x : Operand) (ho : o.op = .call { callee := .builtin .append, args := #[s, x], argTypes := #[22, 22] })
    (hs : a.eval s = v) (hown : w.ownsRow B 5 1 v n xs) (vx : Value) (hvx : a.eval x = vx) (ys : List UInt8) (hx : Rd w vx (ys.map bv)) (N : Nat) (hN : n + ys.length = N) (hn : N ≤ 16777216) (hB : B ≤ w.heap.size)
    (h : ∀ bo c w', w'.ownsRow B 5 1 (.slice bo N c) N (xs ++ ys.map bv) → w.grownBy w' v.ownBlock → (.slice bo N c = v ∨ ∃ g' cap, Value.slice bo N c = .slice (some ⟨g', 0, none⟩) N cap ∧ (v.ownBlock = some g' ∨ w.heap.size ≤ g')) → K (a.put o.dst (.slice bo N c)) w') : o.wp Tryd.prog a w K Q := by
  subst hN
  obtain ⟨i0, hi, hz0, hz1, hz2⟩ := info_parts info_u8
  have nothing : ∀ ao cap, ys = [] → (ao = none → cap = 0) → vx = .slice ao 0 cap → o.wp Tryd.prog a w K Q := by
    rintro ao cap rfl ha rfl
    obtain ⟨bo, cp, rfl, hle⟩ : ∃ bo cp, v = .slice bo n cp ∧ n ≤ cp := by
      rcases hown.2 with ⟨rfl, rfl⟩ | ⟨g, cp, cur, rfl, _, _, h2, _⟩
      · exact ⟨_, _, rfl, Nat.le_refl _⟩
      · exact ⟨_, _, rfl, h2⟩
    have hr := run_append_none (P := Tryd.prog) w 22 o.type 5 i0 Tryd.underlying22 hi bo n cp hle ao cap ha
    unfold Oper.wp
    simp [execOp, ho, resolve, invoke, builtin, hs, hvx, hr, Result.andThen]
    exact h _ _ w (by simpa using hown) ⟨rfl, rfl, rfl, Nat.le_refl _, fun _ _ _ => rfl⟩ (.inl rfl)
  rcases hx with ⟨e, ao, cap, ha, hx⟩ | ⟨b, off, cap, hx, g1, g2, g3⟩
  · exact nothing ao cap (by simpa using e) ha hx
  · rw [List.length_map] at hx g1
    rcases Nat.eq_zero_or_pos ys.length with h0 | h0
    · exact nothing (some ⟨b, off, none⟩) cap (List.eq_nil_of_length_eq_zero h0) (fun h => by cases h) (by rw [hx, h0])
    · exact wp_append_lies w s x 22 ho B 5 i0 (.int .u8 0) 1 1 Tryd.underlying22 hi hz0 hz1 hz2 rfl (by decide) v n xs hs hown ⟨b, off, none⟩ ys.length cap (ys.map bv) (hvx.trans hx) (by simp) (fun j u hj => by rw [Addr.add_lit]; exact g3 j u hj) (bv_cell _) h0 (by unfold maxLen; omega) (by omega) hB _ rfl (fun g cap w' h2 h3 h4 _ => h _ _ w' h2 h3 (.inr ⟨g, cap, rfl, h4.imp id fun e => Nat.le_of_eq e.symm⟩))

/-- Two labels, the second one's code running into the first one's. -/
theorem wp_scope_two {P : Program} {a : Act} {w : World} {Q : Exit → Act → World → Prop} {c : Code} (J : Nat → Act → World → Prop) (μ : Act → World → Nat) (hJ : ∀ l a w, J l a w → l = 0 ∨ l = 1)
    (p0 : ∀ a w, J 0 a w → ∃ r, findLabel c 0 = some (.seq .skip r) ∧ r.wp P (jumps (fun l' a' w' => J l' a' w' ∧ μ a' w' < μ a w) Q) a w)
    (p1 : (∀ a w, J 0 a w → ∃ r, findLabel c 0 = some (.seq .skip r) ∧ r.wp P (jumps (fun l' a' w' => J l' a' w' ∧ μ a' w' < μ a w) Q) a w) → ∀ a w, J 1 a w → ∃ r, findLabel c 1 = some (.seq .skip r) ∧ r.wp P (jumps (fun l' a' w' => J l' a' w' ∧ μ a' w' < μ a w) Q) a w)
    (first : (∀ l a w, J l a w → ∃ r, findLabel c l = some (.seq .skip r) ∧ r.wp P (jumps J Q) a w) → c.wp P (jumps J Q) a w) : (Code.scope c).wp P Q a w := by
  refine wp_scope_many J (fun _ => μ) (fun l a w h => ?_) first
  rcases hJ l a w h with rfl | rfl
  · exact p0 a w h
  · exact p1 p0 a w h

/-- A label's code, come to from ahead of it. -/
theorem fall {P : Program} {c : Code} {l : Nat} {rest : Code} {a : Act} {w : World} {Q : Exit → Act → World → Prop} (h : ∃ r, findLabel c l = some (.seq .skip r) ∧ r.wp P Q a w) (hf : findLabel c l = some (.seq .skip rest)) : rest.wp P Q a w := by
  obtain ⟨r, hr, hw⟩ := h
  obtain ⟨_, hr⟩ := Code.seq.inj (Option.some.inj (hf.symm.trans hr))
  rw [hr]
  exact hw

/-- What stands while Put goes on. -/
structure PS (w wr : World) (B g : Nat) (s0 s lv : Value) (most : Int) (f : Li.Fm) (lines : List (List UInt8)) : Prop where
  o : FO wr B g s most f
  l : wr.ownsRow w.heap.size 9 1 lv lines.length (lines.map sv)
  t : Turn g s0 w wr
  n : Nx s0 s w.heap.size
section
variable {w wr w' : World} {B g : Nat} {s0 s s' lv lv' : Value} {most : Int} {f f' : Li.Fm} {lines : List (List UInt8)}
theorem PS.next (h : PS w wr B g s0 s lv most f lines) (hb : Below wr.heap.size wr w') : PS w w' B g s0 s lv most f lines :=
  ⟨h.o.next hb, own_below h.l hb, h.t.trans3 h.n (.of_below hb), h.n⟩
theorem PS.turn (h : PS w wr B g s0 s lv most f lines) (ho : FO w' B g s' most f') (hT : Turn g s wr w') (hn : Nx s s' wr.heap.size) : PS w w' B g s0 s' lv most f' lines :=
  ⟨ho, hT.past h.l (own_not h.l h.o.c (by decide)) (own_apart h.l h.o.o (by decide)), h.t.trans3 h.n hT, h.n.trans hn h.t.size⟩
theorem PS.line {x : List UInt8} (h : PS w wr B g s0 s lv most f lines) (hl : w'.ownsRow w.heap.size 9 1 lv' (lines.length + 1) (lines.map sv ++ [sv x])) (hg : wr.grownBy w' lv.ownBlock) : PS w w' B g s0 s lv' most f (lines ++ [x]) := by
  have hgl : some g ≠ lv.ownBlock := fun e => own_not h.l h.o.c (by decide) e.symm
  refine ⟨⟨(hg.block _ h.o.lt hgl).trans h.o.c, ?_, h.o.hg, h.o.ne, h.o.hs, h.o.h0, h.o.hm, h.o.ok⟩, by simpa using hl, ?_, h.n⟩
  · refine h.o.o.kept hg ?_
    have := own_apart h.l h.o.o (by decide)
    cases hs : s.ownBlock with
    | none => exact .inl rfl
    | some k => exact .inr (fun e => this k e.symm hs)
  · refine ⟨hg.os.trans h.t.os, hg.tape.trans h.t.tape, hg.output.trans h.t.output, Nat.le_trans h.t.size hg.size, fun k hk h1 h2 => (hg.block k (Nat.lt_of_lt_of_le hk h.t.size) (fun e => ?_)).trans (h.t.block k hk h1 h2)⟩
    have := (h.l.lt k e.symm).1
    omega
end

/-- The slots: three are known. (A function for the others: so many variables, each by itself, took minutes.) -/
def PAct (g : Nat) (v lv : Value) (a : Act) : Prop := ∃ u : Nat → Value, a = { tmps := #[.pointer (some ⟨g, 0, none⟩), v, u 2, u 3, u 4, u 5, lv, u 7, u 8, u 9, u 10, u 11, u 12, u 13, u 14, u 15, u 16, u 17, u 18, u 19, u 20, u 21, u 22, u 23, u 24, u 25, u 26, u 27, u 28, u 29, u 30, u 31, u 32, u 33, u 34, u 35, u 36, u 37, u 38, u 39, u 40, u 41, u 42, u 43, u 44, u 45, u 46, u 47, u 48, u 49, u 50, u 51, u 52, u 53, u 54, u 55, u 56, u 57, u 58, u 59, u 60, u 61, u 62, u 63, u 64, u 65, u 66, u 67, u 68, u 69, u 70, u 71, u 72, u 73, u 74, u 75, u 76, u 77, u 78, u 79, u 80, u 81, u 82, u 83, u 84, u 85, u 86, u 87, u 88, u 89], defers := [] }
theorem pj_act {g : Nat} {v lv : Value} (a : Act) (h : a = { tmps := #[.pointer (some ⟨g, 0, none⟩), v, a.tmps.getD 2 undef, a.tmps.getD 3 undef, a.tmps.getD 4 undef, a.tmps.getD 5 undef, lv, a.tmps.getD 7 undef, a.tmps.getD 8 undef, a.tmps.getD 9 undef, a.tmps.getD 10 undef, a.tmps.getD 11 undef, a.tmps.getD 12 undef, a.tmps.getD 13 undef, a.tmps.getD 14 undef, a.tmps.getD 15 undef, a.tmps.getD 16 undef, a.tmps.getD 17 undef, a.tmps.getD 18 undef, a.tmps.getD 19 undef, a.tmps.getD 20 undef, a.tmps.getD 21 undef, a.tmps.getD 22 undef, a.tmps.getD 23 undef, a.tmps.getD 24 undef, a.tmps.getD 25 undef, a.tmps.getD 26 undef, a.tmps.getD 27 undef, a.tmps.getD 28 undef, a.tmps.getD 29 undef, a.tmps.getD 30 undef, a.tmps.getD 31 undef, a.tmps.getD 32 undef, a.tmps.getD 33 undef, a.tmps.getD 34 undef, a.tmps.getD 35 undef, a.tmps.getD 36 undef, a.tmps.getD 37 undef, a.tmps.getD 38 undef, a.tmps.getD 39 undef, a.tmps.getD 40 undef, a.tmps.getD 41 undef, a.tmps.getD 42 undef, a.tmps.getD 43 undef, a.tmps.getD 44 undef, a.tmps.getD 45 undef, a.tmps.getD 46 undef, a.tmps.getD 47 undef, a.tmps.getD 48 undef, a.tmps.getD 49 undef, a.tmps.getD 50 undef, a.tmps.getD 51 undef, a.tmps.getD 52 undef, a.tmps.getD 53 undef, a.tmps.getD 54 undef, a.tmps.getD 55 undef, a.tmps.getD 56 undef, a.tmps.getD 57 undef, a.tmps.getD 58 undef, a.tmps.getD 59 undef, a.tmps.getD 60 undef, a.tmps.getD 61 undef, a.tmps.getD 62 undef, a.tmps.getD 63 undef, a.tmps.getD 64 undef, a.tmps.getD 65 undef, a.tmps.getD 66 undef, a.tmps.getD 67 undef, a.tmps.getD 68 undef, a.tmps.getD 69 undef, a.tmps.getD 70 undef, a.tmps.getD 71 undef, a.tmps.getD 72 undef, a.tmps.getD 73 undef, a.tmps.getD 74 undef, a.tmps.getD 75 undef, a.tmps.getD 76 undef, a.tmps.getD 77 undef, a.tmps.getD 78 undef, a.tmps.getD 79 undef, a.tmps.getD 80 undef, a.tmps.getD 81 undef, a.tmps.getD 82 undef, a.tmps.getD 83 undef, a.tmps.getD 84 undef, a.tmps.getD 85 undef, a.tmps.getD 86 undef, a.tmps.getD 87 undef, a.tmps.getD 88 undef, a.tmps.getD 89 undef], defers := [] }) : PAct g v lv a := ⟨fun i => a.tmps.getD i undef, h⟩
/-- What holds at a label: 0 behind a CR, 1 within a line. -/
def PJ (w : World) (B g : Nat) (s0 : Value) (most : Int) (f0 : Li.Fm) (xs : List UInt8) (l : Nat) (a : Act) (wr : World) : Prop :=
  ∃ (v lv s : Value) (ls rest : List UInt8) (lines : List (List UInt8)),
    PAct g v lv a ∧
    PS w wr B g s0 s lv most ⟨ls, 0⟩ lines ∧ (∀ wx, Turn g s0 w wx → Rd wx v (rest.map bv)) ∧
    f0.put most xs = (lines ++ ((⟨ls, 0⟩ : Li.Fm).put most rest).1, ((⟨ls, 0⟩ : Li.Fm).put most rest).2) ∧
    ls.length + rest.length ≤ 1048576 ∧ lines.length + rest.length ≤ 1048576 ∧
    ((l = 0 ∧ ls.getLast? = some 13) ∨ (l = 1 ∧ Li.Bare ls))
def pMu (a : Act) (_ : World) : Nat := match a.tmps.getD 1 undef with | .slice _ n _ => n | _ => 0
theorem pj_two {w : World} {B g : Nat} {s0 : Value} {most : Int} {f0 : Li.Fm} {xs : List UInt8} (l : Nat) (a : Act) (wr : World) (h : PJ w B g s0 most f0 xs l a wr) : l = 0 ∨ l = 1 := by
  obtain ⟨_, _, _, _, _, _, _, _, _, _, _, _, h⟩ := h
  rcases h with h | h
  · exact .inl h.1
  · exact .inr h.1
/-- The answer. -/
def FPost (w : World) (B g : Nat) (s0 : Value) (most : Int) (f0 : Li.Fm) (xs : List UInt8) (e : Ending) (w' : World) : Prop :=
  ∃ s' lv, e = .returned (.tuple #[lv, .int .i64 ((f0.put most xs).2.err : Int)]) ∧ PS w w' B g s0 s' lv most (f0.put most xs).2 (f0.put most xs).1

set_option maxHeartbeats 4000000 in
set_option maxRecDepth 20000 in
/-- 'Put': an error is there. -/
theorem fput_err {w : World} {B g : Nat} {s : Value} {most : Int} {f : Li.Fm} (h : FO w B g s most f) (v : Value) (xs : List UInt8) (he : f.err ≠ 0) :
    Calls Tryd.prog 8 #[.pointer (some ⟨g, 0, none⟩), v] w (FPost w B g s most f xs) := by
  have h1 := h.next ((Below.refl w.heap.size w).drew)
  have HP := Lib.hid (show PS w w.drew B g s s (.slice none 0 0) most f [] from ⟨h1, World.ownsRow_nil _ _ _ _, .of_below ((Below.refl w.heap.size w).drew), Nx.refl _ _⟩)
  have c2 := h.c2
  have d2 := h1.c2
  have hz : ((f.err : Int) != 0) = true := by simpa using he
  have hz2 : (f.err = 0) = False := eq_false he
  unfold FPost
  rw [Li.put_err he]
  dsimp only
  generalize f.err = er at *
  clear h h1 he
  go_enter Tryd.func8, Tryd.ntmps8
  go_wp2
  refine wp_scope_many (fun _ _ _ => False) (fun _ _ _ => 0) (fun _ _ _ h => h.elim) (fun _ => ?_)
  go_wp2
  go_region
  all_goals
    go_wp2
    rw [jumps_ret]
    go_ret2
    exact ⟨s, _, rfl, HP.out⟩

/-- The body behind its first region, and what must hold behind it. -/
noncomputable def putCode : Code := match Tryd.f8.body with | some (.seq _ (.scope c)) => c | _ => .skip
def PutQ (w : World) (B g : Nat) (s : Value) (most : Int) (f0 : Li.Fm) (xs : List UInt8) : Exit → Act → World → Prop := bodyPost Tryd.prog Tryd.f8 (FPost w B g s most f0 xs)
/-- A label's pass. -/
def Pass (w : World) (B g : Nat) (s : Value) (most : Int) (f0 : Li.Fm) (xs : List UInt8) (l : Nat) : Prop :=
  ∀ a wr, PJ w B g s most f0 xs l a wr → ∃ r, findLabel putCode l = some (.seq .skip r) ∧ r.wp Tryd.prog (jumps (fun l' a' w' => PJ w B g s most f0 xs l' a' w' ∧ pMu a' w' < pMu a wr) (PutQ w B g s most f0 xs)) a wr
end Go.Proofs.YthfefbpfgepbjaaDoor
