/- The reference's One, in plain words: lines up to a reply's end; what stands in memory meanwhile; its bodied, walked. -/
import Derived.Test.YtnodngcfjdghcaaDoorFoot
import Derived.Test.YtnodngcfjdghcaaDoorMk
import Derived.Test.YtnodngcfjdghcaaDoorMkLine
import Derived.Test.YtnodngcfjdghcaaDoorStuffRefBody
import Derived.Test.YtnodngcfjdghcaaDoorLineRefSt
import Derived.Test.YtnodngcfjdghcaaDoorReplyLaw
import Derived.Test.YtnodngcfjdghcaaDoorShortR
namespace Go.Proofs.YtnodngcfjdghcaaDoor
namespace Rp
theorem drop_snoc {α : Type} {xs : List α} {f i : Nat} (d : α) (hf : f ≤ i) (hi : i < xs.length) : (xs.take (i + 1)).drop f = (xs.take i).drop f ++ [xs.getD i d] := by
  have e : xs.getD i d = xs[i] := by rw [List.getD_eq_getElem?_getD, List.getElem?_eq_getElem hi]; rfl
  rw [List.take_succ_eq_append_getElem hi, List.drop_append_of_le_length (by rw [List.length_take]; omega), e]
theorem drop_one {α : Type} {xs : List α} {f : Nat} (d : α) (hf : f < xs.length) : (xs.take (f + 1)).drop f = [xs.getD f d] := by
  rw [drop_snoc d (Nat.le_refl f) hf]
  have : (xs.take f).drop f = [] := by rw [List.drop_eq_nil_iff, List.length_take]; omega
  rw [this]; rfl
/-- All lines but the last one are in the middle of the reply. -/
def Mids (p : Int) (body : Bool) (xs : List (List UInt8)) (f : Nat) : Prop := ∀ j, f < j → j < xs.length → ∃ m, runs p body ((xs.take j).drop f) = .inl m
theorem Mids.head {p : Int} {body : Bool} {xs : List (List UInt8)} {f : Nat} (h : Mids p body xs f) (hf : f < xs.length) (hn : ∀ m, first p (xs.getD f []) body ≠ .inl m) : f + 1 = xs.length ∧ runs p body (xs.drop f) = first p (xs.getD f []) body := by
  have e := drop_one [] hf
  have h1 : f + 1 = xs.length := by
    rcases Nat.lt_or_ge (f + 1) xs.length with h1 | h1
    · obtain ⟨m, hm⟩ := h (f + 1) (by omega) h1
      rw [e, runs_one] at hm
      exact absurd hm (hn m)
    · omega
  refine ⟨h1, ?_⟩
  have : xs.drop f = (xs.take (f + 1)).drop f := by rw [h1, List.take_length]
  rw [this, e, runs_one]
theorem runs_head {p : Int} {body : Bool} {xs : List (List UInt8)} {f : Nat} (hf : f < xs.length) {m : Mid} (hm : first p (xs.getD f []) body = .inl m) : runs p body ((xs.take (f + 1)).drop f) = .inl m := by
  rw [drop_one [] hf, runs_one, hm]
theorem runs_next {p : Int} {body : Bool} {xs : List (List UInt8)} {f i : Nat} (hf : f ≤ i) (hi : i < xs.length) {m : Mid} (hm : runs p body ((xs.take i).drop f) = .inl m) : runs p body ((xs.take (i + 1)).drop f) = next p m (xs.getD i []) := by
  rw [drop_snoc [] hf hi, runs_snoc _ _ _ _ _ hm]
theorem Mids.stop {p : Int} {body : Bool} {xs : List (List UInt8)} {f i : Nat} (h : Mids p body xs f) (hf : f ≤ i) (hi : i < xs.length) {m : Mid} (hm : runs p body ((xs.take i).drop f) = .inl m) (hn : ∀ m', next p m (xs.getD i []) ≠ .inl m') : i + 1 = xs.length ∧ runs p body (xs.drop f) = next p m (xs.getD i []) := by
  have e := runs_next hf hi hm
  have h1 : i + 1 = xs.length := by
    rcases Nat.lt_or_ge (i + 1) xs.length with h1 | h1
    · obtain ⟨m', hm'⟩ := h (i + 1) (by omega) h1
      rw [e] at hm'
      exact absurd hm' (hn m')
    · omega
  refine ⟨h1, ?_⟩
  have : xs.drop f = (xs.take (i + 1)).drop f := by rw [h1, List.take_length]
  rw [this, e]
theorem runs_all {p : Int} {body : Bool} {xs : List (List UInt8)} {f : Nat} {m : Mid} (hm : runs p body ((xs.take xs.length).drop f) = .inl m) : runs p body (xs.drop f) = .inl m := by
  rw [List.take_length] at hm
  exact hm
end Rp
open Go.RowKit

/-- What One tells: the reply, where it ends, whether it is whole, what is wrong. -/
def OneP (w : World) (n : Nat) (o : Rp.Out) (e : Ending) (w' : World) : Prop :=
  ∃ lo lc bo bc, e = .returned (.tuple #[.agg #[.string (ba (Rp.outRe o).code), .slice lo (Rp.outRe o).lines.length lc, .slice bo (Rp.outRe o).body.length bc], .int .i64 (n : Int), .bool (Rp.outDone o), .int .i64 (Rp.outErr o : Int)]) ∧
    Rd w' (.slice lo (Rp.outRe o).lines.length lc) ((Rp.outRe o).lines.map sv) ∧ Rd w' (.slice bo (Rp.outRe o).body.length bc) ((Rp.outRe o).body.map bv) ∧ Below w.heap.size w w'
theorem rd_nil (w : World) (vs : List Value) (h : vs = []) : Rd w (.slice none 0 0) vs := .inl ⟨h, none, 0, fun _ => rfl, rfl⟩

/-- What stands while One reads a reply: the result, what the first line said, the reply so far. -/
structure OS (w wr : World) (sb gr : Nat) (k : ByteArray) (more : Bool) (tt : ByteArray) (lv : Value) (ls : List (List UInt8)) : Prop where
  b : Below w.heap.size w wr
  r : Rb wr w.heap.size ⟨#[]⟩ (.slice none 0 0) (.slice none 0 0)
  s : St3 wr sb k more tt
  g : Rb wr gr k lv (.slice none 0 0)
  o : wr.ownsRow w.heap.size 9 1 lv ls.length (ls.map sv)
  n1 : w.heap.size < sb
  n2 : sb < gr
section
variable {w wr w' : World} {sb gr : Nat} {k tt : ByteArray} {more : Bool} {lv : Value} {ls : List (List UInt8)}
theorem OS.next (h : OS w wr sb gr k more tt lv ls) (hb : Below wr.heap.size wr w') : OS w w' sb gr k more tt lv ls :=
  ⟨h.b.trans (hb.mono h.b.size), h.r.same (hb.block _ h.r.lt), h.s.same (hb.block _ h.s.lt), h.g.same (hb.block _ h.g.lt), own_below h.o hb, h.n1, h.n2⟩
/-- One line more. -/
theorem OS.line (h : OS w wr sb gr k more tt lv ls) {v' : Value} {x : List UInt8} (ho : w'.ownsRow w.heap.size 9 1 v' (ls.length + 1) (ls.map sv ++ [sv x])) (hg : wr.grownBy w' lv.ownBlock) : OS w (w'.setCell ⟨gr, 1, none⟩ v') sb gr k more tt v' (ls ++ [x]) := by
  have e1 : ∀ {b : Nat} {C : Array Value} {t : TypeId}, wr.heap[b]? = some (.cells C t (0, 0)) → 9 ≠ t → w'.heap[b]? = wr.heap[b]? := fun hc ht => hg.block _ (Array.getElem?_eq_some_iff.1 hc).1 (fun e => own_not h.o hc ht e.symm)
  have er := h.r.same (e1 h.r (by decide))
  have es := h.s.same (e1 h.s (by decide))
  have eg := h.g.same (e1 h.g (by decide))
  have n1 := h.n1
  have n2 := h.n2
  refine ⟨(h.b.grown hg h.b.size (fun j hj => (h.o.lt j hj).1)).setCell (p := ⟨gr, 1, none⟩) (show w.heap.size ≤ gr by omega) v', er.same (Below.heap_setCell _ _ _ _ (show w.heap.size ≠ gr by omega)), es.same (Below.heap_setCell _ _ _ _ (show sb ≠ gr by omega)), eg.set1 v', ?_, n1, n2⟩
  rw [List.length_append, List.map_append]
  exact own_setCell ho (own_not ho eg (by decide))
/-- A told reply: what the result's block holds at the end. -/
theorem OneP.of {O o : Rp.Out} {n : Nat} (ho : O = o) {lo bo : Option Addr} {lc bc : Nat} (h1 : Rd w' (.slice lo (Rp.outRe o).lines.length lc) ((Rp.outRe o).lines.map sv)) (h2 : Rd w' (.slice bo (Rp.outRe o).body.length bc) ((Rp.outRe o).body.map bv)) (hb : Below w.heap.size w w') :
    OneP w n O (.returned (.tuple #[.agg #[.string (ba (Rp.outRe o).code), .slice lo (Rp.outRe o).lines.length lc, .slice bo (Rp.outRe o).body.length bc], .int .i64 (n : Int), .bool (Rp.outDone o), .int .i64 (Rp.outErr o : Int)])) w' := by
  subst ho
  exact ⟨lo, lc, bo, bc, rfl, h1, h2, hb⟩
end
end Go.Proofs.YtnodngcfjdghcaaDoor
namespace Go.Proofs.YtnodngcfjdghcaaDoor
open Go.RowKit

/-- What stands while bodied reads on: the body, the reply in its box, the result. -/
structure BS (w wr : World) (gb : Nat) (sb : Value) (b : St.Bd) (rb rs : Nat) (K : ByteArray) (lv : Value) : Prop where
  bl : Below w.heap.size w wr
  o : RO wr w.heap.size gb sb 1000 b
  r : Rb wr rb K lv (.slice none 0 0)
  s : Rb wr rs ⟨#[]⟩ (.slice none 0 0) (.slice none 0 0)
  n1 : w.heap.size ≤ rb
  n2 : rb < rs
theorem BS.ne {w wr : World} {gb rb rs : Nat} {sb lv : Value} {b : St.Bd} {K : ByteArray} (h : BS w wr gb sb b rb rs K lv) : rb ≠ gb ∧ rs ≠ gb ∧ sb.ownBlock ≠ some rb ∧ sb.ownBlock ≠ some rs := by
  have e : ∀ {j : Nat} {C : Array Value}, wr.heap[j]? = some (.cells C 30 (0, 0)) → j ≠ gb ∧ sb.ownBlock ≠ some j := by
    intro j C hj
    refine ⟨fun e => ?_, own_not h.o.o hj (by decide)⟩
    subst e
    have h2 := h.o.c.symm.trans hj
    simp only [Option.some.injEq, Obj.cells.injEq] at h2
    exact absurd h2.2.1 (by decide)
  exact ⟨(e h.r).1, (e h.s).1, (e h.r).2, (e h.s).2⟩
theorem BS.turn {w wr w' : World} {gb rb rs : Nat} {sb sb' lv : Value} {b b' : St.Bd} {K : ByteArray} (h : BS w wr gb sb b rb rs K lv) (ho : RO w' w.heap.size gb sb' 1000 b') (hT : Turn gb sb wr w') : BS w w' gb sb' b' rb rs K lv := by
  obtain ⟨e1, e2, e3, e4⟩ := h.ne
  exact ⟨h.bl.trans (h.o.turn hT h.bl.size), ho, h.r.same (hT.block _ h.r.lt e1 e3), h.s.same (hT.block _ h.s.lt e2 e4), h.n1, h.n2⟩
theorem BS.tell {w wr : World} {gb rb rs : Nat} {sb lv : Value} {b : St.Bd} {K : ByteArray} (h : BS w wr gb sb b rb rs K lv) :
    Rb ((((wr.setCell ⟨rb, 2, none⟩ sb).setCell ⟨rs, 0, none⟩ (.string K)).setCell ⟨rs, 1, none⟩ lv).setCell ⟨rs, 2, none⟩ sb) rs K lv sb ∧
    Below w.heap.size w ((((wr.setCell ⟨rb, 2, none⟩ sb).setCell ⟨rs, 0, none⟩ (.string K)).setCell ⟨rs, 1, none⟩ lv).setCell ⟨rs, 2, none⟩ sb) ∧
    Rd ((((wr.setCell ⟨rb, 2, none⟩ sb).setCell ⟨rs, 0, none⟩ (.string K)).setCell ⟨rs, 1, none⟩ lv).setCell ⟨rs, 2, none⟩ sb) sb (b.bs.map bv) := by
  obtain ⟨n1, n2, n3, n4⟩ := h.ne
  have h1 := h.n1
  have h2 := h.n2
  refine ⟨(h.s.same (w' := wr.setCell ⟨rb, 2, none⟩ sb) (Below.heap_setCell _ _ _ _ (show rs ≠ rb by omega))).set K lv sb, below_set3 (h.bl.setCell (p := ⟨rb, 2, none⟩) h1 sb) (show w.heap.size ≤ rs by omega) _ _ _, Rd.of_own (own_setCell (own_setCell (own_setCell (own_setCell h.o.o n3) n4) n4) n4)⟩
theorem BS.tell0 {w wr : World} {gb rb rs : Nat} {sb lv : Value} {b : St.Bd} {K : ByteArray} (h : BS w wr gb sb b rb rs K lv) :
    Rb (((wr.setCell ⟨rs, 0, none⟩ (.string ⟨#[]⟩)).setCell ⟨rs, 1, none⟩ (.slice none 0 0)).setCell ⟨rs, 2, none⟩ (.slice none 0 0)) rs ⟨#[]⟩ (.slice none 0 0) (.slice none 0 0) ∧
    Below w.heap.size w (((wr.setCell ⟨rs, 0, none⟩ (.string ⟨#[]⟩)).setCell ⟨rs, 1, none⟩ (.slice none 0 0)).setCell ⟨rs, 2, none⟩ (.slice none 0 0)) := by
  have h1 := h.n1
  have h2 := h.n2
  exact ⟨h.s.set _ _ _, below_set3 h.bl (show w.heap.size ≤ rs by omega) _ _ _⟩
/-- What bodied tells, and where it lies. -/
def OneB (w : World) (n : Nat) (o : Rp.Out) (lo0 : Option Addr) (lc0 : Nat) (e : Ending) (w' : World) : Prop :=
  ∃ lo lc bo bc, e = .returned (.tuple #[.agg #[.string (ba (Rp.outRe o).code), .slice lo (Rp.outRe o).lines.length lc, .slice bo (Rp.outRe o).body.length bc], .int .i64 (n : Int), .bool (Rp.outDone o), .int .i64 (Rp.outErr o : Int)]) ∧
    Rd w' (.slice lo (Rp.outRe o).lines.length lc) ((Rp.outRe o).lines.map sv) ∧ Rd w' (.slice bo (Rp.outRe o).body.length bc) ((Rp.outRe o).body.map bv) ∧ Below w.heap.size w w' ∧
    (∀ k, (Value.slice lo (Rp.outRe o).lines.length lc).ownBlock = some k → (Value.slice lo0 1 lc0).ownBlock = some k) ∧ ∀ k, (Value.slice bo (Rp.outRe o).body.length bc).ownBlock = some k → w.heap.size ≤ k
theorem oneb_no {w wz : World} {N : Nat} {O o : Rp.Out} {lo0 : Option Addr} {lc0 : Nat} (ho : O = o) (hb : Below w.heap.size w wz) (h1 : Rp.outRe o = ⟨[], [], []⟩) : OneB w N O lo0 lc0 (.returned (.tuple #[.agg #[.string ⟨#[]⟩, .slice none 0 0, .slice none 0 0], .int .i64 (N : Int), .bool (Rp.outDone o), .int .i64 (Rp.outErr o : Int)])) wz := by
  subst ho
  refine ⟨none, 0, none, 0, ?_, ?_, ?_, hb, (fun k hk => by cases hk), (fun k hk => by cases hk)⟩
  · rw [h1]; rfl
  · rw [h1]; exact rd_nil _ _ rfl
  · rw [h1]; exact rd_nil _ _ rfl
/-- Nothing, or an error: what is told. -/
theorem one_no {w wz : World} {N : Nat} {O o : Rp.Out} (ho : O = o) (hb : Below w.heap.size w wz) (h1 : Rp.outRe o = ⟨[], [], []⟩) : OneP w N O (.returned (.tuple #[.agg #[.string ⟨#[]⟩, .slice none 0 0, .slice none 0 0], .int .i64 (N : Int), .bool (Rp.outDone o), .int .i64 (Rp.outErr o : Int)])) wz := by
  subst ho
  refine ⟨none, 0, none, 0, ?_, ?_, ?_, hb⟩
  · rw [h1]; rfl
  · rw [h1]; exact rd_nil _ _ rfl
  · rw [h1]; exact rd_nil _ _ rfl

theorem rnew_gb (wz : World) : Calls Tryd.prog 18 #[.int .i64 1000] wz fun e w' => ∃ gb, e = .returned (.pointer (some ⟨gb, 0, none⟩)) ∧ Below wz.heap.size wz w' ∧ RO w' wz.heap.size gb (.slice none 0 0) 1000 ⟨[], 0⟩ :=
  (rnew_any 1000 (by decide) wz).mono fun _ _ h => ⟨_, h.1, h.2.1, h.2.2⟩
/-- 'Line' of the reference's body, of a list of bytes. -/
theorem rline_ba {w : World} {B g : Nat} {s : Value} {b : St.Bd} {x : List UInt8} (h : RO w B g s 1000 b) (hs : b.bs.length ≤ 1000000) (hnb : b.n ≤ 1000000) (ht : x.length ≤ 1000000) (hB : B ≤ w.heap.size) {a1 : Bool} {a2 : Nat} {b' : St.Bd} (hl : b.line 1000 x = (a1, a2, b')) :
    Calls Tryd.prog 19 #[.pointer (some ⟨g, 0, none⟩), .string (ba x)] w fun e w' => ∃ s', e = .returned (.tuple #[.bool a1, .int .i64 (a2 : Int)]) ∧ RO w' B g s' 1000 b' ∧ Turn g s w w' := by
  have h1 := rline_any w B g s 1000 b (ba x) h hs hnb ht hB
  refine h1.mono ?_
  rintro e w' ⟨s', rfl, h2, h3, _⟩
  have h2 : RO w' B g s' 1000 (b.line 1000 x).2.2 := h2
  have e1 : Ending.returned (.tuple #[.bool (b.line 1000 x).1, .int .i64 ((b.line 1000 x).2.1 : Int)]) = .returned (.tuple #[.bool a1, .int .i64 (a2 : Int)]) := by rw [hl]
  rw [hl] at h2
  exact ⟨s', e1, h2, h3⟩

set_option maxHeartbeats 8000000 in
set_option maxRecDepth 20000 in
theorem bodied_any {w : World} {xs : List (List UInt8)} {f N cap lc : Nat} {k t : List UInt8} {ao lo : Option Addr} (hr : Rd w (.slice ao N cap) (xs.map sv)) (hN : N = xs.length) (hf : f < N) (h40 : N ≤ 40) (hx : ∀ x ∈ xs, x.length ≤ 200)
    (h0 : Rp.runs 2 true ((xs.take (f + 1)).drop f) = .inl ⟨k, [t], some ⟨[], 0⟩⟩) (hm : Rp.Mids 2 true xs f) (hl : Rd w (.slice lo 1 lc) [sv t]) :
    Calls Tryd.prog 22 #[.agg #[.string (ba k), .slice lo 1 lc, .slice none 0 0], .slice ao N cap, .int .i64 ((f : Int) + 1)] w (OneB w N (Rp.runs 2 true (xs.drop f)) lo lc) := by
  have HR := Lib.hid hr
  have HN := Lib.hid hN
  have HX := Lib.hid hx
  have HM := Lib.hid hm
  have HL := Lib.hid hl
  have H0 := Lib.hid h0
  have CN := Lib.hid (fun wz => rnew_gb wz)
  obtain ⟨K, hK⟩ : ∃ K, K = ba k := ⟨_, rfl⟩
  have HK := Lib.hid hK
  rw [← hK]
  clear hr hN hx hm hl h0 hK
  have hal := ((Below.refl w.heap.size w).alloc (Nat.le_refl _) (.cells #[.string K, .slice lo 1 lc, .slice none 0 0] 30)).alloc (by simp) (.cells #[.string ⟨#[]⟩, .slice none 0 0, .slice none 0 0] 30)
  have hr1 : Rb ((w.alloc (.cells #[.string K, .slice lo 1 lc, .slice none 0 0] 30)).alloc (.cells #[.string ⟨#[]⟩, .slice none 0 0, .slice none 0 0] 30)) w.heap.size K (.slice lo 1 lc) (.slice none 0 0) := (Below.heap_alloc _ _ _ (by simp)).trans (World.alloc_heap_new w _)
  have hr2 : Rb ((w.alloc (.cells #[.string K, .slice lo 1 lc, .slice none 0 0] 30)).alloc (.cells #[.string ⟨#[]⟩, .slice none 0 0, .slice none 0 0] 30)) (w.heap.size + 1) ⟨#[]⟩ (.slice none 0 0) (.slice none 0 0) := by
    have := World.alloc_heap_new (w.alloc (.cells #[.string K, .slice lo 1 lc, .slice none 0 0] 30)) (.cells #[.string ⟨#[]⟩, .slice none 0 0, .slice none 0 0] 30)
    rw [World.size_alloc] at this
    exact this
  have HAL := Lib.hid hal
  have HR1 := Lib.hid hr1
  have HR2 := Lib.hid hr2
  clear hal hr1 hr2
  go_enter Tryd.func22, Tryd.ntmps22
  go_wp2_with fail
  refine (CN.out _).mono ?_
  rintro e w1 ⟨gb, rfl, hb1, ho1⟩
  have HB := Lib.hid (show BS w w1 gb _ ⟨[], 0⟩ w.heap.size (w.heap.size + 1) K (.slice lo 1 lc) from
    ⟨HAL.out.trans (hb1.mono HAL.out.size), ⟨ho1.c, ownsRow_lower ho1.o HAL.out.size, Nat.le_trans HAL.out.size ho1.hg, ho1.h0, ho1.hm⟩, HR1.out.same (hb1.block _ HR1.out.lt), HR2.out.same (hb1.block _ HR2.out.lt), Nat.le_refl _, Nat.lt_succ_self _⟩)
  clear ho1 hb1 CN HAL HR1 HR2
  go_wp2
  go_loopw [11, 12, 13] (fun s11 _ _ wr => ∃ (i : Nat) (b : St.Bd) (sb : Value), f + 1 ≤ i ∧ i ≤ N ∧ s11 = .int .i64 (i : Int) ∧ b.bs.length ≤ 1000 ∧ b.n ≤ i ∧ Hid (Rp.runs 2 true ((xs.take i).drop f) = .inl ⟨k, [t], some b⟩) ∧ Hid (BS w wr gb sb b w.heap.size (w.heap.size + 1) K (.slice lo 1 lc))) (fun s11 _ _ _ => N + 1 - (intOf s11).toNat)
  case atStart => exact ⟨f + 1, ⟨[], 0⟩, .slice none 0 0, Nat.le_refl _, hf, by go_num, Nat.zero_le _, Nat.zero_le _, H0.out, HB.out⟩
  case round =>
    obtain ⟨i, b, sb, hi1, hi2, rfl, hbl, hbn, HRUN, HB⟩ := hrel
    by_cases hlt : i < N
    · have t1 : (i : Int) < (N : Int) := by omega
      have hix : i < xs.length := by rw [← HN.out]; exact hlt
      obtain ⟨q, o, rfl, g1, g2, g3⟩ := rd_at (HR.out.below HB.out.bl) (by omega)
      replace g3 := g3 i _ (svs_at hix)
      have hlen : (xs.getD i []).length ≤ 200 := HX.out _ (getD_mem hix)
      have hnx := Rp.runs_next (by omega) hix HRUN.out
      have hst := fun hn => HM.out.stop (i := i) (by omega) hix HRUN.out hn
      have hrl := fun a1 a2 b' (hl : b.line 1000 (xs.getD i []) = (a1, a2, b')) => rline_ba HB.out.o (by omega) (by omega) (by omega) HB.out.bl.size hl
      obtain ⟨x, hx⟩ : ∃ x, x = xs.getD i [] := ⟨_, rfl⟩
      rw [← hx] at g3 hlen hnx hst hrl
      replace g3 : wr.cell? ⟨q, o + i, none⟩ = some (.string (ba x)) := g3
      unfold maxLen at g2
      clear hx hix hlen HRUN
      rw [Rp.body_next] at hnx hst
      by_cases h46 : x = [46]
      · subst h46
        rw [St.line_end] at hst
        obtain ⟨e1, e2⟩ := hst (fun m' h => by cases h)
        have e2 : Rp.runs 2 true (xs.drop f) = .inr (.inl ⟨k, [t], b.bs⟩) := e2
        have CL := Lib.hid (hrl _ _ _ (St.line_end _ _))
        have E2 := Lib.hid e2
        have eN : (i : Int) + 1 = (N : Int) := by have := HN.out; omega
        clear hst hnx hrl e1 e2
        go_wp2_with fail
        refine CL.out.mono ?_
        rintro e w2 ⟨s', rfl, ho, hT⟩
        obtain ⟨so, sc, rfl⟩ := own_form ho.o
        have hB2 := HB.out.turn ho hT
        have HF := Lib.hid hB2.tell
        have HSL := Lib.hid (fun k hk => (hB2.o.slt k hk).1)
        have c0 := ho.c0
        have x0 := hB2.r.c0
        have x1 := hB2.r.c1
        have x2 := hB2.r.c2
        have x3 := hB2.r.fr 2
        have u0 := hB2.s.c0
        have u1 := hB2.s.c1
        have u2 := hB2.s.c2
        have y0 := hB2.s.fr 0
        have y1 := hB2.s.fr 1
        have y2 := hB2.s.fr 2
        clear ho hT hB2 CL HB g3
        obtain ⟨BL, hBL⟩ : ∃ BL, BL = b.bs.length := ⟨_, rfl⟩
        rw [← hBL] at HF c0 HSL
        have HBL := Lib.hid hBL
        clear hBL
        go_wp2
        obtain ⟨f1, f2, f3⟩ := HF.out
        show bodyPost _ _ _ _ _ _
        refine bodyPost_ret (v := .tuple #[.agg #[.string K, .slice lo 1 lc, .slice so BL sc], .int .i64 (N : Int), .bool true, .int .i64 0]) (by
          have d0 := f1.c0
          have d1 := f1.c1
          have d2 := f1.c2
          generalize World.setCell _ _ _ = wz at d0 d1 d2 ⊢
          simp [results, Tryd.f22, go_sem, d0, d1, d2]) rfl ?_
        have hb := HBL.out
        subst hb
        rw [E2.out]
        refine ⟨lo, lc, so, sc, ?_, HL.out.below f2, f3, f2, fun _ hk => hk, HSL.out⟩
        rw [HK.out]
        rfl
      · by_cases hfull : (1000 : Int) < ((b.bs.length + (St.bare x).length + 2 : Nat) : Int)
        · rw [St.line_full h46 hfull] at hst
          obtain ⟨e1, e2⟩ := hst (fun m' h => by cases h)
          have e2 : Rp.runs 2 true (xs.drop f) = .inr (.inr 72) := e2
          have CL := Lib.hid (hrl _ _ _ (St.line_full h46 hfull))
          have E2 := Lib.hid e2
          have eN : (i : Int) + 1 = (N : Int) := by have := HN.out; omega
          clear hst hnx hrl e1 e2 hfull h46
          go_wp2_with fail
          refine CL.out.mono ?_
          rintro e w2 ⟨s', rfl, ho, hT⟩
          have hB2 := HB.out.turn ho hT
          have HF := Lib.hid hB2.tell0
          have u0 := hB2.s.c0
          have u1 := hB2.s.c1
          have u2 := hB2.s.c2
          have y0 := hB2.s.fr 0
          have y1 := hB2.s.fr 1
          have y2 := hB2.s.fr 2
          clear ho hT hB2 CL HB g3
          go_wp2
          obtain ⟨f1, f2⟩ := HF.out
          show bodyPost _ _ _ _ _ _
          refine bodyPost_ret (v := .tuple #[.agg #[.string ⟨#[]⟩, .slice none 0 0, .slice none 0 0], .int .i64 (N : Int), .bool false, .int .i64 72]) (by
            have d0 := f1.c0
            have d1 := f1.c1
            have d2 := f1.c2
            generalize World.setCell _ _ _ = wz at d0 d1 d2 ⊢
            simp [results, Tryd.f22, go_sem, d0, d1, d2]) rfl ?_
          exact oneb_no E2.out f2 rfl
        · have hroom : ((b.bs.length + (St.bare x).length + 2 : Nat) : Int) ≤ 1000 := by omega
          rw [St.line_more h46 hroom] at hnx
          have HNX := Lib.hid (show Rp.runs 2 true ((xs.take (i + 1)).drop f) = .inl ⟨k, [t], some ⟨b.bs ++ St.bare x ++ [13, 10], b.n + 1⟩⟩ from hnx)
          have CL := Lib.hid (hrl _ _ _ (St.line_more h46 hroom))
          have hbl2 : (b.bs ++ St.bare x ++ [13, 10]).length ≤ 1000 := by
            simp only [List.length_append, List.length_cons, List.length_nil]
            omega
          have HBL2 := Lib.hid hbl2
          have HBN := Lib.hid (show b.n + 1 ≤ i + 1 by omega)
          clear hst hnx hrl hfull h46 hroom hbl2
          go_wp2_with fail
          refine CL.out.mono ?_
          rintro e w2 ⟨s', rfl, ho, hT⟩
          have HB2 := Lib.hid (HB.out.turn ho hT)
          clear ho hT CL HB g3
          go_wp2
          go_roundw
          case rel => exact ⟨i + 1, ⟨b.bs ++ St.bare x ++ [13, 10], b.n + 1⟩, s', by omega, by omega, by go_num, HBL2.out, HBN.out, HNX.out, HB2.out⟩
          case measure => simp [intOf]; omega
    · have t1 : ((i : Int) < (N : Int)) = False := eq_false (by omega)
      obtain rfl : N = i := by omega
      have E2 := Lib.hid (Rp.runs_all (by have := HRUN.out; rwa [HN.out] at this))
      have HF := Lib.hid HB.out.tell0
      have u0 := HB.out.s.c0
      have u1 := HB.out.s.c1
      have u2 := HB.out.s.c2
      have y0 := HB.out.s.fr 0
      have y1 := HB.out.s.fr 1
      have y2 := HB.out.s.fr 2
      clear HB HRUN hlt
      go_wp2
      obtain ⟨f1, f2⟩ := HF.out
      show bodyPost _ _ _ _ _ _
      refine bodyPost_ret (v := .tuple #[.agg #[.string ⟨#[]⟩, .slice none 0 0, .slice none 0 0], .int .i64 (N : Int), .bool false, .int .i64 0]) (by
        have d0 := f1.c0
        have d1 := f1.c1
        have d2 := f1.c2
        generalize World.setCell _ _ _ = wz at d0 d1 d2 ⊢
        simp [results, Tryd.f22, go_sem, d0, d1, d2]) rfl ?_
      exact oneb_no E2.out f2 rfl
end Go.Proofs.YtnodngcfjdghcaaDoor
