/- b64.Take walked. -/
import Derived.Test.YtjogdflhpciciaaDoorB64Put
import Derived.Test.YtjogdflhpciciaaDoorB64Bytes
import Derived.Test.YtjogdflhpciciaaDoorScope
import Derived.Deep.RegionHeld3
import Derived.Lib.LazyBuf
import Derived.Stop.BytesEq
import Derived.Laws.StructEq
namespace Go.Proofs.YtjogdflhpciciaaDoor
open Go.RowKit

/-- What stands at the head of a round: four letters and three bytes in blocks of their own, the bytes taken so far. -/
structure TW (w : World) (B : Nat) (c0 c1 c2 c3 y0 y1 y2 : UInt8) (vo : Value) (done : List UInt8) (wr : World) : Prop where
  h5 : wr.heap[B]? = some (.cells #[bv c0, bv c1, bv c2, bv c3] 39)
  h6 : wr.heap[B + 1]? = some (.cells #[bv y0, bv y1, bv y2] 40)
  own : wr.ownsRow w.heap.size 5 1 vo done.length (done.map bv)
  below : Below w.heap.size w wr
  low : w.heap.size ≤ B

theorem TW.lt {w : World} {B : Nat} {c0 c1 c2 c3 y0 y1 y2 : UInt8} {vo : Value} {done : List UInt8} {wr : World} (h : TW w B c0 c1 c2 c3 y0 y1 y2 vo done wr) : B + 1 < wr.heap.size := (Array.getElem?_eq_some_iff.1 h.h6).1

theorem TW.next {w : World} {B : Nat} {c0 c1 c2 c3 y0 y1 y2 : UInt8} {vo : Value} {done : List UInt8} {wr w' : World} (h : TW w B c0 c1 c2 c3 y0 y1 y2 vo done wr) (hb : Below wr.heap.size wr w') : TW w B c0 c1 c2 c3 y0 y1 y2 vo done w' := by
  have hl := h.lt
  exact ⟨(hb.block _ (by omega)).trans h.h5, (hb.block _ hl).trans h.h6, own_below h.own hb, h.below.trans (hb.mono h.below.size), h.low⟩

theorem own_apart {w w' : World} {B n g : Nat} {v : Value} {vs : List Value} {C : Array Value} {t : TypeId} {fr : Nat × Nat} (h : w.ownsRow B 5 1 v n vs) (hg : w.grownBy w' (some g)) (hb : w.heap[g]? = some (.cells C t fr)) (ht : t ≠ 5) : w'.ownsRow B 5 1 v n vs := by
  refine h.kept hg (.inr fun e => ?_)
  rcases h.2 with ⟨rfl, _⟩ | ⟨g', cap, cur, rfl, _, hh, _⟩
  · cases e
  · have e : g' = g := by simpa [Value.ownBlock] using e
    subst e
    rw [hb] at hh
    simp at hh
    exact ht hh.2.1

theorem grown_setCell (w : World) (b i : Nat) (v : Value) : w.grownBy (w.setCell ⟨b, i, none⟩ v) (some b) :=
  ⟨rfl, rfl, rfl, by simp [World.setCell], fun k _ hk => Below.heap_setCell _ _ _ _ (fun e => hk (by simp [e]))⟩

/-- Other letters. -/
theorem TW.four {w : World} {B : Nat} {c0 c1 c2 c3 d0 d1 d2 d3 y0 y1 y2 : UInt8} {vo : Value} {done : List UInt8} {wr w' : World} (h : TW w B c0 c1 c2 c3 y0 y1 y2 vo done wr)
    (hg : wr.grownBy w' (some B)) (h5 : w'.heap[B]? = some (.cells #[bv d0, bv d1, bv d2, bv d3] 39)) : TW w B d0 d1 d2 d3 y0 y1 y2 vo done w' :=
  ⟨h5, (hg.block _ h.lt (by simp)).trans h.h6, own_apart h.own hg h.h5 (by decide), h.below.grown hg h.below.size (fun k hk => by cases hk; exact h.low), h.low⟩

/-- One of the three bytes stored. -/
theorem TW.set {w : World} {B i : Nat} {c0 c1 c2 c3 y0 y1 y2 z0 z1 z2 : UInt8} {vo u : Value} {done : List UInt8} {wr : World} (h : TW w B c0 c1 c2 c3 y0 y1 y2 vo done wr)
    (hs : (#[bv y0, bv y1, bv y2] : Array Value).setIfInBounds i u = #[bv z0, bv z1, bv z2]) : TW w B c0 c1 c2 c3 z0 z1 z2 vo done (wr.setCell ⟨B + 1, i, none⟩ u) := by
  refine ⟨?_, ?_, own_apart h.own (grown_setCell _ _ _ _) h.h6 (by decide), h.below.setCell (Nat.le_succ_of_le h.low) _, h.low⟩
  · rw [Below.heap_setCell _ _ _ _ (by show B ≠ B + 1; omega)]
    exact h.h5
  · rw [setCell_row h.h6, hs]

theorem TW.set3 {w : World} {B : Nat} {c0 c1 c2 c3 y0 y1 y2 z0 z1 z2 : UInt8} {vo : Value} {done : List UInt8} {wr : World} (h : TW w B c0 c1 c2 c3 y0 y1 y2 vo done wr) :
    TW w B c0 c1 c2 c3 z0 z1 z2 vo done (((wr.setCell ⟨B + 1, 0, none⟩ (.int .u8 (z0.toNat : Int))).setCell ⟨B + 1, 1, none⟩ (.int .u8 (z1.toNat : Int))).setCell ⟨B + 1, 2, none⟩ (.int .u8 (z2.toNat : Int))) :=
  ((h.set (z0 := z0) (z1 := y1) (z2 := y2) rfl).set (z0 := z0) (z1 := z1) (z2 := y2) rfl).set (z0 := z0) (z1 := z1) (z2 := z2) rfl

theorem TW.rd {w : World} {B m : Nat} {c0 c1 c2 c3 y0 y1 y2 : UInt8} {vo : Value} {done : List UInt8} {wr : World} (h : TW w B c0 c1 c2 c3 y0 y1 y2 vo done wr) (hm : m ≤ 3) :
    Rd wr (.slice (some ⟨B + 1, 0, none⟩) m 3) (([y0, y1, y2].take m).map bv) := by
  have h3 : Rd wr (.slice (some ⟨B + 1, 0, none⟩) 3 3) ([y0, y1, y2].map bv) := by
    refine .inr ⟨_, 0, 3, rfl, Nat.le_refl _, by unfold maxLen; omega, fun j u hj => ?_⟩
    rw [cell_of_row _ _ _ _ _ _ h.h6, Nat.zero_add, ← hj]
    match j with
    | 0 => rfl
    | 1 => rfl
    | 2 => rfl
    | j + 3 => simp
  exact h3.head rfl hm (by decide)

theorem TW.k0 {w : World} {B : Nat} {c0 c1 c2 c3 y0 y1 y2 : UInt8} {vo : Value} {done : List UInt8} {wr : World} (h : TW w B c0 c1 c2 c3 y0 y1 y2 vo done wr) : wr.cell? ⟨B, 0, none⟩ = some (.int .u8 (c0.toNat : Int)) := cell_of_row _ _ _ _ _ _ h.h5
theorem TW.k1 {w : World} {B : Nat} {c0 c1 c2 c3 y0 y1 y2 : UInt8} {vo : Value} {done : List UInt8} {wr : World} (h : TW w B c0 c1 c2 c3 y0 y1 y2 vo done wr) : wr.cell? ⟨B, 1, none⟩ = some (.int .u8 (c1.toNat : Int)) := cell_of_row _ _ _ _ _ _ h.h5
theorem TW.k2 {w : World} {B : Nat} {c0 c1 c2 c3 y0 y1 y2 : UInt8} {vo : Value} {done : List UInt8} {wr : World} (h : TW w B c0 c1 c2 c3 y0 y1 y2 vo done wr) : wr.cell? ⟨B, 2, none⟩ = some (.int .u8 (c2.toNat : Int)) := cell_of_row _ _ _ _ _ _ h.h5
theorem TW.k3 {w : World} {B : Nat} {c0 c1 c2 c3 y0 y1 y2 : UInt8} {vo : Value} {done : List UInt8} {wr : World} (h : TW w B c0 c1 c2 c3 y0 y1 y2 vo done wr) : wr.cell? ⟨B, 3, none⟩ = some (.int .u8 (c3.toNat : Int)) := cell_of_row _ _ _ _ _ _ h.h5

theorem done_le {T done : List UInt8} {rest s : ByteArray} (h : T = B64.put done ++ rest.data.toList) (hT : T = s.data.toList) (hs : s.size ≤ 1048576) : done.length ≤ 1048576 := by
  have := congrArg List.length (hT.symm.trans h)
  rw [List.length_append, B64.put_len, ← Lib.size_eq] at this
  omega

/-- More bytes taken. -/
theorem TW.grow {w : World} {B : Nat} {c0 c1 c2 c3 y0 y1 y2 : UInt8} {vo v' : Value} {done X : List UInt8} {wr w' : World} (h : TW w B c0 c1 c2 c3 y0 y1 y2 vo done wr) (hg : wr.grownBy w' vo.ownBlock)
    (hown : w'.ownsRow w.heap.size 5 1 v' (done.length + X.length) (done.map bv ++ X.map bv)) : TW w B c0 c1 c2 c3 y0 y1 y2 v' (done ++ X) w' := by
  have ap : ∀ (b : Nat) (C : Array Value) (t : TypeId), t ≠ 5 → wr.heap[b]? = some (.cells C t (0, 0)) → some b ≠ vo.ownBlock := by
    intro b C t ht hb e
    rcases h.own.2 with ⟨rfl, _⟩ | ⟨g', cap, cur, rfl, _, hh, _⟩
    · cases e
    · have e : b = g' := by simpa [Value.ownBlock] using e
      subst e
      rw [hb] at hh
      simp at hh
      exact ht hh.2
  have hl := h.lt
  refine ⟨(hg.block _ (by omega) (ap _ _ _ (by decide) h.h5)).trans h.h5, (hg.block _ hl (ap _ _ _ (by decide) h.h6)).trans h.h6, ?_, h.below.grown hg h.below.size (fun k hk => (h.own.lt k hk).1), h.low⟩
  rw [List.length_append, List.map_append]
  exact hown

theorem rest_four {s : ByteArray} {d0 d1 d2 d3 : UInt8} {r : List UInt8} (h : s.data.toList = d0 :: d1 :: d2 :: d3 :: r) : (s.extract 4 s.size).data.toList = r := by
  have hl : s.data.toList.length = s.size := (Lib.size_eq s).symm
  rw [Lib.extract_eq, h, List.take_of_length_le (by rw [h] at hl; simp at hl ⊢; omega)]
  simp

/-- lettersOf of the first m of the three bytes. -/
theorem TW.letters {w : World} {B m : Nat} {c0 c1 c2 c3 y0 y1 y2 l0 l1 l2 l3 : UInt8} {vo : Value} {done : List UInt8} (hm1 : 1 ≤ m) (hm : m ≤ 3) (hl : B64.four ([y0, y1, y2].take m) = [l0, l1, l2, l3]) :
    ∀ wr, TW w B c0 c1 c2 c3 y0 y1 y2 vo done wr → Calls Tryd.prog 32 #[.slice (some ⟨B + 1, 0, none⟩) m 3] wr fun e w' =>
      e = .returned (.agg #[.int .u8 (l0.toNat : Int), .int .u8 (l1.toNat : Int), .int .u8 (l2.toNat : Int), .int .u8 (l3.toNat : Int)]) ∧ TW w B c0 c1 c2 c3 y0 y1 y2 vo done w' := by
  intro wr h
  have hlen : ([y0, y1, y2].take m).length = m := by rw [List.length_take]; show min m 3 = m; omega
  refine (lettersOf_any _ _ wr (h.rd hm) (by rw [hlen]; exact hm1) (by rw [hlen]; exact hm)).mono ?_
  rintro e w' ⟨rfl, hb⟩
  refine ⟨?_, h.next hb⟩
  simp only [B64.four, List.cons.injEq, and_true] at hl
  obtain ⟨e0, e1, e2, e3⟩ := hl
  rw [e0, e1, e2, e3]
  rfl

theorem guard4 : Tryd.prog.eqGuardType Tryd.prog.depth 39 = false := by kernel_rfl
theorem equal4 (l0 l1 l2 l3 d0 d1 d2 d3 : UInt8) (b : Bool) (hb : b = ([l0, l1, l2, l3] == [d0, d1, d2, d3])) (w : World) :
    (Op.equalIn 10000 39 (.agg #[.int .u8 (l0.toNat : Int), .int .u8 (l1.toNat : Int), .int .u8 (l2.toNat : Int), .int .u8 (l3.toNat : Int)]) (.agg #[.int .u8 (d0.toNat : Int), .int .u8 (d1.toNat : Int), .int .u8 (d2.toNat : Int), .int .u8 (d3.toNat : Int)])).run Tryd.prog w = .ok b w := by
  obtain ⟨i0, hi, hz0, hz1, hz2⟩ := info_parts info_u8
  have := run_equalIn_bytes (P := Tryd.prog) w 9998 39 5 4 Tryd.underlying39 Tryd.underlying5 (fun w => by simp [sizeOf, typeInfo, hi, hz1]) [l0, l1, l2, l3] [d0, d1, d2, d3] rfl rfl
  rw [hb]
  exact this

/-- 'copy(four[:], s)', four lying in a block of its own. -/
theorem copy_str (w : World) (g : Nat) (C : Array Value) (t : TypeId) (hg : w.heap[g]? = some (.cells C t (0, 0))) (hC : C.size = 4) (s : ByteArray) :
    ∃ w' X, (Builtin.copy_ #[29, 9] 3 #[.slice (some ⟨g, 0, none⟩) 4 4, .string s]).run Tryd.prog w = .ok (.int .i64 ((min s.size 4 : Nat) : Int)) w' ∧
      w'.heap[g]? = some (.cells X t (0, 0)) ∧ (4 ≤ s.size → X = ((s.data.toList.take 4).map bv).toArray) ∧ w.grownBy w' (some g) := by
  obtain ⟨i0, hi, hz0, hz1, hz2⟩ := info_parts info_u8
  have hl : s.data.toList.length = s.size := (Lib.size_eq s).symm
  have hvl : ((s.data.toList.take 4).map bv).length = min s.size 4 := by rw [List.length_map, List.length_take, hl, Nat.min_comm]
  have hst := run_storeCells_at Tryd.prog g 0 t ((s.data.toList.take 4).map bv) 0 C w hg (by rw [hvl, hC]; omega) (bv_cell _)
  have htk : List.take (Nat.min s.size 4) (List.map (fun b : UInt8 => Value.int IntKind.u8 (b.toNat : Int)) s.data.toList) = (s.data.toList.take 4).map bv := by
    rw [List.map_take]
    show List.take (min s.size 4) (s.data.toList.map bv) = _
    rcases Nat.le_total s.size 4 with h | h
    · rw [Nat.min_eq_left h, List.take_of_length_le (by rw [List.length_map, hl]; omega), List.take_of_length_le (by rw [List.length_map, hl]; exact h)]
    · rw [Nat.min_eq_right h]
  obtain ⟨vs, hvs⟩ : ∃ vs, vs = (s.data.toList.take 4).map bv := ⟨_, rfl⟩
  rw [← hvs] at hvl hst htk
  refine ⟨w.setRow g (vs ++ C.toList.drop vs.length).toArray, (vs ++ C.toList.drop vs.length).toArray, ?_, setRow_heap w g C _ t (0, 0) hg, ?_, ⟨rfl, rfl, rfl, by simp [World.setRow], fun k hk hne => setRow_other w g k _ (fun e => hne (by rw [e]))⟩⟩
  · simp only [Nat.add_zero, Nat.zero_add, List.take_zero, List.nil_append] at hst
    simp [Builtin.copy_, run_underlying Tryd.underlying29, Builtin.lenOf, Builtin.firstCells, sizeOf, typeInfo, hi]
    rw [htk, hst]
    simp [Result.andThen]
    rfl
  · intro h4
    rw [← hvs, List.drop_of_length_le (by rw [hvl, Array.length_toList, hC]; omega), List.append_nil]

/-- The answer: the bytes whose letters the text is, or none. -/
def TakePost (w : World) (T : List UInt8) (e : Ending) (w' : World) : Prop :=
  (∃ b v, B64.put b = T ∧ e = .returned (.tuple #[v, .bool true]) ∧ w'.ownsRow w.heap.size 5 1 v b.length (b.map bv) ∧ Below w.heap.size w w') ∨
  ((∀ b, B64.put b ≠ T) ∧ e = .returned (.tuple #[.slice none 0 0, .bool false]) ∧ Below w.heap.size w w')

def takeMu (l : Nat) (a : Act) (_ : World) : Nat := if l = 0 then (match a.tmps.getD 0 undef with | .string s => s.size | _ => 0) + 1 else 0

def TakeJ (w : World) (B : Nat) (T : List UInt8) (l : Nat) (a : Act) (wr : World) : Prop :=
  (l = 0 ∧ ∃ (rest : ByteArray) (vo : Value) (n : Nat) (done : List UInt8) (c0 c1 c2 c3 y0 y1 y2 : UInt8),
    (∃ u8 u9 u10 u11 u12 u13 u14 u15 u16 u17 u18 u19 u20 u21 u22 u23 u24 u25 u26 u27 u28 u29 u30 u31 u32 u33 u34 u35 u36 u37 u38 u39 : Value, a = { tmps := #[.string rest, undef, .slice none 0 0, .bool false, vo, .pointer (some ⟨B, 0, none⟩), .pointer (some ⟨B + 1, 0, none⟩), .int .i64 (n : Int), u8, u9, u10, u11, u12, u13, u14, u15, u16, u17, u18, u19, u20, u21, u22, u23, u24, u25, u26, u27, u28, u29, u30, u31, u32, u33, u34, u35, u36, u37, u38, u39], defers := [] }) ∧
    TW w B c0 c1 c2 c3 y0 y1 y2 vo done wr ∧ T = B64.put done ++ rest.data.toList ∧ (n = 3 → done.length % 3 = 0) ∧ (n < 3 → done.length % 3 ≠ 0) ∧ 1 ≤ n ∧ n ≤ 3) ∨
  (l = 1 ∧ (∃ u0 u1 u2 u3 u4 u5 u6 u7 u8 u9 u10 u11 u12 u13 u14 u15 u16 u17 u18 u19 u20 u21 u22 u23 u24 u25 u26 u27 u28 u29 u30 u31 u32 u33 u34 u35 u36 u37 u38 u39 : Value, a = { tmps := #[u0, u1, u2, u3, u4, u5, u6, u7, u8, u9, u10, u11, u12, u13, u14, u15, u16, u17, u18, u19, u20, u21, u22, u23, u24, u25, u26, u27, u28, u29, u30, u31, u32, u33, u34, u35, u36, u37, u38, u39], defers := [] }) ∧ Below w.heap.size w wr ∧ ∀ b, B64.put b ≠ T)

theorem take_any (s : ByteArray) (w : World) (hs : s.size ≤ 1048576) :
    Calls Tryd.prog 19 #[.string s] w (TakePost w s.data.toList) := by
  obtain ⟨wm, hmk, hown, hbm⟩ := make_u8s w (s.size / 4 * 3) (by omega)
  rw [show ((s.size / 4 * 3 : Nat) : Int) = (s.size : Int) / 4 * 3 by omega] at hmk
  obtain ⟨T, hT⟩ : ∃ T, T = s.data.toList := ⟨_, rfl⟩
  have hTW : ∀ x y : Obj, x = .cells #[bv 0, bv 0, bv 0, bv 0] 39 → y = .cells #[bv 0, bv 0, bv 0] 40 → TW w wm.heap.size 0 0 0 0 0 0 0 (.slice (some ⟨w.heap.size, 0, none⟩) 0 (s.size / 4 * 3)) [] ((wm.alloc x).alloc y) := by
    rintro x y rfl rfl
    refine ⟨?_, ?_, (hown.alloc _).alloc _, (hbm.alloc hbm.size _).alloc (by have := hbm.size; simp; omega) _, hbm.size⟩
    · rw [Below.heap_alloc _ _ _ (by simp)]
      exact heap_alloc_new _ _
    · have := heap_alloc_new (wm.alloc (.cells #[bv 0, bv 0, bv 0, bv 0] 39)) (.cells #[bv 0, bv 0, bv 0] 40)
      simpa using this
  rw [← hT]
  have HTW := Lib.hid hTW
  have HT := Lib.hid hT
  clear hTW hown hT
  go_enter Tryd.func19, Tryd.ntmps19
  go_wp2
  refine wp_scope_many (TakeJ w wm.heap.size T) takeMu ?pass ?first
  case first =>
    intro hp
    go_wp2
    go_step3
    rename_i K hk
    refine hk _ _ ?_
    obtain ⟨r, hr, hw⟩ := hp 0 _ _ (Or.inl ⟨rfl, s, _, 3, [], 0, 0, 0, 0, 0, 0, 0, ⟨_, _, _, _, _, _, _, _, _, _, _, _, _, _, _, _, _, _, _, _, _, _, _, _, _, _, _, _, _, _, _, _, rfl⟩, HTW.out _ _ rfl rfl, HT.out, fun _ => rfl, fun h => absurd h (by decide), by decide, by decide⟩)
    obtain ⟨_, hr⟩ := Code.seq.inj (Option.some.inj hr)
    subst hr
    exact hw
  case pass =>
    rintro l a wr (⟨rfl, rest, vo, n, done, c0, c1, c2, c3, y0, y1, y2, ⟨u8, u9, u10, u11, u12, u13, u14, u15, u16, u17, u18, u19, u20, u21, u22, u23, u24, u25, u26, u27, u28, u29, u30, u31, u32, u33, u34, u35, u36, u37, u38, u39, rfl⟩, hR, hsum, hn3, hn2, hn, hn'⟩ | ⟨rfl, ⟨u0, u1, u2, u3, u4, u5, u6, u7, u8, u9, u10, u11, u12, u13, u14, u15, u16, u17, u18, u19, u20, u21, u22, u23, u24, u25, u26, u27, u28, u29, u30, u31, u32, u33, u34, u35, u36, u37, u38, u39, rfl⟩, hb, hno⟩)
    · refine ⟨_, rfl, ?_⟩
      clear hmk hbm
      have HR := Lib.hid hR
      have HSUM := Lib.hid hsum
      by_cases he : rest = ⟨#[]⟩
      · subst he
        have HT' := Lib.hid (show B64.put done = T by rw [hsum]; simp)
        clear hR hsum hn3 hn2 hn hn'
        go_wp2
        rw [jumps_ret]
        go_ret2
        exact Or.inl ⟨done, vo, HT'.out, rfl, HR.out.own, HR.out.below⟩
      · have hrl : rest.data.toList ≠ [] := fun e => he (by
          have : rest.data = #[] := by simpa using e
          cases rest
          simp_all)
        have hrs : rest.data.toList.length = rest.size := (Lib.size_eq rest).symm
        have hbe : rest.toList.isEmpty = false := by
          rw [Lib.toList_data]
          cases hq : rest.data.toList with
          | nil => exact absurd hq hrl
          | cons x r => rfl
        by_cases hlt : n < 3
        · have HNO := Lib.hid (show ∀ b, B64.put b ≠ T from fun b hb => hrl (B64.put_ends (hn2 hlt) (hb.trans hsum)))
          clear hR hsum hn3 hn2 hn hn' he hrl hrs
          go_wp2
          go_step3
          exact ⟨Or.inr ⟨rfl, ⟨_, _, _, _, _, _, _, _, _, _, _, _, _, _, _, _, _, _, _, _, _, _, _, _, _, _, _, _, _, _, _, _, _, _, _, _, _, _, _, _, rfl⟩, HR.out.below, HNO.out⟩, by show 0 < _ + 1; omega⟩
        · obtain rfl : n = 3 := by omega
          have hd3 := hn3 rfl
          obtain ⟨wc, X, hcp, hX, hX4, hgr⟩ := copy_str wr wm.heap.size _ _ hR.h5 rfl rest
          have HX := Lib.hid hX
          have HGR := Lib.hid hgr
          by_cases h4 : rest.size < 4
          · rw [Nat.min_eq_left (by omega)] at hcp
            have HNO := Lib.hid (show ∀ b, B64.put b ≠ T from fun b hb => by
              have := B64.put_short (hb.trans hsum)
              rw [hrs] at this
              have h0 : rest.data.toList.length ≠ 0 := fun e => hrl (List.length_eq_zero_iff.1 e)
              omega)
            have HB := Lib.hid (show Below w.heap.size w wc from hR.below.grown hgr hR.below.size (fun k hk => by cases hk; exact hR.low))
            clear hR hsum hn3 hn2 hn hn' he hrl hrs hX hX4 hgr hd3
            go_wp2
            go_step3
            exact ⟨Or.inr ⟨rfl, ⟨_, _, _, _, _, _, _, _, _, _, _, _, _, _, _, _, _, _, _, _, _, _, _, _, _, _, _, _, _, _, _, _, _, _, _, _, _, _, _, _, rfl⟩, HB.out, HNO.out⟩, by show 0 < _ + 1; omega⟩
          · rw [Nat.min_eq_right (by omega)] at hcp
            obtain ⟨d0, d1, d2, d3, r, hr⟩ : ∃ d0 d1 d2 d3 r, rest.data.toList = d0 :: d1 :: d2 :: d3 :: r := by
              match hq : rest.data.toList, (show 4 ≤ rest.data.toList.length by omega) with
              | d0 :: d1 :: d2 :: d3 :: r, _ => exact ⟨d0, d1, d2, d3, r, rfl⟩
            have TC : TW w wm.heap.size d0 d1 d2 d3 y0 y1 y2 vo done wc := hR.four hgr (by rw [hX, hX4 (by omega), hr]; rfl)
            have HR0 := Lib.hid hr
            have HD3 := Lib.hid hd3
            have HDL := Lib.hid (done_le hsum HT.out hs)
            have q0 : wc.cell? ⟨wm.heap.size, 0, none⟩ = some (.int .u8 (d0.toNat : Int)) := cell_of_row _ _ _ _ _ _ TC.h5
            have q1 : wc.cell? ⟨wm.heap.size, 1, none⟩ = some (.int .u8 (d1.toNat : Int)) := cell_of_row _ _ _ _ _ _ TC.h5
            have q2 : wc.cell? ⟨wm.heap.size, 2, none⟩ = some (.int .u8 (d2.toNat : Int)) := cell_of_row _ _ _ _ _ _ TC.h5
            have q3 : wc.cell? ⟨wm.heap.size, 3, none⟩ = some (.int .u8 (d3.toNat : Int)) := cell_of_row _ _ _ _ _ _ TC.h5
            have HTC := Lib.hid TC
            clear hR hsum hn3 hn2 hn hn' he hrl hrs hX hX4 hgr hd3 hr TC
            go_wp2_with fail
            refine (bytesOf_any d0 d1 d2 d3 _).mono ?_
            rintro e w1 ⟨rfl, hb1⟩
            clear q0 q1 q2 q3
            obtain ⟨z0, z1, z2, hz⟩ : ∃ z0 z1 z2, B64.three d0 d1 d2 d3 = [z0, z1, z2] := ⟨_, _, _, rfl⟩
            have ez : (#[bv (UInt8.ofNat (B64.rowV d0 d1 d2 d3 / 65536)), bv (UInt8.ofNat (B64.rowV d0 d1 d2 d3 / 256)), bv (UInt8.ofNat (B64.rowV d0 d1 d2 d3))] : Array Value) = #[.int .u8 (z0.toNat : Int), .int .u8 (z1.toNat : Int), .int .u8 (z2.toNat : Int)] := by
              simp only [B64.three, List.cons.injEq, and_true] at hz
              obtain ⟨e0, e1, e2⟩ := hz
              rw [e0, e1, e2]
              rfl
            have hm := B64.cnt_le d2 d3
            have hbk : B64.back d0 d1 d2 d3 = [z0, z1, z2].take (B64.cnt d2 d3) := by rw [B64.back, hz]
            have hbl := B64.back_len d0 d1 d2 d3
            rw [ez]
            generalize B64.cnt d2 d3 = m at hm hbk hbl ⊢
            obtain ⟨hm1, hm3⟩ := hm
            have HBK := Lib.hid hbk
            have HBL := Lib.hid hbl
            have T1 := HTC.out.next hb1
            have p0 : w1.cell? ⟨wm.heap.size + 1, 0, none⟩ = some (.int .u8 (y0.toNat : Int)) := cell_of_row _ _ _ _ _ _ T1.h6
            have p1 : w1.cell? ⟨wm.heap.size + 1, 1, none⟩ = some (.int .u8 (y1.toNat : Int)) := cell_of_row _ _ _ _ _ _ T1.h6
            have p2 : w1.cell? ⟨wm.heap.size + 1, 2, none⟩ = some (.int .u8 (y2.toNat : Int)) := cell_of_row _ _ _ _ _ _ T1.h6
            have f0 : w1.frozen? ⟨wm.heap.size + 1, 0, none⟩ = false := frozen_of_row _ _ _ _ _ T1.h6
            have f1 : w1.frozen? ⟨wm.heap.size + 1, 1, none⟩ = false := frozen_of_row _ _ _ _ _ T1.h6
            have f2 : w1.frozen? ⟨wm.heap.size + 1, 2, none⟩ = false := frozen_of_row _ _ _ _ _ T1.h6
            have T2 := T1.set3 (z0 := z0) (z1 := z1) (z2 := z2)
            have HT2 := Lib.hid T2
            clear ez hz hbk hbl T1 T2 hb1
            go_wp2
            clear p0 p1 p2 f0 f1 f2 hcp
            have T2 := HT2.out
            clear HT2
            generalize (((w1.setCell ⟨wm.heap.size + 1, 0, none⟩ (.int .u8 (z0.toNat : Int))).setCell ⟨wm.heap.size + 1, 1, none⟩ (.int .u8 (z1.toNat : Int))).setCell ⟨wm.heap.size + 1, 2, none⟩ (.int .u8 (z2.toNat : Int))) = w2 at T2 ⊢
            have T3 : TW w wm.heap.size d0 d1 d2 d3 z0 z1 z2 vo done w2.drew := T2.next ((Below.refl _ _).drew)
            have r0 : w2.cell? ⟨wm.heap.size, 0, none⟩ = some (.int .u8 (d0.toNat : Int)) := cell_of_row _ _ _ _ _ _ T2.h5
            have r1 : w2.cell? ⟨wm.heap.size, 1, none⟩ = some (.int .u8 (d1.toNat : Int)) := cell_of_row _ _ _ _ _ _ T2.h5
            have r2 : w2.cell? ⟨wm.heap.size, 2, none⟩ = some (.int .u8 (d2.toNat : Int)) := cell_of_row _ _ _ _ _ _ T2.h5
            have r3 : w2.cell? ⟨wm.heap.size, 3, none⟩ = some (.int .u8 (d3.toNat : Int)) := cell_of_row _ _ _ _ _ _ T2.h5
            have i0 : (0 : Int) ≤ (m : Int) := Int.natCast_nonneg _
            have i1 : (m : Int) ≤ 3 := by omega
            have hg4 := guard4
            by_cases hq : B64.four ([z0, z1, z2].take m) = [d0, d1, d2, d3]
            · have C := Lib.hid (TW.letters (w := w) (B := wm.heap.size) (c0 := d0) (c1 := d1) (c2 := d2) (c3 := d3) (vo := vo) (done := done) hm1 hm3 hq)
              have he4 := fun w => equal4 d0 d1 d2 d3 d0 d1 d2 d3 true (by simp) w
              have HQ := Lib.hid hq
              clear hq T2
              go_region_held3 (fun w' => w'.cell? ⟨wm.heap.size, 0, none⟩ = some (.int .u8 (d0.toNat : Int)) ∧ w'.cell? ⟨wm.heap.size, 1, none⟩ = some (.int .u8 (d1.toNat : Int)) ∧ w'.cell? ⟨wm.heap.size, 2, none⟩ = some (.int .u8 (d2.toNat : Int)) ∧ w'.cell? ⟨wm.heap.size, 3, none⟩ = some (.int .u8 (d3.toNat : Int))) (first | go_keep | exact ⟨by assumption, by assumption, by assumption, by assumption⟩)
                (first | (go_at_call 32; refine (C.out _ (by assumption)).mono ?_; rintro e w3 ⟨rfl, T4⟩; have s0 := T4.k0; have s1 := T4.k1; have s2 := T4.k2; have s3 := T4.k3))
              obtain ⟨X, hX⟩ : ∃ X, X = [z0, z1, z2].take m := ⟨_, rfl⟩
              have hXl : X.length = m := by rw [hX, ← HBK.out, HBL.out]
              have hrX : Rd w3 (.slice (some ⟨wm.heap.size + 1, 0, none⟩) m 3) (X.map bv) := by rw [hX]; exact T4.rd hm3
              have HXE := Lib.hid hX
              have HXL := Lib.hid hXl
              have hdl := HDL.out
              clear s0 s1 s2 s3 r0 r1 r2 r3 hg4 he4 C hX hXl
              go_wp2_with (at_builtin; refine append_u8s rfl (.tmp 34) (.tmp 36) rfl rfl T4.own (X.map bv) hrX (bv_cell _) ?ca ?cb ?_)
              case ca => rw [List.length_map, HXL.out]; omega
              case cb => exact T4.below.size
              intro v' w4 hown4 hgr4
              have T5 := T4.grow hgr4 (by simpa using hown4)
              clear hown4 hgr4 T4 hrX
              go_wp2
              go_step3
              have hXb : X = B64.back d0 d1 d2 d3 := by rw [HXE.out, HBK.out]
              refine ⟨Or.inl ⟨rfl, rest.extract 4 rest.size, v', m, done ++ X, d0, d1, d2, d3, z0, z1, z2, ⟨_, _, _, _, _, _, _, _, _, _, _, _, _, _, _, _, _, _, _, _, _, _, _, _, _, _, _, _, _, _, _, _, rfl⟩, T5, ?_, fun h => ?_, fun h => ?_, hm1, hm3⟩, ?_⟩
              · rw [rest_four HR0.out, HSUM.out, HR0.out, hXb]
                exact B64.put_more HD3.out (by rw [← hXb, HXE.out]; exact HQ.out)
              · rw [List.length_append, HXL.out]; have := HD3.out; omega
              · rw [List.length_append, HXL.out]; have := HD3.out; omega
              · show (rest.extract 4 rest.size).size + 1 < rest.size + 1
                simp only [ByteArray.size_extract]
                omega
            · obtain ⟨l0, l1, l2, l3, hl⟩ : ∃ l0 l1 l2 l3, B64.four ([z0, z1, z2].take m) = [l0, l1, l2, l3] := ⟨_, _, _, _, rfl⟩
              have C := Lib.hid (TW.letters (w := w) (B := wm.heap.size) (c0 := d0) (c1 := d1) (c2 := d2) (c3 := d3) (vo := vo) (done := done) hm1 hm3 hl)
              have he4 := fun w => equal4 l0 l1 l2 l3 d0 d1 d2 d3 false (by rw [← hl]; exact (beq_eq_false_iff_ne.2 hq).symm) w
              have HQ := Lib.hid hq
              clear hq hl T2
              go_region_held3 (fun w' => w'.cell? ⟨wm.heap.size, 0, none⟩ = some (.int .u8 (d0.toNat : Int)) ∧ w'.cell? ⟨wm.heap.size, 1, none⟩ = some (.int .u8 (d1.toNat : Int)) ∧ w'.cell? ⟨wm.heap.size, 2, none⟩ = some (.int .u8 (d2.toNat : Int)) ∧ w'.cell? ⟨wm.heap.size, 3, none⟩ = some (.int .u8 (d3.toNat : Int))) (first | go_keep | exact ⟨by assumption, by assumption, by assumption, by assumption⟩)
                (first | (go_at_call 32; refine (C.out _ (by assumption)).mono ?_; rintro e w3 ⟨rfl, T4⟩; have s0 := T4.k0; have s1 := T4.k1; have s2 := T4.k2; have s3 := T4.k3))
              clear s0 s1 s2 s3 r0 r1 r2 r3 hg4 he4 C
              go_wp2
              go_step3
              refine ⟨Or.inr ⟨rfl, ⟨_, _, _, _, _, _, _, _, _, _, _, _, _, _, _, _, _, _, _, _, _, _, _, _, _, _, _, _, _, _, _, _, _, _, _, _, _, _, _, _, rfl⟩, T4.below, fun b hb => HQ.out ?_⟩, by show 0 < _ + 1; omega⟩
              rw [← HBK.out]
              exact B64.put_other HD3.out (by rw [hb, HSUM.out, HR0.out])
    · refine ⟨_, rfl, ?_⟩
      have HNO := Lib.hid hno
      clear hno hmk hbm
      go_wp2
      rw [jumps_ret]
      go_ret2
      exact Or.inr ⟨HNO.out, rfl, hb⟩
end Go.Proofs.YtjogdflhpciciaaDoor
