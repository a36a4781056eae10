/- strings.SplitSeq by a comma: what it gives whoever ranges over it. -/
import Derived.Test.YtniinebgmkginaaDoorRangeBox
import Derived.Test.YtniinebgmkginaaDoorIndex1
import Derived.Test.YtniinebgmkginaaDoorLineP
import Derived.LoopNIn
import Derived.LoopIn
import Derived.OwnWalkIn
import Derived.TacticsInMore
namespace Go.Proofs.YtniinebgmkginaaDoor
open Go.RowKit

/-- Bytes as a text. -/
def ba (l : List UInt8) : ByteArray := ⟨l.toArray⟩
theorem ba_list (l : List UInt8) : (ba l).data.toList = l := rfl
theorem ba_self (s : ByteArray) : ba s.data.toList = s := rfl
theorem ba_size (l : List UInt8) : (ba l).size = l.length := rfl

/-- A variable in a block of its own. -/
def Box (w : World) (b : Nat) (t : TypeId) (v : Value) : Prop := w.heap[b]? = some (.cells #[v] t (0, 0))
theorem Box.cell {w : World} {b : Nat} {t : TypeId} {v : Value} (h : Box w b t v) : w.cell? ⟨b, 0, none⟩ = some v := by
  unfold Box at h; simp [World.cell?, h]
theorem Box.frozen {w : World} {b : Nat} {t : TypeId} {v : Value} (h : Box w b t v) : w.frozen? ⟨b, 0, none⟩ = false := by
  unfold Box at h; simp [World.frozen?, h]
theorem Box.same {w w' : World} {b : Nat} {t : TypeId} {v : Value} (h : Box w b t v) (e : w'.heap[b]? = w.heap[b]?) : Box w' b t v := e.trans h
theorem Box.set {w : World} {b : Nat} {t : TypeId} {v : Value} (h : Box w b t v) (u : Value) : Box (w.setCell ⟨b, 0, none⟩ u) b t u := by
  unfold Box at *
  simp [World.setCell, Array.getElem?_modify, h]
theorem Box.other {w : World} {b b' : Nat} {t : TypeId} {v : Value} (h : Box w b t v) (hn : b ≠ b') (u : Value) : Box (w.setCell ⟨b', 0, none⟩ u) b t v := (Below.heap_setCell _ _ _ _ hn).trans h
theorem Box.new (w : World) (t : TypeId) (v : Value) : Box (w.alloc (.cells #[v] t)) w.heap.size t v := World.alloc_heap_new w _
theorem Box.alloc {w : World} {b : Nat} {t : TypeId} {v : Value} (h : Box w b t v) (o : Obj) : Box (w.alloc o) b t v := (Below.heap_alloc _ _ _ (Array.getElem?_eq_some_iff.1 h).1).trans h
theorem Box.lt {w : World} {b : Nat} {t : TypeId} {v : Value} (h : Box w b t v) : b < w.heap.size := (Array.getElem?_eq_some_iff.1 h).1

theorem Box.putObj {w : World} {b l : Nat} {t : TypeId} {v : Value} (h : Box w b t v) (o : Obj) (hn : b ≠ l) : Box (w.putObj l o) b t v := (World.putObj_heap_other hn).trans h
theorem Box.two {w : World} {b : Nat} {t : TypeId} {v : Value} (h : Box w b t v) (o o' : Obj) : Box (twoLaid w o o') b t v := (h.alloc o).alloc o'
theorem below_putObj {n l : Nat} {w W : World} (h : Below n w W) (o : Obj) (hn : n ≤ l) : Below n w (W.putObj l o) :=
  h.trans ⟨rfl, rfl, rfl, by simp, fun k hk => World.putObj_heap_other (by omega)⟩
theorem below_two {n : Nat} {w W : World} (h : Below n w W) (o o' : Obj) (hn : n ≤ W.heap.size) : Below n w (twoLaid W o o') := (h.alloc hn o).alloc (by simp; omega) o'

/-- How many bytes the text in a box has. -/
def boxLen (w : World) (b : Nat) : Nat := match w.cell? ⟨b, 0, none⟩ with | some (.string s) => s.size | _ => 0
theorem Box.len {w : World} {b : Nat} {t : TypeId} {l : List UInt8} (h : Box w b t (.string (ba l))) : boxLen w b = l.length := by
  unfold boxLen; rw [h.cell]; rfl

theorem split_cut {l : List UInt8} {k : Nat} (h : l = l.take k ++ 44 :: l.drop (k + 1)) (hn : ∀ x ∈ l.take k, x ≠ 44) : Ln.split l = l.take k :: Ln.split (l.drop (k + 1)) := by
  conv => lhs; rw [h]
  rw [Ln.split_append, Ln.split_none hn]
  rfl

/-- The iterator's three variables, from block H on: the text that is left, the separator, how much of it is kept. -/
structure Sq (H : Nat) (r : List UInt8) (w : World) : Prop where
  s : Box w H 9 (.string (ba r))
  p : Box w (H + 1) 9 (.string ⟨#[44]⟩)
  v : Box w (H + 2) 3 (.int .i64 0)
theorem Sq.same {H : Nat} {r : List UInt8} {w w' : World} (h : Sq H r w) (hs : ∀ k, H ≤ k → k ≤ H + 2 → w'.heap[k]? = w.heap[k]?) : Sq H r w' :=
  ⟨h.s.same (hs _ (Nat.le_refl _) (by omega)), h.p.same (hs _ (by omega) (by omega)), h.v.same (hs _ (by omega) (by omega))⟩
theorem Sq.set {H : Nat} {r : List UInt8} {w : World} (h : Sq H r w) (r' : List UInt8) : Sq H r' (w.setCell ⟨H, 0, none⟩ (.string (ba r'))) :=
  ⟨h.s.set _, h.p.other (by omega) _, h.v.other (by omega) _⟩

/-- What the iterator wants kept; what it does itself. -/
def SqK (H : Nat) (A B : World) : Prop := ∀ k, H ≤ k → k ≤ H + 2 → B.heap[k]? = A.heap[k]?
def SqS (H : Nat) (A B : World) : Prop := ∃ v, B = A.setCell ⟨H, 0, none⟩ v

theorem SqK.t {H : Nat} {A B C : World} (h : SqK H A B) (k : SqK H B C) : SqK H A C := fun i h1 h2 => (k i h1 h2).trans (h i h1 h2)
theorem SqK.two {H : Nat} {W : World} (hH : H + 3 ≤ W.heap.size) (o o' : Obj) : SqK H W (twoLaid W o o') := fun k _ h2 =>
  (Below.heap_alloc _ _ k (by simp; omega)).trans (Below.heap_alloc _ _ k (by omega))
theorem SqK.put {H n : Nat} (hH : H + 3 ≤ n) (W : World) (l : Nat) (o : Obj) (hl : n ≤ l) : SqK H W (W.putObj l o) := fun k _ h2 => World.putObj_heap_other (by omega)
theorem SqS.far {H n : Nat} (hH : H < n) (A B : World) (h : SqS H A B) (k : Nat) (h1 : n ≤ k) (_ : k ≤ n + 1) : B.heap[k]? = A.heap[k]? := by
  obtain ⟨v, rfl⟩ := h
  exact Below.heap_setCell _ _ _ _ (by show k ≠ H; omega)

set_option maxRecDepth 100000 in
set_option maxHeartbeats 2000000 in
theorem splitSeq_gives (H : Nat) (s : List UInt8) (hs : s.length ≤ 16777216) (w : World) (h : Sq H s w) :
    Gives Tryd.prog 32 #[.pointer (some ⟨H + 1, 0, none⟩), .pointer (some ⟨H, 0, none⟩), .pointer (some ⟨H + 2, 0, none⟩)] (SqS H) (SqK H) ((Ln.split s).map ba) w := by
  intro l J Jx W hW hJ hY h0
  have hq := h.same hW
  clear h
  refine callsIn_of_wp Tryd.func32 rfl trivial ?_ rfl
  simp only [Tryd.ntmps32, List.size_toArray, List.length_cons, List.length_nil, Nat.reduceAdd, Nat.reduceSub, Array.replicate_succ, Array.replicate_zero, List.push_toArray, List.append_toArray, List.nil_append, List.cons_append]
  have c1 := hq.s.cell
  have c2 := hq.p.cell
  gi_wp2
  gi_loopw [7, 8] (fun _ _ wr => ∃ pre r, Ln.split s = pre ++ Ln.split r ∧ r.length ≤ s.length ∧ Sq H r wr ∧ J (pre.map ba) wr) (fun _ _ wr => boxLen wr H)
  case atStart => exact ⟨[], s, rfl, Nat.le_refl _, hq, h0⟩
  case round =>
    obtain ⟨pre, r, he, hr, hq, hj⟩ := hrel
    have c1 := hq.s.cell
    have c2 := hq.p.cell
    have c3 := hq.v.cell
    have hi := fun n => callsIn_wide (n := n).2 (Tryd.strings_Index_one (ba r) 44 wr)
    rcases ix_at 44 r with ⟨h1, h2⟩ | ⟨k, h1, h2, h3, h4⟩
    · have e0 : Lib.indexByte (ba r).data.toList 44 = -1 := h1
      rw [e0] at hi
      obtain ⟨fn, tmps, assign, body, hy, hR⟩ := hY (pre.map ba) (ba r) wr (by rw [he, Ln.split_none h2]; simp) hj
      gi_wp2_with (refine ⟨trivial, rfl, ?_⟩; gi_at_call 34; refine (hi _).mono ?_; rintro e w' ⟨rfl, hw⟩; rw [hw])
      refine ⟨rfl, hR.mono ?_⟩
      rintro e W3 (⟨rfl, hJ3, _⟩ | ⟨rfl, hJ3⟩)
      · gi_wp2
        go_end0
        exact ⟨⟨_, rfl⟩, .inl (by rw [he, Ln.split_none h2, List.map_append]; exact hJ3)⟩
      · gi_wp2
        go_end0
        exact ⟨⟨_, rfl⟩, .inr ⟨_, by rw [he, Ln.split_none h2]; simp, hJ3⟩⟩
    · have e0 : Lib.indexByte (ba r).data.toList 44 = (k : Int) := h2
      rw [e0] at hi
      have hsp := split_cut h4 h3
      obtain ⟨fn, tmps, assign, body, hy, hR⟩ := hY (pre.map ba) (ba (r.take k)) wr (by rw [he, hsp]; simp) hj
      have hk : (0 : Int) ≤ k := by omega
      have hk1 : (k : Int) ≤ (r.length : Int) := by omega
      have hk2 : ((k + 1 : Nat) : Int) ≤ (r.length : Int) := by omega
      have hz : (ba r).size = r.length := rfl
      have hx1 : (ba r).extract 0 k = ba (r.take k) := by rw [ba, ba_extract]; simp [ba]
      have hx2 : (ba r).extract (k + 1) r.length = ba (r.drop (k + 1)) := by rw [ba, ba_extract]; simp [ba]
      have HE := Lib.hid he
      have HS := Lib.hid hsp
      clear h3 h4 he hsp h2
      gi_wp2_with (refine ⟨trivial, rfl, ?_⟩; gi_at_call 34; refine (hi _).mono ?_; rintro e w' ⟨rfl, hw⟩; rw [hw])
      refine ⟨rfl, hR.mono ?_⟩
      rintro e W3 (⟨rfl, hJ3, hK⟩ | ⟨rfl, hJ3⟩)
      · have hq3 := hq.same hK
        have c1 := hq3.s.cell
        have c2 := hq3.p.cell
        have f1 := hq3.s.frozen
        gi_wp2
        go_roundw
        case rel => exact ⟨pre ++ [r.take k], r.drop (k + 1), by rw [HE.out, HS.out]; simp, by rw [List.length_drop]; omega, hq3.set _, by rw [List.map_append]; exact hJ _ _ _ hJ3 ⟨_, rfl⟩⟩
        case measure => rw [(hq3.set (r.drop (k + 1))).s.len, hq.s.len, List.length_drop]; omega
      · gi_wp2
        (try simp only [Exit.inBlock, Exit.then])
        refine bodyPost_ret (results_none rfl _ _ _) rfl ?_
        exact ⟨⟨_, rfl⟩, .inr ⟨_, by rw [HE.out, HS.out]; simp, hJ3⟩⟩

/-- The three variables' blocks, as SplitSeq lays them. -/
def sqLaid (w : World) (s : List UInt8) : World := ((w.alloc (.cells #[.string (ba s)] 9)).alloc (.cells #[.string ⟨#[44]⟩] 9)).alloc (.cells #[.int .i64 0] 3)
theorem sqLaid_sq (w : World) (s : List UInt8) : Sq w.heap.size s (sqLaid w s) := by
  have h1 : Box ((w.alloc (.cells #[.string (ba s)] 9)).alloc (.cells #[.string ⟨#[44]⟩] 9)) (w.heap.size + 1) 9 (.string ⟨#[44]⟩) := by
    have := Box.new (w.alloc (.cells #[.string (ba s)] 9)) 9 (.string ⟨#[44]⟩)
    rwa [World.size_alloc] at this
  have h2 : Box (sqLaid w s) (w.heap.size + 2) 3 (.int .i64 0) := by
    have := Box.new ((w.alloc (.cells #[.string (ba s)] 9)).alloc (.cells #[.string ⟨#[44]⟩] 9)) 3 (.int .i64 0)
    rwa [World.size_alloc, World.size_alloc] at this
  exact ⟨((Box.new w _ _).alloc _).alloc _, h1.alloc _, h2⟩
theorem sqLaid_size (w : World) (s : List UInt8) : (sqLaid w s).heap.size = w.heap.size + 3 := by simp [sqLaid]
theorem sqLaid_below (w : World) (s : List UInt8) : Below w.heap.size w (sqLaid w s) :=
  (((Below.refl _ w).alloc (Nat.le_refl _) _).alloc (by simp) _).alloc (by simp; omega) _

/-- The iterator's value. -/
def sqFun (H : Nat) : Value := .func (.func 32) #[] #[.pointer (some ⟨H + 1, 0, none⟩), .pointer (some ⟨H, 0, none⟩), .pointer (some ⟨H + 2, 0, none⟩)]

set_option maxHeartbeats 1000000 in
theorem splitSeq_any (s : List UInt8) (w : World) :
    Calls Tryd.prog 28 #[.string (ba s), .string ⟨#[44]⟩, .int .i64 0] w fun e w' => e = .returned (sqFun w.heap.size) ∧ w' = sqLaid w s := by
  go_enter Tryd.func28, Tryd.ntmps28
  go_wp2
  go_ret
  exact ⟨rfl, rfl⟩
set_option maxHeartbeats 1000000 in
theorem SplitSeq_any (s : List UInt8) (w : World) :
    Calls Tryd.prog 22 #[.string (ba s), .string ⟨#[44]⟩] w fun e w' => e = .returned (sqFun w.heap.size) ∧ w' = sqLaid w s := by
  go_enter Tryd.func22, Tryd.ntmps22
  go_wp2_with (go_at_call 28; refine (splitSeq_any s w).mono ?_; rintro e w' ⟨rfl, hw⟩; rw [hw])
  go_ret
  exact ⟨rfl, rfl⟩
end Go.Proofs.YtniinebgmkginaaDoor
