/- digest.bytesOf and digest.Sum walked. -/
import Derived.Test.YtjogdflhpciciaaDoorDigestEnd
import Derived.Test.YtjogdflhpciciaaDoorArr16
namespace Go.Proofs.YtjogdflhpciciaaDoor
open Go.RowKit

def nthW (s : Md5.St) (q : Nat) : Nat := if q = 0 then s.a else if q = 1 then s.b else if q = 2 then s.c else s.d
def sumB (s : Md5.St) (k j : Nat) : UInt8 := if j < k then UInt8.ofNat (nthW s (j / 4) / 2 ^ (8 * (j % 4))) else 0
theorem sumB_zero (s : Md5.St) : rowF 16 (sumB s 0) = List.replicate 16 (.int .u8 0) := rfl
theorem sumB_all (s : Md5.St) : rowF 16 (sumB s 16) = (Md5.bytes s).map bv := by
  unfold rowF Md5.bytes
  rw [List.map_map]
  refine List.map_congr_left fun j hj => ?_
  have hj : j < 16 := by simpa using hj
  show bv (sumB s 16 j) = bv _
  rw [sumB, if_pos hj, nthW]
theorem nthW_at (s : Md5.St) {q : Nat} (h : q < 4) : (#[uv s.a, uv s.b, uv s.c, uv s.d] : Array Value)[q]? = some (.int .u32 (nthW s q : Int)) := by
  match q, h with
  | 0, _ => rfl
  | 1, _ => rfl
  | 2, _ => rfl
  | 3, _ => rfl
theorem nthW_lt {s : Md5.St} (h : Md5.Ok s) (q : Nat) : nthW s q < 4294967296 := by
  unfold nthW
  split
  · exact h.a
  split
  · exact h.b
  split
  · exact h.c
  · exact h.d

theorem sumOf_any (s : Md5.St) (hs : Md5.Ok s) (w : World) :
    Calls Tryd.prog 40 #[.agg #[uv s.a, uv s.b, uv s.c, uv s.d]] w fun e w' => e = .returned (av (Md5.bytes s)) ∧ Below w.heap.size w w' := by
  obtain ⟨R, hR⟩ : ∃ R, R = (Md5.bytes s).map bv := ⟨_, rfl⟩
  have hRl : R.length = 16 := by rw [hR]; simp [Md5.bytes]
  have hone : ∀ v ∈ R, v.oneCell' = true := by rw [hR]; exact bv_cell _
  unfold av
  rw [← hR]
  have HR := Lib.hid hR
  have HONE := Lib.hid hone
  have HI := Lib.hid (show (Tryd.prog.info? 37).map (·.size) = some R.toArray.size by rw [List.size_toArray, hRl]; kernel_rfl)
  have HIL := Lib.hid (show (Tryd.prog.info? 37).map (·.size) = some R.length by rw [hRl]; kernel_rfl)
  have HRL := Lib.hid hRl
  clear hR hRl hone
  go_enter Tryd.func40, Tryd.ntmps40
  go_wp2
  go_loopw [5] (fun i wr => ∃ k : Nat, k ≤ 16 ∧ i = .int .i64 k ∧ wr.heap[w.heap.size]? = some (.cells #[uv s.a, uv s.b, uv s.c, uv s.d] 49) ∧ wr.heap[w.heap.size + 1]? = some (.cells (List.replicate 16 (.int .u8 0)).toArray 37) ∧ wr.heap[w.heap.size + 1 + 1]? = some (.cells (rowF 16 (sumB s k)).toArray 37) ∧ Below w.heap.size w wr) (fun i _ => 16 - (intOf i).toNat)
  case atStart =>
    refine ⟨0, by omega, rfl, ?_, ?_, ?_, ?_⟩
    · rw [Below.heap_alloc _ _ _ (by simp; omega), Below.heap_alloc _ _ _ (by simp)]
      exact heap_alloc_new _ _
    · rw [Below.heap_alloc _ _ _ (by simp)]
      exact heap_alloc2_new _ _ _
    · rw [sumB_zero]
      have e : w.heap.size + 1 + 1 = ((w.alloc (.cells #[uv s.a, uv s.b, uv s.c, uv s.d] 49)).alloc (.cells (List.replicate 16 (.int .u8 0)).toArray 37)).heap.size := by simp
      rw [e]
      exact heap_alloc_new _ _
    · exact (((Below.refl _ _).alloc (Nat.le_refl _) _).alloc (by simp) _).alloc (by simp; omega) _
  case round =>
    obtain ⟨k, hk, rfl, h0, h1, h2, hb⟩ := hrel
    by_cases hlt : k < 16
    · obtain ⟨q, hq⟩ : ∃ q, q = k / 4 := ⟨_, rfl⟩
      obtain ⟨r, hr⟩ : ∃ r, r = k % 4 := ⟨_, rfl⟩
      have hq4 : q < 4 := by omega
      have hr4 : r < 4 := by omega
      have c1 : wr.cell? ⟨w.heap.size, q, none⟩ = some (.int .u32 (nthW s q : Int)) := (cell_of_row _ _ _ _ _ _ h0).trans (nthW_at s hq4)
      have hx := nthW_lt hs q
      have hnew : sumB s (k + 1) k = UInt8.ofNat (nthW s q / 2 ^ (8 * r)) := by unfold sumB; rw [if_pos (by omega), hq, hr]
      generalize nthW s q = x at c1 hx hnew
      have c2 : wr.cell? ⟨w.heap.size + 1 + 1, k, none⟩ = some (.int .u8 ((sumB s k k).toNat : Int)) := (cell_of_row _ _ _ _ _ _ h2).trans (rowF_at hlt)
      have f2 : wr.frozen? ⟨w.heap.size + 1 + 1, k, none⟩ = false := frozen_of_row _ _ _ _ _ h2
      have i2 : (k : Int) / 4 = (q : Int) := by omega
      have i3 : (k : Int) % 4 = (r : Int) := by omega
      have i4 : (8 * (r : Int)).toNat = 8 * r := by omega
      have HQ := Lib.hid hq
      have HRr := Lib.hid hr
      have H0 := Lib.hid h0
      have H1 := Lib.hid h1
      have H2 := Lib.hid h2
      have HN := Lib.hid hnew
      clear hq hr h0 h1 h2 hnew
      go_wp2
      go_roundw
      case rel =>
        refine ⟨k + 1, by omega, by go_num, ?_, ?_, ?_, hb.setCell (by show w.heap.size ≤ w.heap.size + 1 + 1; omega) _⟩
        · rw [Below.heap_setCell _ _ _ _ (by show w.heap.size ≠ w.heap.size + 1 + 1; omega)]; exact H0.out
        · rw [Below.heap_setCell _ _ _ _ (by show w.heap.size + 1 ≠ w.heap.size + 1 + 1; omega)]; exact H1.out
        · refine (setCell_row H2.out).trans ?_
          rw [rowF_set (g := sumB s (k + 1)) hlt (fun j hj => by unfold sumB; by_cases hjk : j < k; { rw [if_pos hjk, if_pos (by omega)] }; { rw [if_neg hjk, if_neg (by omega)] })]
          rw [HN.out]
          exact congrArg (Value.int .u8) (shr_u64 _ _)
      case measure => simp [intOf]; omega
    · obtain rfl : k = 16 := by omega
      rw [sumB_all, ← HR.out] at h2
      have H1 := Lib.hid h1
      have H2 := Lib.hid h2
      have HB := Lib.hid hb
      clear h0 h1 h2 hb
      go_wp2_with (first | (refine wpList_load_row rfl 37 _ rfl (w.heap.size + 1 + 1) rfl 37 R.toArray (0, 0) _ H2.out Tryd.underlying37 rfl HI.out ?_) | (refine wpList_store_at rfl 37 _ _ rfl (w.heap.size + 1) R rfl rfl 37 _ H1.out ?cb HIL.out HONE.out ?_))
      case cb => simp [HRL.out]
      intro w2 hg2 hgr2
      have hB2 := HB.out.grown hgr2 HB.out.size (fun k hk => by cases hk; omega)
      clear hgr2
      go_wp2
      exact bodyPost_ret (v := .agg R.toArray) (results_cell_row Tryd.results40 _ _ (w.heap.size + 1) 37 _ (0, 0) _ rfl hg2.out Tryd.underlying37 rfl HI.out) rfl ⟨rfl, hB2⟩

namespace Md5
theorem runB_left (a b : List UInt8) (s : St) : ∀ k, 64 * k ≤ a.length → runB (a ++ b) s k = runB a s k
  | 0, _ => rfl
  | k + 1, h => by
    rw [runB, runB, runB_left a b s k (by omega)]
    refine block_cong ?_ _
    rw [List.drop_append_of_le_length (by omega), List.take_append_of_le_length (by rw [List.length_drop]; omega)]
theorem runB_right (a b : List UInt8) (s : St) (n : Nat) (h : a.length = 64 * n) : ∀ k, runB (a ++ b) s (n + k) = runB b (runB a s n) k
  | 0 => runB_left a b s n (by omega)
  | k + 1 => by
    rw [← Nat.add_assoc, runB, runB, runB_right a b s n h k]
    refine block_cong ?_ _
    rw [show 64 * (n + k) = a.length + 64 * k by omega, ← List.drop_drop, List.drop_left]
/-- The sum, in two parts: what lies in whole blocks, and the rest. -/
theorem sum_parts (l : List UInt8) : sum l = bytes (runB (endL (l.drop (l.length / 64 * 64)) (sizeOf64 (l.length % 64)) (l.length * 8 % 18446744073709551616)) (runB (l.take (l.length / 64 * 64)) start (l.length / 64)) (sizeOf64 (l.length % 64) / 64)) := by
  have hd : (l.drop (l.length / 64 * 64)).length = l.length % 64 := by rw [List.length_drop]; omega
  have ht : (l.take (l.length / 64 * 64)).length = 64 * (l.length / 64) := by rw [List.length_take]; omega
  have he := endL_eq (xs := l.drop (l.length / 64 * 64)) (n := l.length) hd.symm
  rw [hd] at he
  have hp : padded l = l.take (l.length / 64 * 64) ++ endL (l.drop (l.length / 64 * 64)) (sizeOf64 (l.length % 64)) (l.length * 8 % 18446744073709551616) := by
    rw [he, padded, ← List.append_assoc, ← List.append_assoc, ← List.append_assoc, List.take_append_drop]
  have hl : (padded l).length / 64 = l.length / 64 + sizeOf64 (l.length % 64) / 64 := by
    rw [hp, List.length_append, ht]
    have : (endL (l.drop (l.length / 64 * 64)) (sizeOf64 (l.length % 64)) (l.length * 8 % 18446744073709551616)).length = sizeOf64 (l.length % 64) := by simp [endL]
    rw [this]
    omega
  rw [sum, hl, blocks_run, hp, runB_right _ _ _ _ ht]
end Md5

/-- What stands in Sum: the sum's row, and the four words, in blocks of their own. -/
structure SA (w : World) (B : Nat) (s : Md5.St) (v : Value) (xs : List UInt8) (wr : World) : Prop where
  z : wr.heap[B]? = some (.cells (List.replicate 16 (.int .u8 0)).toArray 37)
  h : wr.heap[B + 1]? = some (.cells #[uv s.a, uv s.b, uv s.c, uv s.d] 49)
  rd : Rd wr v (xs.map bv)
  tb : TBL wr
  below : Below w.heap.size w wr
  low : w.heap.size ≤ B
section
variable {w : World} {B : Nat} {s : Md5.St} {v : Value} {xs : List UInt8} {wr w' : World}
theorem SA.lt (h : SA w B s v xs wr) : B + 1 < wr.heap.size := (Array.getElem?_eq_some_iff.1 h.h).1
theorem SA.next (h : SA w B s v xs wr) (hb : Below wr.heap.size wr w') : SA w B s v xs w' := by
  have hl := h.lt
  exact ⟨(hb.block _ (by omega)).trans h.z, (hb.block _ hl).trans h.h, h.rd.below hb, h.tb.below hb, h.below.trans (hb.mono h.below.size), h.low⟩
theorem SA.k0 (h : SA w B s v xs wr) : wr.cell? ⟨B + 1, 0, none⟩ = some (.int .u32 (s.a : Int)) := cell_of_row _ _ _ _ _ _ h.h
theorem SA.k1 (h : SA w B s v xs wr) : wr.cell? ⟨B + 1, 1, none⟩ = some (.int .u32 (s.b : Int)) := cell_of_row _ _ _ _ _ _ h.h
theorem SA.k2 (h : SA w B s v xs wr) : wr.cell? ⟨B + 1, 2, none⟩ = some (.int .u32 (s.c : Int)) := cell_of_row _ _ _ _ _ _ h.h
theorem SA.k3 (h : SA w B s v xs wr) : wr.cell? ⟨B + 1, 3, none⟩ = some (.int .u32 (s.d : Int)) := cell_of_row _ _ _ _ _ _ h.h
theorem SA.f0 (h : SA w B s v xs wr) : wr.frozen? ⟨B + 1, 0, none⟩ = false := frozen_of_row _ _ _ _ _ h.h
theorem SA.f1 (h : SA w B s v xs wr) : wr.frozen? ⟨B + 1, 1, none⟩ = false := frozen_of_row _ _ _ _ _ h.h
theorem SA.f2 (h : SA w B s v xs wr) : wr.frozen? ⟨B + 1, 2, none⟩ = false := frozen_of_row _ _ _ _ _ h.h
theorem SA.f3 (h : SA w B s v xs wr) : wr.frozen? ⟨B + 1, 3, none⟩ = false := frozen_of_row _ _ _ _ _ h.h
theorem SA.set4 {t : Md5.St} (h : SA w B s v xs wr) (hv : Rd w v (xs.map bv)) (ht : TBL w) :
    SA w B t v xs ((((wr.setCell ⟨B + 1, 0, none⟩ (.int .u32 (t.a : Int))).setCell ⟨B + 1, 1, none⟩ (.int .u32 (t.b : Int))).setCell ⟨B + 1, 2, none⟩ (.int .u32 (t.c : Int))).setCell ⟨B + 1, 3, none⟩ (.int .u32 (t.d : Int))) := by
  have hl : w.heap.size ≤ B + 1 := Nat.le_succ_of_le h.low
  have hb := (((h.below.setCell (p := ⟨B + 1, 0, none⟩) hl (.int .u32 (t.a : Int))).setCell (p := ⟨B + 1, 1, none⟩) hl (.int .u32 (t.b : Int))).setCell (p := ⟨B + 1, 2, none⟩) hl (.int .u32 (t.c : Int))).setCell (p := ⟨B + 1, 3, none⟩) hl (.int .u32 (t.d : Int))
  refine ⟨?_, ?_, hv.below hb, ht.below hb, hb, h.low⟩
  · rw [Below.heap_setCell _ _ _ _ (by show B ≠ B + 1; omega), Below.heap_setCell _ _ _ _ (by show B ≠ B + 1; omega), Below.heap_setCell _ _ _ _ (by show B ≠ B + 1; omega), Below.heap_setCell _ _ _ _ (by show B ≠ B + 1; omega)]
    exact h.z
  · rw [setCell_row (setCell_row (setCell_row (setCell_row h.h)))]
    rfl
end

theorem all_in {w : World} {B : Nat} {s : Md5.St} {v : Value} {xs ys : List UInt8} {u : Value} (hs : Md5.Ok s) (hy : ys.length ≤ 1048576) (wr : World) (hu : Rd wr u (ys.map bv)) (h : SA w B s v xs wr) :
    Calls Tryd.prog 38 #[.agg #[.int .u32 (s.a : Int), .int .u32 (s.b : Int), .int .u32 (s.c : Int), .int .u32 (s.d : Int)], u] wr fun e w' =>
      e = .returned (.agg #[uv (Md5.runB ys s (ys.length / 64)).a, uv (Md5.runB ys s (ys.length / 64)).b, uv (Md5.runB ys s (ys.length / 64)).c, uv (Md5.runB ys s (ys.length / 64)).d]) ∧ SA w B s v xs w' := by
  refine (mixAll_any s hs u ys wr hu hy h.tb).mono ?_
  rintro e w' ⟨rfl, hb⟩
  exact ⟨rfl, h.next hb⟩

theorem end_in {w : World} {B : Nat} {s : Md5.St} {v : Value} {xs ys : List UInt8} {u : Value} {n : Nat} (hy : ys.length < 64) (hn : n ≤ 1048576) (wr : World) (hu : Rd wr u (ys.map bv)) (h : SA w B s v xs wr) :
    Calls Tryd.prog 39 #[u, .int .i64 (n : Int)] wr fun e w' => ∃ v', e = .returned v' ∧ Rd w' v' ((endL ys (sizeOf64 ys.length) (n * 8 % 18446744073709551616)).map bv) ∧ SA w B s v xs w' := by
  refine (ending_any u ys n wr hu hy hn).mono ?_
  rintro e w' ⟨v', rfl, hr, hb⟩
  exact ⟨v', rfl, hr, h.next hb⟩

set_option maxHeartbeats 1000000 in
theorem sum_any (v : Value) (xs : List UInt8) (w : World) (h : Rd w v (xs.map bv)) (hl : xs.length ≤ 1048576) (ht : TBL w) :
    Calls Tryd.prog 27 #[v] w fun e w' => e = .returned (av (Md5.sum xs)) ∧ Below w.heap.size w w' := by
  obtain ⟨ao, cap, rfl, hcap, hc⟩ := h.form
  obtain ⟨L, hL⟩ : ∃ L, L = xs.length := ⟨_, rfl⟩
  have hsum := Md5.sum_parts xs
  rw [← hL] at hl hcap hc h hsum ⊢
  obtain ⟨m, hm⟩ : ∃ m, m = L / 64 * 64 := ⟨_, rfl⟩
  rw [← hm] at hsum
  have hB : Below w.heap.size w ((w.alloc (.cells (List.replicate 16 (.int .u8 0)).toArray 37)).alloc (.cells #[uv Md5.start.a, uv Md5.start.b, uv Md5.start.c, uv Md5.start.d] 49)) := ((Below.refl _ _).alloc (Nat.le_refl _) _).alloc (by simp) _
  have hSA : SA w w.heap.size Md5.start (.slice ao L cap) xs ((w.alloc (.cells (List.replicate 16 (.int .u8 0)).toArray 37)).alloc (.cells #[uv Md5.start.a, uv Md5.start.b, uv Md5.start.c, uv Md5.start.d] 49)) :=
    ⟨heap_alloc2_old w _ _, heap_alloc2_new w _ _, h.below hB, ht.below hB, hB, Nat.le_refl _⟩
  obtain ⟨w1, hw1⟩ : ∃ w1, w1 = (w.alloc (.cells (List.replicate 16 (.int .u8 0)).toArray 37)).alloc (.cells #[uv Md5.start.a, uv Md5.start.b, uv Md5.start.c, uv Md5.start.d] 49) := ⟨_, rfl⟩
  rw [← hw1] at hSA
  have S1 : SA w w.heap.size Md5.start (.slice ao L cap) xs w1.drew := hSA.next ((Below.refl _ _).drew)
  have e0 : w1.cell? ⟨w.heap.size + 1, 0, none⟩ = some (.int .u32 1732584193) := hSA.k0
  have e1 : w1.cell? ⟨w.heap.size + 1, 1, none⟩ = some (.int .u32 4023233417) := hSA.k1
  have e2 : w1.cell? ⟨w.heap.size + 1, 2, none⟩ = some (.int .u32 2562383102) := hSA.k2
  have e3 : w1.cell? ⟨w.heap.size + 1, 3, none⟩ = some (.int .u32 271733878) := hSA.k3
  have hok0 := Md5.ok_blocks (l := xs) 0
  have hml : (xs.take m).length = m := by rw [List.length_take]; omega
  obtain ⟨s1, hs1⟩ : ∃ s1, s1 = Md5.runB (xs.take m) Md5.start (m / 64) := ⟨_, rfl⟩
  have hok1 : Md5.Ok s1 := by rw [hs1]; exact Md5.ok_run hok0 _
  have C1 : Hid (∀ wr, SA w w.heap.size Md5.start (.slice ao L cap) xs wr → Calls Tryd.prog 38 #[.agg #[.int .u32 1732584193, .int .u32 4023233417, .int .u32 2562383102, .int .u32 271733878], .slice ao m cap] wr fun e w' =>
      e = .returned (.agg #[uv s1.a, uv s1.b, uv s1.c, uv s1.d]) ∧ SA w w.heap.size Md5.start (.slice ao L cap) xs w') := fun wr hA => by
    have := all_in (s := Md5.start) (v := .slice ao L cap) (xs := xs) (ys := xs.take m) (u := .slice ao m cap) hok0 (by rw [hml]; omega) wr (hA.rd.cut hL (by omega)) hA
    rw [hml, ← hs1] at this
    exact this
  rw [show L / 64 = m / 64 by omega, ← hs1] at hsum
  have HSA := Lib.hid hSA
  have HRD := Lib.hid h
  have HTB := Lib.hid ht
  have HS := Lib.hid hsum
  have HL := Lib.hid hL
  have HM := Lib.hid hm
  have HC := Lib.hid hc
  have HW1 := Lib.hid hw1
  have i1 : (L : Int) / 64 * 64 = (m : Int) := by omega
  have i2 : (m : Int) ≤ (L : Int) := by omega
  have i3 : (m : Int) ≤ (cap : Int) := by omega
  have i4 : (0 : Int) ≤ (m : Int) := Int.natCast_nonneg _
  clear hsum hL hm hc hSA hB hs1 h ht hw1
  go_enter Tryd.func27, Tryd.ntmps27
  go_wp2
  show Code.wp _ _ _ _ ((w.alloc (.cells (List.replicate 16 (.int .u8 0)).toArray 37)).alloc (.cells #[uv Md5.start.a, uv Md5.start.b, uv Md5.start.c, uv Md5.start.d] 49))
  rw [← HW1.out]
  clear HW1
  go_region_with (go_at_call 38; refine (C1.out _ (by assumption)).mono ?_; rintro e w3 ⟨rfl, S2⟩; have g0 := S2.k0; have g1 := S2.k1; have g2 := S2.k2; have g3 := S2.k3; have f0 := S2.f0; have f1 := S2.f1; have f2 := S2.f2; have f3 := S2.f3)
  have S3 := S2.set4 (t := s1) HRD.out HTB.out
  generalize ((((w3.setCell ⟨w.heap.size + 1, 0, none⟩ (.int .u32 (s1.a : Int))).setCell ⟨w.heap.size + 1, 1, none⟩ (.int .u32 (s1.b : Int))).setCell ⟨w.heap.size + 1, 2, none⟩ (.int .u32 (s1.c : Int))).setCell ⟨w.heap.size + 1, 3, none⟩ (.int .u32 (s1.d : Int))) = w4 at S3 ⊢
  clear S2 S1 e0 e1 e2 e3 g0 g1 g2 g3 f0 f1 f2 f3 C1
  go_wp2
  have e0 := S3.k0
  have e1 := S3.k1
  have e2 := S3.k2
  have e3 := S3.k3
  have S4 : SA w w.heap.size s1 (.slice ao L cap) xs w4.drew := S3.next ((Below.refl _ _).drew)
  have hdl : (xs.drop m).length = L % 64 := by rw [List.length_drop, ← HL.out, HM.out]; omega
  obtain ⟨E, hE⟩ : ∃ E, E = endL (xs.drop m) (sizeOf64 (L % 64)) (L * 8 % 18446744073709551616) := ⟨_, rfl⟩
  have hEl : E.length = sizeOf64 (L % 64) := by rw [hE]; simp [endL]
  have hE2 : E.length ≤ 128 := by rw [hEl, sizeOf64]; split <;> decide
  have C2 : Hid (∀ wr, SA w w.heap.size s1 (.slice ao L cap) xs wr → Calls Tryd.prog 39 #[.slice (if cap = m then ao else Option.map (fun x => x.add m) ao) (L - m) (cap - m), .int .i64 (L : Int)] wr fun e w' =>
      ∃ v', e = .returned v' ∧ Rd w' v' (E.map bv) ∧ SA w w.heap.size s1 (.slice ao L cap) xs w') := fun wr hA => by
    have := end_in (s := s1) (v := .slice ao L cap) (xs := xs) (ys := xs.drop m) (n := L) (by rw [hdl]; omega) hl wr (hA.rd.tailAny HL.out (by omega)) hA
    rw [hdl, ← hE] at this
    exact this
  obtain ⟨s2, hs2⟩ : ∃ s2, s2 = Md5.runB E s1 (E.length / 64) := ⟨_, rfl⟩
  have hok2 : Md5.Ok s2 := by rw [hs2]; exact Md5.ok_run hok1 _
  have C3 : Hid (∀ wr u, Rd wr u (E.map bv) → SA w w.heap.size s1 (.slice ao L cap) xs wr → Calls Tryd.prog 38 #[.agg #[.int .u32 (s1.a : Int), .int .u32 (s1.b : Int), .int .u32 (s1.c : Int), .int .u32 (s1.d : Int)], u] wr fun e w' =>
      e = .returned (.agg #[uv s2.a, uv s2.b, uv s2.c, uv s2.d]) ∧ SA w w.heap.size s1 (.slice ao L cap) xs w') := fun wr u hu hA => by
    have := all_in (s := s1) (v := .slice ao L cap) (xs := xs) (ys := E) (u := u) hok1 (by omega) wr hu hA
    rw [← hs2] at this
    exact this
  have hsum : Md5.sum xs = Md5.bytes s2 := by rw [HS.out, ← hE, ← hEl, ← hs2]
  have HSUM := Lib.hid hsum
  clear hdl hE hEl hE2 hs2 hsum
  rcases Classical.em (cap = m) with hcm | hcm
  all_goals
    first
      | (rw [if_pos hcm] at C2; have hcm2 := eq_true hcm; have HCM := Lib.hid hcm)
      | (rw [if_neg hcm] at C2; have hcm2 := eq_false hcm; have HCM := Lib.hid hcm)
    clear hcm
  all_goals go_region_with (first | (go_at_call 39; refine (C2.out _ (by assumption)).mono ?_; rintro e w5 ⟨u, rfl, hu, S5⟩; have g0 := S5.k0; have g1 := S5.k1; have g2 := S5.k2; have g3 := S5.k3) | (go_at_call 38; refine (C3.out _ _ (by assumption) (by assumption)).mono ?_; rintro e w6 ⟨rfl, S6⟩; have l0 := S6.k0; have l1 := S6.k1; have l2 := S6.k2; have l3 := S6.k3; have f0 := S6.f0; have f1 := S6.f1; have f2 := S6.f2; have f3 := S6.f3))
  all_goals
    have S7 := S6.set4 (t := s2) HRD.out HTB.out
    generalize ((((w6.setCell ⟨w.heap.size + 1, 0, none⟩ (.int .u32 (s2.a : Int))).setCell ⟨w.heap.size + 1, 1, none⟩ (.int .u32 (s2.b : Int))).setCell ⟨w.heap.size + 1, 2, none⟩ (.int .u32 (s2.c : Int))).setCell ⟨w.heap.size + 1, 3, none⟩ (.int .u32 (s2.d : Int))) = w7 at S7 ⊢
    have m0 := S7.k0
    have m1 := S7.k1
    have m2 := S7.k2
    have m3 := S7.k3
    clear e0 e1 e2 e3 l0 l1 l2 l3 f0 f1 f2 f3 S6
    go_wp2_with fail
    refine (sumOf_any s2 hok2 _).mono ?_
    rintro e w8 ⟨rfl, hb8⟩
    have S8 := S7.next hb8
    clear S7 hb8 m0 m1 m2 m3
    obtain ⟨R, hR⟩ : ∃ R, R = (Md5.bytes s2).map bv := ⟨_, rfl⟩
    have hRl : R.length = 16 := by rw [hR]; simp [Md5.bytes]
    have hone : ∀ v ∈ R, v.oneCell' = true := by rw [hR]; exact bv_cell _
    have HI := Lib.hid (show (Tryd.prog.info? 37).map (·.size) = some R.toArray.size by rw [List.size_toArray, hRl]; kernel_rfl)
    have HIL := Lib.hid (show (Tryd.prog.info? 37).map (·.size) = some R.length by rw [hRl]; kernel_rfl)
    have hav : av (Md5.bytes s2) = .agg R.toArray := by rw [hR]
    rw [hav]
    have HAV := Lib.hid hav
    have HONE := Lib.hid hone
    have HRL := Lib.hid hRl
    have HZ := Lib.hid S8.z
    clear hR hRl hone hav
    go_wp2_with (refine wpList_store_at rfl 37 _ _ rfl w.heap.size R rfl rfl 37 _ HZ.out ?cb HIL.out HONE.out ?_)
    case cb => simp [HRL.out]
    intro w9 hg9 hgr9
    have hB9 := S8.below.grown hgr9 S8.below.size (fun k hk => by cases hk; exact Nat.le_refl _)
    clear hgr9 S8
    go_wp2
    exact bodyPost_ret (v := .agg R.toArray) (results_cell_row Tryd.results27 _ _ w.heap.size 37 _ (0, 0) _ rfl hg9.out Tryd.underlying37 rfl HI.out) rfl ⟨by rw [HSUM.out, HAV.out], hB9⟩
end Go.Proofs.YtjogdflhpciciaaDoor
