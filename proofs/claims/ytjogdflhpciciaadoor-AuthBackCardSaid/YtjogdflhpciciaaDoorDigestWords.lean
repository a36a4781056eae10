/- digest.wordsOf walked. -/
import Derived.Test.YtjogdflhpciciaaDoorDigestSmall
import Derived.Test.YtjogdflhpciciaaDoorRowW
import Derived.RegionTactic
import Derived.ChangeAlike
namespace Go.Proofs.YtjogdflhpciciaaDoor
open Go.RowKit

/-- A byte of the first i, or nought. -/
def byN (xs : List UInt8) (i j : Nat) : Nat := if j < i then (xs.getD j 0).toNat else 0
/-- What of the k-th word is there when i bytes were taken. -/
def partW (xs : List UInt8) (i k : Nat) : Nat := byN xs i (4 * k) + byN xs i (4 * k + 1) * 256 + byN xs i (4 * k + 2) * 65536 + byN xs i (4 * k + 3) * 16777216
def wordsA (xs : List UInt8) (i : Nat) : List Value := (List.range 16).map fun k => uv (partW xs i k)
def sixteen (xs : List UInt8) : List Value := (List.range 16).map fun k => uv (Md5.word xs (4 * k))

theorem byN_lt (xs : List UInt8) (i j : Nat) : byN xs i j < 256 := by
  unfold byN; split
  · exact UInt8.toNat_lt _
  · decide
theorem byN_yes {xs : List UInt8} {i j : Nat} (h : j < i) : byN xs i j = (xs.getD j 0).toNat := if_pos h
theorem byN_no {xs : List UInt8} {i j : Nat} (h : i ≤ j) : byN xs i j = 0 := if_neg (by omega)
theorem byN_other {xs : List UInt8} {i j : Nat} (h : j ≠ i) : byN xs (i + 1) j = byN xs i j := by
  unfold byN
  by_cases hj : j < i
  · rw [if_pos hj, if_pos (by omega)]
  · rw [if_neg hj, if_neg (by omega)]
theorem partW_zero (xs : List UInt8) (k : Nat) : partW xs 0 k = 0 := by
  unfold partW; rw [byN_no (by omega), byN_no (by omega), byN_no (by omega), byN_no (by omega)]
theorem partW_all (xs : List UInt8) {k : Nat} (h : k < 16) : partW xs 64 k = Md5.word xs (4 * k) := by
  unfold partW Md5.word; rw [byN_yes (by omega), byN_yes (by omega), byN_yes (by omega), byN_yes (by omega)]
theorem partW_other (xs : List UInt8) {i k : Nat} (h : k ≠ i / 4) : partW xs (i + 1) k = partW xs i k := by
  unfold partW; rw [byN_other (by omega), byN_other (by omega), byN_other (by omega), byN_other (by omega)]
theorem partW_step (xs : List UInt8) (q : Nat) {r : Nat} (h : r < 4) : partW xs (4 * q + r) q < 2 ^ (8 * r) ∧ partW xs (4 * q + r + 1) q = partW xs (4 * q + r) q + (xs.getD (4 * q + r) 0).toNat * 2 ^ (8 * r) := by
  have b0 := byN_lt xs (4 * q + r) (4 * q)
  have b1 := byN_lt xs (4 * q + r) (4 * q + 1)
  have b2 := byN_lt xs (4 * q + r) (4 * q + 2)
  unfold partW
  match r, h with
  | 0, _ =>
    rw [byN_no (i := 4 * q + 0) (by omega), byN_no (i := 4 * q + 0) (by omega), byN_no (i := 4 * q + 0) (by omega), byN_no (i := 4 * q + 0) (by omega),
      byN_yes (i := 4 * q + 0 + 1) (by omega), byN_no (i := 4 * q + 0 + 1) (by omega), byN_no (i := 4 * q + 0 + 1) (by omega), byN_no (i := 4 * q + 0 + 1) (by omega)]
    exact ⟨by decide, by simp⟩
  | 1, _ =>
    rw [byN_other (i := 4 * q + 1) (j := 4 * q) (by omega), byN_yes (i := 4 * q + 1 + 1) (j := 4 * q + 1) (by omega), byN_no (i := 4 * q + 1 + 1) (j := 4 * q + 2) (by omega), byN_no (i := 4 * q + 1 + 1) (j := 4 * q + 3) (by omega),
      byN_no (i := 4 * q + 1) (j := 4 * q + 1) (by omega), byN_no (i := 4 * q + 1) (j := 4 * q + 2) (by omega), byN_no (i := 4 * q + 1) (j := 4 * q + 3) (by omega)]
    exact ⟨by omega, by omega⟩
  | 2, _ =>
    rw [byN_other (i := 4 * q + 2) (j := 4 * q) (by omega), byN_other (i := 4 * q + 2) (j := 4 * q + 1) (by omega), byN_yes (i := 4 * q + 2 + 1) (j := 4 * q + 2) (by omega), byN_no (i := 4 * q + 2 + 1) (j := 4 * q + 3) (by omega),
      byN_no (i := 4 * q + 2) (j := 4 * q + 2) (by omega), byN_no (i := 4 * q + 2) (j := 4 * q + 3) (by omega)]
    exact ⟨by omega, by omega⟩
  | 3, _ =>
    rw [byN_other (i := 4 * q + 3) (j := 4 * q) (by omega), byN_other (i := 4 * q + 3) (j := 4 * q + 1) (by omega), byN_other (i := 4 * q + 3) (j := 4 * q + 2) (by omega), byN_yes (i := 4 * q + 3 + 1) (j := 4 * q + 3) (by omega),
      byN_no (i := 4 * q + 3) (j := 4 * q + 3) (by omega)]
    exact ⟨by omega, by omega⟩
theorem partW_lt (xs : List UInt8) (i k : Nat) : partW xs i k < 4294967296 := by
  have b0 := byN_lt xs i (4 * k)
  have b1 := byN_lt xs i (4 * k + 1)
  have b2 := byN_lt xs i (4 * k + 2)
  have b3 := byN_lt xs i (4 * k + 3)
  unfold partW; omega
theorem word_lt (xs : List UInt8) (p : Nat) : Md5.word xs p < 4294967296 := by
  have b0 : (xs.getD p 0).toNat < 256 := UInt8.toNat_lt _
  have b1 : (xs.getD (p + 1) 0).toNat < 256 := UInt8.toNat_lt _
  have b2 : (xs.getD (p + 2) 0).toNat < 256 := UInt8.toNat_lt _
  have b3 : (xs.getD (p + 3) 0).toNat < 256 := UInt8.toNat_lt _
  unfold Md5.word
  generalize (xs.getD p 0).toNat = x0 at *
  generalize (xs.getD (p + 1) 0).toNat = x1 at *
  generalize (xs.getD (p + 2) 0).toNat = x2 at *
  generalize (xs.getD (p + 3) 0).toNat = x3 at *
  omega

theorem wordsA_at (xs : List UInt8) (i : Nat) {k : Nat} (h : k < 16) : (wordsA xs i).toArray[k]? = some (.int .u32 (partW xs i k : Int)) := by
  simp [wordsA, h]
/-- A row of cells given by a function, one cell stored. -/
theorem range_set {f g : Nat → Value} {n q : Nat} (hq : q < n) (h : ∀ k, k ≠ q → f k = g k) : ((List.range n).map f).toArray.setIfInBounds q (g q) = ((List.range n).map g).toArray := by
  rw [List.setIfInBounds_toArray]
  congr 1
  apply List.ext_getElem?
  intro j
  rw [List.getElem?_set, List.getElem?_map, List.getElem?_map]
  by_cases hj : q = j
  · subst hj
    rw [if_pos rfl, if_pos (by simpa using hq), List.getElem?_range hq]
    rfl
  · rw [if_neg hj]
    cases hr : (List.range n)[j]? with
    | none => rfl
    | some m =>
      have : m = j := by
        obtain ⟨h1, h2⟩ := List.getElem?_eq_some_iff.1 hr
        rw [← h2, List.getElem_range]
      subst this
      simp only [Option.map_some]
      rw [h m (fun e => hj e.symm)]
theorem wordsA_set (xs : List UInt8) {i q : Nat} (hq : i / 4 = q) (h : q < 16) {u : Value} (hu : u = uv (partW xs (i + 1) q)) : (wordsA xs i).toArray.setIfInBounds q u = (wordsA xs (i + 1)).toArray := by
  subst hu
  exact range_set (f := fun k => uv (partW xs i k)) (g := fun k => uv (partW xs (i + 1) k)) h fun k hk => congrArg uv (partW_other xs (fun e => hk (e.trans hq))).symm
theorem wordsA_zero (xs : List UInt8) : wordsA xs 0 = List.replicate 16 (.int .u32 0) := by
  simp only [wordsA, partW_zero]
  rfl
theorem wordsA_all (xs : List UInt8) : wordsA xs 64 = sixteen xs := by
  unfold wordsA sixteen
  exact List.map_congr_left fun k hk => by rw [partW_all xs (by simpa using hk)]

theorem or_u32 (i : Nat) {x y : Nat} (hx : x < 2 ^ i) (hy : y % 2 ^ i = 0) (hx1 : x < 4294967296) (hy1 : y < 4294967296) : bits .or .u32 (x : Int) (y : Int) = ((x + y : Nat) : Int) := by
  rw [u32_or_nat _ _ hx1 hy1, Nat.or_comm]
  have e : y = 2 ^ i * (y / 2 ^ i) := by have := Nat.div_add_mod y (2 ^ i); omega
  rw [e, ← Nat.two_pow_add_eq_or_of_lt hx (y / 2 ^ i)]
  congr 1
  omega

theorem wordsOf_any (v : Value) (xs : List UInt8) (w : World) (h : Rd w v (xs.map bv)) (hs : xs.length = 64) :
    Calls Tryd.prog 52 #[v] w fun e w' => e = .returned (.agg (sixteen xs).toArray) ∧ Below w.heap.size w w' := by
  obtain ⟨ao, cap, rfl, hcap, hc⟩ := h.form
  obtain ⟨b, o, rfl, hm, hc⟩ := hc (by omega)
  rw [hs] at hcap hc ⊢
  unfold maxLen at hm
  have HC := Lib.hid hc
  clear hc h
  go_enter Tryd.func52, Tryd.ntmps52
  go_wp2
  go_loopw [5] (fun i wr => ∃ k : Nat, k ≤ 64 ∧ i = .int .i64 k ∧ wr.heap[w.heap.size]? = some (.cells (List.replicate 16 (.int .u32 0)).toArray 67) ∧ wr.heap[w.heap.size + 1]? = some (.cells (wordsA xs k).toArray 67) ∧ Below w.heap.size w wr) (fun i _ => 64 - (intOf i).toNat)
  case atStart =>
    refine ⟨0, by omega, rfl, ?_, ?_, ?_⟩
    · exact heap_alloc2_old w _ _
    · rw [wordsA_zero]; exact heap_alloc2_new w _ _
    · exact ((Below.refl _ _).alloc (Nat.le_refl _) _).alloc (by simp) _
  case round =>
    obtain ⟨k, hk, rfl, hr, hg, hb⟩ := hrel
    by_cases hlt : k < 64
    · obtain ⟨q, r, hkq, hr4⟩ : ∃ q r, k = 4 * q + r ∧ r < 4 := ⟨k / 4, k % 4, by omega, by omega⟩
      have hq16 : q < 16 := by omega
      have hc := (HC.out k hlt)
      have hc : wr.cell? ⟨b, o + k, none⟩ = some (bv (xs.getD k 0)) := (hb.cell (World.block_lt_of_cell? w _ hc)).trans hc
      unfold bv at hc
      have hx := (xs.getD k 0).toNat_lt
      obtain ⟨p1, p2⟩ := partW_step xs q hr4
      rw [← hkq] at p1 p2
      have p3 := partW_lt xs k q
      have p4 := partW_lt xs (k + 1) q
      generalize hX : (xs.getD k 0).toNat = x at hc hx p2
      have d1 : wr.cell? ⟨w.heap.size + 1, q, none⟩ = some (.int .u32 (partW xs k q : Int)) := (cell_of_row _ _ _ _ _ _ hg).trans (wordsA_at xs k hq16)
      have f1 : wr.frozen? ⟨w.heap.size + 1, q, none⟩ = false := frozen_of_row _ _ _ _ _ hg
      have hor : bits BinOp.or IntKind.u32 (partW xs k q : Int) ((x : Int) * 2 ^ (8 * r) % 4294967296) = ((partW xs (k + 1) q : Nat) : Int) := by
        have e : (x : Int) * 2 ^ (8 * r) % 4294967296 = ((x * 2 ^ (8 * r) : Nat) : Int) := by
          have hlt : x * 2 ^ (8 * r) < 4294967296 := by omega
          have e2 : (x : Int) * 2 ^ (8 * r) % 4294967296 = ((x * 2 ^ (8 * r) % 4294967296 : Nat) : Int) := by simp
          rw [e2, Nat.mod_eq_of_lt hlt]
        rw [e, or_u32 (8 * r) p1 (by simp) p3 (by omega), p2]
      have hq4 : (k : Int) / 4 = (q : Int) := by omega
      have hr4' : (k : Int) % 4 = (r : Int) := by omega
      have i0 : (0 : Int) ≤ (k : Int) := Int.natCast_nonneg _
      have i1 : (k : Int) < 64 := by omega
      have i2 : (0 : Int) ≤ (q : Int) := Int.natCast_nonneg _
      have i3 : (q : Int) < 16 := by omega
      have i4 : (0 : Int) ≤ 8 * (r : Int) := by omega
      have i5 : IntKind.i64.wrap (8 * (r : Int)) = 8 * (r : Int) := wraps_i64 _ (by omega) (by omega)
      have i6 : (8 * (r : Int)).toNat = 8 * r := by omega
      have HG := Lib.hid hg
      have HK := Lib.hid hkq
      clear hg hkq hX p2
      go_wp2
      go_region
      go_wp2
      go_roundw
      case rel =>
        refine ⟨k + 1, by omega, by go_num, ?_, ?_, (hb.setCell (Nat.le_succ _) _).drew⟩
        · show (wr.setCell ⟨w.heap.size + 1, q, none⟩ _).heap[w.heap.size]? = _
          rw [Below.heap_setCell _ _ _ _ (by show w.heap.size ≠ w.heap.size + 1; omega)]
          exact hr
        · show (wr.setCell ⟨w.heap.size + 1, q, none⟩ _).heap[w.heap.size + 1]? = _
          rw [setCell_row HG.out, wordsA_set xs (by have := HK.out; omega) hq16 rfl]
      case measure => simp [intOf]; omega
    · obtain rfl : k = 64 := by omega
      rw [wordsA_all] at hg
      have HG := Lib.hid hg
      have HR := Lib.hid hr
      have HB := Lib.hid hb
      clear hg hr hb HC
      have h16 : ((sixteen xs).toArray).size = 16 := by simp [sixteen]
      have H16 := Lib.hid h16
      clear h16
      have hi16 : (Tryd.prog.info? 67).map (·.size) = some (sixteen xs).toArray.size := by rw [H16.out]; kernel_rfl
      have hl16 : (sixteen xs).length = 16 := by simp [sixteen]
      have hi16l : (Tryd.prog.info? 67).map (·.size) = some (sixteen xs).length := by rw [hl16]; kernel_rfl
      have hone : ∀ v ∈ sixteen xs, v.oneCell' = true := by intro v hv; obtain ⟨k, _, rfl⟩ := List.mem_map.1 hv; rfl
      have HL16 := Lib.hid hl16
      have HI := Lib.hid hi16
      have HIL := Lib.hid hi16l
      have HONE := Lib.hid hone
      clear hi16 hl16 hi16l hone
      go_wp2_with (first | (refine wpList_load_row rfl 67 _ rfl (w.heap.size + 1) rfl 67 (sixteen xs).toArray (0, 0) _ HG.out Tryd.underlying67 rfl HI.out ?_) | (refine wpList_store_at rfl 67 _ _ rfl w.heap.size (sixteen xs) rfl rfl 67 _ HR.out ?cb HIL.out HONE.out ?_))
      case cb => simp [HL16.out]
      intro w2 hg2 hgr2
      have hB2 := HB.out.grown hgr2 HB.out.size (fun k hk => by cases hk; exact Nat.le_refl _)
      clear hgr2
      go_wp2
      exact bodyPost_ret (v := .agg (sixteen xs).toArray) (results_cell_row Tryd.results52 _ _ w.heap.size 67 _ (0, 0) _ rfl hg2.out Tryd.underlying67 rfl HI.out) rfl ⟨rfl, hB2⟩
end Go.Proofs.YtjogdflhpciciaaDoor
