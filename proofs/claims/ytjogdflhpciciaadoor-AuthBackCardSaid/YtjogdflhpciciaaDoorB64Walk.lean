/- b64's small functions walked. -/
import Derived.Test.YtjogdflhpciciaaDoorRdB
import Derived.Test.YtjogdflhpciciaaDoorBits
import Derived.Test.YtjogdflhpciciaaDoorB64
import Derived.Test.YtjogdflhpciciaaDoorShelf
namespace Go.Proofs.YtjogdflhpciciaaDoor
open Go.RowKit

theorem value_any (c : UInt8) (w : World) :
    Calls Tryd.prog 34 #[bv c] w fun e w' => e = .returned (.int .i64 (B64.rv c)) ∧ w = w' := by
  unfold bv
  have hc := c.toNat_lt
  go_enter Tryd.func34, Tryd.ntmps34
  go_wp2
  all_goals (go_ret; refine ⟨ret_i ?_, rfl⟩; (try simp only [beq_iff_eq, beq_eq_false_iff_ne, ne_eq] at *); unfold B64.rv; repeat' split; all_goals omega)

theorem valueOf_any (c : UInt8) (w : World) :
    Calls Tryd.prog 46 #[bv c] w fun e w' => e = .returned (.int .i64 (B64.val c)) ∧ w = w' := by
  unfold bv
  have hc := c.toNat_lt
  go_enter Tryd.func46, Tryd.ntmps46
  go_wp2_with (go_at_call 26; refine (Tryd.strings_IndexByte _ _ _).mono ?_; rintro e w' ⟨rfl, rfl⟩)
  go_ret
  refine ⟨ret_i ?_, rfl⟩
  rw [B64.val, Int.ofNat_toNat, Int.max_comm]
  rfl

theorem extract_letters : ∀ n : Fin 64, (⟨B64.letters.toArray⟩ : ByteArray).extract n.val (n.val + 1) = ⟨#[B64.lt n.val]⟩ := by decide +kernel

theorem letter_any (n : Nat) (hn : n < 64) (w : World) :
    Calls Tryd.prog 35 #[.int .i64 (n : Int)] w fun e w' => e = .returned (sv [B64.lt n]) ∧ w = w' := by
  go_enter Tryd.func35, Tryd.ntmps35
  go_wp2
  go_ret
  exact ⟨congrArg (fun s => Ending.returned (.string s)) (extract_letters ⟨n, hn⟩), rfl⟩

/-- Three bytes as values, what lacks being nought. -/
def pad (xs : List UInt8) : List Value := [bv (xs.getD 0 0), bv (xs.getD 1 0), bv (xs.getD 2 0)]
theorem splice_pad {xs : List UInt8} (h3 : xs.length ≤ 3) : splice [Value.int .u8 0, .int .u8 0, .int .u8 0] 0 (xs.map bv) = pad xs := by
  match xs, h3 with
  | [], _ => rfl
  | [a], _ => rfl
  | [a, b], _ => rfl
  | [a, b, c], _ => rfl

theorem mix_set {n row k : Nat} (h : k < 4) {u : Value} (hu : u = bv (B64.lat n row k)) :
    (#[bv (B64.mix n row k 0), bv (B64.mix n row k 1), bv (B64.mix n row k 2), bv (B64.mix n row k 3)] : Array Value).setIfInBounds k u = #[bv (B64.mix n row (k + 1) 0), bv (B64.mix n row (k + 1) 1), bv (B64.mix n row (k + 1) 2), bv (B64.mix n row (k + 1) 3)] := by
  subst hu
  match k, h with
  | 0, _ => rfl
  | 1, _ => rfl
  | 2, _ => rfl
  | 3, _ => rfl

theorem mix_at {n row k : Nat} (h : k < 4) : (#[bv (B64.mix n row k 0), bv (B64.mix n row k 1), bv (B64.mix n row k 2), bv (B64.mix n row k 3)] : Array Value)[k]? = some (.int .u8 61) := by
  match k, h with
  | 0, _ => rfl
  | 1, _ => rfl
  | 2, _ => rfl
  | 3, _ => rfl

theorem lat_bits {n row k : Nat} (hk : k ≤ n) (h3 : n ≤ 3) (hr : row < 16777216) :
    ∃ q : Nat, bits BinOp.and IntKind.i64 ((row : Int) / 2 ^ (18 - 6 * k)) 63 = (q : Int) ∧ q < 64 ∧ B64.letters.getD q 0 = B64.lat n row k := by
  refine ⟨row / 64 ^ (3 - k) % 64, ?_, Nat.mod_lt _ (by decide), ?_⟩
  · have e : (2 : Nat) ^ (18 - 6 * k) = 64 ^ (3 - k) := by
      match k, (show k ≤ 3 from by omega) with
      | 0, _ => rfl
      | 1, _ => rfl
      | 2, _ => rfl
      | 3, _ => rfl
    have e2 : (row : Int) / 2 ^ (18 - 6 * k) = ((row / 64 ^ (3 - k) : Nat) : Int) := by
      rw [← e]; simp
    have hd : row / 64 ^ (3 - k) ≤ row := Nat.div_le_self _ _
    rw [e2]
    generalize row / 64 ^ (3 - k) = z at hd
    rw [show (63 : Int) = 2 ^ 6 - 1 from rfl, mask_i64 6 (by decide) (by omega) (by omega)]
    simp
  · rw [B64.lat, if_pos hk]
    rfl

theorem lettersOf_any (v : Value) (xs : List UInt8) (w : World) (h : Rd w v (xs.map bv)) (h1 : 1 ≤ xs.length) (h3 : xs.length ≤ 3) :
    Calls Tryd.prog 32 #[v] w fun e w' =>
      e = .returned (.agg #[bv (B64.lat xs.length (B64.rowOf xs) 0), bv (B64.lat xs.length (B64.rowOf xs) 1), bv (B64.lat xs.length (B64.rowOf xs) 2), bv (B64.lat xs.length (B64.rowOf xs) 3)]) ∧ Below w.heap.size w w' := by
  obtain ⟨ao, cap, rfl, hcap, hc⟩ := h.form
  obtain ⟨b, o, rfl, hm, hc0⟩ := hc (by omega)
  unfold maxLen at hm
  obtain ⟨n, hn⟩ : ∃ n, n = xs.length := ⟨_, rfl⟩
  obtain ⟨X, hX⟩ : ∃ X, X = xs.map bv := ⟨_, rfl⟩
  have hXl : X.length = n := by rw [hX, List.length_map, hn]
  have hXc : ∀ j u, X[j]? = some u → w.cell? ⟨b, o + j, none⟩ = some u := by
    intro j u hu
    have hj : j < n := by rw [← hXl]; exact (List.getElem?_eq_some_iff.1 hu).1
    rw [hc0 j (by omega), ← hu, hX, List.getElem?_map, List.getElem?_eq_getElem (by omega), List.getD_eq_getElem?_getD, List.getElem?_eq_getElem (by omega)]
    rfl
  have hXb : ∀ u ∈ X, u.oneCell' = true := by rw [hX]; exact bv_cell _
  have hpad : splice [Value.int .u8 0, .int .u8 0, .int .u8 0] 0 X = pad xs := by rw [hX]; exact splice_pad h3
  clear hc hc0 h hX
  rw [← hn] at h1 h3 hcap ⊢
  have HP := Lib.hid hpad
  have HN := Lib.hid hn
  have HXl := Lib.hid hXl
  have HXc := Lib.hid hXc
  have HXb := Lib.hid hXb
  clear hpad hn hXl hXc hXb
  go_enter Tryd.func32, Tryd.ntmps32
  go_wp2_with (with_reducible refine wpList_copy_splice rfl (.tmp 8) (.tmp 9) 29 29 rfl 5 Tryd.underlying29 (by kernel_rfl) (some ⟨w.heap.size + 1, 0, none⟩) (some ⟨b, o, none⟩) 3 3 n cap rfl rfl (w.heap.size + 1) 0 [.int .u8 0, .int .u8 0, .int .u8 0] 40 ?ca X ?cb ?cc ?cd HXb.out (w.heap.size + 1) ((w.alloc (.cells #[.int .u8 0, .int .u8 0, .int .u8 0, .int .u8 0] 39)).alloc (.cells #[.int .u8 0, .int .u8 0, .int .u8 0] 40)) ?ce ?cf ?_)
  case ca =>
    have := heap_alloc_new (w.alloc (.cells #[.int .u8 0, .int .u8 0, .int .u8 0, .int .u8 0] 39)) (.cells #[.int .u8 0, .int .u8 0, .int .u8 0] 40)
    simpa using this
  case cb => rw [HXl.out]; show _ = min _ _; omega
  case cc =>
    intro _ j u hj
    have := HXc.out j u hj
    have hlt : b < w.heap.size := World.block_lt_of_cell? _ _ this
    rw [World.cell?_alloc_past _ _ _ (by simp; omega), World.cell?_alloc_past _ _ _ hlt]
    exact this
  case cd => rw [HXl.out]; show 0 + n ≤ 3; omega
  case ce => exact Below.refl _ _
  case cf => exact Nat.le_refl _
  intro w2 HG hB0
  have hB : Below w.heap.size w w2 := (((Below.refl _ _).alloc (Nat.le_refl _) _).alloc (by simp) _).trans (hB0.mono (Nat.le_succ _))
  have hr2 : w2.heap[w.heap.size]? = some (.cells #[.int .u8 0, .int .u8 0, .int .u8 0, .int .u8 0] 39) := by
    rw [hB0.block _ (Nat.lt_succ_self _), Below.heap_alloc _ _ _ (by simp)]
    exact heap_alloc_new _ _
  have HR2 := Lib.hid hr2
  clear hB0 hr2
  have hg := HG.out
  clear HG
  rw [HP.out] at hg
  rw [HXl.out]
  have hsz : w.heap.size + 1 < w2.heap.size := (Array.getElem?_eq_some_iff.1 hg).1
  have c0 : w2.cell? ⟨w.heap.size + 1, 0, none⟩ = some (.int .u8 ((xs.getD 0 0).toNat : Int)) := by rw [cell_of_row _ _ _ _ _ _ hg]; rfl
  have c1 : w2.cell? ⟨w.heap.size + 1, 1, none⟩ = some (.int .u8 ((xs.getD 1 0).toNat : Int)) := by rw [cell_of_row _ _ _ _ _ _ hg]; rfl
  have c2 : w2.cell? ⟨w.heap.size + 1, 2, none⟩ = some (.int .u8 ((xs.getD 2 0).toNat : Int)) := by rw [cell_of_row _ _ _ _ _ _ hg]; rfl
  clear hg
  obtain ⟨x0, hx0⟩ : ∃ x, x = (xs.getD 0 0).toNat := ⟨_, rfl⟩
  obtain ⟨x1, hx1⟩ : ∃ x, x = (xs.getD 1 0).toNat := ⟨_, rfl⟩
  obtain ⟨x2, hx2⟩ : ∃ x, x = (xs.getD 2 0).toNat := ⟨_, rfl⟩
  have b0 : x0 < 256 := by rw [hx0]; exact UInt8.toNat_lt _
  have b1 : x1 < 256 := by rw [hx1]; exact UInt8.toNat_lt _
  have b2 : x2 < 256 := by rw [hx2]; exact UInt8.toNat_lt _
  have HR := Lib.hid (show B64.rowOf xs = x0 * 65536 + x1 * 256 + x2 by rw [hx0, hx1, hx2]; rfl)
  rw [← hx0] at c0
  rw [← hx1] at c1
  rw [← hx2] at c2
  clear hx0 hx1 hx2
  have o1 : bits BinOp.or IntKind.i64 ((x0 : Int) * 65536) ((x1 : Int) * 256) = (x0 : Int) * 65536 + (x1 : Int) * 256 := or_i64 16 (by omega) (by omega) (by omega) (by omega) (by omega) (by omega)
  have o2 : bits BinOp.or IntKind.i64 ((x0 : Int) * 65536 + (x1 : Int) * 256) (x2 : Int) = ((x0 * 65536 + x1 * 256 + x2 : Nat) : Int) := (or_i64 8 (by omega) (by omega) (by omega) (by omega) (by omega) (by omega)).trans (by omega)
  have hrow : x0 * 65536 + x1 * 256 + x2 < 16777216 := by omega
  generalize x0 * 65536 + x1 * 256 + x2 = row at o2 hrow HR
  go_wp2
  clear o1 o2 c0 c1 c2
  go_loopw [27] (fun i wr => ∃ k : Nat, k ≤ n + 1 ∧ i = .int .i64 k ∧ wr.heap[w2.heap.size]? = some (.cells #[bv (B64.mix n row k 0), bv (B64.mix n row k 1), bv (B64.mix n row k 2), bv (B64.mix n row k 3)] 39) ∧ Below w2.heap.size w2 wr) (fun i _ => n + 1 - (intOf i).toNat)
  case atStart => exact ⟨0, Nat.zero_le _, rfl, heap_alloc_new _ _, (Below.refl _ _).alloc (Nat.le_refl _) _⟩
  case round =>
    obtain ⟨k, hk, rfl, hg, hb⟩ := hrel
    have HG := Lib.hid hg
    by_cases hlt : k < n + 1
    · have hk4 : k < 4 := by omega
      have hc : wr.cell? ⟨w2.heap.size, k, none⟩ = some (.int .u8 61) := (cell_of_row _ _ _ _ _ _ hg).trans (mix_at hk4)
      have hf : wr.frozen? ⟨w2.heap.size, k, none⟩ = false := frozen_of_row _ _ _ _ _ hg
      clear hg
      obtain ⟨q, hq, hq64, hl⟩ := lat_bits (k := k) (by omega) h3 hrow
      have HL := Lib.hid hl
      clear hl
      go_wp2
      go_roundw
      case rel =>
        refine ⟨k + 1, by omega, by go_num, ?_, hb.setCell (Nat.le_refl _) _⟩
        refine (setCell_row HG.out).trans ?_
        rw [mix_set hk4 (congrArg (fun c : UInt8 => Value.int .u8 (c.toNat : Int)) ((byte_at _ q _).trans HL.out))]
      case measure => simp [intOf]; omega
    · obtain rfl : k = n + 1 := by omega
      have d0 : wr.cell? ⟨w2.heap.size, 0, none⟩ = some (.int .u8 ((B64.lat n row 0).toNat : Int)) := by rw [← B64.mix_end]; exact (cell_of_row _ _ _ _ _ _ hg)
      have d1 : wr.cell? ⟨w2.heap.size, 1, none⟩ = some (.int .u8 ((B64.lat n row 1).toNat : Int)) := by rw [← B64.mix_end]; exact (cell_of_row _ _ _ _ _ _ hg)
      have d2 : wr.cell? ⟨w2.heap.size, 2, none⟩ = some (.int .u8 ((B64.lat n row 2).toNat : Int)) := by rw [← B64.mix_end]; exact (cell_of_row _ _ _ _ _ _ hg)
      have d3 : wr.cell? ⟨w2.heap.size, 3, none⟩ = some (.int .u8 ((B64.lat n row 3).toNat : Int)) := by rw [← B64.mix_end]; exact (cell_of_row _ _ _ _ _ _ hg)
      have hr : wr.heap[w.heap.size]? = some (.cells #[.int .u8 0, .int .u8 0, .int .u8 0, .int .u8 0] 39) := (hb.block _ (by omega)).trans HR2.out
      have e0 : wr.cell? ⟨w.heap.size, 0, none⟩ = some (.int .u8 0) := cell_of_row _ _ _ _ _ _ hr
      have e1 : wr.cell? ⟨w.heap.size, 1, none⟩ = some (.int .u8 0) := cell_of_row _ _ _ _ _ _ hr
      have e2 : wr.cell? ⟨w.heap.size, 2, none⟩ = some (.int .u8 0) := cell_of_row _ _ _ _ _ _ hr
      have e3 : wr.cell? ⟨w.heap.size, 3, none⟩ = some (.int .u8 0) := cell_of_row _ _ _ _ _ _ hr
      have f0 : wr.frozen? ⟨w.heap.size, 0, none⟩ = false := frozen_of_row _ _ _ _ _ hr
      have f1 : wr.frozen? ⟨w.heap.size, 1, none⟩ = false := frozen_of_row _ _ _ _ _ hr
      have f2 : wr.frozen? ⟨w.heap.size, 2, none⟩ = false := frozen_of_row _ _ _ _ _ hr
      have f3 : wr.frozen? ⟨w.heap.size, 3, none⟩ = false := frozen_of_row _ _ _ _ _ hr
      clear hg hr
      have HB : Below w.heap.size w wr := hB.trans (hb.mono (by omega))
      have hrw := HR.out
      go_wp2
      refine bodyPost_ret (v := .agg #[bv (B64.lat n row 0), bv (B64.lat n row 1), bv (B64.lat n row 2), bv (B64.lat n row 3)]) (by simp [results, Tryd.results32, go_sem, bv, e0, e1, e2, e3]) rfl ⟨by rw [hrw], ?_⟩
      exact (((HB.setCell (Nat.le_refl _) _).setCell (Nat.le_refl _) _).setCell (Nat.le_refl _) _).setCell (Nat.le_refl _) _

end Go.Proofs.YtjogdflhpciciaaDoor
