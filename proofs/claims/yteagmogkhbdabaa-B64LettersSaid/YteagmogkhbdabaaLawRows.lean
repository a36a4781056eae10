/- The law B64Rows walked. -/
import Derived.Test.YteagmogkhbdabaaB64Law
import Derived.OpenShut
namespace Go.Proofs.Yteagmogkhbdabaa
open Go.RowKit

namespace B64
/-- What the law reads off a letter. -/
theorem lt_read : ∀ n : Fin 64, (65 ≤ (lt n.val).toNat ∧ (lt n.val).toNat ≤ 90 ∧ (lt n.val).toNat = n.val + 65) ∨ (97 ≤ (lt n.val).toNat ∧ (lt n.val).toNat ≤ 122 ∧ (lt n.val).toNat = n.val + 71) ∨
    (48 ≤ (lt n.val).toNat ∧ (lt n.val).toNat ≤ 57 ∧ (lt n.val).toNat + 4 = n.val) ∨ ((lt n.val).toNat = 47 ∧ n.val = 63) ∨ ((lt n.val).toNat = 43 ∧ n.val = 62) := by decide +kernel
end B64

/-- What the first k letters say. -/
def ahead (row k : Nat) : Nat := row / 64 ^ (4 - k)
theorem ahead_step {row k : Nat} (h : k < 4) : ahead row (k + 1) = ahead row k * 64 + row / 64 ^ (3 - k) % 64 := by
  match k, h with
  | 0, _ => simp only [ahead]; omega
  | 1, _ => simp only [ahead]; omega
  | 2, _ => simp only [ahead]; omega
  | 3, _ => simp only [ahead]; omega
theorem ahead_small {row k : Nat} (hr : row < 16777216) : ahead row k < 16777216 := Nat.lt_of_le_of_lt (Nat.div_le_self _ _) hr

theorem lawRows (a b c : Int) (ha : (Lit.int .u8 a).wf = true) (hb : (Lit.int .u8 b).wf = true) (hc : (Lit.int .u8 c).wf = true) (w : World) :
    Calls Try.prog 7 #[.agg #[.int .u8 a, .int .u8 b, .int .u8 c]] w fun e w' => e = .returned (.bool true) ∧ Below w.heap.size w w' := by
  have ba := bounds_u8 ha
  have bb := bounds_u8 hb
  have bc := bounds_u8 hc
  obtain ⟨x, rfl⟩ := Int.eq_ofNat_of_zero_le ba.1
  obtain ⟨y, rfl⟩ := Int.eq_ofNat_of_zero_le bb.1
  obtain ⟨z, rfl⟩ := Int.eq_ofNat_of_zero_le bc.1
  clear ha hb hc
  have bx : x < 256 := by omega
  have bY : y < 256 := by omega
  have bz : z < 256 := by omega
  clear ba bb bc
  have hrd : ∀ w1, Below (w.heap.size + 1) (w.alloc (.cells #[.int .u8 (x : Int), .int .u8 (y : Int), .int .u8 (z : Int)] 33)) w1 → Rd w1 (.slice (some ⟨w.heap.size, 0, none⟩) 3 3) ([UInt8.ofNat x, UInt8.ofNat y, UInt8.ofNat z].map bv) := by
    intro w1 hb
    have h := Rd.made w [UInt8.ofNat x, UInt8.ofNat y, UInt8.ofNat z] 33 (0, 0) 3 rfl (by decide)
    have e : ([UInt8.ofNat x, UInt8.ofNat y, UInt8.ofNat z].map bv).toArray = #[.int .u8 (x : Int), .int .u8 (y : Int), .int .u8 (z : Int)] := by
      simp only [List.map_cons, List.map_nil, bv, UInt8.toNat_ofNat']
      rw [Nat.mod_eq_of_lt bx, Nat.mod_eq_of_lt bY, Nat.mod_eq_of_lt bz]
    rw [e] at h
    exact h.below (hb.mono (by simp))
  obtain ⟨row, hrow⟩ : ∃ row, row = x * 65536 + y * 256 + z := ⟨_, rfl⟩
  have hr : row < 16777216 := by omega
  have hput : B64.put [UInt8.ofNat x, UInt8.ofNat y, UInt8.ofNat z] = [B64.lat 3 row 0, B64.lat 3 row 1, B64.lat 3 row 2, B64.lat 3 row 3] := by
    have e : B64.rowOf [UInt8.ofNat x, UInt8.ofNat y, UInt8.ofNat z] = row := by
      simp only [B64.rowOf, List.getD_cons_zero, List.getD_cons_succ, UInt8.toNat_ofNat']
      rw [Nat.mod_eq_of_lt bx, Nat.mod_eq_of_lt bY, Nat.mod_eq_of_lt bz, hrow]
    simp [B64.put, B64.four, e]
  have HRD := Lib.hid hrd
  clear hrd
  generalize hxs : [UInt8.ofNat x, UInt8.ofNat y, UInt8.ofNat z] = xs at HRD hput
  have hxl : xs.length = 3 := by rw [← hxs]; rfl
  have HXL := Lib.hid hxl
  have HROW := Lib.hid hrow
  clear hxs hxl hrow
  obtain ⟨S, hS⟩ : ∃ S : ByteArray, S = ⟨[B64.lat 3 row 0, B64.lat 3 row 1, B64.lat 3 row 2, B64.lat 3 row 3].toArray⟩ := ⟨_, rfl⟩
  have hsv : sv (B64.put xs) = .string S := by rw [hput, hS]; rfl
  have hSs : S.size = 4 := by rw [hS]; rfl
  have hSa : ∀ k, k < 4 → S.data.toList.getD k 0 = B64.lt (row / 64 ^ (3 - k) % 64) := by
    intro k hk
    rw [hS]
    match k, hk with
    | 0, _ => rfl
    | 1, _ => rfl
    | 2, _ => rfl
    | 3, _ => rfl
  have HSA := Lib.hid hSa
  have HSV := Lib.hid hsv
  clear hput hS hSa hsv
  go_enter Try.func7, Try.ntmps7
  go_wp2_with fail
  refine (shown_any _).mono ?_
  rintro e w1 ⟨rfl, hb1⟩
  have hb1' : Below (w.heap.size + 1) (w.alloc (.cells #[.int .u8 (x : Int), .int .u8 (y : Int), .int .u8 (z : Int)] 33)) w1 := hb1.mono (by simp)
  clear hb1
  go_wp2_with fail
  refine (putb_any _ xs _ (HRD.out _ hb1') (by rw [HXL.out]; decide)).mono ?_
  rintro e w2 ⟨rfl, hb2⟩
  rw [HSV.out]
  have c2 : Below (w.heap.size + 1) (w.alloc (.cells #[.int .u8 (x : Int), .int .u8 (y : Int), .int .u8 (z : Int)] 33)) w2 := hb1'.trans (hb2.mono (by have := hb1'.size; simpa using this))
  clear hb1' hb2
  have HSS := Lib.hid hSs
  go_wp2
  clear hSs
  go_loop [6, 5] (fun i n => ∃ k : Nat, k ≤ 4 ∧ i = .int .i64 k ∧ n = .int .i64 (ahead row k)) (fun i _ => 4 - (intOf i).toNat)
  case atStart => exact ⟨0, Nat.zero_le _, rfl, by have : ahead row 0 = 0 := by { unfold ahead; omega }; rw [this]; rfl⟩
  case round =>
    obtain ⟨k, hk, rfl, rfl⟩ := hrel
    by_cases hlt : k < 4
    · have hv : row / 64 ^ (3 - k) % 64 < 64 := Nat.mod_lt _ (by decide)
      have hSk := HSA.out k hlt
      have hst := ahead_step (row := row) hlt
      have hsm := ahead_small (k := k) hr
      generalize row / 64 ^ (3 - k) % 64 = v at hv hSk hst
      have hrd := B64.lt_read ⟨v, hv⟩
      simp only at hrd
      have hks : k < S.size := by rw [HSS.out]; exact hlt
      have hx : (S[k]'hks).toNat = (B64.lt v).toNat := by rw [byte_at, hSk]
      generalize (B64.lt v).toNat = u at hrd hx
      have HST := Lib.hid hst
      clear hSk hst
      rcases hrd with ⟨r1, r2, r3⟩ | ⟨r1, r2, r3⟩ | ⟨r1, r2, r3⟩ | ⟨rfl, r3⟩ | ⟨rfl, r3⟩
      all_goals
        have H3 := Lib.hid r3
        clear r3
        go_wp2
        go_roundw
        case rel => exact ⟨k + 1, by omega, by go_num, by rw [HST.out]; have := H3.out; go_num⟩
        case measure => simp [intOf]; omega
    · obtain rfl : k = 4 := by omega
      have hn : ((ahead row 4 : Nat) : Int) = (x : Int) * 65536 + (y : Int) * 256 + (z : Int) := by
        have := HROW.out
        unfold ahead
        simp only [Nat.sub_self, Nat.pow_zero, Nat.div_one]
        omega
      have d0 : w2.cell? ⟨w.heap.size, 0, none⟩ = some (.int .u8 (x : Int)) := (c2.cell (by simp)).trans (cell_of_row _ _ _ _ _ _ (heap_alloc_new w _))
      have d1 : w2.cell? ⟨w.heap.size, 1, none⟩ = some (.int .u8 (y : Int)) := (c2.cell (by simp)).trans (cell_of_row _ _ _ _ _ _ (heap_alloc_new w _))
      have d2 : w2.cell? ⟨w.heap.size, 2, none⟩ = some (.int .u8 (z : Int)) := (c2.cell (by simp)).trans (cell_of_row _ _ _ _ _ _ (heap_alloc_new w _))
      go_wp2
      go_ret
      exact ⟨rfl, ((Below.refl _ _).alloc (Nat.le_refl _) _).trans (c2.mono (Nat.le_succ _))⟩
end Go.Proofs.Yteagmogkhbdabaa
