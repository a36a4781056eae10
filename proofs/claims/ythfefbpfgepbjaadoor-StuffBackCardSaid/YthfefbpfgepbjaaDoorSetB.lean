/- The library's set of bytes (bytes.makeASCIISet, contains) and bytes.IndexAny of a long row, walked over any program that bears these functions (so that the walk does not open the set's 256 cells). -/
import Derived.Test.YthfefbpfgepbjaaDoorRd
import Derived.Shelf.Strings.AsciiSet
import Derived.Lib.IndexAny
namespace Go.Proofs.YthfefbpfgepbjaaDoor
open Go.RowKit Go.Lib

structure LB (P : Program) : Prop where
  mixed : P.follows .mixedOrders = true
  fbe : P.funcs[(26 : Nat)]? = some Tryd.f26
  fsh : P.funcs[(33 : Nat)]? = some Tryd.f33
  fmk : P.funcs[(34 : Nat)]? = some Tryd.f34
  fct : P.funcs[(35 : Nat)]? = some Tryd.f35
  t0 : P.underlying 0 = some (TypeDesc.tuple #[])
  a0 : ∀ w, (isAgg 0).run P w = .ok false w
  z0 : ∀ w, (Go.sizeOf 0).run P w = .ok 1 w
  v0 : ∀ w, (zeroValue 0).run P w = .ok (Value.tuple #[]) w
  t3 : P.underlying 3 = some (TypeDesc.int IntKind.i64)
  a3 : ∀ w, (isAgg 3).run P w = .ok false w
  z3 : ∀ w, (Go.sizeOf 3).run P w = .ok 1 w
  v3 : ∀ w, (zeroValue 3).run P w = .ok (Value.int IntKind.i64 0) w
  t4 : P.underlying 4 = some TypeDesc.bool
  a4 : ∀ w, (isAgg 4).run P w = .ok false w
  z4 : ∀ w, (Go.sizeOf 4).run P w = .ok 1 w
  v4 : ∀ w, (zeroValue 4).run P w = .ok (Value.bool false) w
  t5 : P.underlying 5 = some (TypeDesc.int IntKind.u8)
  a5 : ∀ w, (isAgg 5).run P w = .ok false w
  z5 : ∀ w, (Go.sizeOf 5).run P w = .ok 1 w
  v5 : ∀ w, (zeroValue 5).run P w = .ok (Value.int IntKind.u8 0) w
  t9 : P.underlying 9 = some TypeDesc.string
  a9 : ∀ w, (isAgg 9).run P w = .ok false w
  z9 : ∀ w, (Go.sizeOf 9).run P w = .ok 1 w
  v9 : ∀ w, (zeroValue 9).run P w = .ok (Value.string { data := #[] }) w
  t21 : P.underlying 21 = some (TypeDesc.int IntKind.i32)
  a21 : ∀ w, (isAgg 21).run P w = .ok false w
  z21 : ∀ w, (Go.sizeOf 21).run P w = .ok 1 w
  v21 : ∀ w, (zeroValue 21).run P w = .ok (Value.int IntKind.i32 0) w
  t26 : P.underlying 22 = some (TypeDesc.slice 5)
  a26 : ∀ w, (isAgg 22).run P w = .ok false w
  z26 : ∀ w, (Go.sizeOf 22).run P w = .ok 1 w
  v26 : ∀ w, (zeroValue 22).run P w = .ok (Value.slice none 0 0) w
  tS : P.underlying 58 = some (TypeDesc.array 256 4)
  aS : ∀ w, (isAgg 58).run P w = .ok true w
  zS : ∀ w, (Go.sizeOf 58).run P w = .ok 256 w
  iS : (P.info? 58).map (fun i => (i.zero, i.size)) = some (some (.agg (Array.replicate 256 (.bool false))), 256)
theorem lb : LB Tryd.prog := {
  mixed := by kernel_rfl
  fbe := Tryd.func26
  fsh := Tryd.func33
  fmk := Tryd.func34
  fct := Tryd.func35
  t0 := Tryd.underlying0
  a0 := Tryd.isAgg0
  z0 := Tryd.sizeOf0
  v0 := Tryd.zeroValue0
  t3 := Tryd.underlying3
  a3 := Tryd.isAgg3
  z3 := Tryd.sizeOf3
  v3 := Tryd.zeroValue3
  t4 := Tryd.underlying4
  a4 := Tryd.isAgg4
  z4 := Tryd.sizeOf4
  v4 := Tryd.zeroValue4
  t5 := Tryd.underlying5
  a5 := Tryd.isAgg5
  z5 := Tryd.sizeOf5
  v5 := Tryd.zeroValue5
  t9 := Tryd.underlying9
  a9 := Tryd.isAgg9
  z9 := Tryd.sizeOf9
  v9 := Tryd.zeroValue9
  t21 := Tryd.underlying21
  a21 := Tryd.isAgg21
  z21 := Tryd.sizeOf21
  v21 := Tryd.zeroValue21
  t26 := Tryd.underlying22
  a26 := Tryd.isAgg22
  z26 := Tryd.sizeOf22
  v26 := Tryd.zeroValue22
  tS := Tryd.underlying58
  aS := Tryd.isAgg58
  zS := Tryd.sizeOf58
  iS := by kernel_rfl }

section
variable {P : Program}
set_option maxHeartbeats 1000000 in
theorem bShould (L : LB P) (n : Int) (w : World) :
    Calls P 33 #[.int .i64 n] w fun e w' => e = .returned (.bool (decide (8 < n))) ∧ w' = w := by
  have t0 := L.t0; have a0 := L.a0; have z0 := L.z0; have v0 := L.v0
  have t3 := L.t3; have a3 := L.a3; have z3 := L.z3; have v3 := L.v3
  have t4 := L.t4; have a4 := L.a4; have z4 := L.z4; have v4 := L.v4
  have t5 := L.t5; have a5 := L.a5; have z5 := L.z5; have v5 := L.v5
  have t9 := L.t9; have a9 := L.a9; have z9 := L.z9; have v9 := L.v9
  have t21 := L.t21; have a21 := L.a21; have z21 := L.z21; have v21 := L.v21
  have t26 := L.t26; have a26 := L.a26; have z26 := L.z26; have v26 := L.v26
  go_enter L.fsh, Tryd.ntmps33
  go_wp2
  go_ret
  exact ⟨rfl, rfl⟩

set_option maxHeartbeats 4000000 in
set_option maxRecDepth 1000000 in
theorem bMake (L : LB P) (chars : ByteArray) (w : World) (hs : chars.size < 4294967281)
    (hascii : ∀ (j : Nat) b, chars.data.toList[j]? = some b → b.toNat < 128) :
    Calls P 34 #[.string chars] w fun e w' => e = .returned (.tuple #[.agg (Lib.setCells chars.data.toList), .bool true]) ∧ w' = w.alloc (.cells (Lib.setCells chars.data.toList) 58) := by
  have hvS := (zero_of_info L.iS).1
  have hiS := (zero_of_info L.iS).2
  have HA : Aside (∀ (j : Nat) b, chars.data.toList[j]? = some b → b.toNat < 128) := hascii
  clear hascii
  have t0 := L.t0; have a0 := L.a0; have z0 := L.z0; have v0 := L.v0
  have t3 := L.t3; have a3 := L.a3; have z3 := L.z3; have v3 := L.v3
  have t4 := L.t4; have a4 := L.a4; have z4 := L.z4; have v4 := L.v4
  have t5 := L.t5; have a5 := L.a5; have z5 := L.z5; have v5 := L.v5
  have t9 := L.t9; have a9 := L.a9; have z9 := L.z9; have v9 := L.v9
  have t21 := L.t21; have a21 := L.a21; have z21 := L.z21; have v21 := L.v21
  have t26 := L.t26; have a26 := L.a26; have z26 := L.z26; have v26 := L.v26
  have tS := L.tS
  go_enter L.fmk, Tryd.ntmps34
  go_wp2
  rw [← Lib.setCells_nil]
  go_loopg [4] chars.size (fun g s4 wx => ∃ i : Nat, i + g = chars.size ∧ s4 = .int .i64 i ∧ wx = w.alloc (.cells (Lib.setCells (chars.data.toList.take i)) 58))
  case atStart => exact ⟨0, by omega, rfl, rfl⟩
  case round =>
    obtain ⟨i, hig, rfl, rfl⟩ := hrel
    cases gk with
    | zero =>
      obtain rfl : i = chars.size := by omega
      have hiz : ¬ ((chars.size : Int) < (chars.size : Int)) := by omega
      rw [show chars.data.toList.take chars.size = chars.data.toList from List.take_of_length_le (by rw [← Lib.size_eq]; exact Nat.le_refl _)]
      have hld := run_loadVar_new (P := P) w 58 (Lib.setCells chars.data.toList) 256 4 L.tS (by rw [Lib.setCells_size]; exact hiS)
      have hsz := Lib.setCells_size chars.data.toList
      have hlc := run_loadCellsFrom_new (P := P) w 58 (Lib.setCells chars.data.toList) 256 hsz
      have hsc := run_storeCells_new (P := P) w 58 (Lib.setCells chars.data.toList) (Lib.setCells chars.data.toList) (by rw [hsz]; exact hiS) rfl (Lib.setCells_one _)
      go_wp2
      simp only [L.aS, L.zS, Result.andThen, ↓reduceIte, hlc]
      rw [Oper.upon_value]
      go_wp2
      simp only [L.zS, Result.andThen, ↓reduceIte, hsc]
      rw [Oper.upon_skip]
      go_wp2
      (try simp only [Exit.inBlock, Exit.then])
      refine bodyPost_ret (v := .tuple #[.agg (Lib.setCells chars.data.toList), .bool true]) ?_ rfl ⟨rfl, rfl⟩
      rw [results_cell_tmp rfl]
      simp [asAddr, Result.andThen, hld]
    | succ g =>
      have hi : i < chars.size := by omega
      have hiz : (i : Int) < (chars.size : Int) := by omega
      obtain ⟨x, hx⟩ : ∃ x : UInt8, chars[i]'hi = x := ⟨_, rfl⟩
      have hxl : chars.data.toList[i]? = some x := by rw [← hx]; exact Lib.data_getElem? chars i hi
      have hx128 : ¬ ((128 : Int) ≤ (x.toNat : Int)) := by have := HA.out i x hxl; omega
      have hx256 : (x.toNat : Int) < 256 := by have := HA.out i x hxl; omega
      have hcell := Lib.setCells_at (chars.data.toList.take i) x
      have Hx : Aside (chars.data.toList[i]? = some x) := hxl
      clear hxl
      go_wp2
      go_roundg g
      case measure => omega
      case rel => exact ⟨i + 1, by omega, by first | rfl | simp, by rw [List.take_add_one, Hx.out]; simp only [Option.toList]; rw [Lib.setCells_snoc]⟩

set_option maxHeartbeats 2000000 in
set_option maxRecDepth 1000000 in
theorem bContains (L : LB P) (b : Nat) (x : UInt8) (v : Bool) (w : World) (hc : w.cell? ⟨b, x.toNat, none⟩ = some (.bool v)) :
    Calls P 35 #[.pointer (some ⟨b, 0, none⟩), .int .u8 x.toNat] w fun e w' => e = .returned (.bool v) ∧ w' = w := by
  have hx256 : (x.toNat : Int) < 256 := by have := UInt8.toNat_lt x; omega
  have t0 := L.t0; have a0 := L.a0; have z0 := L.z0; have v0 := L.v0
  have t3 := L.t3; have a3 := L.a3; have z3 := L.z3; have v3 := L.v3
  have t4 := L.t4; have a4 := L.a4; have z4 := L.z4; have v4 := L.v4
  have t5 := L.t5; have a5 := L.a5; have z5 := L.z5; have v5 := L.v5
  have t9 := L.t9; have a9 := L.a9; have z9 := L.z9; have v9 := L.v9
  have t21 := L.t21; have a21 := L.a21; have z21 := L.z21; have v21 := L.v21
  have t26 := L.t26; have a26 := L.a26; have z26 := L.z26; have v26 := L.v26
  have tS := L.tS
  go_enter L.fct, Tryd.ntmps35
  go_wp2
  go_ret
  exact ⟨rfl, rfl⟩

set_option maxHeartbeats 8000000 in
set_option maxRecDepth 1000000 in
/-- 'bytes.IndexAny' of more than eight bytes. -/
theorem bIndexLong (L : LB P) (b o n cap : Nat) (xs : List UInt8) (chars : ByteArray) (w : World) (hn : n = xs.length) (hx : ∀ j, j < n → w.cell? ⟨b, o + j, none⟩ = some (.int .u8 ((xs.getD j 0).toNat : Int))) (h2 : 2 ≤ chars.size) (h8 : 8 < n) (hs : n < 4294967281) (hcs : chars.size < 4294967281) (hnc : n ≤ cap)
    (hascii : ∀ (j : Nat) b, chars.data.toList[j]? = some b → b.toNat < 128) :
    Calls P 26 #[.slice (some ⟨b, o, none⟩) n cap, .string chars] w fun e w' => e = .returned (.int .i64 (Lib.indexAny xs chars.data.toList)) ∧ Below w.heap.size w w' := by
  have hiS := (zero_of_info L.iS).2
  have hvS := (zero_of_info L.iS).1
  have hM := bMake L chars w hcs hascii
  clear hascii
  have hemp : chars.toList.isEmpty = false := by
    rw [Lib.toList_data]
    cases h : chars.data.toList with
    | nil => have := Lib.size_eq chars; rw [h, List.length_nil] at this; omega
    | cons _ _ => rfl
  have hn1 : ((chars.size : Int) == 1) = false := beq_eq_false_iff_ne.2 (by omega)
  have hl1 : ((n : Int) == 1) = false := beq_eq_false_iff_ne.2 (by omega)
  have h8z : decide ((8 : Int) < (n : Int)) = true := decide_eq_true (by omega)
  obtain ⟨w2, hw2⟩ : ∃ w2, w2 = ((w.alloc (.cells (Lib.setCells chars.data.toList) 58)).alloc (.cells (Lib.setCells chars.data.toList) 58)) := ⟨_, rfl⟩
  have hsc : (storeCells ⟨w.heap.size + 1, 0, none⟩ (Lib.setCells chars.data.toList).toList 0).run P ((w.alloc (.cells (Lib.setCells chars.data.toList) 58)).alloc (.cells (Array.replicate 256 (.bool false)) 58)) = .ok () w2 := by
    have := run_storeCells_new (P := P) (w.alloc (.cells (Lib.setCells chars.data.toList) 58)) 58 (Array.replicate 256 (.bool false)) (Lib.setCells chars.data.toList) (by rw [Lib.setCells_size]; exact hiS) (by rw [Lib.setCells_size, Array.size_replicate]) (Lib.setCells_one _)
    rw [hw2]
    simpa using this
  have hsz := Lib.setCells_size chars.data.toList
  have hcellAt : ∀ x : UInt8, w2.cell? ⟨w.heap.size + 1, x.toNat, none⟩ = some (.bool (chars.data.toList.contains x)) := fun x => by
    rw [hw2, World.cell?_alloc_at _ _ _ _ (by simp), Lib.setCells_at]
  have hb : Below w.heap.size w w2 := by
    rw [hw2]
    exact ((Below.refl _ _).alloc (Nat.le_refl _) _).alloc (by simp) _
  have hx2 : ∀ j, j < n → w2.cell? ⟨b, o + j, none⟩ = some (.int .u8 ((xs.getD j 0).toNat : Int)) := fun j hj => (hb.cell (World.block_lt_of_cell? w _ (hx j hj))).trans (hx j hj)
  have HC := Lib.hid hcellAt
  have HX := Lib.hid hx2
  have HN := Lib.hid hn
  have HB := Lib.hid hb
  clear hcellAt hx hx2 hn hb hw2
  have t0 := L.t0; have a0 := L.a0; have z0 := L.z0; have v0 := L.v0
  have t3 := L.t3; have a3 := L.a3; have z3 := L.z3; have v3 := L.v3
  have t4 := L.t4; have a4 := L.a4; have z4 := L.z4; have v4 := L.v4
  have t5 := L.t5; have a5 := L.a5; have z5 := L.z5; have v5 := L.v5
  have t9 := L.t9; have a9 := L.a9; have z9 := L.z9; have v9 := L.v9
  have t21 := L.t21; have a21 := L.a21; have z21 := L.z21; have v21 := L.v21
  have t26 := L.t26; have a26 := L.a26; have z26 := L.z26; have v26 := L.v26
  have tS := L.tS
  have e1 : ∀ args w, (callFunc 33 args).run P w = .ok (.enter 33 args) w := enters_of L.fsh (by kernel_rfl) rfl
  have e2 : ∀ args w, (callFunc 34 args).run P w = .ok (.enter 34 args) w := enters_of L.fmk (by kernel_rfl) rfl
  have e3 : ∀ args w, (callFunc 35 args).run P w = .ok (.enter 35 args) w := enters_of L.fct (by kernel_rfl) rfl
  go_enter L.fbe, Tryd.ntmps26
  go_wp2_with (first
    | (go_at_fn 33; refine (bShould L _ _).mono ?_; rintro e w' ⟨rfl, hw⟩; rw [hw, h8z])
    | (go_at_fn 34; refine hM.mono ?_; rintro e w' ⟨rfl, hw⟩; rw [hw]))
  simp only [L.zS, Result.andThen, ↓reduceIte, hsc]
  rw [Oper.upon_skip]
  go_wp2
  clear hM hsc
  go_loopg [62] n (fun g s62 wx => ∃ i : Nat, i + g = n ∧ s62 = .int .i64 i ∧ wx = w2 ∧ Lib.NoAny xs chars.data.toList i)
  case atStart => exact ⟨0, by omega, rfl, rfl, Lib.NoAny.zero _ _⟩
  case round =>
    obtain ⟨i, hig, rfl, rfl, hno⟩ := hrel
    have HNO := Lib.hid hno
    clear hno
    cases gk with
    | zero =>
      obtain rfl : i = n := by omega
      have hiz : ¬ ((i : Int) < (i : Int)) := by omega
      go_wp2
      go_ret
      refine ⟨?_, HB.out⟩
      rw [Lib.indexAny_none (by rw [← HN.out]; exact HNO.out)]
      rfl
    | succ g =>
      have hi : i < n := by omega
      have hiz : (i : Int) < (n : Int) := by omega
      have hxc := HX.out i hi
      have hxl : xs[i]? = some (xs.getD i 0) := by rw [List.getD_eq_getElem?_getD, List.getElem?_eq_getElem (by rw [← HN.out]; exact hi)]; rfl
      generalize xs.getD i 0 = x at hxc hxl
      have Hx := Lib.hid hxl
      clear hxl
      have hcx := HC.out x
      cases hin : chars.data.toList.contains x <;> rw [hin] at hcx
      · have HIN := Lib.hid hin
        clear hin
        go_wp2_with (go_at_fn 35; refine (bContains L _ x _ _ hcx).mono ?_; rintro e w' ⟨rfl, hw⟩; rw [hw])
        go_roundg g
        case measure => omega
        case rel => exact ⟨i + 1, by omega, by first | rfl | simp, rfl, HNO.out.succ Hx.out HIN.out⟩
      · have HIN := Lib.hid hin
        clear hin
        go_wp2_with (go_at_fn 35; refine (bContains L _ x _ _ hcx).mono ?_; rintro e w' ⟨rfl, hw⟩; rw [hw])
        go_ret
        refine ⟨?_, HB.out⟩
        rw [Lib.indexAny_hit HNO.out Hx.out HIN.out]
        rfl
end
end Go.Proofs.YthfefbpfgepbjaaDoor
