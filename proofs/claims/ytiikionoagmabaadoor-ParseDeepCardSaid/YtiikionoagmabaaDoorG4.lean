/- The texts LeftSet, LexSmall, Index1, LexPassed, ByteRow, LexText, LexFirst, LexAll, ParseAll, ParseLaw, ParseDP, Frame, LawDeepP, ParseLaid, one behind the other. -/
import Derived.Test.YtiikionoagmabaaDoorG0
import Derived.Test.YtiikionoagmabaaDoorG3
import Derived.Test.YtiikionoagmabaaDoorG1
import Derived.Shelf.Strings.AsciiSet
import Derived.Lib.Hide
import Derived.BigQuiet
import Derived.Deep.QuietTactic
import Derived.Scope
import Derived.Carry
import Derived.WalkKit
import Derived.ProofKit
import Derived.OpenShut
import Derived.ShutString
import Derived.Test.YtiikionoagmabaaDoorRows
import Derived.Lib.LaidTab
import Derived.Stop.LaidErr
/- The library's set of bytes (strings.makeASCIISet, contains) and strings.TrimLeft by a set, walked over any program that bears these functions (so that the walk does not open the set's 256 cells). -/
namespace Go.Proofs.YtiikionoagmabaaDoor
open Go.RowKit Go.Lib

structure LS (P : Program) : Prop where
  mixed : P.follows .mixedOrders = true
  ftl : P.funcs[(72 : Nat)]? = some Tryd.f72
  ftw : P.funcs[(64 : Nat)]? = some Tryd.f64
  fmk : P.funcs[(71 : Nat)]? = some Tryd.f71
  fct : P.funcs[(80 : Nat)]? = some Tryd.f80
  t0 : P.underlying 0 = some (TypeDesc.tuple #[])
  a0 : ∀ w, (isAgg 0).run P w = .ok false w
  z0 : ∀ w, (Go.sizeOf 0).run P w = .ok 1 w
  v0 : ∀ w, (zeroValue 0).run P w = .ok (Value.tuple #[]) w
  t3 : P.underlying 3 = some (TypeDesc.int IntKind.i64)
  a3 : ∀ w, (isAgg 3).run P w = .ok false w
  z3 : ∀ w, (Go.sizeOf 3).run P w = .ok 1 w
  v3 : ∀ w, (zeroValue 3).run P w = .ok (Value.int IntKind.i64 0) w
  t4 : P.underlying 4 = some TypeDesc.bool
  a4 : ∀ w, (isAgg 4).run P w = .ok false w
  z4 : ∀ w, (Go.sizeOf 4).run P w = .ok 1 w
  v4 : ∀ w, (zeroValue 4).run P w = .ok (Value.bool false) w
  t5 : P.underlying 5 = some (TypeDesc.int IntKind.u8)
  a5 : ∀ w, (isAgg 5).run P w = .ok false w
  z5 : ∀ w, (Go.sizeOf 5).run P w = .ok 1 w
  v5 : ∀ w, (zeroValue 5).run P w = .ok (Value.int IntKind.u8 0) w
  t9 : P.underlying 9 = some TypeDesc.string
  a9 : ∀ w, (isAgg 9).run P w = .ok false w
  z9 : ∀ w, (Go.sizeOf 9).run P w = .ok 1 w
  v9 : ∀ w, (zeroValue 9).run P w = .ok (Value.string { data := #[] }) w
  t21 : P.underlying 21 = some (TypeDesc.int IntKind.i32)
  a21 : ∀ w, (isAgg 21).run P w = .ok false w
  z21 : ∀ w, (Go.sizeOf 21).run P w = .ok 1 w
  v21 : ∀ w, (zeroValue 21).run P w = .ok (Value.int IntKind.i32 0) w
  t26 : P.underlying 98 = some (TypeDesc.slice 5)
  a26 : ∀ w, (isAgg 98).run P w = .ok false w
  z26 : ∀ w, (Go.sizeOf 98).run P w = .ok 1 w
  v26 : ∀ w, (zeroValue 98).run P w = .ok (Value.slice none 0 0) w
  tS : P.underlying 107 = some (TypeDesc.array 256 4)
  aS : ∀ w, (isAgg 107).run P w = .ok true w
  zS : ∀ w, (Go.sizeOf 107).run P w = .ok 256 w
  iS : (P.info? 107).map (fun i => (i.zero, i.size)) = some (some (.agg (Array.replicate 256 (.bool false))), 256)
theorem ls : LS Tryd.prog := {
  mixed := by kernel_rfl
  ftl := Tryd.func72
  ftw := Tryd.func64
  fmk := Tryd.func71
  fct := Tryd.func80
  t0 := Tryd.underlying0
  a0 := Tryd.isAgg0
  z0 := Tryd.sizeOf0
  v0 := Tryd.zeroValue0
  t3 := Tryd.underlying3
  a3 := Tryd.isAgg3
  z3 := Tryd.sizeOf3
  v3 := Tryd.zeroValue3
  t4 := Tryd.underlying4
  a4 := Tryd.isAgg4
  z4 := Tryd.sizeOf4
  v4 := Tryd.zeroValue4
  t5 := Tryd.underlying5
  a5 := Tryd.isAgg5
  z5 := Tryd.sizeOf5
  v5 := Tryd.zeroValue5
  t9 := Tryd.underlying9
  a9 := Tryd.isAgg9
  z9 := Tryd.sizeOf9
  v9 := Tryd.zeroValue9
  t21 := Tryd.underlying21
  a21 := Tryd.isAgg21
  z21 := Tryd.sizeOf21
  v21 := Tryd.zeroValue21
  t26 := Tryd.underlying98
  a26 := Tryd.isAgg98
  z26 := Tryd.sizeOf98
  v26 := Tryd.zeroValue98
  tS := Tryd.underlying107
  aS := Tryd.isAgg107
  zS := Tryd.sizeOf107
  iS := by kernel_rfl }

section
variable {P : Program}
set_option maxHeartbeats 4000000 in
set_option maxRecDepth 1000000 in
theorem sMake (L : LS P) (chars : ByteArray) (w : World) (hs : chars.size < 4294967281)
    (hascii : ∀ (j : Nat) b, chars.data.toList[j]? = some b → b.toNat < 128) :
    Calls P 71 #[.string chars] w fun e w' => e = .returned (.tuple #[.agg (Lib.setCells chars.data.toList), .bool true]) ∧ w' = w.alloc (.cells (Lib.setCells chars.data.toList) 107) := by
  have hvS := (zero_of_info L.iS).1
  have hiS := (zero_of_info L.iS).2
  have HA : Aside (∀ (j : Nat) b, chars.data.toList[j]? = some b → b.toNat < 128) := hascii
  clear hascii
  have t0 := L.t0; have a0 := L.a0; have z0 := L.z0; have v0 := L.v0
  have t3 := L.t3; have a3 := L.a3; have z3 := L.z3; have v3 := L.v3
  have t4 := L.t4; have a4 := L.a4; have z4 := L.z4; have v4 := L.v4
  have t5 := L.t5; have a5 := L.a5; have z5 := L.z5; have v5 := L.v5
  have t9 := L.t9; have a9 := L.a9; have z9 := L.z9; have v9 := L.v9
  have t21 := L.t21; have a21 := L.a21; have z21 := L.z21; have v21 := L.v21
  have t26 := L.t26; have a26 := L.a26; have z26 := L.z26; have v26 := L.v26
  have tS := L.tS
  go_enter L.fmk, Tryd.ntmps71
  go_wp2
  rw [← Lib.setCells_nil]
  go_loopg [4] chars.size (fun g s4 wx => ∃ i : Nat, i + g = chars.size ∧ s4 = .int .i64 i ∧ wx = w.alloc (.cells (Lib.setCells (chars.data.toList.take i)) 107))
  case atStart => exact ⟨0, by omega, rfl, rfl⟩
  case round =>
    obtain ⟨i, hig, rfl, rfl⟩ := hrel
    cases gk with
    | zero =>
      obtain rfl : i = chars.size := by omega
      have hiz : ¬ ((chars.size : Int) < (chars.size : Int)) := by omega
      rw [show chars.data.toList.take chars.size = chars.data.toList from List.take_of_length_le (by rw [← Lib.size_eq]; exact Nat.le_refl _)]
      have hld := run_loadVar_new (P := P) w 107 (Lib.setCells chars.data.toList) 256 4 L.tS (by rw [Lib.setCells_size]; exact hiS)
      have hsz := Lib.setCells_size chars.data.toList
      have hlc := run_loadCellsFrom_new (P := P) w 107 (Lib.setCells chars.data.toList) 256 hsz
      have hsc := run_storeCells_new (P := P) w 107 (Lib.setCells chars.data.toList) (Lib.setCells chars.data.toList) (by rw [hsz]; exact hiS) rfl (Lib.setCells_one _)
      go_wp2
      simp only [L.aS, L.zS, Result.andThen, ↓reduceIte, hlc]
      rw [Oper.upon_value]
      go_wp2
      simp only [L.zS, Result.andThen, ↓reduceIte, hsc]
      rw [Oper.upon_skip]
      go_wp2
      (try simp only [Exit.inBlock, Exit.then])
      refine bodyPost_ret (v := .tuple #[.agg (Lib.setCells chars.data.toList), .bool true]) ?_ rfl ⟨rfl, rfl⟩
      rw [results_cell_tmp rfl]
      simp [asAddr, Result.andThen, hld]
    | succ g =>
      have hi : i < chars.size := by omega
      have hiz : (i : Int) < (chars.size : Int) := by omega
      obtain ⟨x, hx⟩ : ∃ x : UInt8, chars[i]'hi = x := ⟨_, rfl⟩
      have hxl : chars.data.toList[i]? = some x := by rw [← hx]; exact Lib.data_getElem? chars i hi
      have hx128 : ¬ ((128 : Int) ≤ (x.toNat : Int)) := by have := HA.out i x hxl; omega
      have hx256 : (x.toNat : Int) < 256 := by have := HA.out i x hxl; omega
      have hcell := Lib.setCells_at (chars.data.toList.take i) x
      have Hx : Aside (chars.data.toList[i]? = some x) := hxl
      clear hxl
      go_wp2
      go_roundg g
      case measure => omega
      case rel => exact ⟨i + 1, by omega, by first | rfl | simp, by rw [List.take_add_one, Hx.out]; simp only [Option.toList]; rw [Lib.setCells_snoc]⟩

set_option maxHeartbeats 2000000 in
set_option maxRecDepth 1000000 in
theorem sContains (L : LS P) (b : Nat) (x : UInt8) (v : Bool) (w : World) (hc : w.cell? ⟨b, x.toNat, none⟩ = some (.bool v)) :
    Calls P 80 #[.pointer (some ⟨b, 0, none⟩), .int .u8 x.toNat] w fun e w' => e = .returned (.bool v) ∧ w' = w := by
  have hx256 : (x.toNat : Int) < 256 := by have := UInt8.toNat_lt x; omega
  have t0 := L.t0; have a0 := L.a0; have z0 := L.z0; have v0 := L.v0
  have t3 := L.t3; have a3 := L.a3; have z3 := L.z3; have v3 := L.v3
  have t4 := L.t4; have a4 := L.a4; have z4 := L.z4; have v4 := L.v4
  have t5 := L.t5; have a5 := L.a5; have z5 := L.z5; have v5 := L.v5
  have t9 := L.t9; have a9 := L.a9; have z9 := L.z9; have v9 := L.v9
  have t21 := L.t21; have a21 := L.a21; have z21 := L.z21; have v21 := L.v21
  have t26 := L.t26; have a26 := L.a26; have z26 := L.z26; have v26 := L.v26
  have tS := L.tS
  go_enter L.fct, Tryd.ntmps80
  go_wp2
  go_ret
  exact ⟨rfl, rfl⟩


set_option maxHeartbeats 4000000 in
set_option maxRecDepth 1000000 in
/-- What is behind the bytes of a set. -/
theorem sTrimL (L : LS P) (b : Nat) (p : UInt8 → Bool) (l : List UInt8) (_hl : l.length ≤ 16777216) (w : World) (hc : ∀ x : UInt8, w.cell? ⟨b, x.toNat, none⟩ = some (.bool (p x))) :
    Calls P 72 #[.string ⟨l.toArray⟩, .pointer (some ⟨b, 0, none⟩)] w fun e w' => e = .returned (.string ⟨(l.dropWhile p).toArray⟩) ∧ w' = w := by
  have HC := Lib.hid hc
  clear hc
  have t0 := L.t0; have a0 := L.a0; have z0 := L.z0; have v0 := L.v0
  have t3 := L.t3; have a3 := L.a3; have z3 := L.z3; have v3 := L.v3
  have t4 := L.t4; have a4 := L.a4; have z4 := L.z4; have v4 := L.v4
  have t5 := L.t5; have a5 := L.a5; have z5 := L.z5; have v5 := L.v5
  have t9 := L.t9; have a9 := L.a9; have z9 := L.z9; have v9 := L.v9
  have t21 := L.t21; have a21 := L.a21; have z21 := L.z21; have v21 := L.v21
  have t26 := L.t26; have a26 := L.a26; have z26 := L.z26; have v26 := L.v26
  have tS := L.tS
  have e3 : ∀ args w, (callFunc 80 args).run P w = .ok (.enter 80 args) w := enters_of L.fct (by kernel_rfl) rfl
  go_enter L.ftl, Tryd.ntmps72
  go_wp2
  go_loopg [0] l.length (fun g s0 wx => ∃ r : List UInt8, r.length ≤ g ∧ s0 = .string ⟨r.toArray⟩ ∧ r.length ≤ l.length ∧ wx = w ∧ l.dropWhile p = r.dropWhile p)
  case atStart => exact ⟨l, Nat.le_refl _, rfl, Nat.le_refl _, rfl, rfl⟩
  case round =>
    obtain ⟨r, hg, rfl, hr, rfl, he⟩ := hrel
    have HE := Lib.hid he
    clear he
    cases r with
    | nil =>
      have hz : (⟨([] : List UInt8).toArray⟩ : ByteArray).size = 0 := rfl
      go_wp2
      go_ret
      exact ⟨by rw [HE.out]; rfl, rfl⟩
    | cons x r =>
      have hz : (⟨(x :: r).toArray⟩ : ByteArray).size = r.length + 1 := by show (x :: r).toArray.size = _; simp
      have hx : ∀ h, (⟨(x :: r).toArray⟩ : ByteArray)[0]'h = x := fun h => by rw [byte_at]; rfl
      have hcx := HC.out x
      cases hp : p x
      · rw [hp] at hcx
        go_wp2_with (go_at_fn 80; refine (sContains L b x false _ hcx).mono ?_; rintro e w' ⟨rfl, hw⟩; rw [hw])
        go_ret
        exact ⟨by rw [HE.out, List.dropWhile_cons_of_neg (by simp [hp])]; rfl, rfl⟩
      · rw [hp] at hcx
        go_wp2_with (go_at_fn 80; refine (sContains L b x true _ hcx).mono ?_; rintro e w' ⟨rfl, hw⟩; rw [hw])
        go_roundg (gk - 1)
        case measure => simp at hg; omega
        case rel => exact ⟨r, by simp at hg; omega, by rw [ba_extract]; simp, by simp at hr; omega, rfl, by rw [HE.out, List.dropWhile_cons_of_pos hp]⟩

set_option maxHeartbeats 8000000 in
set_option maxRecDepth 1000000 in
/-- 'strings.TrimLeft' by at least two ASCII bytes. -/
theorem sTrimLeft (L : LS P) (l : List UInt8) (hl : l.length ≤ 16777216) (chars : ByteArray) (h2 : 2 ≤ chars.size) (hcs : chars.size < 4294967281) (hascii : ∀ (j : Nat) b, chars.data.toList[j]? = some b → b.toNat < 128) (w : World) :
    Calls P 64 #[.string ⟨l.toArray⟩, .string chars] w fun e w' => e = .returned (.string ⟨(l.dropWhile chars.data.toList.contains).toArray⟩) ∧ Below w.heap.size w w' := by
  have hiS := (zero_of_info L.iS).2
  have hvS := (zero_of_info L.iS).1
  have hM := sMake L chars w hcs hascii
  clear hascii
  have hemp : chars.toList.isEmpty = false := by
    rw [Lib.toList_data]
    cases h : chars.data.toList with
    | nil => have := Lib.size_eq chars; rw [h, List.length_nil] at this; omega
    | cons _ _ => rfl
  have hn1 : ((chars.size : Int) == 1) = false := beq_eq_false_iff_ne.2 (by omega)
  obtain ⟨w2, hw2⟩ : ∃ w2, w2 = ((w.alloc (.cells (Lib.setCells chars.data.toList) 107)).alloc (.cells (Lib.setCells chars.data.toList) 107)) := ⟨_, rfl⟩
  have hsc : (storeCells ⟨w.heap.size + 1, 0, none⟩ (Lib.setCells chars.data.toList).toList 0).run P ((w.alloc (.cells (Lib.setCells chars.data.toList) 107)).alloc (.cells (Array.replicate 256 (.bool false)) 107)) = .ok () w2 := by
    have := run_storeCells_new (P := P) (w.alloc (.cells (Lib.setCells chars.data.toList) 107)) 107 (Array.replicate 256 (.bool false)) (Lib.setCells chars.data.toList) (by rw [Lib.setCells_size]; exact hiS) (by rw [Lib.setCells_size, Array.size_replicate]) (Lib.setCells_one _)
    rw [hw2]
    simpa using this
  have hsz := Lib.setCells_size chars.data.toList
  have hcellAt : ∀ x : UInt8, w2.cell? ⟨w.heap.size + 1, x.toNat, none⟩ = some (.bool (chars.data.toList.contains x)) := fun x => by
    rw [hw2, World.cell?_alloc_at _ _ _ _ (by simp), Lib.setCells_at]
  have hb : Below w.heap.size w w2 := by
    rw [hw2]
    exact ((Below.refl _ _).alloc (Nat.le_refl _) _).alloc (by simp) _
  have HL := sTrimL L (w.heap.size + 1) chars.data.toList.contains l hl w2 hcellAt
  have HB := Lib.hid hb
  clear hcellAt hb hw2
  have t0 := L.t0; have a0 := L.a0; have z0 := L.z0; have v0 := L.v0
  have t3 := L.t3; have a3 := L.a3; have z3 := L.z3; have v3 := L.v3
  have t4 := L.t4; have a4 := L.a4; have z4 := L.z4; have v4 := L.v4
  have t5 := L.t5; have a5 := L.a5; have z5 := L.z5; have v5 := L.v5
  have t9 := L.t9; have a9 := L.a9; have z9 := L.z9; have v9 := L.v9
  have t21 := L.t21; have a21 := L.a21; have z21 := L.z21; have v21 := L.v21
  have t26 := L.t26; have a26 := L.a26; have z26 := L.z26; have v26 := L.v26
  have tS := L.tS
  have e1 : ∀ args w, (callFunc 71 args).run P w = .ok (.enter 71 args) w := enters_of L.fmk (by kernel_rfl) rfl
  have e3 : ∀ args w, (callFunc 72 args).run P w = .ok (.enter 72 args) w := enters_of L.ftl (by kernel_rfl) rfl
  cases l with
  | nil =>
    clear HL hM hsc
    go_enter L.ftw, Tryd.ntmps64
    go_wp2
    go_ret
    exact ⟨rfl, Below.refl _ _⟩
  | cons x l =>
    have hempl : (x :: l).isEmpty = false := rfl
    go_enter L.ftw, Tryd.ntmps64
    go_wp2_with (go_at_fn 71; refine hM.mono ?_; rintro e w' ⟨rfl, hw⟩; rw [hw])
    simp only [L.zS, Result.andThen, ↓reduceIte, hsc]
    rw [Oper.upon_skip]
    clear hM hsc
    go_wp2_with (go_at_fn 72; refine HL.mono ?_; rintro e w' ⟨rfl, hw⟩; rw [hw])
    go_ret
    exact ⟨rfl, HB.out⟩
end
end Go.Proofs.YtiikionoagmabaaDoor

/- lex's isPlain, stands, run, bounded walked (layer 14). -/
namespace Go.Proofs.YtiikionoagmabaaDoor
open Go.RowKit

namespace Lx
/-- Where it is among those behind a backslash. -/
theorem turned_at (e : UInt8) : (Lib.indexByte [92, 34, 110, 114, 116] e = -1 ∧ turned e = none) ∨ ∃ (k : Nat) (t : UInt8), k < 5 ∧ Lib.indexByte [92, 34, 110, 114, 116] e = (k : Int) ∧ turned e = some t ∧ ∀ h, (⟨#[92, 34, 10, 13, 9]⟩ : ByteArray)[k]'h = t := by
  by_cases h0 : e = 92
  · subst h0; exact .inr ⟨0, 92, by decide, rfl, rfl, fun _ => rfl⟩
  by_cases h1 : e = 34
  · subst h1; exact .inr ⟨1, 34, by decide, rfl, rfl, fun _ => rfl⟩
  by_cases h2 : e = 110
  · subst h2; exact .inr ⟨2, 10, by decide, rfl, rfl, fun _ => rfl⟩
  by_cases h3 : e = 114
  · subst h3; exact .inr ⟨3, 13, by decide, rfl, rfl, fun _ => rfl⟩
  by_cases h4 : e = 116
  · subst h4; exact .inr ⟨4, 9, by decide, rfl, rfl, fun _ => rfl⟩
  refine .inl ⟨?_, by unfold turned; rw [if_neg h0, if_neg h1, if_neg h2, if_neg h3, if_neg h4]⟩
  have g : ∀ a : UInt8, ¬ e = a → (a == e) = false := fun a h => beq_eq_false_iff_ne.2 fun q => h q.symm
  simp [Lib.indexByte, g _ h0, g _ h1, g _ h2, g _ h3, g _ h4]
end Lx

set_option maxHeartbeats 1000000 in
theorem plain_any (c : UInt8) (w : World) : Calls Tryd.prog 75 #[.int .u8 (c.toNat : Int)] w fun e w' => e = .returned (.bool (Lx.pl c)) ∧ w = w' := by
  unfold Lx.pl
  obtain ⟨n, hn⟩ : ∃ n, c.toNat = n := ⟨_, rfl⟩
  rw [hn]
  clear hn
  by_cases h1 : 32 ≤ n
  · by_cases h2 : n ≤ 126
    · have e1 : ((32 : Int) ≤ (n : Int)) = True := eq_true (by omega)
      have e2 : ((n : Int) ≤ 126) = True := eq_true (by omega)
      rw [decide_eq_true h1, decide_eq_true h2]
      clear h1 h2
      go_enter Tryd.func75, Tryd.ntmps75
      go_wp2
      go_ret
      exact ⟨rfl, rfl⟩
    · have e1 : ((32 : Int) ≤ (n : Int)) = True := eq_true (by omega)
      have e2 : ((n : Int) ≤ 126) = False := eq_false (by omega)
      rw [decide_eq_true h1, decide_eq_false h2]
      clear h1 h2
      go_enter Tryd.func75, Tryd.ntmps75
      go_wp2
      go_ret
      exact ⟨rfl, rfl⟩
  · have e1 : ((32 : Int) ≤ (n : Int)) = False := eq_false (by omega)
    rw [decide_eq_false h1, Bool.false_and]
    clear h1
    go_enter Tryd.func75, Tryd.ntmps75
    go_wp2
    go_ret
    exact ⟨rfl, rfl⟩

set_option maxHeartbeats 1000000 in
theorem sindex_any (s : ByteArray) (c : UInt8) (w : World) : Calls Tryd.prog 74 #[.string s, .int .u8 (c.toNat : Int)] w fun e w' => e = .returned (.int .i64 (Lib.indexByte s.data.toList c)) ∧ w = w' := by
  have h := Tryd.stringslite_IndexByte s (c.toNat : Int) w
  rw [show ((c.toNat : Int)).toNat.toUInt8 = c by simp] at h
  go_enter Tryd.func74, Tryd.ntmps74
  go_wp2_with (go_at_call 76; refine h.mono ?_; rintro e w' ⟨rfl, hw⟩; rw [hw])
  go_ret
  exact ⟨rfl, rfl⟩

set_option maxHeartbeats 2000000 in
theorem stands_any (c : UInt8) (r : List UInt8) (hl : r.length ≤ 16777216) (w : World) :
    Calls Tryd.prog 65 #[.string ⟨(c :: r).toArray⟩] w fun e w' => e = .returned (.tuple #[.int .u8 ((Lx.stand c r).1.toNat : Int), .int .i64 ((Lx.stand c r).2 : Int)]) ∧ w = w' := by
  obtain ⟨q, hq⟩ : ∃ q, q = c :: r := ⟨_, rfl⟩
  have hz : (⟨q.toArray⟩ : ByteArray).size = r.length + 1 := by show q.toArray.size = _; rw [hq]; simp
  have hx : ∀ h, (⟨q.toArray⟩ : ByteArray)[0]'h = c := fun h => by rw [byte_at, hq]; rfl
  rw [← hq]
  by_cases hc : c = 92
  · subst hc
    have h92 : ((92 : UInt8).toNat : Int) = 92 := rfl
    cases r with
    | nil =>
      show Calls _ _ _ _ fun e w' => e = .returned (.tuple #[.int .u8 0, .int .i64 0]) ∧ _
      clear hq
      simp only [List.length_nil] at hz
      go_enter Tryd.func65, Tryd.ntmps65
      go_wp2
      go_ret2
      exact ⟨rfl, rfl⟩
    | cons e r =>
      have hx1 : ∀ h, (⟨q.toArray⟩ : ByteArray)[1]'h = e := fun h => by rw [byte_at, hq]; rfl
      have hz2 : (⟨q.toArray⟩ : ByteArray).size = r.length + 1 + 1 := hz
      have hS := fun w => sindex_any ⟨#[92, 34, 110, 114, 116]⟩ e w
      have hL : ((1 : Int) < (r.length : Int) + 1 + 1) = True := eq_true (by omega)
      have hrl : r.length + 1 ≤ 16777216 := hl
      rcases Lx.turned_at e with ⟨h1, h2⟩ | ⟨k, t, hk, h1, h2, h3⟩
      · rw [show (⟨#[92, 34, 110, 114, 116]⟩ : ByteArray).data.toList = [92, 34, 110, 114, 116] from rfl, h1] at hS
        have hst : Lx.stand 92 (e :: r) = (0, 0) := by unfold Lx.stand; rw [if_pos rfl]; dsimp only; rw [h2]
        rw [hst]
        show Calls _ _ _ _ fun e w' => e = .returned (.tuple #[.int .u8 0, .int .i64 0]) ∧ _
        clear hq hst h1 h2 hz hl
        go_enter Tryd.func65, Tryd.ntmps65
        go_wp2_with (go_at_call 74; refine (hS _).mono ?_; rintro e w' ⟨rfl, rfl⟩)
        go_ret2
        exact ⟨rfl, rfl⟩
      · rw [show (⟨#[92, 34, 110, 114, 116]⟩ : ByteArray).data.toList = [92, 34, 110, 114, 116] from rfl, h1] at hS
        have hst : Lx.stand 92 (e :: r) = (t, 2) := by unfold Lx.stand; rw [if_pos rfl]; dsimp only; rw [h2]
        rw [hst]
        show Calls _ _ _ _ fun e w' => e = .returned (.tuple #[.int .u8 (t.toNat : Int), .int .i64 2]) ∧ _
        have hk0 : (0 : Int) ≤ (k : Int) := by omega
        have hk5 : (k : Int) < 5 := by omega
        clear hq hst h1 h2 hz hl
        go_enter Tryd.func65, Tryd.ntmps65
        go_wp2_with (go_at_call 74; refine (hS _).mono ?_; rintro e w' ⟨rfl, rfl⟩)
        go_ret2
        exact ⟨rfl, rfl⟩
  · have hP := fun w => plain_any c w
    have hc2 : ¬ ((c.toNat : Int) = 92) := fun e => hc (UInt8.toNat_inj.1 (by show c.toNat = 92; omega))
    have hc3 : ((c.toNat : Int) == 92) = false := beq_eq_false_iff_ne.2 hc2
    have hc4 : ((c.toNat : Int) = 92) = False := eq_false hc2
    obtain ⟨p, hp⟩ : ∃ p, Lx.pl c = p := ⟨_, rfl⟩
    have hst : Lx.stand c r = if p = true then (c, 1) else (0, 0) := by unfold Lx.stand; rw [if_neg hc, hp]
    rw [hp] at hP
    rw [hst]
    cases p
    · show Calls _ _ _ _ fun e w' => e = .returned (.tuple #[.int .u8 0, .int .i64 0]) ∧ _
      clear hq hst hp hc
      go_enter Tryd.func65, Tryd.ntmps65
      go_wp2_with (go_at_call 75; refine (hP _).mono ?_; rintro e w' ⟨rfl, rfl⟩)
      go_ret2
      exact ⟨rfl, rfl⟩
    · show Calls _ _ _ _ fun e w' => e = .returned (.tuple #[.int .u8 (c.toNat : Int), .int .i64 1]) ∧ _
      clear hq hst hp hc
      go_enter Tryd.func65, Tryd.ntmps65
      go_wp2_with (go_at_call 75; refine (hP _).mono ?_; rintro e w' ⟨rfl, rfl⟩)
      go_ret2
      exact ⟨rfl, rfl⟩

/-- All of a set that stands ahead. -/
theorem take_drop_len (p : UInt8 → Bool) (l : List UInt8) : l.length = (l.takeWhile p).length + (l.dropWhile p).length := by
  conv => lhs; rw [← List.takeWhile_append_dropWhile (p := p) (l := l)]
  rw [List.length_append]
theorem take_take_len (p : UInt8 → Bool) : ∀ l : List UInt8, l.take (l.takeWhile p).length = l.takeWhile p
  | [] => rfl
  | c :: l => by
    rw [List.takeWhile_cons]
    split
    · rw [List.length_cons, List.take_succ_cons, take_take_len p l]
    · rfl
set_option maxHeartbeats 1000000 in
theorem run_any (l : List UInt8) (hl : l.length ≤ 16777216) (chars : ByteArray) (h2 : 2 ≤ chars.size) (hcs : chars.size < 4294967281) (hascii : ∀ (j : Nat) b, chars.data.toList[j]? = some b → b.toNat < 128) (w : World) :
    Calls Tryd.prog 53 #[.string ⟨l.toArray⟩, .string chars] w fun e w' => e = .returned (.string ⟨(l.takeWhile chars.data.toList.contains).toArray⟩) ∧ Below w.heap.size w w' := by
  have ht := sTrimLeft ls l hl chars h2 hcs hascii w
  clear hascii h2 hcs
  have hsum := take_drop_len chars.data.toList.contains l
  have hx : (⟨l.toArray⟩ : ByteArray).extract 0 (l.takeWhile chars.data.toList.contains).length = ⟨(l.takeWhile chars.data.toList.contains).toArray⟩ := by
    rw [ba_extract]
    simp only [List.drop_zero]
    rw [take_take_len]
  generalize l.takeWhile chars.data.toList.contains = R at *
  generalize l.dropWhile chars.data.toList.contains = D at *
  have hz : (⟨l.toArray⟩ : ByteArray).size = R.length + D.length := hsum
  have hz2 : (⟨D.toArray⟩ : ByteArray).size = D.length := rfl
  have hsub3 : ((R.length : Int) + (D.length : Int) - (D.length : Int)) = (R.length : Int) := by omega
  have hsub2 : (((R.length + D.length : Nat) : Int) - (D.length : Int)) = (R.length : Int) := by omega
  have hRl : R.length ≤ 16777216 := by omega
  have hDl : D.length ≤ 16777216 := by omega
  clear hsum hl
  go_enter Tryd.func53, Tryd.ntmps53
  go_wp2_with (go_at_call 64; refine ht.mono ?_; rintro e w' ⟨rfl, hb⟩)
  go_ret
  exact ⟨rfl, hb⟩

set_option maxHeartbeats 1000000 in
theorem bounded_any (k : Nat) (l : List UInt8) (_hl : l.length ≤ 16777216) (m f : Nat) (w : World) :
    Calls Tryd.prog 52 #[.int .i64 (k : Int), .string ⟨l.toArray⟩, .int .i64 (m : Int), .int .i64 (f : Int)] w fun e w' =>
      e = .returned (if m < l.length then .tuple #[tkv 0 [] 0, .int .i64 0, .int .i64 (f : Int)] else .tuple #[tkv k l 0, .int .i64 (l.length : Int), .int .i64 0]) ∧ Below w.heap.size w w' := by
  have hz : (⟨l.toArray⟩ : ByteArray).size = l.length := rfl
  by_cases h : m < l.length
  · rw [if_pos h]
    have h1 : ((m : Int) < (l.length : Int)) = True := eq_true (by omega)
    clear h
    go_enter Tryd.func52, Tryd.ntmps52
    go_wp2
    refine bodyPost_ret (v := .tuple #[tkv 0 [] 0, .int .i64 0, .int .i64 (f : Int)]) (by simp [results, Tryd.results52, go_sem, tkv]) rfl ⟨rfl, (Below.refl _ w).alloc (Nat.le_refl _) _⟩
  · rw [if_neg h]
    have h1 : ((m : Int) < (l.length : Int)) = False := eq_false (by omega)
    clear h
    go_enter Tryd.func52, Tryd.ntmps52
    go_wp2
    refine bodyPost_ret (v := .tuple #[tkv k l 0, .int .i64 (l.length : Int), .int .i64 0]) (by simp [results, Tryd.results52, go_sem, tkv]) rfl ⟨rfl, (Below.refl _ w).alloc (Nat.le_refl _) _⟩
end Go.Proofs.YtiikionoagmabaaDoor

/- The library's Index of one byte (strings.Index, stringslite.Index), and Cut by one. -/
namespace Go.Proofs.YtiikionoagmabaaDoor
open Go.RowKit

/-- Where the first c is. -/
theorem ix_at (c : UInt8) : ∀ l : List UInt8, (Lib.indexByte l c = -1 ∧ ∀ x ∈ l, x ≠ c) ∨ ∃ k : Nat, k < l.length ∧ Lib.indexByte l c = (k : Int) ∧ (∀ x ∈ l.take k, x ≠ c) ∧ l = l.take k ++ c :: l.drop (k + 1)
  | [] => .inl ⟨rfl, by simp⟩
  | b :: l => by
    rw [Lib.indexByte]
    by_cases hb : b = c
    · subst hb
      exact .inr ⟨0, by simp, by simp, by simp, rfl⟩
    · have e : (b == c) = false := by simpa using hb
      rw [e]
      rcases ix_at c l with ⟨h1, h2⟩ | ⟨k, h1, h2, h3, h4⟩
      · exact .inl ⟨by simp [h1], by simpa using ⟨hb, h2⟩⟩
      · refine .inr ⟨k + 1, by simp; omega, ?_, by simpa using ⟨hb, h3⟩, by simpa using h4⟩
        rw [h2]
        have : ((k : Int) == -1) = false := by simp
        simp [this]
theorem ix_range (c : UInt8) (l : List UInt8) : -1 ≤ Lib.indexByte l c ∧ Lib.indexByte l c < l.length + 1 := by
  rcases ix_at c l with ⟨h, _⟩ | ⟨k, h1, h, _⟩ <;> rw [h] <;> omega

/-- What stands ahead of the first c, what behind it, whether there is one. -/
def cut1 (c : UInt8) (l : List UInt8) : List UInt8 × List UInt8 × Bool :=
  if Lib.indexByte l c < 0 then (l, [], false) else (l.take (Lib.indexByte l c).toNat, l.drop ((Lib.indexByte l c).toNat + 1), true)
theorem cut1_at (c : UInt8) (l : List UInt8) : ((∀ x ∈ l, x ≠ c) ∧ cut1 c l = (l, [], false)) ∨ ∃ k : Nat, k < l.length ∧ (∀ x ∈ l.take k, x ≠ c) ∧ l = l.take k ++ c :: l.drop (k + 1) ∧ cut1 c l = (l.take k, l.drop (k + 1), true) := by
  rcases ix_at c l with ⟨h1, h2⟩ | ⟨k, h1, h2, h3, h4⟩
  · exact .inl ⟨h2, by unfold cut1; rw [h1]; rfl⟩
  · refine .inr ⟨k, h1, h3, h4, ?_⟩
    unfold cut1
    rw [h2, if_neg (by omega)]
    rfl

set_option maxHeartbeats 1000000 in
theorem sliteCut_any (l : List UInt8) (c : UInt8) (hl : l.length ≤ 16777216) (w : World) :
    Calls Tryd.prog 62 #[.string ⟨l.toArray⟩, .string ⟨#[c]⟩] w fun e w' => e = .returned (.tuple #[sv (cut1 c l).1, sv (cut1 c l).2.1, .bool (cut1 c l).2.2]) ∧ ∃ q, w' = w.drewN q := by
  have hi := Tryd.stringslite_Index_one ⟨l.toArray⟩ c w
  have hz : (⟨l.toArray⟩ : ByteArray).size = l.length := rfl
  have hz1 : (⟨#[c]⟩ : ByteArray).size = 1 := rfl
  have hx : ∀ a b, (⟨l.toArray⟩ : ByteArray).extract a b = ⟨((l.take b).drop a).toArray⟩ := ba_extract l
  rcases ix_at c l with ⟨h1, h2⟩ | ⟨k, h1, h2, h3, h4⟩
  · have e0 : Lib.indexByte (⟨l.toArray⟩ : ByteArray).data.toList c = -1 := h1
    rw [e0] at hi
    have ec : cut1 c l = (l, [], false) := by unfold cut1; rw [h1]; rfl
    rw [ec]
    clear h1 h2 e0 ec
    go_enter Tryd.func62, Tryd.ntmps62
    go_wp2_with (go_at_call 69; refine hi.mono ?_; rintro e w' ⟨rfl, hw⟩; rw [hw])
    go_ret3
    exact ⟨rfl, 0, rfl⟩
  · have e0 : Lib.indexByte (⟨l.toArray⟩ : ByteArray).data.toList c = (k : Int) := h2
    rw [e0] at hi
    have ec : cut1 c l = (l.take k, l.drop (k + 1), true) := by unfold cut1; rw [h2, if_neg (by omega)]; rfl
    rw [ec]
    have hk : (0 : Int) ≤ k := by omega
    have hw1 : IntKind.i64.wrap ((k : Int) + 1) = ((k + 1 : Nat) : Int) := by rw [wraps_i64 _ (by omega) (by omega)]; omega
    have hk1 : (k : Int) ≤ (l.length : Int) := by omega
    have hk2 : ((k + 1 : Nat) : Int) ≤ (l.length : Int) := by omega
    clear h2 h3 h4 e0 ec
    go_enter Tryd.func62, Tryd.ntmps62
    go_wp2_with (go_at_call 69; refine hi.mono ?_; rintro e w' ⟨rfl, hw⟩; rw [hw])
    go_quiet (fail)
    simp only [Exit.then]
    go_wp2
    go_ret3
    exact ⟨by simp [sv], nq, rfl⟩
set_option maxHeartbeats 1000000 in
theorem sCut_any (l : List UInt8) (c : UInt8) (hl : l.length ≤ 16777216) (w : World) :
    Calls Tryd.prog 50 #[.string ⟨l.toArray⟩, .string ⟨#[c]⟩] w fun e w' => e = .returned (.tuple #[sv (cut1 c l).1, sv (cut1 c l).2.1, .bool (cut1 c l).2.2]) ∧ ∃ q, w' = w.drewN q := by
  have hi := sliteCut_any l c hl w
  go_enter Tryd.func50, Tryd.ntmps50
  go_wp2_with (go_at_call 62; refine hi.mono ?_; rintro e w' ⟨rfl, q, hw⟩; rw [hw])
  go_ret3
  exact ⟨rfl, q, rfl⟩
end Go.Proofs.YtiikionoagmabaaDoor

/- lex.passed walked (layer 14). -/
namespace Go.Proofs.YtiikionoagmabaaDoor
open Go.RowKit

namespace Lx
theorem skip_true_free : ∀ (l : List UInt8), (∀ x ∈ l, x ≠ 10) → skip true l = []
  | [], _ => rfl
  | c :: l, h => by
    rw [skip, if_neg (h c (by simp))]
    exact skip_true_free l (fun x hx => h x (by simp [hx]))
/-- A remark is passed over up to its end. -/
theorem skip_cut (r : List UInt8) : ∃ m, ((cut1 10 (35 :: r)).1).length = m + 1 ∧ m ≤ r.length ∧ skip false ((35 :: r).drop (m + 1)) = skip false (35 :: r) := by
  have h0 : skip false (35 :: r) = skip true r := by rw [skip, if_pos rfl]
  rcases cut1_at 10 (35 :: r) with ⟨h1, h2⟩ | ⟨k, h1, h2, h3, h4⟩
  · refine ⟨r.length, by rw [h2]; rfl, Nat.le_refl _, ?_⟩
    rw [h0, skip_true_free r (fun x hx => h1 x (by simp [hx]))]
    rw [List.drop_of_length_le (by simp)]
    rfl
  · cases k with
    | zero => simp at h3
    | succ m =>
      simp only [List.length_cons] at h1
      refine ⟨m, by rw [h4]; simp; omega, by omega, ?_⟩
      rw [h0]
      simp only [List.take_succ_cons, List.drop_succ_cons, List.cons_append, List.cons.injEq, true_and] at h2 h3
      rw [List.drop_succ_cons]
      have e := skip_remark (r.take m) (fun x hx => h2 x (by simp [hx])) (r.drop (m + 1))
      rw [← h3] at e
      rw [e]
      have e2 : r.drop m = 10 :: r.drop (m + 1) := by
        conv => lhs; rw [h3]
        rw [List.drop_append_of_le_length (by simp; omega)]
        rw [List.drop_of_length_le (by simp; omega)]
        rfl
      rw [e2, skip, if_neg (by decide), if_pos (by decide)]
theorem drop_cons {l : List UInt8} {k : Nat} (h : k < l.length) : ∃ c r, l.drop k = c :: r ∧ l.getD k 0 = c ∧ r = l.drop (k + 1) ∧ r.length + k + 1 = l.length := by
  refine ⟨l[k], l.drop (k + 1), List.drop_eq_getElem_cons h, by simp [List.getD, List.getElem?_eq_getElem h], rfl, by rw [List.length_drop]; omega⟩
end Lx

theorem take_snoc {l : List UInt8} {k : Nat} {c : UInt8} {r : List UInt8} (h : l.drop k = c :: r) : l.take (k + 1) = l.take k ++ [c] := by
  have hk : k < l.length := by
    have := congrArg List.length h
    rw [List.length_drop, List.length_cons] at this
    omega
  have e := List.drop_eq_getElem_cons hk
  rw [h] at e
  rw [List.take_succ_eq_append_getElem hk]
  cases e
  rfl

theorem below_dn {B : Nat} {a w : World} (h : Below B a w) (q : Nat) : Below B a (w.drewN q) := ⟨h.os, h.tape, h.output, h.size, h.block⟩
set_option maxHeartbeats 2000000 in
theorem passed_any (l : List UInt8) (hl : l.length ≤ 16777216) (w : World) :
    Calls Tryd.prog 35 #[.string ⟨l.toArray⟩] w fun e w' => e = .returned (.int .i64 ((l.length - (Lx.skip false l).length : Nat) : Int)) ∧ Below w.heap.size w w' := by
  have hz : (⟨l.toArray⟩ : ByteArray).size = l.length := rfl
  have CU := Lib.hid (fun (s : List UInt8) (hs : s.length ≤ 16777216) wx => sCut_any s 10 hs wx)
  obtain ⟨L, hL⟩ : ∃ L, l.length = L := ⟨_, rfl⟩
  have HL := Lib.hid hL
  rw [hL] at hl hz ⊢
  clear hL
  go_enter Tryd.func35, Tryd.ntmps35
  go_wp2
  refine wp_scope_straight ?_
  go_wp2
  refine wp_label ?_
  go_wp2
  go_loopw [3, 4, 5, 6] (fun s3 s4 s5 s6 wr => ∃ k : Nat, k ≤ L ∧ s3 = .int .i64 k ∧ Hid (Lx.skip false (l.drop k) = Lx.skip false l ∧ Below w.heap.size w wr)) (fun s3 s4 s5 s6 _ => L - (intOf s3).toNat)
  case atStart => exact ⟨0, by omega, rfl, Lib.hid ⟨rfl, Below.refl _ _⟩⟩
  case round =>
    obtain ⟨k, hk, rfl, HR⟩ := hrel
    by_cases hlt : k < L
    · obtain ⟨c, r, hd, hgc, hr, hrl⟩ := Lx.drop_cons (l := l) (k := k) (by rw [HL.out]; exact hlt)
      rw [HL.out] at hrl
      have hx : ∀ h, (⟨l.toArray⟩ : ByteArray)[k]'h = c := fun h => by rw [byte_at]; exact hgc
      have hE : (⟨l.toArray⟩ : ByteArray).extract k L = ⟨(c :: r).toArray⟩ := by rw [ba_extract, List.take_of_length_le (by rw [HL.out]; exact Nat.le_refl _), hd]
      have HD := Lib.hid hd
      have HRR := Lib.hid hr
      have hk1 : (k : Int) < (L : Int) := by omega
      clear hgc hd hr
      by_cases hb : Lx.blank c = true
      · have hcs : c = 32 ∨ c = 9 ∨ c = 10 ∨ c = 13 := by simpa [Lx.blank, or_assoc] using hb
        have h35 : ¬ c = 35 := fun e => by rw [e] at hb; cases hb
        have HN : Hid (Lx.skip false (l.drop (k + 1)) = Lx.skip false l ∧ Below w.heap.size w wr) := Lib.hid ⟨by
          have h := HR.out.1
          rw [HD.out, Lx.skip, if_neg h35, if_pos hb] at h
          rw [← HRR.out]
          exact h, HR.out.2⟩
        clear hb h35 HR HD HRR
        rcases hcs with rfl | rfl | rfl | rfl
        all_goals
          go_wp2
          go_roundw
          case rel => exact ⟨k + 1, by omega, by first | rfl | go_num, HN⟩
          case measure => simp [intOf]; omega
      · by_cases h35 : c = 35
        · subst h35
          obtain ⟨m, hm1, hm2, hm3⟩ := Lx.skip_cut r
          have hcu := CU.out (35 :: r) (by simp; omega)
          obtain ⟨ct, hct⟩ : ∃ ct, cut1 10 (35 :: r) = ct := ⟨_, rfl⟩
          rw [hct] at hcu hm1
          obtain ⟨c1, c2, c3⟩ := ct
          dsimp only [sv] at hcu hm1
          have hz1 : (⟨c1.toArray⟩ : ByteArray).size = m + 1 := hm1
          have HN : Hid (Lx.skip false (l.drop (k + (m + 1))) = Lx.skip false l ∧ Below w.heap.size w wr) := Lib.hid ⟨by
            have h := HR.out.1
            rw [HD.out, ← hm3, ← HD.out, List.drop_drop] at h
            exact h, HR.out.2⟩
          have hm4 : k + (m + 1) ≤ L := by omega
          clear hm1 hm2 hm3 hct hb HR HD HRR hrl
          go_wp2_with (go_at_call 50; refine (hcu _).mono ?_; rintro e w' ⟨rfl, q, hw⟩; rw [hw])
          go_roundw
          case rel => exact ⟨k + (m + 1), hm4, by first | rfl | go_num, Lib.hid ⟨HN.out.1, below_dn HN.out.2 q⟩⟩
          case measure => simp [intOf]; omega
        · have e1 : ¬ ((c.toNat : Int) = 32) := fun e => hb (by rw [UInt8.toNat_inj.1 (show c.toNat = (32 : UInt8).toNat by show c.toNat = 32; omega)]; rfl)
          have e2 : ¬ ((c.toNat : Int) = 9) := fun e => hb (by rw [UInt8.toNat_inj.1 (show c.toNat = (9 : UInt8).toNat by show c.toNat = 9; omega)]; rfl)
          have e3 : ¬ ((c.toNat : Int) = 10) := fun e => hb (by rw [UInt8.toNat_inj.1 (show c.toNat = (10 : UInt8).toNat by show c.toNat = 10; omega)]; rfl)
          have e4 : ¬ ((c.toNat : Int) = 13) := fun e => hb (by rw [UInt8.toNat_inj.1 (show c.toNat = (13 : UInt8).toNat by show c.toNat = 13; omega)]; rfl)
          have e5 : ¬ ((c.toNat : Int) = 35) := fun e => h35 (UInt8.toNat_inj.1 (show c.toNat = (35 : UInt8).toNat by show c.toNat = 35; omega))
          have f1 : ((c.toNat : Int) == 32) = false := beq_eq_false_iff_ne.2 e1
          have f2 : ((c.toNat : Int) == 9) = false := beq_eq_false_iff_ne.2 e2
          have f3 : ((c.toNat : Int) == 10) = false := beq_eq_false_iff_ne.2 e3
          have f4 : ((c.toNat : Int) == 13) = false := beq_eq_false_iff_ne.2 e4
          have f5 : ((c.toNat : Int) == 35) = false := beq_eq_false_iff_ne.2 e5
          have HN : Hid (L - (Lx.skip false l).length = k ∧ Below w.heap.size w wr) := Lib.hid ⟨by
            rw [← HR.out.1, HD.out, Lx.skip, if_neg h35, if_neg hb, List.length_cons]; omega, HR.out.2⟩
          clear hb h35 HR HD HRR hrl
          go_wp2
          simp only [Exit.noGoto]
          go_ret
          exact ⟨by rw [HN.out.1]; rfl, HN.out.2⟩
    · have hkL : k = L := by omega
      subst hkL
      have HN : Hid (k - (Lx.skip false l).length = k ∧ Below w.heap.size w wr) := Lib.hid ⟨by
        rw [← HR.out.1, List.drop_of_length_le (by rw [HL.out]; exact Nat.le_refl _)]; rfl, HR.out.2⟩
      clear HR
      go_wp2
      simp only [Exit.noGoto]
      go_ret
      exact ⟨by rw [HN.out.1]; rfl, HN.out.2⟩
end Go.Proofs.YtiikionoagmabaaDoor

/- A row of bytes of the call's own that grows by bytes written out (layer 14). -/
namespace Go.Proofs.YtiikionoagmabaaDoor
open Go.RowKit

/-- Bytes in a new block. -/
theorem Rd.laid (w : World) (l : List UInt8) (t : TypeId) (n : Nat) (hn : n = l.length) (hm : n ≤ 1048576) : Rd (w.alloc (.cells (l.map bv).toArray t)) (.slice (some ⟨w.heap.size, 0, none⟩) n n) (l.map bv) := by
  refine .inr ⟨_, 0, n, by rw [hn, List.length_map], by rw [hn, List.length_map]; exact Nat.le_refl _, by unfold maxLen; omega, fun j u hj => ?_⟩
  rw [cell_of_row _ _ _ _ _ _ (heap_alloc_new w _), Nat.zero_add, ← Array.getElem?_toList]
  exact hj
theorem Rd.byte (w : World) (c : UInt8) (t : TypeId) : Rd (w.alloc (.cells #[.int .u8 (c.toNat : Int)] t)) (.slice (some ⟨w.heap.size, 0, none⟩) 1 1) ([c].map bv) := Rd.laid w [c] t 1 rfl (by decide)
theorem Rd.bytes2 (w : World) (c d : UInt8) (t : TypeId) : Rd (w.alloc (.cells #[.int .u8 (c.toNat : Int), .int .u8 (d.toNat : Int)] t)) (.slice (some ⟨w.heap.size, 0, none⟩) 2 2) ([c, d].map bv) := Rd.laid w [c, d] t 2 rfl (by decide)

/-- A row of bytes of the call's own, from block B on; below n nothing has turned. -/
structure BR (n B : Nat) (w wr : World) (v : Value) (xs : List UInt8) : Prop where
  below : Below n w wr
  own : wr.ownsRow B 5 1 v xs.length (xs.map bv)
  sz : B ≤ wr.heap.size
  nb : n ≤ B
section
variable {n B : Nat} {w wr w2 : World} {v v' : Value} {xs ys : List UInt8} {o : Obj}
theorem BR.push (h : BR n B w wr v xs) (h2 : w2.ownsRow B 5 1 v' (xs.length + (ys.map bv).length) (xs.map bv ++ ys.map bv)) (hg : (wr.alloc o).grownBy w2 v.ownBlock) : BR n B w w2 v' (xs ++ ys) where
  below := (h.below.alloc (Nat.le_trans h.nb h.sz) o).grown hg (by have := h.nb; have := h.sz; simp; omega) (fun k hk => Nat.le_trans h.nb (h.own.lt k hk).1)
  own := by rw [List.length_append, List.map_append]; rw [List.length_map] at h2; exact h2
  sz := by have := hg.size; have := h.sz; simp at *; omega
  nb := h.nb
/-- What lies below the row stays. -/
theorem BR.old (h : BR n B w wr v xs) (hg : (wr.alloc o).grownBy w2 v.ownBlock) (k : Nat) (hk : k < B) : w2.heap[k]? = wr.heap[k]? := by
  have hs := h.sz
  rw [hg.block k (by simp; omega) (fun e => by have := (h.own.lt k e.symm).1; omega)]
  exact Below.heap_alloc _ _ _ (by omega)
theorem BR.later (h : BR n B w wr v xs) (hb : Below wr.heap.size wr w2) : BR n B w w2 v xs where
  below := h.below.trans (hb.mono (Nat.le_trans h.nb h.sz))
  own := own_below h.own hb
  sz := Nat.le_trans h.sz hb.size
  nb := h.nb
theorem BR.rd (h : BR n B w wr v xs) : Rd wr v (xs.map bv) := Rd.of_own (by have := h.own; rwa [← List.length_map (f := bv)] at this)
end
end Go.Proofs.YtiikionoagmabaaDoor

/- lex.text walked (layer 14). -/
namespace Go.Proofs.YtiikionoagmabaaDoor
open Go.RowKit


/-- What is told of a token's beginning. -/
def nxv (c : UInt8) (l : List UInt8) : Value := match Lx.next c l with
  | .error e => .tuple #[tkv 0 [] 0, .int .i64 0, .int .i64 (e : Int)]
  | .ok (k, t, r) => .tuple #[tkv k t 0, .int .i64 ((l.length + 1 - r.length : Nat) : Int), .int .i64 0]
theorem nxv_err {c : UInt8} {l : List UInt8} {e : Nat} (h : Lx.next c l = .error e) : nxv c l = .tuple #[tkv 0 [] 0, .int .i64 0, .int .i64 (e : Int)] := by unfold nxv; rw [h]
theorem nxv_ok {c : UInt8} {l t r : List UInt8} {k : Nat} (h : Lx.next c l = .ok (k, t, r)) : nxv c l = .tuple #[tkv k t 0, .int .i64 ((l.length + 1 - r.length : Nat) : Int), .int .i64 0] := by unfold nxv; rw [h]

/-- What holds at the head of a round: k bytes of the text are behind, which stand for xs. -/
structure TX (w wr : World) (l : List UInt8) (k : Nat) (v : Value) (xs : List UInt8) : Prop where
  br : BR w.heap.size (w.heap.size + 1) w wr v xs
  res : Tk3 wr w.heap.size 0 [] 0
  hk : 1 ≤ k
  hl : k ≤ l.length + 1
  few : xs.length < k
  eq : Lx.txt l = (Lx.txt ((34 :: l).drop k)).map fun p => (xs ++ p.1, p.2)

set_option maxRecDepth 20000 in
set_option maxHeartbeats 4000000 in
theorem text_any (l : List UInt8) (hl : l.length ≤ 1048576) (w : World) :
    Calls Tryd.prog 54 #[.string ⟨(34 :: l).toArray⟩] w fun e w' => e = .returned (nxv 34 l) ∧ Below w.heap.size w w' := by
  obtain ⟨q, hq⟩ : ∃ q, q = 34 :: l := ⟨_, rfl⟩
  obtain ⟨L, hL⟩ : ∃ L, l.length = L := ⟨_, rfl⟩
  have hz : (⟨q.toArray⟩ : ByteArray).size = L + 1 := by show q.toArray.size = _; rw [hq]; simp [hL]
  have hql : q.length = L + 1 := by rw [hq, List.length_cons, hL]
  have HQ := Lib.hid hq
  have HL := Lib.hid hL
  have HQL := Lib.hid hql
  have ST := Lib.hid (fun c r h wx => stands_any c r h wx)
  have hst : TX w (w.alloc (.cells #[.int .i64 0, .string ⟨#[]⟩, .int .i64 0] 53)) l 1 (.slice none 0 0) [] :=
    ⟨⟨(Below.refl _ w).alloc (Nat.le_refl _) _, World.ownsRow_nil _ _ _ _, by simp, by omega⟩, Tk3.new w 0 [] 0, by omega, by omega, by simp, by simp⟩
  have HST := Lib.hid hst
  rw [← hq]
  rw [hL] at hl
  clear hst hq hL hql
  go_enter Tryd.func54, Tryd.ntmps54
  go_wp2
  go_loopw [5, 6, 7, 8] (fun s5 s6 s7 s8 wr => ∃ (k : Nat) (xs : List UInt8), s6 = .int .i64 k ∧ Hid (TX w wr l k s5 xs)) (fun s5 s6 s7 s8 _ => L + 1 - (intOf s6).toNat)
  case atStart => exact ⟨1, [], rfl, HST⟩
  case round =>
    obtain ⟨k, xs, rfl, HR⟩ := hrel
    clear HST
    have hk1 := HR.out.hk
    have hk2 := HR.out.hl
    rw [HL.out] at hk2
    by_cases hlt : k < L + 1
    · obtain ⟨c, r, hd, hgc, hr, hrl⟩ := Lx.drop_cons (l := q) (k := k) (by rw [HQL.out]; exact hlt)
      rw [HQL.out] at hrl
      have hx : ∀ h, (⟨q.toArray⟩ : ByteArray)[k]'h = c := fun h => by rw [byte_at]; exact hgc
      have hE : (⟨q.toArray⟩ : ByteArray).extract k (L + 1) = ⟨(c :: r).toArray⟩ := by rw [ba_extract, List.take_of_length_le (by rw [HQL.out]; exact Nat.le_refl _), hd]
      have HD := Lib.hid hd
      have hk3 : (k : Int) < (L : Int) + 1 := by omega
      clear hgc hd hr
      by_cases h34 : c = 34
      · -- the text's end
        subst h34
        have hend : Lx.txt l = some (xs, r) := by
          have h := HR.out.eq
          rw [← HQ.out, HD.out] at h
          rw [h]
          unfold Lx.txt
          simp
        have hlenxs := HR.out.few
        obtain ⟨so, sc, rfl⟩ := own_form HR.out.br.own
        have hcv := bytes_string HR.out.br.rd
        unfold sv at hcv
        obtain ⟨M, hM⟩ : ∃ M, xs.length = M := ⟨_, rfl⟩
        rw [hM] at hcv hlenxs ⊢
        have d0 := HR.out.res.c0
        have d1 := HR.out.res.c1
        have d2 := HR.out.res.c2
        have df := HR.out.res.fr
        by_cases hM1 : 100 < M
        · have hv : nxv 34 l = .tuple #[tkv 0 [] 0, .int .i64 0, .int .i64 (11 : Nat)] := nxv_err (by unfold Lx.next; rw [if_pos rfl, hend]; dsimp only; rw [if_pos (by rw [hM]; exact hM1)])
          have HZ := Lib.hid (HR.out.res.set 0 [] 0)
          have HB := Lib.hid (below_set3t HR.out.br.below (Nat.le_refl _) (.int .i64 (0 : Nat)) (.string ⟨([] : List UInt8).toArray⟩) (.int .i64 (0 : Nat)))
          have hM2 : ((100 : Int) < (M : Int)) = True := eq_true (by omega)
          have HV := Lib.hid hv
          clear hend hv HR HD hM HQ hcv hM1
          go_wp2
          refine bodyPost_ret (v := .tuple #[tkv 0 [] 0, .int .i64 0, .int .i64 (11 : Nat)]) (by have d0 := HZ.out.c0; have d1 := HZ.out.c1; have d2 := HZ.out.c2; simp at d0 d1 d2; simp [results, Tryd.results54, go_sem, d0, d1, d2, tkv]) rfl ⟨by rw [HV.out], HB.out⟩
        · have hv : nxv 34 l = .tuple #[tkv 3 xs 0, .int .i64 ((k + 1 : Nat) : Int), .int .i64 0] := by
            rw [nxv_ok (k := 3) (t := xs) (r := r) (by unfold Lx.next; rw [if_pos rfl, hend]; dsimp only; rw [if_neg (by rw [hM]; exact hM1)])]
            rw [HL.out, show L + 1 - r.length = k + 1 by omega]
          have HZ := Lib.hid (HR.out.res.set 3 xs 0)
          have HB := Lib.hid (below_set3t HR.out.br.below (Nat.le_refl _) (.int .i64 (3 : Nat)) (.string ⟨xs.toArray⟩) (.int .i64 (0 : Nat)))
          have hM2 : ((100 : Int) < (M : Int)) = False := eq_false (by omega)
          have HV := Lib.hid hv
          clear hend hv HR HD hM HQ hM1
          go_wp2
          refine bodyPost_ret (v := .tuple #[tkv 3 xs 0, .int .i64 ((k + 1 : Nat) : Int), .int .i64 0]) (by have d0 := HZ.out.c0; have d1 := HZ.out.c1; have d2 := HZ.out.c2; simp at d0 d1 d2; simp [results, Tryd.results54, go_sem, d0, d1, d2, tkv]) rfl ⟨by rw [HV.out], HB.out⟩
      · have h34b : ¬ ((c.toNat : Int) = 34) := fun e => h34 (UInt8.toNat_inj.1 (show c.toNat = (34 : UInt8).toNat by show c.toNat = 34; omega))
        have f1 : ((c.toNat : Int) == 34) = false := beq_eq_false_iff_ne.2 h34b
        have hs := ST.out c r (by omega)
        have hstep := Lx.txt_step c r h34
        have hsl := Lx.stand_len c r
        obtain ⟨st, hst⟩ : ∃ st, Lx.stand c r = st := ⟨_, rfl⟩
        rw [hst] at hs hstep hsl
        obtain ⟨b, n⟩ := st
        dsimp only at hs hstep hsl
        simp only [List.length_cons] at hsl
        clear hst
        by_cases hn : n = 0
        · subst hn
          rw [if_pos rfl] at hstep
          have hv : nxv 34 l = .tuple #[tkv 0 [] 0, .int .i64 0, .int .i64 (11 : Nat)] := nxv_err (by
            have h := HR.out.eq
            rw [← HQ.out, HD.out, hstep] at h
            unfold Lx.next; rw [if_pos rfl, h]; rfl)
          have d0 := HR.out.res.c0
          have d1 := HR.out.res.c1
          have d2 := HR.out.res.c2
          have df := HR.out.res.fr
          have HZ := Lib.hid (HR.out.res.set 0 [] 0)
          have HB := Lib.hid (below_set3t HR.out.br.below (Nat.le_refl _) (.int .i64 (0 : Nat)) (.string ⟨([] : List UInt8).toArray⟩) (.int .i64 (0 : Nat)))
          obtain ⟨so, sc, rfl⟩ := own_form HR.out.br.own
          have HV := Lib.hid hv
          clear hstep hv HR HD HQ
          go_wp2_with (go_at_call 65; refine (hs _).mono ?_; rintro e w' ⟨rfl, rfl⟩)
          refine bodyPost_ret (v := .tuple #[tkv 0 [] 0, .int .i64 0, .int .i64 (11 : Nat)]) (by have d0 := HZ.out.c0; have d1 := HZ.out.c1; have d2 := HZ.out.c2; simp at d0 d1 d2; simp [results, Tryd.results54, go_sem, d0, d1, d2, tkv]) rfl ⟨by rw [HV.out], HB.out⟩
        · rw [if_neg hn] at hstep
          have hn1 : ((n : Int) == 0) = false := beq_eq_false_iff_ne.2 (by omega)
          have hn2 : ((n : Int) = 0) = False := eq_false (by omega)
          have hown := HR.out.br.own
          have hfew := HR.out.few
          have hxl : xs.length + 1 ≤ 16777216 := by omega
          have hrd := fun wx => Rd.byte wx b 5
          have hB := HR.out.br.sz
          have HSTEP := Lib.hid hstep
          clear hstep
          go_wp2_with (first
            | (go_at_call 65; refine (hs _).mono ?_; rintro e w' ⟨rfl, rfl⟩)
            | (at_builtin; refine append_u8s rfl (.tmp 29) (.tmp 31) rfl rfl (hown.alloc _) ([b].map bv) (hrd _) (bv_cell _) ?ca ?cb ?_))
          case ca => simp; omega
          case cb => simp; omega
          intro v' w2 hown2 hg2
          have HN : Hid (TX w w2 l (k + n) v' (xs ++ [b])) := Lib.hid ⟨HR.out.br.push hown2 hg2, HR.out.res.same (HR.out.br.old hg2 _ (by omega)), by omega, by rw [HL.out]; omega, by simp; omega, by
            have h := HR.out.eq
            rw [← HQ.out, HD.out, HSTEP.out, ← HD.out, List.drop_drop] at h
            rw [h, ← HQ.out]
            cases Lx.txt (q.drop (k + n)) <;> simp⟩
          clear hown2 hg2 hown hrd HR HSTEP
          go_wp2
          go_roundw
          case rel => exact ⟨k + n, xs ++ [b], by first | rfl | go_num, HN⟩
          case measure => simp [intOf]; omega
    · have hkL : k = L + 1 := by omega
      subst hkL
      have hv : nxv 34 l = .tuple #[tkv 0 [] 0, .int .i64 0, .int .i64 (11 : Nat)] := nxv_err (by
        have h := HR.out.eq
        rw [List.drop_of_length_le (by rw [List.length_cons, HL.out]; exact Nat.le_refl _)] at h
        unfold Lx.next; rw [if_pos rfl, h]; rfl)
      have d0 := HR.out.res.c0
      have d1 := HR.out.res.c1
      have d2 := HR.out.res.c2
      have df := HR.out.res.fr
      have HZ := Lib.hid (HR.out.res.set 0 [] 0)
      have HB := Lib.hid (below_set3t HR.out.br.below (Nat.le_refl _) (.int .i64 (0 : Nat)) (.string ⟨([] : List UInt8).toArray⟩) (.int .i64 (0 : Nat)))
      obtain ⟨so, sc, rfl⟩ := own_form HR.out.br.own
      have HV := Lib.hid hv
      clear hv HR HQ
      go_wp2
      refine bodyPost_ret (v := .tuple #[tkv 0 [] 0, .int .i64 0, .int .i64 (11 : Nat)]) (by have d0 := HZ.out.c0; have d1 := HZ.out.c1; have d2 := HZ.out.c2; simp at d0 d1 d2; simp [results, Tryd.results54, go_sem, d0, d1, d2, tkv]) rfl ⟨by rw [HV.out], HB.out⟩
end Go.Proofs.YtiikionoagmabaaDoor

/- lex.first walked (layer 14). -/
namespace Go.Proofs.YtiikionoagmabaaDoor
open Go.RowKit

def lettersB : ByteArray := ⟨#[97, 98, 99, 100, 101, 102, 103, 104, 105, 106, 107, 108, 109, 110, 111, 112, 113, 114, 115, 116, 117, 118, 119, 120, 121, 122]⟩
def digitsB : ByteArray := ⟨#[48, 49, 50, 51, 52, 53, 54, 55, 56, 57]⟩
def signsB : ByteArray := ⟨#[123, 125, 59, 61]⟩
def namesB : ByteArray := ⟨#[97, 98, 99, 100, 101, 102, 103, 104, 105, 106, 107, 108, 109, 110, 111, 112, 113, 114, 115, 116, 117, 118, 119, 120, 121, 122, 48, 49, 50, 51, 52, 53, 54, 55, 56, 57, 95]⟩
theorem all256 {p q : UInt8 → Bool} (h : ∀ b : Fin 256, p (UInt8.ofNat b.val) = q (UInt8.ofNat b.val)) (b : UInt8) : p b = q b := by
  have := h ⟨b.toNat, UInt8.toNat_lt b⟩
  simpa using this
theorem letters_has (c : UInt8) : decide (0 ≤ Lib.indexByte lettersB.data.toList c) = Lx.small c := all256 (p := fun c => decide (0 ≤ Lib.indexByte lettersB.data.toList c)) (q := Lx.small) (by decide +kernel) c
theorem digits_has (c : UInt8) : decide (0 ≤ Lib.indexByte digitsB.data.toList c) = Lx.digit c := all256 (p := fun c => decide (0 ≤ Lib.indexByte digitsB.data.toList c)) (q := Lx.digit) (by decide +kernel) c
theorem signs_has (c : UInt8) : decide (0 ≤ Lib.indexByte signsB.data.toList c) = Lx.sign c := all256 (p := fun c => decide (0 ≤ Lib.indexByte signsB.data.toList c)) (q := Lx.sign) (by decide +kernel) c
theorem names_has : namesB.data.toList.contains = Lx.inName := funext (all256 (by decide +kernel))
theorem digits_all : digitsB.data.toList.contains = Lx.digit := funext (all256 (by decide +kernel))
theorem names_ascii : ∀ (j : Nat) b, namesB.data.toList[j]? = some b → b.toNat < 128 := fun j b h => by
  have h2 : ∀ b ∈ namesB.data.toList, b.toNat < 128 := by decide
  exact h2 b (List.mem_of_getElem? h)
theorem digits_ascii : ∀ (j : Nat) b, digitsB.data.toList[j]? = some b → b.toNat < 128 := fun j b h => by
  have h2 : ∀ b ∈ digitsB.data.toList, b.toNat < 128 := by decide
  exact h2 b (List.mem_of_getElem? h)
theorem has_letters (c : UInt8) (w : World) : Calls Tryd.prog 51 #[.string ⟨#[97, 98, 99, 100, 101, 102, 103, 104, 105, 106, 107, 108, 109, 110, 111, 112, 113, 114, 115, 116, 117, 118, 119, 120, 121, 122]⟩, .string ⟨#[c]⟩] w fun e w' => e = .returned (.bool (Lx.small c)) ∧ w' = w := by
  have h := Tryd.strings_Contains_one lettersB c w
  rw [letters_has] at h
  exact h
theorem has_digits (c : UInt8) (w : World) : Calls Tryd.prog 51 #[.string ⟨#[48, 49, 50, 51, 52, 53, 54, 55, 56, 57]⟩, .string ⟨#[c]⟩] w fun e w' => e = .returned (.bool (Lx.digit c)) ∧ w' = w := by
  have h := Tryd.strings_Contains_one digitsB c w
  rw [digits_has] at h
  exact h
theorem has_signs (c : UInt8) (w : World) : Calls Tryd.prog 51 #[.string ⟨#[123, 125, 59, 61]⟩, .string ⟨#[c]⟩] w fun e w' => e = .returned (.bool (Lx.sign c)) ∧ w' = w := by
  have h := Tryd.strings_Contains_one signsB c w
  rw [signs_has] at h
  exact h
theorem run_names (l : List UInt8) (hl : l.length ≤ 16777216) (w : World) : Calls Tryd.prog 53 #[.string ⟨l.toArray⟩, .string ⟨#[97, 98, 99, 100, 101, 102, 103, 104, 105, 106, 107, 108, 109, 110, 111, 112, 113, 114, 115, 116, 117, 118, 119, 120, 121, 122, 48, 49, 50, 51, 52, 53, 54, 55, 56, 57, 95]⟩] w fun e w' => e = .returned (.string ⟨(l.takeWhile Lx.inName).toArray⟩) ∧ Below w.heap.size w w' := by
  have h := run_any l hl namesB (by decide) (by decide) names_ascii w
  rw [names_has] at h
  exact h
theorem run_digits (l : List UInt8) (hl : l.length ≤ 16777216) (w : World) : Calls Tryd.prog 53 #[.string ⟨l.toArray⟩, .string ⟨#[48, 49, 50, 51, 52, 53, 54, 55, 56, 57]⟩] w fun e w' => e = .returned (.string ⟨(l.takeWhile Lx.digit).toArray⟩) ∧ Below w.heap.size w w' := by
  have h := run_any l hl digitsB (by decide) (by decide) digits_ascii w
  rw [digits_all] at h
  exact h

/-- The three results as they are told. -/
theorem nxv_form (c : UInt8) (l : List UInt8) : ∃ (k : Nat) (t : List UInt8) (n e : Nat), nxv c l = .tuple #[.agg #[.int .i64 (k : Int), .string ⟨t.toArray⟩, .int .i64 (0 : Nat)], .int .i64 (n : Int), .int .i64 (e : Int)] := by
  unfold nxv
  cases Lx.next c l with
  | error e => exact ⟨0, [], 0, e, rfl⟩
  | ok x => obtain ⟨k, t, r⟩ := x; exact ⟨k, t, _, 0, rfl⟩
theorem bounded_form (k : Nat) (l : List UInt8) (m f : Nat) : ∃ (k' : Nat) (t : List UInt8) (n e : Nat), (if m < l.length then Value.tuple #[tkv 0 [] 0, .int .i64 0, .int .i64 (f : Int)] else .tuple #[tkv k l 0, .int .i64 (l.length : Int), .int .i64 0]) = .tuple #[.agg #[.int .i64 (k' : Int), .string ⟨t.toArray⟩, .int .i64 (0 : Nat)], .int .i64 (n : Int), .int .i64 (e : Int)] := by
  by_cases h : m < l.length
  · rw [if_pos h]; exact ⟨0, [], 0, f, rfl⟩
  · rw [if_neg h]; exact ⟨k, l, _, 0, rfl⟩
theorem nxv_name {c : UInt8} {l : List UInt8} (h : Lx.small c = true) : nxv c l = if 12 < ((c :: l).takeWhile Lx.inName).length then .tuple #[tkv 0 [] 0, .int .i64 0, .int .i64 (13 : Nat)] else .tuple #[tkv 1 ((c :: l).takeWhile Lx.inName) 0, .int .i64 (((c :: l).takeWhile Lx.inName).length : Int), .int .i64 0] := by
  have h34 : ¬ c = 34 := fun e => by rw [e] at h; cases h
  have hl := take_drop_len Lx.inName (c :: l)
  simp only [List.length_cons] at hl
  by_cases hb : 12 < ((c :: l).takeWhile Lx.inName).length
  · rw [if_pos hb, nxv_err (e := 13) (by unfold Lx.next; rw [if_neg h34, if_pos h, if_pos hb])]
  · rw [if_neg hb, nxv_ok (k := 1) (t := (c :: l).takeWhile Lx.inName) (r := (c :: l).dropWhile Lx.inName) (by unfold Lx.next; rw [if_neg h34, if_pos h, if_neg hb]), hl, Nat.add_sub_cancel]
theorem nxv_int {c : UInt8} {l : List UInt8} (h : Lx.digit c = true) : nxv c l = if 9 < ((c :: l).takeWhile Lx.digit).length then .tuple #[tkv 0 [] 0, .int .i64 0, .int .i64 (12 : Nat)] else .tuple #[tkv 2 ((c :: l).takeWhile Lx.digit) 0, .int .i64 (((c :: l).takeWhile Lx.digit).length : Int), .int .i64 0] := by
  have h34 : ¬ c = 34 := fun e => by rw [e] at h; cases h
  have hs : ¬ Lx.small c = true := fun e => by simp [Lx.small, Lx.digit] at e h; omega
  have hl := take_drop_len Lx.digit (c :: l)
  simp only [List.length_cons] at hl
  by_cases hb : 9 < ((c :: l).takeWhile Lx.digit).length
  · rw [if_pos hb, nxv_err (e := 12) (by unfold Lx.next; rw [if_neg h34, if_neg hs, if_pos h, if_pos hb])]
  · rw [if_neg hb, nxv_ok (k := 2) (t := (c :: l).takeWhile Lx.digit) (r := (c :: l).dropWhile Lx.digit) (by unfold Lx.next; rw [if_neg h34, if_neg hs, if_pos h, if_neg hb]), hl, Nat.add_sub_cancel]

set_option maxRecDepth 20000 in
set_option maxRecDepth 20000 in
set_option maxHeartbeats 4000000 in
theorem first_name (c : UInt8) (l : List UInt8) (hl : l.length ≤ 1048576) (hc : Lx.small c = true) (w : World) :
    Calls Tryd.prog 36 #[.string ⟨(c :: l).toArray⟩] w fun e w' => e = .returned (nxv c l) ∧ Below w.heap.size w w' := by
  obtain ⟨q, hq⟩ : ∃ q, q = c :: l := ⟨_, rfl⟩
  have hz : (⟨q.toArray⟩ : ByteArray).size = l.length + 1 := by show q.toArray.size = _; rw [hq]; simp
  have hE : (⟨q.toArray⟩ : ByteArray).extract 0 1 = ⟨#[c]⟩ := by rw [ba_extract, hq]; simp
  have hp : (0 : Int) ≤ (l.length : Int) := by omega
  have hp1 : (1 : Int) ≤ (l.length : Int) + 1 := by omega
  have C1 := fun wx => has_letters c wx
  have C2 := fun wx => has_digits c wx
  have C3 := fun wx => has_signs c wx
  rw [hc] at C1
  have hv := nxv_name hc (l := l)
  have hr := fun wx => run_names (c :: l) (by simp; omega) wx
  have hT : ((c :: l).takeWhile Lx.inName).length ≤ l.length + 1 := by have := take_drop_len Lx.inName (c :: l); simp only [List.length_cons] at this; omega
  rw [← hq] at hr hv hT ⊢
  generalize q.takeWhile Lx.inName = R at *
  have hbd := fun wx => bounded_any 1 R (by omega) 12 13 wx
  obtain ⟨k, t, n, e, hf⟩ := bounded_form 1 R 12 13
  rw [hf] at hbd hv
  have HV := Lib.hid hv
  clear hq hc hv hf C3
  clear C2
  go_enter Tryd.func36, Tryd.ntmps36
  go_wp2_with (first
    | (go_at_call 51; refine (C1 _).mono ?_; rintro e w' ⟨rfl, hw⟩; rw [hw]; clear hw C1)
    | (go_at_call 53; refine (hr _).mono ?_; rintro e w1 ⟨rfl, hb1⟩; clear hr)
    | (go_at_call 52; refine (hbd _).mono ?_; rintro e w2 ⟨rfl, hb2⟩; have hres := ((Tk3.new w 0 [] 0).below hb1).below hb2; have hbl := ((Below.refl _ w).alloc (Nat.le_refl _) _).trans ((hb1.trans (hb2.mono hb1.size)).mono (by simp)); have d0 := hres.c0; have d1 := hres.c1; have d2 := hres.c2; have df := hres.fr; clear hbd))
  have HZ := Lib.hid (hres.set k t 0)
  have HB := Lib.hid (below_set3t hbl (Nat.le_refl _) (.int .i64 (k : Int)) (.string ⟨t.toArray⟩) (.int .i64 (0 : Nat)))
  clear hres hbl
  refine bodyPost_ret (v := .tuple #[.agg #[.int .i64 (k : Int), .string ⟨t.toArray⟩, .int .i64 (0 : Nat)], .int .i64 (n : Int), .int .i64 (e : Int)]) (by have d0 := HZ.out.c0; have d1 := HZ.out.c1; have d2 := HZ.out.c2; simp at d0 d1 d2; simp [results, Tryd.results36, go_sem, d0, d1, d2]) rfl ⟨by rw [HV.out], HB.out⟩

set_option maxRecDepth 20000 in
set_option maxRecDepth 20000 in
set_option maxHeartbeats 4000000 in
theorem first_int (c : UInt8) (l : List UInt8) (hl : l.length ≤ 1048576) (hc : Lx.digit c = true) (w : World) :
    Calls Tryd.prog 36 #[.string ⟨(c :: l).toArray⟩] w fun e w' => e = .returned (nxv c l) ∧ Below w.heap.size w w' := by
  obtain ⟨q, hq⟩ : ∃ q, q = c :: l := ⟨_, rfl⟩
  have hz : (⟨q.toArray⟩ : ByteArray).size = l.length + 1 := by show q.toArray.size = _; rw [hq]; simp
  have hE : (⟨q.toArray⟩ : ByteArray).extract 0 1 = ⟨#[c]⟩ := by rw [ba_extract, hq]; simp
  have hp : (0 : Int) ≤ (l.length : Int) := by omega
  have hp1 : (1 : Int) ≤ (l.length : Int) + 1 := by omega
  have C1 := fun wx => has_letters c wx
  have C2 := fun wx => has_digits c wx
  have C3 := fun wx => has_signs c wx
  rw [hc] at C2
  rw [show Lx.small c = false by rw [Bool.eq_false_iff]; intro e; simp [Lx.small, Lx.digit] at e hc; omega] at C1
  have hv := nxv_int hc (l := l)
  have hr := fun wx => run_digits (c :: l) (by simp; omega) wx
  have hT : ((c :: l).takeWhile Lx.digit).length ≤ l.length + 1 := by have := take_drop_len Lx.digit (c :: l); simp only [List.length_cons] at this; omega
  rw [← hq] at hr hv hT ⊢
  generalize q.takeWhile Lx.digit = R at *
  have hbd := fun wx => bounded_any 2 R (by omega) 9 12 wx
  obtain ⟨k, t, n, e, hf⟩ := bounded_form 2 R 9 12
  rw [hf] at hbd hv
  have HV := Lib.hid hv
  clear hq hc hv hf C3
  go_enter Tryd.func36, Tryd.ntmps36
  go_wp2_with (first
    | (go_at_call 51; refine (C1 _).mono ?_; rintro e w' ⟨rfl, hw⟩; rw [hw]; clear hw C1)
    | (go_at_call 51; refine (C2 _).mono ?_; rintro e w' ⟨rfl, hw⟩; rw [hw]; clear hw C2)
    | (go_at_call 53; refine (hr _).mono ?_; rintro e w1 ⟨rfl, hb1⟩; clear hr)
    | (go_at_call 52; refine (hbd _).mono ?_; rintro e w2 ⟨rfl, hb2⟩; have hres := ((Tk3.new w 0 [] 0).below hb1).below hb2; have hbl := ((Below.refl _ w).alloc (Nat.le_refl _) _).trans ((hb1.trans (hb2.mono hb1.size)).mono (by simp)); have d0 := hres.c0; have d1 := hres.c1; have d2 := hres.c2; have df := hres.fr; clear hbd))
  have HZ := Lib.hid (hres.set k t 0)
  have HB := Lib.hid (below_set3t hbl (Nat.le_refl _) (.int .i64 (k : Int)) (.string ⟨t.toArray⟩) (.int .i64 (0 : Nat)))
  clear hres hbl
  refine bodyPost_ret (v := .tuple #[.agg #[.int .i64 (k : Int), .string ⟨t.toArray⟩, .int .i64 (0 : Nat)], .int .i64 (n : Int), .int .i64 (e : Int)]) (by have d0 := HZ.out.c0; have d1 := HZ.out.c1; have d2 := HZ.out.c2; simp at d0 d1 d2; simp [results, Tryd.results36, go_sem, d0, d1, d2]) rfl ⟨by rw [HV.out], HB.out⟩

set_option maxRecDepth 20000 in
set_option maxRecDepth 20000 in
set_option maxHeartbeats 4000000 in
theorem first_sign (c : UInt8) (l : List UInt8) (hl : l.length ≤ 1048576) (hc : Lx.sign c = true) (w : World) :
    Calls Tryd.prog 36 #[.string ⟨(c :: l).toArray⟩] w fun e w' => e = .returned (nxv c l) ∧ Below w.heap.size w w' := by
  obtain ⟨q, hq⟩ : ∃ q, q = c :: l := ⟨_, rfl⟩
  have hz : (⟨q.toArray⟩ : ByteArray).size = l.length + 1 := by show q.toArray.size = _; rw [hq]; simp
  have hE : (⟨q.toArray⟩ : ByteArray).extract 0 1 = ⟨#[c]⟩ := by rw [ba_extract, hq]; simp
  have hp : (0 : Int) ≤ (l.length : Int) := by omega
  have hp1 : (1 : Int) ≤ (l.length : Int) + 1 := by omega
  have C1 := fun wx => has_letters c wx
  have C2 := fun wx => has_digits c wx
  have C3 := fun wx => has_signs c wx
  rw [hc] at C3
  have c4 : c = 123 ∨ c = 125 ∨ c = 59 ∨ c = 61 := by simpa [Lx.sign, or_assoc] using hc
  rw [show Lx.small c = false by rcases c4 with rfl | rfl | rfl | rfl <;> rfl] at C1
  rw [show Lx.digit c = false by rcases c4 with rfl | rfl | rfl | rfl <;> rfl] at C2
  have hv : nxv c l = .tuple #[.agg #[.int .i64 (4 : Nat), .string ⟨[c].toArray⟩, .int .i64 (0 : Nat)], .int .i64 (1 : Nat), .int .i64 (0 : Nat)] := by
    rw [nxv_ok (k := 4) (t := [c]) (r := l) (by rcases c4 with rfl | rfl | rfl | rfl <;> rfl), show l.length + 1 - l.length = 1 by omega]; rfl
  have HV := Lib.hid hv
  have hres := Tk3.new w 0 [] 0
  have hbl := (Below.refl _ w).alloc (Nat.le_refl _) (.cells #[.int .i64 0, .string ⟨#[]⟩, .int .i64 0] 53)
  have d0 := hres.c0
  have d1 := hres.c1
  have d2 := hres.c2
  have df := hres.fr
  have HZ := Lib.hid (hres.set 4 [c] 0)
  have HB := Lib.hid (below_set3t hbl (Nat.le_refl _) (.int .i64 (4 : Nat)) (.string ⟨[c].toArray⟩) (.int .i64 (0 : Nat)))
  obtain ⟨k, hk⟩ : ∃ k : Nat, k = 4 := ⟨_, rfl⟩
  rw [← hq]
  clear hq hc hv c4
  go_enter Tryd.func36, Tryd.ntmps36
  go_wp2_with (first
    | (go_at_call 51; refine (C1 _).mono ?_; rintro e w' ⟨rfl, hw⟩; rw [hw]; clear hw C1)
    | (go_at_call 51; refine (C2 _).mono ?_; rintro e w' ⟨rfl, hw⟩; rw [hw]; clear hw C2)
    | (go_at_call 51; refine (C3 _).mono ?_; rintro e w' ⟨rfl, hw⟩; rw [hw]; clear hw C3))
  refine bodyPost_ret (v := .tuple #[.agg #[.int .i64 (4 : Nat), .string ⟨[c].toArray⟩, .int .i64 (0 : Nat)], .int .i64 (1 : Nat), .int .i64 (0 : Nat)]) (by simp [results, Tryd.results36, go_sem]) rfl ⟨by rw [HV.out], (Below.refl _ w).alloc (Nat.le_refl _) _⟩

set_option maxRecDepth 20000 in
set_option maxRecDepth 20000 in
set_option maxHeartbeats 4000000 in
theorem first_text (c : UInt8) (l : List UInt8) (hl : l.length ≤ 1048576) (hc : c = 34) (w : World) :
    Calls Tryd.prog 36 #[.string ⟨(c :: l).toArray⟩] w fun e w' => e = .returned (nxv c l) ∧ Below w.heap.size w w' := by
  obtain ⟨q, hq⟩ : ∃ q, q = c :: l := ⟨_, rfl⟩
  have hz : (⟨q.toArray⟩ : ByteArray).size = l.length + 1 := by show q.toArray.size = _; rw [hq]; simp
  have hE : (⟨q.toArray⟩ : ByteArray).extract 0 1 = ⟨#[c]⟩ := by rw [ba_extract, hq]; simp
  have hp : (0 : Int) ≤ (l.length : Int) := by omega
  have hp1 : (1 : Int) ≤ (l.length : Int) + 1 := by omega
  have C1 := fun wx => has_letters c wx
  have C2 := fun wx => has_digits c wx
  have C3 := fun wx => has_signs c wx
  subst hc
  rw [show Lx.small 34 = false from rfl] at C1
  rw [show Lx.digit 34 = false from rfl] at C2
  rw [show Lx.sign 34 = false from rfl] at C3
  have ht := fun wx => text_any l hl wx
  obtain ⟨k, t, n, e, hv⟩ := nxv_form 34 l
  rw [hv] at ht
  have HV := Lib.hid hv
  rw [← hq] at ht ⊢
  clear hq hv
  go_enter Tryd.func36, Tryd.ntmps36
  go_wp2_with (first
    | (go_at_call 51; refine (C1 _).mono ?_; rintro e w' ⟨rfl, hw⟩; rw [hw]; clear hw C1)
    | (go_at_call 51; refine (C2 _).mono ?_; rintro e w' ⟨rfl, hw⟩; rw [hw]; clear hw C2)
    | (go_at_call 51; refine (C3 _).mono ?_; rintro e w' ⟨rfl, hw⟩; rw [hw]; clear hw C3)
    | (go_at_call 54; refine (ht _).mono ?_; rintro e w1 ⟨rfl, hb1⟩; have hres := ((Tk3.new w 0 [] 0).below hb1); have hbl := ((Below.refl _ w).alloc (Nat.le_refl _) _).trans (hb1.mono (by simp)); have d0 := hres.c0; have d1 := hres.c1; have d2 := hres.c2; have df := hres.fr; clear ht))
  have HZ := Lib.hid (hres.set k t 0)
  have HB := Lib.hid (below_set3t hbl (Nat.le_refl _) (.int .i64 (k : Int)) (.string ⟨t.toArray⟩) (.int .i64 (0 : Nat)))
  clear hres hbl
  refine bodyPost_ret (v := .tuple #[.agg #[.int .i64 (k : Int), .string ⟨t.toArray⟩, .int .i64 (0 : Nat)], .int .i64 (n : Int), .int .i64 (e : Int)]) (by have d0 := HZ.out.c0; have d1 := HZ.out.c1; have d2 := HZ.out.c2; simp at d0 d1 d2; simp [results, Tryd.results36, go_sem, d0, d1, d2]) rfl ⟨by rw [HV.out], HB.out⟩

set_option maxRecDepth 20000 in
set_option maxRecDepth 20000 in
set_option maxHeartbeats 4000000 in
theorem first_none (c : UInt8) (l : List UInt8) (hl : l.length ≤ 1048576) (hc : Lx.small c = false ∧ Lx.digit c = false ∧ Lx.sign c = false ∧ ¬ c = 34) (w : World) :
    Calls Tryd.prog 36 #[.string ⟨(c :: l).toArray⟩] w fun e w' => e = .returned (nxv c l) ∧ Below w.heap.size w w' := by
  obtain ⟨q, hq⟩ : ∃ q, q = c :: l := ⟨_, rfl⟩
  have hz : (⟨q.toArray⟩ : ByteArray).size = l.length + 1 := by show q.toArray.size = _; rw [hq]; simp
  have hE : (⟨q.toArray⟩ : ByteArray).extract 0 1 = ⟨#[c]⟩ := by rw [ba_extract, hq]; simp
  have hp : (0 : Int) ≤ (l.length : Int) := by omega
  have hp1 : (1 : Int) ≤ (l.length : Int) + 1 := by omega
  have C1 := fun wx => has_letters c wx
  have C2 := fun wx => has_digits c wx
  have C3 := fun wx => has_signs c wx
  obtain ⟨h1, h2, h3, h4⟩ := hc
  rw [h1] at C1
  rw [h2] at C2
  rw [h3] at C3
  have hv : nxv c l = .tuple #[.agg #[.int .i64 (0 : Nat), .string ⟨#[]⟩, .int .i64 (0 : Nat)], .int .i64 (0 : Nat), .int .i64 (10 : Nat)] := by
    rw [nxv_err (e := 10) (by unfold Lx.next; rw [if_neg h4, if_neg (by simp [h1]), if_neg (by simp [h2]), if_neg (by simp [h3])])]; rfl
  have HV := Lib.hid hv
  have f1 : ((c.toNat : Int) == 34) = false := beq_eq_false_iff_ne.2 fun e => h4 (UInt8.toNat_inj.1 (show c.toNat = (34 : UInt8).toNat by show c.toNat = 34; omega))
  have hx : ∀ h, (⟨#[c]⟩ : ByteArray)[0]'h = c := fun h => rfl
  rw [← hq]
  clear hq h1 h2 h3 h4 hv
  go_enter Tryd.func36, Tryd.ntmps36
  go_wp2_with (first
    | (go_at_call 51; refine (C1 _).mono ?_; rintro e w' ⟨rfl, hw⟩; rw [hw]; clear hw C1)
    | (go_at_call 51; refine (C2 _).mono ?_; rintro e w' ⟨rfl, hw⟩; rw [hw]; clear hw C2)
    | (go_at_call 51; refine (C3 _).mono ?_; rintro e w' ⟨rfl, hw⟩; rw [hw]; clear hw C3))
  refine bodyPost_ret (v := .tuple #[.agg #[.int .i64 (0 : Nat), .string ⟨#[]⟩, .int .i64 (0 : Nat)], .int .i64 (0 : Nat), .int .i64 (10 : Nat)]) (by simp [results, Tryd.results36, go_sem]) rfl ⟨by rw [HV.out], (Below.refl _ w).alloc (Nat.le_refl _) _⟩
theorem first_any (c : UInt8) (l : List UInt8) (hl : l.length ≤ 1048576) (w : World) :
    Calls Tryd.prog 36 #[.string ⟨(c :: l).toArray⟩] w fun e w' => e = .returned (nxv c l) ∧ Below w.heap.size w w' := by
  by_cases h1 : Lx.small c = true
  · exact first_name c l hl h1 w
  by_cases h2 : Lx.digit c = true
  · exact first_int c l hl h2 w
  by_cases h3 : Lx.sign c = true
  · exact first_sign c l hl h3 w
  by_cases h4 : c = 34
  · exact first_text c l hl h4 w
  exact first_none c l hl ⟨by simpa using h1, by simpa using h2, by simpa using h3, h4⟩ w
end Go.Proofs.YtiikionoagmabaaDoor

/- lex.All walked (layer 14). -/
namespace Go.Proofs.YtiikionoagmabaaDoor
open Go.RowKit


theorem tok_info : (Tryd.prog.info? 53).map (fun i => (i.zero, i.size, i.bytes)) = some (some (.agg #[.int .i64 0, .string ⟨#[]⟩, .int .i64 0]), 3, 32) := by kernel_rfl
/-- 'append(l, t)': t lies in a block of its own. -/
theorem append_tok {ops : Array Oper} {rest : List Oper} {o : Oper} {a : Act} {Q : Exit → Act → World → Prop} {w : World} {B b : Nat} {v : Value} {ts : List Lx.Tok} (t : Lx.Tok)
    (hgd : o.guard = none) (s x : Operand) (ho : o.op = .call { callee := .builtin .append, args := #[s, x], argTypes := #[40, 40] })
    (hs : a.eval s = v) (h : TO w B 53 v ts) (hx : a.eval x = .slice (some ⟨b, 0, none⟩) 1 1) (hb : w.heap[b]? = some (.cells (tokCells t).toArray 53 (0, 0)))
    (hn : ts.length ≤ 1048576) (hB : B ≤ w.heap.size)
    (h' : ∀ g cap w', TO w' B 53 (.slice (some ⟨g, 0, none⟩) (ts.length + 1) cap) (ts ++ [t]) → w.grownBy w' v.ownBlock → wpList Tryd.prog ops Q rest (a.put o.dst (.slice (some ⟨g, 0, none⟩) (ts.length + 1) cap)) w') : wpList Tryd.prog ops Q (o :: rest) a w := by
  obtain ⟨i0, hi, hz0, hz1, hz2⟩ := info_parts tok_info
  exact wpList_plain hgd fun _ hK => wp_append_tok t Tryd.underlying40 hi hz0 hz1 hz2 rfl (by decide) s x ho hs h hx hb hn hB fun g cap w' h2 h3 _ => hK _ _ (h' g cap w' h2 h3)

/-- What holds at the head of a round. -/
structure AS (w wr : World) (l : List UInt8) (k : Nat) (v : Value) (ts : List Lx.Tok) : Prop where
  below : Below w.heap.size w wr
  row : TO wr w.heap.size 53 v ts
  hk : k ≤ l.length
  few : ts.length ≤ 400
  fix : Lx.skip false (l.drop k) = l.drop k
  eq : Lx.go l.length l.length 0 (Lx.skip false l) = Lx.mapE ts (Lx.go l.length l.length ts.length (l.drop k))
/-- What All answers. -/
def AllP (r : Except (Nat × Nat) (List Lx.Tok)) (w : World) (e : Ending) (w' : World) : Prop := Below w.heap.size w w' ∧ match r with
  | .error (p, f) => e = .returned (.tuple #[.slice none 0 0, .int .i64 (p : Int), .int .i64 (f : Int)])
  | .ok ts => ∃ v, e = .returned (.tuple #[v, .int .i64 0, .int .i64 0]) ∧ TO w' w.heap.size 53 v ts

set_option maxRecDepth 20000 in
set_option maxHeartbeats 4000000 in
theorem all_any (l : List UInt8) (hl : l.length ≤ 1048576) (w : World) :
    Calls Tryd.prog 23 #[.string ⟨l.toArray⟩] w fun e w' => AllP (Lx.all l) w e w' := by
  have hz : (⟨l.toArray⟩ : ByteArray).size = l.length := rfl
  have PA := Lib.hid (fun s h wx => passed_any s h wx)
  have FI := Lib.hid (fun c s h wx => first_any c s h wx)
  obtain ⟨L, hL⟩ : ∃ L, l.length = L := ⟨_, rfl⟩
  by_cases hbig : 2000 < L
  · have hall : Lx.all l = .error (0, 4) := by unfold Lx.all; rw [hL, if_pos hbig]
    have hb1 : ((2000 : Int) < (L : Int)) = True := eq_true (by omega)
    rw [hL] at hz
    rw [hall]
    show Calls _ _ _ _ fun e w' => Below w.heap.size w w' ∧ e = .returned (.tuple #[.slice none 0 0, .int .i64 0, .int .i64 4])
    clear hall hbig hL hl
    go_enter Tryd.func23, Tryd.ntmps23
    go_wp2
    refine bodyPost_ret (v := .tuple #[.slice none 0 0, .int .i64 0, .int .i64 4]) (by simp [results, Tryd.results23, go_sem]) rfl ⟨Below.refl _ _, rfl⟩
  · have hb1 : ((2000 : Int) < (L : Int)) = False := eq_false (by omega)
    have hL2 : L ≤ 2000 := by omega
    have hall : Lx.all l = Lx.go l.length l.length 0 (Lx.skip false l) := by unfold Lx.all; rw [if_neg (by rw [hL]; exact hbig)]
    have hsl := Lx.skip_len false l
    have hp := PA.out l (by omega) w
    obtain ⟨k0, hk0⟩ : ∃ k0, l.length - (Lx.skip false l).length = k0 := ⟨_, rfl⟩
    have hd0 : l.drop k0 = Lx.skip false l := by rw [← hk0]; exact Lx.suf_drop (Lx.skip_suf false l)
    have hst : ∀ w', Below w.heap.size w w' → AS w w' l k0 (.slice none 0 0) [] := fun w' hb => ⟨hb, TO.nil _ _ _, by omega, by simp, by rw [hd0]; exact Lx.skip_skip false l, by rw [Lx.mapE_nil, hd0]; rfl⟩
    rw [hk0] at hp
    have HST := Lib.hid hst
    have HALL := Lib.hid hall
    have HL := Lib.hid hL
    have hk0L : k0 ≤ L := by omega
    rw [hL] at hz
    clear hst hk0 hd0 hsl hall hL hl hbig
    go_enter Tryd.func23, Tryd.ntmps23
    go_wp2_with (go_at_call 35; refine hp.mono ?_; rintro e w1 ⟨rfl, hb1⟩; have HS1 := Lib.hid (HST.out w1 hb1); clear hb1)
    clear hp HST
    go_loopw [5, 6, 7, 8, 9] (fun s5 s6 s7 s8 s9 wr => ∃ (k : Nat) (ts : List Lx.Tok), s6 = .int .i64 k ∧ Hid (AS w wr l k s5 ts)) (fun s5 s6 s7 s8 s9 _ => L - (intOf s6).toNat)
    case atStart => exact ⟨k0, [], rfl, HS1⟩
    case round =>
      obtain ⟨k, ts, rfl, HR⟩ := hrel
      clear HS1
      have hk2 := HR.out.hk
      rw [HL.out] at hk2
      have hown := HR.out.row
      obtain ⟨so, sc, hform, hcells⟩ := hown.form
      subst hform
      clear hcells
      obtain ⟨M, hM⟩ : ∃ M, ts.length = M := ⟨_, rfl⟩
      have hfew := HR.out.few
      have HM := Lib.hid hM
      by_cases hlt : k < L
      · obtain ⟨c, r, hd, hgc, hr, hrl⟩ := Lx.drop_cons (l := l) (k := k) (by rw [HL.out]; exact hlt)
        rw [HL.out] at hrl
        have hE : (⟨l.toArray⟩ : ByteArray).extract k L = ⟨(c :: r).toArray⟩ := by rw [ba_extract, List.take_of_length_le (by rw [HL.out]; exact Nat.le_refl _), hd]
        have hk3 : (k : Int) < (L : Int) := by omega
        have hf := FI.out c r (by omega)
        have heq := HR.out.eq
        rw [hd, HL.out, Lx.go_step L _ c r (by omega), hM] at heq
        rw [hM] at hfew hown ⊢
        have HD := Lib.hid hd
        clear hgc hr hd
        cases hn : Lx.next c r with
        | error e =>
          have he := Lx.next_err0 hn
          have hf2 := fun wx => hf wx
          rw [nxv_err hn] at hf2
          unfold tkv at hf2
          have HV := Lib.hid (show Lx.all l = .error (k, e) by rw [HALL.out, HL.out, heq, hn]; show Except.error (L - (r.length + 1), e) = _; rw [show L - (r.length + 1) = k by omega])
          have he1 : ((e : Int) == 0) = false := beq_eq_false_iff_ne.2 (by omega)
          have he2 : ((e : Int) = 0) = False := eq_false (by omega)
          have HB := Lib.hid HR.out.below
          have hsz := HB.out.size
          clear hf heq hn HR hown HD
          go_wp2_with (go_at_call 36; refine (hf2 _).mono ?_; rintro e w1 ⟨rfl, hb1⟩)
          refine bodyPost_ret (v := .tuple #[.slice none 0 0, .int .i64 (k : Int), .int .i64 (e : Int)]) (by simp [results, Tryd.results23, go_sem]) rfl ?_
          rw [HV.out]
          exact ⟨(HB.out.trans (hb1.mono hsz)).alloc (Nat.le_trans hsz hb1.size) _, rfl⟩
        | ok x =>
          obtain ⟨kd, t, rest⟩ := x
          have hsuf := Lx.next_suf hn
          have hsm := Lx.next_small hn
          have hf2 := fun wx => hf wx
          rw [nxv_ok hn] at hf2
          unfold tkv at hf2
          rw [hn] at heq
          dsimp only at heq
          obtain ⟨n, hnn⟩ : ∃ n, r.length + 1 - rest.length = n := ⟨_, rfl⟩
          rw [hnn] at hf2
          simp only [List.length_cons] at hsm
          by_cases h4 : 400 ≤ M
          · obtain rfl : M = 400 := by omega
            rw [if_pos h4] at heq
            have HV := Lib.hid (show Lx.all l = .error (0, 4) by rw [HALL.out, HL.out, heq]; rfl)
            have HB := Lib.hid HR.out.below
            have hsz := HB.out.size
            clear hf heq hn HR hown HD hsuf h4
            go_wp2_with (go_at_call 36; refine (hf2 _).mono ?_; rintro e w1 ⟨rfl, hb1⟩)
            refine bodyPost_ret (v := .tuple #[.slice none 0 0, .int .i64 0, .int .i64 4]) (by simp [results, Tryd.results23, go_sem]) rfl ?_
            rw [HV.out]
            exact ⟨(HB.out.trans (hb1.mono hsz)).alloc (Nat.le_trans hsz hb1.size) _, rfl⟩
          · rw [if_neg h4, show L - (r.length + 1) = k by omega] at heq
            have h41 : ((M : Int) == 400) = false := beq_eq_false_iff_ne.2 (by omega)
            have h42 : ((M : Int) = 400) = False := eq_false (by omega)
            have hB := HR.out.below.size
            have hM4 : M < 400 := by omega
            have HB := Lib.hid HR.out.below
            have HEQ := Lib.hid heq
            have HSUF := Lib.hid hsuf
            clear hf heq hn h4 hsuf HR
            have hnew : ∀ wx : World, ((wx.alloc (.cells #[.int .i64 (kd : Int), .string ⟨t.toArray⟩, .int .i64 (k : Int)] 53)).alloc (.cells #[.int .i64 (kd : Int), .string ⟨t.toArray⟩, .int .i64 (k : Int)] 53)).heap[wx.heap.size + 1]? = some (.cells (tokCells ⟨kd, t, k⟩).toArray 53 (0, 0)) := fun wx => heap_alloc2_new _ _ _
            have hal2 : ∀ (wx : World) (o o' : Obj), Below wx.heap.size wx ((wx.alloc o).alloc o') := fun wx o o' => ((Below.refl _ _).alloc (Nat.le_refl _) _).alloc (by simp) _
            go_wp2_with (first
              | (go_at_call 36; refine (hf2 _).mono ?_; rintro e w1 ⟨rfl, hb1⟩; have hown1 := hown.below hb1; have HB1 := Lib.hid (HB.out.trans (hb1.mono hB)); clear hb1 hf2)
              | (at_builtin; refine append_tok ⟨kd, t, k⟩ rfl (.tmp 36) (.tmp 38) rfl rfl (hown1.below (hal2 _ _ _)) rfl (hnew _) ?ca ?cb ?_))
            case ca => rw [HM.out]; omega
            case cb => have := HB1.out.size; simp; omega
            intro g2 c2 w2 hown2 hg2
            have HW2 := Lib.hid ((((HB1.out.trans (((hal2 w1 _ _)).mono HB1.out.size)).grown hg2 (by have := HB1.out.size; simp; omega) (fun g hg => (hown1.lt g hg).1)) : Below w.heap.size w w2))
            have HO2 := Lib.hid hown2
            have hrd : l.drop (k + n) = rest := by
              rw [← List.drop_drop, HD.out]
              have := Lx.suf_drop HSUF.out
              rw [List.length_cons, hnn] at this
              exact this
            have hE2 : (⟨l.toArray⟩ : ByteArray).extract (k + n) L = ⟨rest.toArray⟩ := by rw [ba_extract, List.take_of_length_le (by rw [HL.out]; exact Nat.le_refl _), hrd]
            have hkn : k + n ≤ L := by omega
            have hrl2 : rest.length + (k + n) = L := by rw [← hrd, List.length_drop, HL.out]; omega
            have hp := PA.out rest (by omega) w2
            have hsl := Lx.skip_len false rest
            obtain ⟨m, hm⟩ : ∃ m, rest.length - (Lx.skip false rest).length = m := ⟨_, rfl⟩
            rw [hm] at hp
            have hrm : l.drop (k + n + m) = Lx.skip false rest := by
              rw [← List.drop_drop, hrd, ← hm]
              exact Lx.suf_drop (Lx.skip_suf false rest)
            have hfix : Lx.skip false (l.drop (k + n + m)) = l.drop (k + n + m) := by rw [hrm]; exact Lx.skip_skip false rest
            have HN : Hid (∀ w3, Below w2.heap.size w2 w3 → AS w w3 l (k + n + m) (.slice (some ⟨g2, 0, none⟩) (M + 1) c2) (ts ++ [⟨kd, t, k⟩])) := Lib.hid fun w3 hb3 =>
              ⟨HW2.out.trans (hb3.mono HW2.out.size), HO2.out.below hb3, by rw [HL.out]; omega, by rw [List.length_append, HM.out]; simp; omega, hfix, by
                have h := HEQ.out
                rw [Lx.mapE_mapE] at h
                rw [HL.out, h, List.length_append, HM.out, hrm]
                rfl⟩
            have hkm : k + n + m ≤ L := by omega
            have hn1 : 1 ≤ n := by omega
            clear hnew hal2 hfix hrm hm hsl hrl2 hrd hown2 hg2 hown1 HSUF HD HEQ hrl HO2 HB1 hown hfew hnn hsm hE
            have hkn0 : (k : Int) + (n : Int) ≤ (L : Int) := by omega
            go_wp2_with (go_at_call 35; refine hp.mono ?_; rintro e w3 ⟨rfl, hb3⟩; have HN3 := Lib.hid (HN.out w3 hb3))
            go_roundw
            case rel => exact ⟨k + n + m, _, by first | rfl | go_num, HN3⟩
            case measure => simp [intOf]; omega
      · have hkL : k = L := by omega
        subst hkL
        have heq := HR.out.eq
        rw [List.drop_of_length_le (by rw [HL.out]; exact Nat.le_refl _), HL.out] at heq
        have HV := Lib.hid (show Lx.all l = .ok (ts ++ [⟨0, [], k⟩]) by
          rw [HALL.out, HL.out, heq]
          cases k <;> rfl)
        have HB := Lib.hid HR.out.below
        have hsz := HB.out.size
        have hnew : ∀ wx : World, (wx.alloc (.cells #[.int .i64 (0 : Int), .string ⟨#[]⟩, .int .i64 (k : Int)] 53)).heap[wx.heap.size]? = some (.cells (tokCells ⟨0, [], k⟩).toArray 53 (0, 0)) := fun wx => heap_alloc_new _ _
        rw [hM] at hfew hown ⊢
        clear heq HR
        go_wp2_with (at_builtin; refine append_tok ⟨0, [], k⟩ rfl (.tmp 49) (.tmp 52) rfl rfl (hown.below ((Below.refl _ _).alloc (Nat.le_refl _) _)) rfl (hnew _) ?ca ?cb ?_)
        case ca => rw [HM.out]; omega
        case cb => simp; omega
        intro g2 c2 w2 hown2 hg2
        have HW2 := Lib.hid (((HB.out.alloc hsz _).grown hg2 (by simp; omega) (fun g hg => (hown.lt g hg).1)) : Below w.heap.size w w2)
        have HO2 := Lib.hid hown2
        clear hown2 hg2
        go_wp2
        refine bodyPost_ret (v := .tuple #[.slice (some ⟨g2, 0, none⟩) (M + 1) c2, .int .i64 0, .int .i64 0]) (by simp [results, Tryd.results23, go_sem]) rfl ?_
        rw [HV.out]
        exact ⟨HW2.out, _, rfl, HO2.out⟩
end Go.Proofs.YtiikionoagmabaaDoor

/- parse.All walked (layer 15). -/
namespace Go.Proofs.YtiikionoagmabaaDoor
open Go.RowKit

/-- A script's statements, read; all from block B on. -/
def PR (B : Nat) (w : World) (sv tv : Value) (row : List Ps.St) (top : List Nat) : Prop := ∃ cs : List SA, rowOf cs = row ∧
  (∃ ao cap, sv = .slice ao cs.length cap ∧ ∀ (k : Nat) c, cs[k]? = some c → ∃ g, ao = some ⟨g, 0, none⟩ ∧ B ≤ g ∧ ∀ i u, (stCells c)[i]? = some u → w.cell? ⟨g, k * 8 + i, none⟩ = some u) ∧
  (∀ c ∈ cs, (Rd w c.l (c.st.l.map nv) ∧ Rd w c.m (c.st.m.map nv)) ∧ (c.l.oneCell' = true ∧ c.m.oneCell' = true) ∧ ∀ k, c.l.ownBlock = some k ∨ c.m.ownBlock = some k → B ≤ k) ∧ Rd w tv (top.map nv) ∧ ∀ k, tv.ownBlock = some k → B ≤ k
section
variable {B : Nat} {w w' : World} {sv tv : Value} {row : List Ps.St} {top : List Nat}
theorem Rd.blocks {v : Value} {vs : List Value} (h : Rd w v vs) (hb : ∀ k, v.ownBlock = some k → k < w.heap.size → w'.heap[k]? = w.heap[k]?) : Rd w' v vs := by
  rcases h with h | ⟨b, o, cap, e, g1, g2, g3⟩
  · exact .inl h
  · refine .inr ⟨b, o, cap, e, g1, g2, fun j u hj => ?_⟩
    have hc := g3 j u hj
    exact (World.cell?_of_block (a := ⟨b, o + j, none⟩) (hb b (by rw [e]; rfl) (World.block_lt_of_cell? w _ hc))).trans hc
theorem PR.past (h : PR B w sv tv row top) (hb : ∀ k, B ≤ k → w'.heap[k]? = w.heap[k]?) : PR B w' sv tv row top := by
  obtain ⟨cs, h1, ⟨ao, cap, h2, h3⟩, h4, h5, h6⟩ := h
  refine ⟨cs, h1, ⟨ao, cap, h2, fun k c hk => ?_⟩, fun c hc => ⟨⟨(h4 c hc).1.1.blocks fun k hk _ => hb k ((h4 c hc).2.2 k (.inl hk)), (h4 c hc).1.2.blocks fun k hk _ => hb k ((h4 c hc).2.2 k (.inr hk))⟩, (h4 c hc).2⟩, h5.blocks fun k hk _ => hb k (h6 k hk), h6⟩
  obtain ⟨g, e, hg, hc⟩ := h3 k c hk
  exact ⟨g, e, hg, fun i u hu => (World.cell?_of_block (a := ⟨g, k * 8 + i, none⟩) (hb g hg)).trans (hc i u hu)⟩
theorem PR.below (h : PR B w sv tv row top) (hb : Below w.heap.size w w') : PR B w' sv tv row top := by
  obtain ⟨cs, h1, ⟨ao, cap, h2, h3⟩, h4, h5, h6⟩ := h
  refine ⟨cs, h1, ⟨ao, cap, h2, fun k c hk => ?_⟩, fun c hc => ⟨⟨(h4 c hc).1.1.below hb, (h4 c hc).1.2.below hb⟩, (h4 c hc).2⟩, h5.below hb, h6⟩
  obtain ⟨g, e, hg, hc⟩ := h3 k c hk
  exact ⟨g, e, hg, fun i u hu => (hb.cell (World.block_lt_of_cell? w _ (hc i u hu))).trans (hc i u hu)⟩
theorem PR.lower {C : Nat} (h : PR B w sv tv row top) (hC : C ≤ B) : PR C w sv tv row top := by
  obtain ⟨cs, h1, ⟨ao, cap, h2, h3⟩, h4, h5, h6⟩ := h
  refine ⟨cs, h1, ⟨ao, cap, h2, fun k c hk => ?_⟩, fun c hc => ⟨(h4 c hc).1, (h4 c hc).2.1, fun k hk => Nat.le_trans hC ((h4 c hc).2.2 k hk)⟩, h5, fun k hk => Nat.le_trans hC (h6 k hk)⟩
  obtain ⟨g, e, hg, hc⟩ := h3 k c hk
  exact ⟨g, e, Nat.le_trans hC hg, hc⟩
end
theorem PX.read {w : World} {B g b q md a f : Nat} {lv ov sv tv : Value} {ts : List Lx.Tok} {cs : List SA} {top : List Nat} (h : PX w B g b q lv ov sv tv md a f ts [] [] cs top) : PR B w sv tv (rowOf cs) top := by
  refine ⟨cs, rfl, ?_, fun c hc => ⟨⟨(h.cl c hc).1.rd, (h.cl c hc).2.rd⟩, ⟨(h.cl c hc).1.one, (h.cl c hc).2.one⟩, fun k hk => hk.elim (fun e => ((h.cl c hc).1.ap k e).2.1) (fun e => ((h.cl c hc).2.ap k e).2.1)⟩, IR.rd h.tp, fun k hk => (IR.lt h.tp k hk).1⟩
  have hcell := fun (g' cap : Nat) (he : sv = .slice (some ⟨g', 0, none⟩) cs.length cap) (k : Nat) (t : SA) (ht : cs[k]? = some t) (i : Nat) (u : Value) (hu : (stCells t)[i]? = some u) => own_cellN (he ▸ h.os) (stRow_at cs k t ht i u hu)
  rcases h.os.2 with ⟨e, hn⟩ | ⟨g', cap, cur, e, hb, hg, _⟩
  · obtain rfl : cs = [] := List.length_eq_zero_iff.1 hn
    exact ⟨_, _, e, fun k t ht => by cases ht⟩
  · exact ⟨_, cap, e, fun k t ht => ⟨g', rfl, hb, fun i u hu => hcell g' cap e k t ht i u hu⟩⟩
def PAllP (r : Ps.Res (Nat × List Ps.St × List Nat)) (w : World) (e : Ending) (w' : World) : Prop := Below w.heap.size w w' ∧ match r with
  | .error (p, c) => e = .returned (.tuple #[.agg #[.int .i64 0, .slice none 0 0, .slice none 0 0], .int .i64 (p : Int), .int .i64 (c : Int)]) ∧ c ≠ 0
  | .ok (md, row, top) => ∃ sv tv, e = .returned (.tuple #[.agg #[.int .i64 (md : Int), sv, tv], .int .i64 0, .int .i64 0]) ∧ PR w.heap.size w' sv tv row top
/-- A script's row in a block of its own. -/
def H3 (w : World) (q : Nat) (vs : List Value) : Prop := w.heap[q]? = some (.cells vs.toArray 27 (0, 0))
theorem H3.set {w : World} {q : Nat} {vs us : List Value} (h : H3 w q us) (hl : us.length = vs.length) : H3 (setN w q 0 vs) q vs := setN_heap vs [] us w h hl
theorem H3.cell {w : World} {q : Nat} {vs : List Value} (h : H3 w q vs) {i : Nat} {u : Value} (hu : vs[i]? = some u) : w.cell? ⟨q, i, none⟩ = some u := by
  unfold H3 at h
  rw [cell_of_row _ _ _ _ _ _ h]
  simpa using hu
theorem H3.fr {w : World} {q : Nat} {vs : List Value} (h : H3 w q vs) (i : Nat) : w.frozen? ⟨q, i, none⟩ = false := by unfold H3 at h; simp [World.frozen?, h]
theorem H3.lt {w : World} {q : Nat} {vs : List Value} (h : H3 w q vs) : q < w.heap.size := (Array.getElem?_eq_some_iff.1 h).1
theorem H3.below {w w' : World} {B q : Nat} {vs : List Value} (h : H3 w q vs) (hb : Below B w w') (hq : q < B) : H3 w' q vs := (hb.block _ hq).trans h

theorem below_setN {B : Nat} {a : World} (q : Nat) : ∀ (vs : List Value) (i : Nat) {w : World}, B ≤ q → Below B a w → Below B a (setN w q i vs)
  | [], _, _, _, h => h
  | v :: vs, i, _, hq, h => below_setN q vs (i + 1) hq (h.setCell (p := ⟨q, i, none⟩) hq v)

set_option maxRecDepth 40000 in
set_option maxHeartbeats 16000000 in
theorem pall_any (l : List UInt8) (hl : l.length ≤ 1048576) (w : World) (hS : SHP w) :
    Calls Tryd.prog 11 #[.string ⟨l.toArray⟩] w fun e w' => PAllP (Ps.all l) w e w' := by
  have hg0 : 0 < w.heap.size := World.block_lt_of_cell? w _ (hS 0 (by decide))
  obtain ⟨T, hT⟩ : ∃ T, w.alloc (.cells #[.int .i64 0, .slice none 0 0, .slice none 0 0] 27) = T := ⟨_, rfl⟩
  have hbT : Below w.heap.size w T := by rw [← hT]; exact (Below.refl _ _).alloc (Nat.le_refl _) _
  have hz : H3 T w.heap.size [.int .i64 0, .slice none 0 0, .slice none 0 0] := by rw [← hT]; exact heap_alloc_new _ _
  have hTs : T.heap.size = w.heap.size + 1 := by rw [← hT]; simp
  have LA := all_any l hl T
  have hall := Ps.all_of (l := l)
  have HZ := Lib.hid hz
  have HBT := Lib.hid hbT
  have HSH := Lib.hid (hS.below hbT)
  obtain ⟨B, hB⟩ : ∃ B, T.heap.size = B := ⟨_, rfl⟩
  clear hz hbT hS hl
  go_enter Tryd.func11, Tryd.ntmps11
  go_wp2_with fail
  refine LA.mono ?_
  rintro e w2 hP
  obtain ⟨hb2, hP⟩ := hP
  rw [hB] at hb2 hP
  have hs2 := hb2.size
  have hz2 := HZ.out.below hb2 (by omega)
  clear LA
  cases hx : Lx.all l with
  | error x =>
    obtain ⟨p, f⟩ := x
    rw [hx] at hP hall
    obtain rfl := hP
    obtain ⟨hf0, _⟩ := Lx.all_err hx
    have f1 : ((f : Int) != 0) = true := by rw [bne_iff_ne]; omega
    have f2 : ((f : Int) == 0) = false := beq_eq_false_iff_ne.2 (by omega)
    have f3 : ((f : Int) = 0) = False := eq_false (by omega)
    have HA := Lib.hid (⟨hall, hf0⟩ : _ ∧ _)
    have zc0 := hz2.cell (i := 0) rfl
    have zc1 := hz2.cell (i := 1) rfl
    have zc2 := hz2.cell (i := 2) rfl
    have zf0 := hz2.fr 0
    have zf1 := hz2.fr 1
    have zf2 := hz2.fr 2
    have HSET := Lib.hid (hz2.set (vs := [.int .i64 0, .slice none 0 0, .slice none 0 0]) rfl)
    have HBL := Lib.hid (below_setN w.heap.size [.int .i64 0, .slice none 0 0, .slice none 0 0] 0 (Nat.le_refl _) (HBT.out.trans (hb2.mono (by omega))))
    clear hall hf0 hz2 hx
    go_wp2
    change bodyPost _ _ _ _ _ (setN w2 w.heap.size 0 [.int .i64 0, .slice none 0 0, .slice none 0 0])
    have hset := HSET.out
    have hbl := HBL.out
    generalize setN w2 w.heap.size 0 [.int .i64 0, .slice none 0 0, .slice none 0 0] = W at hset hbl ⊢
    have r0 := hset.cell (i := 0) rfl
    have r1 := hset.cell (i := 1) rfl
    have r2 := hset.cell (i := 2) rfl
    refine bodyPost_ret (v := .tuple #[.agg #[.int .i64 0, .slice none 0 0, .slice none 0 0], .int .i64 (p : Int), .int .i64 (f : Int)]) (by simp [results, Tryd.results11, go_sem, r0, r1, r2]) rfl ?_
    unfold PAllP
    rw [HA.out.1]
    exact ⟨hbl, rfl, HA.out.2⟩
  | ok ts =>
    rw [hx] at hP hall
    obtain ⟨v, rfl, ho⟩ := hP
    have hends := Ps.all_ends hx
    have hfew := Ps.all_few hx
    obtain ⟨b, hb, hblt, hvb, htr⟩ := TR.of_own ho (by obtain ⟨t, r, e, _⟩ := hends.ne; rw [e]; simp)
    obtain ⟨o, cap, rfl, hcp, hcp2, hcl⟩ := id htr
    obtain ⟨w3, hw3⟩ : ∃ w3, w2.alloc (.cells #[.slice (some ⟨b, o, none⟩) ts.length cap, .slice none 0 0, .int .i64 0, .slice none 0 0, .slice none 0 0, .int .i64 0, .int .i64 0] 50) = w3 := ⟨_, rfl⟩
    have hb3 : Below w2.heap.size w2 w3 := by rw [← hw3]; exact (Below.refl _ _).alloc (Nat.le_refl _) _
    have hr3 : RB w3 w2.heap.size (.slice (some ⟨b, o, none⟩) ts.length cap) (.slice none 0 0) 0 (.slice none 0 0) (.slice none 0 0) 0 0 := by rw [← hw3]; exact heap_alloc_new _ _
    have htr3 := htr.below hb3
    obtain ⟨g, hg⟩ : ∃ g, w2.heap.size = g := ⟨_, rfl⟩
    rw [hg] at hr3
    have hs3 : w3.heap.size = g + 1 := by rw [← hw3]; simp [hg]
    obtain ⟨w4, hw4⟩ : ∃ w4, w3.alloc (.cells #[.string ⟨#[109, 111, 100, 101]⟩, .string ⟨#[109]⟩, .string ⟨#[59]⟩] 9) = w4 := ⟨_, rfl⟩
    have hb4 : Below w3.heap.size w3 w4 := by rw [← hw4]; exact (Below.refl _ _).alloc (Nat.le_refl _) _
    have hn4 : w4.heap[w3.heap.size]? = some (.cells #[.string ⟨#[109, 111, 100, 101]⟩, .string ⟨#[109]⟩, .string ⟨#[59]⟩] 9 (0, 0)) := by rw [← hw4]; exact heap_alloc_new _ _
    have hrd : Rd w4 (.slice (some ⟨w3.heap.size, 0, none⟩) 3 3) ([Ps.wMode, [109], [59]].map sv) := by
      refine .inr ⟨_, 0, 3, rfl, Nat.le_refl _, by unfold maxLen; omega, fun j v hj => ?_⟩
      rw [Nat.zero_add, cell_of_row _ _ _ _ _ _ hn4, ← hj]
      match j with
      | 0 => rfl
      | 1 => rfl
      | 2 => rfl
      | j + 3 => simp
    have hbg : b ≠ g := by omega
    have hBw : Below w.heap.size w w4 := ((HBT.out.trans (hb2.mono (by omega))).trans (hb3.mono (by omega))).trans (hb4.mono (by omega))
    have hBB : Below B T w4 := (hb2.trans (hb3.mono (by omega))).trans (hb4.mono (by omega))
    have TK := take_any [Ps.wMode, [109], [59]] ts b g 0 0 0 0 _ _ _ _ (.slice (some ⟨w3.heap.size, 0, none⟩) 3 3) w4 (hr3.below hb4) (htr3.below hb4) hbg hends ⟨_, _, rfl⟩ (by omega) hrd (by simp [Ps.wMode]) (by simp) (by simp) (by simp [Value.ownBlock]; omega) (by omega)
    have hts := Ps.take_script (d := 0) hends
    have HSB := Lib.hid hBB
    have HSW := Lib.hid hBw
    have HEN := Lib.hid hends
    clear hcl hcp hcp2 htr htr3 hb3 hb4 hr3 hrd hn4 ho hx hBB hBw hends
    have HG := Lib.hid hg
    have HS3 := Lib.hid hs3
    have hgB : B ≤ g := by omega
    have HW3 := Lib.hid hw3
    clear hg hs3 hw3
    go_upto_region 5 with fail
    rw [HW3.out, HG.out]
    go_wp2_with fail
    refine TK.mono ?_
    rintro e w5 ⟨ht5, hQ5⟩
    clear TK
    have hBg : B ≤ g := hgB
    have hB5 : Below B T w5 := HSB.out.trans (ht5.below (fun k hk => by rw [show k = g from hk]; exact hBg) (by have := HSB.out.size; omega))
    cases htk : Ps.takeW 0 [Ps.wMode, [109], [59]] ts with
    | error x =>
      obtain ⟨p, c⟩ := x
      rw [htk] at hQ5
      obtain ⟨rfl, hr5⟩ := hQ5
      obtain ⟨hh, hc⟩ := hts.1 _ htk
      dsimp only at hc
      subst hc
      rw [Ps.prog_run, hh] at hall
      have en := fun wx => neq_nil none 0 0 wx
      have HA := Lib.hid (⟨hall, by decide⟩ : _ ∧ (20 : Nat) ≠ 0)
      have HBE := Lib.hid hB5
      have hr5 : RB w5 g (.slice (some ⟨b, o, none⟩) ts.length cap) (.slice none 0 0) 0 (.slice none 0 0) (.slice none 0 0) p 20 := hr5
      have HR5 := Lib.hid hr5
      clear hall hr5 ht5 htk hh hts hB5
      have c6 := HR5.out.c6
      have c5 := HR5.out.c5
      have hzE := HZ.out.below HBE.out (by omega)
      have zc0 := hzE.cell (i := 0) rfl
      have zc1 := hzE.cell (i := 1) rfl
      have zc2 := hzE.cell (i := 2) rfl
      have zf0 := hzE.fr 0
      have zf1 := hzE.fr 1
      have zf2 := hzE.fr 2
      have HSET := Lib.hid (hzE.set (vs := [.int .i64 0, .slice none 0 0, .slice none 0 0]) rfl)
      have HBL := Lib.hid (below_setN w.heap.size [.int .i64 0, .slice none 0 0, .slice none 0 0] 0 (Nat.le_refl _) (HBT.out.trans (HBE.out.mono (by omega))))
      have hgz : w.heap.size ≠ g := by omega
      have hs5E : (setN w5 w.heap.size 0 [.int .i64 0, .slice none 0 0, .slice none 0 0]).cell? ⟨g, 5, none⟩ = some (.int .i64 (p : Int)) ∧ (setN w5 w.heap.size 0 [.int .i64 0, .slice none 0 0, .slice none 0 0]).cell? ⟨g, 6, none⟩ = some (.int .i64 20) := ⟨(World.cell?_of_block (a := ⟨g, 5, none⟩) (setN_other (fun e => hgz e.symm) _ _)).trans c5, (World.cell?_of_block (a := ⟨g, 6, none⟩) (setN_other (fun e => hgz e.symm) _ _)).trans c6⟩
      have hs0 : w5.drew.cell? ⟨g, 5, none⟩ = some (.int .i64 (p : Int)) ∧ w5.drew.cell? ⟨g, 6, none⟩ = some (.int .i64 20) := ⟨c5, c6⟩
      clear hzE
      go_wp2
      refine wp_region_held_drew (S := fun w' => w'.cell? ⟨g, 5, none⟩ = some (.int .i64 (p : Int)) ∧ w'.cell? ⟨g, 6, none⟩ = some (.int .i64 20)) (by kernel_rfl) hs0 (fun hH => ?_)
      have zd0 : w5.drew.cell? ⟨w.heap.size, 0, none⟩ = some _ := zc0
      have zd1 : w5.drew.cell? ⟨w.heap.size, 1, none⟩ = some _ := zc1
      have zd2 : w5.drew.cell? ⟨w.heap.size, 2, none⟩ = some _ := zc2
      have ze0 : w5.drew.frozen? ⟨w.heap.size, 0, none⟩ = false := zf0
      have ze1 : w5.drew.frozen? ⟨w.heap.size, 1, none⟩ = false := zf1
      have ze2 : w5.drew.frozen? ⟨w.heap.size, 2, none⟩ = false := zf2
      have HSETD : Hid (H3 (setN w5.drew w.heap.size 0 [.int .i64 0, .slice none 0 0, .slice none 0 0]) w.heap.size [.int .i64 0, .slice none 0 0, .slice none 0 0]) := Lib.hid (H3.set (us := [.int .i64 0, .slice none 0 0, .slice none 0 0]) (HZ.out.below (show Below B T w5.drew from ⟨HBE.out.os, HBE.out.tape, HBE.out.output, HBE.out.size, HBE.out.block⟩) (by omega)) rfl)
      have HBLD := Lib.hid (below_setN w.heap.size [.int .i64 0, .slice none 0 0, .slice none 0 0] 0 (Nat.le_refl _) (show Below w.heap.size w w5.drew from (HBT.out.trans (Below.mono (show Below B T w5.drew from ⟨HBE.out.os, HBE.out.tape, HBE.out.output, HBE.out.size, HBE.out.block⟩) (by omega)))))
      have hs5D : (setN w5.drew w.heap.size 0 [.int .i64 0, .slice none 0 0, .slice none 0 0]).cell? ⟨g, 5, none⟩ = some (.int .i64 (p : Int)) ∧ (setN w5.drew w.heap.size 0 [.int .i64 0, .slice none 0 0, .slice none 0 0]).cell? ⟨g, 6, none⟩ = some (.int .i64 20) := ⟨(World.cell?_of_block (a := ⟨g, 5, none⟩) (setN_other (fun e => hgz e.symm) _ _)).trans hs0.1, (World.cell?_of_block (a := ⟨g, 6, none⟩) (setN_other (fun e => hgz e.symm) _ _)).trans hs0.2⟩
      generalize w5.drew = wd at *
      refine heldTake (i := 0) (v := ?_) rfl (by kernel_rfl) (by kernel_rfl) (fun _ _ _ h => h) (by rfl) (by assumption) (fun w hSw => ?_) ?_; rotate_left; focus ((try dsimp only at hSw); go_simp; try with_reducible rfl)
      try simp only [Act.put, List.setIfInBounds_toArray, List.set_cons_zero, List.set_cons_succ]
      refine heldTake (i := 1) (v := ?_) rfl (by kernel_rfl) (by kernel_rfl) (fun _ _ _ h => h) (by rfl) (by assumption) (fun w hSw => ?_) ?_; rotate_left; focus ((try dsimp only at hSw); go_simp; try with_reducible rfl)
      try simp only [Act.put, List.setIfInBounds_toArray, List.set_cons_zero, List.set_cons_succ]
      refine heldTake (i := 2) (v := ?_) rfl (by kernel_rfl) (by kernel_rfl) (fun _ _ _ h => h) (by rfl) (by assumption) (fun w hSw => ?_) ?_; rotate_left; focus ((try dsimp only at hSw); go_simp; try with_reducible rfl)
      try simp only [Act.put, List.setIfInBounds_toArray, List.set_cons_zero, List.set_cons_succ]
      refine heldTake (i := 3) (v := ?_) rfl (by kernel_rfl) (by kernel_rfl) (fun _ _ _ h => h) (by rfl) (by assumption) (fun w hSw => ?_) ?_; rotate_left; focus ((try dsimp only at hSw); go_simp; try with_reducible rfl)
      try simp only [Act.put, List.setIfInBounds_toArray, List.set_cons_zero, List.set_cons_succ]
      refine heldTake (i := 4) (v := ?_) rfl (by kernel_rfl) (by kernel_rfl) (fun _ _ _ h => h) (by rfl) (by assumption) (fun w hSw => ?_) ?_; rotate_left; focus ((try dsimp only at hSw); go_simp; try with_reducible rfl)
      try simp only [Act.put, List.setIfInBounds_toArray, List.set_cons_zero, List.set_cons_succ]
      -- NEXT 5 Op.store 27 (Operand.tmp 2) (Operand.tmp 39)
      refine heldNext (i := 5) rfl (by kernel_rfl) (by rfl) (fun K hK => ?_)
      go_simp; refine hK.out _ (setN wd w.heap.size 0 [.int .i64 0, .slice none 0 0, .slice none 0 0]) hs5D ?_; clear hK K
      try simp only [Act.put, List.setIfInBounds_toArray, List.set_cons_zero, List.set_cons_succ]
      refine heldTake (i := 6) (v := ?_) rfl (by kernel_rfl) (by kernel_rfl) (fun _ _ _ h => h) (by rfl) (by assumption) (fun w hSw => ?_) ?_; rotate_left; focus ((try dsimp only at hSw); go_simp; try with_reducible rfl)
      try simp only [Act.put, List.setIfInBounds_toArray, List.set_cons_zero, List.set_cons_succ]
      refine heldTake (i := 7) (v := ?_) rfl (by kernel_rfl) (by kernel_rfl) (fun _ _ _ h => h) (by rfl) (by assumption) (fun w hSw => ?_) ?_; rotate_left; focus ((try dsimp only at hSw); go_simp; try with_reducible rfl)
      try simp only [Act.put, List.setIfInBounds_toArray, List.set_cons_zero, List.set_cons_succ]
      refine wpAnyH_done (by kernel_rfl) ?_ _
      skip
      simp only [Exit.then]
      go_wp2
      have hset := HSETD.out
      have hbl := HBLD.out
      generalize setN wd w.heap.size 0 [.int .i64 0, .slice none 0 0, .slice none 0 0] = W at hset hbl ⊢
      have r0 := hset.cell (i := 0) rfl
      have r1 := hset.cell (i := 1) rfl
      have r2 := hset.cell (i := 2) rfl
      refine bodyPost_ret (v := .tuple #[.agg #[.int .i64 0, .slice none 0 0, .slice none 0 0], .int .i64 (p : Int), .int .i64 20]) (by simp [results, Tryd.results11, go_sem, r0, r1, r2]) rfl ?_
      unfold PAllP
      rw [HA.out.1]
      exact ⟨hbl, rfl, HA.out.2⟩
    | ok r =>
      rw [htk] at hQ5
      obtain ⟨rv, lv5, rfl, htr5, hr5, htl5⟩ := hQ5
      obtain ⟨t0, t1, t2, hte, hh, her⟩ := hts.2 _ htk
      rw [Ps.prog_run, hh] at hall
      dsimp only at hall
      obtain ⟨o5, cap5, rfl, _, _, hc5⟩ := htr5
      have hl3 : (ts.take [Ps.wMode, [109], [59]].length).length = 3 := by rw [hte]; rfl
      obtain ⟨x0, x1, x2⟩ := hc5 1 t1 (by rw [hte]; rfl)
      rw [hl3, Nat.one_mul] at *
      have en := fun wx => neq_nil (some ⟨b, o5, none⟩) 3 cap5 wx
      have PM := Lib.hid (fun wx => pmode_any t1.text wx)
      obtain ⟨md, hmd⟩ : ∃ md, Ps.mode t1.text = md := ⟨_, rfl⟩
      rw [hmd] at hall PM
      obtain ⟨w6, hw6⟩ : ∃ w6, w5.setCell ⟨g, 2, none⟩ (.int .i64 (md : Int)) = w6 := ⟨_, rfl⟩
      have c2 := hr5.c2
      have cf2 := hr5.fr 2
      have hr6 : RB w6 g lv5 (.slice none 0 0) md (.slice none 0 0) (.slice none 0 0) 0 0 := by rw [← hw6]; exact hr5.set2 md
      have ht6 : Trn (only g) w5 w6 := by rw [← hw6]; exact Trn.setCell (F := only g) (Trn.refl _ _) (show g = g from rfl) _
      have htr6 := htl5.trn ht6 hbg
      have hB6 : Below B T w6 := hB5.trans (ht6.below (fun k hk => by rw [show k = g from hk]; exact hBg) (by have := hB5.size; omega))
      have hS6 : SHP w6 := fun i hi => (hB6.cell (p := ⟨0, i, none⟩) (show 0 < B by omega)).trans (HSH.out i hi)
      have SM := statements_any (B := B) w6 hr6 htr6 her hbg hBg hb hS6 (by omega) (by have := congrArg List.length hte; simp only [List.length_cons] at this; omega)
      have HB6 := Lib.hid hB6
      have HALL := Lib.hid hall
      clear hall hc5 hl3 hr5 hr6 ht6 htr6 hB6 hS6 htl5 hte hh her hts htk hmd ht5 x0 x2 hB5
      go_wp2_with fail
      refine (PM.out _).mono ?_
      rintro e w7 ⟨rfl, he7⟩
      obtain rfl := he7
      go_wp2_with fail
      refine SM.mono ?_
      rintro e w8 ⟨rfl, hb8, hq8⟩
      have HBE := Lib.hid (HB6.out.trans hb8)
      clear SM hb8
      cases hrun : Ps.run [] [] [] [] r with
      | error x =>
        obtain ⟨p, c⟩ := x
        rw [hrun] at hq8
        obtain ⟨lvE, ovE, svE, tvE, hrE, hcE⟩ := hq8
        have hall := HALL.out
        rw [hrun] at hall
        rcases hcE with rfl | rfl
        · have HA := Lib.hid (⟨hall, by decide⟩ : _ ∧ (20 : Nat) ≠ 0)
          have HRE : Hid (RB w8 g lvE ovE md svE tvE p 20) := Lib.hid hrE
          clear hall hrE hrun
          have c6 := HRE.out.c6
          have c5 := HRE.out.c5
          have hzE := HZ.out.below HBE.out (by omega)
          have zc0 := hzE.cell (i := 0) rfl
          have zc1 := hzE.cell (i := 1) rfl
          have zc2 := hzE.cell (i := 2) rfl
          have zf0 := hzE.fr 0
          have zf1 := hzE.fr 1
          have zf2 := hzE.fr 2
          have HSET := Lib.hid (hzE.set (vs := [.int .i64 0, .slice none 0 0, .slice none 0 0]) rfl)
          have HBL := Lib.hid (below_setN w.heap.size [.int .i64 0, .slice none 0 0, .slice none 0 0] 0 (Nat.le_refl _) (HBT.out.trans (HBE.out.mono (by omega))))
          have hgz : w.heap.size ≠ g := by omega
          have hs5E : (setN w8 w.heap.size 0 [.int .i64 0, .slice none 0 0, .slice none 0 0]).cell? ⟨g, 5, none⟩ = some (.int .i64 (p : Int)) ∧ (setN w8 w.heap.size 0 [.int .i64 0, .slice none 0 0, .slice none 0 0]).cell? ⟨g, 6, none⟩ = some (.int .i64 20) := ⟨(World.cell?_of_block (a := ⟨g, 5, none⟩) (setN_other (fun e => hgz e.symm) _ _)).trans c5, (World.cell?_of_block (a := ⟨g, 6, none⟩) (setN_other (fun e => hgz e.symm) _ _)).trans c6⟩
          have hs0 : w8.drew.cell? ⟨g, 5, none⟩ = some (.int .i64 (p : Int)) ∧ w8.drew.cell? ⟨g, 6, none⟩ = some (.int .i64 20) := ⟨c5, c6⟩
          clear hzE
          go_wp2
          refine wp_region_held_drew (S := fun w' => w'.cell? ⟨g, 5, none⟩ = some (.int .i64 (p : Int)) ∧ w'.cell? ⟨g, 6, none⟩ = some (.int .i64 20)) (by kernel_rfl) hs0 (fun hH => ?_)
          have zd0 : w8.drew.cell? ⟨w.heap.size, 0, none⟩ = some _ := zc0
          have zd1 : w8.drew.cell? ⟨w.heap.size, 1, none⟩ = some _ := zc1
          have zd2 : w8.drew.cell? ⟨w.heap.size, 2, none⟩ = some _ := zc2
          have ze0 : w8.drew.frozen? ⟨w.heap.size, 0, none⟩ = false := zf0
          have ze1 : w8.drew.frozen? ⟨w.heap.size, 1, none⟩ = false := zf1
          have ze2 : w8.drew.frozen? ⟨w.heap.size, 2, none⟩ = false := zf2
          have HSETD : Hid (H3 (setN w8.drew w.heap.size 0 [.int .i64 0, .slice none 0 0, .slice none 0 0]) w.heap.size [.int .i64 0, .slice none 0 0, .slice none 0 0]) := Lib.hid (H3.set (us := [.int .i64 0, .slice none 0 0, .slice none 0 0]) (HZ.out.below (show Below B T w8.drew from ⟨HBE.out.os, HBE.out.tape, HBE.out.output, HBE.out.size, HBE.out.block⟩) (by omega)) rfl)
          have HBLD := Lib.hid (below_setN w.heap.size [.int .i64 0, .slice none 0 0, .slice none 0 0] 0 (Nat.le_refl _) (show Below w.heap.size w w8.drew from (HBT.out.trans (Below.mono (show Below B T w8.drew from ⟨HBE.out.os, HBE.out.tape, HBE.out.output, HBE.out.size, HBE.out.block⟩) (by omega)))))
          have hs5D : (setN w8.drew w.heap.size 0 [.int .i64 0, .slice none 0 0, .slice none 0 0]).cell? ⟨g, 5, none⟩ = some (.int .i64 (p : Int)) ∧ (setN w8.drew w.heap.size 0 [.int .i64 0, .slice none 0 0, .slice none 0 0]).cell? ⟨g, 6, none⟩ = some (.int .i64 20) := ⟨(World.cell?_of_block (a := ⟨g, 5, none⟩) (setN_other (fun e => hgz e.symm) _ _)).trans hs0.1, (World.cell?_of_block (a := ⟨g, 6, none⟩) (setN_other (fun e => hgz e.symm) _ _)).trans hs0.2⟩
          generalize w8.drew = wd at *
          refine heldTake (i := 0) (v := ?_) rfl (by kernel_rfl) (by kernel_rfl) (fun _ _ _ h => h) (by rfl) (by assumption) (fun w hSw => ?_) ?_; rotate_left; focus ((try dsimp only at hSw); go_simp; try with_reducible rfl)
          try simp only [Act.put, List.setIfInBounds_toArray, List.set_cons_zero, List.set_cons_succ]
          refine heldTake (i := 1) (v := ?_) rfl (by kernel_rfl) (by kernel_rfl) (fun _ _ _ h => h) (by rfl) (by assumption) (fun w hSw => ?_) ?_; rotate_left; focus ((try dsimp only at hSw); go_simp; try with_reducible rfl)
          try simp only [Act.put, List.setIfInBounds_toArray, List.set_cons_zero, List.set_cons_succ]
          refine heldTake (i := 2) (v := ?_) rfl (by kernel_rfl) (by kernel_rfl) (fun _ _ _ h => h) (by rfl) (by assumption) (fun w hSw => ?_) ?_; rotate_left; focus ((try dsimp only at hSw); go_simp; try with_reducible rfl)
          try simp only [Act.put, List.setIfInBounds_toArray, List.set_cons_zero, List.set_cons_succ]
          refine heldTake (i := 3) (v := ?_) rfl (by kernel_rfl) (by kernel_rfl) (fun _ _ _ h => h) (by rfl) (by assumption) (fun w hSw => ?_) ?_; rotate_left; focus ((try dsimp only at hSw); go_simp; try with_reducible rfl)
          try simp only [Act.put, List.setIfInBounds_toArray, List.set_cons_zero, List.set_cons_succ]
          refine heldTake (i := 4) (v := ?_) rfl (by kernel_rfl) (by kernel_rfl) (fun _ _ _ h => h) (by rfl) (by assumption) (fun w hSw => ?_) ?_; rotate_left; focus ((try dsimp only at hSw); go_simp; try with_reducible rfl)
          try simp only [Act.put, List.setIfInBounds_toArray, List.set_cons_zero, List.set_cons_succ]
          -- NEXT 5 Op.store 27 (Operand.tmp 2) (Operand.tmp 39)
          refine heldNext (i := 5) rfl (by kernel_rfl) (by rfl) (fun K hK => ?_)
          go_simp; refine hK.out _ (setN wd w.heap.size 0 [.int .i64 0, .slice none 0 0, .slice none 0 0]) hs5D ?_; clear hK K
          try simp only [Act.put, List.setIfInBounds_toArray, List.set_cons_zero, List.set_cons_succ]
          refine heldTake (i := 6) (v := ?_) rfl (by kernel_rfl) (by kernel_rfl) (fun _ _ _ h => h) (by rfl) (by assumption) (fun w hSw => ?_) ?_; rotate_left; focus ((try dsimp only at hSw); go_simp; try with_reducible rfl)
          try simp only [Act.put, List.setIfInBounds_toArray, List.set_cons_zero, List.set_cons_succ]
          refine heldTake (i := 7) (v := ?_) rfl (by kernel_rfl) (by kernel_rfl) (fun _ _ _ h => h) (by rfl) (by assumption) (fun w hSw => ?_) ?_; rotate_left; focus ((try dsimp only at hSw); go_simp; try with_reducible rfl)
          try simp only [Act.put, List.setIfInBounds_toArray, List.set_cons_zero, List.set_cons_succ]
          refine wpAnyH_done (by kernel_rfl) ?_ _
          skip
          simp only [Exit.then]
          go_wp2
          have hset := HSETD.out
          have hbl := HBLD.out
          generalize setN wd w.heap.size 0 [.int .i64 0, .slice none 0 0, .slice none 0 0] = W at hset hbl ⊢
          have r0 := hset.cell (i := 0) rfl
          have r1 := hset.cell (i := 1) rfl
          have r2 := hset.cell (i := 2) rfl
          refine bodyPost_ret (v := .tuple #[.agg #[.int .i64 0, .slice none 0 0, .slice none 0 0], .int .i64 (p : Int), .int .i64 20]) (by simp [results, Tryd.results11, go_sem, r0, r1, r2]) rfl ?_
          unfold PAllP
          rw [HA.out.1]
          exact ⟨hbl, rfl, HA.out.2⟩
        · have HA := Lib.hid (⟨hall, by decide⟩ : _ ∧ (21 : Nat) ≠ 0)
          have HRE : Hid (RB w8 g lvE ovE md svE tvE p 21) := Lib.hid hrE
          clear hall hrE hrun
          have c6 := HRE.out.c6
          have c5 := HRE.out.c5
          have hzE := HZ.out.below HBE.out (by omega)
          have zc0 := hzE.cell (i := 0) rfl
          have zc1 := hzE.cell (i := 1) rfl
          have zc2 := hzE.cell (i := 2) rfl
          have zf0 := hzE.fr 0
          have zf1 := hzE.fr 1
          have zf2 := hzE.fr 2
          have HSET := Lib.hid (hzE.set (vs := [.int .i64 0, .slice none 0 0, .slice none 0 0]) rfl)
          have HBL := Lib.hid (below_setN w.heap.size [.int .i64 0, .slice none 0 0, .slice none 0 0] 0 (Nat.le_refl _) (HBT.out.trans (HBE.out.mono (by omega))))
          have hgz : w.heap.size ≠ g := by omega
          have hs5E : (setN w8 w.heap.size 0 [.int .i64 0, .slice none 0 0, .slice none 0 0]).cell? ⟨g, 5, none⟩ = some (.int .i64 (p : Int)) ∧ (setN w8 w.heap.size 0 [.int .i64 0, .slice none 0 0, .slice none 0 0]).cell? ⟨g, 6, none⟩ = some (.int .i64 21) := ⟨(World.cell?_of_block (a := ⟨g, 5, none⟩) (setN_other (fun e => hgz e.symm) _ _)).trans c5, (World.cell?_of_block (a := ⟨g, 6, none⟩) (setN_other (fun e => hgz e.symm) _ _)).trans c6⟩
          have hs0 : w8.drew.cell? ⟨g, 5, none⟩ = some (.int .i64 (p : Int)) ∧ w8.drew.cell? ⟨g, 6, none⟩ = some (.int .i64 21) := ⟨c5, c6⟩
          clear hzE
          go_wp2
          refine wp_region_held_drew (S := fun w' => w'.cell? ⟨g, 5, none⟩ = some (.int .i64 (p : Int)) ∧ w'.cell? ⟨g, 6, none⟩ = some (.int .i64 21)) (by kernel_rfl) hs0 (fun hH => ?_)
          have zd0 : w8.drew.cell? ⟨w.heap.size, 0, none⟩ = some _ := zc0
          have zd1 : w8.drew.cell? ⟨w.heap.size, 1, none⟩ = some _ := zc1
          have zd2 : w8.drew.cell? ⟨w.heap.size, 2, none⟩ = some _ := zc2
          have ze0 : w8.drew.frozen? ⟨w.heap.size, 0, none⟩ = false := zf0
          have ze1 : w8.drew.frozen? ⟨w.heap.size, 1, none⟩ = false := zf1
          have ze2 : w8.drew.frozen? ⟨w.heap.size, 2, none⟩ = false := zf2
          have HSETD : Hid (H3 (setN w8.drew w.heap.size 0 [.int .i64 0, .slice none 0 0, .slice none 0 0]) w.heap.size [.int .i64 0, .slice none 0 0, .slice none 0 0]) := Lib.hid (H3.set (us := [.int .i64 0, .slice none 0 0, .slice none 0 0]) (HZ.out.below (show Below B T w8.drew from ⟨HBE.out.os, HBE.out.tape, HBE.out.output, HBE.out.size, HBE.out.block⟩) (by omega)) rfl)
          have HBLD := Lib.hid (below_setN w.heap.size [.int .i64 0, .slice none 0 0, .slice none 0 0] 0 (Nat.le_refl _) (show Below w.heap.size w w8.drew from (HBT.out.trans (Below.mono (show Below B T w8.drew from ⟨HBE.out.os, HBE.out.tape, HBE.out.output, HBE.out.size, HBE.out.block⟩) (by omega)))))
          have hs5D : (setN w8.drew w.heap.size 0 [.int .i64 0, .slice none 0 0, .slice none 0 0]).cell? ⟨g, 5, none⟩ = some (.int .i64 (p : Int)) ∧ (setN w8.drew w.heap.size 0 [.int .i64 0, .slice none 0 0, .slice none 0 0]).cell? ⟨g, 6, none⟩ = some (.int .i64 21) := ⟨(World.cell?_of_block (a := ⟨g, 5, none⟩) (setN_other (fun e => hgz e.symm) _ _)).trans hs0.1, (World.cell?_of_block (a := ⟨g, 6, none⟩) (setN_other (fun e => hgz e.symm) _ _)).trans hs0.2⟩
          generalize w8.drew = wd at *
          refine heldTake (i := 0) (v := ?_) rfl (by kernel_rfl) (by kernel_rfl) (fun _ _ _ h => h) (by rfl) (by assumption) (fun w hSw => ?_) ?_; rotate_left; focus ((try dsimp only at hSw); go_simp; try with_reducible rfl)
          try simp only [Act.put, List.setIfInBounds_toArray, List.set_cons_zero, List.set_cons_succ]
          refine heldTake (i := 1) (v := ?_) rfl (by kernel_rfl) (by kernel_rfl) (fun _ _ _ h => h) (by rfl) (by assumption) (fun w hSw => ?_) ?_; rotate_left; focus ((try dsimp only at hSw); go_simp; try with_reducible rfl)
          try simp only [Act.put, List.setIfInBounds_toArray, List.set_cons_zero, List.set_cons_succ]
          refine heldTake (i := 2) (v := ?_) rfl (by kernel_rfl) (by kernel_rfl) (fun _ _ _ h => h) (by rfl) (by assumption) (fun w hSw => ?_) ?_; rotate_left; focus ((try dsimp only at hSw); go_simp; try with_reducible rfl)
          try simp only [Act.put, List.setIfInBounds_toArray, List.set_cons_zero, List.set_cons_succ]
          refine heldTake (i := 3) (v := ?_) rfl (by kernel_rfl) (by kernel_rfl) (fun _ _ _ h => h) (by rfl) (by assumption) (fun w hSw => ?_) ?_; rotate_left; focus ((try dsimp only at hSw); go_simp; try with_reducible rfl)
          try simp only [Act.put, List.setIfInBounds_toArray, List.set_cons_zero, List.set_cons_succ]
          refine heldTake (i := 4) (v := ?_) rfl (by kernel_rfl) (by kernel_rfl) (fun _ _ _ h => h) (by rfl) (by assumption) (fun w hSw => ?_) ?_; rotate_left; focus ((try dsimp only at hSw); go_simp; try with_reducible rfl)
          try simp only [Act.put, List.setIfInBounds_toArray, List.set_cons_zero, List.set_cons_succ]
          -- NEXT 5 Op.store 27 (Operand.tmp 2) (Operand.tmp 39)
          refine heldNext (i := 5) rfl (by kernel_rfl) (by rfl) (fun K hK => ?_)
          go_simp; refine hK.out _ (setN wd w.heap.size 0 [.int .i64 0, .slice none 0 0, .slice none 0 0]) hs5D ?_; clear hK K
          try simp only [Act.put, List.setIfInBounds_toArray, List.set_cons_zero, List.set_cons_succ]
          refine heldTake (i := 6) (v := ?_) rfl (by kernel_rfl) (by kernel_rfl) (fun _ _ _ h => h) (by rfl) (by assumption) (fun w hSw => ?_) ?_; rotate_left; focus ((try dsimp only at hSw); go_simp; try with_reducible rfl)
          try simp only [Act.put, List.setIfInBounds_toArray, List.set_cons_zero, List.set_cons_succ]
          refine heldTake (i := 7) (v := ?_) rfl (by kernel_rfl) (by kernel_rfl) (fun _ _ _ h => h) (by rfl) (by assumption) (fun w hSw => ?_) ?_; rotate_left; focus ((try dsimp only at hSw); go_simp; try with_reducible rfl)
          try simp only [Act.put, List.setIfInBounds_toArray, List.set_cons_zero, List.set_cons_succ]
          refine wpAnyH_done (by kernel_rfl) ?_ _
          skip
          simp only [Exit.then]
          go_wp2
          have hset := HSETD.out
          have hbl := HBLD.out
          generalize setN wd w.heap.size 0 [.int .i64 0, .slice none 0 0, .slice none 0 0] = W at hset hbl ⊢
          have r0 := hset.cell (i := 0) rfl
          have r1 := hset.cell (i := 1) rfl
          have r2 := hset.cell (i := 2) rfl
          refine bodyPost_ret (v := .tuple #[.agg #[.int .i64 0, .slice none 0 0, .slice none 0 0], .int .i64 (p : Int), .int .i64 21]) (by simp [results, Tryd.results11, go_sem, r0, r1, r2]) rfl ?_
          unfold PAllP
          rw [HA.out.1]
          exact ⟨hbl, rfl, HA.out.2⟩
      | ok x =>
        obtain ⟨row, top⟩ := x
        rw [hrun] at hq8
        obtain ⟨b8, q8, lv8, ov8, sv8, tv8, ts8, cs8, hP8, hrow⟩ := hq8
        obtain ⟨so, sc, hsv⟩ := own_form9 hP8.os
        obtain ⟨tvo, tvc, htv⟩ := IR.len hP8.tp
        subst hsv htv
        have c6 : w8.cell? ⟨g, 6, none⟩ = some (.int .i64 0) := hP8.rb.c6
        have c2 := hP8.rb.c2
        have c3 := hP8.rb.c3
        have c4 := hP8.rb.c4
        have hrd8 := hP8.read
        rw [hrow] at hrd8
        have hlen : row.length = cs8.length := by rw [← hrow]; unfold rowOf; rw [List.length_map]
        have hall := HALL.out
        rw [hrun] at hall
        dsimp only at hall
        rw [hlen] at hall
        generalize cs8.length = N8 at *
        generalize top.length = M8 at *
        have hzE := HZ.out.below HBE.out (by omega)
        have zc0 := hzE.cell (i := 0) rfl
        have zc1 := hzE.cell (i := 1) rfl
        have zc2 := hzE.cell (i := 2) rfl
        have zf0 := hzE.fr 0
        have zf1 := hzE.fr 1
        have zf2 := hzE.fr 2
        by_cases hbig : 100 < N8
        · have b1 : (100 : Int) < (N8 : Int) := by omega
          rw [if_pos hbig] at hall
          have HA := Lib.hid hall
          have HSET := Lib.hid (hzE.set (vs := [.int .i64 0, .slice none 0 0, .slice none 0 0]) rfl)
          have HBL := Lib.hid (below_setN w.heap.size [.int .i64 0, .slice none 0 0, .slice none 0 0] 0 (Nat.le_refl _) (HBT.out.trans (HBE.out.mono (by omega))))
          clear hzE hall hrd8 hP8 hrow hlen hbig hrun
          go_wp2
          change bodyPost _ _ _ _ _ (setN w8 w.heap.size 0 [.int .i64 0, .slice none 0 0, .slice none 0 0])
          have hset := HSET.out
          have hbl := HBL.out
          generalize setN w8 w.heap.size 0 [.int .i64 0, .slice none 0 0, .slice none 0 0] = W at hset hbl ⊢
          have r0 := hset.cell (i := 0) rfl
          have r1 := hset.cell (i := 1) rfl
          have r2 := hset.cell (i := 2) rfl
          refine bodyPost_ret (v := .tuple #[.agg #[.int .i64 0, .slice none 0 0, .slice none 0 0], .int .i64 0, .int .i64 4]) (by simp [results, Tryd.results11, go_sem, r0, r1, r2]) rfl ?_
          unfold PAllP
          rw [HA.out]
          exact ⟨hbl, rfl, by decide⟩
        · have b1 : ((100 : Int) < (N8 : Int)) = False := eq_false (by omega)
          rw [if_neg hbig] at hall
          have HA := Lib.hid hall
          have hrd9 : PR B (setN w8 w.heap.size 0 [.int .i64 (md : Int), .slice so N8 sc, .slice tvo M8 tvc]) (.slice so N8 sc) (.slice tvo M8 tvc) row top := hrd8.past (fun k hk => setN_other (show k ≠ w.heap.size by omega) _ _)
          have HRD := Lib.hid hrd9
          have HSET := Lib.hid (hzE.set (vs := [.int .i64 (md : Int), .slice so N8 sc, .slice tvo M8 tvc]) rfl)
          have HBL := Lib.hid (below_setN w.heap.size [.int .i64 (md : Int), .slice so N8 sc, .slice tvo M8 tvc] 0 (Nat.le_refl _) (HBT.out.trans (HBE.out.mono (by omega))))
          clear hzE hall hrd8 hrd9 hP8 hrow hlen hbig hrun
          go_wp2
          change bodyPost _ _ _ _ _ (setN w8 w.heap.size 0 [.int .i64 (md : Int), .slice so N8 sc, .slice tvo M8 tvc])
          have hset := HSET.out
          have hbl := HBL.out
          have hpr := HRD.out
          generalize setN w8 w.heap.size 0 [.int .i64 (md : Int), .slice so N8 sc, .slice tvo M8 tvc] = W at hset hbl hpr ⊢
          have r0 := hset.cell (i := 0) rfl
          have r1 := hset.cell (i := 1) rfl
          have r2 := hset.cell (i := 2) rfl
          refine bodyPost_ret (v := .tuple #[.agg #[.int .i64 (md : Int), .slice so N8 sc, .slice tvo M8 tvc], .int .i64 0, .int .i64 0]) (by simp [results, Tryd.results11, go_sem, r0, r1, r2]) rfl ?_
          unfold PAllP
          rw [HA.out]
          exact ⟨hbl, _, _, rfl, hpr.lower (by omega)⟩
end Go.Proofs.YtiikionoagmabaaDoor

/- The small functions of the laws of layer 15, walked. -/
namespace Go.Proofs.YtiikionoagmabaaDoor
open Go.RowKit

theorem short_any (s : ByteArray) (hs : s.size ≤ maxLen) (w : World) :
    Calls Tryd.prog 10 #[.string s] w fun e w' => e = .returned (.string ⟨(s.data.toList.take 2100).toArray⟩) ∧ w = w' := by
  unfold maxLen at hs
  have hl := Lib.size_eq s
  obtain ⟨L, hL⟩ : ∃ L, s.size = L := ⟨_, rfl⟩
  rw [hL] at hs
  have hz : s.size = L := hL
  by_cases hlt : 2100 < L
  · have hx : s.extract 0 2100 = ⟨(s.data.toList.take 2100).toArray⟩ := by
      have := ba_extract s.data.toList 0 2100
      simpa using this
    have h1 : ((2100 : Int) < (L : Int)) = True := eq_true (by omega)
    have h2 : (2100 : Int) ≤ (L : Int) := by omega
    rw [← hx]
    clear hx hlt hL hl
    go_enter Tryd.func10, Tryd.ntmps10
    go_wp2
    go_ret
    exact ⟨rfl, rfl⟩
  · have e : (⟨(s.data.toList.take 2100).toArray⟩ : ByteArray) = s := by
      rw [List.take_of_length_le (by rw [← hl]; omega)]
    have h1 : ((2100 : Int) < (L : Int)) = False := eq_false (by omega)
    rw [e]
    clear e hlt hL hl
    go_enter Tryd.func10, Tryd.ntmps10
    go_wp2
    go_ret
    exact ⟨rfl, rfl⟩


/-- A statement of a row that is read: what stands where. -/
theorem PR.at {B : Nat} {w : World} {sv tv : Value} {row : List Ps.St} {top : List Nat} (h : PR B w sv tv row top) : ∃ ao cap, sv = .slice ao row.length cap ∧ (0 < row.length → ∃ g, ao = some ⟨g, 0, none⟩) ∧
    ∀ (k : Nat) st, row[k]? = some st → ∃ g l m, ao = some ⟨g, 0, none⟩ ∧ Rd w l (st.l.map nv) ∧ Rd w m (st.m.map nv) ∧ ∀ i u, (stCells ⟨st, l, m⟩)[i]? = some u → w.cell? ⟨g, k * 8 + i, none⟩ = some u := by
  obtain ⟨cs, rfl, ⟨ao, cap, rfl, h3⟩, h4, _, _⟩ := h
  have hl : (rowOf cs).length = cs.length := by unfold rowOf; rw [List.length_map]
  rw [hl]
  refine ⟨ao, cap, rfl, fun h0 => ?_, fun k st hk => ?_⟩
  · obtain ⟨g, e, _⟩ := h3 0 (cs[0]'h0) (List.getElem?_eq_getElem h0)
    exact ⟨g, e⟩
  · unfold rowOf at hk
    rw [List.getElem?_map] at hk
    cases hc : cs[k]? with
    | none => rw [hc] at hk; cases hk
    | some c =>
      rw [hc] at hk
      obtain rfl : c.st = st := by simpa using hk
      obtain ⟨g, e, _, hcell⟩ := h3 k c hc
      obtain ⟨⟨r1, r2⟩, _⟩ := h4 c (List.mem_of_getElem? hc)
      exact ⟨g, c.l, c.m, e, r1, r2, hcell⟩
theorem PR.top {B : Nat} {w : World} {sv tv : Value} {row : List Ps.St} {top : List Nat} (h : PR B w sv tv row top) : Rd w tv (top.map nv) := h.choose_spec.2.2.2.1
set_option maxRecDepth 20000 in
set_option maxHeartbeats 4000000 in
theorem shown_any (w : World) (hS : SHP w) : Calls Tryd.prog 9 #[] w fun e w' => e = .returned (.bool true) ∧ Below w.heap.size w w' := by
  have ha := pall_any [109, 111, 100, 101, 32, 102, 116, 112, 59, 32, 105, 102, 32, 99, 97, 112, 32, 34, 97, 34, 32, 123, 32, 115, 116, 111, 112, 59, 32, 125] (by decide) w hS
  rw [Ps.all_shown] at ha
  unfold PAllP at ha
  clear hS
  go_enter Tryd.func9, Tryd.ntmps9
  go_wp2_with fail
  refine ha.mono ?_
  rintro e w1 ⟨hb, sv', tv, rfl, hr⟩
  have ht := hr.top
  obtain ⟨ao, cap, rfl, _, hat⟩ := hr.at
  obtain ⟨g, l0, m0, rfl, _, _, c0⟩ := hat 0 _ rfl
  obtain ⟨g', l1, m1, hg, rl, _, c1⟩ := hat 1 _ rfl
  cases hg
  obtain ⟨lo, lc, rfl, _⟩ := rl.formV
  obtain ⟨tvo, tvc, rfl, _, _, htc⟩ := ht.formV
  obtain ⟨bt, ot, rfl, _, htc⟩ := htc (by simp)
  have d0 := c0 0 _ rfl
  have d8 := c1 0 _ rfl
  have d14 := c1 6 _ rfl
  have t0 := htc 0 _ rfl
  simp only [Nat.zero_mul, Nat.one_mul, Nat.add_zero, Nat.zero_add, Nat.reduceAdd] at d0 d8 d14 t0
  simp only [List.length_map, List.length_cons, List.length_nil, Nat.reduceAdd] at d14 ⊢
  unfold nv at t0
  have hlts := World.block_lt_of_cell? w1 _ d0
  have hltt := World.block_lt_of_cell? w1 _ t0
  dsimp only at hlts hltt
  have kp : ∀ (o : Obj) (k i : Nat) v, k < w1.heap.size → w1.cell? ⟨k, i, none⟩ = some v → (w1.alloc o).cell? ⟨k, i, none⟩ = some v := fun o k i v hk hv => (World.cell?_of_block (a := ⟨k, i, none⟩) (Below.heap_alloc _ _ _ hk)).trans hv
  have e0 := fun o => kp o _ _ _ hlts d0
  have e8 := fun o => kp o _ _ _ hlts d8
  have e14 := fun o => kp o _ _ _ hlts d14
  have et := fun o => kp o _ _ _ hltt t0
  have HB := Lib.hid hb
  clear hat hr ht hb ha rl htc c0 c1 d0 d8 d14 t0 kp hlts hltt
  go_wp2
  go_ret
  exact ⟨rfl, HB.out.alloc HB.out.size _⟩
end Go.Proofs.YtiikionoagmabaaDoor

/- Brackets within each other, in plain words (layer 15): reckoned by the kernel. (Laid in round 14, ahead of stage 15.) -/
namespace Go.Proofs.YtiikionoagmabaaDoor
namespace Ps
def openS (other : Bool) : List UInt8 := if other = true then [105, 102, 32, 99, 97, 112, 32, 34, 97, 34, 32, 123, 125, 32, 101, 108, 115, 101, 32, 123] else [105, 102, 32, 99, 97, 112, 32, 34, 97, 34, 32, 123]
def modeS : List UInt8 := [109, 111, 100, 101, 32, 115, 109, 116, 112, 59]
def openN (other : Bool) : Nat → List UInt8
  | 0 => []
  | n + 1 => openN other n ++ openS other
def deepSrc (n : Nat) (other : Bool) : List UInt8 := modeS ++ openN other n ++ List.replicate n 125
def deepWant (other : Bool) : Nat := if other = true then 10 + 20 * 8 + 11 else 10 + 12 * 9 - 1
def deepChk (n : Nat) (other : Bool) : Bool := if 8 < n then isErr (all (deepSrc n other)) (deepWant other, 21) else (match all (deepSrc n other) with
  | .ok (_, row, _) => row.length == n
  | .error _ => false)
theorem deep_chk : ∀ n : Fin 21, deepChk n.val true = true ∧ deepChk n.val false = true := by decide +kernel
theorem deep_err {n : Nat} (h : n < 21) (h8 : 8 < n) (other : Bool) : all (deepSrc n other) = .error (deepWant other, 21) := by
  have hc := deep_chk ⟨n, h⟩
  refine of_isErr ?_
  cases other
  · have := hc.2; unfold deepChk at this; rwa [if_pos h8] at this
  · have := hc.1; unfold deepChk at this; rwa [if_pos h8] at this
theorem deep_ok {n : Nat} (h8 : n ≤ 8) (other : Bool) : ∃ md row top, all (deepSrc n other) = .ok (md, row, top) ∧ row.length = n := by
  have hc := deep_chk ⟨n, by omega⟩
  have key : ∀ o, deepChk n o = true → ∃ md row top, all (deepSrc n o) = .ok (md, row, top) ∧ row.length = n := fun o hk => by
    unfold deepChk at hk
    rw [if_neg (by omega)] at hk
    cases ha : all (deepSrc n o) with
    | error e => rw [ha] at hk; cases hk
    | ok x =>
      obtain ⟨md, row, top⟩ := x
      rw [ha] at hk
      exact ⟨md, row, top, rfl, by simpa using hk⟩
  cases other
  · exact key _ hc.2
  · exact key _ hc.1
end Ps
end Go.Proofs.YtiikionoagmabaaDoor

/- The step from a walk to a row, for a walk that says of memory that nothing old has turned. -/
namespace Go.Proofs.YtiikionoagmabaaDoor
open Go.RowKit Go.ChangeShapes Go.WideShapes Go.ChangeAt

theorem post_below {P : Program} {H : Type} {enc : TypeId × Value → H} {f : Func} {s : ChangeSpec} {apart fresh handsOn : Bool} {W W' : World} {args : Array Value} {v : Value} {ds gs : List (DataW H)} {before pa pv : List MemPlace}
    (hW : DataW.Whole enc P f.params.toList s.vars apart W args.toList ds gs before)
    (hres : ∀ (b : Nat) (sp : Nat → Bool) (hd : Bool), DataW.TrodAll enc P W' b sp hd f.resultTypes.toList (v.resultList f.resultTypes.size) (s.fn H (ds ++ gs)).results [])
    (hargs : ∀ sp : Nat → Bool, (∀ p ∈ before, sp p.block = true) → DataW.TrodAll enc P W' 0 sp true f.params.toList args.toList (s.fn H (ds ++ gs)).args pa)
    (hvars : ∀ sp : Nat → Bool, (∀ p ∈ before, sp p.block = true) → DataW.TrodVars enc P W' sp s.vars (s.fn H (ds ++ gs)).vars pv)
    (hb : Below W.heap.size W W') :
    s.post enc P f apart fresh handsOn false W args v W' := by
  have hold : ∀ p ∈ before, (fun b => decide (b < W.heap.size)) p.block = true := fun p hp => by simpa using hW.lt p hp
  refine ⟨ds, gs, before, [], pa, pv, hW, hres _ _ _, hargs _ hold, hvars _ hold, hb.frame _, fun h => ?_⟩
  cases h

/-- The same, the arguments read where all old memory may be read. -/
theorem post_below2 {P : Program} {H : Type} {enc : TypeId × Value → H} {f : Func} {s : ChangeSpec} {apart fresh handsOn : Bool} {W W' : World} {args : Array Value} {v : Value} {ds gs : List (DataW H)} {before pa pv : List MemPlace}
    (hW : DataW.Whole enc P f.params.toList s.vars apart W args.toList ds gs before)
    (hres : ∀ (b : Nat) (sp : Nat → Bool) (hd : Bool), DataW.TrodAll enc P W' b sp hd f.resultTypes.toList (v.resultList f.resultTypes.size) (s.fn H (ds ++ gs)).results [])
    (hargs : DataW.TrodAll enc P W' 0 (fun b => decide (b < W.heap.size)) true f.params.toList args.toList (s.fn H (ds ++ gs)).args pa)
    (hvars : DataW.TrodVars enc P W' (fun b => decide (b < W.heap.size)) s.vars (s.fn H (ds ++ gs)).vars pv)
    (hb : Below W.heap.size W W') :
    s.post enc P f apart fresh handsOn false W args v W' :=
  ⟨ds, gs, before, [], pa, pv, hW, hres _ _ _, hargs, hvars, hb.frame _, fun h => by cases h⟩

section
variable {P : Program} {H : Type} {enc : TypeId × Value → H} {w : World} {b0 b1 : Nat} {sp : Nat → Bool} {held : Bool} {t e : TypeId} {k : IntKind} {v : Value} {d : DataW H} {p : List MemPlace}

theorem okWide_array {n : Nat} (ht : P.underlying t = some (.array n e)) (h : Value.okWide P w .any b0 t v) : ∃ cs, v = .agg cs ∧ cs.size = P.cellsOf t := by
  simp only [Value.okWide, ht] at h
  obtain ⟨cs, h1, h2, _⟩ := h
  exact ⟨cs, h1, h2⟩

/-- A slice of bytes that came in. -/
theorem open_u8s (ht : P.underlying t = some (.slice e)) (he : P.underlying e = some (.int .u8)) (hCe : P.cellsOf e = 1)
    (hv : Value.okWide P w .any b0 t v) (h : DataW.Trod enc P w 0 (fun _ => true) held t v d p) :
    ∃ xs : List UInt8, Rd w v (xs.map bv) ∧ xs.length ≤ maxLen := by
  obtain ⟨a1, len, cap, rfl⟩ := okWide_slice ht hv
  obtain ⟨fuel, hf⟩ := h
  rcases open_ints ht he hCe hf with ⟨hcs, hx⟩ | ⟨a, len', cap', zs, hcs, _, hl, hm, hz, hx, hcell, hwz⟩
  · simp [Value.cells] at hcs
    obtain ⟨rfl, rfl, rfl⟩ := hcs
    exact ⟨[], .inl ⟨rfl, none, 0, fun _ => rfl, rfl⟩, Nat.zero_le _⟩
  · simp [Value.cells] at hcs
    obtain ⟨rfl, rfl, rfl⟩ := hcs
    simp only [if_true] at hz
    have hlen : ((zs.take len).map fun n => UInt8.ofNat n.toNat).length = len := by simp; omega
    refine ⟨(zs.take len).map fun n => UInt8.ofNat n.toNat, ?_, by rw [hlen]; omega⟩
    by_cases h0 : len = 0
    · subst h0
      exact .inl ⟨by simp, some a, cap, (fun h => by cases h), rfl⟩
    · obtain ⟨ab, ao, spot⟩ := a
      have hspot : spot = none := by simpa [Addr.add] using World.cell?_spot (hcell 0 (by omega))
      subst hspot
      refine .inr ⟨ab, ao, cap, by rw [List.length_map, hlen], by rw [List.length_map, hlen]; exact hl, hm, fun j u hj => ?_⟩
      rw [List.getElem?_map] at hj
      have hjl : j < len := by
        by_cases hjl : j < len
        · exact hjl
        · rw [List.getElem?_eq_none (by rw [hlen]; omega)] at hj
          cases hj
      rw [List.getElem?_eq_getElem (by rw [hlen]; exact hjl)] at hj
      simp only [Option.map_some, Option.some.injEq] at hj
      subst hj
      have hcj := hcell j (by omega)
      rw [Addr.add_lit] at hcj
      rw [hcj]
      have hb := range_u8 hwz j
      simp only [List.getElem_map, List.getElem_take]
      have e : zs.getD j 0 = zs[j]'(by omega) := by simp [List.getD, List.getElem?_eq_getElem (show j < zs.length by omega)]
      rw [List.getD_eq_getElem?_getD] at e
      rw [e] at hb
      rw [List.getD_eq_getElem?_getD, e]
      unfold bv
      congr 2
      simp only [UInt8.toNat_ofNat']
      omega

/-- Two slices of bytes, in an array, that came in. -/
theorem open_u8s2 {f : TypeId} (ht : P.underlying t = some (.array 2 e)) (he : P.underlying e = some (.slice f)) (hf : P.underlying f = some (.int .u8)) (hCf : P.cellsOf f = 1) (hCe : P.cellsOf e = 1) (hCt : P.cellsOf t = 2)
    (hts : P.cellTypes P.depth t = some [e, e]) (hv : Value.okWide P w .any b0 t v) (h : DataW.Trod enc P w 0 (fun _ => true) held t v d p) :
    ∃ (v0 v1 : Value) (x0 x1 : List UInt8), v = .agg #[v0, v1] ∧ Rd w v0 (x0.map bv) ∧ Rd w v1 (x1.map bv) ∧ x0.length ≤ maxLen ∧ x1.length ≤ maxLen := by
  simp only [Value.okWide, ht] at hv
  obtain ⟨cs, rfl, hsz, ts, hts', _, hrow⟩ := hv
  rw [hts] at hts'
  obtain rfl := (Option.some.inj hts').symm
  rw [hCt] at hsz
  obtain ⟨l⟩ := cs
  match l, hsz with
  | [c0, c1], _ =>
    obtain ⟨u0, hu0, k0⟩ := hrow 0 c0 rfl
    obtain ⟨u1, hu1, k1⟩ := hrow 1 c1 rfl
    simp at hu0 hu1
    subst hu0 hu1
    have o0 : Value.okWide P w .any b0 e c0 := by simp only [Value.okWide, he]; exact k0
    have o1 : Value.okWide P w .any b0 e c1 := by simp only [Value.okWide, he]; exact k1
    obtain ⟨a0, n0, m0, rfl⟩ := okWide_slice he o0
    obtain ⟨a1, n1, m1, rfl⟩ := okWide_slice he o1
    obtain ⟨fuel, hf'⟩ := h
    obtain ⟨ys, m, _, _, _, hl, hi⟩ := DataW.trod_array ht hf'
    match ys, hl with
    | [y0, y1], _ =>
      have h0 := hi 0 (by decide)
      have h1 := hi 1 (by decide)
      simp [hCe, Value.cells] at h0 h1
      obtain ⟨x0, r0, l0⟩ := open_u8s (d := y0.1) (p := y0.2) he hf hCf o0 ⟨m, by simpa [Value.cells] using h0⟩
      obtain ⟨x1, r1, l1⟩ := open_u8s (d := y1.1) (p := y1.2) he hf hCf o1 ⟨m, by simpa [Value.cells] using h1⟩
      exact ⟨_, _, x0, x1, rfl, r0, r1, l0, l1⟩

theorem open_arr2 (ht : P.underlying t = some (.array 2 e)) (he : P.underlying e = some (.int k)) (hC : P.cellsOf t = 2) (hCe : P.cellsOf e = 1)
    (hv : Value.okWide P w .any b0 t v) (h : DataW.Trod enc P w b1 sp held t v d p) :
    ∃ x0 x1, v = .agg #[.int k x0, .int k x1] ∧ d = .agg [.lit (.int k x0), .lit (.int k x1)] ∧ p = [] ∧ (Lit.int k x0).wf = true ∧ (Lit.int k x1).wf = true := by
  obtain ⟨cs, rfl, hsz⟩ := okWide_array ht hv
  rw [hC] at hsz
  obtain ⟨l⟩ := cs
  match l, hsz with
  | [c0, c1], _ =>
    obtain ⟨fuel, hf⟩ := h
    obtain ⟨ys, m, _, hx, _, hl, hi⟩ := DataW.trod_array ht hf
    match ys, hl with
    | [y0, y1], _ =>
      have h0 := hi 0 (by decide)
      have h1 := hi 1 (by decide)
      simp [hCe, Value.cells] at h0 h1
      obtain ⟨x0, e0, rfl, w0⟩ := DataW.trod_int he h0
      obtain ⟨x1, e1, rfl, w1⟩ := DataW.trod_int he h1
      simp at e0 e1
      subst e0 e1
      simp at hx
      exact ⟨x0, x1, rfl, hx.1, hx.2, w0, w1⟩

theorem shut_arr2 {x0 x1 : Int} (ht : P.underlying t = some (.array 2 e)) (he : P.underlying e = some (.int k)) (hC : P.cellsOf t = 2) (hCe : P.cellsOf e = 1) (w0 : (Lit.int k x0).wf = true) (w1 : (Lit.int k x1).wf = true) :
    DataW.Trod enc P w b1 sp held t (.agg #[.int k x0, .int k x1]) (.agg [.lit (.int k x0), .lit (.int k x1)]) [] :=
  ⟨2, by simp [DataW.trod, Value.cells, ht, he, hC, hCe, w0, w1, List.range, List.range.loop]⟩

theorem open_arr3 (ht : P.underlying t = some (.array 3 e)) (he : P.underlying e = some (.int k)) (hC : P.cellsOf t = 3) (hCe : P.cellsOf e = 1)
    (hv : Value.okWide P w .any b0 t v) (h : DataW.Trod enc P w b1 sp held t v d p) :
    ∃ x0 x1 x2, v = .agg #[.int k x0, .int k x1, .int k x2] ∧ d = .agg [.lit (.int k x0), .lit (.int k x1), .lit (.int k x2)] ∧ p = [] ∧ (Lit.int k x0).wf = true ∧ (Lit.int k x1).wf = true ∧ (Lit.int k x2).wf = true := by
  obtain ⟨cs, rfl, hsz⟩ := okWide_array ht hv
  rw [hC] at hsz
  obtain ⟨l⟩ := cs
  match l, hsz with
  | [c0, c1, c2], _ =>
    obtain ⟨fuel, hf⟩ := h
    obtain ⟨ys, m, _, hx, _, hl, hi⟩ := DataW.trod_array ht hf
    match ys, hl with
    | [y0, y1, y2], _ =>
      have h0 := hi 0 (by decide)
      have h1 := hi 1 (by decide)
      have h2 := hi 2 (by decide)
      simp [hCe, Value.cells] at h0 h1 h2
      obtain ⟨x0, e0, rfl, w0⟩ := DataW.trod_int he h0
      obtain ⟨x1, e1, rfl, w1⟩ := DataW.trod_int he h1
      obtain ⟨x2, e2, rfl, w2⟩ := DataW.trod_int he h2
      simp at e0 e1 e2
      subst e0 e1 e2
      simp at hx
      exact ⟨x0, x1, x2, rfl, hx.1, hx.2, w0, w1, w2⟩

theorem shut_arr3 {x0 x1 x2 : Int} (ht : P.underlying t = some (.array 3 e)) (he : P.underlying e = some (.int k)) (hC : P.cellsOf t = 3) (hCe : P.cellsOf e = 1) (w0 : (Lit.int k x0).wf = true) (w1 : (Lit.int k x1).wf = true) (w2 : (Lit.int k x2).wf = true) :
    DataW.Trod enc P w b1 sp held t (.agg #[.int k x0, .int k x1, .int k x2]) (.agg [.lit (.int k x0), .lit (.int k x1), .lit (.int k x2)]) [] :=
  ⟨2, by simp [DataW.trod, Value.cells, ht, he, hC, hCe, w0, w1, w2, List.range, List.range.loop]⟩
end

end Go.Proofs.YtiikionoagmabaaDoor

/- ParseDeep walked (layer 15). -/
namespace Go.Proofs.YtiikionoagmabaaDoor
open Go.RowKit

theorem ba_snocP (X : List UInt8) (c : UInt8) : ∃ X2 : List UInt8, (⟨X.toArray⟩ : ByteArray) ++ ⟨#[c]⟩ = ⟨X2.toArray⟩ ∧ X2.length = X.length + 1 ∧ X2 = X ++ [c] := ⟨X ++ [c], ByteArray.mk_append_mk X [c], by simp, rfl⟩
theorem ba_joinP (X Y : List UInt8) : ∃ X2 : List UInt8, (⟨X.toArray⟩ : ByteArray) ++ ⟨Y.toArray⟩ = ⟨X2.toArray⟩ ∧ X2.length = X.length + Y.length ∧ X2 = X ++ Y := ⟨X ++ Y, ByteArray.mk_append_mk X Y, by simp, rfl⟩
theorem openN_len (other : Bool) : ∀ k, (Ps.openN other k).length = k * (Ps.openS other).length
  | 0 => by simp [Ps.openN]
  | k + 1 => by rw [Ps.openN, List.length_append, openN_len other k, Nat.add_mul, Nat.one_mul]

set_option maxRecDepth 20000 in
set_option maxHeartbeats 4000000 in
theorem lawDeepP (a0 : Int) (other : Bool) (h0 : (Lit.int .u8 a0).wf = true) (w : World) (hS : SHP w) :
    Calls Tryd.prog 6 #[.int .u8 a0, .bool other] w fun e w' => e = .returned (.bool true) ∧ Below w.heap.size w w' := by
  have hb0 := bounds_u8 h0
  obtain ⟨A, rfl⟩ := Int.eq_ofNat_of_zero_le hb0.1
  obtain ⟨N, hN⟩ : ∃ N, A % 21 = N := ⟨_, rfl⟩
  have hA : A < 256 := by omega
  have hN1 : N < 21 := by omega
  have n1 : (A : Int) % 21 = (N : Int) := by omega
  have n2 : (A : Int).tmod 21 = (N : Int) := by rw [Int.tmod_eq_emod_of_nonneg (by omega)]; exact n1
  have HS := Lib.hid hS
  have SW := shown_any w hS
  clear h0 hb0 hN hS
  cases other with
  | false =>
    go_enter Tryd.func6, Tryd.ntmps6
    go_wp2_with fail
    refine SW.mono ?_
    rintro e wa ⟨rfl, hba⟩
    have HBA := Lib.hid hba
    have HSA := Lib.hid (HS.out.below hba)
    clear hba SW
    go_wp2
    go_loopw [7, 9] (fun s7 s9 wr => ∃ (k : Nat) (X : List UInt8), k ≤ N ∧ s9 = .int .i64 k ∧ s7 = .string ⟨X.toArray⟩ ∧ X.length = 10 + k * 12 ∧ wr = wa ∧ Hid (X = Ps.modeS ++ Ps.openN false k)) (fun _ i _ => N - (intOf i).toNat)
    case atStart => exact ⟨0, Ps.modeS, Nat.zero_le _, rfl, rfl, rfl, rfl, by show _ = _; simp [Ps.openN]⟩
    case round =>
      obtain ⟨k, X, hk, rfl, rfl, hX, rfl, HX⟩ := hrel
      obtain ⟨LX, hLX⟩ : ∃ LX, X.length = LX := ⟨_, rfl⟩
      rw [hLX] at hX
      have hz : (⟨X.toArray⟩ : ByteArray).size = LX := hLX
      by_cases hlt : k < N
      · obtain ⟨X2, hX2, hlen, hX3⟩ := ba_joinP X [105, 102, 32, 99, 97, 112, 32, 34, 97, 34, 32, 123]
        rw [hLX] at hlen
        have hz1 : (⟨#[105, 102, 32, 99, 97, 112, 32, 34, 97, 34, 32, 123]⟩ : ByteArray).size = 12 := rfl
        have HX2 : Hid (X2 = Ps.modeS ++ Ps.openN false (k + 1)) := Lib.hid (by rw [hX3, HX.out, Ps.openN]; simp [Ps.openS])
        have hsm : (9223372036854775807 < LX + 12) = False := eq_false (by omega)
        have HLX := Lib.hid hX
        clear hX3 hX hLX
        go_wp2
        go_roundw
        case rel => exact ⟨k + 1, X2, by omega, by first | rfl | go_num, by first | rfl | simp only [hX2], by rw [hlen, HLX.out]; simp; omega, by first | rfl | trivial, HX2⟩
        case measure => simp [intOf]; omega
      · have hkN : k = N := by omega
        subst hkN
        have HX := Lib.hid HX.out
        have HLX := Lib.hid hX
        have HLEN := Lib.hid hLX
        clear hlt hk hX hLX hz
        go_wp2
        go_loopw [7, 10] (fun s7 s10 wx => ∃ (j : Nat) (Y : List UInt8), j ≤ k ∧ s10 = .int .i64 j ∧ s7 = .string ⟨Y.toArray⟩ ∧ Y.length = LX + j ∧ wx = wr ∧ Hid (Y = X ++ List.replicate j 125)) (fun _ i _ => k - (intOf i).toNat)
        case atStart => exact ⟨0, X, Nat.zero_le _, rfl, rfl, HLEN.out, rfl, by show _ = _; simp⟩
        case round =>
          obtain ⟨j, Y, hj, rfl, rfl, hY, rfl, HY⟩ := hrel
          obtain ⟨LY, hLY⟩ : ∃ LY, Y.length = LY := ⟨_, rfl⟩
          rw [hLY] at hY
          have hz : (⟨Y.toArray⟩ : ByteArray).size = LY := hLY
          have hLX := HLX.out
          by_cases hlt : j < k
          · obtain ⟨X2, hX2, hlen, hX3⟩ := ba_snocP Y 125
            rw [hLY] at hlen
            have hz1 : (⟨#[125]⟩ : ByteArray).size = 1 := rfl
            have HX2 : Hid (X2 = X ++ List.replicate (j + 1) 125) := Lib.hid (by rw [hX3, HY.out, List.replicate_succ', List.append_assoc])
            have hsm : (9223372036854775807 < LY + 1) = False := eq_false (by omega)
            have HLY := Lib.hid hY
            clear hX3 hY hLY hLX
            go_wp2
            go_roundw
            case rel => exact ⟨j + 1, X2, by omega, by first | rfl | go_num, by first | rfl | simp only [hX2], by rw [hlen, HLY.out]; omega, by first | rfl | trivial, HX2⟩
            case measure => simp [intOf]; omega
          · have hjk : j = k := by omega
            subst hjk
            have hV : Y = Ps.deepSrc j false := by rw [HY.out, HX.out]; rfl
            have PA := pall_any Y (by rw [hLY]; omega) _ HSA.out
            have hsrc := hV
            clear hlt hj hz hY hLY hLX
            by_cases h8 : 8 < j
            · rw [hV, Ps.deep_err hN1 h8] at PA
              rw [← hV] at PA
              unfold PAllP at PA
              have t8 : (8 : Int) < (j : Int) := by omega
              clear hV hsrc h8
              go_wp2_with fail
              refine PA.mono ?_
              rintro e w2 ⟨hb2, rfl, _⟩
              have HB2 := Lib.hid (HBA.out.trans (hb2.mono HBA.out.size))
              clear hb2 PA
              simp only [Ps.deepWant, if_true, if_false, Bool.false_eq_true]
              go_wp2
              go_ret
              exact ⟨rfl, HB2.out.alloc HB2.out.size _⟩
            · obtain ⟨md, row, top, hok, hrl⟩ := Ps.deep_ok (n := j) (by omega) false
              rw [hV, hok] at PA
              rw [← hV] at PA
              unfold PAllP at PA
              have t8 : ((8 : Int) < (j : Int)) = False := eq_false (by omega)
              clear hV hsrc h8
              go_wp2_with fail
              refine PA.mono ?_
              rintro e w2 ⟨hb2, sv', tv, rfl, hpr⟩
              have HB2 := Lib.hid (HBA.out.trans (hb2.mono HBA.out.size))
              obtain ⟨so, sc, rfl, _⟩ := hpr.at
              obtain ⟨tvo, tvc, rfl, _⟩ := hpr.top.formV
              rw [List.length_map, hrl]
              generalize top.length = M
              clear hb2 PA hpr hok hrl
              go_wp2
              go_ret
              exact ⟨rfl, HB2.out.alloc HB2.out.size _⟩
  | true =>
    go_enter Tryd.func6, Tryd.ntmps6
    go_wp2_with fail
    refine SW.mono ?_
    rintro e wa ⟨rfl, hba⟩
    have HBA := Lib.hid hba
    have HSA := Lib.hid (HS.out.below hba)
    clear hba SW
    go_wp2
    go_loopw [7, 9] (fun s7 s9 wr => ∃ (k : Nat) (X : List UInt8), k ≤ N ∧ s9 = .int .i64 k ∧ s7 = .string ⟨X.toArray⟩ ∧ X.length = 10 + k * 20 ∧ wr = wa ∧ Hid (X = Ps.modeS ++ Ps.openN true k)) (fun _ i _ => N - (intOf i).toNat)
    case atStart => exact ⟨0, Ps.modeS, Nat.zero_le _, rfl, rfl, rfl, rfl, by show _ = _; simp [Ps.openN]⟩
    case round =>
      obtain ⟨k, X, hk, rfl, rfl, hX, rfl, HX⟩ := hrel
      obtain ⟨LX, hLX⟩ : ∃ LX, X.length = LX := ⟨_, rfl⟩
      rw [hLX] at hX
      have hz : (⟨X.toArray⟩ : ByteArray).size = LX := hLX
      by_cases hlt : k < N
      · obtain ⟨X2, hX2, hlen, hX3⟩ := ba_joinP X [105, 102, 32, 99, 97, 112, 32, 34, 97, 34, 32, 123, 125, 32, 101, 108, 115, 101, 32, 123]
        rw [hLX] at hlen
        have hz1 : (⟨#[105, 102, 32, 99, 97, 112, 32, 34, 97, 34, 32, 123, 125, 32, 101, 108, 115, 101, 32, 123]⟩ : ByteArray).size = 20 := rfl
        have HX2 : Hid (X2 = Ps.modeS ++ Ps.openN true (k + 1)) := Lib.hid (by rw [hX3, HX.out, Ps.openN]; simp [Ps.openS])
        have hsm : (9223372036854775807 < LX + 20) = False := eq_false (by omega)
        have HLX := Lib.hid hX
        clear hX3 hX hLX
        go_wp2
        go_roundw
        case rel => exact ⟨k + 1, X2, by omega, by first | rfl | go_num, by first | rfl | simp only [hX2], by rw [hlen, HLX.out]; simp; omega, by first | rfl | trivial, HX2⟩
        case measure => simp [intOf]; omega
      · have hkN : k = N := by omega
        subst hkN
        have HX := Lib.hid HX.out
        have HLX := Lib.hid hX
        have HLEN := Lib.hid hLX
        clear hlt hk hX hLX hz
        go_wp2
        go_loopw [7, 10] (fun s7 s10 wx => ∃ (j : Nat) (Y : List UInt8), j ≤ k ∧ s10 = .int .i64 j ∧ s7 = .string ⟨Y.toArray⟩ ∧ Y.length = LX + j ∧ wx = wr ∧ Hid (Y = X ++ List.replicate j 125)) (fun _ i _ => k - (intOf i).toNat)
        case atStart => exact ⟨0, X, Nat.zero_le _, rfl, rfl, HLEN.out, rfl, by show _ = _; simp⟩
        case round =>
          obtain ⟨j, Y, hj, rfl, rfl, hY, rfl, HY⟩ := hrel
          obtain ⟨LY, hLY⟩ : ∃ LY, Y.length = LY := ⟨_, rfl⟩
          rw [hLY] at hY
          have hz : (⟨Y.toArray⟩ : ByteArray).size = LY := hLY
          have hLX := HLX.out
          by_cases hlt : j < k
          · obtain ⟨X2, hX2, hlen, hX3⟩ := ba_snocP Y 125
            rw [hLY] at hlen
            have hz1 : (⟨#[125]⟩ : ByteArray).size = 1 := rfl
            have HX2 : Hid (X2 = X ++ List.replicate (j + 1) 125) := Lib.hid (by rw [hX3, HY.out, List.replicate_succ', List.append_assoc])
            have hsm : (9223372036854775807 < LY + 1) = False := eq_false (by omega)
            have HLY := Lib.hid hY
            clear hX3 hY hLY hLX
            go_wp2
            go_roundw
            case rel => exact ⟨j + 1, X2, by omega, by first | rfl | go_num, by first | rfl | simp only [hX2], by rw [hlen, HLY.out]; omega, by first | rfl | trivial, HX2⟩
            case measure => simp [intOf]; omega
          · have hjk : j = k := by omega
            subst hjk
            have hV : Y = Ps.deepSrc j true := by rw [HY.out, HX.out]; rfl
            have PA := pall_any Y (by rw [hLY]; omega) _ HSA.out
            have hsrc := hV
            clear hlt hj hz hY hLY hLX
            by_cases h8 : 8 < j
            · rw [hV, Ps.deep_err hN1 h8] at PA
              rw [← hV] at PA
              unfold PAllP at PA
              have t8 : (8 : Int) < (j : Int) := by omega
              clear hV hsrc h8
              go_wp2_with fail
              refine PA.mono ?_
              rintro e w2 ⟨hb2, rfl, _⟩
              have HB2 := Lib.hid (HBA.out.trans (hb2.mono HBA.out.size))
              clear hb2 PA
              simp only [Ps.deepWant, if_true, if_false, Bool.false_eq_true]
              go_wp2
              go_ret
              exact ⟨rfl, HB2.out.alloc HB2.out.size _⟩
            · obtain ⟨md, row, top, hok, hrl⟩ := Ps.deep_ok (n := j) (by omega) true
              rw [hV, hok] at PA
              rw [← hV] at PA
              unfold PAllP at PA
              have t8 : ((8 : Int) < (j : Int)) = False := eq_false (by omega)
              clear hV hsrc h8
              go_wp2_with fail
              refine PA.mono ?_
              rintro e w2 ⟨hb2, sv', tv, rfl, hpr⟩
              have HB2 := Lib.hid (HBA.out.trans (hb2.mono HBA.out.size))
              obtain ⟨so, sc, rfl, _⟩ := hpr.at
              obtain ⟨tvo, tvc, rfl, _⟩ := hpr.top.formV
              rw [List.length_map, hrl]
              generalize top.length = M
              clear hb2 PA hpr hok hrl
              go_wp2
              go_ret
              exact ⟨rfl, HB2.out.alloc HB2.out.size _⟩
end Go.Proofs.YtiikionoagmabaaDoor

/- The table of shapes, out of what the rows say of it. -/
namespace Go.Proofs.YtiikionoagmabaaDoor
open Go.RowKit Go.ChangeShapes Go.WideShapes

theorem gShapes : Tryd.prog.globalNamed "rejoinder/parse.shapes" = some 0 := by kernel_rfl
theorem gShapesType : (Tryd.prog.globals[0]?).map (·.type) = some 62 := by kernel_rfl
theorem c18 : Tryd.prog.cellsOf 62 = 18 := by kernel_rfl
theorem c1s : Tryd.prog.cellsOf 9 = 1 := by kernel_rfl
theorem shapes_eq {H : Type} : (Rows.laid_rejoinder_parse_shapes : DataW H) = .agg ((List.range 18).map fun i => .lit (.string (Ps.shapeS i))) := rfl
theorem shp_of_laid {W : World} {rest : List (String × DataW Unit)} (h : laidMet Tryd.prog (("rejoinder/parse.shapes", Rows.laid_rejoinder_parse_shapes) :: rest) W) : SHP W := by
  obtain ⟨ps, ⟨g', t', cs, fuel, p, q, hg', ht', hvar, hd, _, _⟩, _⟩ := h
  obtain rfl := Option.some.inj (gShapes.symm.trans hg')
  obtain rfl := Option.some.inj (gShapesType.symm.trans ht')
  rw [shapes_eq] at hd
  obtain ⟨xs, m, _, hx, hl, hn, hr⟩ := DataW.trod_array Tryd.underlying62 hd
  rw [c18] at hl
  intro i hi
  have h1 := hr i hi
  rw [c1s, Nat.mul_one] at h1
  have hxi : xs[i]? = some (xs[i]'(by omega)) := List.getElem?_eq_getElem _
  rw [hxi] at h1
  obtain ⟨s, e1, e2, _⟩ := DataW.trod_string Tryd.underlying9 h1
  have hci : cs[i]? = some (.string s) := by
    have := congrArg (·[0]?) e1
    simpa [List.getElem?_take, List.getElem?_drop] using this
  have hxx : (xs.map (·.1))[i]? = some (.lit (.string (Ps.shapeS i))) := by
    have hx2 : xs.map (·.1) = (List.range 18).map fun i => (DataW.lit (.string (Ps.shapeS i)) : DataW Unit) := by
      have := congrArg Prod.fst hx
      simpa using this.symm
    rw [hx2, List.getElem?_map, List.getElem?_range hi]
    rfl
  rw [List.getElem?_map, hxi, e2] at hxx
  have hs : s.data.toList = Ps.shapeS i := by simpa using hxx
  have hcell := World.var?_cell gShapes hvar i
  rw [hcell, ← hs]
  simpa using hci
end Go.Proofs.YtiikionoagmabaaDoor
