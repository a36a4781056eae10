/- The texts Shelf, ParseSmall, ParseFits, TokRow, RowCut, ParseRd, ParseTake, StmtRow, IntRow, ParsePx, ParsePo, ParseSet, ParsePop, Held, one behind the other. -/
import Derived.Shelf.Strings.Trim
import Derived.Shelf.Small.Utf8
import Derived.Shelf.Small.Strs
import Derived.Shelf.Strings.Search1
import Derived.Shelf.Strings.Search2
import Derived.Shelf.Strings.Search3
import Derived.Shelf.Strings.Cut
import Derived.Shelf.LaysM
import Derived.Shelf.Strings.Shaped
import Derived.Shelf.Strings.Prefix
import Derived.Shelf.Unicode.Decode
import Derived.Shelf.Strings.Runes
import Derived.Shelf.Strings.AsciiSet
import Derived.Shelf.Unicode.DecodeSlow
import Derived.Shelf.Unicode.DecodeAny
import Derived.Shelf.Slices.Turned
import Derived.Test.YtiikionoagmabaaDoorProg
import Derived.Test.YtiikionoagmabaaDoorG0
import Derived.Deep.AppendLies
import Derived.Deep.RegionHeld3
/- Contracts of the library, laid over this program. -/
namespace Go.Proofs
open Go.Shelf
def Tryd.lays231_ren : Go.Shelf.Ren := ⟨fun | 231 => 70 | n => n, fun | 9 => 9 | 5 => 5 | 3 => 3 | 4 => 4 | n => n, fun | n => n⟩
theorem Tryd.lays231 : Go.Proofs.Lays.n231 Tryd.prog Tryd.lays231_ren := {
  mixed := by kernel_rfl
  f231 := Tryd.func70.trans (congrArg some (by kernel_rfl))
  t3 := Tryd.underlying3
  a3 := Tryd.isAgg3
  z3 := Tryd.sizeOf3
  v3 := Tryd.zeroValue3
  t4 := Tryd.underlying4
  a4 := Tryd.isAgg4
  z4 := Tryd.sizeOf4
  v4 := Tryd.zeroValue4
  t5 := Tryd.underlying5
  a5 := Tryd.isAgg5
  z5 := Tryd.sizeOf5
  v5 := Tryd.zeroValue5
  t9 := Tryd.underlying9
  a9 := Tryd.isAgg9
  z9 := Tryd.sizeOf9
  v9 := Tryd.zeroValue9 }
open Go.RowKit in
theorem Tryd.strings_trimLeftByte (s : ByteArray) (c : UInt8) (w : World) :
    Calls Tryd.prog 70 #[.string s, .int .u8 c.toNat] w fun e w' => e = .returned (.string ⟨(Lib.trimLeftB s.data.toList c).toArray⟩) ∧ w' = w := Any.strings_trimLeftByte Tryd.lays231 s c w
def Tryd.lays161_ren : Go.Shelf.Ren := ⟨fun | 161 => 64 | 231 => 70 | 227 => 71 | 233 => 72 | 235 => 73 | 228 => 80 | 197 => 81 | 151 => 82 | 260 => 85 | 152 => 86 | 137 => 74 | 119 => 87 | 224 => 78 | 225 => 77 | 217 => 76 | 266 => 83 | n => n, fun | 9 => 9 | 4 => 4 | 3 => 3 | 5 => 5 | 117 => 108 | 116 => 107 | 0 => 0 | 124 => 111 | 105 => 114 | 21 => 21 | 119 => 121 | 46 => 113 | 139 => 124 | 138 => 123 | n => n, fun | 3 => 2 | 4 => 3 | n => n⟩
theorem Tryd.lays161 : Go.Proofs.Lays.n161 Tryd.prog Tryd.lays161_ren := {
  mixed := by kernel_rfl
  f119 := Tryd.func87.trans (congrArg some (by kernel_rfl))
  f137 := Tryd.func74.trans (congrArg some (by kernel_rfl))
  f151 := Tryd.func82.trans (congrArg some (by kernel_rfl))
  f152 := Tryd.func86.trans (congrArg some (by kernel_rfl))
  f161 := Tryd.func64.trans (congrArg some (by kernel_rfl))
  f197 := Tryd.func81.trans (congrArg some (by kernel_rfl))
  f217 := Tryd.func76.trans (congrArg some (by kernel_rfl))
  f224 := Tryd.func78.trans (congrArg some (by kernel_rfl))
  f225 := Tryd.func77.trans (congrArg some (by kernel_rfl))
  f227 := Tryd.func71.trans (congrArg some (by kernel_rfl))
  f228 := Tryd.func80.trans (congrArg some (by kernel_rfl))
  f231 := Tryd.func70.trans (congrArg some (by kernel_rfl))
  f233 := Tryd.func72.trans (congrArg some (by kernel_rfl))
  f235 := Tryd.func73.trans (congrArg some (by kernel_rfl))
  f260 := Tryd.func85.trans (congrArg some (by kernel_rfl))
  f266 := Tryd.func83.trans (congrArg some (by kernel_rfl))
  t0 := Tryd.underlying0
  a0 := Tryd.isAgg0
  z0 := Tryd.sizeOf0
  v0 := Tryd.zeroValue0
  t3 := Tryd.underlying3
  a3 := Tryd.isAgg3
  z3 := Tryd.sizeOf3
  v3 := Tryd.zeroValue3
  t4 := Tryd.underlying4
  a4 := Tryd.isAgg4
  z4 := Tryd.sizeOf4
  v4 := Tryd.zeroValue4
  t5 := Tryd.underlying5
  a5 := Tryd.isAgg5
  z5 := Tryd.sizeOf5
  v5 := Tryd.zeroValue5
  t9 := Tryd.underlying9
  a9 := Tryd.isAgg9
  z9 := Tryd.sizeOf9
  v9 := Tryd.zeroValue9
  t21 := Tryd.underlying21
  a21 := Tryd.isAgg21
  z21 := Tryd.sizeOf21
  v21 := Tryd.zeroValue21
  t46 := Tryd.underlying113
  a46 := Tryd.isAgg113
  z46 := Tryd.sizeOf113
  v46 := Tryd.zeroValue113
  t105 := Tryd.underlying114
  a105 := Tryd.isAgg114
  z105 := Tryd.sizeOf114
  v105 := Tryd.zeroValue114
  t116 := Tryd.underlying107
  a116 := Tryd.isAgg107
  z116 := Tryd.sizeOf107
  t117 := Tryd.underlying108
  a117 := Tryd.isAgg108
  z117 := Tryd.sizeOf108
  v117 := Tryd.zeroValue108
  t119 := Tryd.underlying121
  a119 := Tryd.isAgg121
  z119 := Tryd.sizeOf121
  t124 := Tryd.underlying111
  a124 := Tryd.isAgg111
  z124 := Tryd.sizeOf111
  v124 := Tryd.zeroValue111
  t138 := Tryd.underlying123
  a138 := Tryd.isAgg123
  z138 := Tryd.sizeOf123
  v138 := Tryd.zeroValue123
  t139 := Tryd.underlying124
  a139 := Tryd.isAgg124
  z139 := Tryd.sizeOf124
  v139 := Tryd.zeroValue124
  g3 := by kernel_rfl
  g4 := by kernel_rfl }
open Go.RowKit in
theorem Tryd.strings_TrimLeft_one (s : ByteArray) (c : UInt8) (hc : c.toNat < 128) (w : World) :
    Calls Tryd.prog 64 #[.string s, .string ⟨#[c]⟩] w fun e w' => e = .returned (.string ⟨(Lib.trimLeftB s.data.toList c).toArray⟩) ∧ w' = w := Any.strings_TrimLeft_one Tryd.lays161 s c hc w
def Tryd.lays119_ren : Go.Shelf.Ren := ⟨fun | 119 => 87 | n => n, fun | 21 => 21 | 4 => 4 | n => n, fun | n => n⟩
theorem Tryd.lays119 : Go.Proofs.Lays.n119 Tryd.prog Tryd.lays119_ren := {
  mixed := by kernel_rfl
  f119 := Tryd.func87.trans (congrArg some (by kernel_rfl))
  t4 := Tryd.underlying4
  a4 := Tryd.isAgg4
  z4 := Tryd.sizeOf4
  v4 := Tryd.zeroValue4
  t21 := Tryd.underlying21
  a21 := Tryd.isAgg21
  z21 := Tryd.sizeOf21
  v21 := Tryd.zeroValue21 }
theorem Tryd.utf8_ValidRune (r : Int) (w : World) :
    Calls Tryd.prog 87 #[.int .i32 r] w fun e w' => e = .returned (.bool (Lib.validRune r)) ∧ w' = w := Any.utf8_ValidRune Tryd.lays119 r w
def Tryd.lays137_ren : Go.Shelf.Ren := ⟨fun | 137 => 74 | 217 => 76 | 266 => 83 | n => n, fun | 9 => 9 | 5 => 5 | 3 => 3 | n => n, fun | n => n⟩
theorem Tryd.lays137 : Go.Proofs.Lays.n137 Tryd.prog Tryd.lays137_ren := {
  mixed := by kernel_rfl
  f137 := Tryd.func74.trans (congrArg some (by kernel_rfl))
  f217 := Tryd.func76.trans (congrArg some (by kernel_rfl))
  f266 := Tryd.func83.trans (congrArg some (by kernel_rfl))
  t3 := Tryd.underlying3
  a3 := Tryd.isAgg3
  z3 := Tryd.sizeOf3
  v3 := Tryd.zeroValue3
  t5 := Tryd.underlying5
  a5 := Tryd.isAgg5
  z5 := Tryd.sizeOf5
  v5 := Tryd.zeroValue5
  t9 := Tryd.underlying9
  a9 := Tryd.isAgg9
  z9 := Tryd.sizeOf9
  v9 := Tryd.zeroValue9 }
open Go.RowKit in
theorem Tryd.strings_IndexByte (s : ByteArray) (c : Int) (w : World) :
    Calls Tryd.prog 74 #[.string s, .int .u8 c] w fun e w' => e = .returned (.int .i64 (Lib.indexByte s.data.toList c.toNat.toUInt8)) ∧ w' = w := Any.strings_IndexByte Tryd.lays137 s c w
def Tryd.lays217_ren : Go.Shelf.Ren := ⟨fun | 217 => 76 | 266 => 83 | n => n, fun | 9 => 9 | 5 => 5 | 3 => 3 | n => n, fun | n => n⟩
theorem Tryd.lays217 : Go.Proofs.Lays.n217 Tryd.prog Tryd.lays217_ren := {
  mixed := by kernel_rfl
  f217 := Tryd.func76.trans (congrArg some (by kernel_rfl))
  f266 := Tryd.func83.trans (congrArg some (by kernel_rfl))
  t3 := Tryd.underlying3
  a3 := Tryd.isAgg3
  z3 := Tryd.sizeOf3
  v3 := Tryd.zeroValue3
  t5 := Tryd.underlying5
  a5 := Tryd.isAgg5
  z5 := Tryd.sizeOf5
  v5 := Tryd.zeroValue5
  t9 := Tryd.underlying9
  a9 := Tryd.isAgg9
  z9 := Tryd.sizeOf9
  v9 := Tryd.zeroValue9 }
open Go.RowKit Go.Lib in
theorem Tryd.stringslite_IndexByte (s : ByteArray) (c : Int) (w : World) :
    Calls Tryd.prog 76 #[.string s, .int .u8 c] w fun e w' => e = .returned (.int .i64 (Lib.indexByte s.data.toList c.toNat.toUInt8)) ∧ w' = w := Any.stringslite_IndexByte Tryd.lays217 s c w
def Tryd.lays224_ren : Go.Shelf.Ren := ⟨fun | 224 => 78 | n => n, fun | 3 => 3 | n => n, fun | n => n⟩
theorem Tryd.lays224 : Go.Proofs.Lays.n224 Tryd.prog Tryd.lays224_ren := {
  mixed := by kernel_rfl
  f224 := Tryd.func78.trans (congrArg some (by kernel_rfl))
  t3 := Tryd.underlying3
  a3 := Tryd.isAgg3
  z3 := Tryd.sizeOf3
  v3 := Tryd.zeroValue3 }
open Go.RowKit Go.Lib in
theorem Tryd.bytealg_Cutover (n : Int) (h0 : 0 ≤ n) (h1 : n < 4611686018427387904) (w : World) :
    Calls Tryd.prog 78 #[.int .i64 n] w fun e w' => e = .returned (.int .i64 ((n + 16) / 8)) ∧ w' = w := Any.bytealg_Cutover Tryd.lays224 n h0 h1 w
def Tryd.lays314_ren : Go.Shelf.Ren := ⟨fun | 314 => 84 | n => n, fun | 9 => 9 | 51 => 117 | 3 => 3 | 4 => 4 | 5 => 5 | 46 => 113 | n => n, fun | n => n⟩
theorem Tryd.lays314 : Go.Proofs.Lays.n314 Tryd.prog Tryd.lays314_ren := {
  mixed := by kernel_rfl
  f314 := Tryd.func84.trans (congrArg some (by kernel_rfl))
  t3 := Tryd.underlying3
  a3 := Tryd.isAgg3
  z3 := Tryd.sizeOf3
  v3 := Tryd.zeroValue3
  t4 := Tryd.underlying4
  a4 := Tryd.isAgg4
  z4 := Tryd.sizeOf4
  v4 := Tryd.zeroValue4
  t5 := Tryd.underlying5
  a5 := Tryd.isAgg5
  z5 := Tryd.sizeOf5
  v5 := Tryd.zeroValue5
  t9 := Tryd.underlying9
  a9 := Tryd.isAgg9
  z9 := Tryd.sizeOf9
  v9 := Tryd.zeroValue9
  t46 := Tryd.underlying113
  a46 := Tryd.isAgg113
  z46 := Tryd.sizeOf113
  v46 := Tryd.zeroValue113
  t51 := Tryd.underlying117
  a51 := Tryd.isAgg117
  z51 := Tryd.sizeOf117
  v51 := Tryd.zeroValue117 }
open Go.RowKit Go.Lib in
theorem Tryd.bytealg_hashStr (sep : ByteArray) (hs : sep.size < 4294967281) (w : World) :
    Calls Tryd.prog 84 #[.string sep] w fun e w' => e = .returned (.tuple #[.int .u32 (RK.H sep.data.toList % 4294967296), .int .u32 (16777619 ^ sep.size % 4294967296)]) ∧ w' = w := Any.bytealg_hashStr Tryd.lays314 sep hs w
def Tryd.lays267_ren : Go.Shelf.Ren := ⟨fun | 267 => 79 | 314 => 84 | n => n, fun | 9 => 9 | 3 => 3 | 146 => 118 | 51 => 117 | 4 => 4 | 5 => 5 | 46 => 113 | n => n, fun | n => n⟩
theorem Tryd.lays267 : Go.Proofs.Lays.n267 Tryd.prog Tryd.lays267_ren := {
  mixed := by kernel_rfl
  f267 := Tryd.func79.trans (congrArg some (by kernel_rfl))
  f314 := Tryd.func84.trans (congrArg some (by kernel_rfl))
  t3 := Tryd.underlying3
  a3 := Tryd.isAgg3
  z3 := Tryd.sizeOf3
  v3 := Tryd.zeroValue3
  t4 := Tryd.underlying4
  a4 := Tryd.isAgg4
  z4 := Tryd.sizeOf4
  v4 := Tryd.zeroValue4
  t5 := Tryd.underlying5
  a5 := Tryd.isAgg5
  z5 := Tryd.sizeOf5
  v5 := Tryd.zeroValue5
  t9 := Tryd.underlying9
  a9 := Tryd.isAgg9
  z9 := Tryd.sizeOf9
  v9 := Tryd.zeroValue9
  t46 := Tryd.underlying113
  a46 := Tryd.isAgg113
  z46 := Tryd.sizeOf113
  v46 := Tryd.zeroValue113
  t51 := Tryd.underlying117
  a51 := Tryd.isAgg117
  z51 := Tryd.sizeOf117
  v51 := Tryd.zeroValue117
  t146 := Tryd.underlying118
  a146 := Tryd.isAgg118
  z146 := Tryd.sizeOf118
  v146 := Tryd.zeroValue118 }
open Go.RowKit Go.Lib in
theorem Tryd.bytealg_IndexRabinKarp (s sep : ByteArray) (h1 : 1 ≤ sep.size) (h2 : sep.size ≤ s.size) (hs : s.size < 4294967281) (w : World) :
    Calls Tryd.prog 79 #[.string s, .string sep] w fun e w' => e = .returned (.int .i64 (Lib.index s.data.toList sep.data.toList)) ∧ w' = w := Any.bytealg_IndexRabinKarp Tryd.lays267 s sep h1 h2 hs w
def Tryd.lays219_ren : Go.Shelf.Ren := ⟨fun | 219 => 69 | 217 => 76 | 225 => 77 | 224 => 78 | 267 => 79 | 266 => 83 | 314 => 84 | n => n, fun | 9 => 9 | 3 => 3 | 4 => 4 | 5 => 5 | 46 => 113 | 146 => 118 | 51 => 117 | n => n, fun | 1 => 1 | n => n⟩
theorem Tryd.lays219 : Go.Proofs.Lays.n219 Tryd.prog Tryd.lays219_ren := {
  mixed := by kernel_rfl
  f217 := Tryd.func76.trans (congrArg some (by kernel_rfl))
  f219 := Tryd.func69.trans (congrArg some (by kernel_rfl))
  f224 := Tryd.func78.trans (congrArg some (by kernel_rfl))
  f225 := Tryd.func77.trans (congrArg some (by kernel_rfl))
  f266 := Tryd.func83.trans (congrArg some (by kernel_rfl))
  f267 := Tryd.func79.trans (congrArg some (by kernel_rfl))
  f314 := Tryd.func84.trans (congrArg some (by kernel_rfl))
  t3 := Tryd.underlying3
  a3 := Tryd.isAgg3
  z3 := Tryd.sizeOf3
  v3 := Tryd.zeroValue3
  t4 := Tryd.underlying4
  a4 := Tryd.isAgg4
  z4 := Tryd.sizeOf4
  v4 := Tryd.zeroValue4
  t5 := Tryd.underlying5
  a5 := Tryd.isAgg5
  z5 := Tryd.sizeOf5
  v5 := Tryd.zeroValue5
  t9 := Tryd.underlying9
  a9 := Tryd.isAgg9
  z9 := Tryd.sizeOf9
  v9 := Tryd.zeroValue9
  t46 := Tryd.underlying113
  a46 := Tryd.isAgg113
  z46 := Tryd.sizeOf113
  v46 := Tryd.zeroValue113
  t51 := Tryd.underlying117
  a51 := Tryd.isAgg117
  z51 := Tryd.sizeOf117
  v51 := Tryd.zeroValue117
  t146 := Tryd.underlying118
  a146 := Tryd.isAgg118
  z146 := Tryd.sizeOf118
  v146 := Tryd.zeroValue118
  g1 := by kernel_rfl }
open Go.RowKit Go.Lib in
theorem Tryd.stringslite_Index_one (s : ByteArray) (c : UInt8) (w : World) :
    Calls Tryd.prog 69 #[.string s, .string ⟨#[c]⟩] w fun e w' => e = .returned (.int .i64 (Lib.indexByte s.data.toList c)) ∧ w' = w := Any.stringslite_Index_one Tryd.lays219 s c w
open Go.RowKit Go.Lib in
theorem Tryd.stringslite_Index (s sub : ByteArray) (m : Int) (w : World) (hs : s.size < 4294967281) (hm : w.cell? ⟨1, 0, none⟩ = some (.int .i64 m)) :
    Calls Tryd.prog 69 #[.string s, .string sub] w fun e w' => e = .returned (.int .i64 (Lib.index s.data.toList sub.data.toList)) ∧ w' = w := Any.stringslite_Index Tryd.lays219 s sub m w hs hm
def Tryd.lays143_ren : Go.Shelf.Ren := ⟨fun | 143 => 63 | 219 => 69 | 217 => 76 | 225 => 77 | 224 => 78 | 267 => 79 | 266 => 83 | 314 => 84 | n => n, fun | 9 => 9 | 3 => 3 | 4 => 4 | 5 => 5 | 46 => 113 | 146 => 118 | 51 => 117 | n => n, fun | 1 => 1 | n => n⟩
theorem Tryd.lays143 : Go.Proofs.Lays.n143 Tryd.prog Tryd.lays143_ren := {
  mixed := by kernel_rfl
  f143 := Tryd.func63.trans (congrArg some (by kernel_rfl))
  f217 := Tryd.func76.trans (congrArg some (by kernel_rfl))
  f219 := Tryd.func69.trans (congrArg some (by kernel_rfl))
  f224 := Tryd.func78.trans (congrArg some (by kernel_rfl))
  f225 := Tryd.func77.trans (congrArg some (by kernel_rfl))
  f266 := Tryd.func83.trans (congrArg some (by kernel_rfl))
  f267 := Tryd.func79.trans (congrArg some (by kernel_rfl))
  f314 := Tryd.func84.trans (congrArg some (by kernel_rfl))
  t3 := Tryd.underlying3
  a3 := Tryd.isAgg3
  z3 := Tryd.sizeOf3
  v3 := Tryd.zeroValue3
  t4 := Tryd.underlying4
  a4 := Tryd.isAgg4
  z4 := Tryd.sizeOf4
  v4 := Tryd.zeroValue4
  t5 := Tryd.underlying5
  a5 := Tryd.isAgg5
  z5 := Tryd.sizeOf5
  v5 := Tryd.zeroValue5
  t9 := Tryd.underlying9
  a9 := Tryd.isAgg9
  z9 := Tryd.sizeOf9
  v9 := Tryd.zeroValue9
  t46 := Tryd.underlying113
  a46 := Tryd.isAgg113
  z46 := Tryd.sizeOf113
  v46 := Tryd.zeroValue113
  t51 := Tryd.underlying117
  a51 := Tryd.isAgg117
  z51 := Tryd.sizeOf117
  v51 := Tryd.zeroValue117
  t146 := Tryd.underlying118
  a146 := Tryd.isAgg118
  z146 := Tryd.sizeOf118
  v146 := Tryd.zeroValue118
  g1 := by kernel_rfl }
open Go.RowKit Go.Lib in
theorem Tryd.strings_Index_one (s : ByteArray) (c : UInt8) (w : World) :
    Calls Tryd.prog 63 #[.string s, .string ⟨#[c]⟩] w fun e w' => e = .returned (.int .i64 (Lib.indexByte s.data.toList c)) ∧ w' = w := Any.strings_Index_one Tryd.lays143 s c w
open Go.RowKit Go.Lib in
theorem Tryd.strings_Index (s sub : ByteArray) (m : Int) (w : World) (hs : s.size < 4294967281) (hm : w.cell? ⟨1, 0, none⟩ = some (.int .i64 m)) :
    Calls Tryd.prog 63 #[.string s, .string sub] w fun e w' => e = .returned (.int .i64 (Lib.index s.data.toList sub.data.toList)) ∧ w' = w := Any.strings_Index Tryd.lays143 s sub m w hs hm
def Tryd.lays144_ren : Go.Shelf.Ren := ⟨fun | 144 => 51 | 143 => 63 | 219 => 69 | 217 => 76 | 225 => 77 | 224 => 78 | 267 => 79 | 266 => 83 | 314 => 84 | n => n, fun | 9 => 9 | 4 => 4 | 3 => 3 | 5 => 5 | 46 => 113 | 146 => 118 | 51 => 117 | n => n, fun | 1 => 1 | n => n⟩
theorem Tryd.lays144 : Go.Proofs.Lays.n144 Tryd.prog Tryd.lays144_ren := {
  mixed := by kernel_rfl
  f143 := Tryd.func63.trans (congrArg some (by kernel_rfl))
  f144 := Tryd.func51.trans (congrArg some (by kernel_rfl))
  f217 := Tryd.func76.trans (congrArg some (by kernel_rfl))
  f219 := Tryd.func69.trans (congrArg some (by kernel_rfl))
  f224 := Tryd.func78.trans (congrArg some (by kernel_rfl))
  f225 := Tryd.func77.trans (congrArg some (by kernel_rfl))
  f266 := Tryd.func83.trans (congrArg some (by kernel_rfl))
  f267 := Tryd.func79.trans (congrArg some (by kernel_rfl))
  f314 := Tryd.func84.trans (congrArg some (by kernel_rfl))
  t3 := Tryd.underlying3
  a3 := Tryd.isAgg3
  z3 := Tryd.sizeOf3
  v3 := Tryd.zeroValue3
  t4 := Tryd.underlying4
  a4 := Tryd.isAgg4
  z4 := Tryd.sizeOf4
  v4 := Tryd.zeroValue4
  t5 := Tryd.underlying5
  a5 := Tryd.isAgg5
  z5 := Tryd.sizeOf5
  v5 := Tryd.zeroValue5
  t9 := Tryd.underlying9
  a9 := Tryd.isAgg9
  z9 := Tryd.sizeOf9
  v9 := Tryd.zeroValue9
  t46 := Tryd.underlying113
  a46 := Tryd.isAgg113
  z46 := Tryd.sizeOf113
  v46 := Tryd.zeroValue113
  t51 := Tryd.underlying117
  a51 := Tryd.isAgg117
  z51 := Tryd.sizeOf117
  v51 := Tryd.zeroValue117
  t146 := Tryd.underlying118
  a146 := Tryd.isAgg118
  z146 := Tryd.sizeOf118
  v146 := Tryd.zeroValue118
  g1 := by kernel_rfl }
open Go.RowKit Go.Lib in
theorem Tryd.strings_Contains_one (s : ByteArray) (c : UInt8) (w : World) :
    Calls Tryd.prog 51 #[.string s, .string ⟨#[c]⟩] w fun e w' => e = .returned (.bool (decide (0 ≤ Lib.indexByte s.data.toList c))) ∧ w' = w := Any.strings_Contains_one Tryd.lays144 s c w
open Go.RowKit Go.Lib in
theorem Tryd.strings_Contains (s sub : ByteArray) (m : Int) (w : World) (hs : s.size < 4294967281) (hm : w.cell? ⟨1, 0, none⟩ = some (.int .i64 m)) :
    Calls Tryd.prog 51 #[.string s, .string sub] w fun e w' => e = .returned (.bool (Lib.contains s.data.toList sub.data.toList)) ∧ w' = w := Any.strings_Contains Tryd.lays144 s sub m w hs hm
def Tryd.lays220_ren : Go.Shelf.Ren := ⟨fun | 220 => 62 | 219 => 69 | 217 => 76 | 225 => 77 | 224 => 78 | 267 => 79 | 266 => 83 | 314 => 84 | n => n, fun | 9 => 9 | 4 => 4 | 3 => 3 | 5 => 5 | 46 => 113 | 146 => 118 | 51 => 117 | n => n, fun | 1 => 1 | n => n⟩
theorem Tryd.lays220 : Go.Proofs.Lays.n220 Tryd.prog Tryd.lays220_ren := {
  mixed := by kernel_rfl
  f217 := Tryd.func76.trans (congrArg some (by kernel_rfl))
  f219 := Tryd.func69.trans (congrArg some (by kernel_rfl))
  f220 := Tryd.func62.trans (congrArg some (by kernel_rfl))
  f224 := Tryd.func78.trans (congrArg some (by kernel_rfl))
  f225 := Tryd.func77.trans (congrArg some (by kernel_rfl))
  f266 := Tryd.func83.trans (congrArg some (by kernel_rfl))
  f267 := Tryd.func79.trans (congrArg some (by kernel_rfl))
  f314 := Tryd.func84.trans (congrArg some (by kernel_rfl))
  t3 := Tryd.underlying3
  a3 := Tryd.isAgg3
  z3 := Tryd.sizeOf3
  v3 := Tryd.zeroValue3
  t4 := Tryd.underlying4
  a4 := Tryd.isAgg4
  z4 := Tryd.sizeOf4
  v4 := Tryd.zeroValue4
  t5 := Tryd.underlying5
  a5 := Tryd.isAgg5
  z5 := Tryd.sizeOf5
  v5 := Tryd.zeroValue5
  t9 := Tryd.underlying9
  a9 := Tryd.isAgg9
  z9 := Tryd.sizeOf9
  v9 := Tryd.zeroValue9
  t46 := Tryd.underlying113
  a46 := Tryd.isAgg113
  z46 := Tryd.sizeOf113
  v46 := Tryd.zeroValue113
  t51 := Tryd.underlying117
  a51 := Tryd.isAgg117
  z51 := Tryd.sizeOf117
  v51 := Tryd.zeroValue117
  t146 := Tryd.underlying118
  a146 := Tryd.isAgg118
  z146 := Tryd.sizeOf118
  v146 := Tryd.zeroValue118
  g1 := by kernel_rfl }
open Go.RowKit Go.Lib in
theorem Tryd.stringslite_Cut (s sep : ByteArray) (m : Int) (w : World) (hs : s.size < 4294967281) (hm : w.cell? ⟨1, 0, none⟩ = some (.int .i64 m)) :
    Calls Tryd.prog 62 #[.string s, .string sep] w fun e w' => e = .returned (.tuple #[.string ⟨(Lib.cut s.data.toList sep.data.toList).1.toArray⟩, .string ⟨(Lib.cut s.data.toList sep.data.toList).2.1.toArray⟩, .bool (Lib.cut s.data.toList sep.data.toList).2.2]) ∧ ∃ n, w' = w.drewN n := Any.stringslite_Cut Tryd.lays220 s sep m w hs hm
def Tryd.lays145_ren : Go.Shelf.Ren := ⟨fun | 145 => 50 | 220 => 62 | 219 => 69 | 217 => 76 | 225 => 77 | 224 => 78 | 267 => 79 | 266 => 83 | 314 => 84 | n => n, fun | 9 => 9 | 4 => 4 | 59 => 86 | 3 => 3 | 5 => 5 | 46 => 113 | 146 => 118 | 51 => 117 | n => n, fun | 1 => 1 | n => n⟩
theorem Tryd.lays145 : Go.Proofs.Lays.n145 Tryd.prog Tryd.lays145_ren := {
  mixed := by kernel_rfl
  f145 := Tryd.func50.trans (congrArg some (by kernel_rfl))
  f217 := Tryd.func76.trans (congrArg some (by kernel_rfl))
  f219 := Tryd.func69.trans (congrArg some (by kernel_rfl))
  f220 := Tryd.func62.trans (congrArg some (by kernel_rfl))
  f224 := Tryd.func78.trans (congrArg some (by kernel_rfl))
  f225 := Tryd.func77.trans (congrArg some (by kernel_rfl))
  f266 := Tryd.func83.trans (congrArg some (by kernel_rfl))
  f267 := Tryd.func79.trans (congrArg some (by kernel_rfl))
  f314 := Tryd.func84.trans (congrArg some (by kernel_rfl))
  t3 := Tryd.underlying3
  a3 := Tryd.isAgg3
  z3 := Tryd.sizeOf3
  v3 := Tryd.zeroValue3
  t4 := Tryd.underlying4
  a4 := Tryd.isAgg4
  z4 := Tryd.sizeOf4
  v4 := Tryd.zeroValue4
  t5 := Tryd.underlying5
  a5 := Tryd.isAgg5
  z5 := Tryd.sizeOf5
  v5 := Tryd.zeroValue5
  t9 := Tryd.underlying9
  a9 := Tryd.isAgg9
  z9 := Tryd.sizeOf9
  v9 := Tryd.zeroValue9
  t46 := Tryd.underlying113
  a46 := Tryd.isAgg113
  z46 := Tryd.sizeOf113
  v46 := Tryd.zeroValue113
  t51 := Tryd.underlying117
  a51 := Tryd.isAgg117
  z51 := Tryd.sizeOf117
  v51 := Tryd.zeroValue117
  t59 := Tryd.underlying86
  a59 := Tryd.isAgg86
  z59 := Tryd.sizeOf86
  v59 := Tryd.zeroValue86
  t146 := Tryd.underlying118
  a146 := Tryd.isAgg118
  z146 := Tryd.sizeOf118
  v146 := Tryd.zeroValue118
  g1 := by kernel_rfl }
open Go.RowKit Go.Lib in
theorem Tryd.strings_Cut (s sep : ByteArray) (m : Int) (w : World) (hs : s.size < 4294967281) (hm : w.cell? ⟨1, 0, none⟩ = some (.int .i64 m)) :
    Calls Tryd.prog 50 #[.string s, .string sep] w fun e w' => e = .returned (.tuple #[.string ⟨(Lib.cut s.data.toList sep.data.toList).1.toArray⟩, .string ⟨(Lib.cut s.data.toList sep.data.toList).2.1.toArray⟩, .bool (Lib.cut s.data.toList sep.data.toList).2.2]) ∧ ∃ n, w' = w.drewN n := Any.strings_Cut Tryd.lays145 s sep m w hs hm
def Tryd.laysM219_ren : Go.Shelf.Ren := ⟨fun | 219 => 69 | 217 => 76 | 225 => 77 | 224 => 78 | 267 => 79 | 266 => 83 | 314 => 84 | n => n, fun | 9 => 9 | 3 => 3 | 4 => 4 | 5 => 5 | 46 => 113 | 146 => 118 | 51 => 117 | n => n, fun | 1 => 1 | n => n⟩
theorem Tryd.laysM219 : Go.Proofs.LaysM.n219 Tryd.prog Tryd.laysM219_ren := {
  mixed := by kernel_rfl
  f217 := Tryd.func76.trans (congrArg some (by kernel_rfl))
  f219 := Tryd.func69.trans (congrArg some (by kernel_rfl))
  f224 := Tryd.func78.trans (congrArg some (by kernel_rfl))
  f225 := Tryd.func77.trans (congrArg some (by kernel_rfl))
  f266 := Tryd.func83.trans (congrArg some (by kernel_rfl))
  f267 := Tryd.func79.trans (congrArg some (by kernel_rfl))
  f314 := Tryd.func84.trans (congrArg some (by kernel_rfl))
  t3 := Tryd.underlying3
  a3 := Tryd.isAgg3
  z3 := Tryd.sizeOf3
  v3 := Tryd.zeroValue3
  t4 := Tryd.underlying4
  a4 := Tryd.isAgg4
  z4 := Tryd.sizeOf4
  v4 := Tryd.zeroValue4
  t5 := Tryd.underlying5
  a5 := Tryd.isAgg5
  z5 := Tryd.sizeOf5
  v5 := Tryd.zeroValue5
  t9 := Tryd.underlying9
  a9 := Tryd.isAgg9
  z9 := Tryd.sizeOf9
  v9 := Tryd.zeroValue9
  t46 := Tryd.underlying113
  a46 := Tryd.isAgg113
  z46 := Tryd.sizeOf113
  v46 := Tryd.zeroValue113
  t51 := Tryd.underlying117
  a51 := Tryd.isAgg117
  z51 := Tryd.sizeOf117
  v51 := Tryd.zeroValue117
  t146 := Tryd.underlying118
  a146 := Tryd.isAgg118
  z146 := Tryd.sizeOf118
  v146 := Tryd.zeroValue118
  g1 := by kernel_rfl
  i3 := by kernel_rfl
  i4 := by kernel_rfl
  i5 := by kernel_rfl
  i9 := by kernel_rfl
  i46 := by kernel_rfl
  i51 := by kernel_rfl
  i146 := by kernel_rfl
  m1 := by kernel_rfl
  s1_3 := fun w h => Go.Proofs.cell_of_shapedOpen_int (zero := #[.int .i64 0]) (t := 3) h (of_decide_eq_true (by kernel_rfl)) (by kernel_rfl) rfl (by kernel_rfl) (by kernel_rfl) Tryd.underlying3 }
open Go.RowKit Go.Lib in
theorem Tryd.stringslite_Index_shaped (s sub : ByteArray) (w : World) (h : w.ShapedOpen Tryd.prog) (hs : s.size < 4294967281) :
    Calls Tryd.prog 69 #[.string s, .string sub] w fun e w' => e = .returned (.int .i64 (Lib.index s.data.toList sub.data.toList)) ∧ w' = w := Any.stringslite_Index_shaped Tryd.laysM219 s sub w h hs
def Tryd.laysM143_ren : Go.Shelf.Ren := ⟨fun | 143 => 63 | 219 => 69 | 217 => 76 | 225 => 77 | 224 => 78 | 267 => 79 | 266 => 83 | 314 => 84 | n => n, fun | 9 => 9 | 3 => 3 | 4 => 4 | 5 => 5 | 46 => 113 | 146 => 118 | 51 => 117 | n => n, fun | 1 => 1 | n => n⟩
theorem Tryd.laysM143 : Go.Proofs.LaysM.n143 Tryd.prog Tryd.laysM143_ren := {
  mixed := by kernel_rfl
  f143 := Tryd.func63.trans (congrArg some (by kernel_rfl))
  f217 := Tryd.func76.trans (congrArg some (by kernel_rfl))
  f219 := Tryd.func69.trans (congrArg some (by kernel_rfl))
  f224 := Tryd.func78.trans (congrArg some (by kernel_rfl))
  f225 := Tryd.func77.trans (congrArg some (by kernel_rfl))
  f266 := Tryd.func83.trans (congrArg some (by kernel_rfl))
  f267 := Tryd.func79.trans (congrArg some (by kernel_rfl))
  f314 := Tryd.func84.trans (congrArg some (by kernel_rfl))
  t3 := Tryd.underlying3
  a3 := Tryd.isAgg3
  z3 := Tryd.sizeOf3
  v3 := Tryd.zeroValue3
  t4 := Tryd.underlying4
  a4 := Tryd.isAgg4
  z4 := Tryd.sizeOf4
  v4 := Tryd.zeroValue4
  t5 := Tryd.underlying5
  a5 := Tryd.isAgg5
  z5 := Tryd.sizeOf5
  v5 := Tryd.zeroValue5
  t9 := Tryd.underlying9
  a9 := Tryd.isAgg9
  z9 := Tryd.sizeOf9
  v9 := Tryd.zeroValue9
  t46 := Tryd.underlying113
  a46 := Tryd.isAgg113
  z46 := Tryd.sizeOf113
  v46 := Tryd.zeroValue113
  t51 := Tryd.underlying117
  a51 := Tryd.isAgg117
  z51 := Tryd.sizeOf117
  v51 := Tryd.zeroValue117
  t146 := Tryd.underlying118
  a146 := Tryd.isAgg118
  z146 := Tryd.sizeOf118
  v146 := Tryd.zeroValue118
  g1 := by kernel_rfl
  i3 := by kernel_rfl
  i4 := by kernel_rfl
  i5 := by kernel_rfl
  i9 := by kernel_rfl
  i46 := by kernel_rfl
  i51 := by kernel_rfl
  i146 := by kernel_rfl
  m1 := by kernel_rfl
  s1_3 := fun w h => Go.Proofs.cell_of_shapedOpen_int (zero := #[.int .i64 0]) (t := 3) h (of_decide_eq_true (by kernel_rfl)) (by kernel_rfl) rfl (by kernel_rfl) (by kernel_rfl) Tryd.underlying3 }
open Go.RowKit Go.Lib in
theorem Tryd.strings_Index_shaped (s sub : ByteArray) (w : World) (h : w.ShapedOpen Tryd.prog) (hs : s.size < 4294967281) :
    Calls Tryd.prog 63 #[.string s, .string sub] w fun e w' => e = .returned (.int .i64 (Lib.index s.data.toList sub.data.toList)) ∧ w' = w := Any.strings_Index_shaped Tryd.laysM143 s sub w h hs
def Tryd.laysM144_ren : Go.Shelf.Ren := ⟨fun | 144 => 51 | 143 => 63 | 219 => 69 | 217 => 76 | 225 => 77 | 224 => 78 | 267 => 79 | 266 => 83 | 314 => 84 | n => n, fun | 9 => 9 | 4 => 4 | 3 => 3 | 5 => 5 | 46 => 113 | 146 => 118 | 51 => 117 | n => n, fun | 1 => 1 | n => n⟩
theorem Tryd.laysM144 : Go.Proofs.LaysM.n144 Tryd.prog Tryd.laysM144_ren := {
  mixed := by kernel_rfl
  f143 := Tryd.func63.trans (congrArg some (by kernel_rfl))
  f144 := Tryd.func51.trans (congrArg some (by kernel_rfl))
  f217 := Tryd.func76.trans (congrArg some (by kernel_rfl))
  f219 := Tryd.func69.trans (congrArg some (by kernel_rfl))
  f224 := Tryd.func78.trans (congrArg some (by kernel_rfl))
  f225 := Tryd.func77.trans (congrArg some (by kernel_rfl))
  f266 := Tryd.func83.trans (congrArg some (by kernel_rfl))
  f267 := Tryd.func79.trans (congrArg some (by kernel_rfl))
  f314 := Tryd.func84.trans (congrArg some (by kernel_rfl))
  t3 := Tryd.underlying3
  a3 := Tryd.isAgg3
  z3 := Tryd.sizeOf3
  v3 := Tryd.zeroValue3
  t4 := Tryd.underlying4
  a4 := Tryd.isAgg4
  z4 := Tryd.sizeOf4
  v4 := Tryd.zeroValue4
  t5 := Tryd.underlying5
  a5 := Tryd.isAgg5
  z5 := Tryd.sizeOf5
  v5 := Tryd.zeroValue5
  t9 := Tryd.underlying9
  a9 := Tryd.isAgg9
  z9 := Tryd.sizeOf9
  v9 := Tryd.zeroValue9
  t46 := Tryd.underlying113
  a46 := Tryd.isAgg113
  z46 := Tryd.sizeOf113
  v46 := Tryd.zeroValue113
  t51 := Tryd.underlying117
  a51 := Tryd.isAgg117
  z51 := Tryd.sizeOf117
  v51 := Tryd.zeroValue117
  t146 := Tryd.underlying118
  a146 := Tryd.isAgg118
  z146 := Tryd.sizeOf118
  v146 := Tryd.zeroValue118
  g1 := by kernel_rfl
  i3 := by kernel_rfl
  i4 := by kernel_rfl
  i5 := by kernel_rfl
  i9 := by kernel_rfl
  i46 := by kernel_rfl
  i51 := by kernel_rfl
  i146 := by kernel_rfl
  m1 := by kernel_rfl
  s1_3 := fun w h => Go.Proofs.cell_of_shapedOpen_int (zero := #[.int .i64 0]) (t := 3) h (of_decide_eq_true (by kernel_rfl)) (by kernel_rfl) rfl (by kernel_rfl) (by kernel_rfl) Tryd.underlying3 }
open Go.RowKit Go.Lib in
theorem Tryd.strings_Contains_shaped (s sub : ByteArray) (w : World) (h : w.ShapedOpen Tryd.prog) (hs : s.size < 4294967281) :
    Calls Tryd.prog 51 #[.string s, .string sub] w fun e w' => e = .returned (.bool (Lib.contains s.data.toList sub.data.toList)) ∧ w' = w := Any.strings_Contains_shaped Tryd.laysM144 s sub w h hs
def Tryd.laysM220_ren : Go.Shelf.Ren := ⟨fun | 220 => 62 | 219 => 69 | 217 => 76 | 225 => 77 | 224 => 78 | 267 => 79 | 266 => 83 | 314 => 84 | n => n, fun | 9 => 9 | 4 => 4 | 3 => 3 | 5 => 5 | 46 => 113 | 146 => 118 | 51 => 117 | n => n, fun | 1 => 1 | n => n⟩
theorem Tryd.laysM220 : Go.Proofs.LaysM.n220 Tryd.prog Tryd.laysM220_ren := {
  mixed := by kernel_rfl
  f217 := Tryd.func76.trans (congrArg some (by kernel_rfl))
  f219 := Tryd.func69.trans (congrArg some (by kernel_rfl))
  f220 := Tryd.func62.trans (congrArg some (by kernel_rfl))
  f224 := Tryd.func78.trans (congrArg some (by kernel_rfl))
  f225 := Tryd.func77.trans (congrArg some (by kernel_rfl))
  f266 := Tryd.func83.trans (congrArg some (by kernel_rfl))
  f267 := Tryd.func79.trans (congrArg some (by kernel_rfl))
  f314 := Tryd.func84.trans (congrArg some (by kernel_rfl))
  t3 := Tryd.underlying3
  a3 := Tryd.isAgg3
  z3 := Tryd.sizeOf3
  v3 := Tryd.zeroValue3
  t4 := Tryd.underlying4
  a4 := Tryd.isAgg4
  z4 := Tryd.sizeOf4
  v4 := Tryd.zeroValue4
  t5 := Tryd.underlying5
  a5 := Tryd.isAgg5
  z5 := Tryd.sizeOf5
  v5 := Tryd.zeroValue5
  t9 := Tryd.underlying9
  a9 := Tryd.isAgg9
  z9 := Tryd.sizeOf9
  v9 := Tryd.zeroValue9
  t46 := Tryd.underlying113
  a46 := Tryd.isAgg113
  z46 := Tryd.sizeOf113
  v46 := Tryd.zeroValue113
  t51 := Tryd.underlying117
  a51 := Tryd.isAgg117
  z51 := Tryd.sizeOf117
  v51 := Tryd.zeroValue117
  t146 := Tryd.underlying118
  a146 := Tryd.isAgg118
  z146 := Tryd.sizeOf118
  v146 := Tryd.zeroValue118
  g1 := by kernel_rfl
  i3 := by kernel_rfl
  i4 := by kernel_rfl
  i5 := by kernel_rfl
  i9 := by kernel_rfl
  i46 := by kernel_rfl
  i51 := by kernel_rfl
  i146 := by kernel_rfl
  m1 := by kernel_rfl
  s1_3 := fun w h => Go.Proofs.cell_of_shapedOpen_int (zero := #[.int .i64 0]) (t := 3) h (of_decide_eq_true (by kernel_rfl)) (by kernel_rfl) rfl (by kernel_rfl) (by kernel_rfl) Tryd.underlying3 }
open Go.RowKit Go.Lib in
theorem Tryd.stringslite_Cut_shaped (s sep : ByteArray) (w : World) (h : w.ShapedOpen Tryd.prog) (hs : s.size < 4294967281) :
    Calls Tryd.prog 62 #[.string s, .string sep] w fun e w' => e = .returned (.tuple #[.string ⟨(Lib.cut s.data.toList sep.data.toList).1.toArray⟩, .string ⟨(Lib.cut s.data.toList sep.data.toList).2.1.toArray⟩, .bool (Lib.cut s.data.toList sep.data.toList).2.2]) ∧ ∃ n, w' = w.drewN n := Any.stringslite_Cut_shaped Tryd.laysM220 s sep w h hs
def Tryd.laysM145_ren : Go.Shelf.Ren := ⟨fun | 145 => 50 | 220 => 62 | 219 => 69 | 217 => 76 | 225 => 77 | 224 => 78 | 267 => 79 | 266 => 83 | 314 => 84 | n => n, fun | 9 => 9 | 4 => 4 | 59 => 86 | 3 => 3 | 5 => 5 | 46 => 113 | 146 => 118 | 51 => 117 | n => n, fun | 1 => 1 | n => n⟩
theorem Tryd.laysM145 : Go.Proofs.LaysM.n145 Tryd.prog Tryd.laysM145_ren := {
  mixed := by kernel_rfl
  f145 := Tryd.func50.trans (congrArg some (by kernel_rfl))
  f217 := Tryd.func76.trans (congrArg some (by kernel_rfl))
  f219 := Tryd.func69.trans (congrArg some (by kernel_rfl))
  f220 := Tryd.func62.trans (congrArg some (by kernel_rfl))
  f224 := Tryd.func78.trans (congrArg some (by kernel_rfl))
  f225 := Tryd.func77.trans (congrArg some (by kernel_rfl))
  f266 := Tryd.func83.trans (congrArg some (by kernel_rfl))
  f267 := Tryd.func79.trans (congrArg some (by kernel_rfl))
  f314 := Tryd.func84.trans (congrArg some (by kernel_rfl))
  t3 := Tryd.underlying3
  a3 := Tryd.isAgg3
  z3 := Tryd.sizeOf3
  v3 := Tryd.zeroValue3
  t4 := Tryd.underlying4
  a4 := Tryd.isAgg4
  z4 := Tryd.sizeOf4
  v4 := Tryd.zeroValue4
  t5 := Tryd.underlying5
  a5 := Tryd.isAgg5
  z5 := Tryd.sizeOf5
  v5 := Tryd.zeroValue5
  t9 := Tryd.underlying9
  a9 := Tryd.isAgg9
  z9 := Tryd.sizeOf9
  v9 := Tryd.zeroValue9
  t46 := Tryd.underlying113
  a46 := Tryd.isAgg113
  z46 := Tryd.sizeOf113
  v46 := Tryd.zeroValue113
  t51 := Tryd.underlying117
  a51 := Tryd.isAgg117
  z51 := Tryd.sizeOf117
  v51 := Tryd.zeroValue117
  t59 := Tryd.underlying86
  a59 := Tryd.isAgg86
  z59 := Tryd.sizeOf86
  v59 := Tryd.zeroValue86
  t146 := Tryd.underlying118
  a146 := Tryd.isAgg118
  z146 := Tryd.sizeOf118
  v146 := Tryd.zeroValue118
  g1 := by kernel_rfl
  i3 := by kernel_rfl
  i4 := by kernel_rfl
  i5 := by kernel_rfl
  i9 := by kernel_rfl
  i46 := by kernel_rfl
  i51 := by kernel_rfl
  i59 := by kernel_rfl
  i146 := by kernel_rfl
  m1 := by kernel_rfl
  s1_3 := fun w h => Go.Proofs.cell_of_shapedOpen_int (zero := #[.int .i64 0]) (t := 3) h (of_decide_eq_true (by kernel_rfl)) (by kernel_rfl) rfl (by kernel_rfl) (by kernel_rfl) Tryd.underlying3 }
open Go.RowKit Go.Lib in
theorem Tryd.strings_Cut_shaped (s sep : ByteArray) (w : World) (h : w.ShapedOpen Tryd.prog) (hs : s.size < 4294967281) :
    Calls Tryd.prog 50 #[.string s, .string sep] w fun e w' => e = .returned (.tuple #[.string ⟨(Lib.cut s.data.toList sep.data.toList).1.toArray⟩, .string ⟨(Lib.cut s.data.toList sep.data.toList).2.1.toArray⟩, .bool (Lib.cut s.data.toList sep.data.toList).2.2]) ∧ ∃ n, w' = w.drewN n := Any.strings_Cut_shaped Tryd.laysM145 s sep w h hs
def Tryd.lays207_ren : Go.Shelf.Ren := ⟨fun | 207 => 59 | n => n, fun | 9 => 9 | 4 => 4 | 3 => 3 | n => n, fun | n => n⟩
theorem Tryd.lays207 : Go.Proofs.Lays.n207 Tryd.prog Tryd.lays207_ren := {
  mixed := by kernel_rfl
  f207 := Tryd.func59.trans (congrArg some (by kernel_rfl))
  t3 := Tryd.underlying3
  a3 := Tryd.isAgg3
  z3 := Tryd.sizeOf3
  v3 := Tryd.zeroValue3
  t4 := Tryd.underlying4
  a4 := Tryd.isAgg4
  z4 := Tryd.sizeOf4
  v4 := Tryd.zeroValue4
  t9 := Tryd.underlying9
  a9 := Tryd.isAgg9
  z9 := Tryd.sizeOf9
  v9 := Tryd.zeroValue9 }
open Go.RowKit Go.Lib in
theorem Tryd.stringslite_HasSuffix (s p : ByteArray) (w : World) (hs : s.size ≤ 9223372036854775807) :
    Calls Tryd.prog 59 #[.string s, .string p] w fun e w' => e = .returned (.bool (Lib.hasSuffix s.data.toList p.data.toList)) ∧ w' = w := Any.stringslite_HasSuffix Tryd.lays207 s p w hs
def Tryd.lays100_ren : Go.Shelf.Ren := ⟨fun | 100 => 41 | 207 => 59 | n => n, fun | 9 => 9 | 4 => 4 | 3 => 3 | n => n, fun | n => n⟩
theorem Tryd.lays100 : Go.Proofs.Lays.n100 Tryd.prog Tryd.lays100_ren := {
  mixed := by kernel_rfl
  f100 := Tryd.func41.trans (congrArg some (by kernel_rfl))
  f207 := Tryd.func59.trans (congrArg some (by kernel_rfl))
  t3 := Tryd.underlying3
  a3 := Tryd.isAgg3
  z3 := Tryd.sizeOf3
  v3 := Tryd.zeroValue3
  t4 := Tryd.underlying4
  a4 := Tryd.isAgg4
  z4 := Tryd.sizeOf4
  v4 := Tryd.zeroValue4
  t9 := Tryd.underlying9
  a9 := Tryd.isAgg9
  z9 := Tryd.sizeOf9
  v9 := Tryd.zeroValue9 }
open Go.RowKit Go.Lib in
theorem Tryd.strings_HasSuffix (s p : ByteArray) (w : World) (hs : s.size ≤ 9223372036854775807) :
    Calls Tryd.prog 41 #[.string s, .string p] w fun e w' => e = .returned (.bool (Lib.hasSuffix s.data.toList p.data.toList)) ∧ w' = w := Any.strings_HasSuffix Tryd.lays100 s p w hs
def Tryd.lays197_ren : Go.Shelf.Ren := ⟨fun | 197 => 81 | 260 => 85 | n => n, fun | 9 => 9 | 21 => 21 | 3 => 3 | 4 => 4 | 5 => 5 | 105 => 114 | 119 => 121 | 0 => 0 | 46 => 113 | 139 => 124 | 138 => 123 | n => n, fun | 3 => 2 | 4 => 3 | n => n⟩
theorem Tryd.lays197 : Go.Proofs.Lays.n197 Tryd.prog Tryd.lays197_ren := {
  mixed := by kernel_rfl
  f197 := Tryd.func81.trans (congrArg some (by kernel_rfl))
  f260 := Tryd.func85.trans (congrArg some (by kernel_rfl))
  t0 := Tryd.underlying0
  a0 := Tryd.isAgg0
  z0 := Tryd.sizeOf0
  v0 := Tryd.zeroValue0
  t3 := Tryd.underlying3
  a3 := Tryd.isAgg3
  z3 := Tryd.sizeOf3
  v3 := Tryd.zeroValue3
  t4 := Tryd.underlying4
  a4 := Tryd.isAgg4
  z4 := Tryd.sizeOf4
  v4 := Tryd.zeroValue4
  t5 := Tryd.underlying5
  a5 := Tryd.isAgg5
  z5 := Tryd.sizeOf5
  v5 := Tryd.zeroValue5
  t9 := Tryd.underlying9
  a9 := Tryd.isAgg9
  z9 := Tryd.sizeOf9
  v9 := Tryd.zeroValue9
  t21 := Tryd.underlying21
  a21 := Tryd.isAgg21
  z21 := Tryd.sizeOf21
  v21 := Tryd.zeroValue21
  t46 := Tryd.underlying113
  a46 := Tryd.isAgg113
  z46 := Tryd.sizeOf113
  v46 := Tryd.zeroValue113
  t105 := Tryd.underlying114
  a105 := Tryd.isAgg114
  z105 := Tryd.sizeOf114
  v105 := Tryd.zeroValue114
  t119 := Tryd.underlying121
  a119 := Tryd.isAgg121
  z119 := Tryd.sizeOf121
  t138 := Tryd.underlying123
  a138 := Tryd.isAgg123
  z138 := Tryd.sizeOf123
  v138 := Tryd.zeroValue123
  t139 := Tryd.underlying124
  a139 := Tryd.isAgg124
  z139 := Tryd.sizeOf124
  v139 := Tryd.zeroValue124
  g3 := by kernel_rfl
  g4 := by kernel_rfl }
open Go.RowKit Go.Lib in
theorem Tryd.utf8_DecodeRuneInString_ascii (s : ByteArray) (x : UInt8) (w : World) (h0 : s.data.toList[0]? = some x) (hx : x.toNat < 128) :
    Calls Tryd.prog 81 #[.string s] w fun e w' => e = .returned (.tuple #[.int .i32 x.toNat, .int .i64 1]) ∧ w' = w := Any.utf8_DecodeRuneInString_ascii Tryd.lays197 s x w h0 hx
def Tryd.lays152_ren : Go.Shelf.Ren := ⟨fun | 152 => 86 | 137 => 74 | 119 => 87 | 224 => 78 | 225 => 77 | 217 => 76 | 266 => 83 | n => n, fun | 9 => 9 | 21 => 21 | 3 => 3 | 4 => 4 | 5 => 5 | 0 => 0 | 46 => 113 | n => n, fun | n => n⟩
theorem Tryd.lays152 : Go.Proofs.Lays.n152 Tryd.prog Tryd.lays152_ren := {
  mixed := by kernel_rfl
  f119 := Tryd.func87.trans (congrArg some (by kernel_rfl))
  f137 := Tryd.func74.trans (congrArg some (by kernel_rfl))
  f152 := Tryd.func86.trans (congrArg some (by kernel_rfl))
  f217 := Tryd.func76.trans (congrArg some (by kernel_rfl))
  f224 := Tryd.func78.trans (congrArg some (by kernel_rfl))
  f225 := Tryd.func77.trans (congrArg some (by kernel_rfl))
  f266 := Tryd.func83.trans (congrArg some (by kernel_rfl))
  t0 := Tryd.underlying0
  a0 := Tryd.isAgg0
  z0 := Tryd.sizeOf0
  v0 := Tryd.zeroValue0
  t3 := Tryd.underlying3
  a3 := Tryd.isAgg3
  z3 := Tryd.sizeOf3
  v3 := Tryd.zeroValue3
  t4 := Tryd.underlying4
  a4 := Tryd.isAgg4
  z4 := Tryd.sizeOf4
  v4 := Tryd.zeroValue4
  t5 := Tryd.underlying5
  a5 := Tryd.isAgg5
  z5 := Tryd.sizeOf5
  v5 := Tryd.zeroValue5
  t9 := Tryd.underlying9
  a9 := Tryd.isAgg9
  z9 := Tryd.sizeOf9
  v9 := Tryd.zeroValue9
  t21 := Tryd.underlying21
  a21 := Tryd.isAgg21
  z21 := Tryd.sizeOf21
  v21 := Tryd.zeroValue21
  t46 := Tryd.underlying113
  a46 := Tryd.isAgg113
  z46 := Tryd.sizeOf113
  v46 := Tryd.zeroValue113 }
open Go.RowKit Go.Lib in
theorem Tryd.strings_IndexRune_ascii (s : ByteArray) (r : Int) (w : World) (h0 : 0 ≤ r) (h1 : r < 128) :
    Calls Tryd.prog 86 #[.string s, .int .i32 r] w fun e w' => e = .returned (.int .i64 (Lib.indexByte s.data.toList r.toNat.toUInt8)) ∧ w' = w := Any.strings_IndexRune_ascii Tryd.lays152 s r w h0 h1
def Tryd.lays151_ren : Go.Shelf.Ren := ⟨fun | 151 => 82 | 152 => 86 | 137 => 74 | 119 => 87 | 224 => 78 | 225 => 77 | 217 => 76 | 266 => 83 | n => n, fun | 9 => 9 | 21 => 21 | 4 => 4 | 3 => 3 | 5 => 5 | 0 => 0 | 46 => 113 | n => n, fun | n => n⟩
theorem Tryd.lays151 : Go.Proofs.Lays.n151 Tryd.prog Tryd.lays151_ren := {
  mixed := by kernel_rfl
  f119 := Tryd.func87.trans (congrArg some (by kernel_rfl))
  f137 := Tryd.func74.trans (congrArg some (by kernel_rfl))
  f151 := Tryd.func82.trans (congrArg some (by kernel_rfl))
  f152 := Tryd.func86.trans (congrArg some (by kernel_rfl))
  f217 := Tryd.func76.trans (congrArg some (by kernel_rfl))
  f224 := Tryd.func78.trans (congrArg some (by kernel_rfl))
  f225 := Tryd.func77.trans (congrArg some (by kernel_rfl))
  f266 := Tryd.func83.trans (congrArg some (by kernel_rfl))
  t0 := Tryd.underlying0
  a0 := Tryd.isAgg0
  z0 := Tryd.sizeOf0
  v0 := Tryd.zeroValue0
  t3 := Tryd.underlying3
  a3 := Tryd.isAgg3
  z3 := Tryd.sizeOf3
  v3 := Tryd.zeroValue3
  t4 := Tryd.underlying4
  a4 := Tryd.isAgg4
  z4 := Tryd.sizeOf4
  v4 := Tryd.zeroValue4
  t5 := Tryd.underlying5
  a5 := Tryd.isAgg5
  z5 := Tryd.sizeOf5
  v5 := Tryd.zeroValue5
  t9 := Tryd.underlying9
  a9 := Tryd.isAgg9
  z9 := Tryd.sizeOf9
  v9 := Tryd.zeroValue9
  t21 := Tryd.underlying21
  a21 := Tryd.isAgg21
  z21 := Tryd.sizeOf21
  v21 := Tryd.zeroValue21
  t46 := Tryd.underlying113
  a46 := Tryd.isAgg113
  z46 := Tryd.sizeOf113
  v46 := Tryd.zeroValue113 }
open Go.RowKit Go.Lib in
theorem Tryd.strings_ContainsRune_ascii (s : ByteArray) (r : Int) (w : World) (h0 : 0 ≤ r) (h1 : r < 128) :
    Calls Tryd.prog 82 #[.string s, .int .i32 r] w fun e w' => e = .returned (.bool (decide (0 ≤ Lib.indexByte s.data.toList r.toNat.toUInt8))) ∧ w' = w := Any.strings_ContainsRune_ascii Tryd.lays151 s r w h0 h1
def Tryd.lays227_ren : Go.Shelf.Ren := ⟨fun | 227 => 71 | n => n, fun | 9 => 9 | 116 => 107 | 4 => 4 | 0 => 0 | 3 => 3 | 5 => 5 | n => n, fun | n => n⟩
theorem Tryd.lays227 : Go.Proofs.Lays.n227 Tryd.prog Tryd.lays227_ren := {
  mixed := by kernel_rfl
  f227 := Tryd.func71.trans (congrArg some (by kernel_rfl))
  t0 := Tryd.underlying0
  a0 := Tryd.isAgg0
  z0 := Tryd.sizeOf0
  v0 := Tryd.zeroValue0
  t3 := Tryd.underlying3
  a3 := Tryd.isAgg3
  z3 := Tryd.sizeOf3
  v3 := Tryd.zeroValue3
  t4 := Tryd.underlying4
  a4 := Tryd.isAgg4
  z4 := Tryd.sizeOf4
  v4 := Tryd.zeroValue4
  t5 := Tryd.underlying5
  a5 := Tryd.isAgg5
  z5 := Tryd.sizeOf5
  v5 := Tryd.zeroValue5
  t9 := Tryd.underlying9
  a9 := Tryd.isAgg9
  z9 := Tryd.sizeOf9
  v9 := Tryd.zeroValue9
  t116 := Tryd.underlying107
  a116 := Tryd.isAgg107
  z116 := Tryd.sizeOf107 }
open Go.RowKit Go.Lib in
theorem Tryd.strings_makeASCIISet (hv116 : ∀ w, (zeroValue 107).run Tryd.prog w = .ok (.agg (Array.replicate 256 (.bool false))) w) (chars : ByteArray) (w : World) (hs : chars.size < 4294967281) (hascii : ∀ (j : Nat) b, chars.data.toList[j]? = some b → b.toNat < 128) :
    Calls Tryd.prog 71 #[.string chars] w fun e w' => e = .returned (.tuple #[.agg (Lib.setCells chars.data.toList), .bool true]) ∧ w' = w.alloc (.cells (Lib.setCells chars.data.toList) 107) := Any.strings_makeASCIISet Tryd.lays227 hv116 (by kernel_rfl) chars w hs hascii
def Tryd.lays228_ren : Go.Shelf.Ren := ⟨fun | 228 => 80 | n => n, fun | 124 => 111 | 5 => 5 | 4 => 4 | 0 => 0 | 116 => 107 | n => n, fun | n => n⟩
theorem Tryd.lays228 : Go.Proofs.Lays.n228 Tryd.prog Tryd.lays228_ren := {
  mixed := by kernel_rfl
  f228 := Tryd.func80.trans (congrArg some (by kernel_rfl))
  t0 := Tryd.underlying0
  a0 := Tryd.isAgg0
  z0 := Tryd.sizeOf0
  v0 := Tryd.zeroValue0
  t4 := Tryd.underlying4
  a4 := Tryd.isAgg4
  z4 := Tryd.sizeOf4
  v4 := Tryd.zeroValue4
  t5 := Tryd.underlying5
  a5 := Tryd.isAgg5
  z5 := Tryd.sizeOf5
  v5 := Tryd.zeroValue5
  t116 := Tryd.underlying107
  a116 := Tryd.isAgg107
  z116 := Tryd.sizeOf107
  t124 := Tryd.underlying111
  a124 := Tryd.isAgg111
  z124 := Tryd.sizeOf111
  v124 := Tryd.zeroValue111 }
open Go.RowKit Go.Lib in
theorem Tryd.asciiSet_contains (b : Nat) (x : UInt8) (v : Bool) (w : World) (hc : w.cell? ⟨b, x.toNat, none⟩ = some (.bool v)) :
    Calls Tryd.prog 80 #[.pointer (some ⟨b, 0, none⟩), .int .u8 x.toNat] w fun e w' => e = .returned (.bool v) ∧ w' = w := Any.asciiSet_contains Tryd.lays228 b x v w hc
def Tryd.lays260_ren : Go.Shelf.Ren := ⟨fun | 260 => 85 | n => n, fun | 9 => 9 | 21 => 21 | 3 => 3 | 4 => 4 | 5 => 5 | 119 => 121 | 0 => 0 | 46 => 113 | 139 => 124 | 138 => 123 | n => n, fun | 3 => 2 | 4 => 3 | n => n⟩
theorem Tryd.lays260 : Go.Proofs.Lays.n260 Tryd.prog Tryd.lays260_ren := {
  mixed := by kernel_rfl
  f260 := Tryd.func85.trans (congrArg some (by kernel_rfl))
  t0 := Tryd.underlying0
  a0 := Tryd.isAgg0
  z0 := Tryd.sizeOf0
  v0 := Tryd.zeroValue0
  t3 := Tryd.underlying3
  a3 := Tryd.isAgg3
  z3 := Tryd.sizeOf3
  v3 := Tryd.zeroValue3
  t4 := Tryd.underlying4
  a4 := Tryd.isAgg4
  z4 := Tryd.sizeOf4
  v4 := Tryd.zeroValue4
  t5 := Tryd.underlying5
  a5 := Tryd.isAgg5
  z5 := Tryd.sizeOf5
  v5 := Tryd.zeroValue5
  t9 := Tryd.underlying9
  a9 := Tryd.isAgg9
  z9 := Tryd.sizeOf9
  v9 := Tryd.zeroValue9
  t21 := Tryd.underlying21
  a21 := Tryd.isAgg21
  z21 := Tryd.sizeOf21
  v21 := Tryd.zeroValue21
  t46 := Tryd.underlying113
  a46 := Tryd.isAgg113
  z46 := Tryd.sizeOf113
  v46 := Tryd.zeroValue113
  t119 := Tryd.underlying121
  a119 := Tryd.isAgg121
  z119 := Tryd.sizeOf121
  t138 := Tryd.underlying123
  a138 := Tryd.isAgg123
  z138 := Tryd.sizeOf123
  v138 := Tryd.zeroValue123
  t139 := Tryd.underlying124
  a139 := Tryd.isAgg124
  z139 := Tryd.sizeOf124
  v139 := Tryd.zeroValue124
  g3 := by kernel_rfl
  g4 := by kernel_rfl }
open Go.RowKit Go.Lib in
theorem Tryd.utf8_decodeRuneInStringSlow (s : ByteArray) (w : World) (hT : Lib.Utf8Tabs 2 3 w) :
    Calls Tryd.prog 85 #[.string s] w fun e w' => e = .returned (.tuple #[.int .i32 (Lib.decodeGo s).1, .int .i64 (Lib.decodeGo s).2]) ∧ Below w.heap.size w w' := Any.utf8_decodeRuneInStringSlow Tryd.lays260 s w hT
open Go.RowKit Go.Lib in
theorem Tryd.utf8_DecodeRuneInString (s : ByteArray) (w : World) (hT : Lib.Utf8Tabs 2 3 w) :
    Calls Tryd.prog 81 #[.string s] w fun e w' => e = .returned (.tuple #[.int .i32 (Lib.decodeGo s).1, .int .i64 (Lib.decodeGo s).2]) ∧ Below w.heap.size w w' := Any.utf8_DecodeRuneInString Tryd.lays197 s w hT
def Tryd.lays109_ren : Go.Shelf.Ren := ⟨fun | 109 => 66 | n => n, fun | 31 => 39 | 9 => 9 | 3 => 3 | 0 => 0 | 4 => 4 | n => n, fun | n => n⟩
theorem Tryd.lays109 : Go.Proofs.Lays.n109 Tryd.prog Tryd.lays109_ren := {
  mixed := by kernel_rfl
  f109 := Tryd.func66.trans (congrArg some (by kernel_rfl))
  t0 := Tryd.underlying0
  a0 := Tryd.isAgg0
  z0 := Tryd.sizeOf0
  v0 := Tryd.zeroValue0
  t3 := Tryd.underlying3
  a3 := Tryd.isAgg3
  z3 := Tryd.sizeOf3
  v3 := Tryd.zeroValue3
  t4 := Tryd.underlying4
  a4 := Tryd.isAgg4
  z4 := Tryd.sizeOf4
  v4 := Tryd.zeroValue4
  t9 := Tryd.underlying9
  a9 := Tryd.isAgg9
  z9 := Tryd.sizeOf9
  v9 := Tryd.zeroValue9
  t31 := Tryd.underlying39
  a31 := Tryd.isAgg39
  z31 := Tryd.sizeOf39
  v31 := Tryd.zeroValue39 }
open Go.Lib in
theorem Tryd.slices_Index_string (b off n c : Nat) (zs : List ByteArray) (x : ByteArray) (w : World) (hz : n ≤ zs.length) (hbig : n ≤ 9223372036854775807) (hc : ∀ j, j < zs.length → w.cell? ⟨b, off + j, none⟩ = some (.string (zs.getD j ByteArray.empty))) :
    Calls Tryd.prog 66 #[.slice (some ⟨b, off, none⟩) n c, .string x] w fun e w' => e = .returned (.int .i64 (Lib.idxOfS (zs.take n) x)) ∧ w' = w := Any.slices_Index_string Tryd.lays109 b off n c zs x w hz hbig hc
open Go.Lib in
theorem Tryd.slices_Index_string_empty (a : Option Addr) (c : Nat) (x : ByteArray) (w : World) :
    Calls Tryd.prog 66 #[.slice a 0 c, .string x] w fun e w' => e = .returned (.int .i64 (Lib.idxOfS [] x)) ∧ w' = w := Any.slices_Index_string_empty Tryd.lays109 a c x w
def Tryd.lays110_ren : Go.Shelf.Ren := ⟨fun | 110 => 55 | 109 => 66 | n => n, fun | 31 => 39 | 9 => 9 | 4 => 4 | 3 => 3 | 0 => 0 | n => n, fun | n => n⟩
theorem Tryd.lays110 : Go.Proofs.Lays.n110 Tryd.prog Tryd.lays110_ren := {
  mixed := by kernel_rfl
  f109 := Tryd.func66.trans (congrArg some (by kernel_rfl))
  f110 := Tryd.func55.trans (congrArg some (by kernel_rfl))
  t0 := Tryd.underlying0
  a0 := Tryd.isAgg0
  z0 := Tryd.sizeOf0
  v0 := Tryd.zeroValue0
  t3 := Tryd.underlying3
  a3 := Tryd.isAgg3
  z3 := Tryd.sizeOf3
  v3 := Tryd.zeroValue3
  t4 := Tryd.underlying4
  a4 := Tryd.isAgg4
  z4 := Tryd.sizeOf4
  v4 := Tryd.zeroValue4
  t9 := Tryd.underlying9
  a9 := Tryd.isAgg9
  z9 := Tryd.sizeOf9
  v9 := Tryd.zeroValue9
  t31 := Tryd.underlying39
  a31 := Tryd.isAgg39
  z31 := Tryd.sizeOf39
  v31 := Tryd.zeroValue39 }
open Go.Lib in
theorem Tryd.slices_Contains_string (b off n c : Nat) (zs : List ByteArray) (x : ByteArray) (w : World) (hz : n ≤ zs.length) (hbig : n ≤ 9223372036854775807) (hc : ∀ j, j < zs.length → w.cell? ⟨b, off + j, none⟩ = some (.string (zs.getD j ByteArray.empty))) :
    Calls Tryd.prog 55 #[.slice (some ⟨b, off, none⟩) n c, .string x] w fun e w' => e = .returned (.bool (Lib.containsS (zs.take n) x)) ∧ w' = w := Any.slices_Contains_string Tryd.lays110 b off n c zs x w hz hbig hc
open Go.Lib in
theorem Tryd.slices_Contains_string_empty (a : Option Addr) (c : Nat) (x : ByteArray) (w : World) :
    Calls Tryd.prog 55 #[.slice a 0 c, .string x] w fun e w' => e = .returned (.bool false) ∧ w' = w := Any.slices_Contains_string_empty Tryd.lays110 a c x w
end Go.Proofs

/- parse.Mode, Shape, fits walked (layer 15). -/
namespace Go.Proofs.YtiikionoagmabaaDoor
open Go.RowKit

/-- The package's table stands. -/
def SHP (w : World) : Prop := ∀ i, i < 18 → w.cell? ⟨0, i, none⟩ = some (.string ⟨(Ps.shapeS i).toArray⟩)
theorem SHP.trn {F : Nat → Prop} {w w' : World} (h : SHP w) (ht : Trn F w w') (hF : ¬ F 0) : SHP w' := fun i hi => (World.cell?_of_block (ht.block _ (World.block_lt_of_cell? w _ (h i hi)) hF)).trans (h i hi)
theorem SHP.below {w w' : World} (h : SHP w) (hb : Below w.heap.size w w') : SHP w' := fun i hi => (hb.cell (World.block_lt_of_cell? w _ (h i hi))).trans (h i hi)

theorem str_beq (l m : List UInt8) : ((⟨l.toArray⟩ : ByteArray).toList == (⟨m.toArray⟩ : ByteArray).toList) = (l == m) := by rw [Lib.toList_data, Lib.toList_data]
theorem str_beqL (l m : List UInt8) : ((⟨l.toArray⟩ : ByteArray).toList == m) = (l == m) := by rw [Lib.toList_data]

set_option maxHeartbeats 1000000 in
theorem pmode_any (l : List UInt8) (w : World) : Calls Tryd.prog 14 #[.string ⟨l.toArray⟩] w fun e w' => e = .returned (.int .i64 (Ps.mode l : Int)) ∧ w = w' := by
  by_cases c1 : l = [115, 109, 116, 112]
  ·
    have ec1 : (l == [115, 109, 116, 112]) = true := beq_iff_eq.2 c1
    have fc1 : (l = [115, 109, 116, 112]) = True := eq_true c1
    have hm : Ps.mode l = 1 := by unfold Ps.mode; rw [if_pos c1]
    rw [hm]
    clear hm c1
    go_enter Tryd.func14, Tryd.ntmps14
    go_wp2
    go_ret
    exact ⟨rfl, rfl⟩
  by_cases c2 : l = [112, 111, 112, 51]
  ·
    have ec1 : (l == [115, 109, 116, 112]) = false := beq_eq_false_iff_ne.2 c1
    have fc1 : (l = [115, 109, 116, 112]) = False := eq_false c1
    have ec2 : (l == [112, 111, 112, 51]) = true := beq_iff_eq.2 c2
    have fc2 : (l = [112, 111, 112, 51]) = True := eq_true c2
    have hm : Ps.mode l = 2 := by unfold Ps.mode; rw [if_neg c1, if_pos c2]
    rw [hm]
    clear hm c1 c2
    go_enter Tryd.func14, Tryd.ntmps14
    go_wp2
    go_ret
    exact ⟨rfl, rfl⟩
  by_cases c3 : l = [102, 116, 112]
  ·
    have ec1 : (l == [115, 109, 116, 112]) = false := beq_eq_false_iff_ne.2 c1
    have fc1 : (l = [115, 109, 116, 112]) = False := eq_false c1
    have ec2 : (l == [112, 111, 112, 51]) = false := beq_eq_false_iff_ne.2 c2
    have fc2 : (l = [112, 111, 112, 51]) = False := eq_false c2
    have ec3 : (l == [102, 116, 112]) = true := beq_iff_eq.2 c3
    have fc3 : (l = [102, 116, 112]) = True := eq_true c3
    have hm : Ps.mode l = 3 := by unfold Ps.mode; rw [if_neg c1, if_neg c2, if_pos c3]
    rw [hm]
    clear hm c1 c2 c3
    go_enter Tryd.func14, Tryd.ntmps14
    go_wp2
    go_ret
    exact ⟨rfl, rfl⟩
  have ec1 : (l == [115, 109, 116, 112]) = false := beq_eq_false_iff_ne.2 c1
  have fc1 : (l = [115, 109, 116, 112]) = False := eq_false c1
  have ec2 : (l == [112, 111, 112, 51]) = false := beq_eq_false_iff_ne.2 c2
  have fc2 : (l = [112, 111, 112, 51]) = False := eq_false c2
  have ec3 : (l == [102, 116, 112]) = false := beq_eq_false_iff_ne.2 c3
  have fc3 : (l = [102, 116, 112]) = False := eq_false c3
  have hm : Ps.mode l = 0 := by unfold Ps.mode; rw [if_neg c1, if_neg c2, if_neg c3]
  rw [hm]
  clear hm c1 c2 c3
  go_enter Tryd.func14, Tryd.ntmps14
  go_wp2
  go_ret
  exact ⟨rfl, rfl⟩

set_option maxHeartbeats 1000000 in
theorem pshape_any (k : Nat) (hk : k < 18) (w : World) (hS : SHP w) : Calls Tryd.prog 16 #[.int .i64 (k : Int)] w fun e w' => e = .returned (.string ⟨(Ps.shapeS k).toArray⟩) ∧ w = w' := by
  have hc := hS k hk
  have h1 : ((k : Int) < 0) = False := eq_false (by omega)
  have h2 : ((18 : Int) ≤ (k : Int)) = False := eq_false (by omega)
  have h3 : (k : Int) < 18 := by omega
  generalize Ps.shapeS k = T at hc ⊢
  go_enter Tryd.func16, Tryd.ntmps16
  go_wp2
  go_ret
  exact ⟨rfl, rfl⟩

/-- The row of three names. -/
theorem rd_three (w : World) (t : TypeId) : Rd (w.alloc (.cells #[.string ⟨#[99, 97, 112]⟩, .string ⟨#[99, 111, 100, 101]⟩, .string ⟨#[116, 101, 120, 116]⟩] t)) (.slice (some ⟨w.heap.size, 0, none⟩) 3 3) ([Ps.wCap, Ps.wCode, Ps.wText].map sv) := by
  refine .inr ⟨_, 0, 3, rfl, Nat.le_refl _, by unfold maxLen; omega, fun j u hj => ?_⟩
  rw [Nat.zero_add, cell_of_row _ _ _ _ _ _ (heap_alloc_new _ _), ← hj]
  match j with
  | 0 => rfl
  | 1 => rfl
  | 2 => rfl
  | j + 3 => simp
end Go.Proofs.YtiikionoagmabaaDoor

/- parse.fits walked (layer 15). -/
namespace Go.Proofs.YtiikionoagmabaaDoor
open Go.RowKit

theorem kind_beq (k n : Nat) : (((k : Int)) == ((n : Nat) : Int)) = (k == n) := by
  by_cases h : k = n
  · subst h; simp
  · rw [beq_eq_false_iff_ne.2 h, beq_eq_false_iff_ne]; omega
theorem three_names (t : List UInt8) : Lib.containsS [⟨#[99, 97, 112]⟩, ⟨#[99, 111, 100, 101]⟩, ⟨#[116, 101, 120, 116]⟩] ⟨t.toArray⟩ = (t == Ps.wCap || t == Ps.wCode || t == Ps.wText) := by
  have key : ∀ m : List UInt8, ((⟨t.toArray⟩ : ByteArray) = ⟨m.toArray⟩) ↔ t = m := fun m => ⟨fun e => by simpa using congrArg (fun x : ByteArray => x.data.toList) e, fun e => by rw [e]⟩
  rw [Bool.eq_iff_iff, Lib.containsS_iff]
  simp only [List.mem_cons, List.mem_nil_iff, or_false, Bool.or_eq_true, beq_iff_eq]
  rw [show (⟨#[99, 97, 112]⟩ : ByteArray) = ⟨Ps.wCap.toArray⟩ from rfl, show (⟨#[99, 111, 100, 101]⟩ : ByteArray) = ⟨Ps.wCode.toArray⟩ from rfl, show (⟨#[116, 101, 120, 116]⟩ : ByteArray) = ⟨Ps.wText.toArray⟩ from rfl, key, key, key, or_assoc]
set_option maxRecDepth 20000 in
set_option maxHeartbeats 2000000 in
theorem fits_any (k : Nat) (t : List UInt8) (p : Nat) (wd : List UInt8) (w : World) : Calls Tryd.prog 37 #[tkv k t p, .string ⟨wd.toArray⟩] w fun e w' => e = .returned (.bool (Ps.fitsT wd ⟨k, t, p⟩)) ∧ Below w.heap.size w w' := by
  unfold tkv
  by_cases c0 : wd = [116]
  ·
    have ec0 : (wd == [116]) = true := beq_iff_eq.2 c0
    have fc0 : (wd = [116]) = True := eq_true c0
    have hm : Ps.fitsT wd ⟨k, t, p⟩ = (k == 3) := by unfold Ps.fitsT; rw [if_pos c0]
    rw [hm]
    clear c0
    clear hm
    have hkb := kind_beq k 3
    go_enter Tryd.func37, Tryd.ntmps37
    go_wp2
    go_ret
    exact ⟨ret_b (by first | exact hkb | rfl | simp), (Below.refl _ _).alloc (Nat.le_refl _) _⟩
  by_cases c1 : wd = [105]
  ·
    have ec0 : (wd == [116]) = false := beq_eq_false_iff_ne.2 c0
    have fc0 : (wd = [116]) = False := eq_false c0
    have ec1 : (wd == [105]) = true := beq_iff_eq.2 c1
    have fc1 : (wd = [105]) = True := eq_true c1
    have hm : Ps.fitsT wd ⟨k, t, p⟩ = (k == 2) := by unfold Ps.fitsT; rw [if_neg c0, if_pos c1]
    rw [hm]
    clear c0 c1
    clear hm
    have hkb := kind_beq k 2
    go_enter Tryd.func37, Tryd.ntmps37
    go_wp2
    go_ret
    exact ⟨ret_b (by first | exact hkb | rfl | simp), (Below.refl _ _).alloc (Nat.le_refl _) _⟩
  by_cases c2 : wd = [110]
  ·
    have ec0 : (wd == [116]) = false := beq_eq_false_iff_ne.2 c0
    have fc0 : (wd = [116]) = False := eq_false c0
    have ec1 : (wd == [105]) = false := beq_eq_false_iff_ne.2 c1
    have fc1 : (wd = [105]) = False := eq_false c1
    have ec2 : (wd == [110]) = true := beq_iff_eq.2 c2
    have fc2 : (wd = [110]) = True := eq_true c2
    have hm : Ps.fitsT wd ⟨k, t, p⟩ = (k == 1) := by unfold Ps.fitsT; rw [if_neg c0, if_neg c1, if_pos c2]
    rw [hm]
    clear c0 c1 c2
    clear hm
    have hkb := kind_beq k 1
    go_enter Tryd.func37, Tryd.ntmps37
    go_wp2
    go_ret
    exact ⟨ret_b (by first | exact hkb | rfl | simp), (Below.refl _ _).alloc (Nat.le_refl _) _⟩
  by_cases c3 : wd = [119]
  ·
    have ec0 : (wd == [116]) = false := beq_eq_false_iff_ne.2 c0
    have fc0 : (wd = [116]) = False := eq_false c0
    have ec1 : (wd == [105]) = false := beq_eq_false_iff_ne.2 c1
    have fc1 : (wd = [105]) = False := eq_false c1
    have ec2 : (wd == [110]) = false := beq_eq_false_iff_ne.2 c2
    have fc2 : (wd = [110]) = False := eq_false c2
    have ec3 : (wd == [119]) = true := beq_iff_eq.2 c3
    have fc3 : (wd = [119]) = True := eq_true c3
    have hm : Ps.fitsT wd ⟨k, t, p⟩ = (k == 1 && (t == Ps.wCap || t == Ps.wCode || t == Ps.wText)) := by unfold Ps.fitsT; rw [if_neg c0, if_neg c1, if_neg c2, if_pos c3]
    rw [hm]
    clear c0 c1 c2 c3
    clear hm
    by_cases hk : k = 1
    · subst hk
      obtain ⟨R, hR⟩ : ∃ R, (t == Ps.wCap || t == Ps.wCode || t == Ps.wText) = R := ⟨_, rfl⟩
      rw [show ((1 : Nat) == 1 && (t == Ps.wCap || t == Ps.wCode || t == Ps.wText)) = R by rw [hR]; rfl]
      rw [← three_names] at hR
      have CN := fun (wx : World) (b : Nat) (hb : wx.heap[b]? = some (.cells #[.string ⟨#[99, 97, 112]⟩, .string ⟨#[99, 111, 100, 101]⟩, .string ⟨#[116, 101, 120, 116]⟩] 9 (0, 0))) => Tryd.slices_Contains_string b 0 3 3 [⟨#[99, 97, 112]⟩, ⟨#[99, 111, 100, 101]⟩, ⟨#[116, 101, 120, 116]⟩] ⟨t.toArray⟩ wx (by decide) (by decide) (fun j hj => by
        rw [Nat.zero_add, cell_of_row _ _ _ _ _ _ hb]
        match j, hj with
        | 0, _ => rfl
        | 1, _ => rfl
        | 2, _ => rfl
        | j + 3, h => exact absurd h (by simp))
      rw [show List.take 3 [(⟨#[99, 97, 112]⟩ : ByteArray), ⟨#[99, 111, 100, 101]⟩, ⟨#[116, 101, 120, 116]⟩] = [⟨#[99, 97, 112]⟩, ⟨#[99, 111, 100, 101]⟩, ⟨#[116, 101, 120, 116]⟩] from rfl, hR] at CN
      clear hR
      go_enter Tryd.func37, Tryd.ntmps37
      go_wp2_with fail
      refine (CN _ (w.heap.size + 1) (heap_alloc2_new _ _ _)).mono ?_
      rintro e w1 ⟨rfl, rfl⟩
      go_wp2
      go_ret
      exact ⟨rfl, ((Below.refl _ _).alloc (Nat.le_refl _) _).alloc (by simp) _⟩
    · have k1 : ((k : Int) == 1) = false := beq_eq_false_iff_ne.2 (by omega)
      have k2 : ((k : Int) = 1) = False := eq_false (by omega)
      rw [show (k == 1) = false from beq_eq_false_iff_ne.2 hk, Bool.false_and]
      go_enter Tryd.func37, Tryd.ntmps37
      go_wp2
      go_ret
      exact ⟨rfl, (Below.refl _ _).alloc (Nat.le_refl _) _⟩
  by_cases c4 : wd = [109]
  ·
    have ec0 : (wd == [116]) = false := beq_eq_false_iff_ne.2 c0
    have fc0 : (wd = [116]) = False := eq_false c0
    have ec1 : (wd == [105]) = false := beq_eq_false_iff_ne.2 c1
    have fc1 : (wd = [105]) = False := eq_false c1
    have ec2 : (wd == [110]) = false := beq_eq_false_iff_ne.2 c2
    have fc2 : (wd = [110]) = False := eq_false c2
    have ec3 : (wd == [119]) = false := beq_eq_false_iff_ne.2 c3
    have fc3 : (wd = [119]) = False := eq_false c3
    have ec4 : (wd == [109]) = true := beq_iff_eq.2 c4
    have fc4 : (wd = [109]) = True := eq_true c4
    have hm : Ps.fitsT wd ⟨k, t, p⟩ = (k == 1 && Ps.mode t != 0) := by unfold Ps.fitsT; rw [if_neg c0, if_neg c1, if_neg c2, if_neg c3, if_pos c4]
    rw [hm]
    clear c0 c1 c2 c3 c4
    clear hm
    have PM := fun wx => pmode_any t wx
    generalize Ps.mode t = M at PM ⊢
    have hmb : (((M : Int)) != 0) = (M != 0) := by
      have := kind_beq M 0
      simp only [bne, ← this]
      rfl
    by_cases hk : k = 1
    · subst hk
      rw [show ((1 : Nat) == 1 && M != 0) = (M != 0) from rfl]
      go_enter Tryd.func37, Tryd.ntmps37
      go_wp2_with fail
      refine (PM _).mono ?_
      rintro e w1 ⟨rfl, rfl⟩
      go_wp2
      go_ret
      exact ⟨ret_b (by first | exact hmb | rfl | simp), (Below.refl _ _).alloc (Nat.le_refl _) _⟩
    · have k1 : ((k : Int) == 1) = false := beq_eq_false_iff_ne.2 (by omega)
      have k2 : ((k : Int) = 1) = False := eq_false (by omega)
      rw [show (k == 1) = false from beq_eq_false_iff_ne.2 hk, Bool.false_and]
      clear PM
      go_enter Tryd.func37, Tryd.ntmps37
      go_wp2
      go_ret
      exact ⟨rfl, (Below.refl _ _).alloc (Nat.le_refl _) _⟩
  have ec0 : (wd == [116]) = false := beq_eq_false_iff_ne.2 c0
  have fc0 : (wd = [116]) = False := eq_false c0
  have ec1 : (wd == [105]) = false := beq_eq_false_iff_ne.2 c1
  have fc1 : (wd = [105]) = False := eq_false c1
  have ec2 : (wd == [110]) = false := beq_eq_false_iff_ne.2 c2
  have fc2 : (wd = [110]) = False := eq_false c2
  have ec3 : (wd == [119]) = false := beq_eq_false_iff_ne.2 c3
  have fc3 : (wd = [119]) = False := eq_false c3
  have ec4 : (wd == [109]) = false := beq_eq_false_iff_ne.2 c4
  have fc4 : (wd = [109]) = False := eq_false c4
  have hm : Ps.fitsT wd ⟨k, t, p⟩ = (k != 3 && t == wd) := by unfold Ps.fitsT; rw [if_neg c0, if_neg c1, if_neg c2, if_neg c3, if_neg c4]
  rw [hm]
  clear c0 c1 c2 c3 c4
  clear hm
  have htw := str_beq t wd
  by_cases hk : k = 3
  · subst hk
    rw [show ((3 : Nat) != 3 && t == wd) = false from rfl]
    go_enter Tryd.func37, Tryd.ntmps37
    go_wp2
    go_ret
    exact ⟨rfl, (Below.refl _ _).alloc (Nat.le_refl _) _⟩
  · have k1 : ((k : Int) == 3) = false := beq_eq_false_iff_ne.2 (by omega)
    have k3 : ((k : Int) != 3) = true := by rw [bne, k1]; rfl
    have k2 : ((k : Int) = 3) = False := eq_false (by omega)
    rw [show (k != 3) = true by rw [bne, beq_eq_false_iff_ne.2 hk]; rfl, Bool.true_and]
    go_enter Tryd.func37, Tryd.ntmps37
    go_wp2
    go_ret
    exact ⟨ret_b (by first | rfl | exact htw | simp), (Below.refl _ _).alloc (Nat.le_refl _) _⟩
end Go.Proofs.YtiikionoagmabaaDoor

/- A row of structs of a number, a text and a number (tokens), of the call's own, that grows; of no type of the program. (Laid in round 13, ahead of stage 14.) -/
namespace Go.Proofs.YtiikionoagmabaaDoor
open Go.RowKit

def tokCells (t : Lx.Tok) : List Value := [.int .i64 (t.kind : Int), .string ⟨t.text.toArray⟩, .int .i64 (t.place : Int)]
def tokRow (ts : List Lx.Tok) : List Value := ts.flatMap tokCells
theorem tokRow_len : ∀ ts : List Lx.Tok, (tokRow ts).length = ts.length * 3
  | [] => rfl
  | t :: ts => by
    have ih := tokRow_len ts
    rw [show tokRow (t :: ts) = tokCells t ++ tokRow ts from rfl, List.length_append, ih, List.length_cons]
    show 3 + _ = _
    omega
theorem tokRow_at : ∀ (ts : List Lx.Tok) (k : Nat) (t : Lx.Tok), ts[k]? = some t → (tokRow ts)[k * 3]? = some (.int .i64 (t.kind : Int)) ∧ (tokRow ts)[k * 3 + 1]? = some (.string ⟨t.text.toArray⟩) ∧ (tokRow ts)[k * 3 + 2]? = some (.int .i64 (t.place : Int))
  | [], k, t, h => by cases h
  | x :: ts, 0, t, h => by
    cases h
    exact ⟨rfl, rfl, rfl⟩
  | x :: ts, k + 1, t, h => by
    obtain ⟨h1, h2, h3⟩ := tokRow_at ts k t (by simpa using h)
    rw [show tokRow (x :: ts) = tokCells x ++ tokRow ts from rfl]
    have e : (tokCells x).length = 3 := rfl
    refine ⟨?_, ?_, ?_⟩
    · rw [List.getElem?_append_right (by omega), e, show (k + 1) * 3 - 3 = k * 3 by omega]; exact h1
    · rw [List.getElem?_append_right (by omega), e, show (k + 1) * 3 + 1 - 3 = k * 3 + 1 by omega]; exact h2
    · rw [List.getElem?_append_right (by omega), e, show (k + 1) * 3 + 2 - 3 = k * 3 + 2 by omega]; exact h3

section
variable {P : Program} {w w' : World} {B : Nat} {e : TypeId} {v : Value} {ts : List Lx.Tok}
/-- A row of tokens of the call's own. -/
def TO (w : World) (B : Nat) (e : TypeId) (v : Value) (ts : List Lx.Tok) : Prop := w.ownsRow B e 3 v ts.length (tokRow ts)
theorem TO.nil (w : World) (B : Nat) (e : TypeId) : TO w B e (.slice none 0 0) [] := World.ownsRow_nil _ _ _ _
theorem TO.below (h : TO w B e v ts) (hb : Below w.heap.size w w') : TO w' B e v ts :=
  World.ownsRow.kept h (row := Option.none) ⟨hb.os, hb.tape, hb.output, hb.size, fun k hk _ => hb.block k hk⟩ (by
    cases hv : v.ownBlock
    · exact .inl rfl
    · exact .inr (by simp))
theorem TO.lt (h : TO w B e v ts) : ∀ k, v.ownBlock = some k → B ≤ k ∧ k < w.heap.size := World.ownsRow.lt h
theorem TO.kept {row : Option Nat} (h : TO w B e v ts) (hg : w.grownBy w' row) (hne : v.ownBlock = none ∨ v.ownBlock ≠ row) : TO w' B e v ts := World.ownsRow.kept h hg hne
/-- Its form; the cells of each token. -/
theorem TO.form (h : TO w B e v ts) : ∃ ao cap, v = .slice ao ts.length cap ∧ ∀ (k : Nat) t, ts[k]? = some t → ∃ g, ao = some ⟨g, 0, none⟩ ∧ w.cell? ⟨g, k * 3, none⟩ = some (.int .i64 (t.kind : Int)) ∧ w.cell? ⟨g, k * 3 + 1, none⟩ = some (.string ⟨t.text.toArray⟩) ∧ w.cell? ⟨g, k * 3 + 2, none⟩ = some (.int .i64 (t.place : Int)) := by
  rcases h.2 with ⟨rfl, hn⟩ | ⟨g, cap, cur, rfl, _, hg, h2, h3, h4, h5⟩
  · obtain rfl : ts = [] := List.length_eq_zero_iff.1 hn
    exact ⟨_, _, rfl, fun k t ht => by cases ht⟩
  · refine ⟨_, cap, rfl, fun k t ht => ⟨g, rfl, ?_⟩⟩
    have hk : k < ts.length := (List.getElem?_eq_some_iff.1 ht).1
    obtain ⟨c0, c1, c2⟩ := tokRow_at ts k t ht
    have at' : ∀ i u, i < ts.length * 3 → (tokRow ts)[i]? = some u → w.cell? ⟨g, i, none⟩ = some u := by
      intro i u hi hu
      rw [cell_of_row _ _ _ _ _ _ hg, ← Array.getElem?_toList]
      rw [← h5, List.getElem?_take_of_lt hi] at hu
      exact hu
    exact ⟨at' _ _ (by omega) c0, at' _ _ (by omega) c1, at' _ _ (by omega) c2⟩

/-- 'append(l, t)': t lies in a block of its own, in the world at hand. -/
theorem wp_append_tok {o : Oper} {a : Act} {K : Act → World → Prop} {Q : Exit → Act → World → Prop} {T : TypeId} {i0 : TypeInfo} {z : Value} {by' b : Nat} (t : Lx.Tok)
    (hT : P.underlying T = some (.slice e)) (hi : P.info? e = some i0) (hz : i0.zero = some z) (hs3 : i0.size = 3) (hby : i0.bytes = by') (hzs : z.cells.size = 3) (hby' : by' ≤ 64)
    (s x : Operand) (ho : o.op = .call { callee := .builtin .append, args := #[s, x], argTypes := #[T, T] })
    (hs : a.eval s = v) (h : TO w B e v ts) (hx : a.eval x = .slice (some ⟨b, 0, none⟩) 1 1) (hb : w.heap[b]? = some (.cells (tokCells t).toArray e (0, 0)))
    (hn : ts.length ≤ 1048576) (hB : B ≤ w.heap.size)
    (h' : ∀ g cap w', TO w' B e (.slice (some ⟨g, 0, none⟩) (ts.length + 1) cap) (ts ++ [t]) → w.grownBy w' v.ownBlock → (v.ownBlock = some g ∨ g = w.heap.size) → K (a.put o.dst (.slice (some ⟨g, 0, none⟩) (ts.length + 1) cap)) w') : o.wp P a w K Q := by
  refine wp_append_lies w s x T ho B e i0 z 3 by' hT hi hz hs3 hby hzs (by decide) v ts.length (tokRow ts) hs h ⟨b, 0, none⟩ 1 1 (tokCells t) hx rfl ?_ ?_ (by decide) (by unfold maxLen; omega) ?_ hB _ rfl (fun g cap w' h2 h3 h4 _ => h' g cap w' ?_ h3 h4)
  · exact World.news_of_block hb
  · intro u hu
    simp [tokCells] at hu
    rcases hu with rfl | rfl | rfl <;> rfl
  · have : (ts.length + 1) * by' ≤ (ts.length + 1) * 64 := Nat.mul_le_mul_left _ hby'
    omega
  · unfold TO
    rw [List.length_append, show tokRow (ts ++ [t]) = tokRow ts ++ tokCells t by simp [tokRow]]
    exact h2
end
end Go.Proofs.YtiikionoagmabaaDoor

/- Slices of whatever cells, cut at either side: of no type of the program. -/
namespace Go.Proofs.YtiikionoagmabaaDoor
open Go.RowKit

theorem Rd.formV {w : World} {v : Value} {vs : List Value} (h : Rd w v vs) : ∃ ao cap, v = .slice ao vs.length cap ∧ vs.length ≤ cap ∧ (ao = none → cap = 0) ∧ (0 < vs.length → ∃ b o, ao = some ⟨b, o, none⟩ ∧ cap ≤ maxLen ∧ ∀ j u, vs[j]? = some u → w.cell? ⟨b, o + j, none⟩ = some u) := by
  rcases h with ⟨rfl, ao, cap, h1, h⟩ | ⟨b, o, cap, h, h1, h2, h3⟩
  · exact ⟨ao, cap, h, Nat.zero_le _, h1, fun h => by cases h⟩
  · exact ⟨some ⟨b, o, none⟩, cap, h, h1, (fun h => by cases h), fun _ => ⟨b, o, rfl, h2, h3⟩⟩
/-- Without its first m, as the model writes it. -/
theorem Rd.tailV {w : World} {ao : Option Addr} {L cap m : Nat} {vs : List Value} (h : Rd w (.slice ao L cap) vs) (hL : L = vs.length) (hm : m ≤ L) :
    Rd w (.slice (if cap = m then ao else Option.map (fun x => x.add m) ao) (L - m) (cap - m)) (vs.drop m) := by
  rcases Nat.lt_or_ge m L with hlt | hge
  · obtain ⟨ao', cap', e, hcap, _, hc⟩ := h.formV
    simp only [Value.slice.injEq] at e
    obtain ⟨rfl, _, rfl⟩ := e
    obtain ⟨b, o, rfl, hm2, hc⟩ := hc (by omega)
    rw [if_neg (by omega), Option.map_some, Addr.add_lit]
    refine .inr ⟨b, o + m, cap - m, by rw [List.length_drop, hL], by rw [List.length_drop]; omega, by omega, fun j u hj => ?_⟩
    rw [List.getElem?_drop] at hj
    rw [Nat.add_assoc]
    exact hc _ _ hj
  · have e : vs.drop m = [] := List.drop_of_length_le (by omega)
    obtain ⟨ao', cap', e', hcap, hz, _⟩ := h.formV
    simp only [Value.slice.injEq] at e'
    obtain ⟨rfl, _, rfl⟩ := e'
    rw [e, show L - m = 0 by omega]
    refine .inl ⟨rfl, _, _, fun he => ?_, rfl⟩
    split at he
    · omega
    · cases ao with
      | none => have := hz rfl; omega
      | some a => cases he
theorem Rd.cutW {w : World} {ao : Option Addr} {L cap m : Nat} {vs : List Value} (h : Rd w (.slice ao L cap) vs) (hL : L = vs.length) (hm : m ≤ L) : Rd w (.slice ao m cap) (vs.take m) := by
  rcases Nat.eq_zero_or_pos m with h0 | hp
  · subst h0
    obtain ⟨ao', cap', e', _, hz, _⟩ := h.formV
    simp only [Value.slice.injEq] at e'
    obtain ⟨rfl, _, rfl⟩ := e'
    exact .inl ⟨List.take_zero, _, _, hz, rfl⟩
  · obtain ⟨ao', cap', e', hcap, _, hc⟩ := h.formV
    simp only [Value.slice.injEq] at e'
    obtain ⟨rfl, _, rfl⟩ := e'
    obtain ⟨b, o, rfl, hm2, hc⟩ := hc (by omega)
    refine .inr ⟨b, o, cap, by rw [List.length_take, Nat.min_eq_left (by omega)], by rw [List.length_take]; omega, hm2, fun j u hj => hc j u ?_⟩
    rw [List.getElem?_take] at hj
    split at hj
    · exact hj
    · cases hj
/-- Where it lies, cut or not. -/
theorem tail_block {ao : Option Addr} {cap m n n' c c' k : Nat} (h : (Value.slice (if cap = m then ao else Option.map (fun x => x.add m) ao) n' c').ownBlock = some k) : (Value.slice ao n c).ownBlock = some k := by
  cases ao with
  | none => split at h <;> simp [Value.ownBlock] at h
  | some a =>
    split at h
    · exact h
    · obtain ⟨b, o, sp⟩ := a
      have e : (Addr.add ⟨b, o, sp⟩ m).block = b := by unfold Addr.add; split <;> rfl
      simp only [Option.map_some, Value.ownBlock, e] at h ⊢
      exact h
end Go.Proofs.YtiikionoagmabaaDoor

/- The reader in memory; parse's wrong, is walked (layer 15). -/
namespace Go.Proofs.YtiikionoagmabaaDoor
open Go.RowKit

/-- A reader in a block of its own. -/
def RB (w : World) (g : Nat) (lv ov : Value) (md : Nat) (sv tv : Value) (a f : Nat) : Prop :=
  w.heap[g]? = some (.cells #[lv, ov, .int .i64 (md : Int), sv, tv, .int .i64 (a : Int), .int .i64 (f : Int)] 50 (0, 0))
section
variable {w w' : World} {g md a f : Nat} {lv ov sv tv : Value} {F : Nat → Prop}
theorem RB.c0 (h : RB w g lv ov md sv tv a f) : w.cell? ⟨g, 0, none⟩ = some lv := by unfold RB at h; simp [World.cell?, h]
theorem RB.c1 (h : RB w g lv ov md sv tv a f) : w.cell? ⟨g, 1, none⟩ = some ov := by unfold RB at h; simp [World.cell?, h]
theorem RB.c2 (h : RB w g lv ov md sv tv a f) : w.cell? ⟨g, 2, none⟩ = some (.int .i64 (md : Int)) := by unfold RB at h; simp [World.cell?, h]
theorem RB.c3 (h : RB w g lv ov md sv tv a f) : w.cell? ⟨g, 3, none⟩ = some sv := by unfold RB at h; simp [World.cell?, h]
theorem RB.c4 (h : RB w g lv ov md sv tv a f) : w.cell? ⟨g, 4, none⟩ = some tv := by unfold RB at h; simp [World.cell?, h]
theorem RB.c5 (h : RB w g lv ov md sv tv a f) : w.cell? ⟨g, 5, none⟩ = some (.int .i64 (a : Int)) := by unfold RB at h; simp [World.cell?, h]
theorem RB.c6 (h : RB w g lv ov md sv tv a f) : w.cell? ⟨g, 6, none⟩ = some (.int .i64 (f : Int)) := by unfold RB at h; simp [World.cell?, h]
theorem RB.fr (h : RB w g lv ov md sv tv a f) (i : Nat) : w.frozen? ⟨g, i, none⟩ = false := by unfold RB at h; simp [World.frozen?, h]
theorem RB.lt (h : RB w g lv ov md sv tv a f) : g < w.heap.size := (Array.getElem?_eq_some_iff.1 h).1
theorem RB.same (h : RB w g lv ov md sv tv a f) (e : w'.heap[g]? = w.heap[g]?) : RB w' g lv ov md sv tv a f := e.trans h
theorem RB.below (h : RB w g lv ov md sv tv a f) (hb : Below w.heap.size w w') : RB w' g lv ov md sv tv a f := h.same (hb.block _ h.lt)
theorem RB.trn (h : RB w g lv ov md sv tv a f) (ht : Trn F w w') (hF : ¬ F g) : RB w' g lv ov md sv tv a f := h.same (ht.block _ h.lt hF)
theorem RB.set0 (h : RB w g lv ov md sv tv a f) (u : Value) : RB (w.setCell ⟨g, 0, none⟩ u) g u ov md sv tv a f := by unfold RB at *; rw [setCell_row h]; rfl
theorem RB.set1 (h : RB w g lv ov md sv tv a f) (u : Value) : RB (w.setCell ⟨g, 1, none⟩ u) g lv u md sv tv a f := by unfold RB at *; rw [setCell_row h]; rfl
theorem RB.set2 (h : RB w g lv ov md sv tv a f) (n : Nat) : RB (w.setCell ⟨g, 2, none⟩ (.int .i64 (n : Int))) g lv ov n sv tv a f := by unfold RB at *; rw [setCell_row h]; rfl
theorem RB.set3 (h : RB w g lv ov md sv tv a f) (u : Value) : RB (w.setCell ⟨g, 3, none⟩ u) g lv ov md u tv a f := by unfold RB at *; rw [setCell_row h]; rfl
theorem RB.set4 (h : RB w g lv ov md sv tv a f) (u : Value) : RB (w.setCell ⟨g, 4, none⟩ u) g lv ov md sv u a f := by unfold RB at *; rw [setCell_row h]; rfl
theorem RB.set5 (h : RB w g lv ov md sv tv a f) (n : Nat) : RB (w.setCell ⟨g, 5, none⟩ (.int .i64 (n : Int))) g lv ov md sv tv n f := by unfold RB at *; rw [setCell_row h]; rfl
theorem RB.set6 (h : RB w g lv ov md sv tv a f) (n : Nat) : RB (w.setCell ⟨g, 6, none⟩ (.int .i64 (n : Int))) g lv ov md sv tv a n := by unfold RB at *; rw [setCell_row h]; rfl
end

/-- A slice of tokens, read out of block b. -/
def TR (w : World) (b : Nat) (v : Value) (ts : List Lx.Tok) : Prop := ∃ o cap, v = .slice (some ⟨b, o, none⟩) ts.length cap ∧ ts.length ≤ cap ∧ cap ≤ maxLen ∧
  ∀ k t, ts[k]? = some t → w.cell? ⟨b, o + k * 3, none⟩ = some (.int .i64 (t.kind : Int)) ∧ w.cell? ⟨b, o + k * 3 + 1, none⟩ = some (.string ⟨t.text.toArray⟩) ∧ w.cell? ⟨b, o + k * 3 + 2, none⟩ = some (.int .i64 (t.place : Int))
section
variable {w w' : World} {b : Nat} {v : Value} {ts : List Lx.Tok} {F : Nat → Prop}
theorem TR.trn (h : TR w b v ts) (ht : Trn F w w') (hF : ¬ F b) : TR w' b v ts := by
  obtain ⟨o, cap, h1, h2, h3, h4⟩ := h
  have hc : ∀ i u, w.cell? ⟨b, i, none⟩ = some u → w'.cell? ⟨b, i, none⟩ = some u := fun i u hu => (World.cell?_of_block (ht.block b (World.block_lt_of_cell? w _ hu) hF)).trans hu
  exact ⟨o, cap, h1, h2, h3, fun k t hk => ⟨hc _ _ (h4 k t hk).1, hc _ _ (h4 k t hk).2.1, hc _ _ (h4 k t hk).2.2⟩⟩
theorem TR.below (h : TR w b v ts) (hb : Below w.heap.size w w') : TR w' b v ts := h.trn (F := fun _ => False) (Trn.of_below hb) id
theorem TR.of_own {B : Nat} {e : TypeId} (h : TO w B e v ts) (hn : ts ≠ []) : ∃ b, B ≤ b ∧ b < w.heap.size ∧ v.ownBlock = some b ∧ TR w b v ts := by
  rcases h.2 with ⟨rfl, hn'⟩ | ⟨g, cap, cur, rfl, hB, hg, h2, h3, h4, h5⟩
  · exact absurd (List.length_eq_zero_iff.1 hn') hn
  · obtain ⟨ao, cap', e1, hc⟩ := TO.form h
    refine ⟨g, hB, (Array.getElem?_eq_some_iff.1 hg).1, rfl, 0, cap, rfl, h2, h3, fun k t hk => ?_⟩
    obtain ⟨g', e2, c0, c1, c2⟩ := hc k t hk
    simp only [Value.slice.injEq] at e1
    obtain ⟨e1, _, _⟩ := e1
    rw [e2] at e1
    cases e1
    rw [Nat.zero_add]
    exact ⟨c0, c1, c2⟩
theorem TR.lt (h : TR w b v ts) (hn : ts ≠ []) : b < w.heap.size := by
  obtain ⟨o, cap, _, _, _, h4⟩ := h
  cases ts with
  | nil => exact absurd rfl hn
  | cons t ts => exact World.block_lt_of_cell? w _ (h4 0 t rfl).1
end
/-- Just that block may turn. -/
abbrev only (g : Nat) : Nat → Prop := fun k => k = g

set_option maxHeartbeats 1000000 in
theorem wrong_any (k : Nat) (t : List UInt8) (p c : Nat) (g md a f : Nat) (lv ov sv tv : Value) (w : World) (h : RB w g lv ov md sv tv a f) :
    Calls Tryd.prog 38 #[.pointer (some ⟨g, 0, none⟩), tkv k t p, .int .i64 (c : Int)] w fun e w' => e = .returned (.tuple #[]) ∧ RB w' g lv ov md sv tv p c ∧ Trn (only g) w w' := by
  unfold tkv
  have hx : ∀ o, ((w.alloc o).frozen? ⟨g, 5, none⟩ = false) ∧ ((w.alloc o).frozen? ⟨g, 6, none⟩ = false) := fun o => ⟨(h.same (Below.heap_alloc _ _ _ h.lt)).fr 5, (h.same (Below.heap_alloc _ _ _ h.lt)).fr 6⟩
  have hy : ∀ o, RB (((w.alloc o).setCell ⟨g, 5, none⟩ (.int .i64 (p : Int))).setCell ⟨g, 6, none⟩ (.int .i64 (c : Int))) g lv ov md sv tv p c := fun o => ((h.same (Below.heap_alloc _ _ _ h.lt)).set5 p).set6 c
  have ht : ∀ o, Trn (only g) w (((w.alloc o).setCell ⟨g, 5, none⟩ (.int .i64 (p : Int))).setCell ⟨g, 6, none⟩ (.int .i64 (c : Int))) := fun o => Trn.setCell (F := only g) (Trn.setCell (F := only g) ((Trn.refl (only g) w).alloc o) (show g = g from rfl) _) (show g = g from rfl) _
  have h5 : ∀ o, ∃ u, (w.alloc o).cell? ⟨g, 5, none⟩ = some u := fun o => ⟨_, (h.same (Below.heap_alloc _ _ _ h.lt)).c5⟩
  have c5 : ∀ o, (w.alloc o).cell? ⟨g, 5, none⟩ = some (.int .i64 (a : Int)) := fun o => (h.same (Below.heap_alloc _ _ _ h.lt)).c5
  have c6 : ∀ o, (w.alloc o).cell? ⟨g, 6, none⟩ = some (.int .i64 (f : Int)) := fun o => (h.same (Below.heap_alloc _ _ _ h.lt)).c6
  have f5 := fun o => (hx o).1
  have f6 := fun o => (hx o).2
  have HY := Lib.hid hy
  have HT := Lib.hid ht
  clear hx hy ht h5 h
  go_enter Tryd.func38, Tryd.ntmps38
  go_wp2
  go_end0
  exact ⟨rfl, HY.out _, HT.out _⟩

set_option maxHeartbeats 1000000 in
theorem is_any (wd : List UInt8) (b g md a f : Nat) (lv ov sv tv : Value) (t : Lx.Tok) (ts : List Lx.Tok) (w : World) (h : RB w g lv ov md sv tv a f) (ht : TR w b lv (t :: ts)) :
    Calls Tryd.prog 39 #[.pointer (some ⟨g, 0, none⟩), .string ⟨wd.toArray⟩] w fun e w' => e = .returned (.bool (Ps.fitsT wd t)) ∧ Below w.heap.size w w' := by
  obtain ⟨o, cap, rfl, hc, _, hcell⟩ := ht
  obtain ⟨k0, k1, k2⟩ := hcell 0 t rfl
  rw [Nat.zero_mul, Nat.add_zero] at k0 k1 k2
  have hp : (0 : Int) < ((t :: ts).length : Int) := by simp only [List.length_cons]; omega
  have hp2 : 0 < (t :: ts).length := by simp
  have c0 := h.c0
  generalize (t :: ts).length = L at hp hp2 c0
  have FA := fits_any t.kind t.text t.place wd w
  unfold tkv at FA
  clear hcell h
  go_enter Tryd.func39, Tryd.ntmps39
  go_wp2_with fail
  refine FA.mono ?_
  rintro e w1 ⟨rfl, hb⟩
  go_wp2
  go_ret
  exact ⟨rfl, hb⟩
end Go.Proofs.YtiikionoagmabaaDoor

/- parse's take walked (layer 15). -/
namespace Go.Proofs.YtiikionoagmabaaDoor
open Go.RowKit

/-- What take answers. -/
def TakeQ (r : Ps.Res (List Lx.Tok)) (us : List Lx.Tok) (b g md a f : Nat) (lv ov sv tv : Value) (w : World) (e : Ending) (w' : World) : Prop := Trn (only g) w w' ∧ match r with
  | .error (p, c) => e = .returned (.slice none 0 0) ∧ RB w' g lv ov md sv tv p c
  | .ok r => ∃ rv lv', e = .returned rv ∧ TR w' b rv us ∧ RB w' g lv' ov md sv tv a f ∧ TR w' b lv' r
/-- What stands while the words are gone through. -/
structure TKS (w wr : World) (ws : List (List UInt8)) (ts : List Lx.Tok) (d i : Nat) : Prop where
  below : Below w.heap.size w wr
  eq : Ps.takeW d ws ts = Ps.takeW d (ws.drop i) (ts.drop i)
  ends : Ps.Ends (ts.drop i)
  hi : i ≤ ws.length
theorem TR.cut {w : World} {b m : Nat} {o cap : Nat} {ts : List Lx.Tok} (h : TR w b (.slice (some ⟨b, o, none⟩) ts.length cap) ts) (hm : m < ts.length) :
    TR w b (.slice (some ⟨b, o, none⟩) m cap) (ts.take m) ∧ TR w b (.slice (some ⟨b, o + m * 3, none⟩) (ts.length - m) (cap - m)) (ts.drop m) ∧ ts.length ≤ cap ∧ cap ≤ maxLen := by
  obtain ⟨o', cap', e, h2, h3, h4⟩ := h
  simp only [Value.slice.injEq, Option.some.injEq, Addr.mk.injEq, true_and, and_true] at e
  obtain ⟨rfl, rfl⟩ := e
  refine ⟨⟨o, cap, by rw [List.length_take, Nat.min_eq_left (by omega)], by rw [List.length_take]; omega, h3, fun k t hk => h4 k t ?_⟩, ⟨o + m * 3, cap - m, by rw [List.length_drop], by rw [List.length_drop]; omega, by omega, fun k t hk => ?_⟩, h2, h3⟩
  · rw [List.getElem?_take] at hk
    split at hk
    · exact hk
    · cases hk
  · rw [List.getElem?_drop] at hk
    have := h4 _ t hk
    rw [show o + m * 3 + k * 3 = o + (m + k) * 3 by omega]
    exact this

set_option maxRecDepth 20000 in
set_option maxHeartbeats 4000000 in
theorem take_any (ws : List (List UInt8)) (ts : List Lx.Tok) (b g md a f d : Nat) (lv ov sv' tv wv : Value) (w : World) (h : RB w g lv ov md sv' tv a f) (ht : TR w b lv ts) (hbg : b ≠ g) (he : Ps.Ends ts)
    (hov : ∃ ao cap, ov = .slice ao d cap) (hd : d ≤ 8) (hw : Rd w wv (ws.map sv)) (hne : ∀ x ∈ ws, x ≠ []) (hw0 : ws ≠ []) (hwl : ws.length ≤ 1048576) (hwg : wv.ownBlock ≠ some g) (htl : ts.length ≤ 1048576) :
    Calls Tryd.prog 24 #[.pointer (some ⟨g, 0, none⟩), wv] w fun e w' => TakeQ (Ps.takeW d ws ts) (ts.take ws.length) b g md a f lv ov sv' tv w e w' := by
  obtain ⟨ao, ocap, rfl⟩ := hov
  have ht0 := ht
  obtain ⟨o, cap, rfl, hcap, hcap2, hcell⟩ := ht
  obtain ⟨wo, wc, rfl, hwc, _, hwx⟩ := hw.formV
  rw [List.length_map] at hwc hwx ⊢
  obtain ⟨b', o', rfl, hwc2, hwx⟩ := hwx (List.length_pos_iff.2 hw0)
  have hst : TKS w w ws ts d 0 := ⟨Below.refl _ _, by simp, by simpa using he, Nat.zero_le _⟩
  have HST := Lib.hid hst
  obtain ⟨L, hL⟩ : ∃ L, ws.length = L := ⟨_, rfl⟩
  obtain ⟨M, hM⟩ : ∃ M, ts.length = M := ⟨_, rfl⟩
  rw [hM] at h
  have HH := Lib.hid h
  have HT := Lib.hid ht0
  have HW := Lib.hid hwx
  have HC := Lib.hid hcell
  have HNE := Lib.hid hne
  have hc0 := h.c0
  have hlt := h.lt
  rw [hL] at hwc hwl ⊢
  rw [hM] at hcap htl ⊢
  have HL := Lib.hid hL
  have HM := Lib.hid hM
  clear hst h ht0 hw hwx hcell hne he hc0 hwg
  go_enter Tryd.func24, Tryd.ntmps24
  go_wp2
  go_loopw [5, 6, 7, 11, 23, 31] (fun s5 s6 s7 s11 s23 s31 wr => ∃ (i : Nat), s11 = .int .i64 i ∧ Hid (TKS w wr ws ts d i)) (fun s5 s6 s7 s11 s23 s31 _ => L - (intOf s11).toNat)
  case atStart => exact ⟨0, rfl, HST⟩
  case round =>
    obtain ⟨i, rfl, HR⟩ := hrel
    clear HST
    have hiL := HR.out.hi
    rw [HL.out] at hiL
    by_cases hlt2 : i < L
    · obtain ⟨wd, hwd⟩ : ∃ wd, ws[i]? = some wd := ⟨_, List.getElem?_eq_getElem (by rw [HL.out]; exact hlt2)⟩
      obtain ⟨t, rest, hdr, hfine⟩ := HR.out.ends.ne
      have hti : ts[i]? = some t := by
        have := congrArg (·[0]?) hdr
        simpa using this
      have hiM : i < M := by rw [← HM.out]; exact (List.getElem?_eq_some_iff.1 hti).1
      have hce := (HT.out.below HR.out.below)
      obtain ⟨o2, cap2, e2, _, _, hce⟩ := hce
      simp only [Value.slice.injEq, Option.some.injEq, Addr.mk.injEq, true_and, and_true] at e2
      obtain ⟨rfl, rfl⟩ := e2
      obtain ⟨k0, k1, k2⟩ := hce i t hti
      have kw : wr.cell? ⟨b', o' + i, none⟩ = some (.string ⟨wd.toArray⟩) := by
        have := HW.out i (sv wd) (by rw [List.getElem?_map, hwd]; rfl)
        exact (HR.out.below.cell (World.block_lt_of_cell? w _ this)).trans this
      have kg := (HH.out.below HR.out.below).c0
      have kg1 := (HH.out.below HR.out.below).c1
      have FA := Lib.hid (fun wx => fits_any t.kind t.text t.place wd wx)
      have HB := Lib.hid HR.out.below
      have HRB := Lib.hid (HH.out.below HR.out.below)
      have hfit := Ps.fitsT_end (w := wd) (t := t) (HNE.out wd (List.mem_of_getElem? hwd))
      have heq := HR.out.eq
      rw [hdr, List.drop_eq_getElem_cons (by rw [HL.out]; exact hlt2), show ws[i]'(by rw [HL.out]; exact hlt2) = wd from Option.some.inj ((List.getElem?_eq_getElem _).symm.trans hwd), Ps.takeW] at heq
      have HE := Lib.hid heq
      have HEN := Lib.hid HR.out.ends
      rw [hdr] at HEN
      obtain ⟨T, hT⟩ : ∃ T, wr.alloc (.cells #[.int .i64 (t.kind : Int), .string ⟨t.text.toArray⟩, .int .i64 (t.place : Int)] 53) = T := ⟨_, rfl⟩
      have HTk := Tk3.new wr t.kind t.text t.place
      rw [hT] at HTk
      have hTb : Below w.heap.size w T := by rw [← hT]; exact HB.out.alloc HB.out.size _
      have HDR := Lib.hid hdr
      clear hce HR hdr
      have t0 := HTk.c0
      have t1 := HTk.c1
      have t2 := HTk.c2
      have HTK := Lib.hid HTk
      have HTB := Lib.hid hTb
      clear HTk hTb
      by_cases hf : Ps.fitsT wd t = true
      · rw [if_pos hf] at HE
        rw [hf] at FA
        have hk0 := hfit hf hfine
        have hen := HEN.out.tail hk0
        have hrest : rest = ts.drop (i + 1) := by
          rw [← List.drop_drop, HDR.out]
          rfl
        clear hfit hf
        unfold tkv at FA
        by_cases hbr : wd = [123]
        · have e1 : (wd == [123]) = true := beq_iff_eq.2 hbr
          have e2 : (wd = [123]) = True := eq_true hbr
          by_cases hd8 : d = 8
          · subst hd8
            rw [if_pos ⟨hbr, rfl⟩] at HE
            clear hbr
            have WR := fun w1 (hr : RB w1 g (.slice (some ⟨b, o, none⟩) M cap) (.slice ao 8 ocap) md sv' tv a f) => wrong_any t.kind t.text t.place 21 g md a f _ _ _ _ w1 hr
            unfold tkv at WR
            go_wp2_with fail
            refine (FA.out _).mono ?_
            rintro e w1 ⟨rfl, hb1⟩
            have tk1 := HTK.out.below hb1
            have q0 := tk1.c0
            have q1 := tk1.c1
            have q2 := tk1.c2
            have hr1 := HH.out.below (HTB.out.trans (hb1.mono HTB.out.size))
            have qg := hr1.c1
            clear tk1 t0 t1 t2
            go_wp2_with fail
            refine (WR _ hr1).mono ?_
            rintro e w2 ⟨rfl, hr2, ht2⟩
            go_wp2
            go_ret
            rw [HE.out]
            exact ⟨(Trn.of_below (HTB.out.trans (hb1.mono HTB.out.size))).then ht2, rfl, hr2⟩
          · have d1 : ((d : Int) == 8) = false := beq_eq_false_iff_ne.2 (by omega)
            have d2 : ((d : Int) = 8) = False := eq_false (by omega)
            rw [if_neg (fun x => hd8 x.2), hrest] at HE
            rw [hrest] at hen
            have HNX := Lib.hid (fun (w1 : World) (hb : Below w.heap.size w w1) => (⟨hb, HE.out, hen, by rw [HL.out]; omega⟩ : TKS w w1 ws ts d (i + 1)))
            clear hbr hd8 hen hrest
            go_wp2_with fail
            refine (FA.out _).mono ?_
            rintro e w1 ⟨rfl, hb1⟩
            have HB1 := Lib.hid (HTB.out.trans (hb1.mono HTB.out.size))
            have kg1 := (HH.out.below HB1.out).c1
            clear hb1
            go_wp2
            go_roundw
            case rel => exact ⟨i + 1, by first | rfl | go_num, Lib.hid (HNX.out w1 HB1.out)⟩
            case measure => simp [intOf]; omega
        · have e1 : (wd == [123]) = false := beq_eq_false_iff_ne.2 hbr
          have e2 : (wd = [123]) = False := eq_false hbr
          rw [if_neg (fun x => hbr x.1), hrest] at HE
          rw [hrest] at hen
          have HNX := Lib.hid (fun (w1 : World) (hb : Below w.heap.size w w1) => (⟨hb, HE.out, hen, by rw [HL.out]; omega⟩ : TKS w w1 ws ts d (i + 1)))
          clear hbr hen hrest
          go_wp2_with fail
          refine (FA.out _).mono ?_
          rintro e w1 ⟨rfl, hb1⟩
          have HB1 := Lib.hid (HTB.out.trans (hb1.mono HTB.out.size))
          have kg1 := (HH.out.below HB1.out).c1
          clear hb1
          go_wp2
          go_roundw
          case rel => exact ⟨i + 1, by first | rfl | go_num, Lib.hid (HNX.out w1 HB1.out)⟩
          case measure => simp [intOf]; omega
      · rw [if_neg hf] at HE
        have hf' : Ps.fitsT wd t = false := by simpa using hf
        rw [hf'] at FA
        clear hfit hf hf'
        unfold tkv at FA
        have WR := fun w1 (hr : RB w1 g (.slice (some ⟨b, o, none⟩) M cap) (.slice ao d ocap) md sv' tv a f) => wrong_any t.kind t.text t.place 20 g md a f _ _ _ _ w1 hr
        unfold tkv at WR
        go_wp2_with fail
        refine (FA.out _).mono ?_
        rintro e w1 ⟨rfl, hb1⟩
        have tk1 := HTK.out.below hb1
        have q0 := tk1.c0
        have q1 := tk1.c1
        have q2 := tk1.c2
        have hr1 := HH.out.below (HTB.out.trans (hb1.mono HTB.out.size))
        clear tk1 t0 t1 t2
        go_wp2_with fail
        refine (WR _ hr1).mono ?_
        rintro e w2 ⟨rfl, hr2, ht2⟩
        go_wp2
        go_ret
        rw [HE.out]
        exact ⟨(Trn.of_below (HTB.out.trans (hb1.mono HTB.out.size))).then ht2, rfl, hr2⟩
    · have hiL2 : i = L := by omega
      subst hiL2
      have heq := HR.out.eq
      have hen := HR.out.ends
      rw [List.drop_of_length_le (by rw [HL.out]; exact Nat.le_refl _), Ps.takeW] at heq
      have hiM : i < M := by
        obtain ⟨t, rest, e, _⟩ := hen.ne
        have := congrArg List.length e
        rw [List.length_drop, HM.out] at this
        simp at this
        omega
      have hcut := HT.out
      rw [← HM.out] at hiM
      have hcut := (hcut.cut hiM)
      rw [HM.out] at hcut hiM
      have HCUT := Lib.hid hcut
      have HE := Lib.hid heq
      have HB := Lib.hid HR.out.below
      have HRB := Lib.hid (HH.out.below HB.out)
      have kg := HRB.out.c0
      have kf := HRB.out.fr 0
      have l1 : (cap = i) = False := eq_false (by omega)
      have l2 : (i : Int) ≤ (cap : Int) := by omega
      have l3 : (i : Int) ≤ (M : Int) := by omega
      have l4 : (i : Int) < (M : Int) := by omega
      clear hcut heq hen HR
      go_wp2
      go_ret
      rw [HE.out]
      have hbel := HB.out
      have ht1 : Trn (only g) w (wr.setCell ⟨g, 0, none⟩ (.slice (some ⟨b, o + i * 3, none⟩) (M - i) (cap - i))) := Trn.setCell (F := only g) (Trn.of_below hbel) (show g = g from rfl) _
      exact ⟨ht1, _, _, rfl, HCUT.out.1.trn ht1 hbg, HRB.out.set0 _, HCUT.out.2.1.trn ht1 hbg⟩
end Go.Proofs.YtiikionoagmabaaDoor

/- A row of statements (structs of a number, three texts, two numbers, two slices of numbers), of the call's own, that grows; of no type of the program. (Laid in round 14, ahead of stage 15.) -/
namespace Go.Proofs.YtiikionoagmabaaDoor
open Go.RowKit

def nv (n : Nat) : Value := .int .i64 (n : Int)
/-- A statement, beside the slices of the places within it. -/
structure SA where
  st : Ps.St
  l : Value
  m : Value
def stCells (c : SA) : List Value := [.int .i64 (c.st.kind : Int), .string ⟨c.st.s.toArray⟩, .string ⟨c.st.t.toArray⟩, .string ⟨c.st.u.toArray⟩, .int .i64 (c.st.n : Int), .int .i64 (c.st.place : Int), c.l, c.m]
def stRow (cs : List SA) : List Value := cs.flatMap stCells
theorem stRow_len : ∀ cs : List SA, (stRow cs).length = cs.length * 8
  | [] => rfl
  | t :: ts => by
    have ih := stRow_len ts
    rw [show stRow (t :: ts) = stCells t ++ stRow ts from rfl, List.length_append, ih, List.length_cons]
    show 8 + _ = _
    omega
theorem stRow_at : ∀ (cs : List SA) (k : Nat) (c : SA), cs[k]? = some c → ∀ i v, (stCells c)[i]? = some v → (stRow cs)[k * 8 + i]? = some v
  | [], k, c, h, i, v, _ => by cases h
  | x :: cs, 0, c, h, i, v, hv => by
    have e : x = c := by simpa using h
    rw [← e] at hv
    have hi : i < (stCells x).length := (List.getElem?_eq_some_iff.1 hv).1
    rw [show stRow (x :: cs) = stCells x ++ stRow cs from rfl, Nat.zero_mul, Nat.zero_add, List.getElem?_append_left hi]
    exact hv
  | x :: cs, k + 1, c, h, i, v, hv => by
    have ih := stRow_at cs k c (by simpa using h) i v hv
    have e : (stCells x).length = 8 := rfl
    rw [show stRow (x :: cs) = stCells x ++ stRow cs from rfl, List.getElem?_append_right (by omega), e, show (k + 1) * 8 + i - 8 = k * 8 + i by omega]
    exact ih

section
variable {P : Program} {w w' : World} {B : Nat} {e : TypeId} {v : Value} {cs : List SA}
/-- A slice of places, read; it lies in no block of v's, and from B on. -/
structure In (w : World) (B : Nat) (v u : Value) (xs : List Nat) : Prop where
  rd : Rd w u (xs.map nv)
  ap : ∀ k, u.ownBlock = some k → v.ownBlock ≠ some k ∧ B ≤ k ∧ k < w.heap.size
  one : u.oneCell' = true
theorem In.below {u : Value} {xs : List Nat} (h : In w B v u xs) (hb : Below w.heap.size w w') : In w' B v u xs :=
  ⟨h.rd.below hb, fun k hk => ⟨(h.ap k hk).1, (h.ap k hk).2.1, Nat.lt_of_lt_of_le (h.ap k hk).2.2 hb.size⟩, h.one⟩
theorem Rd.grown {row : Option Nat} {u : Value} {vs : List Value} (h : Rd w u vs) (hg : w.grownBy w' row) (hne : ∀ k, u.ownBlock = some k → some k ≠ row ∧ k < w.heap.size) : Rd w' u vs := by
  rcases h with h | ⟨bb, oo, cp, e, g1, g2, g3⟩
  · exact .inl h
  · refine .inr ⟨bb, oo, cp, e, g1, g2, fun j u hj => ?_⟩
    have h6 := hne bb (by rw [e]; rfl)
    exact (World.cell?_of_block (hg.block bb h6.2 h6.1)).trans (g3 j u hj)
theorem In.grown {row : Option Nat} {u : Value} {xs : List Nat} (h : In w B v u xs) (hg : w.grownBy w' row) (hne : ∀ k, u.ownBlock = some k → some k ≠ row) : In w' B v u xs :=
  ⟨h.rd.grown hg (fun k hk => ⟨hne k hk, (h.ap k hk).2.2⟩), fun k hk => ⟨(h.ap k hk).1, (h.ap k hk).2.1, Nat.lt_of_lt_of_le (h.ap k hk).2.2 hg.size⟩, h.one⟩
/-- A row of statements of the call's own. -/
structure OS (w : World) (B : Nat) (e : TypeId) (v : Value) (cs : List SA) : Prop where
  own : w.ownsRow B e 8 v cs.length (stRow cs)
  l : ∀ c ∈ cs, In w B v c.l c.st.l
  m : ∀ c ∈ cs, In w B v c.m c.st.m
theorem OS.nil (w : World) (B : Nat) (e : TypeId) : OS w B e (.slice none 0 0) [] := ⟨World.ownsRow_nil _ _ _ _, fun c hc => by simp at hc, fun c hc => by simp at hc⟩
theorem OS.below (h : OS w B e v cs) (hb : Below w.heap.size w w') : OS w' B e v cs :=
  ⟨h.own.kept (row := Option.none) ⟨hb.os, hb.tape, hb.output, hb.size, fun k hk _ => hb.block k hk⟩ (by
    cases hv : v.ownBlock
    · exact .inl rfl
    · exact .inr (by simp)), fun c hc => (h.l c hc).below hb, fun c hc => (h.m c hc).below hb⟩
theorem OS.lt (h : OS w B e v cs) : ∀ k, v.ownBlock = some k → B ≤ k ∧ k < w.heap.size := World.ownsRow.lt h.own
/-- Another row of the call's own grows. -/
theorem OS.grown {row : Option Nat} (h : OS w B e v cs) (hg : w.grownBy w' row) (hne : v.ownBlock = none ∨ v.ownBlock ≠ row) (hl : ∀ c ∈ cs, ∀ k, c.l.ownBlock = some k ∨ c.m.ownBlock = some k → some k ≠ row) : OS w' B e v cs :=
  ⟨World.ownsRow.kept h.own hg hne, fun c hc => (h.l c hc).grown hg (fun k hk => hl c hc k (.inl hk)), fun c hc => (h.m c hc).grown hg (fun k hk => hl c hc k (.inr hk))⟩
/-- Its form; the cells of each statement. -/
theorem OS.form (h : OS w B e v cs) : ∃ ao cap, v = .slice ao cs.length cap ∧ ∀ (k : Nat) c, cs[k]? = some c → ∃ g, ao = some ⟨g, 0, none⟩ ∧ ∀ i u, (stCells c)[i]? = some u → w.cell? ⟨g, k * 8 + i, none⟩ = some u := by
  rcases h.own.2 with ⟨rfl, hn⟩ | ⟨g, cap, cur, rfl, _, hg, h2, h3, h4, h5⟩
  · obtain rfl : cs = [] := List.length_eq_zero_iff.1 hn
    exact ⟨_, _, rfl, fun k t ht => by cases ht⟩
  · refine ⟨_, cap, rfl, fun k t ht => ⟨g, rfl, fun i u hu => ?_⟩⟩
    have hk : k < cs.length := (List.getElem?_eq_some_iff.1 ht).1
    have hi : i < 8 := (List.getElem?_eq_some_iff.1 hu).1
    have hx := stRow_at cs k t ht i u hu
    rw [cell_of_row _ _ _ _ _ _ hg, ← Array.getElem?_toList]
    rw [← h5, List.getElem?_take_of_lt (by omega)] at hx
    exact hx

/-- 'append(l, t)': t lies in a block of its own, in the world at hand. -/
theorem wp_append_st {o : Oper} {a : Act} {K : Act → World → Prop} {Q : Exit → Act → World → Prop} {T : TypeId} {i0 : TypeInfo} {z : Value} {by' b : Nat} (t : SA)
    (hT : P.underlying T = some (.slice e)) (hi : P.info? e = some i0) (hz : i0.zero = some z) (hs8 : i0.size = 8) (hby : i0.bytes = by') (hzs : z.cells.size = 8) (hby' : by' ≤ 128)
    (s x : Operand) (ho : o.op = .call { callee := .builtin .append, args := #[s, x], argTypes := #[T, T] })
    (hs : a.eval s = v) (h : OS w B e v cs) (hx : a.eval x = .slice (some ⟨b, 0, none⟩) 1 1) (hb : w.heap[b]? = some (.cells (stCells t).toArray e (0, 0)))
    (hl : In w B v t.l t.st.l) (hm : In w B v t.m t.st.m) (hn : cs.length ≤ 1048576) (hB : B ≤ w.heap.size)
    (h' : ∀ g cap w', OS w' B e (.slice (some ⟨g, 0, none⟩) (cs.length + 1) cap) (cs ++ [t]) → w.grownBy w' v.ownBlock → (v.ownBlock = some g ∨ g = w.heap.size) → K (a.put o.dst (.slice (some ⟨g, 0, none⟩) (cs.length + 1) cap)) w') : o.wp P a w K Q := by
  refine wp_append_lies w s x T ho B e i0 z 8 by' hT hi hz hs8 hby hzs (by decide) v cs.length (stRow cs) hs h.own ⟨b, 0, none⟩ 1 1 (stCells t) hx rfl ?_ ?_ (by decide) (by unfold maxLen; omega) ?_ hB _ rfl (fun g cap w' h2 h3 h4 _ => h' g cap w' ?_ h3 h4)
  · exact World.news_of_block hb
  · intro u hu
    simp [stCells] at hu
    rcases hu with rfl | rfl | rfl | rfl | rfl | rfl | rfl | rfl
    · rfl
    · rfl
    · rfl
    · rfl
    · rfl
    · rfl
    · exact hl.one
    · exact hm.one
  · have : (cs.length + 1) * by' ≤ (cs.length + 1) * 128 := Nat.mul_le_mul_left _ hby'
    omega
  · have far : ∀ (u : Value) (xs : List Nat), In w B v u xs → In w' B (.slice (some ⟨g, 0, none⟩) (cs.length + 1) cap) u xs := by
      intro u xs hd
      refine ⟨hd.rd.grown h3 (fun k hk => ⟨fun e => (hd.ap k hk).1 e.symm, (hd.ap k hk).2.2⟩), fun k hk => ⟨fun e => ?_, (hd.ap k hk).2.1, Nat.lt_of_lt_of_le (hd.ap k hk).2.2 h3.size⟩, hd.one⟩
      have e : g = k := by simpa [Value.ownBlock] using e
      subst e
      rcases h4 with h4 | h4
      · exact (hd.ap g hk).1 h4
      · have := (hd.ap g hk).2.2
        omega
    refine ⟨?_, fun d hd => ?_, fun d hd => ?_⟩
    · rw [List.length_append, show stRow (cs ++ [t]) = stRow cs ++ stCells t by simp [stRow]]
      exact h2
    · rcases List.mem_append.1 hd with hd | hd
      · exact far _ _ (h.l d hd)
      · rw [List.mem_singleton.1 hd]; exact far _ _ hl
    · rcases List.mem_append.1 hd with hd | hd
      · exact far _ _ (h.m d hd)
      · rw [List.mem_singleton.1 hd]; exact far _ _ hm
end
end Go.Proofs.YtiikionoagmabaaDoor

/- A row of numbers of the call's own that grows one by one; of no type of the program. (Laid in round 14, ahead of stage 15.) -/
namespace Go.Proofs.YtiikionoagmabaaDoor
open Go.RowKit

section
variable {P : Program} {w w' : World} {B : Nat} {e : TypeId} {v : Value} {xs : List Nat}
def IR (w : World) (B : Nat) (e : TypeId) (v : Value) (xs : List Nat) : Prop := w.ownsRow B e 1 v xs.length (xs.map nv)
theorem IR.nil (w : World) (B : Nat) (e : TypeId) : IR w B e (.slice none 0 0) [] := World.ownsRow_nil _ _ _ _
theorem IR.empty (w : World) (B : Nat) (e : TypeId) (hB : B ≤ w.heap.size) : IR (w.alloc (.cells #[] e)) B e (.slice (some ⟨w.heap.size, 0, none⟩) 0 0) [] := World.ownsRow_made (base := B) w #[] 0 hB (Nat.zero_le _) rfl
theorem IR.below (h : IR w B e v xs) (hb : Below w.heap.size w w') : IR w' B e v xs := own_below h hb
theorem IR.grown {row : Option Nat} (h : IR w B e v xs) (hg : w.grownBy w' row) (hne : v.ownBlock = none ∨ v.ownBlock ≠ row) : IR w' B e v xs := World.ownsRow.kept h hg hne
theorem IR.lt (h : IR w B e v xs) : ∀ k, v.ownBlock = some k → B ≤ k ∧ k < w.heap.size := World.ownsRow.lt h
theorem IR.rd (h : IR w B e v xs) : Rd w v (xs.map nv) := Rd.of_own (show w.ownsRow B e 1 v _ _ from h)
theorem IR.form (h : IR w B e v xs) : ∃ ao cap, v = .slice ao xs.length cap := by
  rcases h.2 with ⟨rfl, hn⟩ | ⟨g, cap, cur, rfl, _⟩
  · exact ⟨none, 0, by rw [hn]⟩
  · exact ⟨_, cap, rfl⟩
theorem IR.one (h : IR w B e v xs) : v.oneCell' = true := by
  obtain ⟨ao, cap, rfl⟩ := h.form
  rfl
/-- As a slice within a statement of the row u. -/
theorem IR.within {u : Value} (h : IR w B e v xs) (hne : ∀ k, v.ownBlock = some k → u.ownBlock ≠ some k) : In w B u v xs :=
  ⟨h.rd, fun k hk => ⟨hne k hk, (h.lt k hk).1, (h.lt k hk).2⟩, h.one⟩
theorem wp_append_nv {o : Oper} {a : Act} {K : Act → World → Prop} {Q : Exit → Act → World → Prop} {T : TypeId} {i0 : TypeInfo} {b : Nat} (n : Nat)
    (hT : P.underlying T = some (.slice e)) (hi : P.info? e = some i0) (hz : i0.zero = some (.int .i64 0)) (hs1 : i0.size = 1) (hby : i0.bytes = 8)
    (s x : Operand) (ho : o.op = .call { callee := .builtin .append, args := #[s, x], argTypes := #[T, T] })
    (hs : a.eval s = v) (h : IR w B e v xs) (hx : a.eval x = .slice (some ⟨b, 0, none⟩) 1 1) (hb : w.heap[b]? = some (.cells #[.int .i64 (n : Int)] e (0, 0)))
    (hn : xs.length ≤ 1048576) (hB : B ≤ w.heap.size)
    (h' : ∀ g cap w', IR w' B e (.slice (some ⟨g, 0, none⟩) (xs.length + 1) cap) (xs ++ [n]) → w.grownBy w' v.ownBlock → (v.ownBlock = some g ∨ g = w.heap.size) → K (a.put o.dst (.slice (some ⟨g, 0, none⟩) (xs.length + 1) cap)) w') : o.wp P a w K Q := by
  refine wp_append_lies w s x T ho B e i0 (.int .i64 0) 1 8 hT hi hz hs1 hby rfl (by decide) v xs.length (xs.map nv) hs h ⟨b, 0, none⟩ 1 1 [nv n] hx rfl ?_ ?_ (by decide) (by unfold maxLen; omega) (by omega) hB _ rfl (fun g cap w' h2 h3 h4 _ => h' g cap w' ?_ h3 h4)
  · exact World.news_of_block hb
  · intro u hu
    rw [List.mem_singleton.1 hu]; rfl
  · unfold IR
    rw [List.length_append, List.map_append]
    exact h2
theorem wpList_append_nv {ops : Array Oper} {rest : List Oper} {o : Oper} {a : Act} {Q : Exit → Act → World → Prop} {T : TypeId} {i0 : TypeInfo} {b : Nat} (n : Nat) (hgd : o.guard = none)
    (hT : P.underlying T = some (.slice e)) (hi : P.info? e = some i0) (hz : i0.zero = some (.int .i64 0)) (hs1 : i0.size = 1) (hby : i0.bytes = 8)
    (s x : Operand) (ho : o.op = .call { callee := .builtin .append, args := #[s, x], argTypes := #[T, T] })
    (hs : a.eval s = v) (h : IR w B e v xs) (hx : a.eval x = .slice (some ⟨b, 0, none⟩) 1 1) (hb : w.heap[b]? = some (.cells #[.int .i64 (n : Int)] e (0, 0)))
    (hn : xs.length ≤ 1048576) (hB : B ≤ w.heap.size)
    (h' : ∀ g cap w', IR w' B e (.slice (some ⟨g, 0, none⟩) (xs.length + 1) cap) (xs ++ [n]) → w.grownBy w' v.ownBlock → (v.ownBlock = some g ∨ g = w.heap.size) → wpList P ops Q rest (a.put o.dst (.slice (some ⟨g, 0, none⟩) (xs.length + 1) cap)) w') : wpList P ops Q (o :: rest) a w :=
  wpList_plain hgd fun _ hK => wp_append_nv n hT hi hz hs1 hby s x ho hs h hx hb hn hB fun g cap w' h2 h3 h4 => hK _ _ (h' g cap w' h2 h3 h4)
theorem wpList_append_st {ops : Array Oper} {rest : List Oper} {o : Oper} {a : Act} {Q : Exit → Act → World → Prop} {T : TypeId} {i0 : TypeInfo} {z : Value} {by' b : Nat} {cs : List SA} (t : SA) (hgd : o.guard = none)
    (hT : P.underlying T = some (.slice e)) (hi : P.info? e = some i0) (hz : i0.zero = some z) (hs8 : i0.size = 8) (hby : i0.bytes = by') (hzs : z.cells.size = 8) (hby' : by' ≤ 128)
    (s x : Operand) (ho : o.op = .call { callee := .builtin .append, args := #[s, x], argTypes := #[T, T] })
    (hs : a.eval s = v) (h : OS w B e v cs) (hx : a.eval x = .slice (some ⟨b, 0, none⟩) 1 1) (hb : w.heap[b]? = some (.cells (stCells t).toArray e (0, 0)))
    (hl : In w B v t.l t.st.l) (hm : In w B v t.m t.st.m) (hn : cs.length ≤ 1048576) (hB : B ≤ w.heap.size)
    (h' : ∀ g cap w', OS w' B e (.slice (some ⟨g, 0, none⟩) (cs.length + 1) cap) (cs ++ [t]) → w.grownBy w' v.ownBlock → (v.ownBlock = some g ∨ g = w.heap.size) → wpList P ops Q rest (a.put o.dst (.slice (some ⟨g, 0, none⟩) (cs.length + 1) cap)) w') : wpList P ops Q (o :: rest) a w :=
  wpList_plain hgd fun _ hK => wp_append_st t hT hi hz hs8 hby hzs hby' s x ho hs h hx hb hl hm hn hB fun g cap w' h2 h3 h4 => hK _ _ (h' g cap w' h2 h3 h4)
end
end Go.Proofs.YtiikionoagmabaaDoor

/- All that a reader holds, in memory: the tokens that are left, the open halves, the row of statements, the places (layer 15). -/
namespace Go.Proofs.YtiikionoagmabaaDoor
open Go.RowKit

/-- A statement that is not whole, beside its two slices. -/
structure HA where
  st : Ps.St
  l : Value
  m : Value
  els : Bool
def HA.sa (h : HA) : SA := ⟨h.st, h.l, h.m⟩
def HA.hf (h : HA) : Ps.Hf := ⟨h.st, h.els⟩
def hCells (h : HA) : List Value := [.int .i64 (h.st.kind : Int), .string ⟨h.st.s.toArray⟩, .string ⟨h.st.t.toArray⟩, .string ⟨h.st.u.toArray⟩, .int .i64 (h.st.n : Int), .int .i64 (h.st.place : Int), h.l, h.m, .bool h.els]
def hRow (hs : List HA) : List Value := hs.flatMap hCells
theorem hRow_len : ∀ cs : List HA, (hRow cs).length = cs.length * 9
  | [] => rfl
  | t :: ts => by
    have ih := hRow_len ts
    rw [show hRow (t :: ts) = hCells t ++ hRow ts from rfl, List.length_append, ih, List.length_cons]
    show 9 + _ = _
    omega
theorem hRow_app (a b : List HA) : hRow (a ++ b) = hRow a ++ hRow b := by simp [hRow]
theorem hRow_at : ∀ (cs : List HA) (k : Nat) (c : HA), cs[k]? = some c → ∀ i v, (hCells c)[i]? = some v → (hRow cs)[k * 9 + i]? = some v
  | [], k, c, h, i, v, _ => by cases h
  | x :: cs, 0, c, h, i, v, hv => by
    have e : x = c := by simpa using h
    rw [← e] at hv
    have hi : i < (hCells x).length := (List.getElem?_eq_some_iff.1 hv).1
    rw [show hRow (x :: cs) = hCells x ++ hRow cs from rfl, Nat.zero_mul, Nat.zero_add, List.getElem?_append_left hi]
    exact hv
  | x :: cs, k + 1, c, h, i, v, hv => by
    have ih := hRow_at cs k c (by simpa using h) i v hv
    have e : (hCells x).length = 9 := rfl
    rw [show hRow (x :: cs) = hCells x ++ hRow cs from rfl, List.getElem?_append_right (by omega), e, show (k + 1) * 9 + i - 9 = k * 9 + i by omega]
    exact ih

/-- Which of the objects. -/
inductive Ix where
  | g | b | q | o | s | t
  | l (i : Nat)
  | m (i : Nat)
/-- The block in which it lies. -/
def bAt (g b q : Nat) (ov sv tv : Value) (al : List HA) : Ix → Option Nat
  | .g => some g
  | .b => some b
  | .q => some q
  | .o => ov.ownBlock
  | .s => sv.ownBlock
  | .t => tv.ownBlock
  | .l i => (al[i]?).bind fun h => h.l.ownBlock
  | .m i => (al[i]?).bind fun h => h.m.ownBlock
/-- No two in one. -/
def Inj (at' : Ix → Option Nat) : Prop := ∀ i j k, at' i = some k → at' j = some k → i = j
/-- The blocks of some of them. -/
def FX (at' : Ix → Option Nat) (X : Ix → Prop) : Nat → Prop := fun k => ∃ i, X i ∧ at' i = some k
theorem Inj.far {at' : Ix → Option Nat} {X : Ix → Prop} (h : Inj at') {i : Ix} {k : Nat} (hk : at' i = some k) (hi : ¬ X i) : ¬ FX at' X k := fun ⟨j, hj, e⟩ => hi (h i j k hk e ▸ hj)
theorem Inj.grown {at' at2 : Ix → Option Nat} {x : Ix} {n g : Nat} (h : Inj at') (hlt : ∀ i k, at' i = some k → k < n) (hg : at' x = some g ∨ g = n) (h2 : ∀ i k, at2 i = some k → (i = x ∧ k = g) ∨ at' i = some k ∧ i ≠ x) : Inj at2 := by
  intro i j k hi hj
  rcases h2 i k hi with ⟨rfl, rfl⟩ | ⟨hi, hix⟩
  · rcases h2 j k hj with ⟨rfl, _⟩ | ⟨hj, hjx⟩
    · rfl
    · rcases hg with hg | hg
      · exact h _ _ _ hg hj
      · have := hlt j k hj; omega
  · rcases h2 j k hj with ⟨rfl, rfl⟩ | ⟨hj, hjx⟩
    · rcases hg with hg | hg
      · exact absurd (h _ _ _ hi hg) hix
      · have := hlt i k hi; omega
    · exact h _ _ _ hi hj

theorem own_trn {F : Nat → Prop} {w w' : World} {B n size : Nat} {e : TypeId} {v : Value} {xs : List Value} (ho : w.ownsRow B e size v n xs) (h : Trn F w w') (hv : ∀ k, v.ownBlock = some k → ¬ F k) : w'.ownsRow B e size v n xs := by
  refine ⟨ho.1, ?_⟩
  rcases ho.2 with hn | ⟨b, cap, cur, rfl, hb, hh, r⟩
  · exact .inl hn
  · refine .inr ⟨b, cap, cur, rfl, hb, ?_, r⟩
    rw [h.block b (Array.getElem?_eq_some_iff.1 hh).1 (hv b rfl)]
    exact hh
/-- A slice of places, read, in a block of none of them. -/
structure Far (w : World) (B : Nat) (at' : Ix → Option Nat) (v : Value) (xs : List Nat) : Prop where
  rd : Rd w v (xs.map nv)
  ap : ∀ k, v.ownBlock = some k → (∀ i, at' i ≠ some k) ∧ B ≤ k ∧ k < w.heap.size
  one : v.oneCell' = true
theorem Far.trn {w w' : World} {B : Nat} {at' at2 : Ix → Option Nat} {X : Ix → Prop} {v : Value} {xs : List Nat} (h : Far w B at' v xs) (ht : Trn (FX at' X) w w') (h2 : ∀ i k, at2 i = some k → at' i = some k ∨ w.heap.size ≤ k) : Far w' B at2 v xs :=
  ⟨ht.rd h.rd (fun k hk ⟨j, _, e⟩ => (h.ap k hk).1 j e), fun k hk => ⟨fun i e => by
    rcases h2 i k e with e | e
    · exact (h.ap k hk).1 i e
    · have := (h.ap k hk).2.2; omega, (h.ap k hk).2.1, Nat.lt_of_lt_of_le (h.ap k hk).2.2 ht.size⟩, h.one⟩

/-- A half stands in block q. -/
def Q9 (w : World) (q : Nat) : Prop := ∃ v0 v1 v2 v3 v4 v5 v6 v7 v8, w.heap[q]? = some (.cells #[v0, v1, v2, v3, v4, v5, v6, v7, v8] 74 (0, 0))
theorem Q9.lt {w : World} {q : Nat} (h : Q9 w q) : q < w.heap.size := by
  obtain ⟨_, _, _, _, _, _, _, _, _, h⟩ := h
  exact (Array.getElem?_eq_some_iff.1 h).1
theorem Q9.same {w w' : World} {q : Nat} (h : Q9 w q) (e : w'.heap[q]? = w.heap[q]?) : Q9 w' q := by
  obtain ⟨v0, v1, v2, v3, v4, v5, v6, v7, v8, h⟩ := h
  exact ⟨v0, v1, v2, v3, v4, v5, v6, v7, v8, e.trans h⟩
/-- A reader: its tokens, its open halves (the outermost first), those in hand, its statements, its places. -/
structure PX (w : World) (B g b q : Nat) (lv ov sv tv : Value) (md a f : Nat) (ts : List Lx.Tok) (hs ps : List HA) (cs : List SA) (top : List Nat) : Prop where
  rb : RB w g lv ov md sv tv a f
  tr : TR w b lv ts
  blt : b < w.heap.size
  qlt : Q9 w q
  op : w.ownsRow B 74 9 ov hs.length (hRow hs)
  os : w.ownsRow B 37 8 sv cs.length (stRow cs)
  tp : IR w B 3 tv top
  hl : ∀ h ∈ hs ++ ps, IR w B 3 h.l h.st.l ∧ IR w B 3 h.m h.st.m
  cl : ∀ c ∈ cs, Far w B (bAt g b q ov sv tv (hs ++ ps)) c.l c.st.l ∧ Far w B (bAt g b q ov sv tv (hs ++ ps)) c.m c.st.m
  nd : Inj (bAt g b q ov sv tv (hs ++ ps))
  gB : B ≤ g
  bB : B ≤ b
  qB : B ≤ q
section
variable {w w' w2 : World} {B g b q md a f : Nat} {lv ov sv tv : Value} {ts : List Lx.Tok} {hs ps : List HA} {cs : List SA} {top : List Nat}
theorem PX.lt (h : PX w B g b q lv ov sv tv md a f ts hs ps cs top) : ∀ i k, bAt g b q ov sv tv (hs ++ ps) i = some k → B ≤ k ∧ k < w.heap.size := by
  intro i k hk
  cases i with
  | g => cases hk; exact ⟨h.gB, h.rb.lt⟩
  | b => cases hk; exact ⟨h.bB, h.blt⟩
  | q => cases hk; exact ⟨h.qB, h.qlt.lt⟩
  | o => exact World.ownsRow.lt h.op k hk
  | s => exact World.ownsRow.lt h.os k hk
  | t => exact IR.lt h.tp k hk
  | l i =>
    simp only [bAt] at hk
    cases hx : (hs ++ ps)[i]? with
    | none => rw [hx] at hk; cases hk
    | some x => rw [hx] at hk; exact IR.lt (h.hl x (List.mem_of_getElem? hx)).1 k hk
  | m i =>
    simp only [bAt] at hk
    cases hx : (hs ++ ps)[i]? with
    | none => rw [hx] at hk; cases hk
    | some x => rw [hx] at hk; exact IR.lt (h.hl x (List.mem_of_getElem? hx)).2 k hk
theorem PX.q9_trn {X : Ix → Prop} (h : PX w B g b q lv ov sv tv md a f ts hs ps cs top) (ht : Trn (FX (bAt g b q ov sv tv (hs ++ ps)) X) w w') (hq : ¬ X .q) : Q9 w' q :=
  h.qlt.same (ht.block q h.qlt.lt (h.nd.far (i := .q) rfl hq))
theorem PX.base {X : Ix → Prop} (h : PX w B g b q lv ov sv tv md a f ts hs ps cs top) (ht : Trn (FX (bAt g b q ov sv tv (hs ++ ps)) X) w w') (hB : B ≤ w.heap.size) : Below B w w' :=
  ht.below (fun k ⟨i, _, e⟩ => (h.lt i k e).1) hB
theorem PX.bsz (h : PX w B g b q lv ov sv tv md a f ts hs ps cs top) : B ≤ w.heap.size := by
  have := h.gB; have := h.rb.lt; omega
/-- The rows of the halves past a change of others. -/
theorem PX.hl_trn {X : Ix → Prop} (h : PX w B g b q lv ov sv tv md a f ts hs ps cs top) (ht : Trn (FX (bAt g b q ov sv tv (hs ++ ps)) X) w w') (i : Nat) (x : HA) (hx : (hs ++ ps)[i]? = some x) (h1 : ¬ X (.l i)) (h2 : ¬ X (.m i)) : IR w' B 3 x.l x.st.l ∧ IR w' B 3 x.m x.st.m := by
  obtain ⟨i1, i2⟩ := h.hl x (List.mem_of_getElem? hx)
  exact ⟨own_trn i1 ht (fun k hk => h.nd.far (i := .l i) (by simp only [bAt]; rw [hx]; exact hk) h1), own_trn i2 ht (fun k hk => h.nd.far (i := .m i) (by simp only [bAt]; rw [hx]; exact hk) h2)⟩
/-- The reader's own block alone has turned. -/
theorem PX.of_g {lv' : Value} {md' a' f' : Nat} {ts' : List Lx.Tok} (h : PX w B g b q lv ov sv tv md a f ts hs ps cs top) (ht : Trn (only g) w w') (hr : RB w' g lv' ov md' sv tv a' f') (htr : TR w' b lv' ts') : PX w' B g b q lv' ov sv tv md' a' f' ts' hs ps cs top := by
  have ht' : Trn (FX (bAt g b q ov sv tv (hs ++ ps)) (fun i => i = .g)) w w' := ht.more (fun k hk => ⟨.g, rfl, by rw [show k = g from hk]; rfl⟩)
  refine ⟨hr, htr, Nat.lt_of_lt_of_le h.blt ht.size, h.q9_trn ht' (by simp), own_trn h.op ht' (fun k hk => h.nd.far (i := .o) hk (by simp)), own_trn h.os ht' (fun k hk => h.nd.far (i := .s) hk (by simp)), own_trn h.tp ht' (fun k hk => h.nd.far (i := .t) hk (by simp)), fun x hx => ?_, fun c hc => ⟨(h.cl c hc).1.trn ht' (fun i k e => .inl e), (h.cl c hc).2.trn ht' (fun i k e => .inl e)⟩, h.nd, h.gB, h.bB, h.qB⟩
  obtain ⟨i, hi⟩ := List.getElem?_of_mem hx
  exact h.hl_trn ht' i x hi (by simp) (by simp)
theorem PX.of_q (h : PX w B g b q lv ov sv tv md a f ts hs ps cs top) (ht : Trn (only q) w w') (hq9 : Q9 w' q) : PX w' B g b q lv ov sv tv md a f ts hs ps cs top := by
  have ht' : Trn (FX (bAt g b q ov sv tv (hs ++ ps)) (fun i => i = .q)) w w' := ht.more (fun k hk => ⟨.q, rfl, by rw [show k = q from hk]; rfl⟩)
  refine ⟨h.rb.trn ht' (h.nd.far (i := .g) rfl (by simp)), h.tr.trn ht' (h.nd.far (i := .b) rfl (by simp)), Nat.lt_of_lt_of_le h.blt ht.size, hq9, own_trn h.op ht' (fun k hk => h.nd.far (i := .o) hk (by simp)), own_trn h.os ht' (fun k hk => h.nd.far (i := .s) hk (by simp)), own_trn h.tp ht' (fun k hk => h.nd.far (i := .t) hk (by simp)), fun x hx => ?_, fun c hc => ⟨(h.cl c hc).1.trn ht' (fun i k e => .inl e), (h.cl c hc).2.trn ht' (fun i k e => .inl e)⟩, h.nd, h.gB, h.bB, h.qB⟩
  obtain ⟨i, hi⟩ := List.getElem?_of_mem hx
  exact h.hl_trn ht' i x hi (by simp) (by simp)
theorem PX.below (h : PX w B g b q lv ov sv tv md a f ts hs ps cs top) (hb : Below w.heap.size w w') : PX w' B g b q lv ov sv tv md a f ts hs ps cs top :=
  h.of_g (Trn.of_below hb) (h.rb.below hb) (h.tr.below hb)
/-- A statement without any within it, in hand. -/
theorem PX.hand {x : HA} (h : PX w B g b q lv ov sv tv md a f ts hs [] cs top) (h1 : x.l = .slice none 0 0) (h2 : x.m = .slice none 0 0) (h3 : x.st.l = []) (h4 : x.st.m = []) : PX w B g b q lv ov sv tv md a f ts hs [x] cs top := by
  have hat : ∀ i, bAt g b q ov sv tv (hs ++ [x]) i = bAt g b q ov sv tv (hs ++ []) i := by
    intro i
    rw [List.append_nil]
    have key : ∀ (i : Nat) (f : HA → Option Nat), f x = none → ((hs ++ [x])[i]?).bind f = (hs[i]?).bind f := by
      intro i f hf
      rcases Nat.lt_or_ge i hs.length with hi | hi
      · rw [List.getElem?_append_left hi]
      · rw [List.getElem?_append_right hi, List.getElem?_eq_none hi]
        cases hj : i - hs.length with
        | zero => exact hf
        | succ j => rfl
    cases i with
    | l i => exact key i _ (by rw [h1]; rfl)
    | m i => exact key i _ (by rw [h2]; rfl)
    | g => rfl
    | b => rfl
    | q => rfl
    | o => rfl
    | s => rfl
    | t => rfl
  refine ⟨h.rb, h.tr, h.blt, h.qlt, h.op, h.os, h.tp, fun y hy => ?_, fun c hc => ?_, ?_, h.gB, h.bB, h.qB⟩
  · rcases List.mem_append.1 hy with hy | hy
    · exact h.hl y (by simp [hy])
    · rw [List.mem_singleton.1 hy, h1, h2, h3, h4]
      exact ⟨IR.nil _ _ _, IR.nil _ _ _⟩
  · obtain ⟨f1, f2⟩ := h.cl c hc
    exact ⟨⟨f1.rd, fun k hk => ⟨fun i => by rw [hat]; exact (f1.ap k hk).1 i, (f1.ap k hk).2⟩, f1.one⟩, ⟨f2.rd, fun k hk => ⟨fun i => by rw [hat]; exact (f2.ap k hk).1 i, (f2.ap k hk).2⟩, f2.one⟩⟩
  · intro i j k hi hj
    rw [hat] at hi hj
    exact h.nd i j k hi hj
/-- The half in hand is behind its else, or not. -/
theorem PX.els {x : HA} (h : PX w B g b q lv ov sv tv md a f ts hs [x] cs top) (e : Bool) : PX w B g b q lv ov sv tv md a f ts hs [⟨x.st, x.l, x.m, e⟩] cs top := by
  have hat : ∀ i, bAt g b q ov sv tv (hs ++ [⟨x.st, x.l, x.m, e⟩]) i = bAt g b q ov sv tv (hs ++ [x]) i := by
    intro i
    have key : ∀ (i : Nat) (f : HA → Option Nat), f ⟨x.st, x.l, x.m, e⟩ = f x → ((hs ++ [⟨x.st, x.l, x.m, e⟩])[i]?).bind f = ((hs ++ [x])[i]?).bind f := by
      intro i f hf
      rcases Nat.lt_or_ge i hs.length with hi | hi
      · rw [List.getElem?_append_left hi, List.getElem?_append_left hi]
      · rw [List.getElem?_append_right hi, List.getElem?_append_right hi]
        cases hj : i - hs.length with
        | zero => exact hf
        | succ j => rfl
    cases i with
    | l i => exact key i _ rfl
    | m i => exact key i _ rfl
    | g => rfl
    | b => rfl
    | q => rfl
    | o => rfl
    | s => rfl
    | t => rfl
  refine ⟨h.rb, h.tr, h.blt, h.qlt, h.op, h.os, h.tp, fun y hy => ?_, fun c hc => ?_, ?_, h.gB, h.bB, h.qB⟩
  · rcases List.mem_append.1 hy with hy | hy
    · exact h.hl y (by simp [hy])
    · rw [List.mem_singleton.1 hy]
      exact h.hl x (by simp)
  · obtain ⟨f1, f2⟩ := h.cl c hc
    exact ⟨⟨f1.rd, fun k hk => ⟨fun i => by rw [hat]; exact (f1.ap k hk).1 i, (f1.ap k hk).2⟩, f1.one⟩, ⟨f2.rd, fun k hk => ⟨fun i => by rw [hat]; exact (f2.ap k hk).1 i, (f2.ap k hk).2⟩, f2.one⟩⟩
  · intro i j k hi hj
    rw [hat] at hi hj
    exact h.nd i j k hi hj
/-- One of them has grown; the reader's block, too. -/
theorem Trn.of_grown {F : Nat → Prop} {v : Value} (hg : w.grownBy w2 v.ownBlock) (hv : ∀ k, v.ownBlock = some k → F k) : Trn F w w2 :=
  ⟨hg.os, hg.tape, hg.output, hg.size, fun k hk hF => hg.block k hk (fun e => hF (hv k e.symm))⟩
theorem PX.growTop {tv' : Value} {n g' : Nat} (h : PX w B g b q lv ov sv tv md a f ts hs ps cs top) (hg : w.grownBy w2 tv.ownBlock) (hI : IR w2 B 3 tv' (top ++ [n])) (hv' : tv'.ownBlock = some g') (hgg : tv.ownBlock = some g' ∨ g' = w.heap.size) :
    PX (w2.setCell ⟨g, 4, none⟩ tv') B g b q lv ov sv tv' md a f ts hs ps cs (top ++ [n]) ∧ Below B w (w2.setCell ⟨g, 4, none⟩ tv') := by
  have t2 : Trn (FX (bAt g b q ov sv tv (hs ++ ps)) (fun i => i = .g ∨ i = .t)) w w2 := Trn.of_grown hg (fun k hk => ⟨.t, .inr rfl, hk⟩)
  have t3 : Trn (FX (bAt g b q ov sv tv (hs ++ ps)) (fun i => i = .g ∨ i = .t)) w (w2.setCell ⟨g, 4, none⟩ tv') := t2.setCell ⟨.g, .inl rfl, rfl⟩ _
  have hat : ∀ i k, bAt g b q ov sv tv' (hs ++ ps) i = some k → (i = .t ∧ k = g') ∨ bAt g b q ov sv tv (hs ++ ps) i = some k ∧ i ≠ .t := by
    intro i k hk
    cases i <;> first | exact .inr ⟨hk, by simp⟩ | exact .inl ⟨rfl, by simp only [bAt] at hk; rw [hv'] at hk; cases hk; rfl⟩
  have hlt : ∀ i k, bAt g b q ov sv tv (hs ++ ps) i = some k → k < w.heap.size := fun i k e => (h.lt i k e).2
  have hgt : g' ≠ g := by
    rcases hgg with e | e
    · intro e2; subst e2; exact absurd (h.nd .t .g _ e rfl) (by simp)
    · have := h.rb.lt; omega
  have hrb2 : RB w2 g lv ov md sv tv a f := h.rb.same (hg.block g h.rb.lt (fun e => absurd (h.nd .g .t g rfl e.symm) (by simp)))
  refine ⟨⟨hrb2.set4 tv', h.tr.trn t3 (h.nd.far (i := .b) rfl (by simp)), Nat.lt_of_lt_of_le h.blt t3.size, h.q9_trn t3 (by simp), own_trn h.op t3 (fun k hk => h.nd.far (i := .o) hk (by simp)), own_trn h.os t3 (fun k hk => h.nd.far (i := .s) hk (by simp)), ?_, fun x hx => ?_, fun c hc => ⟨(h.cl c hc).1.trn t3 ?_, (h.cl c hc).2.trn t3 ?_⟩, h.nd.grown (x := .t) (g := g') hlt hgg hat, h.gB, h.bB, h.qB⟩, h.base t3 h.bsz⟩
  · exact own_trn (F := only g) hI (Trn.setCell (F := only g) (Trn.refl _ _) (show g = g from rfl) _) (fun k hk e => by rw [hv'] at hk; cases hk; exact hgt e)
  · obtain ⟨i, hi⟩ := List.getElem?_of_mem hx
    exact h.hl_trn t3 i x hi (by simp) (by simp)
  · intro i k e
    rcases hat i k e with ⟨rfl, rfl⟩ | e
    · exact hgg.imp id (fun e => by omega)
    · exact .inl e.1
  · intro i k e
    rcases hat i k e with ⟨rfl, rfl⟩ | e
    · exact hgg.imp id (fun e => by omega)
    · exact .inl e.1
theorem al_l (a b : List HA) (i : Nat) {k : Nat} {f : HA → Option Nat} (h : ((a[i]?).bind f) = some k) : (((a ++ b)[i]?).bind f) = some k := by
  cases hx : a[i]? with
  | none => rw [hx] at h; cases h
  | some x => rw [List.getElem?_append_left (List.getElem?_eq_some_iff.1 hx).1, hx]; rw [hx] at h; exact h
/-- A statement that is whole has been put into the row. -/
theorem PX.growSt {sv' : Value} {g' : Nat} {x : HA} (h : PX w B g b q lv ov sv tv md a f ts hs [x] cs top) (hg : w.grownBy w2 sv.ownBlock) (hI : w2.ownsRow B 37 8 sv' (cs.length + 1) (stRow (cs ++ [x.sa]))) (hv' : sv'.ownBlock = some g') (hgg : sv.ownBlock = some g' ∨ g' = w.heap.size) :
    PX (w2.setCell ⟨g, 3, none⟩ sv') B g b q lv ov sv' tv md a f ts hs [] (cs ++ [x.sa]) top ∧ Below B w (w2.setCell ⟨g, 3, none⟩ sv') := by
  have t2 : Trn (FX (bAt g b q ov sv tv (hs ++ [x])) (fun i => i = .g ∨ i = .s)) w w2 := Trn.of_grown hg (fun k hk => ⟨.s, .inr rfl, hk⟩)
  have t3 : Trn (FX (bAt g b q ov sv tv (hs ++ [x])) (fun i => i = .g ∨ i = .s)) w (w2.setCell ⟨g, 3, none⟩ sv') := t2.setCell ⟨.g, .inl rfl, rfl⟩ _
  have hxn : (hs ++ [x])[hs.length]? = some x := by simp
  have hat : ∀ i k, bAt g b q ov sv' tv (hs ++ []) i = some k → ((i = .s ∧ k = g') ∨ bAt g b q ov sv tv (hs ++ [x]) i = some k ∧ i ≠ .s) ∧ i ≠ .l hs.length ∧ i ≠ .m hs.length := by
    intro i k hk
    cases i with
    | g => exact ⟨.inr ⟨hk, by simp⟩, by simp, by simp⟩
    | b => exact ⟨.inr ⟨hk, by simp⟩, by simp, by simp⟩
    | q => exact ⟨.inr ⟨hk, by simp⟩, by simp, by simp⟩
    | o => exact ⟨.inr ⟨hk, by simp⟩, by simp, by simp⟩
    | t => exact ⟨.inr ⟨hk, by simp⟩, by simp, by simp⟩
    | s => exact ⟨.inl ⟨rfl, by simp only [bAt] at hk; rw [hv'] at hk; cases hk; rfl⟩, by simp, by simp⟩
    | l i =>
      rw [List.append_nil] at hk
      refine ⟨.inr ⟨al_l hs [x] i hk, by simp⟩, fun e => ?_, by simp⟩
      injection e with e
      subst e
      simp [bAt] at hk
    | m i =>
      rw [List.append_nil] at hk
      refine ⟨.inr ⟨al_l hs [x] i hk, by simp⟩, by simp, fun e => ?_⟩
      injection e with e
      subst e
      simp [bAt] at hk
  have hlt : ∀ i k, bAt g b q ov sv tv (hs ++ [x]) i = some k → k < w.heap.size := fun i k e => (h.lt i k e).2
  have hgt : g' ≠ g := by
    rcases hgg with e | e
    · intro e2; subst e2; exact absurd (h.nd .s .g _ e rfl) (by simp)
    · have := h.rb.lt; omega
  have hrb2 : RB w2 g lv ov md sv tv a f := h.rb.same (hg.block g h.rb.lt (fun e => absurd (h.nd .g .s g rfl e.symm) (by simp)))
  have hfar : ∀ i k, bAt g b q ov sv' tv (hs ++ []) i = some k → bAt g b q ov sv tv (hs ++ [x]) i = some k ∨ w.heap.size ≤ k := by
    intro i k e
    rcases (hat i k e).1 with ⟨rfl, rfl⟩ | e
    · exact hgg.imp id (fun e => by omega)
    · exact .inl e.1
  have new : ∀ (u : Value) (xs : List Nat) (j : Ix), IR w B 3 u xs → (∀ k, u.ownBlock = some k → bAt g b q ov sv tv (hs ++ [x]) j = some k) → j ≠ .g → j ≠ .s → (∀ i k, bAt g b q ov sv' tv (hs ++ []) i = some k → i ≠ j) → Far (w2.setCell ⟨g, 3, none⟩ sv') B (bAt g b q ov sv' tv (hs ++ [])) u xs := by
    intro u xs j hu hj h1 h2 h3
    have hu3 := own_trn hu t3 (fun k hk => h.nd.far (hj k hk) (by simp [h1, h2]))
    refine ⟨IR.rd hu3, fun k hk => ⟨fun i e => ?_, (IR.lt hu3 k hk).1, (IR.lt hu3 k hk).2⟩, IR.one hu⟩
    have hk' := hj k hk
    rcases (hat i k e).1 with ⟨rfl, rfl⟩ | e2
    · rcases hgg with hgg | hgg
      · exact h2 (h.nd j .s _ hk' hgg)
      · have := hlt _ _ hk'; omega
    · exact h3 i k e (h.nd i j k e2.1 hk')
  refine ⟨⟨hrb2.set3 sv', h.tr.trn t3 (h.nd.far (i := .b) rfl (by simp)), Nat.lt_of_lt_of_le h.blt t3.size, h.q9_trn t3 (by simp), own_trn h.op t3 (fun k hk => h.nd.far (i := .o) hk (by simp)), ?_, own_trn h.tp t3 (fun k hk => h.nd.far (i := .t) hk (by simp)), fun y hy => ?_, fun c hc => ?_, h.nd.grown (x := .s) (g := g') hlt hgg (fun i k e => (hat i k e).1), h.gB, h.bB, h.qB⟩, h.base t3 h.bsz⟩
  · rw [List.length_append]
    exact own_trn (F := only g) hI (Trn.setCell (F := only g) (Trn.refl _ _) (show g = g from rfl) _) (fun k hk e => by rw [hv'] at hk; cases hk; exact hgt e)
  · rw [List.append_nil] at hy
    obtain ⟨i, hi⟩ := List.getElem?_of_mem hy
    exact h.hl_trn t3 i y (by rw [List.getElem?_append_left (List.getElem?_eq_some_iff.1 hi).1]; exact hi) (by simp) (by simp)
  · rcases List.mem_append.1 hc with hc | hc
    · exact ⟨(h.cl c hc).1.trn t3 hfar, (h.cl c hc).2.trn t3 hfar⟩
    · rw [List.mem_singleton.1 hc]
      obtain ⟨i1, i2⟩ := h.hl x (by simp)
      exact ⟨new _ _ (.l hs.length) i1 (fun k hk => by simp only [bAt]; rw [hxn]; exact hk) (by simp) (by simp) (fun i k e => (hat i k e).2.1), new _ _ (.m hs.length) i2 (fun k hk => by simp only [bAt]; rw [hxn]; exact hk) (by simp) (by simp) (fun i k e => (hat i k e).2.2)⟩
/-- The half in hand is open. -/
theorem PX.growOp {ov' : Value} {g' : Nat} {x : HA} (h : PX w B g b q lv ov sv tv md a f ts hs [x] cs top) (hg : w.grownBy w2 ov.ownBlock) (hI : w2.ownsRow B 74 9 ov' (hs.length + 1) (hRow (hs ++ [x]))) (hv' : ov'.ownBlock = some g') (hgg : ov.ownBlock = some g' ∨ g' = w.heap.size) :
    PX (w2.setCell ⟨g, 1, none⟩ ov') B g b q lv ov' sv tv md a f ts (hs ++ [x]) [] cs top ∧ Below B w (w2.setCell ⟨g, 1, none⟩ ov') := by
  have t2 : Trn (FX (bAt g b q ov sv tv (hs ++ [x])) (fun i => i = .g ∨ i = .o)) w w2 := Trn.of_grown hg (fun k hk => ⟨.o, .inr rfl, hk⟩)
  have t3 : Trn (FX (bAt g b q ov sv tv (hs ++ [x])) (fun i => i = .g ∨ i = .o)) w (w2.setCell ⟨g, 1, none⟩ ov') := t2.setCell ⟨.g, .inl rfl, rfl⟩ _
  have hat : ∀ i k, bAt g b q ov' sv tv (hs ++ [x]) i = some k → (i = .o ∧ k = g') ∨ bAt g b q ov sv tv (hs ++ [x]) i = some k ∧ i ≠ .o := by
    intro i k hk
    cases i <;> first | exact .inr ⟨hk, by simp⟩ | exact .inl ⟨rfl, by simp only [bAt] at hk; rw [hv'] at hk; cases hk; rfl⟩
  have hlt : ∀ i k, bAt g b q ov sv tv (hs ++ [x]) i = some k → k < w.heap.size := fun i k e => (h.lt i k e).2
  have hgt : g' ≠ g := by
    rcases hgg with e | e
    · intro e2; subst e2; exact absurd (h.nd .o .g _ e rfl) (by simp)
    · have := h.rb.lt; omega
  have hrb2 : RB w2 g lv ov md sv tv a f := h.rb.same (hg.block g h.rb.lt (fun e => absurd (h.nd .g .o g rfl e.symm) (by simp)))
  have hfar : ∀ i k, bAt g b q ov' sv tv (hs ++ [x]) i = some k → bAt g b q ov sv tv (hs ++ [x]) i = some k ∨ w.heap.size ≤ k := by
    intro i k e
    rcases hat i k e with ⟨rfl, rfl⟩ | e
    · exact hgg.imp id (fun e => by omega)
    · exact .inl e.1
  have e0 : hs ++ [x] ++ [] = hs ++ [x] := List.append_nil _
  refine ⟨⟨hrb2.set1 ov', h.tr.trn t3 (h.nd.far (i := .b) rfl (by simp)), Nat.lt_of_lt_of_le h.blt t3.size, h.q9_trn t3 (by simp), ?_, own_trn h.os t3 (fun k hk => h.nd.far (i := .s) hk (by simp)), own_trn h.tp t3 (fun k hk => h.nd.far (i := .t) hk (by simp)), fun y hy => ?_, fun c hc => ?_, ?_, h.gB, h.bB, h.qB⟩, h.base t3 h.bsz⟩
  · rw [List.length_append]
    exact own_trn (F := only g) hI (Trn.setCell (F := only g) (Trn.refl _ _) (show g = g from rfl) _) (fun k hk e => by rw [hv'] at hk; cases hk; exact hgt e)
  · rw [e0] at hy
    obtain ⟨i, hi⟩ := List.getElem?_of_mem hy
    exact h.hl_trn t3 i y hi (by simp) (by simp)
  · rw [e0]
    exact ⟨(h.cl c hc).1.trn t3 hfar, (h.cl c hc).2.trn t3 hfar⟩
  · rw [e0]
    exact h.nd.grown (x := .o) (g := g') hlt hgg hat
/-- The innermost is in hand. -/
theorem PX.pop {x : HA} {og cap : Nat} (h : PX w B g b q lv (.slice (some ⟨og, 0, none⟩) (hs.length + 1) cap) sv tv md a f ts (hs ++ [x]) [] cs top) (ht : Trn (only g) w w') (hr : RB w' g lv (.slice (some ⟨og, 0, none⟩) hs.length cap) md sv tv a f) :
    PX w' B g b q lv (.slice (some ⟨og, 0, none⟩) hs.length cap) sv tv md a f ts hs [x] cs top ∧ Below B w w' := by
  have e0 : hs ++ [x] ++ [] = hs ++ [x] := List.append_nil _
  have t3 : Trn (FX (bAt g b q (.slice (some ⟨og, 0, none⟩) (hs.length + 1) cap) sv tv (hs ++ [x] ++ [])) (fun i => i = .g)) w w' := ht.more (fun k hk => ⟨.g, rfl, by rw [show k = g from hk]; rfl⟩)
  have hat : ∀ i, bAt g b q (.slice (some ⟨og, 0, none⟩) hs.length cap) sv tv (hs ++ [x]) i = bAt g b q (.slice (some ⟨og, 0, none⟩) (hs.length + 1) cap) sv tv (hs ++ [x] ++ []) i := by
    intro i
    rw [e0]
    cases i <;> rfl
  have hor := own_trn h.op t3 (fun k hk => h.nd.far (i := .o) hk (by simp))
  refine ⟨⟨hr, h.tr.trn t3 (h.nd.far (i := .b) rfl (by simp)), Nat.lt_of_lt_of_le h.blt t3.size, h.q9_trn t3 (by simp), ?_, own_trn h.os t3 (fun k hk => h.nd.far (i := .s) hk (by simp)), own_trn h.tp t3 (fun k hk => h.nd.far (i := .t) hk (by simp)), fun y hy => ?_, fun c hc => ?_, ?_, h.gB, h.bB, h.qB⟩, h.base t3 h.bsz⟩
  · refine ⟨hRow_len hs, ?_⟩
    rcases hor.2 with ⟨e, _⟩ | ⟨g', cap', cur, e, hb, hh, h2, h3, h4, h5⟩
    · cases e
    · simp only [Value.slice.injEq, Option.some.injEq, Addr.mk.injEq, and_true, List.length_append, List.length_singleton, true_and] at e
      obtain ⟨rfl, rfl⟩ := e
      rw [List.length_append] at h2
      refine .inr ⟨og, cap, cur, rfl, hb, hh, by simp at h2; omega, h3, h4, ?_⟩
      have := congrArg (List.take (hs.length * 9)) h5
      rw [List.take_take, hRow_app, List.length_append, Nat.min_eq_left (by simp; omega), ← hRow_len hs, List.take_left] at this
      rw [← hRow_len hs]
      exact this
  · rw [← e0] at hy
    obtain ⟨i, hi⟩ := List.getElem?_of_mem hy
    exact h.hl_trn t3 i y hi (by simp) (by simp)
  · exact ⟨(h.cl c hc).1.trn t3 (fun i k e => .inl (by rw [← hat]; exact e)), (h.cl c hc).2.trn t3 (fun i k e => .inl (by rw [← hat]; exact e))⟩
  · intro i j k hi hj
    rw [hat] at hi hj
    exact h.nd i j k hi hj
end
end Go.Proofs.YtiikionoagmabaaDoor

/- A place is put into the innermost open half: its row, and its cell (layer 15). -/
namespace Go.Proofs.YtiikionoagmabaaDoor
open Go.RowKit

theorem own_storeN {w : World} {B n g cap k size : Nat} {e : TypeId} {vs : List Value} (h : w.ownsRow B e size (.slice (some ⟨g, 0, none⟩) n cap) n vs) (hk : k < n * size) (u : Value) :
    w.frozen? ⟨g, k, none⟩ = false ∧ (∃ u0, w.cell? ⟨g, k, none⟩ = some u0) ∧ (w.setCell ⟨g, k, none⟩ u).ownsRow B e size (.slice (some ⟨g, 0, none⟩) n cap) n (vs.set k u) := by
  have hlen := h.1
  rcases h.2 with ⟨e1, _⟩ | ⟨g', cap', cur, e1, hb, hh, h2, h3, h4, h5⟩
  · cases e1
  · simp only [Value.slice.injEq, Option.some.injEq, Addr.mk.injEq, and_true, true_and] at e1
    obtain ⟨rfl, rfl⟩ := e1
    have hc : n * size ≤ cap * size := Nat.mul_le_mul_right _ h2
    refine ⟨by simp [World.frozen?, hh], ⟨cur[k]'(by omega), by rw [cell_of_row _ _ _ _ _ _ hh, Array.getElem?_eq_getElem]⟩, by rw [List.length_set]; exact hlen, .inr ⟨g, cap, cur.setIfInBounds k u, rfl, hb, setCell_row hh, h2, h3, by simpa using h4, ?_⟩⟩
    rw [← h5, Array.toList_setIfInBounds, List.take_set]
theorem own_cellN {w : World} {B n g cap k size : Nat} {e : TypeId} {vs : List Value} (h : w.ownsRow B e size (.slice (some ⟨g, 0, none⟩) n cap) n vs) {u : Value} (hk : vs[k]? = some u) : w.cell? ⟨g, k, none⟩ = some u := by
  have := h.cells (g := g) rfl k u hk
  rwa [Addr.add_lit, Nat.zero_add] at this
section
variable {w w' w2 : World} {B g b q md a f : Nat} {lv ov sv tv : Value} {ts : List Lx.Tok} {hs ps : List HA} {cs : List SA} {top : List Nat}
/-- The cells of the innermost half. -/
theorem PX.last {x : HA} {og cap : Nat} (h : PX w B g b q lv (.slice (some ⟨og, 0, none⟩) (hs.length + 1) cap) sv tv md a f ts (hs ++ [x]) ps cs top) : ∀ i u, (hCells x)[i]? = some u → w.cell? ⟨og, hs.length * 9 + i, none⟩ = some u ∧ w.frozen? ⟨og, hs.length * 9 + i, none⟩ = false := by
  intro i u hu
  have ho := h.op
  rw [List.length_append] at ho
  have hi : i < 9 := (List.getElem?_eq_some_iff.1 hu).1
  exact ⟨own_cellN ho (hRow_at _ _ x (by simp) _ _ hu), (own_storeN ho (k := hs.length * 9 + i) (by show hs.length * 9 + i < (hs.length + 1) * 9; omega) u).1⟩
theorem PX.form {x : HA} (h : PX w B g b q lv ov sv tv md a f ts (hs ++ [x]) ps cs top) : ∃ og cap, ov = .slice (some ⟨og, 0, none⟩) (hs.length + 1) cap ∧ hs.length + 1 ≤ cap ∧ cap ≤ maxLen := by
  rcases h.op.2 with ⟨_, e⟩ | ⟨og, cap, cur, e, _, _, h2, h3, _⟩
  · simp at e
  · exact ⟨og, cap, by rw [e, List.length_append]; rfl, by simpa using h2, h3⟩
theorem PX.rb_grown {i : Ix} {v : Value} (h : PX w B g b q lv ov sv tv md a f ts hs ps cs top) (hg : w.grownBy w2 v.ownBlock) (hi : bAt g b q ov sv tv (hs ++ ps) i = v.ownBlock) (hne : i ≠ .g) : RB w2 g lv ov md sv tv a f :=
  h.rb.same (hg.block g h.rb.lt (fun e => hne (h.nd i .g g (hi.trans e.symm) rfl)))
theorem PX.last_grown {x : HA} {og cap : Nat} {i : Ix} {v : Value} (h : PX w B g b q lv (.slice (some ⟨og, 0, none⟩) (hs.length + 1) cap) sv tv md a f ts (hs ++ [x]) ps cs top) (hg : w.grownBy w2 v.ownBlock) (hi : bAt g b q (.slice (some ⟨og, 0, none⟩) (hs.length + 1) cap) sv tv (hs ++ [x] ++ ps) i = v.ownBlock) (hne : i ≠ .o) : ∀ j u, (hCells x)[j]? = some u → w2.cell? ⟨og, hs.length * 9 + j, none⟩ = some u ∧ w2.frozen? ⟨og, hs.length * 9 + j, none⟩ = false := by
  intro j u hu
  obtain ⟨h1, h2⟩ := h.last j u hu
  have hb := hg.block og (h.lt .o og rfl).2 (fun e => hne (h.nd i .o og (hi.trans e.symm) rfl))
  exact ⟨(World.cell?_of_block (a := ⟨og, hs.length * 9 + j, none⟩) hb).trans h1, (World.frozen?_of_block (a := ⟨og, hs.length * 9 + j, none⟩) hb).trans h2⟩
theorem al_mid (a0 c : List HA) (x y : HA) (i : Nat) : (a0 ++ [y] ++ c)[i]? = if i = a0.length then some y else (a0 ++ [x] ++ c)[i]? := by
  split
  · next e => subst e; simp
  · next e =>
    rw [List.append_assoc, List.append_assoc]
    rcases Nat.lt_or_ge i a0.length with h | h
    · rw [List.getElem?_append_left h, List.getElem?_append_left h]
    · rw [List.getElem?_append_right h, List.getElem?_append_right h]
      obtain ⟨j, hj⟩ : ∃ j, i - a0.length = j + 1 := ⟨i - a0.length - 1, by omega⟩
      rw [hj]
      rfl
/-- Into its row of places within. -/
theorem PX.growL {v' : Value} {n g' og cap : Nat} {x : HA} (h : PX w B g b q lv (.slice (some ⟨og, 0, none⟩) (hs.length + 1) cap) sv tv md a f ts (hs ++ [x]) ps cs top) (hg : w.grownBy w2 x.l.ownBlock) (hI : IR w2 B 3 v' (x.st.l ++ [n])) (hv' : v'.ownBlock = some g') (hgg : x.l.ownBlock = some g' ∨ g' = w.heap.size) :
    PX (w2.setCell ⟨og, hs.length * 9 + 6, none⟩ v') B g b q lv (.slice (some ⟨og, 0, none⟩) (hs.length + 1) cap) sv tv md a f ts (hs ++ [⟨{ x.st with l := x.st.l ++ [n] }, v', x.m, x.els⟩]) ps cs top ∧ Below B w (w2.setCell ⟨og, hs.length * 9 + 6, none⟩ v') := by
  obtain ⟨y, hy⟩ : ∃ y : HA, y = ⟨{ x.st with l := x.st.l ++ [n] }, v', x.m, x.els⟩ := ⟨_, rfl⟩
  rw [← hy]
  obtain ⟨ov, hov⟩ : ∃ ov, ov = Value.slice (some ⟨og, 0, none⟩) (hs.length + 1) cap := ⟨_, rfl⟩
  have hob : ov.ownBlock = some og := by rw [hov]; rfl
  have hlast := h.last
  rw [← hov] at h ⊢
  have hxn : (hs ++ [x] ++ ps)[hs.length]? = some x := by simp
  have hmid := al_mid hs ps x y
  have hix : bAt g b q ov sv tv (hs ++ [x] ++ ps) (.l hs.length) = x.l.ownBlock := by simp only [bAt]; rw [hxn]; rfl
  have t2 : Trn (FX (bAt g b q ov sv tv (hs ++ [x] ++ ps)) (fun i => i = .o ∨ i = .l hs.length)) w w2 := Trn.of_grown hg (fun k hk => ⟨.l hs.length, .inr rfl, hix.trans hk⟩)
  have t3 : Trn (FX (bAt g b q ov sv tv (hs ++ [x] ++ ps)) (fun i => i = .o ∨ i = .l hs.length)) w (w2.setCell ⟨og, hs.length * 9 + 6, none⟩ v') := t2.setCell ⟨.o, .inl rfl, hob⟩ _
  have hat : ∀ i k, bAt g b q ov sv tv (hs ++ [y] ++ ps) i = some k → (i = .l hs.length ∧ k = g') ∨ bAt g b q ov sv tv (hs ++ [x] ++ ps) i = some k ∧ i ≠ .l hs.length := by
    intro i k hk
    cases i with
    | g => exact .inr ⟨hk, by simp⟩
    | b => exact .inr ⟨hk, by simp⟩
    | q => exact .inr ⟨hk, by simp⟩
    | o => exact .inr ⟨hk, by simp⟩
    | s => exact .inr ⟨hk, by simp⟩
    | t => exact .inr ⟨hk, by simp⟩
    | l i =>
      simp only [bAt] at hk ⊢
      rw [hmid] at hk
      by_cases e : i = hs.length
      · rw [if_pos e] at hk
        refine .inl ⟨by rw [e], ?_⟩
        have hk : y.l.ownBlock = some k := hk
        rw [show y.l = v' by rw [hy]] at hk
        rw [hv'] at hk
        cases hk; rfl
      · rw [if_neg e] at hk
        exact .inr ⟨hk, by simpa using e⟩
    | m i =>
      simp only [bAt] at hk ⊢
      rw [hmid] at hk
      refine .inr ⟨?_, by simp⟩
      by_cases e : i = hs.length
      · rw [if_pos e] at hk
        have hk : y.m.ownBlock = some k := hk
        rw [show y.m = x.m by rw [hy]] at hk
        rw [e, hxn]
        exact hk
      · rw [if_neg e] at hk
        exact hk
  have hlt : ∀ i k, bAt g b q ov sv tv (hs ++ [x] ++ ps) i = some k → k < w.heap.size := fun i k e => (h.lt i k e).2
  have hgt : g' ≠ og := by
    rcases hgg with e | e
    · intro e2; subst e2; exact absurd (h.nd (.l hs.length) .o _ (hix.trans e) hob) (by simp)
    · have := hlt .o og hob; omega
  have hfar : ∀ i k, bAt g b q ov sv tv (hs ++ [y] ++ ps) i = some k → bAt g b q ov sv tv (hs ++ [x] ++ ps) i = some k ∨ w.heap.size ≤ k := by
    intro i k e
    rcases hat i k e with ⟨rfl, rfl⟩ | e
    · exact hgg.imp (fun e => hix.trans e) (fun e => by omega)
    · exact .inl e.1
  have hop2 : w2.ownsRow B 74 9 ov (hs ++ [x]).length (hRow (hs ++ [x])) := World.ownsRow.kept h.op hg (.inr (fun e => by
    rw [hob] at e
    exact absurd (h.nd .o (.l hs.length) og hob (hix.trans e.symm)) (by simp)))
  refine ⟨⟨h.rb.trn t3 (h.nd.far (i := .g) rfl (by simp)), h.tr.trn t3 (h.nd.far (i := .b) rfl (by simp)), Nat.lt_of_lt_of_le h.blt t3.size, h.q9_trn t3 (by simp), ?_, own_trn h.os t3 (fun k hk => h.nd.far (i := .s) hk (by simp)), own_trn h.tp t3 (fun k hk => h.nd.far (i := .t) hk (by simp)), fun z hz => ?_, fun c hc => ⟨(h.cl c hc).1.trn t3 hfar, (h.cl c hc).2.trn t3 hfar⟩, h.nd.grown (x := .l hs.length) (g := g') hlt (hgg.imp (fun e => hix.trans e) id) hat, h.gB, h.bB, h.qB⟩, h.base t3 h.bsz⟩
  · rw [hov] at hop2 ⊢
    rw [List.length_append] at hop2 ⊢
    have := (own_storeN hop2 (k := hs.length * 9 + 6) (by show hs.length * 9 + 6 < (hs.length + 1) * 9; omega) v').2.2
    rw [hRow_app, List.set_append_right _ _ (by rw [hRow_len]; omega), hRow_len, Nat.add_sub_cancel_left] at this
    rw [hRow_app, hy]
    exact this
  · obtain ⟨i, hi⟩ := List.getElem?_of_mem hz
    rw [hmid] at hi
    by_cases e : i = hs.length
    · rw [if_pos e] at hi
      cases hi
      obtain ⟨i1, i2⟩ := h.hl x (by simp)
      have hnew : IR (w2.setCell ⟨og, hs.length * 9 + 6, none⟩ v') B 3 v' (x.st.l ++ [n]) := own_trn (F := only og) hI (Trn.setCell (F := only og) (Trn.refl _ _) (show og = og from rfl) _) (fun k hk e => by rw [hv'] at hk; cases hk; exact hgt e)
      have hold : IR (w2.setCell ⟨og, hs.length * 9 + 6, none⟩ v') B 3 x.m x.st.m := own_trn i2 t3 (fun k hk => h.nd.far (i := .m hs.length) (by simp only [bAt]; rw [hxn]; exact hk) (by simp))
      rw [hy]
      exact ⟨hnew, hold⟩
    · rw [if_neg e] at hi
      by_cases e2 : True
      · obtain ⟨i1, i2⟩ := h.hl z (List.mem_of_getElem? hi)
        exact ⟨own_trn i1 t3 (fun k hk => h.nd.far (i := .l i) (by simp only [bAt]; rw [hi]; exact hk) (by simp [e])), own_trn i2 t3 (fun k hk => h.nd.far (i := .m i) (by simp only [bAt]; rw [hi]; exact hk) (by simp))⟩
      · exact absurd trivial e2
/-- Into its row of places behind its else. -/
theorem PX.growM {v' : Value} {n g' og cap : Nat} {x : HA} (h : PX w B g b q lv (.slice (some ⟨og, 0, none⟩) (hs.length + 1) cap) sv tv md a f ts (hs ++ [x]) ps cs top) (hg : w.grownBy w2 x.m.ownBlock) (hI : IR w2 B 3 v' (x.st.m ++ [n])) (hv' : v'.ownBlock = some g') (hgg : x.m.ownBlock = some g' ∨ g' = w.heap.size) :
    PX (w2.setCell ⟨og, hs.length * 9 + 7, none⟩ v') B g b q lv (.slice (some ⟨og, 0, none⟩) (hs.length + 1) cap) sv tv md a f ts (hs ++ [⟨{ x.st with m := x.st.m ++ [n] }, x.l, v', x.els⟩]) ps cs top ∧ Below B w (w2.setCell ⟨og, hs.length * 9 + 7, none⟩ v') := by
  obtain ⟨y, hy⟩ : ∃ y : HA, y = ⟨{ x.st with m := x.st.m ++ [n] }, x.l, v', x.els⟩ := ⟨_, rfl⟩
  rw [← hy]
  obtain ⟨ov, hov⟩ : ∃ ov, ov = Value.slice (some ⟨og, 0, none⟩) (hs.length + 1) cap := ⟨_, rfl⟩
  have hob : ov.ownBlock = some og := by rw [hov]; rfl
  have hlast := h.last
  rw [← hov] at h ⊢
  have hxn : (hs ++ [x] ++ ps)[hs.length]? = some x := by simp
  have hmid := al_mid hs ps x y
  have hix : bAt g b q ov sv tv (hs ++ [x] ++ ps) (.m hs.length) = x.m.ownBlock := by simp only [bAt]; rw [hxn]; rfl
  have t2 : Trn (FX (bAt g b q ov sv tv (hs ++ [x] ++ ps)) (fun i => i = .o ∨ i = .m hs.length)) w w2 := Trn.of_grown hg (fun k hk => ⟨.m hs.length, .inr rfl, hix.trans hk⟩)
  have t3 : Trn (FX (bAt g b q ov sv tv (hs ++ [x] ++ ps)) (fun i => i = .o ∨ i = .m hs.length)) w (w2.setCell ⟨og, hs.length * 9 + 7, none⟩ v') := t2.setCell ⟨.o, .inl rfl, hob⟩ _
  have hat : ∀ i k, bAt g b q ov sv tv (hs ++ [y] ++ ps) i = some k → (i = .m hs.length ∧ k = g') ∨ bAt g b q ov sv tv (hs ++ [x] ++ ps) i = some k ∧ i ≠ .m hs.length := by
    intro i k hk
    cases i with
    | g => exact .inr ⟨hk, by simp⟩
    | b => exact .inr ⟨hk, by simp⟩
    | q => exact .inr ⟨hk, by simp⟩
    | o => exact .inr ⟨hk, by simp⟩
    | s => exact .inr ⟨hk, by simp⟩
    | t => exact .inr ⟨hk, by simp⟩
    | m i =>
      simp only [bAt] at hk ⊢
      rw [hmid] at hk
      by_cases e : i = hs.length
      · rw [if_pos e] at hk
        refine .inl ⟨by rw [e], ?_⟩
        have hk : y.m.ownBlock = some k := hk
        rw [show y.m = v' by rw [hy]] at hk
        rw [hv'] at hk
        cases hk; rfl
      · rw [if_neg e] at hk
        exact .inr ⟨hk, by simpa using e⟩
    | l i =>
      simp only [bAt] at hk ⊢
      rw [hmid] at hk
      refine .inr ⟨?_, by simp⟩
      by_cases e : i = hs.length
      · rw [if_pos e] at hk
        have hk : y.l.ownBlock = some k := hk
        rw [show y.l = x.l by rw [hy]] at hk
        rw [e, hxn]
        exact hk
      · rw [if_neg e] at hk
        exact hk
  have hlt : ∀ i k, bAt g b q ov sv tv (hs ++ [x] ++ ps) i = some k → k < w.heap.size := fun i k e => (h.lt i k e).2
  have hgt : g' ≠ og := by
    rcases hgg with e | e
    · intro e2; subst e2; exact absurd (h.nd (.m hs.length) .o _ (hix.trans e) hob) (by simp)
    · have := hlt .o og hob; omega
  have hfar : ∀ i k, bAt g b q ov sv tv (hs ++ [y] ++ ps) i = some k → bAt g b q ov sv tv (hs ++ [x] ++ ps) i = some k ∨ w.heap.size ≤ k := by
    intro i k e
    rcases hat i k e with ⟨rfl, rfl⟩ | e
    · exact hgg.imp (fun e => hix.trans e) (fun e => by omega)
    · exact .inl e.1
  have hop2 : w2.ownsRow B 74 9 ov (hs ++ [x]).length (hRow (hs ++ [x])) := World.ownsRow.kept h.op hg (.inr (fun e => by
    rw [hob] at e
    exact absurd (h.nd .o (.m hs.length) og hob (hix.trans e.symm)) (by simp)))
  refine ⟨⟨h.rb.trn t3 (h.nd.far (i := .g) rfl (by simp)), h.tr.trn t3 (h.nd.far (i := .b) rfl (by simp)), Nat.lt_of_lt_of_le h.blt t3.size, h.q9_trn t3 (by simp), ?_, own_trn h.os t3 (fun k hk => h.nd.far (i := .s) hk (by simp)), own_trn h.tp t3 (fun k hk => h.nd.far (i := .t) hk (by simp)), fun z hz => ?_, fun c hc => ⟨(h.cl c hc).1.trn t3 hfar, (h.cl c hc).2.trn t3 hfar⟩, h.nd.grown (x := .m hs.length) (g := g') hlt (hgg.imp (fun e => hix.trans e) id) hat, h.gB, h.bB, h.qB⟩, h.base t3 h.bsz⟩
  · rw [hov] at hop2 ⊢
    rw [List.length_append] at hop2 ⊢
    have := (own_storeN hop2 (k := hs.length * 9 + 7) (by show hs.length * 9 + 7 < (hs.length + 1) * 9; omega) v').2.2
    rw [hRow_app, List.set_append_right _ _ (by rw [hRow_len]; omega), hRow_len, Nat.add_sub_cancel_left] at this
    rw [hRow_app, hy]
    exact this
  · obtain ⟨i, hi⟩ := List.getElem?_of_mem hz
    rw [hmid] at hi
    by_cases e : i = hs.length
    · rw [if_pos e] at hi
      cases hi
      obtain ⟨i1, i2⟩ := h.hl x (by simp)
      have hnew : IR (w2.setCell ⟨og, hs.length * 9 + 7, none⟩ v') B 3 v' (x.st.m ++ [n]) := own_trn (F := only og) hI (Trn.setCell (F := only og) (Trn.refl _ _) (show og = og from rfl) _) (fun k hk e => by rw [hv'] at hk; cases hk; exact hgt e)
      have hold : IR (w2.setCell ⟨og, hs.length * 9 + 7, none⟩ v') B 3 x.l x.st.l := own_trn i1 t3 (fun k hk => h.nd.far (i := .l hs.length) (by simp only [bAt]; rw [hxn]; exact hk) (by simp))
      rw [hy]
      exact ⟨hold, hnew⟩
    · rw [if_neg e] at hi
      by_cases e2 : True
      · obtain ⟨i1, i2⟩ := h.hl z (List.mem_of_getElem? hi)
        exact ⟨own_trn i1 t3 (fun k hk => h.nd.far (i := .l i) (by simp only [bAt]; rw [hi]; exact hk) (by simp)), own_trn i2 t3 (fun k hk => h.nd.far (i := .m i) (by simp only [bAt]; rw [hi]; exact hk) (by simp [e]))⟩
      · exact absurd trivial e2
end
end Go.Proofs.YtiikionoagmabaaDoor

/- Several cells of a block stored, one by one; of no type of the program. -/
namespace Go.Proofs.YtiikionoagmabaaDoor
open Go.RowKit

def setN (w : World) (q : Nat) : Nat → List Value → World
  | _, [] => w
  | i, v :: vs => setN (w.setCell ⟨q, i, none⟩ v) q (i + 1) vs
theorem setN_trn {F : Nat → Prop} {q : Nat} (hq : F q) : ∀ (vs : List Value) (i : Nat) {w w' : World}, Trn F w w' → Trn F w (setN w' q i vs)
  | [], _, _, _, h => h
  | v :: vs, i, _, _, h => setN_trn hq vs (i + 1) (h.setCell hq v)
theorem setN_other {q k : Nat} (hk : k ≠ q) : ∀ (vs : List Value) (i : Nat) {w : World}, (setN w q i vs).heap[k]? = w.heap[k]?
  | [], _, _ => rfl
  | _ :: vs, i, _ => (setN_other hk vs (i + 1)).trans (Below.heap_setCell _ _ _ _ hk)
theorem setN_heap {q : Nat} {t : TypeId} : ∀ (vs pre C : List Value) (w : World), w.heap[q]? = some (.cells (pre ++ C).toArray t (0, 0)) → C.length = vs.length → (setN w q pre.length vs).heap[q]? = some (.cells (pre ++ vs).toArray t (0, 0))
  | [], pre, C, w, h, hl => by
    obtain rfl : C = [] := List.length_eq_zero_iff.1 hl
    exact h
  | v :: vs, pre, C, w, h, hl => by
    cases C with
    | nil => simp at hl
    | cons c C =>
      have h2 := setCell_row (i := pre.length) (u := v) h
      rw [List.setIfInBounds_toArray, List.set_append_right _ _ (Nat.le_refl _), Nat.sub_self, List.set_cons_zero, show pre ++ v :: C = (pre ++ [v]) ++ C by simp] at h2
      have := setN_heap vs (pre ++ [v]) C _ h2 (by simpa using hl)
      rw [List.length_append] at this
      rw [show pre ++ v :: vs = (pre ++ [v]) ++ vs by simp]
      exact this
end Go.Proofs.YtiikionoagmabaaDoor

/- parse's pop walked (layer 15). -/
namespace Go.Proofs.YtiikionoagmabaaDoor
open Go.RowKit

theorem IR.form3 {w : World} {B : Nat} {e : TypeId} {v : Value} {xs : List Nat} (h : IR w B e v xs) : ∃ ao n cap, v = .slice ao n cap := by
  obtain ⟨ao, cap, e⟩ := h.form
  exact ⟨ao, _, cap, e⟩
/-- A half in a block of its own. -/
def H9 (w : World) (q : Nat) (vs : List Value) : Prop := w.heap[q]? = some (.cells vs.toArray 74 (0, 0))
theorem H9.set {w : World} {q : Nat} {vs us : List Value} (h : H9 w q us) (hl : us.length = vs.length) : H9 (setN w q 0 vs) q vs := setN_heap vs [] us w h hl
theorem H9.cell {w : World} {q : Nat} {vs : List Value} (h : H9 w q vs) {i : Nat} {u : Value} (hu : vs[i]? = some u) : w.cell? ⟨q, i, none⟩ = some u := by
  unfold H9 at h
  rw [cell_of_row _ _ _ _ _ _ h]
  simpa using hu
theorem H9.fr {w : World} {q : Nat} {vs : List Value} (h : H9 w q vs) (i : Nat) : w.frozen? ⟨q, i, none⟩ = false := by unfold H9 at h; simp [World.frozen?, h]
theorem H9.lt {w : World} {q : Nat} {vs : List Value} (h : H9 w q vs) : q < w.heap.size := (Array.getElem?_eq_some_iff.1 h).1
theorem H9.same {w w' : World} {q : Nat} {vs : List Value} (h : H9 w q vs) (e : w'.heap[q]? = w.heap[q]?) : H9 w' q vs := e.trans h
theorem H9.trn {F : Nat → Prop} {w w' : World} {q : Nat} {vs : List Value} (h : H9 w q vs) (ht : Trn F w w') (hF : ¬ F q) : H9 w' q vs := h.same (ht.block _ h.lt hF)
def hagg (x : HA) : Value := .agg (hCells x).toArray

set_option maxRecDepth 20000 in
set_option maxHeartbeats 4000000 in
theorem pop_any {B g b q md a f : Nat} {lv ov sv' tv : Value} {ts : List Lx.Tok} {hs : List HA} {cs : List SA} {top : List Nat} (x : HA) (w : World) (h : PX w B g b q lv ov sv' tv md a f ts (hs ++ [x]) [] cs top) (hn : hs.length ≤ 1048576) :
    Calls Tryd.prog 43 #[.pointer (some ⟨g, 0, none⟩)] w fun e w' => e = .returned (hagg x) ∧ ∃ ov', PX w' B g b q lv ov' sv' tv md a f ts hs [x] cs top ∧ Trn (only g) w w' ∧ Below B w w' := by
  obtain ⟨og, cap, rfl, hc1, hc2⟩ := h.form
  obtain ⟨N, hN⟩ : ∃ N, hs.length = N := ⟨_, rfl⟩
  have hlast := h.last
  have hPX := h
  rw [hN] at h hn hc1 hlast
  have HH := Lib.hid hPX
  have HN := Lib.hid hN
  obtain ⟨st, lv1, mv1, els⟩ := x
  obtain ⟨i1, i2⟩ := HH.out.hl ⟨st, lv1, mv1, els⟩ (by simp)
  obtain ⟨la, ll, lc, hl1⟩ := i1.form3
  obtain ⟨ma, ml, mc, hm1⟩ := i2.form3
  dsimp only at hl1 hm1
  subst hl1 hm1
  clear i1 i2
  obtain ⟨k, s, t, u, n, p, pl, pm⟩ := st
  obtain ⟨T, hT⟩ : ∃ T, w.alloc (.cells #[.int .i64 0, .string ⟨#[]⟩, .string ⟨#[]⟩, .string ⟨#[]⟩, .int .i64 0, .int .i64 0, .slice none 0 0, .slice none 0 0, .bool false] 74) = T := ⟨_, rfl⟩
  have hz : H9 T w.heap.size [.int .i64 0, .string ⟨#[]⟩, .string ⟨#[]⟩, .string ⟨#[]⟩, .int .i64 0, .int .i64 0, .slice none 0 0, .slice none 0 0, .bool false] := by rw [← hT]; exact heap_alloc_new _ _
  have hbT : Below w.heap.size w T := by rw [← hT]; exact (Below.refl _ _).alloc (Nat.le_refl _) _
  have hsz : T.heap.size = w.heap.size + 1 := by rw [← hT]; simp
  have hxc : ∀ i v, (hCells ⟨⟨k, s, t, u, n, p, pl, pm⟩, .slice la ll lc, .slice ma ml mc, els⟩)[i]? = some v → T.cell? ⟨og, N * 9 + i, none⟩ = some v := fun i v hv => (hbT.cell (World.block_lt_of_cell? w _ (hlast i v hv).1)).trans (hlast i v hv).1
  have o0 := hxc 0 _ rfl
  have o1 := hxc 1 _ rfl
  have o2 := hxc 2 _ rfl
  have o3 := hxc 3 _ rfl
  have o4 := hxc 4 _ rfl
  have o5 := hxc 5 _ rfl
  have o6 := hxc 6 _ rfl
  have o7 := hxc 7 _ rfl
  have o8 := hxc 8 _ rfl
  have gT := (h.rb.below hbT).c1
  obtain ⟨T2, hT2⟩ : ∃ T2, T.alloc (.cells #[.int .i64 (k : Int), .string ⟨s.toArray⟩, .string ⟨t.toArray⟩, .string ⟨u.toArray⟩, .int .i64 (n : Int), .int .i64 (p : Int), .slice la ll lc, .slice ma ml mc, .bool els] 74) = T2 := ⟨_, rfl⟩
  have hy : H9 T2 (w.heap.size + 1) [.int .i64 (k : Int), .string ⟨s.toArray⟩, .string ⟨t.toArray⟩, .string ⟨u.toArray⟩, .int .i64 (n : Int), .int .i64 (p : Int), .slice la ll lc, .slice ma ml mc, .bool els] := by rw [← hT2, ← hsz]; exact heap_alloc_new _ _
  have hbT2 : Below w.heap.size w T2 := by rw [← hT2]; exact hbT.alloc hbT.size _
  have hz2 : H9 T2 w.heap.size [.int .i64 0, .string ⟨#[]⟩, .string ⟨#[]⟩, .string ⟨#[]⟩, .int .i64 0, .int .i64 0, .slice none 0 0, .slice none 0 0, .bool false] := by rw [← hT2]; exact hz.same (Below.heap_alloc _ _ _ hz.lt)
  have hr2 := h.rb.below hbT2
  have g1 := hr2.c1
  have gf := hr2.fr 1
  obtain ⟨T3, hT3⟩ : ∃ T3, T2.setCell ⟨g, 1, none⟩ (.slice (some ⟨og, 0, none⟩) N cap) = T3 := ⟨_, rfl⟩
  have hgl := h.rb.lt
  have hr3 : RB T3 g lv (.slice (some ⟨og, 0, none⟩) N cap) md sv' tv a f := by rw [← hT3]; exact hr2.set1 _
  have ht3 : Trn (only g) T2 T3 := by rw [← hT3]; exact Trn.setCell (F := only g) (Trn.refl _ _) (show g = g from rfl) _
  have hy3 := hy.trn ht3 (show ¬ (w.heap.size + 1 = g) by omega)
  have hz3 := hz2.trn ht3 (show ¬ (w.heap.size = g) by omega)
  have htw : Trn (only g) w T3 := (Trn.of_below hbT2).then ht3
  have y0 := hy3.cell (i := 0) rfl
  have y1 := hy3.cell (i := 1) rfl
  have y2 := hy3.cell (i := 2) rfl
  have y3 := hy3.cell (i := 3) rfl
  have y4 := hy3.cell (i := 4) rfl
  have y5 := hy3.cell (i := 5) rfl
  have y6 := hy3.cell (i := 6) rfl
  have y7 := hy3.cell (i := 7) rfl
  have y8 := hy3.cell (i := 8) rfl
  have z0 := hz3.cell (i := 0) rfl
  have z1 := hz3.cell (i := 1) rfl
  have z2 := hz3.cell (i := 2) rfl
  have z3 := hz3.cell (i := 3) rfl
  have z4 := hz3.cell (i := 4) rfl
  have z5 := hz3.cell (i := 5) rfl
  have z6 := hz3.cell (i := 6) rfl
  have z7 := hz3.cell (i := 7) rfl
  have z8 := hz3.cell (i := 8) rfl
  have zf0 := hz3.fr 0
  have zf1 := hz3.fr 1
  have zf2 := hz3.fr 2
  have zf3 := hz3.fr 3
  have zf4 := hz3.fr 4
  have zf5 := hz3.fr 5
  have zf6 := hz3.fr 6
  have zf7 := hz3.fr 7
  have zf8 := hz3.fr 8
  have n1 : ((N + 1 : Nat) : Int) - 1 = (N : Int) := by omega
  have n2 : (N : Int) ≤ (cap : Int) := by omega
  have n3 : (N : Int) < ((N + 1 : Nat) : Int) := by omega
  have hset := hz3.set (vs := [.int .i64 (k : Int), .string ⟨s.toArray⟩, .string ⟨t.toArray⟩, .string ⟨u.toArray⟩, .int .i64 (n : Int), .int .i64 (p : Int), .slice la ll lc, .slice ma ml mc, .bool els]) rfl
  have hsetT : Trn (fun k => k = g ∨ w.heap.size ≤ k) w (setN T3 w.heap.size 0 [.int .i64 (k : Int), .string ⟨s.toArray⟩, .string ⟨t.toArray⟩, .string ⟨u.toArray⟩, .int .i64 (n : Int), .int .i64 (p : Int), .slice la ll lc, .slice ma ml mc, .bool els]) := setN_trn (.inr (Nat.le_refl _)) _ _ (htw.more (fun k hk => .inl hk))
  have HS := Lib.hid hset
  have HST := Lib.hid hsetT
  have HR3 := Lib.hid hr3
  rw [Nat.add_zero] at o0
  clear hxc hz hz2 hz3 hy hy3 hbT hbT2 h hPX hN hlast hr2 hr3 ht3 htw hset hsetT
  go_enter Tryd.func43, Tryd.ntmps43
  go_wp2
  change bodyPost _ _ _ _ _ (setN T3 w.heap.size 0 [.int .i64 (k : Int), .string ⟨s.toArray⟩, .string ⟨t.toArray⟩, .string ⟨u.toArray⟩, .int .i64 (n : Int), .int .i64 (p : Int), .slice la ll lc, .slice ma ml mc, .bool els])
  have hs := HS.out
  have ht := HST.out
  have hr := HR3.out.same (w' := setN T3 w.heap.size 0 [.int .i64 (k : Int), .string ⟨s.toArray⟩, .string ⟨t.toArray⟩, .string ⟨u.toArray⟩, .int .i64 (n : Int), .int .i64 (p : Int), .slice la ll lc, .slice ma ml mc, .bool els]) (setN_other (by omega) _ _)
  generalize setN T3 w.heap.size 0 [.int .i64 (k : Int), .string ⟨s.toArray⟩, .string ⟨t.toArray⟩, .string ⟨u.toArray⟩, .int .i64 (n : Int), .int .i64 (p : Int), .slice la ll lc, .slice ma ml mc, .bool els] = W at hs ht hr ⊢
  have r0 := hs.cell (i := 0) rfl
  have r1 := hs.cell (i := 1) rfl
  have r2 := hs.cell (i := 2) rfl
  have r3 := hs.cell (i := 3) rfl
  have r4 := hs.cell (i := 4) rfl
  have r5 := hs.cell (i := 5) rfl
  have r6 := hs.cell (i := 6) rfl
  have r7 := hs.cell (i := 7) rfl
  have r8 := hs.cell (i := 8) rfl
  have htw : Trn (only g) w W := ⟨ht.os, ht.tape, ht.output, ht.size, fun j hj hF => ht.block j hj (fun e => e.elim hF (fun e => by omega))⟩
  rw [← HN.out] at hr
  obtain ⟨q1, q2⟩ := HH.out.pop htw hr
  refine bodyPost_ret (v := .agg #[.int .i64 (k : Int), .string ⟨s.toArray⟩, .string ⟨t.toArray⟩, .string ⟨u.toArray⟩, .int .i64 (n : Int), .int .i64 (p : Int), .slice la ll lc, .slice ma ml mc, .bool els]) (by simp [results, Tryd.results43, go_sem, r0, r1, r2, r3, r4, r5, r6, r7, r8]) rfl ⟨rfl, ⟨_, q1⟩, htw, q2⟩
end Go.Proofs.YtiikionoagmabaaDoor

/- A region that draws its order, walked step by step: what yields in every world of a class is taken; what alone may come up comes up. (The steps are laid by wip/tools/genreg.py.) -/
namespace Go.Proofs.YtiikionoagmabaaDoor
open Go.RowKit
section
variable {P : Program} {ops : Array Oper} {Q : Exit → Act → World → Prop} {md : Region.Mode} {S : World → Prop}

theorem heldAt {i : Nat} {oi : Oper} {r : List Oper} (hi : ops.toList.drop i = oi :: r) : ops[i]? = some oi := by
  have h0 : ops.toList[i]? = some oi := by
    have := congrArg List.head? hi
    rwa [List.head?_drop, List.head?_cons] at this
  rwa [Array.getElem?_toList] at h0

theorem heldTake {i : Nat} {oi : Oper} {r : List Oper} {v : Value} {fuel : Nat} {listed : Array Bool} {a : Act} {w : World} (hi : ops.toList.drop i = oi :: r)
    (hs : Region.noSelect ops = true) (hf : (Region.free md ops listed i && (Region.ready md ops listed).contains i) = true)
    (hQ : ∀ c a w, Q (.panic c) (a.put oi.dst v) w → Q (.panic c) a w) (hw : Region.wanted oi (yielded ops a.tmps) = true) (hS : S w)
    (hy : ∀ w : World, S w → (execOp a.eval oi).run P w = .ok (.value v) w)
    (h : wpAnyH P md ops Q S fuel (listed.setIfInBounds i true) (a.put oi.dst v) w) : wpAnyH P md ops Q S (fuel + 1) listed a w := by
  rw [Bool.and_eq_true] at hf
  exact wpAnyH_take (heldAt hi) hs hf.1 hf.2 hQ (.inl ⟨hw, hy⟩) hS h

theorem heldSkip {i : Nat} {oi : Oper} {r : List Oper} {fuel : Nat} {listed : Array Bool} {a : Act} {w : World} (hi : ops.toList.drop i = oi :: r)
    (hs : Region.noSelect ops = true) (hf : (Region.free md ops listed i && (Region.ready md ops listed).contains i) = true)
    (hQ : ∀ c a w, Q (.panic c) (a.put oi.dst undef) w → Q (.panic c) a w) (hw : Region.wanted oi (yielded ops a.tmps) = false) (hS : S w)
    (h : wpAnyH P md ops Q S fuel (listed.setIfInBounds i true) (a.put oi.dst undef) w) : wpAnyH P md ops Q S (fuel + 1) listed a w := by
  rw [Bool.and_eq_true] at hf
  exact wpAnyH_take (heldAt hi) hs hf.1 hf.2 hQ (.inr ⟨hw, rfl⟩) hS h

theorem heldNext {i : Nat} {oi : Oper} {r : List Oper} {fuel : Nat} {listed : Array Bool} {a : Act} {w : World} (hi : ops.toList.drop i = oi :: r)
    (hr : Region.ready md ops listed = [i]) (hw : Region.wanted oi (yielded ops a.tmps) = true)
    (h : ∀ K : Act → World → Prop, Hid (∀ a w, S w → wpAnyH P md ops Q S fuel (listed.setIfInBounds i true) a w → K a w) → Oper.wp P oi a w K Q) : wpAnyH P md ops Q S (fuel + 1) listed a w := by
  refine wpAnyH_ready hr (by simp) (AllReadyH.cons (heldAt hi) (fun K hK => ?_) AllReadyH.nil)
  rw [if_pos hw]
  exact h K (show Hid _ from fun a w hS hW => hK.out a w hS (fun _ => hW))

/-- Two may come up: each is walked, and what is behind it. -/
theorem heldTwo {i j : Nat} {oi oj : Oper} {r r' : List Oper} {fuel : Nat} {listed : Array Bool} {a : Act} {w : World} (hi : ops.toList.drop i = oi :: r) (hj : ops.toList.drop j = oj :: r')
    (hr : Region.ready md ops listed = [i, j]) (hwi : Region.wanted oi (yielded ops a.tmps) = true) (hwj : Region.wanted oj (yielded ops a.tmps) = true)
    (h : ∀ K : Act → World → Prop, Hid (∀ a w, S w → wpAnyH P md ops Q S fuel (listed.setIfInBounds i true) a w → K a w) → Oper.wp P oi a w K Q)
    (h' : ∀ K : Act → World → Prop, Hid (∀ a w, S w → wpAnyH P md ops Q S fuel (listed.setIfInBounds j true) a w → K a w) → Oper.wp P oj a w K Q) : wpAnyH P md ops Q S (fuel + 1) listed a w := by
  refine wpAnyH_ready hr (by simp) (AllReadyH.cons (heldAt hi) (fun K hK => ?_) (AllReadyH.cons (heldAt hj) (fun K hK => ?_) AllReadyH.nil))
  · rw [if_pos hwi]
    exact h K (show Hid _ from fun a w hS hW => hK.out a w hS (fun _ => hW))
  · rw [if_pos hwj]
    exact h' K (show Hid _ from fun a w hS hW => hK.out a w hS (fun _ => hW))

/-- The class may be made smaller on the way: by what a call has given. -/
theorem heldMore {S' : World → Prop} (hS : ∀ w, S' w → S w) : ∀ {fuel : Nat} {listed : Array Bool} {a : Act} {w : World}, wpAnyH P md ops Q S' fuel listed a w → wpAnyH P md ops Q S fuel listed a w
  | 0, _, _, _, h => h
  | _ + 1, _, _, _, h => ⟨h.1, fun i hi => wpOp_mono (fun _ _ h' => ⟨hS _ h'.1, heldMore hS h'.2⟩) (h.2 i hi)⟩
end
end Go.Proofs.YtiikionoagmabaaDoor
