/- unicode/utf8.DecodeRune laid: what it hands back of bytes, by the library's two tables. -/
import Derived.Test.YthfefbpfgepbjaaDoorRd
import Derived.Shelf.Spec.DecodeRune
namespace Go.Proofs.YthfefbpfgepbjaaDoor
open Go.RowKit Go.Shelf

def decRen : Go.Shelf.Ren := ⟨fun | 32 => 36 | 49 => 45 | n => n, fun | 0 => 0 | 3 => 3 | 4 => 4 | 5 => 5 | 21 => 21 | 25 => 67 | 30 => 22 | 33 => 62 | 66 => 75 | 68 => 77 | 69 => 78 | n => n, fun | 2 => 1 | 3 => 2 | n => n⟩
theorem decLays : Go.Proofs.Lays7.n32 Tryd.prog decRen := {
  mixed := by kernel_rfl
  f32 := Tryd.func36.trans (congrArg some (by kernel_rfl))
  f49 := Tryd.func45.trans (congrArg some (by kernel_rfl))
  t0 := Tryd.underlying0
  a0 := Tryd.isAgg0
  z0 := Tryd.sizeOf0
  v0 := Tryd.zeroValue0
  i0 := by kernel_rfl
  t3 := Tryd.underlying3
  a3 := Tryd.isAgg3
  z3 := Tryd.sizeOf3
  v3 := Tryd.zeroValue3
  i3 := by kernel_rfl
  t4 := Tryd.underlying4
  a4 := Tryd.isAgg4
  z4 := Tryd.sizeOf4
  v4 := Tryd.zeroValue4
  i4 := by kernel_rfl
  t5 := Tryd.underlying5
  a5 := Tryd.isAgg5
  z5 := Tryd.sizeOf5
  v5 := Tryd.zeroValue5
  i5 := by kernel_rfl
  t21 := Tryd.underlying21
  a21 := Tryd.isAgg21
  z21 := Tryd.sizeOf21
  v21 := Tryd.zeroValue21
  i21 := by kernel_rfl
  t25 := Tryd.underlying67
  a25 := Tryd.isAgg67
  z25 := Tryd.sizeOf67
  v25 := Tryd.zeroValue67
  i25 := by kernel_rfl
  t30 := Tryd.underlying22
  a30 := Tryd.isAgg22
  z30 := Tryd.sizeOf22
  v30 := Tryd.zeroValue22
  i30 := by kernel_rfl
  t33 := Tryd.underlying62
  a33 := Tryd.isAgg62
  z33 := Tryd.sizeOf62
  v33 := Tryd.zeroValue62
  i33 := by kernel_rfl
  t66 := Tryd.underlying75
  a66 := Tryd.isAgg75
  z66 := Tryd.sizeOf75
  t68 := Tryd.underlying77
  a68 := Tryd.isAgg77
  z68 := Tryd.sizeOf77
  v68 := Tryd.zeroValue77
  i68 := by kernel_rfl
  t69 := Tryd.underlying78
  a69 := Tryd.isAgg78
  z69 := Tryd.sizeOf78
  v69 := Tryd.zeroValue78
  i69 := by kernel_rfl
  g2 := by kernel_rfl
  g3 := by kernel_rfl }

/-- The library's two tables stand. -/
def U8 (w : World) : Prop := Lib.Utf8Tabs 1 2 w
theorem U8.keep {w w' : World} (h : U8 w) (hk : ∀ p v, w.cell? p = some v → (p.block = 1 ∨ p.block = 2) → w'.cell? p = some v) : U8 w' :=
  ⟨fun c hc => hk _ _ (h.1 c hc) (.inl rfl), fun i hi => ⟨hk _ _ (h.2 i hi).1 (.inr rfl), hk _ _ (h.2 i hi).2 (.inr rfl)⟩⟩
theorem U8.below {w w' : World} (h : U8 w) (hb : Below w.heap.size w w') : U8 w' := h.keep fun _ _ hp _ => (hb.cell (World.block_lt_of_cell? w _ hp)).trans hp

theorem decode_any (s : ByteArray) (b off cap : Nat) (w : World) (hT : U8 w) (hp : ∀ j, j < s.size → w.cell? ⟨b, off + j, none⟩ = some (.int .u8 (s.get! j).toNat)) :
    Calls Tryd.prog 36 #[.slice (some ⟨b, off, none⟩) s.size cap] w fun e w' => e = .returned (.tuple #[.int .i32 (Lib.decodeGo s).1, .int .i64 (Lib.decodeGo s).2]) ∧ Below w.heap.size w w' :=
  Any7.utf8_DecodeRune decLays s b off cap w hT hp
end Go.Proofs.YthfefbpfgepbjaaDoor
