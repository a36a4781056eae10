/- The scripts of CheckModes and CheckLabels, in plain words (layer 17). (Laid in round 16, ahead of stage 17.) -/
import Derived.Test.YthlbociimbpgkaaDoorCA
namespace Go.Proofs.YthlbociimbpgkaaDoor
namespace Ck
/-- A protocol's name. -/
def modeW (m : Nat) : List UInt8 := if m = 0 then [115, 109, 116, 112] else if m = 1 then [112, 111, 112, 51] else [102, 116, 112]
def wMode : List UInt8 := [109, 111, 100, 101, 32]
def labelZ : List UInt8 := [59, 108, 97, 98, 101, 108, 32, 122, 59]
/-- Its statements' codes. -/
def codeW (m : Nat) : List UInt8 := if m = 1 then [34, 43, 34] else [34, 50, 34]
/-- The statements, of codes c. -/
def stmtW (c : List UInt8) : Nat → List UInt8
  | 0 => [108, 101, 116, 32, 97, 32, 61, 32, 34, 120, 34, 59]
  | 1 => [103, 114, 101, 101, 116, 32] ++ c ++ [59]
  | 2 => [115, 101, 110, 100, 32, 34, 120, 34, 32] ++ c ++ [59]
  | 3 => [99, 97, 112, 115, 32, 34, 120, 34, 32] ++ c ++ [59]
  | 4 => [105, 102, 32, 99, 97, 112, 32, 34, 120, 34, 32, 123, 125]
  | 5 => [105, 102, 32, 99, 111, 100, 101, 32] ++ c ++ [32, 123, 125]
  | 6 => [116, 105, 109, 101, 111, 117, 116, 32, 49, 59]
  | 7 => [108, 97, 98, 101, 108, 32, 108, 59]
  | 8 => [111, 110, 32, 122, 59]
  | 9 => [103, 111, 116, 111, 32, 122, 59]
  | 10 => [112, 114, 105, 110, 116, 32, 34, 120, 34, 59]
  | 11 => [115, 116, 111, 112, 59]
  | 12 => [112, 105, 112, 101, 32, 49, 32, 123, 125]
  | 13 => [97, 117, 116, 104, 32, 112, 108, 97, 105, 110, 32, 34, 97, 34, 32, 34, 98, 34, 59]
  | 14 => [97, 117, 116, 104, 32, 97, 112, 111, 112, 32, 34, 97, 34, 32, 34, 98, 34, 59]
  | 15 => [100, 97, 116, 97, 32, 34, 120, 34, 32] ++ c ++ [59]
  | 16 => [98, 111, 100, 121, 32, 98, 32, 34, 120, 34, 32] ++ c ++ [59]
  | 17 => [103, 101, 116, 32, 98, 32, 34, 120, 34, 59]
  | 18 => [112, 117, 116, 32, 34, 120, 34, 32, 34, 121, 34, 59]
  | _ => []
/-- Of which protocols a statement is: bit m. -/
def owns : List Nat := [7, 7, 7, 7, 7, 7, 7, 7, 7, 7, 7, 7, 3, 3, 2, 1, 2, 4, 4]
def owned (m k : Nat) : Bool := (owns.getD k 0 >>> m) % 2 == 1
def modesT (m k : Nat) : List UInt8 := wMode ++ modeW m ++ labelZ ++ stmtW (codeW m) k
def modesB (m : Nat) : Nat := if m = 2 then 17 else 18
def modesOk (m k : Nat) : Bool := match source (modesT m k) with
  | .ok _ => owned m k
  | .error e => !owned m k && decide (e = (modesB m, 30))
theorem modes_law : ∀ (m : Fin 3) (k : Fin 19), modesOk m.val k.val = true := by decide +kernel

/-- A label's name. -/
def nameW (a : Nat) : List UInt8 := if a = 0 then [97] else if a = 1 then [98] else if a = 2 then [99] else [100, 100]
def oneW (a : Nat) : List UInt8 := [108, 97, 98, 101, 108, 32] ++ nameW a ++ [59]
def twoW (b : Nat) : List UInt8 := [103, 111, 116, 111, 32] ++ nameW b ++ [59]
def labelsS (a b : Nat) (x0 x1 : Bool) : List UInt8 := (if x0 then oneW a ++ twoW b else twoW b ++ oneW a) ++ (if x1 then oneW a else [])
def labelsT (a b : Nat) (x0 x1 : Bool) : List UInt8 := [109, 111, 100, 101, 32, 115, 109, 116, 112, 59] ++ labelsS a b x0 x1
/-- What the law asks: a place and an error, or none and two statements. -/
def labelsE (a b : Nat) (x0 x1 : Bool) : Option (Nat × Nat) :=
  if x0 = true ∧ x1 = true ∧ a = b then some (10 + (oneW a).length + (twoW b).length, 31)
  else if a ≠ b then some (if x0 then 10 + (oneW a).length else 10, 33)
  else if x1 = true then some (10 + (oneW a).length + (twoW b).length, 31) else none
def labelsOk (a b : Nat) (x0 x1 : Bool) : Bool := match source (labelsT a b x0 x1), labelsE a b x0 x1 with
  | .ok p, none => decide (p.2.1.length = 2)
  | .error e, some f => decide (e = f)
  | _, _ => false
theorem labels_law : ∀ (a b : Fin 4) (x0 x1 : Bool), labelsOk a.val b.val x0 x1 = true := by decide +kernel
end Ck
end Go.Proofs.YthlbociimbpgkaaDoor
