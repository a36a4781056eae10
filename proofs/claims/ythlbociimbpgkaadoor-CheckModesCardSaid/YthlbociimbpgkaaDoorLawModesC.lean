/- CheckModes walked (layer 17). Laid by wip/tools/gen_cklm.py. -/
import Derived.Test.YthlbociimbpgkaaDoorCF
import Derived.Test.YthlbociimbpgkaaDoorCheckMo
import Derived.Test.YthlbociimbpgkaaDoorBits
import Derived.Test.YthlbociimbpgkaaDoorPJ
import Derived.Deep.CutRange
namespace Go.Proofs.YthlbociimbpgkaaDoor
open Go.RowKit

theorem modes_of (m k : Nat) (hm : m < 3) (hk : k < 19) : (∃ p, Ck.source (Ck.modesT m k) = .ok p ∧ Ck.owned m k = true) ∨ (Ck.source (Ck.modesT m k) = .error (Ck.modesB m, 30) ∧ Ck.owned m k = false) := by
  have h := Ck.modes_law ⟨m, hm⟩ ⟨k, hk⟩
  unfold Ck.modesOk at h
  dsimp only at h
  cases hs : Ck.source (Ck.modesT m k) with
  | ok p => rw [hs] at h; exact .inl ⟨p, rfl, h⟩
  | error e =>
    rw [hs] at h
    simp only [Bool.and_eq_true, Bool.not_eq_true', decide_eq_true_eq] at h
    exact .inr ⟨by rw [h.2], h.1⟩
theorem modes_len (m k : Nat) (hm : m < 3) (hk : k < 19) : (Ck.modesT m k).length ≤ 60 := by
  have : ∀ (m : Fin 3) (k : Fin 19), (Ck.modesT m.val k.val).length ≤ 60 := by decide +kernel
  exact this ⟨m, hm⟩ ⟨k, hk⟩
theorem stmt_len (m k : Nat) (hm : m < 3) (hk : k < 19) : (Ck.stmtW (Ck.codeW m) k).length ≤ 40 := by
  have : ∀ (m : Fin 3) (k : Fin 19), (Ck.stmtW (Ck.codeW m.val) k.val).length ≤ 40 := by decide +kernel
  exact this ⟨m, hm⟩ ⟨k, hk⟩
theorem owns_of (m k : Nat) (hk : k < 19) : ∃ o : Nat, Ck.owns.getD k 0 = o ∧ (o = 7 ∨ o = 3 ∨ o = 2 ∨ o = 1 ∨ o = 4) ∧ Ck.owned m k = ((o >>> m) % 2 == 1) := by
  refine ⟨_, rfl, ?_, rfl⟩
  have : ∀ (k : Fin 19), Ck.owns.getD k.val 0 = 7 ∨ Ck.owns.getD k.val 0 = 3 ∨ Ck.owns.getD k.val 0 = 2 ∨ Ck.owns.getD k.val 0 = 1 ∨ Ck.owns.getD k.val 0 = 4 := by decide +kernel
  exact this ⟨k, hk⟩
def ownsA : Array Value := #[.int .i64 7, .int .i64 7, .int .i64 7, .int .i64 7, .int .i64 7, .int .i64 7, .int .i64 7, .int .i64 7, .int .i64 7, .int .i64 7, .int .i64 7, .int .i64 7, .int .i64 3, .int .i64 3, .int .i64 2, .int .i64 1, .int .i64 2, .int .i64 4, .int .i64 4]
theorem owns_at (k : Nat) (hk : k < 19) : ownsA[k]? = some (.int .i64 ((Ck.owns.getD k 0 : Nat) : Int)) := by
  rcases (by omega : k = 0 ∨ k = 1 ∨ k = 2 ∨ k = 3 ∨ k = 4 ∨ k = 5 ∨ k = 6 ∨ k = 7 ∨ k = 8 ∨ k = 9 ∨ k = 10 ∨ k = 11 ∨ k = 12 ∨ k = 13 ∨ k = 14 ∨ k = 15 ∨ k = 16 ∨ k = 17 ∨ k = 18) with rfl | rfl | rfl | rfl | rfl | rfl | rfl | rfl | rfl | rfl | rfl | rfl | rfl | rfl | rfl | rfl | rfl | rfl | rfl <;> rfl
def stmtsA0 : Array Value := #[.string ⟨#[108, 101, 116, 32, 97, 32, 61, 32, 34, 120, 34, 59]⟩, .string ⟨#[103, 114, 101, 101, 116, 32, 34, 50, 34, 59]⟩, .string ⟨#[115, 101, 110, 100, 32, 34, 120, 34, 32, 34, 50, 34, 59]⟩, .string ⟨#[99, 97, 112, 115, 32, 34, 120, 34, 32, 34, 50, 34, 59]⟩, .string ⟨#[105, 102, 32, 99, 97, 112, 32, 34, 120, 34, 32, 123, 125]⟩, .string ⟨#[105, 102, 32, 99, 111, 100, 101, 32, 34, 50, 34, 32, 123, 125]⟩, .string ⟨#[116, 105, 109, 101, 111, 117, 116, 32, 49, 59]⟩, .string ⟨#[108, 97, 98, 101, 108, 32, 108, 59]⟩, .string ⟨#[111, 110, 32, 122, 59]⟩, .string ⟨#[103, 111, 116, 111, 32, 122, 59]⟩, .string ⟨#[112, 114, 105, 110, 116, 32, 34, 120, 34, 59]⟩, .string ⟨#[115, 116, 111, 112, 59]⟩, .string ⟨#[112, 105, 112, 101, 32, 49, 32, 123, 125]⟩, .string ⟨#[97, 117, 116, 104, 32, 112, 108, 97, 105, 110, 32, 34, 97, 34, 32, 34, 98, 34, 59]⟩, .string ⟨#[97, 117, 116, 104, 32, 97, 112, 111, 112, 32, 34, 97, 34, 32, 34, 98, 34, 59]⟩, .string ⟨#[100, 97, 116, 97, 32, 34, 120, 34, 32, 34, 50, 34, 59]⟩, .string ⟨#[98, 111, 100, 121, 32, 98, 32, 34, 120, 34, 32, 34, 50, 34, 59]⟩, .string ⟨#[103, 101, 116, 32, 98, 32, 34, 120, 34, 59]⟩, .string ⟨#[112, 117, 116, 32, 34, 120, 34, 32, 34, 121, 34, 59]⟩]
theorem stmts_at0 (k : Nat) (hk : k < 19) : stmtsA0[k]? = some (.string ⟨(Ck.stmtW (Ck.codeW 0) k).toArray⟩) := by
  rcases (by omega : k = 0 ∨ k = 1 ∨ k = 2 ∨ k = 3 ∨ k = 4 ∨ k = 5 ∨ k = 6 ∨ k = 7 ∨ k = 8 ∨ k = 9 ∨ k = 10 ∨ k = 11 ∨ k = 12 ∨ k = 13 ∨ k = 14 ∨ k = 15 ∨ k = 16 ∨ k = 17 ∨ k = 18) with rfl | rfl | rfl | rfl | rfl | rfl | rfl | rfl | rfl | rfl | rfl | rfl | rfl | rfl | rfl | rfl | rfl | rfl | rfl <;> rfl
def stmtsA1 : Array Value := #[.string ⟨#[108, 101, 116, 32, 97, 32, 61, 32, 34, 120, 34, 59]⟩, .string ⟨#[103, 114, 101, 101, 116, 32, 34, 43, 34, 59]⟩, .string ⟨#[115, 101, 110, 100, 32, 34, 120, 34, 32, 34, 43, 34, 59]⟩, .string ⟨#[99, 97, 112, 115, 32, 34, 120, 34, 32, 34, 43, 34, 59]⟩, .string ⟨#[105, 102, 32, 99, 97, 112, 32, 34, 120, 34, 32, 123, 125]⟩, .string ⟨#[105, 102, 32, 99, 111, 100, 101, 32, 34, 43, 34, 32, 123, 125]⟩, .string ⟨#[116, 105, 109, 101, 111, 117, 116, 32, 49, 59]⟩, .string ⟨#[108, 97, 98, 101, 108, 32, 108, 59]⟩, .string ⟨#[111, 110, 32, 122, 59]⟩, .string ⟨#[103, 111, 116, 111, 32, 122, 59]⟩, .string ⟨#[112, 114, 105, 110, 116, 32, 34, 120, 34, 59]⟩, .string ⟨#[115, 116, 111, 112, 59]⟩, .string ⟨#[112, 105, 112, 101, 32, 49, 32, 123, 125]⟩, .string ⟨#[97, 117, 116, 104, 32, 112, 108, 97, 105, 110, 32, 34, 97, 34, 32, 34, 98, 34, 59]⟩, .string ⟨#[97, 117, 116, 104, 32, 97, 112, 111, 112, 32, 34, 97, 34, 32, 34, 98, 34, 59]⟩, .string ⟨#[100, 97, 116, 97, 32, 34, 120, 34, 32, 34, 43, 34, 59]⟩, .string ⟨#[98, 111, 100, 121, 32, 98, 32, 34, 120, 34, 32, 34, 43, 34, 59]⟩, .string ⟨#[103, 101, 116, 32, 98, 32, 34, 120, 34, 59]⟩, .string ⟨#[112, 117, 116, 32, 34, 120, 34, 32, 34, 121, 34, 59]⟩]
theorem stmts_at1 (k : Nat) (hk : k < 19) : stmtsA1[k]? = some (.string ⟨(Ck.stmtW (Ck.codeW 1) k).toArray⟩) := by
  rcases (by omega : k = 0 ∨ k = 1 ∨ k = 2 ∨ k = 3 ∨ k = 4 ∨ k = 5 ∨ k = 6 ∨ k = 7 ∨ k = 8 ∨ k = 9 ∨ k = 10 ∨ k = 11 ∨ k = 12 ∨ k = 13 ∨ k = 14 ∨ k = 15 ∨ k = 16 ∨ k = 17 ∨ k = 18) with rfl | rfl | rfl | rfl | rfl | rfl | rfl | rfl | rfl | rfl | rfl | rfl | rfl | rfl | rfl | rfl | rfl | rfl | rfl <;> rfl
def stmtsA2 : Array Value := #[.string ⟨#[108, 101, 116, 32, 97, 32, 61, 32, 34, 120, 34, 59]⟩, .string ⟨#[103, 114, 101, 101, 116, 32, 34, 50, 34, 59]⟩, .string ⟨#[115, 101, 110, 100, 32, 34, 120, 34, 32, 34, 50, 34, 59]⟩, .string ⟨#[99, 97, 112, 115, 32, 34, 120, 34, 32, 34, 50, 34, 59]⟩, .string ⟨#[105, 102, 32, 99, 97, 112, 32, 34, 120, 34, 32, 123, 125]⟩, .string ⟨#[105, 102, 32, 99, 111, 100, 101, 32, 34, 50, 34, 32, 123, 125]⟩, .string ⟨#[116, 105, 109, 101, 111, 117, 116, 32, 49, 59]⟩, .string ⟨#[108, 97, 98, 101, 108, 32, 108, 59]⟩, .string ⟨#[111, 110, 32, 122, 59]⟩, .string ⟨#[103, 111, 116, 111, 32, 122, 59]⟩, .string ⟨#[112, 114, 105, 110, 116, 32, 34, 120, 34, 59]⟩, .string ⟨#[115, 116, 111, 112, 59]⟩, .string ⟨#[112, 105, 112, 101, 32, 49, 32, 123, 125]⟩, .string ⟨#[97, 117, 116, 104, 32, 112, 108, 97, 105, 110, 32, 34, 97, 34, 32, 34, 98, 34, 59]⟩, .string ⟨#[97, 117, 116, 104, 32, 97, 112, 111, 112, 32, 34, 97, 34, 32, 34, 98, 34, 59]⟩, .string ⟨#[100, 97, 116, 97, 32, 34, 120, 34, 32, 34, 50, 34, 59]⟩, .string ⟨#[98, 111, 100, 121, 32, 98, 32, 34, 120, 34, 32, 34, 50, 34, 59]⟩, .string ⟨#[103, 101, 116, 32, 98, 32, 34, 120, 34, 59]⟩, .string ⟨#[112, 117, 116, 32, 34, 120, 34, 32, 34, 121, 34, 59]⟩]
theorem stmts_at2 (k : Nat) (hk : k < 19) : stmtsA2[k]? = some (.string ⟨(Ck.stmtW (Ck.codeW 2) k).toArray⟩) := by
  rcases (by omega : k = 0 ∨ k = 1 ∨ k = 2 ∨ k = 3 ∨ k = 4 ∨ k = 5 ∨ k = 6 ∨ k = 7 ∨ k = 8 ∨ k = 9 ∨ k = 10 ∨ k = 11 ∨ k = 12 ∨ k = 13 ∨ k = 14 ∨ k = 15 ∨ k = 16 ∨ k = 17 ∨ k = 18) with rfl | rfl | rfl | rfl | rfl | rfl | rfl | rfl | rfl | rfl | rfl | rfl | rfl | rfl | rfl | rfl | rfl | rfl | rfl <;> rfl

set_option maxRecDepth 200000 in
set_option maxHeartbeats 8000000 in
theorem modes_way0 (A B k : Nat) (hA : A < 256) (hB : B < 256) (hm : (A : Int).tmod 3 = 0) (hk : (B : Int).tmod 19 = (k : Int)) (hk19 : k < 19) (w : World) (hS : SHP w) :
    Calls Tryd.prog 4 #[.int .u8 (A : Int), .int .u8 (B : Int)] w fun e w' => e = .returned (.bool true) ∧ Below w.heap.size w w' := by
  have SW := shown_any w hS
  have SRC := Lib.hid (fun wx hx => source_any (Ck.modesT 0 k) (by have := modes_len 0 k (by decide) hk19; omega) wx hx)
  have hk19i : (k : Int) < 19 := by omega
  have hm2 : (A : Int) % 3 = 0 := by rw [← hm, Int.tmod_eq_emod_of_nonneg (by omega)]
  have hk2 : (B : Int) % 19 = (k : Int) := by rw [← hk, Int.tmod_eq_emod_of_nonneg (by omega)]
  have hci := stmts_at0 k hk19
  have hoi := owns_at k hk19
  have hsl := stmt_len 0 k (by decide) hk19
  obtain ⟨o, ho, ho5, hown⟩ := owns_of 0 k hk19
  rw [ho] at hoi
  obtain ⟨X, hX⟩ : ∃ X, Ck.stmtW (Ck.codeW 0) k = X := ⟨_, rfl⟩
  rw [hX] at hci hsl
  obtain ⟨Z, hZ⟩ : ∃ Z, X.length = Z := ⟨_, rfl⟩
  rw [hZ] at hsl
  have hxz : (⟨X.toArray⟩ : ByteArray).size = Z := hZ
  have hsum : (9223372036854775807 < 18 + Z) = False := eq_false (by omega)
  have hT : Ck.modesT 0 k = [109, 111, 100, 101, 32, 115, 109, 116, 112, 59, 108, 97, 98, 101, 108, 32, 122, 59] ++ X := by rw [← hX]; rfl
  have hTA : (⟨#[109, 111, 100, 101, 32, 115, 109, 116, 112, 59, 108, 97, 98, 101, 108, 32, 122, 59]⟩ ++ ⟨X.toArray⟩ : ByteArray) = ⟨(Ck.modesT 0 k).toArray⟩ := by rw [hT]; exact (ba_append [109, 111, 100, 101, 32, 115, 109, 116, 112, 59, 108, 97, 98, 101, 108, 32, 122, 59] X).symm
  have HOF := Lib.hid (modes_of 0 k (by decide) hk19)
  have HS := Lib.hid hS
  have HTA := Lib.hid hTA
  have HOWN := Lib.hid hown
  have HO5 := Lib.hid ho5
  have HCI := Lib.hid hci
  have HOI := Lib.hid hoi
  clear hS hT hTA hX hZ ho hown ho5 hci hoi
  go_enter Tryd.func4, Tryd.ntmps4
  go_wp2_with fail
  refine SW.mono ?_
  rintro e wa ⟨rfl, hba⟩
  have HBA := Lib.hid hba
  clear hba SW
  have sm0 : (⟨#[103, 114, 101, 101, 116, 32]⟩ ++ ⟨#[34, 50, 34]⟩ : ByteArray) = ⟨#[103, 114, 101, 101, 116, 32, 34, 50, 34]⟩ := ba_append [103, 114, 101, 101, 116, 32] [34, 50, 34]
  have sm1 : (⟨#[103, 114, 101, 101, 116, 32, 34, 50, 34]⟩ ++ ⟨#[59]⟩ : ByteArray) = ⟨#[103, 114, 101, 101, 116, 32, 34, 50, 34, 59]⟩ := ba_append [103, 114, 101, 101, 116, 32, 34, 50, 34] [59]
  have sm2 : (⟨#[115, 101, 110, 100, 32, 34, 120, 34, 32]⟩ ++ ⟨#[34, 50, 34]⟩ : ByteArray) = ⟨#[115, 101, 110, 100, 32, 34, 120, 34, 32, 34, 50, 34]⟩ := ba_append [115, 101, 110, 100, 32, 34, 120, 34, 32] [34, 50, 34]
  have sm3 : (⟨#[115, 101, 110, 100, 32, 34, 120, 34, 32, 34, 50, 34]⟩ ++ ⟨#[59]⟩ : ByteArray) = ⟨#[115, 101, 110, 100, 32, 34, 120, 34, 32, 34, 50, 34, 59]⟩ := ba_append [115, 101, 110, 100, 32, 34, 120, 34, 32, 34, 50, 34] [59]
  have sm4 : (⟨#[99, 97, 112, 115, 32, 34, 120, 34, 32]⟩ ++ ⟨#[34, 50, 34]⟩ : ByteArray) = ⟨#[99, 97, 112, 115, 32, 34, 120, 34, 32, 34, 50, 34]⟩ := ba_append [99, 97, 112, 115, 32, 34, 120, 34, 32] [34, 50, 34]
  have sm5 : (⟨#[99, 97, 112, 115, 32, 34, 120, 34, 32, 34, 50, 34]⟩ ++ ⟨#[59]⟩ : ByteArray) = ⟨#[99, 97, 112, 115, 32, 34, 120, 34, 32, 34, 50, 34, 59]⟩ := ba_append [99, 97, 112, 115, 32, 34, 120, 34, 32, 34, 50, 34] [59]
  have sm6 : (⟨#[105, 102, 32, 99, 111, 100, 101, 32]⟩ ++ ⟨#[34, 50, 34]⟩ : ByteArray) = ⟨#[105, 102, 32, 99, 111, 100, 101, 32, 34, 50, 34]⟩ := ba_append [105, 102, 32, 99, 111, 100, 101, 32] [34, 50, 34]
  have sm7 : (⟨#[105, 102, 32, 99, 111, 100, 101, 32, 34, 50, 34]⟩ ++ ⟨#[32, 123, 125]⟩ : ByteArray) = ⟨#[105, 102, 32, 99, 111, 100, 101, 32, 34, 50, 34, 32, 123, 125]⟩ := ba_append [105, 102, 32, 99, 111, 100, 101, 32, 34, 50, 34] [32, 123, 125]
  have sm8 : (⟨#[100, 97, 116, 97, 32, 34, 120, 34, 32]⟩ ++ ⟨#[34, 50, 34]⟩ : ByteArray) = ⟨#[100, 97, 116, 97, 32, 34, 120, 34, 32, 34, 50, 34]⟩ := ba_append [100, 97, 116, 97, 32, 34, 120, 34, 32] [34, 50, 34]
  have sm9 : (⟨#[100, 97, 116, 97, 32, 34, 120, 34, 32, 34, 50, 34]⟩ ++ ⟨#[59]⟩ : ByteArray) = ⟨#[100, 97, 116, 97, 32, 34, 120, 34, 32, 34, 50, 34, 59]⟩ := ba_append [100, 97, 116, 97, 32, 34, 120, 34, 32, 34, 50, 34] [59]
  have sm10 : (⟨#[98, 111, 100, 121, 32, 98, 32, 34, 120, 34, 32]⟩ ++ ⟨#[34, 50, 34]⟩ : ByteArray) = ⟨#[98, 111, 100, 121, 32, 98, 32, 34, 120, 34, 32, 34, 50, 34]⟩ := ba_append [98, 111, 100, 121, 32, 98, 32, 34, 120, 34, 32] [34, 50, 34]
  have sm11 : (⟨#[98, 111, 100, 121, 32, 98, 32, 34, 120, 34, 32, 34, 50, 34]⟩ ++ ⟨#[59]⟩ : ByteArray) = ⟨#[98, 111, 100, 121, 32, 98, 32, 34, 120, 34, 32, 34, 50, 34, 59]⟩ := ba_append [98, 111, 100, 121, 32, 98, 32, 34, 120, 34, 32, 34, 50, 34] [59]
  have sm12 : (⟨#[109, 111, 100, 101, 32]⟩ ++ ⟨#[115, 109, 116, 112]⟩ : ByteArray) = ⟨#[109, 111, 100, 101, 32, 115, 109, 116, 112]⟩ := ba_append [109, 111, 100, 101, 32] [115, 109, 116, 112]
  have sm13 : (⟨#[109, 111, 100, 101, 32, 115, 109, 116, 112]⟩ ++ ⟨#[59, 108, 97, 98, 101, 108, 32, 122, 59]⟩ : ByteArray) = ⟨#[109, 111, 100, 101, 32, 115, 109, 116, 112, 59, 108, 97, 98, 101, 108, 32, 122, 59]⟩ := ba_append [109, 111, 100, 101, 32, 115, 109, 116, 112] [59, 108, 97, 98, 101, 108, 32, 122, 59]
  go_upto_region 7 with fail
  obtain ⟨W0, hW0⟩ : ∃ x, ((wa.alloc (.cells #[.string ⟨#[34, 50, 34]⟩, .string ⟨#[34, 43, 34]⟩, .string ⟨#[34, 50, 34]⟩] 9)).alloc (.cells #[.string ⟨#[108, 101, 116, 32, 97, 32, 61, 32, 34, 120, 34, 59]⟩, .string ⟨#[103, 114, 101, 101, 116, 32, 34, 50, 34, 59]⟩, .string ⟨#[115, 101, 110, 100, 32, 34, 120, 34, 32, 34, 50, 34, 59]⟩, .string ⟨#[99, 97, 112, 115, 32, 34, 120, 34, 32, 34, 50, 34, 59]⟩, .string ⟨#[105, 102, 32, 99, 97, 112, 32, 34, 120, 34, 32, 123, 125]⟩, .string ⟨#[105, 102, 32, 99, 111, 100, 101, 32, 34, 50, 34, 32, 123, 125]⟩, .string ⟨#[116, 105, 109, 101, 111, 117, 116, 32, 49, 59]⟩, .string ⟨#[108, 97, 98, 101, 108, 32, 108, 59]⟩, .string ⟨#[111, 110, 32, 122, 59]⟩, .string ⟨#[103, 111, 116, 111, 32, 122, 59]⟩, .string ⟨#[112, 114, 105, 110, 116, 32, 34, 120, 34, 59]⟩, .string ⟨#[115, 116, 111, 112, 59]⟩, .string ⟨#[112, 105, 112, 101, 32, 49, 32, 123, 125]⟩, .string ⟨#[97, 117, 116, 104, 32, 112, 108, 97, 105, 110, 32, 34, 97, 34, 32, 34, 98, 34, 59]⟩, .string ⟨#[97, 117, 116, 104, 32, 97, 112, 111, 112, 32, 34, 97, 34, 32, 34, 98, 34, 59]⟩, .string ⟨#[100, 97, 116, 97, 32, 34, 120, 34, 32, 34, 50, 34, 59]⟩, .string ⟨#[98, 111, 100, 121, 32, 98, 32, 34, 120, 34, 32, 34, 50, 34, 59]⟩, .string ⟨#[103, 101, 116, 32, 98, 32, 34, 120, 34, 59]⟩, .string ⟨#[112, 117, 116, 32, 34, 120, 34, 32, 34, 121, 34, 59]⟩] 9)).alloc (.cells #[.int .i64 7, .int .i64 7, .int .i64 7, .int .i64 7, .int .i64 7, .int .i64 7, .int .i64 7, .int .i64 7, .int .i64 7, .int .i64 7, .int .i64 7, .int .i64 7, .int .i64 3, .int .i64 3, .int .i64 2, .int .i64 1, .int .i64 2, .int .i64 4, .int .i64 4] 3) = x := ⟨_, rfl⟩
  rw [hW0]
  obtain ⟨lb, hlb⟩ : ∃ x, wa.heap.size + 1 = x := ⟨_, rfl⟩
  obtain ⟨ob, hob⟩ : ∃ x, wa.heap.size + 1 + 1 = x := ⟨_, rfl⟩
  have hb0 : Below wa.heap.size wa W0 := by rw [← hW0]; exact (((Below.refl _ _).alloc (Nat.le_refl _) _).alloc (by simp) _).alloc (by simp; omega) _
  have hL : W0.heap[lb]? = some (.cells stmtsA0 9 (0, 0)) := by
    rw [← hlb, ← hW0]
    refine (Below.heap_alloc _ _ _ (by simp)).trans ?_
    have := heap_alloc_new (wa.alloc (.cells #[.string ⟨#[34, 50, 34]⟩, .string ⟨#[34, 43, 34]⟩, .string ⟨#[34, 50, 34]⟩] 9)) (.cells stmtsA0 9)
    rwa [World.size_alloc] at this
  have hO : W0.heap[ob]? = some (.cells ownsA 3 (0, 0)) := by
    rw [← hob, ← hW0]
    have := heap_alloc_new ((wa.alloc (.cells #[.string ⟨#[34, 50, 34]⟩, .string ⟨#[34, 43, 34]⟩, .string ⟨#[34, 50, 34]⟩] 9)).alloc (.cells stmtsA0 9)) (.cells ownsA 3)
    rwa [World.size_alloc, World.size_alloc] at this
  rw [hob, hlb]
  have hcl : W0.cell? ⟨lb, k, none⟩ = some (.string ⟨X.toArray⟩) := (cell_of_row _ _ _ _ _ _ hL).trans HCI.out
  have hco : W0.cell? ⟨ob, k, none⟩ = some (.int .i64 (o : Int)) := (cell_of_row _ _ _ _ _ _ hO).trans HOI.out
  have hll : lb < W0.heap.size := (Array.getElem?_eq_some_iff.1 hL).1
  have hol : ob < W0.heap.size := (Array.getElem?_eq_some_iff.1 hO).1
  have SC := Lib.hid (fun (w' : World) (hb : Below W0.heap.size W0 w') => (⟨(hb.cell (show (⟨lb, k, none⟩ : Addr).block < W0.heap.size from hll)).trans hcl, (hb.cell (show (⟨ob, k, none⟩ : Addr).block < W0.heap.size from hol)).trans hco⟩ : w'.cell? ⟨lb, k, none⟩ = some (.string ⟨X.toArray⟩) ∧ w'.cell? ⟨ob, k, none⟩ = some (.int .i64 (o : Int))))
  have hs0 : W0.cell? ⟨lb, k, none⟩ = some (.string ⟨X.toArray⟩) ∧ W0.cell? ⟨ob, k, none⟩ = some (.int .i64 (o : Int)) := ⟨hcl, hco⟩
  have HB0 := Lib.hid (HBA.out.trans (hb0.mono HBA.out.size))
  have HSP := Lib.hid (HS.out.below (HBA.out.trans (hb0.mono HBA.out.size)))
  have HSZ := Lib.hid (Nat.le_trans HBA.out.size hb0.size)
  obtain ⟨md, row, top, p, c, _, hpc, hout⟩ := source_out (Ck.modesT 0 k)
  have HPC := Lib.hid hpc
  have HOUT := Lib.hid hout
  clear hW0 hlb hob hL hO hcl hco hll hol hb0 hpc hout HCI HOI
  go_cut [11, 12, 13] from 48 to 63 (fun s11 s12 s13 wx => s12 = .int .i64 (p : Int) ∧ s13 = .int .i64 (c : Int) ∧ Hid (Below W0.heap.size W0 wx))
  case first =>
    have HB := Lib.hid (⟨rfl, rfl, rfl, Nat.le_refl _, fun _ _ => rfl⟩ : Below W0.heap.size W0 W0.drew)
    refine wp_region_held_drew (S := fun w' => w'.cell? ⟨lb, k, none⟩ = some (.string ⟨X.toArray⟩) ∧ w'.cell? ⟨ob, k, none⟩ = some (.int .i64 (o : Int))) (by kernel_rfl) hs0 (fun hH => ?_)
    generalize W0.drew = W at *
    refine heldTake (i := 1) (v := ?_) rfl (by kernel_rfl) (by kernel_rfl) (fun _ _ _ h => h) (by rfl) (by assumption) (fun w hSw => ?_) ?_; rotate_left; focus ((try dsimp only at hSw); go_simp; try with_reducible rfl)
    try simp only [Act.put, List.setIfInBounds_toArray, List.set_cons_zero, List.set_cons_succ]
    refine heldTake (i := 6) (v := ?_) rfl (by kernel_rfl) (by kernel_rfl) (fun _ _ _ h => h) (by rfl) (by assumption) (fun w hSw => ?_) ?_; rotate_left; focus ((try dsimp only at hSw); go_simp; try with_reducible rfl)
    try simp only [Act.put, List.setIfInBounds_toArray, List.set_cons_zero, List.set_cons_succ]
    refine heldTake (i := 7) (v := ?_) rfl (by kernel_rfl) (by kernel_rfl) (fun _ _ _ h => h) (by rfl) (by assumption) (fun w hSw => ?_) ?_; rotate_left; focus ((try dsimp only at hSw); go_simp; try with_reducible rfl)
    try simp only [Act.put, List.setIfInBounds_toArray, List.set_cons_zero, List.set_cons_succ]
    refine heldTake (i := 8) (v := ?_) rfl (by kernel_rfl) (by kernel_rfl) (fun _ _ _ h => h) (by rfl) (by assumption) (fun w hSw => ?_) ?_; rotate_left; focus ((try dsimp only at hSw); go_simp; try with_reducible rfl)
    try simp only [Act.put, List.setIfInBounds_toArray, List.set_cons_zero, List.set_cons_succ]
    refine heldTake (i := 9) (v := ?_) rfl (by kernel_rfl) (by kernel_rfl) (fun _ _ _ h => h) (by rfl) (by assumption) (fun w hSw => ?_) ?_; rotate_left; focus ((try dsimp only at hSw); go_simp; try with_reducible rfl)
    try simp only [Act.put, List.setIfInBounds_toArray, List.set_cons_zero, List.set_cons_succ]
    -- TWO 0 Op.buildSlice 31 3 #[(0, Operand.const (Value.string { data := #[115, 109, 116,  | 16 Op.alloc 26
    refine heldTwo (i := 0) (j := 16) rfl rfl (by kernel_rfl) (by rfl) (by rfl) (fun K hK => ?_) (fun K hK => ?_)
    · go_simp
      obtain ⟨W1, hn⟩ : ∃ x, W.alloc (.cells #[.string ⟨#[115, 109, 116, 112]⟩, .string ⟨#[112, 111, 112, 51]⟩, .string ⟨#[102, 116, 112]⟩] 9) = x := ⟨_, rfl⟩
      obtain ⟨nb, hnb⟩ : ∃ b, W.heap.size = b := ⟨_, rfl⟩
      have hbn : Below W.heap.size W W1 := by rw [← hn]; exact (Below.refl _ _).alloc (Nat.le_refl _) _
      have hcn : W1.heap[nb]? = some (.cells #[.string ⟨#[115, 109, 116, 112]⟩, .string ⟨#[112, 111, 112, 51]⟩, .string ⟨#[102, 116, 112]⟩] 9 (0, 0)) := by rw [← hnb, ← hn]; exact heap_alloc_new _ _
      rw [hn, hnb]
      have HBW1 := Lib.hid (HB.out.trans (hbn.mono HB.out.size))
      have HN := Lib.hid hcn
      clear hn hnb hbn hcn
      refine hK.out _ _ (SC.out _ HBW1.out) ?_; clear hK K
      refine heldMore (S' := fun w' => (w'.cell? ⟨lb, k, none⟩ = some (.string ⟨X.toArray⟩) ∧ w'.cell? ⟨ob, k, none⟩ = some (.int .i64 (o : Int))) ∧ w'.cell? ⟨nb, 0, none⟩ = some (.string ⟨#[115, 109, 116, 112]⟩)) (fun _ h => h.1) ?_
      have hSS := (⟨SC.out _ HBW1.out, cell_of_row _ _ _ _ _ _ HN.out⟩ : (W1.cell? ⟨lb, k, none⟩ = some (.string ⟨X.toArray⟩) ∧ W1.cell? ⟨ob, k, none⟩ = some (.int .i64 (o : Int))) ∧ W1.cell? ⟨nb, 0, none⟩ = some (.string ⟨#[115, 109, 116, 112]⟩))
      try simp only [Act.put, List.setIfInBounds_toArray, List.set_cons_zero, List.set_cons_succ]
      refine heldTake (i := 2) (v := ?_) rfl (by kernel_rfl) (by kernel_rfl) (fun _ _ _ h => h) (by rfl) (by assumption) (fun w hSw => ?_) ?_; rotate_left; focus ((try dsimp only at hSw); go_simp; try with_reducible rfl)
      try simp only [Act.put, List.setIfInBounds_toArray, List.set_cons_zero, List.set_cons_succ]
      refine heldTake (i := 3) (v := ?_) rfl (by kernel_rfl) (by kernel_rfl) (fun _ _ _ h => h) (by rfl) (by assumption) (fun w hSw => ?_) ?_; rotate_left; focus ((try dsimp only at hSw); go_simp; try with_reducible rfl)
      try simp only [Act.put, List.setIfInBounds_toArray, List.set_cons_zero, List.set_cons_succ]
      refine heldTake (i := 4) (v := ?_) rfl (by kernel_rfl) (by kernel_rfl) (fun _ _ _ h => h) (by rfl) (by assumption) (fun w hSw => ?_) ?_; rotate_left; focus ((try dsimp only at hSw); go_simp; try with_reducible rfl)
      try simp only [Act.put, List.setIfInBounds_toArray, List.set_cons_zero, List.set_cons_succ]
      refine heldTake (i := 5) (v := ?_) rfl (by kernel_rfl) (by kernel_rfl) (fun _ _ _ h => h) (by rfl) (by assumption) (fun w hSw => ?_) ?_; rotate_left; focus ((try dsimp only at hSw); go_simp; try with_reducible rfl)
      try simp only [Act.put, List.setIfInBounds_toArray, List.set_cons_zero, List.set_cons_succ]
      refine heldTake (i := 10) (v := ?_) rfl (by kernel_rfl) (by kernel_rfl) (fun _ _ _ h => h) (by rfl) (by assumption) (fun w hSw => ?_) ?_; rotate_left; focus ((try dsimp only at hSw); go_simp; try with_reducible rfl)
      try simp only [Act.put, List.setIfInBounds_toArray, List.set_cons_zero, List.set_cons_succ]
      -- TWO 11 Op.call { callee := Callee.value (Operand.func 8), args := #[Operand.tmp 59], ar | 16 Op.alloc 26
      refine heldTwo (i := 11) (j := 16) rfl rfl (by kernel_rfl) (by rfl) (by rfl) (fun K hK => ?_) (fun K hK => ?_)
      · go_simp; (try rw [HTA.out]); go_at_call 8; refine (SRC.out W1 (HSP.out.below HBW1.out)).mono ?_; rintro e w2 hP; obtain ⟨a1, c1, u1, d1, hbn, rfl, _⟩ := HOUT.out _ _ _ hP; clear hP; have HBw2 := Lib.hid (HBW1.out.trans (hbn.mono HBW1.out.size)); replace HN := Lib.hid ((hbn.block _ (Array.getElem?_eq_some_iff.1 HN.out).1).trans HN.out); clear hbn; have hSS := (⟨SC.out _ HBw2.out, cell_of_row _ _ _ _ _ _ HN.out⟩ : (w2.cell? ⟨lb, k, none⟩ = some (.string ⟨X.toArray⟩) ∧ w2.cell? ⟨ob, k, none⟩ = some (.int .i64 (o : Int))) ∧ w2.cell? ⟨nb, 0, none⟩ = some (.string ⟨#[115, 109, 116, 112]⟩)); first | (refine hK.out _ _ hSS ?_) | (go_wp2_with fail; refine hK.out _ _ hSS ?_); clear hK K
        try simp only [Act.put, List.setIfInBounds_toArray, List.set_cons_zero, List.set_cons_succ]
        refine heldTake (i := 12) (v := ?_) rfl (by kernel_rfl) (by kernel_rfl) (fun _ _ _ h => h) (by rfl) (by assumption) (fun w hSw => ?_) ?_; rotate_left; focus ((try dsimp only at hSw); go_simp; try with_reducible rfl)
        try simp only [Act.put, List.setIfInBounds_toArray, List.set_cons_zero, List.set_cons_succ]
        refine heldTake (i := 13) (v := ?_) rfl (by kernel_rfl) (by kernel_rfl) (fun _ _ _ h => h) (by rfl) (by assumption) (fun w hSw => ?_) ?_; rotate_left; focus ((try dsimp only at hSw); go_simp; try with_reducible rfl)
        try simp only [Act.put, List.setIfInBounds_toArray, List.set_cons_zero, List.set_cons_succ]
        refine heldTake (i := 14) (v := ?_) rfl (by kernel_rfl) (by kernel_rfl) (fun _ _ _ h => h) (by rfl) (by assumption) (fun w hSw => ?_) ?_; rotate_left; focus ((try dsimp only at hSw); go_simp; try with_reducible rfl)
        try simp only [Act.put, List.setIfInBounds_toArray, List.set_cons_zero, List.set_cons_succ]
        refine heldTake (i := 15) (v := ?_) rfl (by kernel_rfl) (by kernel_rfl) (fun _ _ _ h => h) (by rfl) (by assumption) (fun w hSw => ?_) ?_; rotate_left; focus ((try dsimp only at hSw); go_simp; try with_reducible rfl)
        try simp only [Act.put, List.setIfInBounds_toArray, List.set_cons_zero, List.set_cons_succ]
        -- NEXT 16 Op.alloc 26
        refine heldNext (i := 16) rfl (by kernel_rfl) (by rfl) (fun K hK => ?_)
        go_simp
        obtain ⟨W3, hn⟩ : ∃ x, w2.alloc (.cells #[.int .i64 0, .slice none 0 0, .slice none 0 0] 26) = x := ⟨_, rfl⟩
        obtain ⟨pb, hnb⟩ : ∃ b, w2.heap.size = b := ⟨_, rfl⟩
        have hbn : Below w2.heap.size w2 W3 := by rw [← hn]; exact (Below.refl _ _).alloc (Nat.le_refl _) _
        have hcn : H3 W3 pb [.int .i64 0, .slice none 0 0, .slice none 0 0] := by rw [← hnb, ← hn]; exact heap_alloc_new _ _
        rw [hn, hnb]
        have HBW3 := Lib.hid (HBw2.out.trans (hbn.mono HBw2.out.size))
        have HZ := Lib.hid (⟨hcn, by rw [← hnb]; exact HBw2.out.size⟩ : H3 W3 pb [.int .i64 0, .slice none 0 0, .slice none 0 0] ∧ W0.heap.size ≤ pb)
        replace HN := Lib.hid ((hbn.block _ (Array.getElem?_eq_some_iff.1 HN.out).1).trans HN.out)
        have hSS := (⟨SC.out _ HBW3.out, cell_of_row _ _ _ _ _ _ HN.out⟩ : (W3.cell? ⟨lb, k, none⟩ = some (.string ⟨X.toArray⟩) ∧ W3.cell? ⟨ob, k, none⟩ = some (.int .i64 (o : Int))) ∧ W3.cell? ⟨nb, 0, none⟩ = some (.string ⟨#[115, 109, 116, 112]⟩))
        clear hn hnb hbn hcn
        refine hK.out _ _ hSS ?_; clear hK K
        try simp only [Act.put, List.setIfInBounds_toArray, List.set_cons_zero, List.set_cons_succ]
        -- NEXT 17 Op.store 26 (Operand.tmp 11) (Operand.tmp 61)
        refine heldNext (i := 17) rfl (by kernel_rfl) (by rfl) (fun K hK => ?_)
        have zc0 := HZ.out.1.cell (i := 0) rfl
        have zc1 := HZ.out.1.cell (i := 1) rfl
        have zc2 := HZ.out.1.cell (i := 2) rfl
        have zf0 := HZ.out.1.fr 0
        have zf1 := HZ.out.1.fr 1
        have zf2 := HZ.out.1.fr 2
        have hnp : nb ≠ pb := fun e => by have h1 := HN.out; have h2 := HZ.out.1; unfold H3 at h2; rw [e, h2] at h1; cases h1
        have HBF := Lib.hid (below_setN pb [.int .i64 (md : Int), .slice a1 row.length c1, .slice u1 top.length d1] 0 HZ.out.2 HBW3.out)
        have HNF : Hid ((setN W3 pb 0 [.int .i64 (md : Int), .slice a1 row.length c1, .slice u1 top.length d1]).heap[nb]? = _) := Lib.hid ((setN_other hnp [.int .i64 (md : Int), .slice a1 row.length c1, .slice u1 top.length d1] 0).trans HN.out)
        have hSS := (⟨SC.out _ HBF.out, cell_of_row _ _ _ _ _ _ HNF.out⟩ : ((setN W3 pb 0 [.int .i64 (md : Int), .slice a1 row.length c1, .slice u1 top.length d1]).cell? ⟨lb, k, none⟩ = some (.string ⟨X.toArray⟩) ∧ (setN W3 pb 0 [.int .i64 (md : Int), .slice a1 row.length c1, .slice u1 top.length d1]).cell? ⟨ob, k, none⟩ = some (.int .i64 (o : Int))) ∧ (setN W3 pb 0 [.int .i64 (md : Int), .slice a1 row.length c1, .slice u1 top.length d1]).cell? ⟨nb, 0, none⟩ = some (.string ⟨#[115, 109, 116, 112]⟩))
        go_simp
        refine hK.out _ (setN W3 pb 0 [.int .i64 (md : Int), .slice a1 row.length c1, .slice u1 top.length d1]) hSS ?_; clear hK K
        clear zc0 zc1 zc2 zf0 zf1 zf2
        generalize setN W3 pb 0 [.int .i64 (md : Int), .slice a1 row.length c1, .slice u1 top.length d1] = WF at HBF hSS ⊢
        try simp only [Act.put, List.setIfInBounds_toArray, List.set_cons_zero, List.set_cons_succ]
        refine heldTake (i := 18) (v := ?_) rfl (by kernel_rfl) (by kernel_rfl) (fun _ _ _ h => h) (by rfl) (by assumption) (fun w hSw => ?_) ?_; rotate_left; focus ((try dsimp only at hSw); go_simp; try with_reducible rfl)
        try simp only [Act.put, List.setIfInBounds_toArray, List.set_cons_zero, List.set_cons_succ]
        refine heldTake (i := 19) (v := ?_) rfl (by kernel_rfl) (by kernel_rfl) (fun _ _ _ h => h) (by rfl) (by assumption) (fun w hSw => ?_) ?_; rotate_left; focus ((try dsimp only at hSw); go_simp; try with_reducible rfl)
        try simp only [Act.put, List.setIfInBounds_toArray, List.set_cons_zero, List.set_cons_succ]
        refine wpAnyH_done (by kernel_rfl) ?_ _
        simp only [Exit.then]
        go_step
        go_meet
        exact ⟨rfl, rfl, HBF⟩
      · go_simp
        obtain ⟨W3, hn⟩ : ∃ x, W1.alloc (.cells #[.int .i64 0, .slice none 0 0, .slice none 0 0] 26) = x := ⟨_, rfl⟩
        obtain ⟨pb, hnb⟩ : ∃ b, W1.heap.size = b := ⟨_, rfl⟩
        have hbn : Below W1.heap.size W1 W3 := by rw [← hn]; exact (Below.refl _ _).alloc (Nat.le_refl _) _
        have hcn : H3 W3 pb [.int .i64 0, .slice none 0 0, .slice none 0 0] := by rw [← hnb, ← hn]; exact heap_alloc_new _ _
        rw [hn, hnb]
        have HBW3 := Lib.hid (HBW1.out.trans (hbn.mono HBW1.out.size))
        have HZ := Lib.hid (⟨hcn, by rw [← hnb]; exact HBW1.out.size⟩ : H3 W3 pb [.int .i64 0, .slice none 0 0, .slice none 0 0] ∧ W0.heap.size ≤ pb)
        replace HN := Lib.hid ((hbn.block _ (Array.getElem?_eq_some_iff.1 HN.out).1).trans HN.out)
        have hSS := (⟨SC.out _ HBW3.out, cell_of_row _ _ _ _ _ _ HN.out⟩ : (W3.cell? ⟨lb, k, none⟩ = some (.string ⟨X.toArray⟩) ∧ W3.cell? ⟨ob, k, none⟩ = some (.int .i64 (o : Int))) ∧ W3.cell? ⟨nb, 0, none⟩ = some (.string ⟨#[115, 109, 116, 112]⟩))
        clear hn hnb hbn hcn
        refine hK.out _ _ hSS ?_; clear hK K
        try simp only [Act.put, List.setIfInBounds_toArray, List.set_cons_zero, List.set_cons_succ]
        -- NEXT 11 Op.call { callee := Callee.value (Operand.func 8), args := #[Operand.tmp 59], argTypes := #[9] }
        refine heldNext (i := 11) rfl (by kernel_rfl) (by rfl) (fun K hK => ?_)
        go_simp; (try rw [HTA.out]); go_at_call 8; refine (SRC.out W3 (HSP.out.below HBW3.out)).mono ?_; rintro e w2 hP; obtain ⟨a1, c1, u1, d1, hbn, rfl, _⟩ := HOUT.out _ _ _ hP; clear hP; have HBw2 := Lib.hid (HBW3.out.trans (hbn.mono HBW3.out.size)); replace HN := Lib.hid ((hbn.block _ (Array.getElem?_eq_some_iff.1 HN.out).1).trans HN.out); replace HZ := Lib.hid (⟨HZ.out.1.below hbn HZ.out.1.lt, HZ.out.2⟩ : H3 w2 pb _ ∧ _); clear hbn; have hSS := (⟨SC.out _ HBw2.out, cell_of_row _ _ _ _ _ _ HN.out⟩ : (w2.cell? ⟨lb, k, none⟩ = some (.string ⟨X.toArray⟩) ∧ w2.cell? ⟨ob, k, none⟩ = some (.int .i64 (o : Int))) ∧ w2.cell? ⟨nb, 0, none⟩ = some (.string ⟨#[115, 109, 116, 112]⟩)); first | (refine hK.out _ _ hSS ?_) | (go_wp2_with fail; refine hK.out _ _ hSS ?_); clear hK K
        try simp only [Act.put, List.setIfInBounds_toArray, List.set_cons_zero, List.set_cons_succ]
        refine heldTake (i := 12) (v := ?_) rfl (by kernel_rfl) (by kernel_rfl) (fun _ _ _ h => h) (by rfl) (by assumption) (fun w hSw => ?_) ?_; rotate_left; focus ((try dsimp only at hSw); go_simp; try with_reducible rfl)
        try simp only [Act.put, List.setIfInBounds_toArray, List.set_cons_zero, List.set_cons_succ]
        refine heldTake (i := 13) (v := ?_) rfl (by kernel_rfl) (by kernel_rfl) (fun _ _ _ h => h) (by rfl) (by assumption) (fun w hSw => ?_) ?_; rotate_left; focus ((try dsimp only at hSw); go_simp; try with_reducible rfl)
        try simp only [Act.put, List.setIfInBounds_toArray, List.set_cons_zero, List.set_cons_succ]
        refine heldTake (i := 14) (v := ?_) rfl (by kernel_rfl) (by kernel_rfl) (fun _ _ _ h => h) (by rfl) (by assumption) (fun w hSw => ?_) ?_; rotate_left; focus ((try dsimp only at hSw); go_simp; try with_reducible rfl)
        try simp only [Act.put, List.setIfInBounds_toArray, List.set_cons_zero, List.set_cons_succ]
        refine heldTake (i := 15) (v := ?_) rfl (by kernel_rfl) (by kernel_rfl) (fun _ _ _ h => h) (by rfl) (by assumption) (fun w hSw => ?_) ?_; rotate_left; focus ((try dsimp only at hSw); go_simp; try with_reducible rfl)
        try simp only [Act.put, List.setIfInBounds_toArray, List.set_cons_zero, List.set_cons_succ]
        -- NEXT 17 Op.store 26 (Operand.tmp 11) (Operand.tmp 61)
        refine heldNext (i := 17) rfl (by kernel_rfl) (by rfl) (fun K hK => ?_)
        have zc0 := HZ.out.1.cell (i := 0) rfl
        have zc1 := HZ.out.1.cell (i := 1) rfl
        have zc2 := HZ.out.1.cell (i := 2) rfl
        have zf0 := HZ.out.1.fr 0
        have zf1 := HZ.out.1.fr 1
        have zf2 := HZ.out.1.fr 2
        have hnp : nb ≠ pb := fun e => by have h1 := HN.out; have h2 := HZ.out.1; unfold H3 at h2; rw [e, h2] at h1; cases h1
        have HBF := Lib.hid (below_setN pb [.int .i64 (md : Int), .slice a1 row.length c1, .slice u1 top.length d1] 0 HZ.out.2 HBw2.out)
        have HNF : Hid ((setN w2 pb 0 [.int .i64 (md : Int), .slice a1 row.length c1, .slice u1 top.length d1]).heap[nb]? = _) := Lib.hid ((setN_other hnp [.int .i64 (md : Int), .slice a1 row.length c1, .slice u1 top.length d1] 0).trans HN.out)
        have hSS := (⟨SC.out _ HBF.out, cell_of_row _ _ _ _ _ _ HNF.out⟩ : ((setN w2 pb 0 [.int .i64 (md : Int), .slice a1 row.length c1, .slice u1 top.length d1]).cell? ⟨lb, k, none⟩ = some (.string ⟨X.toArray⟩) ∧ (setN w2 pb 0 [.int .i64 (md : Int), .slice a1 row.length c1, .slice u1 top.length d1]).cell? ⟨ob, k, none⟩ = some (.int .i64 (o : Int))) ∧ (setN w2 pb 0 [.int .i64 (md : Int), .slice a1 row.length c1, .slice u1 top.length d1]).cell? ⟨nb, 0, none⟩ = some (.string ⟨#[115, 109, 116, 112]⟩))
        go_simp
        refine hK.out _ (setN w2 pb 0 [.int .i64 (md : Int), .slice a1 row.length c1, .slice u1 top.length d1]) hSS ?_; clear hK K
        clear zc0 zc1 zc2 zf0 zf1 zf2
        generalize setN w2 pb 0 [.int .i64 (md : Int), .slice a1 row.length c1, .slice u1 top.length d1] = WF at HBF hSS ⊢
        try simp only [Act.put, List.setIfInBounds_toArray, List.set_cons_zero, List.set_cons_succ]
        refine heldTake (i := 18) (v := ?_) rfl (by kernel_rfl) (by kernel_rfl) (fun _ _ _ h => h) (by rfl) (by assumption) (fun w hSw => ?_) ?_; rotate_left; focus ((try dsimp only at hSw); go_simp; try with_reducible rfl)
        try simp only [Act.put, List.setIfInBounds_toArray, List.set_cons_zero, List.set_cons_succ]
        refine heldTake (i := 19) (v := ?_) rfl (by kernel_rfl) (by kernel_rfl) (fun _ _ _ h => h) (by rfl) (by assumption) (fun w hSw => ?_) ?_; rotate_left; focus ((try dsimp only at hSw); go_simp; try with_reducible rfl)
        try simp only [Act.put, List.setIfInBounds_toArray, List.set_cons_zero, List.set_cons_succ]
        refine wpAnyH_done (by kernel_rfl) ?_ _
        simp only [Exit.then]
        go_step
        go_meet
        exact ⟨rfl, rfl, HBF⟩
    · go_simp
      obtain ⟨W3, hn⟩ : ∃ x, W.alloc (.cells #[.int .i64 0, .slice none 0 0, .slice none 0 0] 26) = x := ⟨_, rfl⟩
      obtain ⟨pb, hnb⟩ : ∃ b, W.heap.size = b := ⟨_, rfl⟩
      have hbn : Below W.heap.size W W3 := by rw [← hn]; exact (Below.refl _ _).alloc (Nat.le_refl _) _
      have hcn : H3 W3 pb [.int .i64 0, .slice none 0 0, .slice none 0 0] := by rw [← hnb, ← hn]; exact heap_alloc_new _ _
      rw [hn, hnb]
      have HBW3 := Lib.hid (HB.out.trans (hbn.mono HB.out.size))
      have HZ := Lib.hid (⟨hcn, by rw [← hnb]; exact HB.out.size⟩ : H3 W3 pb [.int .i64 0, .slice none 0 0, .slice none 0 0] ∧ W0.heap.size ≤ pb)
      clear hn hnb hbn hcn
      refine hK.out _ _ (SC.out _ HBW3.out) ?_; clear hK K
      try simp only [Act.put, List.setIfInBounds_toArray, List.set_cons_zero, List.set_cons_succ]
      -- NEXT 0 Op.buildSlice 31 3 #[(0, Operand.const (Value.string { data := #[115, 109, 116, 112] })), (1, Operand.const (V
      refine heldNext (i := 0) rfl (by kernel_rfl) (by rfl) (fun K hK => ?_)
      go_simp
      obtain ⟨W1, hn⟩ : ∃ x, W3.alloc (.cells #[.string ⟨#[115, 109, 116, 112]⟩, .string ⟨#[112, 111, 112, 51]⟩, .string ⟨#[102, 116, 112]⟩] 9) = x := ⟨_, rfl⟩
      obtain ⟨nb, hnb⟩ : ∃ b, W3.heap.size = b := ⟨_, rfl⟩
      have hbn : Below W3.heap.size W3 W1 := by rw [← hn]; exact (Below.refl _ _).alloc (Nat.le_refl _) _
      have hcn : W1.heap[nb]? = some (.cells #[.string ⟨#[115, 109, 116, 112]⟩, .string ⟨#[112, 111, 112, 51]⟩, .string ⟨#[102, 116, 112]⟩] 9 (0, 0)) := by rw [← hnb, ← hn]; exact heap_alloc_new _ _
      rw [hn, hnb]
      have HBW1 := Lib.hid (HBW3.out.trans (hbn.mono HBW3.out.size))
      have HN := Lib.hid hcn
      replace HZ := Lib.hid (⟨HZ.out.1.below hbn HZ.out.1.lt, HZ.out.2⟩ : H3 W1 pb _ ∧ _)
      clear hn hnb hbn hcn
      refine hK.out _ _ (SC.out _ HBW1.out) ?_; clear hK K
      refine heldMore (S' := fun w' => (w'.cell? ⟨lb, k, none⟩ = some (.string ⟨X.toArray⟩) ∧ w'.cell? ⟨ob, k, none⟩ = some (.int .i64 (o : Int))) ∧ w'.cell? ⟨nb, 0, none⟩ = some (.string ⟨#[115, 109, 116, 112]⟩)) (fun _ h => h.1) ?_
      have hSS := (⟨SC.out _ HBW1.out, cell_of_row _ _ _ _ _ _ HN.out⟩ : (W1.cell? ⟨lb, k, none⟩ = some (.string ⟨X.toArray⟩) ∧ W1.cell? ⟨ob, k, none⟩ = some (.int .i64 (o : Int))) ∧ W1.cell? ⟨nb, 0, none⟩ = some (.string ⟨#[115, 109, 116, 112]⟩))
      try simp only [Act.put, List.setIfInBounds_toArray, List.set_cons_zero, List.set_cons_succ]
      refine heldTake (i := 2) (v := ?_) rfl (by kernel_rfl) (by kernel_rfl) (fun _ _ _ h => h) (by rfl) (by assumption) (fun w hSw => ?_) ?_; rotate_left; focus ((try dsimp only at hSw); go_simp; try with_reducible rfl)
      try simp only [Act.put, List.setIfInBounds_toArray, List.set_cons_zero, List.set_cons_succ]
      refine heldTake (i := 3) (v := ?_) rfl (by kernel_rfl) (by kernel_rfl) (fun _ _ _ h => h) (by rfl) (by assumption) (fun w hSw => ?_) ?_; rotate_left; focus ((try dsimp only at hSw); go_simp; try with_reducible rfl)
      try simp only [Act.put, List.setIfInBounds_toArray, List.set_cons_zero, List.set_cons_succ]
      refine heldTake (i := 4) (v := ?_) rfl (by kernel_rfl) (by kernel_rfl) (fun _ _ _ h => h) (by rfl) (by assumption) (fun w hSw => ?_) ?_; rotate_left; focus ((try dsimp only at hSw); go_simp; try with_reducible rfl)
      try simp only [Act.put, List.setIfInBounds_toArray, List.set_cons_zero, List.set_cons_succ]
      refine heldTake (i := 5) (v := ?_) rfl (by kernel_rfl) (by kernel_rfl) (fun _ _ _ h => h) (by rfl) (by assumption) (fun w hSw => ?_) ?_; rotate_left; focus ((try dsimp only at hSw); go_simp; try with_reducible rfl)
      try simp only [Act.put, List.setIfInBounds_toArray, List.set_cons_zero, List.set_cons_succ]
      refine heldTake (i := 10) (v := ?_) rfl (by kernel_rfl) (by kernel_rfl) (fun _ _ _ h => h) (by rfl) (by assumption) (fun w hSw => ?_) ?_; rotate_left; focus ((try dsimp only at hSw); go_simp; try with_reducible rfl)
      try simp only [Act.put, List.setIfInBounds_toArray, List.set_cons_zero, List.set_cons_succ]
      -- NEXT 11 Op.call { callee := Callee.value (Operand.func 8), args := #[Operand.tmp 59], argTypes := #[9] }
      refine heldNext (i := 11) rfl (by kernel_rfl) (by rfl) (fun K hK => ?_)
      go_simp; (try rw [HTA.out]); go_at_call 8; refine (SRC.out W1 (HSP.out.below HBW1.out)).mono ?_; rintro e w2 hP; obtain ⟨a1, c1, u1, d1, hbn, rfl, _⟩ := HOUT.out _ _ _ hP; clear hP; have HBw2 := Lib.hid (HBW1.out.trans (hbn.mono HBW1.out.size)); replace HN := Lib.hid ((hbn.block _ (Array.getElem?_eq_some_iff.1 HN.out).1).trans HN.out); replace HZ := Lib.hid (⟨HZ.out.1.below hbn HZ.out.1.lt, HZ.out.2⟩ : H3 w2 pb _ ∧ _); clear hbn; have hSS := (⟨SC.out _ HBw2.out, cell_of_row _ _ _ _ _ _ HN.out⟩ : (w2.cell? ⟨lb, k, none⟩ = some (.string ⟨X.toArray⟩) ∧ w2.cell? ⟨ob, k, none⟩ = some (.int .i64 (o : Int))) ∧ w2.cell? ⟨nb, 0, none⟩ = some (.string ⟨#[115, 109, 116, 112]⟩)); first | (refine hK.out _ _ hSS ?_) | (go_wp2_with fail; refine hK.out _ _ hSS ?_); clear hK K
      try simp only [Act.put, List.setIfInBounds_toArray, List.set_cons_zero, List.set_cons_succ]
      refine heldTake (i := 12) (v := ?_) rfl (by kernel_rfl) (by kernel_rfl) (fun _ _ _ h => h) (by rfl) (by assumption) (fun w hSw => ?_) ?_; rotate_left; focus ((try dsimp only at hSw); go_simp; try with_reducible rfl)
      try simp only [Act.put, List.setIfInBounds_toArray, List.set_cons_zero, List.set_cons_succ]
      refine heldTake (i := 13) (v := ?_) rfl (by kernel_rfl) (by kernel_rfl) (fun _ _ _ h => h) (by rfl) (by assumption) (fun w hSw => ?_) ?_; rotate_left; focus ((try dsimp only at hSw); go_simp; try with_reducible rfl)
      try simp only [Act.put, List.setIfInBounds_toArray, List.set_cons_zero, List.set_cons_succ]
      refine heldTake (i := 14) (v := ?_) rfl (by kernel_rfl) (by kernel_rfl) (fun _ _ _ h => h) (by rfl) (by assumption) (fun w hSw => ?_) ?_; rotate_left; focus ((try dsimp only at hSw); go_simp; try with_reducible rfl)
      try simp only [Act.put, List.setIfInBounds_toArray, List.set_cons_zero, List.set_cons_succ]
      refine heldTake (i := 15) (v := ?_) rfl (by kernel_rfl) (by kernel_rfl) (fun _ _ _ h => h) (by rfl) (by assumption) (fun w hSw => ?_) ?_; rotate_left; focus ((try dsimp only at hSw); go_simp; try with_reducible rfl)
      try simp only [Act.put, List.setIfInBounds_toArray, List.set_cons_zero, List.set_cons_succ]
      -- NEXT 17 Op.store 26 (Operand.tmp 11) (Operand.tmp 61)
      refine heldNext (i := 17) rfl (by kernel_rfl) (by rfl) (fun K hK => ?_)
      have zc0 := HZ.out.1.cell (i := 0) rfl
      have zc1 := HZ.out.1.cell (i := 1) rfl
      have zc2 := HZ.out.1.cell (i := 2) rfl
      have zf0 := HZ.out.1.fr 0
      have zf1 := HZ.out.1.fr 1
      have zf2 := HZ.out.1.fr 2
      have hnp : nb ≠ pb := fun e => by have h1 := HN.out; have h2 := HZ.out.1; unfold H3 at h2; rw [e, h2] at h1; cases h1
      have HBF := Lib.hid (below_setN pb [.int .i64 (md : Int), .slice a1 row.length c1, .slice u1 top.length d1] 0 HZ.out.2 HBw2.out)
      have HNF : Hid ((setN w2 pb 0 [.int .i64 (md : Int), .slice a1 row.length c1, .slice u1 top.length d1]).heap[nb]? = _) := Lib.hid ((setN_other hnp [.int .i64 (md : Int), .slice a1 row.length c1, .slice u1 top.length d1] 0).trans HN.out)
      have hSS := (⟨SC.out _ HBF.out, cell_of_row _ _ _ _ _ _ HNF.out⟩ : ((setN w2 pb 0 [.int .i64 (md : Int), .slice a1 row.length c1, .slice u1 top.length d1]).cell? ⟨lb, k, none⟩ = some (.string ⟨X.toArray⟩) ∧ (setN w2 pb 0 [.int .i64 (md : Int), .slice a1 row.length c1, .slice u1 top.length d1]).cell? ⟨ob, k, none⟩ = some (.int .i64 (o : Int))) ∧ (setN w2 pb 0 [.int .i64 (md : Int), .slice a1 row.length c1, .slice u1 top.length d1]).cell? ⟨nb, 0, none⟩ = some (.string ⟨#[115, 109, 116, 112]⟩))
      go_simp
      refine hK.out _ (setN w2 pb 0 [.int .i64 (md : Int), .slice a1 row.length c1, .slice u1 top.length d1]) hSS ?_; clear hK K
      clear zc0 zc1 zc2 zf0 zf1 zf2
      generalize setN w2 pb 0 [.int .i64 (md : Int), .slice a1 row.length c1, .slice u1 top.length d1] = WF at HBF hSS ⊢
      try simp only [Act.put, List.setIfInBounds_toArray, List.set_cons_zero, List.set_cons_succ]
      refine heldTake (i := 18) (v := ?_) rfl (by kernel_rfl) (by kernel_rfl) (fun _ _ _ h => h) (by rfl) (by assumption) (fun w hSw => ?_) ?_; rotate_left; focus ((try dsimp only at hSw); go_simp; try with_reducible rfl)
      try simp only [Act.put, List.setIfInBounds_toArray, List.set_cons_zero, List.set_cons_succ]
      refine heldTake (i := 19) (v := ?_) rfl (by kernel_rfl) (by kernel_rfl) (fun _ _ _ h => h) (by rfl) (by assumption) (fun w hSw => ?_) ?_; rotate_left; focus ((try dsimp only at hSw); go_simp; try with_reducible rfl)
      try simp only [Act.put, List.setIfInBounds_toArray, List.set_cons_zero, List.set_cons_succ]
      refine wpAnyH_done (by kernel_rfl) ?_ _
      simp only [Exit.then]
      go_step
      go_meet
      exact ⟨rfl, rfl, HBF⟩

  case rest =>
  obtain ⟨rfl, rfl, HX⟩ := hcut
  have hob := (SC.out wc HX.out).2
  have hob2 : ∀ ox, (wc.alloc ox).cell? ⟨ob, k, none⟩ = some (.int .i64 (o : Int)) := fun ox => (SC.out _ (HX.out.alloc HX.out.size ox)).2
  have HF := Lib.hid (HB0.out.trans (HX.out.mono HSZ.out))
  have HF2 := Lib.hid (fun ox => HF.out.alloc HF.out.size ox)
  rcases HOF.out with ⟨pp, hsrc, hown⟩ | ⟨hsrc, hown⟩
  · have h0 : c = 0 ∧ p = 0 := by
      rcases HPC.out with ⟨h1, _, h2⟩ | ⟨_, h1, _⟩
      · exact ⟨h1, h2⟩
      · rw [hsrc] at h1; cases h1
    obtain ⟨rfl, rfl⟩ := h0
    rw [HOWN.out] at hown
    rcases HO5.out with rfl | rfl | rfl | rfl | rfl
    all_goals first
      | exact absurd hown (by decide)
      | (clear hown hsrc HPC HOUT SC hs0; go_wp2; go_ret; exact ⟨rfl, HF2.out _⟩)
  · have h0 : c = 30 ∧ p = 18 := by
      rcases HPC.out with ⟨_, h1, _⟩ | ⟨_, h1, _⟩
      · rw [hsrc] at h1; cases h1
      · rw [hsrc] at h1
        have h2 : (Ck.modesB 0, 30) = (p, c) := by injection h1
        exact ⟨(Prod.mk.inj h2).2.symm, (Prod.mk.inj h2).1.symm⟩
    obtain ⟨rfl, rfl⟩ := h0
    rw [HOWN.out] at hown
    rcases HO5.out with rfl | rfl | rfl | rfl | rfl
    all_goals first
      | exact absurd hown (by decide)
      | (clear hown hsrc HPC HOUT SC hs0; go_wp2; go_ret; exact ⟨rfl, HF2.out _⟩)

set_option maxRecDepth 200000 in
set_option maxHeartbeats 8000000 in
theorem modes_way1 (A B k : Nat) (hA : A < 256) (hB : B < 256) (hm : (A : Int).tmod 3 = 1) (hk : (B : Int).tmod 19 = (k : Int)) (hk19 : k < 19) (w : World) (hS : SHP w) :
    Calls Tryd.prog 4 #[.int .u8 (A : Int), .int .u8 (B : Int)] w fun e w' => e = .returned (.bool true) ∧ Below w.heap.size w w' := by
  have SW := shown_any w hS
  have SRC := Lib.hid (fun wx hx => source_any (Ck.modesT 1 k) (by have := modes_len 1 k (by decide) hk19; omega) wx hx)
  have hk19i : (k : Int) < 19 := by omega
  have hm2 : (A : Int) % 3 = 1 := by rw [← hm, Int.tmod_eq_emod_of_nonneg (by omega)]
  have hk2 : (B : Int) % 19 = (k : Int) := by rw [← hk, Int.tmod_eq_emod_of_nonneg (by omega)]
  have hci := stmts_at1 k hk19
  have hoi := owns_at k hk19
  have hsl := stmt_len 1 k (by decide) hk19
  obtain ⟨o, ho, ho5, hown⟩ := owns_of 1 k hk19
  rw [ho] at hoi
  obtain ⟨X, hX⟩ : ∃ X, Ck.stmtW (Ck.codeW 1) k = X := ⟨_, rfl⟩
  rw [hX] at hci hsl
  obtain ⟨Z, hZ⟩ : ∃ Z, X.length = Z := ⟨_, rfl⟩
  rw [hZ] at hsl
  have hxz : (⟨X.toArray⟩ : ByteArray).size = Z := hZ
  have hsum : (9223372036854775807 < 18 + Z) = False := eq_false (by omega)
  have hT : Ck.modesT 1 k = [109, 111, 100, 101, 32, 112, 111, 112, 51, 59, 108, 97, 98, 101, 108, 32, 122, 59] ++ X := by rw [← hX]; rfl
  have hTA : (⟨#[109, 111, 100, 101, 32, 112, 111, 112, 51, 59, 108, 97, 98, 101, 108, 32, 122, 59]⟩ ++ ⟨X.toArray⟩ : ByteArray) = ⟨(Ck.modesT 1 k).toArray⟩ := by rw [hT]; exact (ba_append [109, 111, 100, 101, 32, 112, 111, 112, 51, 59, 108, 97, 98, 101, 108, 32, 122, 59] X).symm
  have HOF := Lib.hid (modes_of 1 k (by decide) hk19)
  have HS := Lib.hid hS
  have HTA := Lib.hid hTA
  have HOWN := Lib.hid hown
  have HO5 := Lib.hid ho5
  have HCI := Lib.hid hci
  have HOI := Lib.hid hoi
  clear hS hT hTA hX hZ ho hown ho5 hci hoi
  go_enter Tryd.func4, Tryd.ntmps4
  go_wp2_with fail
  refine SW.mono ?_
  rintro e wa ⟨rfl, hba⟩
  have HBA := Lib.hid hba
  clear hba SW
  have sm0 : (⟨#[103, 114, 101, 101, 116, 32]⟩ ++ ⟨#[34, 43, 34]⟩ : ByteArray) = ⟨#[103, 114, 101, 101, 116, 32, 34, 43, 34]⟩ := ba_append [103, 114, 101, 101, 116, 32] [34, 43, 34]
  have sm1 : (⟨#[103, 114, 101, 101, 116, 32, 34, 43, 34]⟩ ++ ⟨#[59]⟩ : ByteArray) = ⟨#[103, 114, 101, 101, 116, 32, 34, 43, 34, 59]⟩ := ba_append [103, 114, 101, 101, 116, 32, 34, 43, 34] [59]
  have sm2 : (⟨#[115, 101, 110, 100, 32, 34, 120, 34, 32]⟩ ++ ⟨#[34, 43, 34]⟩ : ByteArray) = ⟨#[115, 101, 110, 100, 32, 34, 120, 34, 32, 34, 43, 34]⟩ := ba_append [115, 101, 110, 100, 32, 34, 120, 34, 32] [34, 43, 34]
  have sm3 : (⟨#[115, 101, 110, 100, 32, 34, 120, 34, 32, 34, 43, 34]⟩ ++ ⟨#[59]⟩ : ByteArray) = ⟨#[115, 101, 110, 100, 32, 34, 120, 34, 32, 34, 43, 34, 59]⟩ := ba_append [115, 101, 110, 100, 32, 34, 120, 34, 32, 34, 43, 34] [59]
  have sm4 : (⟨#[99, 97, 112, 115, 32, 34, 120, 34, 32]⟩ ++ ⟨#[34, 43, 34]⟩ : ByteArray) = ⟨#[99, 97, 112, 115, 32, 34, 120, 34, 32, 34, 43, 34]⟩ := ba_append [99, 97, 112, 115, 32, 34, 120, 34, 32] [34, 43, 34]
  have sm5 : (⟨#[99, 97, 112, 115, 32, 34, 120, 34, 32, 34, 43, 34]⟩ ++ ⟨#[59]⟩ : ByteArray) = ⟨#[99, 97, 112, 115, 32, 34, 120, 34, 32, 34, 43, 34, 59]⟩ := ba_append [99, 97, 112, 115, 32, 34, 120, 34, 32, 34, 43, 34] [59]
  have sm6 : (⟨#[105, 102, 32, 99, 111, 100, 101, 32]⟩ ++ ⟨#[34, 43, 34]⟩ : ByteArray) = ⟨#[105, 102, 32, 99, 111, 100, 101, 32, 34, 43, 34]⟩ := ba_append [105, 102, 32, 99, 111, 100, 101, 32] [34, 43, 34]
  have sm7 : (⟨#[105, 102, 32, 99, 111, 100, 101, 32, 34, 43, 34]⟩ ++ ⟨#[32, 123, 125]⟩ : ByteArray) = ⟨#[105, 102, 32, 99, 111, 100, 101, 32, 34, 43, 34, 32, 123, 125]⟩ := ba_append [105, 102, 32, 99, 111, 100, 101, 32, 34, 43, 34] [32, 123, 125]
  have sm8 : (⟨#[100, 97, 116, 97, 32, 34, 120, 34, 32]⟩ ++ ⟨#[34, 43, 34]⟩ : ByteArray) = ⟨#[100, 97, 116, 97, 32, 34, 120, 34, 32, 34, 43, 34]⟩ := ba_append [100, 97, 116, 97, 32, 34, 120, 34, 32] [34, 43, 34]
  have sm9 : (⟨#[100, 97, 116, 97, 32, 34, 120, 34, 32, 34, 43, 34]⟩ ++ ⟨#[59]⟩ : ByteArray) = ⟨#[100, 97, 116, 97, 32, 34, 120, 34, 32, 34, 43, 34, 59]⟩ := ba_append [100, 97, 116, 97, 32, 34, 120, 34, 32, 34, 43, 34] [59]
  have sm10 : (⟨#[98, 111, 100, 121, 32, 98, 32, 34, 120, 34, 32]⟩ ++ ⟨#[34, 43, 34]⟩ : ByteArray) = ⟨#[98, 111, 100, 121, 32, 98, 32, 34, 120, 34, 32, 34, 43, 34]⟩ := ba_append [98, 111, 100, 121, 32, 98, 32, 34, 120, 34, 32] [34, 43, 34]
  have sm11 : (⟨#[98, 111, 100, 121, 32, 98, 32, 34, 120, 34, 32, 34, 43, 34]⟩ ++ ⟨#[59]⟩ : ByteArray) = ⟨#[98, 111, 100, 121, 32, 98, 32, 34, 120, 34, 32, 34, 43, 34, 59]⟩ := ba_append [98, 111, 100, 121, 32, 98, 32, 34, 120, 34, 32, 34, 43, 34] [59]
  have sm12 : (⟨#[109, 111, 100, 101, 32]⟩ ++ ⟨#[112, 111, 112, 51]⟩ : ByteArray) = ⟨#[109, 111, 100, 101, 32, 112, 111, 112, 51]⟩ := ba_append [109, 111, 100, 101, 32] [112, 111, 112, 51]
  have sm13 : (⟨#[109, 111, 100, 101, 32, 112, 111, 112, 51]⟩ ++ ⟨#[59, 108, 97, 98, 101, 108, 32, 122, 59]⟩ : ByteArray) = ⟨#[109, 111, 100, 101, 32, 112, 111, 112, 51, 59, 108, 97, 98, 101, 108, 32, 122, 59]⟩ := ba_append [109, 111, 100, 101, 32, 112, 111, 112, 51] [59, 108, 97, 98, 101, 108, 32, 122, 59]
  go_upto_region 7 with fail
  obtain ⟨W0, hW0⟩ : ∃ x, ((wa.alloc (.cells #[.string ⟨#[34, 50, 34]⟩, .string ⟨#[34, 43, 34]⟩, .string ⟨#[34, 50, 34]⟩] 9)).alloc (.cells #[.string ⟨#[108, 101, 116, 32, 97, 32, 61, 32, 34, 120, 34, 59]⟩, .string ⟨#[103, 114, 101, 101, 116, 32, 34, 43, 34, 59]⟩, .string ⟨#[115, 101, 110, 100, 32, 34, 120, 34, 32, 34, 43, 34, 59]⟩, .string ⟨#[99, 97, 112, 115, 32, 34, 120, 34, 32, 34, 43, 34, 59]⟩, .string ⟨#[105, 102, 32, 99, 97, 112, 32, 34, 120, 34, 32, 123, 125]⟩, .string ⟨#[105, 102, 32, 99, 111, 100, 101, 32, 34, 43, 34, 32, 123, 125]⟩, .string ⟨#[116, 105, 109, 101, 111, 117, 116, 32, 49, 59]⟩, .string ⟨#[108, 97, 98, 101, 108, 32, 108, 59]⟩, .string ⟨#[111, 110, 32, 122, 59]⟩, .string ⟨#[103, 111, 116, 111, 32, 122, 59]⟩, .string ⟨#[112, 114, 105, 110, 116, 32, 34, 120, 34, 59]⟩, .string ⟨#[115, 116, 111, 112, 59]⟩, .string ⟨#[112, 105, 112, 101, 32, 49, 32, 123, 125]⟩, .string ⟨#[97, 117, 116, 104, 32, 112, 108, 97, 105, 110, 32, 34, 97, 34, 32, 34, 98, 34, 59]⟩, .string ⟨#[97, 117, 116, 104, 32, 97, 112, 111, 112, 32, 34, 97, 34, 32, 34, 98, 34, 59]⟩, .string ⟨#[100, 97, 116, 97, 32, 34, 120, 34, 32, 34, 43, 34, 59]⟩, .string ⟨#[98, 111, 100, 121, 32, 98, 32, 34, 120, 34, 32, 34, 43, 34, 59]⟩, .string ⟨#[103, 101, 116, 32, 98, 32, 34, 120, 34, 59]⟩, .string ⟨#[112, 117, 116, 32, 34, 120, 34, 32, 34, 121, 34, 59]⟩] 9)).alloc (.cells #[.int .i64 7, .int .i64 7, .int .i64 7, .int .i64 7, .int .i64 7, .int .i64 7, .int .i64 7, .int .i64 7, .int .i64 7, .int .i64 7, .int .i64 7, .int .i64 7, .int .i64 3, .int .i64 3, .int .i64 2, .int .i64 1, .int .i64 2, .int .i64 4, .int .i64 4] 3) = x := ⟨_, rfl⟩
  rw [hW0]
  obtain ⟨lb, hlb⟩ : ∃ x, wa.heap.size + 1 = x := ⟨_, rfl⟩
  obtain ⟨ob, hob⟩ : ∃ x, wa.heap.size + 1 + 1 = x := ⟨_, rfl⟩
  have hb0 : Below wa.heap.size wa W0 := by rw [← hW0]; exact (((Below.refl _ _).alloc (Nat.le_refl _) _).alloc (by simp) _).alloc (by simp; omega) _
  have hL : W0.heap[lb]? = some (.cells stmtsA1 9 (0, 0)) := by
    rw [← hlb, ← hW0]
    refine (Below.heap_alloc _ _ _ (by simp)).trans ?_
    have := heap_alloc_new (wa.alloc (.cells #[.string ⟨#[34, 50, 34]⟩, .string ⟨#[34, 43, 34]⟩, .string ⟨#[34, 50, 34]⟩] 9)) (.cells stmtsA1 9)
    rwa [World.size_alloc] at this
  have hO : W0.heap[ob]? = some (.cells ownsA 3 (0, 0)) := by
    rw [← hob, ← hW0]
    have := heap_alloc_new ((wa.alloc (.cells #[.string ⟨#[34, 50, 34]⟩, .string ⟨#[34, 43, 34]⟩, .string ⟨#[34, 50, 34]⟩] 9)).alloc (.cells stmtsA1 9)) (.cells ownsA 3)
    rwa [World.size_alloc, World.size_alloc] at this
  rw [hob, hlb]
  have hcl : W0.cell? ⟨lb, k, none⟩ = some (.string ⟨X.toArray⟩) := (cell_of_row _ _ _ _ _ _ hL).trans HCI.out
  have hco : W0.cell? ⟨ob, k, none⟩ = some (.int .i64 (o : Int)) := (cell_of_row _ _ _ _ _ _ hO).trans HOI.out
  have hll : lb < W0.heap.size := (Array.getElem?_eq_some_iff.1 hL).1
  have hol : ob < W0.heap.size := (Array.getElem?_eq_some_iff.1 hO).1
  have SC := Lib.hid (fun (w' : World) (hb : Below W0.heap.size W0 w') => (⟨(hb.cell (show (⟨lb, k, none⟩ : Addr).block < W0.heap.size from hll)).trans hcl, (hb.cell (show (⟨ob, k, none⟩ : Addr).block < W0.heap.size from hol)).trans hco⟩ : w'.cell? ⟨lb, k, none⟩ = some (.string ⟨X.toArray⟩) ∧ w'.cell? ⟨ob, k, none⟩ = some (.int .i64 (o : Int))))
  have hs0 : W0.cell? ⟨lb, k, none⟩ = some (.string ⟨X.toArray⟩) ∧ W0.cell? ⟨ob, k, none⟩ = some (.int .i64 (o : Int)) := ⟨hcl, hco⟩
  have HB0 := Lib.hid (HBA.out.trans (hb0.mono HBA.out.size))
  have HSP := Lib.hid (HS.out.below (HBA.out.trans (hb0.mono HBA.out.size)))
  have HSZ := Lib.hid (Nat.le_trans HBA.out.size hb0.size)
  obtain ⟨md, row, top, p, c, _, hpc, hout⟩ := source_out (Ck.modesT 1 k)
  have HPC := Lib.hid hpc
  have HOUT := Lib.hid hout
  clear hW0 hlb hob hL hO hcl hco hll hol hb0 hpc hout HCI HOI
  go_cut [11, 12, 13] from 48 to 63 (fun s11 s12 s13 wx => s12 = .int .i64 (p : Int) ∧ s13 = .int .i64 (c : Int) ∧ Hid (Below W0.heap.size W0 wx))
  case first =>
    have HB := Lib.hid (⟨rfl, rfl, rfl, Nat.le_refl _, fun _ _ => rfl⟩ : Below W0.heap.size W0 W0.drew)
    refine wp_region_held_drew (S := fun w' => w'.cell? ⟨lb, k, none⟩ = some (.string ⟨X.toArray⟩) ∧ w'.cell? ⟨ob, k, none⟩ = some (.int .i64 (o : Int))) (by kernel_rfl) hs0 (fun hH => ?_)
    generalize W0.drew = W at *
    refine heldTake (i := 1) (v := ?_) rfl (by kernel_rfl) (by kernel_rfl) (fun _ _ _ h => h) (by rfl) (by assumption) (fun w hSw => ?_) ?_; rotate_left; focus ((try dsimp only at hSw); go_simp; try with_reducible rfl)
    try simp only [Act.put, List.setIfInBounds_toArray, List.set_cons_zero, List.set_cons_succ]
    refine heldTake (i := 6) (v := ?_) rfl (by kernel_rfl) (by kernel_rfl) (fun _ _ _ h => h) (by rfl) (by assumption) (fun w hSw => ?_) ?_; rotate_left; focus ((try dsimp only at hSw); go_simp; try with_reducible rfl)
    try simp only [Act.put, List.setIfInBounds_toArray, List.set_cons_zero, List.set_cons_succ]
    refine heldTake (i := 7) (v := ?_) rfl (by kernel_rfl) (by kernel_rfl) (fun _ _ _ h => h) (by rfl) (by assumption) (fun w hSw => ?_) ?_; rotate_left; focus ((try dsimp only at hSw); go_simp; try with_reducible rfl)
    try simp only [Act.put, List.setIfInBounds_toArray, List.set_cons_zero, List.set_cons_succ]
    refine heldTake (i := 8) (v := ?_) rfl (by kernel_rfl) (by kernel_rfl) (fun _ _ _ h => h) (by rfl) (by assumption) (fun w hSw => ?_) ?_; rotate_left; focus ((try dsimp only at hSw); go_simp; try with_reducible rfl)
    try simp only [Act.put, List.setIfInBounds_toArray, List.set_cons_zero, List.set_cons_succ]
    refine heldTake (i := 9) (v := ?_) rfl (by kernel_rfl) (by kernel_rfl) (fun _ _ _ h => h) (by rfl) (by assumption) (fun w hSw => ?_) ?_; rotate_left; focus ((try dsimp only at hSw); go_simp; try with_reducible rfl)
    try simp only [Act.put, List.setIfInBounds_toArray, List.set_cons_zero, List.set_cons_succ]
    -- TWO 0 Op.buildSlice 31 3 #[(0, Operand.const (Value.string { data := #[115, 109, 116,  | 16 Op.alloc 26
    refine heldTwo (i := 0) (j := 16) rfl rfl (by kernel_rfl) (by rfl) (by rfl) (fun K hK => ?_) (fun K hK => ?_)
    · go_simp
      obtain ⟨W1, hn⟩ : ∃ x, W.alloc (.cells #[.string ⟨#[115, 109, 116, 112]⟩, .string ⟨#[112, 111, 112, 51]⟩, .string ⟨#[102, 116, 112]⟩] 9) = x := ⟨_, rfl⟩
      obtain ⟨nb, hnb⟩ : ∃ b, W.heap.size = b := ⟨_, rfl⟩
      have hbn : Below W.heap.size W W1 := by rw [← hn]; exact (Below.refl _ _).alloc (Nat.le_refl _) _
      have hcn : W1.heap[nb]? = some (.cells #[.string ⟨#[115, 109, 116, 112]⟩, .string ⟨#[112, 111, 112, 51]⟩, .string ⟨#[102, 116, 112]⟩] 9 (0, 0)) := by rw [← hnb, ← hn]; exact heap_alloc_new _ _
      rw [hn, hnb]
      have HBW1 := Lib.hid (HB.out.trans (hbn.mono HB.out.size))
      have HN := Lib.hid hcn
      clear hn hnb hbn hcn
      refine hK.out _ _ (SC.out _ HBW1.out) ?_; clear hK K
      refine heldMore (S' := fun w' => (w'.cell? ⟨lb, k, none⟩ = some (.string ⟨X.toArray⟩) ∧ w'.cell? ⟨ob, k, none⟩ = some (.int .i64 (o : Int))) ∧ w'.cell? ⟨nb, 1, none⟩ = some (.string ⟨#[112, 111, 112, 51]⟩)) (fun _ h => h.1) ?_
      have hSS := (⟨SC.out _ HBW1.out, cell_of_row _ _ _ _ _ _ HN.out⟩ : (W1.cell? ⟨lb, k, none⟩ = some (.string ⟨X.toArray⟩) ∧ W1.cell? ⟨ob, k, none⟩ = some (.int .i64 (o : Int))) ∧ W1.cell? ⟨nb, 1, none⟩ = some (.string ⟨#[112, 111, 112, 51]⟩))
      try simp only [Act.put, List.setIfInBounds_toArray, List.set_cons_zero, List.set_cons_succ]
      refine heldTake (i := 2) (v := ?_) rfl (by kernel_rfl) (by kernel_rfl) (fun _ _ _ h => h) (by rfl) (by assumption) (fun w hSw => ?_) ?_; rotate_left; focus ((try dsimp only at hSw); go_simp; try with_reducible rfl)
      try simp only [Act.put, List.setIfInBounds_toArray, List.set_cons_zero, List.set_cons_succ]
      refine heldTake (i := 3) (v := ?_) rfl (by kernel_rfl) (by kernel_rfl) (fun _ _ _ h => h) (by rfl) (by assumption) (fun w hSw => ?_) ?_; rotate_left; focus ((try dsimp only at hSw); go_simp; try with_reducible rfl)
      try simp only [Act.put, List.setIfInBounds_toArray, List.set_cons_zero, List.set_cons_succ]
      refine heldTake (i := 4) (v := ?_) rfl (by kernel_rfl) (by kernel_rfl) (fun _ _ _ h => h) (by rfl) (by assumption) (fun w hSw => ?_) ?_; rotate_left; focus ((try dsimp only at hSw); go_simp; try with_reducible rfl)
      try simp only [Act.put, List.setIfInBounds_toArray, List.set_cons_zero, List.set_cons_succ]
      refine heldTake (i := 5) (v := ?_) rfl (by kernel_rfl) (by kernel_rfl) (fun _ _ _ h => h) (by rfl) (by assumption) (fun w hSw => ?_) ?_; rotate_left; focus ((try dsimp only at hSw); go_simp; try with_reducible rfl)
      try simp only [Act.put, List.setIfInBounds_toArray, List.set_cons_zero, List.set_cons_succ]
      refine heldTake (i := 10) (v := ?_) rfl (by kernel_rfl) (by kernel_rfl) (fun _ _ _ h => h) (by rfl) (by assumption) (fun w hSw => ?_) ?_; rotate_left; focus ((try dsimp only at hSw); go_simp; try with_reducible rfl)
      try simp only [Act.put, List.setIfInBounds_toArray, List.set_cons_zero, List.set_cons_succ]
      -- TWO 11 Op.call { callee := Callee.value (Operand.func 8), args := #[Operand.tmp 59], ar | 16 Op.alloc 26
      refine heldTwo (i := 11) (j := 16) rfl rfl (by kernel_rfl) (by rfl) (by rfl) (fun K hK => ?_) (fun K hK => ?_)
      · go_simp; (try rw [HTA.out]); go_at_call 8; refine (SRC.out W1 (HSP.out.below HBW1.out)).mono ?_; rintro e w2 hP; obtain ⟨a1, c1, u1, d1, hbn, rfl, _⟩ := HOUT.out _ _ _ hP; clear hP; have HBw2 := Lib.hid (HBW1.out.trans (hbn.mono HBW1.out.size)); replace HN := Lib.hid ((hbn.block _ (Array.getElem?_eq_some_iff.1 HN.out).1).trans HN.out); clear hbn; have hSS := (⟨SC.out _ HBw2.out, cell_of_row _ _ _ _ _ _ HN.out⟩ : (w2.cell? ⟨lb, k, none⟩ = some (.string ⟨X.toArray⟩) ∧ w2.cell? ⟨ob, k, none⟩ = some (.int .i64 (o : Int))) ∧ w2.cell? ⟨nb, 1, none⟩ = some (.string ⟨#[112, 111, 112, 51]⟩)); first | (refine hK.out _ _ hSS ?_) | (go_wp2_with fail; refine hK.out _ _ hSS ?_); clear hK K
        try simp only [Act.put, List.setIfInBounds_toArray, List.set_cons_zero, List.set_cons_succ]
        refine heldTake (i := 12) (v := ?_) rfl (by kernel_rfl) (by kernel_rfl) (fun _ _ _ h => h) (by rfl) (by assumption) (fun w hSw => ?_) ?_; rotate_left; focus ((try dsimp only at hSw); go_simp; try with_reducible rfl)
        try simp only [Act.put, List.setIfInBounds_toArray, List.set_cons_zero, List.set_cons_succ]
        refine heldTake (i := 13) (v := ?_) rfl (by kernel_rfl) (by kernel_rfl) (fun _ _ _ h => h) (by rfl) (by assumption) (fun w hSw => ?_) ?_; rotate_left; focus ((try dsimp only at hSw); go_simp; try with_reducible rfl)
        try simp only [Act.put, List.setIfInBounds_toArray, List.set_cons_zero, List.set_cons_succ]
        refine heldTake (i := 14) (v := ?_) rfl (by kernel_rfl) (by kernel_rfl) (fun _ _ _ h => h) (by rfl) (by assumption) (fun w hSw => ?_) ?_; rotate_left; focus ((try dsimp only at hSw); go_simp; try with_reducible rfl)
        try simp only [Act.put, List.setIfInBounds_toArray, List.set_cons_zero, List.set_cons_succ]
        refine heldTake (i := 15) (v := ?_) rfl (by kernel_rfl) (by kernel_rfl) (fun _ _ _ h => h) (by rfl) (by assumption) (fun w hSw => ?_) ?_; rotate_left; focus ((try dsimp only at hSw); go_simp; try with_reducible rfl)
        try simp only [Act.put, List.setIfInBounds_toArray, List.set_cons_zero, List.set_cons_succ]
        -- NEXT 16 Op.alloc 26
        refine heldNext (i := 16) rfl (by kernel_rfl) (by rfl) (fun K hK => ?_)
        go_simp
        obtain ⟨W3, hn⟩ : ∃ x, w2.alloc (.cells #[.int .i64 0, .slice none 0 0, .slice none 0 0] 26) = x := ⟨_, rfl⟩
        obtain ⟨pb, hnb⟩ : ∃ b, w2.heap.size = b := ⟨_, rfl⟩
        have hbn : Below w2.heap.size w2 W3 := by rw [← hn]; exact (Below.refl _ _).alloc (Nat.le_refl _) _
        have hcn : H3 W3 pb [.int .i64 0, .slice none 0 0, .slice none 0 0] := by rw [← hnb, ← hn]; exact heap_alloc_new _ _
        rw [hn, hnb]
        have HBW3 := Lib.hid (HBw2.out.trans (hbn.mono HBw2.out.size))
        have HZ := Lib.hid (⟨hcn, by rw [← hnb]; exact HBw2.out.size⟩ : H3 W3 pb [.int .i64 0, .slice none 0 0, .slice none 0 0] ∧ W0.heap.size ≤ pb)
        replace HN := Lib.hid ((hbn.block _ (Array.getElem?_eq_some_iff.1 HN.out).1).trans HN.out)
        have hSS := (⟨SC.out _ HBW3.out, cell_of_row _ _ _ _ _ _ HN.out⟩ : (W3.cell? ⟨lb, k, none⟩ = some (.string ⟨X.toArray⟩) ∧ W3.cell? ⟨ob, k, none⟩ = some (.int .i64 (o : Int))) ∧ W3.cell? ⟨nb, 1, none⟩ = some (.string ⟨#[112, 111, 112, 51]⟩))
        clear hn hnb hbn hcn
        refine hK.out _ _ hSS ?_; clear hK K
        try simp only [Act.put, List.setIfInBounds_toArray, List.set_cons_zero, List.set_cons_succ]
        -- NEXT 17 Op.store 26 (Operand.tmp 11) (Operand.tmp 61)
        refine heldNext (i := 17) rfl (by kernel_rfl) (by rfl) (fun K hK => ?_)
        have zc0 := HZ.out.1.cell (i := 0) rfl
        have zc1 := HZ.out.1.cell (i := 1) rfl
        have zc2 := HZ.out.1.cell (i := 2) rfl
        have zf0 := HZ.out.1.fr 0
        have zf1 := HZ.out.1.fr 1
        have zf2 := HZ.out.1.fr 2
        have hnp : nb ≠ pb := fun e => by have h1 := HN.out; have h2 := HZ.out.1; unfold H3 at h2; rw [e, h2] at h1; cases h1
        have HBF := Lib.hid (below_setN pb [.int .i64 (md : Int), .slice a1 row.length c1, .slice u1 top.length d1] 0 HZ.out.2 HBW3.out)
        have HNF : Hid ((setN W3 pb 0 [.int .i64 (md : Int), .slice a1 row.length c1, .slice u1 top.length d1]).heap[nb]? = _) := Lib.hid ((setN_other hnp [.int .i64 (md : Int), .slice a1 row.length c1, .slice u1 top.length d1] 0).trans HN.out)
        have hSS := (⟨SC.out _ HBF.out, cell_of_row _ _ _ _ _ _ HNF.out⟩ : ((setN W3 pb 0 [.int .i64 (md : Int), .slice a1 row.length c1, .slice u1 top.length d1]).cell? ⟨lb, k, none⟩ = some (.string ⟨X.toArray⟩) ∧ (setN W3 pb 0 [.int .i64 (md : Int), .slice a1 row.length c1, .slice u1 top.length d1]).cell? ⟨ob, k, none⟩ = some (.int .i64 (o : Int))) ∧ (setN W3 pb 0 [.int .i64 (md : Int), .slice a1 row.length c1, .slice u1 top.length d1]).cell? ⟨nb, 1, none⟩ = some (.string ⟨#[112, 111, 112, 51]⟩))
        go_simp
        refine hK.out _ (setN W3 pb 0 [.int .i64 (md : Int), .slice a1 row.length c1, .slice u1 top.length d1]) hSS ?_; clear hK K
        clear zc0 zc1 zc2 zf0 zf1 zf2
        generalize setN W3 pb 0 [.int .i64 (md : Int), .slice a1 row.length c1, .slice u1 top.length d1] = WF at HBF hSS ⊢
        try simp only [Act.put, List.setIfInBounds_toArray, List.set_cons_zero, List.set_cons_succ]
        refine heldTake (i := 18) (v := ?_) rfl (by kernel_rfl) (by kernel_rfl) (fun _ _ _ h => h) (by rfl) (by assumption) (fun w hSw => ?_) ?_; rotate_left; focus ((try dsimp only at hSw); go_simp; try with_reducible rfl)
        try simp only [Act.put, List.setIfInBounds_toArray, List.set_cons_zero, List.set_cons_succ]
        refine heldTake (i := 19) (v := ?_) rfl (by kernel_rfl) (by kernel_rfl) (fun _ _ _ h => h) (by rfl) (by assumption) (fun w hSw => ?_) ?_; rotate_left; focus ((try dsimp only at hSw); go_simp; try with_reducible rfl)
        try simp only [Act.put, List.setIfInBounds_toArray, List.set_cons_zero, List.set_cons_succ]
        refine wpAnyH_done (by kernel_rfl) ?_ _
        simp only [Exit.then]
        go_step
        go_meet
        exact ⟨rfl, rfl, HBF⟩
      · go_simp
        obtain ⟨W3, hn⟩ : ∃ x, W1.alloc (.cells #[.int .i64 0, .slice none 0 0, .slice none 0 0] 26) = x := ⟨_, rfl⟩
        obtain ⟨pb, hnb⟩ : ∃ b, W1.heap.size = b := ⟨_, rfl⟩
        have hbn : Below W1.heap.size W1 W3 := by rw [← hn]; exact (Below.refl _ _).alloc (Nat.le_refl _) _
        have hcn : H3 W3 pb [.int .i64 0, .slice none 0 0, .slice none 0 0] := by rw [← hnb, ← hn]; exact heap_alloc_new _ _
        rw [hn, hnb]
        have HBW3 := Lib.hid (HBW1.out.trans (hbn.mono HBW1.out.size))
        have HZ := Lib.hid (⟨hcn, by rw [← hnb]; exact HBW1.out.size⟩ : H3 W3 pb [.int .i64 0, .slice none 0 0, .slice none 0 0] ∧ W0.heap.size ≤ pb)
        replace HN := Lib.hid ((hbn.block _ (Array.getElem?_eq_some_iff.1 HN.out).1).trans HN.out)
        have hSS := (⟨SC.out _ HBW3.out, cell_of_row _ _ _ _ _ _ HN.out⟩ : (W3.cell? ⟨lb, k, none⟩ = some (.string ⟨X.toArray⟩) ∧ W3.cell? ⟨ob, k, none⟩ = some (.int .i64 (o : Int))) ∧ W3.cell? ⟨nb, 1, none⟩ = some (.string ⟨#[112, 111, 112, 51]⟩))
        clear hn hnb hbn hcn
        refine hK.out _ _ hSS ?_; clear hK K
        try simp only [Act.put, List.setIfInBounds_toArray, List.set_cons_zero, List.set_cons_succ]
        -- NEXT 11 Op.call { callee := Callee.value (Operand.func 8), args := #[Operand.tmp 59], argTypes := #[9] }
        refine heldNext (i := 11) rfl (by kernel_rfl) (by rfl) (fun K hK => ?_)
        go_simp; (try rw [HTA.out]); go_at_call 8; refine (SRC.out W3 (HSP.out.below HBW3.out)).mono ?_; rintro e w2 hP; obtain ⟨a1, c1, u1, d1, hbn, rfl, _⟩ := HOUT.out _ _ _ hP; clear hP; have HBw2 := Lib.hid (HBW3.out.trans (hbn.mono HBW3.out.size)); replace HN := Lib.hid ((hbn.block _ (Array.getElem?_eq_some_iff.1 HN.out).1).trans HN.out); replace HZ := Lib.hid (⟨HZ.out.1.below hbn HZ.out.1.lt, HZ.out.2⟩ : H3 w2 pb _ ∧ _); clear hbn; have hSS := (⟨SC.out _ HBw2.out, cell_of_row _ _ _ _ _ _ HN.out⟩ : (w2.cell? ⟨lb, k, none⟩ = some (.string ⟨X.toArray⟩) ∧ w2.cell? ⟨ob, k, none⟩ = some (.int .i64 (o : Int))) ∧ w2.cell? ⟨nb, 1, none⟩ = some (.string ⟨#[112, 111, 112, 51]⟩)); first | (refine hK.out _ _ hSS ?_) | (go_wp2_with fail; refine hK.out _ _ hSS ?_); clear hK K
        try simp only [Act.put, List.setIfInBounds_toArray, List.set_cons_zero, List.set_cons_succ]
        refine heldTake (i := 12) (v := ?_) rfl (by kernel_rfl) (by kernel_rfl) (fun _ _ _ h => h) (by rfl) (by assumption) (fun w hSw => ?_) ?_; rotate_left; focus ((try dsimp only at hSw); go_simp; try with_reducible rfl)
        try simp only [Act.put, List.setIfInBounds_toArray, List.set_cons_zero, List.set_cons_succ]
        refine heldTake (i := 13) (v := ?_) rfl (by kernel_rfl) (by kernel_rfl) (fun _ _ _ h => h) (by rfl) (by assumption) (fun w hSw => ?_) ?_; rotate_left; focus ((try dsimp only at hSw); go_simp; try with_reducible rfl)
        try simp only [Act.put, List.setIfInBounds_toArray, List.set_cons_zero, List.set_cons_succ]
        refine heldTake (i := 14) (v := ?_) rfl (by kernel_rfl) (by kernel_rfl) (fun _ _ _ h => h) (by rfl) (by assumption) (fun w hSw => ?_) ?_; rotate_left; focus ((try dsimp only at hSw); go_simp; try with_reducible rfl)
        try simp only [Act.put, List.setIfInBounds_toArray, List.set_cons_zero, List.set_cons_succ]
        refine heldTake (i := 15) (v := ?_) rfl (by kernel_rfl) (by kernel_rfl) (fun _ _ _ h => h) (by rfl) (by assumption) (fun w hSw => ?_) ?_; rotate_left; focus ((try dsimp only at hSw); go_simp; try with_reducible rfl)
        try simp only [Act.put, List.setIfInBounds_toArray, List.set_cons_zero, List.set_cons_succ]
        -- NEXT 17 Op.store 26 (Operand.tmp 11) (Operand.tmp 61)
        refine heldNext (i := 17) rfl (by kernel_rfl) (by rfl) (fun K hK => ?_)
        have zc0 := HZ.out.1.cell (i := 0) rfl
        have zc1 := HZ.out.1.cell (i := 1) rfl
        have zc2 := HZ.out.1.cell (i := 2) rfl
        have zf0 := HZ.out.1.fr 0
        have zf1 := HZ.out.1.fr 1
        have zf2 := HZ.out.1.fr 2
        have hnp : nb ≠ pb := fun e => by have h1 := HN.out; have h2 := HZ.out.1; unfold H3 at h2; rw [e, h2] at h1; cases h1
        have HBF := Lib.hid (below_setN pb [.int .i64 (md : Int), .slice a1 row.length c1, .slice u1 top.length d1] 0 HZ.out.2 HBw2.out)
        have HNF : Hid ((setN w2 pb 0 [.int .i64 (md : Int), .slice a1 row.length c1, .slice u1 top.length d1]).heap[nb]? = _) := Lib.hid ((setN_other hnp [.int .i64 (md : Int), .slice a1 row.length c1, .slice u1 top.length d1] 0).trans HN.out)
        have hSS := (⟨SC.out _ HBF.out, cell_of_row _ _ _ _ _ _ HNF.out⟩ : ((setN w2 pb 0 [.int .i64 (md : Int), .slice a1 row.length c1, .slice u1 top.length d1]).cell? ⟨lb, k, none⟩ = some (.string ⟨X.toArray⟩) ∧ (setN w2 pb 0 [.int .i64 (md : Int), .slice a1 row.length c1, .slice u1 top.length d1]).cell? ⟨ob, k, none⟩ = some (.int .i64 (o : Int))) ∧ (setN w2 pb 0 [.int .i64 (md : Int), .slice a1 row.length c1, .slice u1 top.length d1]).cell? ⟨nb, 1, none⟩ = some (.string ⟨#[112, 111, 112, 51]⟩))
        go_simp
        refine hK.out _ (setN w2 pb 0 [.int .i64 (md : Int), .slice a1 row.length c1, .slice u1 top.length d1]) hSS ?_; clear hK K
        clear zc0 zc1 zc2 zf0 zf1 zf2
        generalize setN w2 pb 0 [.int .i64 (md : Int), .slice a1 row.length c1, .slice u1 top.length d1] = WF at HBF hSS ⊢
        try simp only [Act.put, List.setIfInBounds_toArray, List.set_cons_zero, List.set_cons_succ]
        refine heldTake (i := 18) (v := ?_) rfl (by kernel_rfl) (by kernel_rfl) (fun _ _ _ h => h) (by rfl) (by assumption) (fun w hSw => ?_) ?_; rotate_left; focus ((try dsimp only at hSw); go_simp; try with_reducible rfl)
        try simp only [Act.put, List.setIfInBounds_toArray, List.set_cons_zero, List.set_cons_succ]
        refine heldTake (i := 19) (v := ?_) rfl (by kernel_rfl) (by kernel_rfl) (fun _ _ _ h => h) (by rfl) (by assumption) (fun w hSw => ?_) ?_; rotate_left; focus ((try dsimp only at hSw); go_simp; try with_reducible rfl)
        try simp only [Act.put, List.setIfInBounds_toArray, List.set_cons_zero, List.set_cons_succ]
        refine wpAnyH_done (by kernel_rfl) ?_ _
        simp only [Exit.then]
        go_step
        go_meet
        exact ⟨rfl, rfl, HBF⟩
    · go_simp
      obtain ⟨W3, hn⟩ : ∃ x, W.alloc (.cells #[.int .i64 0, .slice none 0 0, .slice none 0 0] 26) = x := ⟨_, rfl⟩
      obtain ⟨pb, hnb⟩ : ∃ b, W.heap.size = b := ⟨_, rfl⟩
      have hbn : Below W.heap.size W W3 := by rw [← hn]; exact (Below.refl _ _).alloc (Nat.le_refl _) _
      have hcn : H3 W3 pb [.int .i64 0, .slice none 0 0, .slice none 0 0] := by rw [← hnb, ← hn]; exact heap_alloc_new _ _
      rw [hn, hnb]
      have HBW3 := Lib.hid (HB.out.trans (hbn.mono HB.out.size))
      have HZ := Lib.hid (⟨hcn, by rw [← hnb]; exact HB.out.size⟩ : H3 W3 pb [.int .i64 0, .slice none 0 0, .slice none 0 0] ∧ W0.heap.size ≤ pb)
      clear hn hnb hbn hcn
      refine hK.out _ _ (SC.out _ HBW3.out) ?_; clear hK K
      try simp only [Act.put, List.setIfInBounds_toArray, List.set_cons_zero, List.set_cons_succ]
      -- NEXT 0 Op.buildSlice 31 3 #[(0, Operand.const (Value.string { data := #[115, 109, 116, 112] })), (1, Operand.const (V
      refine heldNext (i := 0) rfl (by kernel_rfl) (by rfl) (fun K hK => ?_)
      go_simp
      obtain ⟨W1, hn⟩ : ∃ x, W3.alloc (.cells #[.string ⟨#[115, 109, 116, 112]⟩, .string ⟨#[112, 111, 112, 51]⟩, .string ⟨#[102, 116, 112]⟩] 9) = x := ⟨_, rfl⟩
      obtain ⟨nb, hnb⟩ : ∃ b, W3.heap.size = b := ⟨_, rfl⟩
      have hbn : Below W3.heap.size W3 W1 := by rw [← hn]; exact (Below.refl _ _).alloc (Nat.le_refl _) _
      have hcn : W1.heap[nb]? = some (.cells #[.string ⟨#[115, 109, 116, 112]⟩, .string ⟨#[112, 111, 112, 51]⟩, .string ⟨#[102, 116, 112]⟩] 9 (0, 0)) := by rw [← hnb, ← hn]; exact heap_alloc_new _ _
      rw [hn, hnb]
      have HBW1 := Lib.hid (HBW3.out.trans (hbn.mono HBW3.out.size))
      have HN := Lib.hid hcn
      replace HZ := Lib.hid (⟨HZ.out.1.below hbn HZ.out.1.lt, HZ.out.2⟩ : H3 W1 pb _ ∧ _)
      clear hn hnb hbn hcn
      refine hK.out _ _ (SC.out _ HBW1.out) ?_; clear hK K
      refine heldMore (S' := fun w' => (w'.cell? ⟨lb, k, none⟩ = some (.string ⟨X.toArray⟩) ∧ w'.cell? ⟨ob, k, none⟩ = some (.int .i64 (o : Int))) ∧ w'.cell? ⟨nb, 1, none⟩ = some (.string ⟨#[112, 111, 112, 51]⟩)) (fun _ h => h.1) ?_
      have hSS := (⟨SC.out _ HBW1.out, cell_of_row _ _ _ _ _ _ HN.out⟩ : (W1.cell? ⟨lb, k, none⟩ = some (.string ⟨X.toArray⟩) ∧ W1.cell? ⟨ob, k, none⟩ = some (.int .i64 (o : Int))) ∧ W1.cell? ⟨nb, 1, none⟩ = some (.string ⟨#[112, 111, 112, 51]⟩))
      try simp only [Act.put, List.setIfInBounds_toArray, List.set_cons_zero, List.set_cons_succ]
      refine heldTake (i := 2) (v := ?_) rfl (by kernel_rfl) (by kernel_rfl) (fun _ _ _ h => h) (by rfl) (by assumption) (fun w hSw => ?_) ?_; rotate_left; focus ((try dsimp only at hSw); go_simp; try with_reducible rfl)
      try simp only [Act.put, List.setIfInBounds_toArray, List.set_cons_zero, List.set_cons_succ]
      refine heldTake (i := 3) (v := ?_) rfl (by kernel_rfl) (by kernel_rfl) (fun _ _ _ h => h) (by rfl) (by assumption) (fun w hSw => ?_) ?_; rotate_left; focus ((try dsimp only at hSw); go_simp; try with_reducible rfl)
      try simp only [Act.put, List.setIfInBounds_toArray, List.set_cons_zero, List.set_cons_succ]
      refine heldTake (i := 4) (v := ?_) rfl (by kernel_rfl) (by kernel_rfl) (fun _ _ _ h => h) (by rfl) (by assumption) (fun w hSw => ?_) ?_; rotate_left; focus ((try dsimp only at hSw); go_simp; try with_reducible rfl)
      try simp only [Act.put, List.setIfInBounds_toArray, List.set_cons_zero, List.set_cons_succ]
      refine heldTake (i := 5) (v := ?_) rfl (by kernel_rfl) (by kernel_rfl) (fun _ _ _ h => h) (by rfl) (by assumption) (fun w hSw => ?_) ?_; rotate_left; focus ((try dsimp only at hSw); go_simp; try with_reducible rfl)
      try simp only [Act.put, List.setIfInBounds_toArray, List.set_cons_zero, List.set_cons_succ]
      refine heldTake (i := 10) (v := ?_) rfl (by kernel_rfl) (by kernel_rfl) (fun _ _ _ h => h) (by rfl) (by assumption) (fun w hSw => ?_) ?_; rotate_left; focus ((try dsimp only at hSw); go_simp; try with_reducible rfl)
      try simp only [Act.put, List.setIfInBounds_toArray, List.set_cons_zero, List.set_cons_succ]
      -- NEXT 11 Op.call { callee := Callee.value (Operand.func 8), args := #[Operand.tmp 59], argTypes := #[9] }
      refine heldNext (i := 11) rfl (by kernel_rfl) (by rfl) (fun K hK => ?_)
      go_simp; (try rw [HTA.out]); go_at_call 8; refine (SRC.out W1 (HSP.out.below HBW1.out)).mono ?_; rintro e w2 hP; obtain ⟨a1, c1, u1, d1, hbn, rfl, _⟩ := HOUT.out _ _ _ hP; clear hP; have HBw2 := Lib.hid (HBW1.out.trans (hbn.mono HBW1.out.size)); replace HN := Lib.hid ((hbn.block _ (Array.getElem?_eq_some_iff.1 HN.out).1).trans HN.out); replace HZ := Lib.hid (⟨HZ.out.1.below hbn HZ.out.1.lt, HZ.out.2⟩ : H3 w2 pb _ ∧ _); clear hbn; have hSS := (⟨SC.out _ HBw2.out, cell_of_row _ _ _ _ _ _ HN.out⟩ : (w2.cell? ⟨lb, k, none⟩ = some (.string ⟨X.toArray⟩) ∧ w2.cell? ⟨ob, k, none⟩ = some (.int .i64 (o : Int))) ∧ w2.cell? ⟨nb, 1, none⟩ = some (.string ⟨#[112, 111, 112, 51]⟩)); first | (refine hK.out _ _ hSS ?_) | (go_wp2_with fail; refine hK.out _ _ hSS ?_); clear hK K
      try simp only [Act.put, List.setIfInBounds_toArray, List.set_cons_zero, List.set_cons_succ]
      refine heldTake (i := 12) (v := ?_) rfl (by kernel_rfl) (by kernel_rfl) (fun _ _ _ h => h) (by rfl) (by assumption) (fun w hSw => ?_) ?_; rotate_left; focus ((try dsimp only at hSw); go_simp; try with_reducible rfl)
      try simp only [Act.put, List.setIfInBounds_toArray, List.set_cons_zero, List.set_cons_succ]
      refine heldTake (i := 13) (v := ?_) rfl (by kernel_rfl) (by kernel_rfl) (fun _ _ _ h => h) (by rfl) (by assumption) (fun w hSw => ?_) ?_; rotate_left; focus ((try dsimp only at hSw); go_simp; try with_reducible rfl)
      try simp only [Act.put, List.setIfInBounds_toArray, List.set_cons_zero, List.set_cons_succ]
      refine heldTake (i := 14) (v := ?_) rfl (by kernel_rfl) (by kernel_rfl) (fun _ _ _ h => h) (by rfl) (by assumption) (fun w hSw => ?_) ?_; rotate_left; focus ((try dsimp only at hSw); go_simp; try with_reducible rfl)
      try simp only [Act.put, List.setIfInBounds_toArray, List.set_cons_zero, List.set_cons_succ]
      refine heldTake (i := 15) (v := ?_) rfl (by kernel_rfl) (by kernel_rfl) (fun _ _ _ h => h) (by rfl) (by assumption) (fun w hSw => ?_) ?_; rotate_left; focus ((try dsimp only at hSw); go_simp; try with_reducible rfl)
      try simp only [Act.put, List.setIfInBounds_toArray, List.set_cons_zero, List.set_cons_succ]
      -- NEXT 17 Op.store 26 (Operand.tmp 11) (Operand.tmp 61)
      refine heldNext (i := 17) rfl (by kernel_rfl) (by rfl) (fun K hK => ?_)
      have zc0 := HZ.out.1.cell (i := 0) rfl
      have zc1 := HZ.out.1.cell (i := 1) rfl
      have zc2 := HZ.out.1.cell (i := 2) rfl
      have zf0 := HZ.out.1.fr 0
      have zf1 := HZ.out.1.fr 1
      have zf2 := HZ.out.1.fr 2
      have hnp : nb ≠ pb := fun e => by have h1 := HN.out; have h2 := HZ.out.1; unfold H3 at h2; rw [e, h2] at h1; cases h1
      have HBF := Lib.hid (below_setN pb [.int .i64 (md : Int), .slice a1 row.length c1, .slice u1 top.length d1] 0 HZ.out.2 HBw2.out)
      have HNF : Hid ((setN w2 pb 0 [.int .i64 (md : Int), .slice a1 row.length c1, .slice u1 top.length d1]).heap[nb]? = _) := Lib.hid ((setN_other hnp [.int .i64 (md : Int), .slice a1 row.length c1, .slice u1 top.length d1] 0).trans HN.out)
      have hSS := (⟨SC.out _ HBF.out, cell_of_row _ _ _ _ _ _ HNF.out⟩ : ((setN w2 pb 0 [.int .i64 (md : Int), .slice a1 row.length c1, .slice u1 top.length d1]).cell? ⟨lb, k, none⟩ = some (.string ⟨X.toArray⟩) ∧ (setN w2 pb 0 [.int .i64 (md : Int), .slice a1 row.length c1, .slice u1 top.length d1]).cell? ⟨ob, k, none⟩ = some (.int .i64 (o : Int))) ∧ (setN w2 pb 0 [.int .i64 (md : Int), .slice a1 row.length c1, .slice u1 top.length d1]).cell? ⟨nb, 1, none⟩ = some (.string ⟨#[112, 111, 112, 51]⟩))
      go_simp
      refine hK.out _ (setN w2 pb 0 [.int .i64 (md : Int), .slice a1 row.length c1, .slice u1 top.length d1]) hSS ?_; clear hK K
      clear zc0 zc1 zc2 zf0 zf1 zf2
      generalize setN w2 pb 0 [.int .i64 (md : Int), .slice a1 row.length c1, .slice u1 top.length d1] = WF at HBF hSS ⊢
      try simp only [Act.put, List.setIfInBounds_toArray, List.set_cons_zero, List.set_cons_succ]
      refine heldTake (i := 18) (v := ?_) rfl (by kernel_rfl) (by kernel_rfl) (fun _ _ _ h => h) (by rfl) (by assumption) (fun w hSw => ?_) ?_; rotate_left; focus ((try dsimp only at hSw); go_simp; try with_reducible rfl)
      try simp only [Act.put, List.setIfInBounds_toArray, List.set_cons_zero, List.set_cons_succ]
      refine heldTake (i := 19) (v := ?_) rfl (by kernel_rfl) (by kernel_rfl) (fun _ _ _ h => h) (by rfl) (by assumption) (fun w hSw => ?_) ?_; rotate_left; focus ((try dsimp only at hSw); go_simp; try with_reducible rfl)
      try simp only [Act.put, List.setIfInBounds_toArray, List.set_cons_zero, List.set_cons_succ]
      refine wpAnyH_done (by kernel_rfl) ?_ _
      simp only [Exit.then]
      go_step
      go_meet
      exact ⟨rfl, rfl, HBF⟩

  case rest =>
  obtain ⟨rfl, rfl, HX⟩ := hcut
  have hob := (SC.out wc HX.out).2
  have hob2 : ∀ ox, (wc.alloc ox).cell? ⟨ob, k, none⟩ = some (.int .i64 (o : Int)) := fun ox => (SC.out _ (HX.out.alloc HX.out.size ox)).2
  have HF := Lib.hid (HB0.out.trans (HX.out.mono HSZ.out))
  have HF2 := Lib.hid (fun ox => HF.out.alloc HF.out.size ox)
  rcases HOF.out with ⟨pp, hsrc, hown⟩ | ⟨hsrc, hown⟩
  · have h0 : c = 0 ∧ p = 0 := by
      rcases HPC.out with ⟨h1, _, h2⟩ | ⟨_, h1, _⟩
      · exact ⟨h1, h2⟩
      · rw [hsrc] at h1; cases h1
    obtain ⟨rfl, rfl⟩ := h0
    rw [HOWN.out] at hown
    rcases HO5.out with rfl | rfl | rfl | rfl | rfl
    all_goals first
      | exact absurd hown (by decide)
      | (clear hown hsrc HPC HOUT SC hs0; go_wp2; go_ret; exact ⟨rfl, HF2.out _⟩)
  · have h0 : c = 30 ∧ p = 18 := by
      rcases HPC.out with ⟨_, h1, _⟩ | ⟨_, h1, _⟩
      · rw [hsrc] at h1; cases h1
      · rw [hsrc] at h1
        have h2 : (Ck.modesB 1, 30) = (p, c) := by injection h1
        exact ⟨(Prod.mk.inj h2).2.symm, (Prod.mk.inj h2).1.symm⟩
    obtain ⟨rfl, rfl⟩ := h0
    rw [HOWN.out] at hown
    rcases HO5.out with rfl | rfl | rfl | rfl | rfl
    all_goals first
      | exact absurd hown (by decide)
      | (clear hown hsrc HPC HOUT SC hs0; go_wp2; go_ret; exact ⟨rfl, HF2.out _⟩)

set_option maxRecDepth 200000 in
set_option maxHeartbeats 8000000 in
theorem modes_way2 (A B k : Nat) (hA : A < 256) (hB : B < 256) (hm : (A : Int).tmod 3 = 2) (hk : (B : Int).tmod 19 = (k : Int)) (hk19 : k < 19) (w : World) (hS : SHP w) :
    Calls Tryd.prog 4 #[.int .u8 (A : Int), .int .u8 (B : Int)] w fun e w' => e = .returned (.bool true) ∧ Below w.heap.size w w' := by
  have SW := shown_any w hS
  have SRC := Lib.hid (fun wx hx => source_any (Ck.modesT 2 k) (by have := modes_len 2 k (by decide) hk19; omega) wx hx)
  have hk19i : (k : Int) < 19 := by omega
  have hm2 : (A : Int) % 3 = 2 := by rw [← hm, Int.tmod_eq_emod_of_nonneg (by omega)]
  have hk2 : (B : Int) % 19 = (k : Int) := by rw [← hk, Int.tmod_eq_emod_of_nonneg (by omega)]
  have hci := stmts_at2 k hk19
  have hoi := owns_at k hk19
  have hsl := stmt_len 2 k (by decide) hk19
  obtain ⟨o, ho, ho5, hown⟩ := owns_of 2 k hk19
  rw [ho] at hoi
  obtain ⟨X, hX⟩ : ∃ X, Ck.stmtW (Ck.codeW 2) k = X := ⟨_, rfl⟩
  rw [hX] at hci hsl
  obtain ⟨Z, hZ⟩ : ∃ Z, X.length = Z := ⟨_, rfl⟩
  rw [hZ] at hsl
  have hxz : (⟨X.toArray⟩ : ByteArray).size = Z := hZ
  have hsum : (9223372036854775807 < 17 + Z) = False := eq_false (by omega)
  have hT : Ck.modesT 2 k = [109, 111, 100, 101, 32, 102, 116, 112, 59, 108, 97, 98, 101, 108, 32, 122, 59] ++ X := by rw [← hX]; rfl
  have hTA : (⟨#[109, 111, 100, 101, 32, 102, 116, 112, 59, 108, 97, 98, 101, 108, 32, 122, 59]⟩ ++ ⟨X.toArray⟩ : ByteArray) = ⟨(Ck.modesT 2 k).toArray⟩ := by rw [hT]; exact (ba_append [109, 111, 100, 101, 32, 102, 116, 112, 59, 108, 97, 98, 101, 108, 32, 122, 59] X).symm
  have HOF := Lib.hid (modes_of 2 k (by decide) hk19)
  have HS := Lib.hid hS
  have HTA := Lib.hid hTA
  have HOWN := Lib.hid hown
  have HO5 := Lib.hid ho5
  have HCI := Lib.hid hci
  have HOI := Lib.hid hoi
  clear hS hT hTA hX hZ ho hown ho5 hci hoi
  go_enter Tryd.func4, Tryd.ntmps4
  go_wp2_with fail
  refine SW.mono ?_
  rintro e wa ⟨rfl, hba⟩
  have HBA := Lib.hid hba
  clear hba SW
  have sm0 : (⟨#[103, 114, 101, 101, 116, 32]⟩ ++ ⟨#[34, 50, 34]⟩ : ByteArray) = ⟨#[103, 114, 101, 101, 116, 32, 34, 50, 34]⟩ := ba_append [103, 114, 101, 101, 116, 32] [34, 50, 34]
  have sm1 : (⟨#[103, 114, 101, 101, 116, 32, 34, 50, 34]⟩ ++ ⟨#[59]⟩ : ByteArray) = ⟨#[103, 114, 101, 101, 116, 32, 34, 50, 34, 59]⟩ := ba_append [103, 114, 101, 101, 116, 32, 34, 50, 34] [59]
  have sm2 : (⟨#[115, 101, 110, 100, 32, 34, 120, 34, 32]⟩ ++ ⟨#[34, 50, 34]⟩ : ByteArray) = ⟨#[115, 101, 110, 100, 32, 34, 120, 34, 32, 34, 50, 34]⟩ := ba_append [115, 101, 110, 100, 32, 34, 120, 34, 32] [34, 50, 34]
  have sm3 : (⟨#[115, 101, 110, 100, 32, 34, 120, 34, 32, 34, 50, 34]⟩ ++ ⟨#[59]⟩ : ByteArray) = ⟨#[115, 101, 110, 100, 32, 34, 120, 34, 32, 34, 50, 34, 59]⟩ := ba_append [115, 101, 110, 100, 32, 34, 120, 34, 32, 34, 50, 34] [59]
  have sm4 : (⟨#[99, 97, 112, 115, 32, 34, 120, 34, 32]⟩ ++ ⟨#[34, 50, 34]⟩ : ByteArray) = ⟨#[99, 97, 112, 115, 32, 34, 120, 34, 32, 34, 50, 34]⟩ := ba_append [99, 97, 112, 115, 32, 34, 120, 34, 32] [34, 50, 34]
  have sm5 : (⟨#[99, 97, 112, 115, 32, 34, 120, 34, 32, 34, 50, 34]⟩ ++ ⟨#[59]⟩ : ByteArray) = ⟨#[99, 97, 112, 115, 32, 34, 120, 34, 32, 34, 50, 34, 59]⟩ := ba_append [99, 97, 112, 115, 32, 34, 120, 34, 32, 34, 50, 34] [59]
  have sm6 : (⟨#[105, 102, 32, 99, 111, 100, 101, 32]⟩ ++ ⟨#[34, 50, 34]⟩ : ByteArray) = ⟨#[105, 102, 32, 99, 111, 100, 101, 32, 34, 50, 34]⟩ := ba_append [105, 102, 32, 99, 111, 100, 101, 32] [34, 50, 34]
  have sm7 : (⟨#[105, 102, 32, 99, 111, 100, 101, 32, 34, 50, 34]⟩ ++ ⟨#[32, 123, 125]⟩ : ByteArray) = ⟨#[105, 102, 32, 99, 111, 100, 101, 32, 34, 50, 34, 32, 123, 125]⟩ := ba_append [105, 102, 32, 99, 111, 100, 101, 32, 34, 50, 34] [32, 123, 125]
  have sm8 : (⟨#[100, 97, 116, 97, 32, 34, 120, 34, 32]⟩ ++ ⟨#[34, 50, 34]⟩ : ByteArray) = ⟨#[100, 97, 116, 97, 32, 34, 120, 34, 32, 34, 50, 34]⟩ := ba_append [100, 97, 116, 97, 32, 34, 120, 34, 32] [34, 50, 34]
  have sm9 : (⟨#[100, 97, 116, 97, 32, 34, 120, 34, 32, 34, 50, 34]⟩ ++ ⟨#[59]⟩ : ByteArray) = ⟨#[100, 97, 116, 97, 32, 34, 120, 34, 32, 34, 50, 34, 59]⟩ := ba_append [100, 97, 116, 97, 32, 34, 120, 34, 32, 34, 50, 34] [59]
  have sm10 : (⟨#[98, 111, 100, 121, 32, 98, 32, 34, 120, 34, 32]⟩ ++ ⟨#[34, 50, 34]⟩ : ByteArray) = ⟨#[98, 111, 100, 121, 32, 98, 32, 34, 120, 34, 32, 34, 50, 34]⟩ := ba_append [98, 111, 100, 121, 32, 98, 32, 34, 120, 34, 32] [34, 50, 34]
  have sm11 : (⟨#[98, 111, 100, 121, 32, 98, 32, 34, 120, 34, 32, 34, 50, 34]⟩ ++ ⟨#[59]⟩ : ByteArray) = ⟨#[98, 111, 100, 121, 32, 98, 32, 34, 120, 34, 32, 34, 50, 34, 59]⟩ := ba_append [98, 111, 100, 121, 32, 98, 32, 34, 120, 34, 32, 34, 50, 34] [59]
  have sm12 : (⟨#[109, 111, 100, 101, 32]⟩ ++ ⟨#[102, 116, 112]⟩ : ByteArray) = ⟨#[109, 111, 100, 101, 32, 102, 116, 112]⟩ := ba_append [109, 111, 100, 101, 32] [102, 116, 112]
  have sm13 : (⟨#[109, 111, 100, 101, 32, 102, 116, 112]⟩ ++ ⟨#[59, 108, 97, 98, 101, 108, 32, 122, 59]⟩ : ByteArray) = ⟨#[109, 111, 100, 101, 32, 102, 116, 112, 59, 108, 97, 98, 101, 108, 32, 122, 59]⟩ := ba_append [109, 111, 100, 101, 32, 102, 116, 112] [59, 108, 97, 98, 101, 108, 32, 122, 59]
  go_upto_region 7 with fail
  obtain ⟨W0, hW0⟩ : ∃ x, ((wa.alloc (.cells #[.string ⟨#[34, 50, 34]⟩, .string ⟨#[34, 43, 34]⟩, .string ⟨#[34, 50, 34]⟩] 9)).alloc (.cells #[.string ⟨#[108, 101, 116, 32, 97, 32, 61, 32, 34, 120, 34, 59]⟩, .string ⟨#[103, 114, 101, 101, 116, 32, 34, 50, 34, 59]⟩, .string ⟨#[115, 101, 110, 100, 32, 34, 120, 34, 32, 34, 50, 34, 59]⟩, .string ⟨#[99, 97, 112, 115, 32, 34, 120, 34, 32, 34, 50, 34, 59]⟩, .string ⟨#[105, 102, 32, 99, 97, 112, 32, 34, 120, 34, 32, 123, 125]⟩, .string ⟨#[105, 102, 32, 99, 111, 100, 101, 32, 34, 50, 34, 32, 123, 125]⟩, .string ⟨#[116, 105, 109, 101, 111, 117, 116, 32, 49, 59]⟩, .string ⟨#[108, 97, 98, 101, 108, 32, 108, 59]⟩, .string ⟨#[111, 110, 32, 122, 59]⟩, .string ⟨#[103, 111, 116, 111, 32, 122, 59]⟩, .string ⟨#[112, 114, 105, 110, 116, 32, 34, 120, 34, 59]⟩, .string ⟨#[115, 116, 111, 112, 59]⟩, .string ⟨#[112, 105, 112, 101, 32, 49, 32, 123, 125]⟩, .string ⟨#[97, 117, 116, 104, 32, 112, 108, 97, 105, 110, 32, 34, 97, 34, 32, 34, 98, 34, 59]⟩, .string ⟨#[97, 117, 116, 104, 32, 97, 112, 111, 112, 32, 34, 97, 34, 32, 34, 98, 34, 59]⟩, .string ⟨#[100, 97, 116, 97, 32, 34, 120, 34, 32, 34, 50, 34, 59]⟩, .string ⟨#[98, 111, 100, 121, 32, 98, 32, 34, 120, 34, 32, 34, 50, 34, 59]⟩, .string ⟨#[103, 101, 116, 32, 98, 32, 34, 120, 34, 59]⟩, .string ⟨#[112, 117, 116, 32, 34, 120, 34, 32, 34, 121, 34, 59]⟩] 9)).alloc (.cells #[.int .i64 7, .int .i64 7, .int .i64 7, .int .i64 7, .int .i64 7, .int .i64 7, .int .i64 7, .int .i64 7, .int .i64 7, .int .i64 7, .int .i64 7, .int .i64 7, .int .i64 3, .int .i64 3, .int .i64 2, .int .i64 1, .int .i64 2, .int .i64 4, .int .i64 4] 3) = x := ⟨_, rfl⟩
  rw [hW0]
  obtain ⟨lb, hlb⟩ : ∃ x, wa.heap.size + 1 = x := ⟨_, rfl⟩
  obtain ⟨ob, hob⟩ : ∃ x, wa.heap.size + 1 + 1 = x := ⟨_, rfl⟩
  have hb0 : Below wa.heap.size wa W0 := by rw [← hW0]; exact (((Below.refl _ _).alloc (Nat.le_refl _) _).alloc (by simp) _).alloc (by simp; omega) _
  have hL : W0.heap[lb]? = some (.cells stmtsA2 9 (0, 0)) := by
    rw [← hlb, ← hW0]
    refine (Below.heap_alloc _ _ _ (by simp)).trans ?_
    have := heap_alloc_new (wa.alloc (.cells #[.string ⟨#[34, 50, 34]⟩, .string ⟨#[34, 43, 34]⟩, .string ⟨#[34, 50, 34]⟩] 9)) (.cells stmtsA2 9)
    rwa [World.size_alloc] at this
  have hO : W0.heap[ob]? = some (.cells ownsA 3 (0, 0)) := by
    rw [← hob, ← hW0]
    have := heap_alloc_new ((wa.alloc (.cells #[.string ⟨#[34, 50, 34]⟩, .string ⟨#[34, 43, 34]⟩, .string ⟨#[34, 50, 34]⟩] 9)).alloc (.cells stmtsA2 9)) (.cells ownsA 3)
    rwa [World.size_alloc, World.size_alloc] at this
  rw [hob, hlb]
  have hcl : W0.cell? ⟨lb, k, none⟩ = some (.string ⟨X.toArray⟩) := (cell_of_row _ _ _ _ _ _ hL).trans HCI.out
  have hco : W0.cell? ⟨ob, k, none⟩ = some (.int .i64 (o : Int)) := (cell_of_row _ _ _ _ _ _ hO).trans HOI.out
  have hll : lb < W0.heap.size := (Array.getElem?_eq_some_iff.1 hL).1
  have hol : ob < W0.heap.size := (Array.getElem?_eq_some_iff.1 hO).1
  have SC := Lib.hid (fun (w' : World) (hb : Below W0.heap.size W0 w') => (⟨(hb.cell (show (⟨lb, k, none⟩ : Addr).block < W0.heap.size from hll)).trans hcl, (hb.cell (show (⟨ob, k, none⟩ : Addr).block < W0.heap.size from hol)).trans hco⟩ : w'.cell? ⟨lb, k, none⟩ = some (.string ⟨X.toArray⟩) ∧ w'.cell? ⟨ob, k, none⟩ = some (.int .i64 (o : Int))))
  have hs0 : W0.cell? ⟨lb, k, none⟩ = some (.string ⟨X.toArray⟩) ∧ W0.cell? ⟨ob, k, none⟩ = some (.int .i64 (o : Int)) := ⟨hcl, hco⟩
  have HB0 := Lib.hid (HBA.out.trans (hb0.mono HBA.out.size))
  have HSP := Lib.hid (HS.out.below (HBA.out.trans (hb0.mono HBA.out.size)))
  have HSZ := Lib.hid (Nat.le_trans HBA.out.size hb0.size)
  obtain ⟨md, row, top, p, c, _, hpc, hout⟩ := source_out (Ck.modesT 2 k)
  have HPC := Lib.hid hpc
  have HOUT := Lib.hid hout
  clear hW0 hlb hob hL hO hcl hco hll hol hb0 hpc hout HCI HOI
  go_cut [11, 12, 13] from 48 to 63 (fun s11 s12 s13 wx => s12 = .int .i64 (p : Int) ∧ s13 = .int .i64 (c : Int) ∧ Hid (Below W0.heap.size W0 wx))
  case first =>
    have HB := Lib.hid (⟨rfl, rfl, rfl, Nat.le_refl _, fun _ _ => rfl⟩ : Below W0.heap.size W0 W0.drew)
    refine wp_region_held_drew (S := fun w' => w'.cell? ⟨lb, k, none⟩ = some (.string ⟨X.toArray⟩) ∧ w'.cell? ⟨ob, k, none⟩ = some (.int .i64 (o : Int))) (by kernel_rfl) hs0 (fun hH => ?_)
    generalize W0.drew = W at *
    refine heldTake (i := 1) (v := ?_) rfl (by kernel_rfl) (by kernel_rfl) (fun _ _ _ h => h) (by rfl) (by assumption) (fun w hSw => ?_) ?_; rotate_left; focus ((try dsimp only at hSw); go_simp; try with_reducible rfl)
    try simp only [Act.put, List.setIfInBounds_toArray, List.set_cons_zero, List.set_cons_succ]
    refine heldTake (i := 6) (v := ?_) rfl (by kernel_rfl) (by kernel_rfl) (fun _ _ _ h => h) (by rfl) (by assumption) (fun w hSw => ?_) ?_; rotate_left; focus ((try dsimp only at hSw); go_simp; try with_reducible rfl)
    try simp only [Act.put, List.setIfInBounds_toArray, List.set_cons_zero, List.set_cons_succ]
    refine heldTake (i := 7) (v := ?_) rfl (by kernel_rfl) (by kernel_rfl) (fun _ _ _ h => h) (by rfl) (by assumption) (fun w hSw => ?_) ?_; rotate_left; focus ((try dsimp only at hSw); go_simp; try with_reducible rfl)
    try simp only [Act.put, List.setIfInBounds_toArray, List.set_cons_zero, List.set_cons_succ]
    refine heldTake (i := 8) (v := ?_) rfl (by kernel_rfl) (by kernel_rfl) (fun _ _ _ h => h) (by rfl) (by assumption) (fun w hSw => ?_) ?_; rotate_left; focus ((try dsimp only at hSw); go_simp; try with_reducible rfl)
    try simp only [Act.put, List.setIfInBounds_toArray, List.set_cons_zero, List.set_cons_succ]
    refine heldTake (i := 9) (v := ?_) rfl (by kernel_rfl) (by kernel_rfl) (fun _ _ _ h => h) (by rfl) (by assumption) (fun w hSw => ?_) ?_; rotate_left; focus ((try dsimp only at hSw); go_simp; try with_reducible rfl)
    try simp only [Act.put, List.setIfInBounds_toArray, List.set_cons_zero, List.set_cons_succ]
    -- TWO 0 Op.buildSlice 31 3 #[(0, Operand.const (Value.string { data := #[115, 109, 116,  | 16 Op.alloc 26
    refine heldTwo (i := 0) (j := 16) rfl rfl (by kernel_rfl) (by rfl) (by rfl) (fun K hK => ?_) (fun K hK => ?_)
    · go_simp
      obtain ⟨W1, hn⟩ : ∃ x, W.alloc (.cells #[.string ⟨#[115, 109, 116, 112]⟩, .string ⟨#[112, 111, 112, 51]⟩, .string ⟨#[102, 116, 112]⟩] 9) = x := ⟨_, rfl⟩
      obtain ⟨nb, hnb⟩ : ∃ b, W.heap.size = b := ⟨_, rfl⟩
      have hbn : Below W.heap.size W W1 := by rw [← hn]; exact (Below.refl _ _).alloc (Nat.le_refl _) _
      have hcn : W1.heap[nb]? = some (.cells #[.string ⟨#[115, 109, 116, 112]⟩, .string ⟨#[112, 111, 112, 51]⟩, .string ⟨#[102, 116, 112]⟩] 9 (0, 0)) := by rw [← hnb, ← hn]; exact heap_alloc_new _ _
      rw [hn, hnb]
      have HBW1 := Lib.hid (HB.out.trans (hbn.mono HB.out.size))
      have HN := Lib.hid hcn
      clear hn hnb hbn hcn
      refine hK.out _ _ (SC.out _ HBW1.out) ?_; clear hK K
      refine heldMore (S' := fun w' => (w'.cell? ⟨lb, k, none⟩ = some (.string ⟨X.toArray⟩) ∧ w'.cell? ⟨ob, k, none⟩ = some (.int .i64 (o : Int))) ∧ w'.cell? ⟨nb, 2, none⟩ = some (.string ⟨#[102, 116, 112]⟩)) (fun _ h => h.1) ?_
      have hSS := (⟨SC.out _ HBW1.out, cell_of_row _ _ _ _ _ _ HN.out⟩ : (W1.cell? ⟨lb, k, none⟩ = some (.string ⟨X.toArray⟩) ∧ W1.cell? ⟨ob, k, none⟩ = some (.int .i64 (o : Int))) ∧ W1.cell? ⟨nb, 2, none⟩ = some (.string ⟨#[102, 116, 112]⟩))
      try simp only [Act.put, List.setIfInBounds_toArray, List.set_cons_zero, List.set_cons_succ]
      refine heldTake (i := 2) (v := ?_) rfl (by kernel_rfl) (by kernel_rfl) (fun _ _ _ h => h) (by rfl) (by assumption) (fun w hSw => ?_) ?_; rotate_left; focus ((try dsimp only at hSw); go_simp; try with_reducible rfl)
      try simp only [Act.put, List.setIfInBounds_toArray, List.set_cons_zero, List.set_cons_succ]
      refine heldTake (i := 3) (v := ?_) rfl (by kernel_rfl) (by kernel_rfl) (fun _ _ _ h => h) (by rfl) (by assumption) (fun w hSw => ?_) ?_; rotate_left; focus ((try dsimp only at hSw); go_simp; try with_reducible rfl)
      try simp only [Act.put, List.setIfInBounds_toArray, List.set_cons_zero, List.set_cons_succ]
      refine heldTake (i := 4) (v := ?_) rfl (by kernel_rfl) (by kernel_rfl) (fun _ _ _ h => h) (by rfl) (by assumption) (fun w hSw => ?_) ?_; rotate_left; focus ((try dsimp only at hSw); go_simp; try with_reducible rfl)
      try simp only [Act.put, List.setIfInBounds_toArray, List.set_cons_zero, List.set_cons_succ]
      refine heldTake (i := 5) (v := ?_) rfl (by kernel_rfl) (by kernel_rfl) (fun _ _ _ h => h) (by rfl) (by assumption) (fun w hSw => ?_) ?_; rotate_left; focus ((try dsimp only at hSw); go_simp; try with_reducible rfl)
      try simp only [Act.put, List.setIfInBounds_toArray, List.set_cons_zero, List.set_cons_succ]
      refine heldTake (i := 10) (v := ?_) rfl (by kernel_rfl) (by kernel_rfl) (fun _ _ _ h => h) (by rfl) (by assumption) (fun w hSw => ?_) ?_; rotate_left; focus ((try dsimp only at hSw); go_simp; try with_reducible rfl)
      try simp only [Act.put, List.setIfInBounds_toArray, List.set_cons_zero, List.set_cons_succ]
      -- TWO 11 Op.call { callee := Callee.value (Operand.func 8), args := #[Operand.tmp 59], ar | 16 Op.alloc 26
      refine heldTwo (i := 11) (j := 16) rfl rfl (by kernel_rfl) (by rfl) (by rfl) (fun K hK => ?_) (fun K hK => ?_)
      · go_simp; (try rw [HTA.out]); go_at_call 8; refine (SRC.out W1 (HSP.out.below HBW1.out)).mono ?_; rintro e w2 hP; obtain ⟨a1, c1, u1, d1, hbn, rfl, _⟩ := HOUT.out _ _ _ hP; clear hP; have HBw2 := Lib.hid (HBW1.out.trans (hbn.mono HBW1.out.size)); replace HN := Lib.hid ((hbn.block _ (Array.getElem?_eq_some_iff.1 HN.out).1).trans HN.out); clear hbn; have hSS := (⟨SC.out _ HBw2.out, cell_of_row _ _ _ _ _ _ HN.out⟩ : (w2.cell? ⟨lb, k, none⟩ = some (.string ⟨X.toArray⟩) ∧ w2.cell? ⟨ob, k, none⟩ = some (.int .i64 (o : Int))) ∧ w2.cell? ⟨nb, 2, none⟩ = some (.string ⟨#[102, 116, 112]⟩)); first | (refine hK.out _ _ hSS ?_) | (go_wp2_with fail; refine hK.out _ _ hSS ?_); clear hK K
        try simp only [Act.put, List.setIfInBounds_toArray, List.set_cons_zero, List.set_cons_succ]
        refine heldTake (i := 12) (v := ?_) rfl (by kernel_rfl) (by kernel_rfl) (fun _ _ _ h => h) (by rfl) (by assumption) (fun w hSw => ?_) ?_; rotate_left; focus ((try dsimp only at hSw); go_simp; try with_reducible rfl)
        try simp only [Act.put, List.setIfInBounds_toArray, List.set_cons_zero, List.set_cons_succ]
        refine heldTake (i := 13) (v := ?_) rfl (by kernel_rfl) (by kernel_rfl) (fun _ _ _ h => h) (by rfl) (by assumption) (fun w hSw => ?_) ?_; rotate_left; focus ((try dsimp only at hSw); go_simp; try with_reducible rfl)
        try simp only [Act.put, List.setIfInBounds_toArray, List.set_cons_zero, List.set_cons_succ]
        refine heldTake (i := 14) (v := ?_) rfl (by kernel_rfl) (by kernel_rfl) (fun _ _ _ h => h) (by rfl) (by assumption) (fun w hSw => ?_) ?_; rotate_left; focus ((try dsimp only at hSw); go_simp; try with_reducible rfl)
        try simp only [Act.put, List.setIfInBounds_toArray, List.set_cons_zero, List.set_cons_succ]
        refine heldTake (i := 15) (v := ?_) rfl (by kernel_rfl) (by kernel_rfl) (fun _ _ _ h => h) (by rfl) (by assumption) (fun w hSw => ?_) ?_; rotate_left; focus ((try dsimp only at hSw); go_simp; try with_reducible rfl)
        try simp only [Act.put, List.setIfInBounds_toArray, List.set_cons_zero, List.set_cons_succ]
        -- NEXT 16 Op.alloc 26
        refine heldNext (i := 16) rfl (by kernel_rfl) (by rfl) (fun K hK => ?_)
        go_simp
        obtain ⟨W3, hn⟩ : ∃ x, w2.alloc (.cells #[.int .i64 0, .slice none 0 0, .slice none 0 0] 26) = x := ⟨_, rfl⟩
        obtain ⟨pb, hnb⟩ : ∃ b, w2.heap.size = b := ⟨_, rfl⟩
        have hbn : Below w2.heap.size w2 W3 := by rw [← hn]; exact (Below.refl _ _).alloc (Nat.le_refl _) _
        have hcn : H3 W3 pb [.int .i64 0, .slice none 0 0, .slice none 0 0] := by rw [← hnb, ← hn]; exact heap_alloc_new _ _
        rw [hn, hnb]
        have HBW3 := Lib.hid (HBw2.out.trans (hbn.mono HBw2.out.size))
        have HZ := Lib.hid (⟨hcn, by rw [← hnb]; exact HBw2.out.size⟩ : H3 W3 pb [.int .i64 0, .slice none 0 0, .slice none 0 0] ∧ W0.heap.size ≤ pb)
        replace HN := Lib.hid ((hbn.block _ (Array.getElem?_eq_some_iff.1 HN.out).1).trans HN.out)
        have hSS := (⟨SC.out _ HBW3.out, cell_of_row _ _ _ _ _ _ HN.out⟩ : (W3.cell? ⟨lb, k, none⟩ = some (.string ⟨X.toArray⟩) ∧ W3.cell? ⟨ob, k, none⟩ = some (.int .i64 (o : Int))) ∧ W3.cell? ⟨nb, 2, none⟩ = some (.string ⟨#[102, 116, 112]⟩))
        clear hn hnb hbn hcn
        refine hK.out _ _ hSS ?_; clear hK K
        try simp only [Act.put, List.setIfInBounds_toArray, List.set_cons_zero, List.set_cons_succ]
        -- NEXT 17 Op.store 26 (Operand.tmp 11) (Operand.tmp 61)
        refine heldNext (i := 17) rfl (by kernel_rfl) (by rfl) (fun K hK => ?_)
        have zc0 := HZ.out.1.cell (i := 0) rfl
        have zc1 := HZ.out.1.cell (i := 1) rfl
        have zc2 := HZ.out.1.cell (i := 2) rfl
        have zf0 := HZ.out.1.fr 0
        have zf1 := HZ.out.1.fr 1
        have zf2 := HZ.out.1.fr 2
        have hnp : nb ≠ pb := fun e => by have h1 := HN.out; have h2 := HZ.out.1; unfold H3 at h2; rw [e, h2] at h1; cases h1
        have HBF := Lib.hid (below_setN pb [.int .i64 (md : Int), .slice a1 row.length c1, .slice u1 top.length d1] 0 HZ.out.2 HBW3.out)
        have HNF : Hid ((setN W3 pb 0 [.int .i64 (md : Int), .slice a1 row.length c1, .slice u1 top.length d1]).heap[nb]? = _) := Lib.hid ((setN_other hnp [.int .i64 (md : Int), .slice a1 row.length c1, .slice u1 top.length d1] 0).trans HN.out)
        have hSS := (⟨SC.out _ HBF.out, cell_of_row _ _ _ _ _ _ HNF.out⟩ : ((setN W3 pb 0 [.int .i64 (md : Int), .slice a1 row.length c1, .slice u1 top.length d1]).cell? ⟨lb, k, none⟩ = some (.string ⟨X.toArray⟩) ∧ (setN W3 pb 0 [.int .i64 (md : Int), .slice a1 row.length c1, .slice u1 top.length d1]).cell? ⟨ob, k, none⟩ = some (.int .i64 (o : Int))) ∧ (setN W3 pb 0 [.int .i64 (md : Int), .slice a1 row.length c1, .slice u1 top.length d1]).cell? ⟨nb, 2, none⟩ = some (.string ⟨#[102, 116, 112]⟩))
        go_simp
        refine hK.out _ (setN W3 pb 0 [.int .i64 (md : Int), .slice a1 row.length c1, .slice u1 top.length d1]) hSS ?_; clear hK K
        clear zc0 zc1 zc2 zf0 zf1 zf2
        generalize setN W3 pb 0 [.int .i64 (md : Int), .slice a1 row.length c1, .slice u1 top.length d1] = WF at HBF hSS ⊢
        try simp only [Act.put, List.setIfInBounds_toArray, List.set_cons_zero, List.set_cons_succ]
        refine heldTake (i := 18) (v := ?_) rfl (by kernel_rfl) (by kernel_rfl) (fun _ _ _ h => h) (by rfl) (by assumption) (fun w hSw => ?_) ?_; rotate_left; focus ((try dsimp only at hSw); go_simp; try with_reducible rfl)
        try simp only [Act.put, List.setIfInBounds_toArray, List.set_cons_zero, List.set_cons_succ]
        refine heldTake (i := 19) (v := ?_) rfl (by kernel_rfl) (by kernel_rfl) (fun _ _ _ h => h) (by rfl) (by assumption) (fun w hSw => ?_) ?_; rotate_left; focus ((try dsimp only at hSw); go_simp; try with_reducible rfl)
        try simp only [Act.put, List.setIfInBounds_toArray, List.set_cons_zero, List.set_cons_succ]
        refine wpAnyH_done (by kernel_rfl) ?_ _
        simp only [Exit.then]
        go_step
        go_meet
        exact ⟨rfl, rfl, HBF⟩
      · go_simp
        obtain ⟨W3, hn⟩ : ∃ x, W1.alloc (.cells #[.int .i64 0, .slice none 0 0, .slice none 0 0] 26) = x := ⟨_, rfl⟩
        obtain ⟨pb, hnb⟩ : ∃ b, W1.heap.size = b := ⟨_, rfl⟩
        have hbn : Below W1.heap.size W1 W3 := by rw [← hn]; exact (Below.refl _ _).alloc (Nat.le_refl _) _
        have hcn : H3 W3 pb [.int .i64 0, .slice none 0 0, .slice none 0 0] := by rw [← hnb, ← hn]; exact heap_alloc_new _ _
        rw [hn, hnb]
        have HBW3 := Lib.hid (HBW1.out.trans (hbn.mono HBW1.out.size))
        have HZ := Lib.hid (⟨hcn, by rw [← hnb]; exact HBW1.out.size⟩ : H3 W3 pb [.int .i64 0, .slice none 0 0, .slice none 0 0] ∧ W0.heap.size ≤ pb)
        replace HN := Lib.hid ((hbn.block _ (Array.getElem?_eq_some_iff.1 HN.out).1).trans HN.out)
        have hSS := (⟨SC.out _ HBW3.out, cell_of_row _ _ _ _ _ _ HN.out⟩ : (W3.cell? ⟨lb, k, none⟩ = some (.string ⟨X.toArray⟩) ∧ W3.cell? ⟨ob, k, none⟩ = some (.int .i64 (o : Int))) ∧ W3.cell? ⟨nb, 2, none⟩ = some (.string ⟨#[102, 116, 112]⟩))
        clear hn hnb hbn hcn
        refine hK.out _ _ hSS ?_; clear hK K
        try simp only [Act.put, List.setIfInBounds_toArray, List.set_cons_zero, List.set_cons_succ]
        -- NEXT 11 Op.call { callee := Callee.value (Operand.func 8), args := #[Operand.tmp 59], argTypes := #[9] }
        refine heldNext (i := 11) rfl (by kernel_rfl) (by rfl) (fun K hK => ?_)
        go_simp; (try rw [HTA.out]); go_at_call 8; refine (SRC.out W3 (HSP.out.below HBW3.out)).mono ?_; rintro e w2 hP; obtain ⟨a1, c1, u1, d1, hbn, rfl, _⟩ := HOUT.out _ _ _ hP; clear hP; have HBw2 := Lib.hid (HBW3.out.trans (hbn.mono HBW3.out.size)); replace HN := Lib.hid ((hbn.block _ (Array.getElem?_eq_some_iff.1 HN.out).1).trans HN.out); replace HZ := Lib.hid (⟨HZ.out.1.below hbn HZ.out.1.lt, HZ.out.2⟩ : H3 w2 pb _ ∧ _); clear hbn; have hSS := (⟨SC.out _ HBw2.out, cell_of_row _ _ _ _ _ _ HN.out⟩ : (w2.cell? ⟨lb, k, none⟩ = some (.string ⟨X.toArray⟩) ∧ w2.cell? ⟨ob, k, none⟩ = some (.int .i64 (o : Int))) ∧ w2.cell? ⟨nb, 2, none⟩ = some (.string ⟨#[102, 116, 112]⟩)); first | (refine hK.out _ _ hSS ?_) | (go_wp2_with fail; refine hK.out _ _ hSS ?_); clear hK K
        try simp only [Act.put, List.setIfInBounds_toArray, List.set_cons_zero, List.set_cons_succ]
        refine heldTake (i := 12) (v := ?_) rfl (by kernel_rfl) (by kernel_rfl) (fun _ _ _ h => h) (by rfl) (by assumption) (fun w hSw => ?_) ?_; rotate_left; focus ((try dsimp only at hSw); go_simp; try with_reducible rfl)
        try simp only [Act.put, List.setIfInBounds_toArray, List.set_cons_zero, List.set_cons_succ]
        refine heldTake (i := 13) (v := ?_) rfl (by kernel_rfl) (by kernel_rfl) (fun _ _ _ h => h) (by rfl) (by assumption) (fun w hSw => ?_) ?_; rotate_left; focus ((try dsimp only at hSw); go_simp; try with_reducible rfl)
        try simp only [Act.put, List.setIfInBounds_toArray, List.set_cons_zero, List.set_cons_succ]
        refine heldTake (i := 14) (v := ?_) rfl (by kernel_rfl) (by kernel_rfl) (fun _ _ _ h => h) (by rfl) (by assumption) (fun w hSw => ?_) ?_; rotate_left; focus ((try dsimp only at hSw); go_simp; try with_reducible rfl)
        try simp only [Act.put, List.setIfInBounds_toArray, List.set_cons_zero, List.set_cons_succ]
        refine heldTake (i := 15) (v := ?_) rfl (by kernel_rfl) (by kernel_rfl) (fun _ _ _ h => h) (by rfl) (by assumption) (fun w hSw => ?_) ?_; rotate_left; focus ((try dsimp only at hSw); go_simp; try with_reducible rfl)
        try simp only [Act.put, List.setIfInBounds_toArray, List.set_cons_zero, List.set_cons_succ]
        -- NEXT 17 Op.store 26 (Operand.tmp 11) (Operand.tmp 61)
        refine heldNext (i := 17) rfl (by kernel_rfl) (by rfl) (fun K hK => ?_)
        have zc0 := HZ.out.1.cell (i := 0) rfl
        have zc1 := HZ.out.1.cell (i := 1) rfl
        have zc2 := HZ.out.1.cell (i := 2) rfl
        have zf0 := HZ.out.1.fr 0
        have zf1 := HZ.out.1.fr 1
        have zf2 := HZ.out.1.fr 2
        have hnp : nb ≠ pb := fun e => by have h1 := HN.out; have h2 := HZ.out.1; unfold H3 at h2; rw [e, h2] at h1; cases h1
        have HBF := Lib.hid (below_setN pb [.int .i64 (md : Int), .slice a1 row.length c1, .slice u1 top.length d1] 0 HZ.out.2 HBw2.out)
        have HNF : Hid ((setN w2 pb 0 [.int .i64 (md : Int), .slice a1 row.length c1, .slice u1 top.length d1]).heap[nb]? = _) := Lib.hid ((setN_other hnp [.int .i64 (md : Int), .slice a1 row.length c1, .slice u1 top.length d1] 0).trans HN.out)
        have hSS := (⟨SC.out _ HBF.out, cell_of_row _ _ _ _ _ _ HNF.out⟩ : ((setN w2 pb 0 [.int .i64 (md : Int), .slice a1 row.length c1, .slice u1 top.length d1]).cell? ⟨lb, k, none⟩ = some (.string ⟨X.toArray⟩) ∧ (setN w2 pb 0 [.int .i64 (md : Int), .slice a1 row.length c1, .slice u1 top.length d1]).cell? ⟨ob, k, none⟩ = some (.int .i64 (o : Int))) ∧ (setN w2 pb 0 [.int .i64 (md : Int), .slice a1 row.length c1, .slice u1 top.length d1]).cell? ⟨nb, 2, none⟩ = some (.string ⟨#[102, 116, 112]⟩))
        go_simp
        refine hK.out _ (setN w2 pb 0 [.int .i64 (md : Int), .slice a1 row.length c1, .slice u1 top.length d1]) hSS ?_; clear hK K
        clear zc0 zc1 zc2 zf0 zf1 zf2
        generalize setN w2 pb 0 [.int .i64 (md : Int), .slice a1 row.length c1, .slice u1 top.length d1] = WF at HBF hSS ⊢
        try simp only [Act.put, List.setIfInBounds_toArray, List.set_cons_zero, List.set_cons_succ]
        refine heldTake (i := 18) (v := ?_) rfl (by kernel_rfl) (by kernel_rfl) (fun _ _ _ h => h) (by rfl) (by assumption) (fun w hSw => ?_) ?_; rotate_left; focus ((try dsimp only at hSw); go_simp; try with_reducible rfl)
        try simp only [Act.put, List.setIfInBounds_toArray, List.set_cons_zero, List.set_cons_succ]
        refine heldTake (i := 19) (v := ?_) rfl (by kernel_rfl) (by kernel_rfl) (fun _ _ _ h => h) (by rfl) (by assumption) (fun w hSw => ?_) ?_; rotate_left; focus ((try dsimp only at hSw); go_simp; try with_reducible rfl)
        try simp only [Act.put, List.setIfInBounds_toArray, List.set_cons_zero, List.set_cons_succ]
        refine wpAnyH_done (by kernel_rfl) ?_ _
        simp only [Exit.then]
        go_step
        go_meet
        exact ⟨rfl, rfl, HBF⟩
    · go_simp
      obtain ⟨W3, hn⟩ : ∃ x, W.alloc (.cells #[.int .i64 0, .slice none 0 0, .slice none 0 0] 26) = x := ⟨_, rfl⟩
      obtain ⟨pb, hnb⟩ : ∃ b, W.heap.size = b := ⟨_, rfl⟩
      have hbn : Below W.heap.size W W3 := by rw [← hn]; exact (Below.refl _ _).alloc (Nat.le_refl _) _
      have hcn : H3 W3 pb [.int .i64 0, .slice none 0 0, .slice none 0 0] := by rw [← hnb, ← hn]; exact heap_alloc_new _ _
      rw [hn, hnb]
      have HBW3 := Lib.hid (HB.out.trans (hbn.mono HB.out.size))
      have HZ := Lib.hid (⟨hcn, by rw [← hnb]; exact HB.out.size⟩ : H3 W3 pb [.int .i64 0, .slice none 0 0, .slice none 0 0] ∧ W0.heap.size ≤ pb)
      clear hn hnb hbn hcn
      refine hK.out _ _ (SC.out _ HBW3.out) ?_; clear hK K
      try simp only [Act.put, List.setIfInBounds_toArray, List.set_cons_zero, List.set_cons_succ]
      -- NEXT 0 Op.buildSlice 31 3 #[(0, Operand.const (Value.string { data := #[115, 109, 116, 112] })), (1, Operand.const (V
      refine heldNext (i := 0) rfl (by kernel_rfl) (by rfl) (fun K hK => ?_)
      go_simp
      obtain ⟨W1, hn⟩ : ∃ x, W3.alloc (.cells #[.string ⟨#[115, 109, 116, 112]⟩, .string ⟨#[112, 111, 112, 51]⟩, .string ⟨#[102, 116, 112]⟩] 9) = x := ⟨_, rfl⟩
      obtain ⟨nb, hnb⟩ : ∃ b, W3.heap.size = b := ⟨_, rfl⟩
      have hbn : Below W3.heap.size W3 W1 := by rw [← hn]; exact (Below.refl _ _).alloc (Nat.le_refl _) _
      have hcn : W1.heap[nb]? = some (.cells #[.string ⟨#[115, 109, 116, 112]⟩, .string ⟨#[112, 111, 112, 51]⟩, .string ⟨#[102, 116, 112]⟩] 9 (0, 0)) := by rw [← hnb, ← hn]; exact heap_alloc_new _ _
      rw [hn, hnb]
      have HBW1 := Lib.hid (HBW3.out.trans (hbn.mono HBW3.out.size))
      have HN := Lib.hid hcn
      replace HZ := Lib.hid (⟨HZ.out.1.below hbn HZ.out.1.lt, HZ.out.2⟩ : H3 W1 pb _ ∧ _)
      clear hn hnb hbn hcn
      refine hK.out _ _ (SC.out _ HBW1.out) ?_; clear hK K
      refine heldMore (S' := fun w' => (w'.cell? ⟨lb, k, none⟩ = some (.string ⟨X.toArray⟩) ∧ w'.cell? ⟨ob, k, none⟩ = some (.int .i64 (o : Int))) ∧ w'.cell? ⟨nb, 2, none⟩ = some (.string ⟨#[102, 116, 112]⟩)) (fun _ h => h.1) ?_
      have hSS := (⟨SC.out _ HBW1.out, cell_of_row _ _ _ _ _ _ HN.out⟩ : (W1.cell? ⟨lb, k, none⟩ = some (.string ⟨X.toArray⟩) ∧ W1.cell? ⟨ob, k, none⟩ = some (.int .i64 (o : Int))) ∧ W1.cell? ⟨nb, 2, none⟩ = some (.string ⟨#[102, 116, 112]⟩))
      try simp only [Act.put, List.setIfInBounds_toArray, List.set_cons_zero, List.set_cons_succ]
      refine heldTake (i := 2) (v := ?_) rfl (by kernel_rfl) (by kernel_rfl) (fun _ _ _ h => h) (by rfl) (by assumption) (fun w hSw => ?_) ?_; rotate_left; focus ((try dsimp only at hSw); go_simp; try with_reducible rfl)
      try simp only [Act.put, List.setIfInBounds_toArray, List.set_cons_zero, List.set_cons_succ]
      refine heldTake (i := 3) (v := ?_) rfl (by kernel_rfl) (by kernel_rfl) (fun _ _ _ h => h) (by rfl) (by assumption) (fun w hSw => ?_) ?_; rotate_left; focus ((try dsimp only at hSw); go_simp; try with_reducible rfl)
      try simp only [Act.put, List.setIfInBounds_toArray, List.set_cons_zero, List.set_cons_succ]
      refine heldTake (i := 4) (v := ?_) rfl (by kernel_rfl) (by kernel_rfl) (fun _ _ _ h => h) (by rfl) (by assumption) (fun w hSw => ?_) ?_; rotate_left; focus ((try dsimp only at hSw); go_simp; try with_reducible rfl)
      try simp only [Act.put, List.setIfInBounds_toArray, List.set_cons_zero, List.set_cons_succ]
      refine heldTake (i := 5) (v := ?_) rfl (by kernel_rfl) (by kernel_rfl) (fun _ _ _ h => h) (by rfl) (by assumption) (fun w hSw => ?_) ?_; rotate_left; focus ((try dsimp only at hSw); go_simp; try with_reducible rfl)
      try simp only [Act.put, List.setIfInBounds_toArray, List.set_cons_zero, List.set_cons_succ]
      refine heldTake (i := 10) (v := ?_) rfl (by kernel_rfl) (by kernel_rfl) (fun _ _ _ h => h) (by rfl) (by assumption) (fun w hSw => ?_) ?_; rotate_left; focus ((try dsimp only at hSw); go_simp; try with_reducible rfl)
      try simp only [Act.put, List.setIfInBounds_toArray, List.set_cons_zero, List.set_cons_succ]
      -- NEXT 11 Op.call { callee := Callee.value (Operand.func 8), args := #[Operand.tmp 59], argTypes := #[9] }
      refine heldNext (i := 11) rfl (by kernel_rfl) (by rfl) (fun K hK => ?_)
      go_simp; (try rw [HTA.out]); go_at_call 8; refine (SRC.out W1 (HSP.out.below HBW1.out)).mono ?_; rintro e w2 hP; obtain ⟨a1, c1, u1, d1, hbn, rfl, _⟩ := HOUT.out _ _ _ hP; clear hP; have HBw2 := Lib.hid (HBW1.out.trans (hbn.mono HBW1.out.size)); replace HN := Lib.hid ((hbn.block _ (Array.getElem?_eq_some_iff.1 HN.out).1).trans HN.out); replace HZ := Lib.hid (⟨HZ.out.1.below hbn HZ.out.1.lt, HZ.out.2⟩ : H3 w2 pb _ ∧ _); clear hbn; have hSS := (⟨SC.out _ HBw2.out, cell_of_row _ _ _ _ _ _ HN.out⟩ : (w2.cell? ⟨lb, k, none⟩ = some (.string ⟨X.toArray⟩) ∧ w2.cell? ⟨ob, k, none⟩ = some (.int .i64 (o : Int))) ∧ w2.cell? ⟨nb, 2, none⟩ = some (.string ⟨#[102, 116, 112]⟩)); first | (refine hK.out _ _ hSS ?_) | (go_wp2_with fail; refine hK.out _ _ hSS ?_); clear hK K
      try simp only [Act.put, List.setIfInBounds_toArray, List.set_cons_zero, List.set_cons_succ]
      refine heldTake (i := 12) (v := ?_) rfl (by kernel_rfl) (by kernel_rfl) (fun _ _ _ h => h) (by rfl) (by assumption) (fun w hSw => ?_) ?_; rotate_left; focus ((try dsimp only at hSw); go_simp; try with_reducible rfl)
      try simp only [Act.put, List.setIfInBounds_toArray, List.set_cons_zero, List.set_cons_succ]
      refine heldTake (i := 13) (v := ?_) rfl (by kernel_rfl) (by kernel_rfl) (fun _ _ _ h => h) (by rfl) (by assumption) (fun w hSw => ?_) ?_; rotate_left; focus ((try dsimp only at hSw); go_simp; try with_reducible rfl)
      try simp only [Act.put, List.setIfInBounds_toArray, List.set_cons_zero, List.set_cons_succ]
      refine heldTake (i := 14) (v := ?_) rfl (by kernel_rfl) (by kernel_rfl) (fun _ _ _ h => h) (by rfl) (by assumption) (fun w hSw => ?_) ?_; rotate_left; focus ((try dsimp only at hSw); go_simp; try with_reducible rfl)
      try simp only [Act.put, List.setIfInBounds_toArray, List.set_cons_zero, List.set_cons_succ]
      refine heldTake (i := 15) (v := ?_) rfl (by kernel_rfl) (by kernel_rfl) (fun _ _ _ h => h) (by rfl) (by assumption) (fun w hSw => ?_) ?_; rotate_left; focus ((try dsimp only at hSw); go_simp; try with_reducible rfl)
      try simp only [Act.put, List.setIfInBounds_toArray, List.set_cons_zero, List.set_cons_succ]
      -- NEXT 17 Op.store 26 (Operand.tmp 11) (Operand.tmp 61)
      refine heldNext (i := 17) rfl (by kernel_rfl) (by rfl) (fun K hK => ?_)
      have zc0 := HZ.out.1.cell (i := 0) rfl
      have zc1 := HZ.out.1.cell (i := 1) rfl
      have zc2 := HZ.out.1.cell (i := 2) rfl
      have zf0 := HZ.out.1.fr 0
      have zf1 := HZ.out.1.fr 1
      have zf2 := HZ.out.1.fr 2
      have hnp : nb ≠ pb := fun e => by have h1 := HN.out; have h2 := HZ.out.1; unfold H3 at h2; rw [e, h2] at h1; cases h1
      have HBF := Lib.hid (below_setN pb [.int .i64 (md : Int), .slice a1 row.length c1, .slice u1 top.length d1] 0 HZ.out.2 HBw2.out)
      have HNF : Hid ((setN w2 pb 0 [.int .i64 (md : Int), .slice a1 row.length c1, .slice u1 top.length d1]).heap[nb]? = _) := Lib.hid ((setN_other hnp [.int .i64 (md : Int), .slice a1 row.length c1, .slice u1 top.length d1] 0).trans HN.out)
      have hSS := (⟨SC.out _ HBF.out, cell_of_row _ _ _ _ _ _ HNF.out⟩ : ((setN w2 pb 0 [.int .i64 (md : Int), .slice a1 row.length c1, .slice u1 top.length d1]).cell? ⟨lb, k, none⟩ = some (.string ⟨X.toArray⟩) ∧ (setN w2 pb 0 [.int .i64 (md : Int), .slice a1 row.length c1, .slice u1 top.length d1]).cell? ⟨ob, k, none⟩ = some (.int .i64 (o : Int))) ∧ (setN w2 pb 0 [.int .i64 (md : Int), .slice a1 row.length c1, .slice u1 top.length d1]).cell? ⟨nb, 2, none⟩ = some (.string ⟨#[102, 116, 112]⟩))
      go_simp
      refine hK.out _ (setN w2 pb 0 [.int .i64 (md : Int), .slice a1 row.length c1, .slice u1 top.length d1]) hSS ?_; clear hK K
      clear zc0 zc1 zc2 zf0 zf1 zf2
      generalize setN w2 pb 0 [.int .i64 (md : Int), .slice a1 row.length c1, .slice u1 top.length d1] = WF at HBF hSS ⊢
      try simp only [Act.put, List.setIfInBounds_toArray, List.set_cons_zero, List.set_cons_succ]
      refine heldTake (i := 18) (v := ?_) rfl (by kernel_rfl) (by kernel_rfl) (fun _ _ _ h => h) (by rfl) (by assumption) (fun w hSw => ?_) ?_; rotate_left; focus ((try dsimp only at hSw); go_simp; try with_reducible rfl)
      try simp only [Act.put, List.setIfInBounds_toArray, List.set_cons_zero, List.set_cons_succ]
      refine heldTake (i := 19) (v := ?_) rfl (by kernel_rfl) (by kernel_rfl) (fun _ _ _ h => h) (by rfl) (by assumption) (fun w hSw => ?_) ?_; rotate_left; focus ((try dsimp only at hSw); go_simp; try with_reducible rfl)
      try simp only [Act.put, List.setIfInBounds_toArray, List.set_cons_zero, List.set_cons_succ]
      refine wpAnyH_done (by kernel_rfl) ?_ _
      simp only [Exit.then]
      go_step
      go_meet
      exact ⟨rfl, rfl, HBF⟩

  case rest =>
  obtain ⟨rfl, rfl, HX⟩ := hcut
  have hob := (SC.out wc HX.out).2
  have hob2 : ∀ ox, (wc.alloc ox).cell? ⟨ob, k, none⟩ = some (.int .i64 (o : Int)) := fun ox => (SC.out _ (HX.out.alloc HX.out.size ox)).2
  have HF := Lib.hid (HB0.out.trans (HX.out.mono HSZ.out))
  have HF2 := Lib.hid (fun ox => HF.out.alloc HF.out.size ox)
  rcases HOF.out with ⟨pp, hsrc, hown⟩ | ⟨hsrc, hown⟩
  · have h0 : c = 0 ∧ p = 0 := by
      rcases HPC.out with ⟨h1, _, h2⟩ | ⟨_, h1, _⟩
      · exact ⟨h1, h2⟩
      · rw [hsrc] at h1; cases h1
    obtain ⟨rfl, rfl⟩ := h0
    rw [HOWN.out] at hown
    rcases HO5.out with rfl | rfl | rfl | rfl | rfl
    all_goals first
      | exact absurd hown (by decide)
      | (clear hown hsrc HPC HOUT SC hs0; go_wp2; go_ret; exact ⟨rfl, HF2.out _⟩)
  · have h0 : c = 30 ∧ p = 17 := by
      rcases HPC.out with ⟨_, h1, _⟩ | ⟨_, h1, _⟩
      · rw [hsrc] at h1; cases h1
      · rw [hsrc] at h1
        have h2 : (Ck.modesB 2, 30) = (p, c) := by injection h1
        exact ⟨(Prod.mk.inj h2).2.symm, (Prod.mk.inj h2).1.symm⟩
    obtain ⟨rfl, rfl⟩ := h0
    rw [HOWN.out] at hown
    rcases HO5.out with rfl | rfl | rfl | rfl | rfl
    all_goals first
      | exact absurd hown (by decide)
      | (clear hown hsrc HPC HOUT SC hs0; go_wp2; go_ret; exact ⟨rfl, HF2.out _⟩)

theorem byte_of {a : Int} (h : (Lit.int .u8 a).wf = true) : ∃ A : Nat, a = (A : Int) ∧ A < 256 := by
  have h' : 0 ≤ a ∧ a ≤ 255 := by
    unfold Lit.wf at h
    rw [Bool.and_eq_true, decide_eq_true_eq, decide_eq_true_eq, show IntKind.min .u8 = 0 by decide, show IntKind.max .u8 = 255 by decide] at h
    exact h
  exact ⟨a.toNat, by omega, by omega⟩
theorem lawModesC (a b : Int) (ha : (Lit.int .u8 a).wf = true) (hb : (Lit.int .u8 b).wf = true) (w : World) (hS : SHP w) :
    Calls Tryd.prog 4 #[.int .u8 a, .int .u8 b] w fun e w' => e = .returned (.bool true) ∧ Below w.heap.size w w' := by
  obtain ⟨A, rfl, hA⟩ := byte_of ha
  obtain ⟨B, rfl, hB⟩ := byte_of hb
  obtain ⟨k, hk⟩ : ∃ k : Nat, (B : Int).tmod 19 = (k : Int) := ⟨B % 19, by rw [Int.tmod_eq_emod_of_nonneg (by omega)]; rfl⟩
  have hk19 : k < 19 := by rw [Int.tmod_eq_emod_of_nonneg (by omega)] at hk; omega
  obtain ⟨m, hm⟩ : ∃ m : Nat, (A : Int).tmod 3 = (m : Int) := ⟨A % 3, by rw [Int.tmod_eq_emod_of_nonneg (by omega)]; rfl⟩
  have hm3 : m < 3 := by rw [Int.tmod_eq_emod_of_nonneg (by omega)] at hm; omega
  rcases (by omega : m = 0 ∨ m = 1 ∨ m = 2) with rfl | rfl | rfl
  · exact modes_way0 A B k hA hB hm hk hk19 w hS
  · exact modes_way1 A B k hA hB hm hk hk19 w hS
  · exact modes_way2 A B k hA hB hm hk hk19 w hS
end Go.Proofs.YthlbociimbpgkaaDoor
