/- The laws' many, walked; what a decided script's ops are (layer 18). Laid by wip/tools/gen_cbr.py. -/
import Derived.Test.YtodlhhfcjkjapaaGreatDoorDO
import Derived.Test.YtodlhhfcjkjapaaGreatDoorBR
import Derived.Test.YtodlhhfcjkjapaaGreatDoorBits
namespace Go.Proofs.YtodlhhfcjkjapaaGreatDoor
open Go.RowKit
theorem ba_joinC (X Y : List UInt8) : ∃ X2 : List UInt8, (⟨X.toArray⟩ : ByteArray) ++ ⟨Y.toArray⟩ = ⟨X2.toArray⟩ ∧ X2.length = X.length + Y.length ∧ X2 = X ++ Y := ⟨X ++ Y, ByteArray.mk_append_mk X Y, by simp, rfl⟩
theorem many_len : ∀ n, (Cd.manyW n).length = n * 5
 | 0 => rfl
 | n + 1 => by rw [Cd.manyW, List.length_append, many_len n, Nat.add_mul]; rfl
set_option maxRecDepth 20000 in
set_option maxHeartbeats 4000000 in
theorem many_any (n : Nat) (hn : n < 10) (w : World) :
  Calls Tryz.prog 15 #[.int .i64 (n : Int)] w fun e w' => e = .returned (.string ⟨(Cd.manyW n).toArray⟩) ∧ w' = w := by
 go_enter Tryz.func15, Tryz.ntmps15
 go_wp2
 go_loopw [3, 4] (fun s3 s4 wr => ∃ (k : Nat) (X : List UInt8), k ≤ n ∧ s4 = .int .i64 k ∧ s3 = .string ⟨X.toArray⟩ ∧ X.length = k * 5 ∧ wr = w ∧ Hid (X = Cd.manyW k)) (fun _ s4 _ => n - (intOf s4).toNat)
 case atStart => exact ⟨0, [], Nat.zero_le _, rfl, rfl, rfl, rfl, by show _ = _; rfl⟩
 case round =>
  obtain ⟨k, X, hk, rfl, rfl, hX, rfl, HX⟩ := hrel
  obtain ⟨LX, hLX⟩ : ∃ LX, X.length = LX := ⟨_, rfl⟩
  rw [hLX] at hX
  have hz : (⟨X.toArray⟩ : ByteArray).size = LX := hLX
  by_cases hlt : k < n
  ·obtain ⟨X2, hX2, hlen, hX3⟩ := ba_joinC X [115, 116, 111, 112, 59]
   rw [hLX] at hlen
   replace hlen : X2.length = LX + 5 := hlen
   have hz1 : (⟨#[115, 116, 111, 112, 59]⟩ : ByteArray).size = 5 := rfl
   have HX2 : Hid (X2 = Cd.manyW (k + 1)) := Lib.hid (by rw [hX3, HX.out, Cd.manyW]; rfl)
   have hsm : (9223372036854775807 < LX + 5) = False := eq_false (by omega)
   have HLX := Lib.hid hX
   clear hX3 hX hLX
   go_wp2
   go_roundw
   case rel => exact ⟨k + 1, X2, by omega, by go_num, rfl, by have := HLX.out; omega, trivial, HX2⟩
   case measure => simp [intOf]; omega
  ·obtain rfl : k = n := by omega
   clear hX hLX
   go_wp2
   go_ret
   rw [HX.out]
   exact ⟨rfl, rfl⟩
theorem isOp_at {l : List Cd.Op} {i k to' : Nat} (h : Cd.isOp l i k to' = true) : ∃ o, l[i]? = some o ∧ o.kind = k ∧ o.to = (to' : Int) := by
 unfold Cd.isOp at h
 cases hl : l[i]? with
 | none => rw [hl] at h; cases h
 | some o =>
  rw [hl] at h
  simp only [Bool.and_eq_true, decide_eq_true_eq] at h
  exact ⟨o, rfl, h.1, h.2⟩
theorem or_at {w : World} {ao : Option Addr} {n cap k kd : Nat} {t : Int} {l : List Cd.Op} (h : OR w (.slice ao n cap) l) (hk : ∃ o, l[k]? = some o ∧ o.kind = kd ∧ o.to = t) : ∃ q, ao = some ⟨q, 0, none⟩ ∧ w.cell? ⟨q, k * 6, none⟩ = some (.int .i64 (kd : Int)) ∧ w.cell? ⟨q, k * 6 + 5, none⟩ = some (.int .i64 t) := by
 obtain ⟨o, h1, rfl, rfl⟩ := hk
 obtain ⟨q, e, c⟩ := h.at h1
 exact ⟨q, e, c.c0, c.c5⟩
theorem tmod_c (x d a : Nat) (h : x % d = a) : (x : Int) % (d : Int) = (a : Int) ∧ (x : Int).tmod (d : Int) = (a : Int) := by
 have h1 : (x : Int) % (d : Int) = (a : Int) := by rw [← h]; exact Int.natCast_emod x d
 exact ⟨h1, by rw [Int.tmod_eq_emod_of_nonneg (by omega)]; exact h1⟩
end Go.Proofs.YtodlhhfcjkjapaaGreatDoor
