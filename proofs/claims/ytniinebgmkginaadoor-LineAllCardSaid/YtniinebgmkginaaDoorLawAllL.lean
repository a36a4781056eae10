/- The walk of LineAll. -/
import Derived.Test.YtniinebgmkginaaDoorLineLaw
import Derived.Test.YtniinebgmkginaaDoorLineCodes
import Derived.Test.YtniinebgmkginaaDoorLineMatch
import Derived.Test.YtniinebgmkginaaDoorLineRefSt
import Derived.Test.YtniinebgmkginaaDoorLineRefCm
namespace Go.Proofs.YtniinebgmkginaaDoor
open Go.RowKit

set_option maxHeartbeats 8000000 in
set_option maxRecDepth 20000 in
theorem all_walk (proto : Int) (ls lt : List UInt8) (S T c t : ByteArray) (m ok k h : Bool)
    (H1 : ∀ w, Calls Tryd.prog 9 #[.string (ba ls)] w fun e w' => e = .returned (.string S) ∧ w' = w)
    (H2 : ∀ w, Calls Tryd.prog 9 #[.string (ba lt)] w fun e w' => e = .returned (.string T) ∧ w' = w)
    (S1 : ∀ w, Calls Tryd.prog 10 #[.int .i64 proto, .string S] w fun e w' => e = .returned (.tuple #[.agg #[.string c, .bool m, .string t], .bool ok]) ∧ Below w.heap.size w w')
    (S2 : ∀ w, Calls Tryd.prog 11 #[.int .i64 proto, .string S] w fun e w' => e = .returned (.tuple #[.agg #[.string c, .bool m, .string t], .bool ok]) ∧ Below w.heap.size w w')
    (K1 : ∀ w, Calls Tryd.prog 12 #[.int .i64 proto, .string S] w fun e w' => e = .returned (.bool k) ∧ Below w.heap.size w w')
    (K2 : ∀ w, Calls Tryd.prog 13 #[.int .i64 proto, .string S] w fun e w' => e = .returned (.bool k) ∧ Below w.heap.size w w')
    (M1 : ∀ w, Calls Tryd.prog 14 #[.string S, .string T] w fun e w' => e = .returned (.bool h) ∧ Below w.heap.size w w')
    (M2 : ∀ w, Calls Tryd.prog 15 #[.string S, .string T] w fun e w' => e = .returned (.bool h) ∧ Below w.heap.size w w') (w : World) :
    Calls Tryd.prog 3 #[.int .i64 proto, .string (ba ls), .string (ba lt)] w fun e w' => e = .returned (.bool true) ∧ Below w.heap.size w w' := by
  have q2 := stHeld
  have q3 := stGuard
  go_enter Tryd.func3, Tryd.ntmps3
  go_wp2_with (first
    | (go_at_call 8; refine (shown_any _).mono ?_; rintro e w1 ⟨rfl, HB⟩)
    | (go_at_call 9; first | (refine (H1 _).mono ?_; rintro e w' ⟨rfl, hw⟩; rw [hw]; clear hw H1) | (refine (H2 _).mono ?_; rintro e w' ⟨rfl, hw⟩; rw [hw]; clear hw H2))
    | (go_at_call 10; refine (S1 _).mono ?_; rintro e w2 ⟨rfl, hb⟩; clear S1; replace HB := HB.trans (hb.mono HB.size); clear hb)
    | (go_at_call 11; refine (S2 _).mono ?_; rintro e w3 ⟨rfl, hb⟩; clear S2; have sA := (St3.new w2 c t m).same (hb.block _ (by simp)); replace HB := (HB.alloc HB.size (.cells #[.string c, .bool m, .string t] 25)).trans (hb.mono (by have := HB.size; simp; omega)); clear hb; have a0 := fun o => (sA.alloc o).c0; have a1 := fun o => (sA.alloc o).c1; have a2 := fun o => (sA.alloc o).c2)
    | (go_at_call 12; refine (K1 _).mono ?_; rintro e w4 ⟨rfl, hb⟩; clear K1 a0 a1 a2 sA; replace HB := (HB.alloc HB.size (.cells #[.string c, .bool m, .string t] 25)).trans (hb.mono (by have := HB.size; simp; omega)); clear hb)
    | (go_at_call 13; refine (K2 _).mono ?_; rintro e w5 ⟨rfl, hb⟩; clear K2; replace HB := HB.trans (hb.mono HB.size); clear hb)
    | (go_at_call 14; refine (M1 _).mono ?_; rintro e w6 ⟨rfl, hb⟩; clear M1; replace HB := HB.trans (hb.mono HB.size); clear hb)
    | (go_at_call 15; refine (M2 _).mono ?_; rintro e w7 ⟨rfl, hb⟩; clear M2; replace HB := HB.trans (hb.mono HB.size); clear hb))
  go_ret
  exact ⟨rfl, HB⟩

theorem lawAll (proto : Int) (a0 a1 : ByteArray) (_ : (Lit.int .i64 proto).wf = true) (h0 : a0.size ≤ maxLen) (h1 : a1.size ≤ maxLen) (w : World) :
    Calls Tryd.prog 3 #[.int .i64 proto, .string a0, .string a1] w fun e w' => e = .returned (.bool true) ∧ Below w.heap.size w w' := by
  obtain ⟨ls, rfl⟩ : ∃ l, a0 = ba l := ⟨a0.data.toList, (ba_self a0).symm⟩
  obtain ⟨lt, rfl⟩ : ∃ l, a1 = ba l := ⟨a1.data.toList, (ba_self a1).symm⟩
  have H1 := short_any ls h0
  have H2 := short_any lt h1
  have z1 : (ls.take 200).length ≤ 200 := by rw [List.length_take]; omega
  have z2 : (lt.take 200).length ≤ 200 := by rw [List.length_take]; omega
  generalize ls.take 200 = s at H1 z1
  generalize lt.take 200 = t at H2 z2
  have S1 := status_any proto s (by omega)
  have S2 := rstatus_any proto s (by omega)
  obtain ⟨cc, cm, ct, hst⟩ := stv_form (Ln.status proto s)
  rw [hst] at S1 S2
  exact all_walk proto ls lt _ _ cc ct cm _ _ _ H1 H2 S1 S2 (codes_any proto s (by omega)) (rcodes_any proto s (by omega)) (match_any s t (by omega) (by omega)) (rmatch_any s t (by omega) (by omega)) w
end Go.Proofs.YtniinebgmkginaaDoor
