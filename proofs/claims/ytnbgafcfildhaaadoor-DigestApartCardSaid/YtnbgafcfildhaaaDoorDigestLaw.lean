/- The small functions of the laws of layer 3, walked. -/
import Derived.Test.YtnbgafcfildhaaaDoorDigestSum
import Derived.Test.YtnbgafcfildhaaaDoorDigestUnhex
namespace Go.Proofs.YtnbgafcfildhaaaDoor
open Go.RowKit

/-- A block of bytes, read. -/
theorem Rd.row {w : World} {b n : Nat} {l : List UInt8} {t : TypeId} {fr : Nat × Nat} (h : w.heap[b]? = some (.cells (l.map bv).toArray t fr)) (hn : n = l.length) (hl : n ≤ 16777216) : Rd w (.slice (some ⟨b, 0, none⟩) n n) (l.map bv) := by
  refine .inr ⟨b, 0, n, by rw [List.length_map, hn], by rw [List.length_map]; omega, by unfold maxLen; omega, fun j u hj => ?_⟩
  rw [cell_of_row _ _ _ _ _ _ h, Nat.zero_add]
  simpa using hj

theorem short_any (v : Value) (xs : List UInt8) (w : World) (h : Rd w v (xs.map bv)) (hs : xs.length ≤ maxLen) :
    Calls Tryd.prog 9 #[v] w fun e w' => ∃ v', e = .returned v' ∧ Rd w' v' ((xs.take 600).map bv) ∧ w = w' := by
  unfold maxLen at hs
  obtain ⟨ao, cap, rfl, hcap, hc⟩ := h.form
  obtain ⟨L, hL⟩ : ∃ L, L = xs.length := ⟨_, rfl⟩
  rw [← hL] at hs hcap h hc ⊢
  by_cases hlt : 600 < L
  · obtain ⟨b, o, rfl, hm, _⟩ := hc (by omega)
    unfold maxLen at hm
    have hr := h.head (m := 600) hL (by omega) (by omega)
    have HL := Lib.hid hL
    clear hL hc h
    go_enter Tryd.func9, Tryd.ntmps9
    go_wp2
    go_ret
    exact ⟨_, rfl, hr, rfl⟩
  · have e : xs.take 600 = xs := List.take_of_length_le (by omega)
    rw [e]
    have HL := Lib.hid hL
    clear hL hc e
    go_enter Tryd.func9, Tryd.ntmps9
    go_wp2
    go_ret
    exact ⟨_, rfl, h, rfl⟩

theorem info16 {R : List Value} (h : R.length = 16) : (Tryd.prog.info? 27).map (·.size) = some R.length := by rw [h]; kernel_rfl
theorem info16a {R : List Value} (h : R.length = 16) : (Tryd.prog.info? 27).map (·.size) = some R.toArray.size := by rw [List.size_toArray, h]; kernel_rfl
theorem rd_nil (w : World) : Rd w (.slice none 0 0) (([] : List UInt8).map bv) := .inl ⟨rfl, none, 0, fun _ => rfl, rfl⟩

theorem shown_any (w : World) (ht : TBL w) : Calls Tryd.prog 8 #[] w fun e w' => e = .returned (.bool true) ∧ Below w.heap.size w w' := by
  have HTB := Lib.hid ht
  clear ht
  obtain ⟨S, hS⟩ : ∃ S, S = Md5.sum [] := ⟨_, rfl⟩
  obtain ⟨R, hR⟩ : ∃ R, R = S.map bv := ⟨_, rfl⟩
  have hRl : R.length = 16 := by rw [hR, List.length_map, hS, Md5.sum_len]
  have HS := Lib.hid hS
  have HR := Lib.hid hR
  have HIL := Lib.hid (info16 hRl)
  have HONE := Lib.hid (show ∀ v ∈ R, v.oneCell' = true by rw [hR]; exact bv_cell _)
  have HRL := Lib.hid hRl
  clear hRl hS hR
  go_enter Tryd.func8, Tryd.ntmps8
  go_wp2_with fail
  refine (sum_any _ [] _ (rd_nil _) (by decide) HTB.out).mono ?_
  rintro e w1 ⟨rfl, hb1⟩
  have hav : av (Md5.sum []) = .agg R.toArray := by rw [HR.out, HS.out]
  rw [hav]
  clear hav
  go_wp2_with (refine wpList_store_at rfl 27 _ _ rfl w1.heap.size R rfl rfl 27 _ (heap_alloc_new w1 _) ?cb HIL.out HONE.out ?_)
  case cb => rw [HRL.out]; rfl
  intro w2 hg2 hgr2
  have hb2 : Below w.heap.size w w2 := (hb1.alloc hb1.size _).grown hgr2 (by have := hb1.size; simp; omega) (fun k hk => by cases hk; exact hb1.size)
  have hrd : Rd w2 (.slice (some ⟨w1.heap.size, 0, none⟩) 16 16) (S.map bv) := Rd.row (by rw [← HR.out]; exact hg2.out) (by rw [HS.out, Md5.sum_len]) (by decide)
  have HRD := Lib.hid hrd
  clear hgr2 hg2 hb1 hrd
  go_wp2_with fail
  refine (hexb_any _ S _ HRD.out (by rw [HS.out, Md5.sum_len]; decide)).mono ?_
  rintro e w3 ⟨rfl, hb3⟩
  have c3 := hb2.trans (hb3.mono hb2.size)
  rw [HS.out, Md5.sum_none, sv]
  clear hb3 hb2
  go_wp2
  go_ret
  exact ⟨rfl, c3⟩
end Go.Proofs.YtnbgafcfildhaaaDoor
