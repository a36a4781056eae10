/- digest.mixAll walked. -/
import Derived.Test.YtjogdflhpciciaaDoorDigestMix
import Derived.Test.YtjogdflhpciciaaDoorRdCut
import Derived.Deep.RegionWith
namespace Go.Proofs.YtjogdflhpciciaaDoor
open Go.RowKit

namespace Md5
/-- k blocks more. -/
def runB (l : List UInt8) (s : St) : Nat → St
  | 0 => s
  | k + 1 => block l (64 * k) (runB l s k)
theorem blocks_run (l : List UInt8) : ∀ k, blocks l k = runB l start k
  | 0 => rfl
  | k + 1 => by rw [blocks, runB, blocks_run l k]
theorem ok_run {l : List UInt8} {s : St} (h : Ok s) : ∀ k, Ok (runB l s k)
  | 0 => h
  | _ + 1 => ok_block
theorem getD_piece (l : List UInt8) (p j : Nat) (h : j < 64) : ((l.drop p).take 64).getD j 0 = l.getD (p + j) 0 := by
  rw [List.getD_eq_getElem?_getD, List.getD_eq_getElem?_getD, List.getElem?_take, if_pos h, List.getElem?_drop]
theorem word_piece (l : List UInt8) (p g : Nat) (h : g < 16) : word ((l.drop p).take 64) (0 + 4 * g) = word l (p + 4 * g) := by
  simp only [word]
  rw [getD_piece _ _ _ (by omega), getD_piece _ _ _ (by omega), getD_piece _ _ _ (by omega), getD_piece _ _ _ (by omega)]
  simp only [Nat.zero_add, Nat.add_assoc]
theorem steps_piece (l : List UInt8) (p : Nat) (s : St) : ∀ k, k ≤ 64 → steps ((l.drop p).take 64) 0 k s = steps l p k s
  | 0, _ => rfl
  | k + 1, h => by
    rw [steps, steps, steps_piece l p s k (by omega), step, step, word_piece _ _ _ (mixG_lt (by omega))]
theorem block_piece (l : List UInt8) (p : Nat) (s : St) : block ((l.drop p).take 64) 0 s = block l p s := by
  rw [block, block, steps_piece l p s 64 (Nat.le_refl _)]
/-- Only the bytes of the block matter. -/
theorem block_cong {l m : List UInt8} {p q : Nat} (h : (l.drop p).take 64 = (m.drop q).take 64) (s : St) : block l p s = block m q s := by
  rw [← block_piece l p, h, block_piece]
end Md5

/-- What stands at the head of a round: the four words, and those that go out, in blocks of their own. -/
structure MA (w : World) (B : Nat) (s : Md5.St) (v : Value) (xs : List UInt8) (wr : World) : Prop where
  h : wr.heap[B]? = some (.cells #[uv s.a, uv s.b, uv s.c, uv s.d] 49)
  z : wr.heap[B + 1]? = some (.cells #[uv 0, uv 0, uv 0, uv 0] 49)
  rd : Rd wr v (xs.map bv)
  tb : TBL wr
  below : Below w.heap.size w wr
  low : w.heap.size ≤ B
theorem MA.lt {w : World} {B : Nat} {s : Md5.St} {v : Value} {xs : List UInt8} {wr : World} (h : MA w B s v xs wr) : B + 1 < wr.heap.size := (Array.getElem?_eq_some_iff.1 h.z).1
theorem MA.next {w : World} {B : Nat} {s : Md5.St} {v : Value} {xs : List UInt8} {wr w' : World} (h : MA w B s v xs wr) (hb : Below wr.heap.size wr w') : MA w B s v xs w' := by
  have hl := h.lt
  exact ⟨(hb.block _ (by omega)).trans h.h, (hb.block _ hl).trans h.z, h.rd.below hb, h.tb.below hb, h.below.trans (hb.mono h.below.size), h.low⟩

theorem MA.k0 {w : World} {B : Nat} {s : Md5.St} {v : Value} {xs : List UInt8} {wr : World} (h : MA w B s v xs wr) : wr.cell? ⟨B, 0, none⟩ = some (.int .u32 (s.a : Int)) := cell_of_row _ _ _ _ _ _ h.h
theorem MA.k1 {w : World} {B : Nat} {s : Md5.St} {v : Value} {xs : List UInt8} {wr : World} (h : MA w B s v xs wr) : wr.cell? ⟨B, 1, none⟩ = some (.int .u32 (s.b : Int)) := cell_of_row _ _ _ _ _ _ h.h
theorem MA.k2 {w : World} {B : Nat} {s : Md5.St} {v : Value} {xs : List UInt8} {wr : World} (h : MA w B s v xs wr) : wr.cell? ⟨B, 2, none⟩ = some (.int .u32 (s.c : Int)) := cell_of_row _ _ _ _ _ _ h.h
theorem MA.k3 {w : World} {B : Nat} {s : Md5.St} {v : Value} {xs : List UInt8} {wr : World} (h : MA w B s v xs wr) : wr.cell? ⟨B, 3, none⟩ = some (.int .u32 (s.d : Int)) := cell_of_row _ _ _ _ _ _ h.h
theorem MA.f0 {w : World} {B : Nat} {s : Md5.St} {v : Value} {xs : List UInt8} {wr : World} (h : MA w B s v xs wr) : wr.frozen? ⟨B, 0, none⟩ = false := frozen_of_row _ _ _ _ _ h.h
theorem MA.f1 {w : World} {B : Nat} {s : Md5.St} {v : Value} {xs : List UInt8} {wr : World} (h : MA w B s v xs wr) : wr.frozen? ⟨B, 1, none⟩ = false := frozen_of_row _ _ _ _ _ h.h
theorem MA.f2 {w : World} {B : Nat} {s : Md5.St} {v : Value} {xs : List UInt8} {wr : World} (h : MA w B s v xs wr) : wr.frozen? ⟨B, 2, none⟩ = false := frozen_of_row _ _ _ _ _ h.h
theorem MA.f3 {w : World} {B : Nat} {s : Md5.St} {v : Value} {xs : List UInt8} {wr : World} (h : MA w B s v xs wr) : wr.frozen? ⟨B, 3, none⟩ = false := frozen_of_row _ _ _ _ _ h.h

theorem MA.set4 {w : World} {B : Nat} {s t : Md5.St} {v : Value} {xs : List UInt8} {wr : World} (h : MA w B s v xs wr) (hv : Rd w v (xs.map bv)) (ht : TBL w) :
    MA w B t v xs ((((wr.setCell ⟨B, 0, none⟩ (.int .u32 (t.a : Int))).setCell ⟨B, 1, none⟩ (.int .u32 (t.b : Int))).setCell ⟨B, 2, none⟩ (.int .u32 (t.c : Int))).setCell ⟨B, 3, none⟩ (.int .u32 (t.d : Int))) := by
  have hb := (((h.below.setCell (p := ⟨B, 0, none⟩) h.low (.int .u32 (t.a : Int))).setCell (p := ⟨B, 1, none⟩) h.low (.int .u32 (t.b : Int))).setCell (p := ⟨B, 2, none⟩) h.low (.int .u32 (t.c : Int))).setCell (p := ⟨B, 3, none⟩) h.low (.int .u32 (t.d : Int))
  refine ⟨?_, ?_, hv.below hb, ht.below hb, hb, h.low⟩
  · rw [setCell_row (setCell_row (setCell_row (setCell_row h.h)))]
    rfl
  · rw [Below.heap_setCell _ _ _ _ (by show B + 1 ≠ B; omega), Below.heap_setCell _ _ _ _ (by show B + 1 ≠ B; omega), Below.heap_setCell _ _ _ _ (by show B + 1 ≠ B; omega), Below.heap_setCell _ _ _ _ (by show B + 1 ≠ B; omega)]
    exact h.z

theorem words_in {w : World} {B : Nat} {s : Md5.St} {b o cap k : Nat} {xs : List UInt8} (hk : 64 * k + 64 ≤ xs.length) (wr : World) (h : MA w B s (.slice (some ⟨b, o, none⟩) xs.length cap) xs wr) :
    Calls Tryd.prog 52 #[.slice (some ⟨b, o + 64 * k, none⟩) 64 (cap - 64 * k)] wr fun e w' => e = .returned (.agg (sixteen ((xs.drop (64 * k)).take 64)).toArray) ∧ MA w B s (.slice (some ⟨b, o, none⟩) xs.length cap) xs w' := by
  have h1 := h.rd.rest (m := 64 * k) rfl (by omega)
  have h2 := h1.head (m := 64) (by rw [List.length_drop]) (by omega) (by omega)
  refine (wordsOf_any _ _ wr h2 (by rw [List.length_take, List.length_drop]; omega)).mono ?_
  rintro e w' ⟨rfl, hb⟩
  exact ⟨rfl, h.next hb⟩

theorem mix_in {w : World} {B : Nat} {s : Md5.St} {v : Value} {xs : List UInt8} {k : Nat} (hs : Md5.Ok s) (wr : World) (h : MA w B s v xs wr) :
    Calls Tryd.prog 51 #[.agg #[uv s.a, uv s.b, uv s.c, uv s.d], .agg (sixteen ((xs.drop (64 * k)).take 64)).toArray] wr fun e w' =>
      e = .returned (.agg #[uv (Md5.block xs (64 * k) s).a, uv (Md5.block xs (64 * k) s).b, uv (Md5.block xs (64 * k) s).c, uv (Md5.block xs (64 * k) s).d]) ∧ MA w B s v xs w' := by
  refine (mix_any s hs ((xs.drop (64 * k)).take 64) wr h.tb).mono ?_
  rintro e w' ⟨rfl, hb⟩
  exact ⟨by rw [Md5.block_piece]; rfl, h.next hb⟩

set_option maxHeartbeats 1000000 in
theorem mixAll_any (s : Md5.St) (hs : Md5.Ok s) (v : Value) (xs : List UInt8) (w : World) (h : Rd w v (xs.map bv)) (hl : xs.length ≤ 1048576) (ht : TBL w) :
    Calls Tryd.prog 38 #[.agg #[uv s.a, uv s.b, uv s.c, uv s.d], v] w fun e w' =>
      e = .returned (.agg #[uv (Md5.runB xs s (xs.length / 64)).a, uv (Md5.runB xs s (xs.length / 64)).b, uv (Md5.runB xs s (xs.length / 64)).c, uv (Md5.runB xs s (xs.length / 64)).d]) ∧ Below w.heap.size w w' := by
  obtain ⟨ao, cap, rfl, hcap, hc⟩ := h.form
  obtain ⟨L, hL⟩ : ∃ L, L = xs.length := ⟨_, rfl⟩
  obtain ⟨T, hT⟩ : ∃ T, T = Md5.runB xs s (xs.length / 64) := ⟨_, rfl⟩
  rw [← hT]
  rw [← hL] at hl hcap hc h hT ⊢
  have HC := Lib.hid hc
  have HT := Lib.hid hT
  have HL := Lib.hid hL
  have HRD := Lib.hid h
  have HTB := Lib.hid ht
  clear hc hT hL h ht
  go_enter Tryd.func38, Tryd.ntmps38
  go_wp2
  go_loopw [9] (fun i wr => ∃ k : Nat, k ≤ L / 64 ∧ i = .int .i64 k ∧ Hid (MA w w.heap.size (Md5.runB xs s k) (.slice ao L cap) xs wr)) (fun i _ => L / 64 - (intOf i).toNat)
  case atStart =>
    have hB : Below w.heap.size w ((w.alloc (.cells #[uv s.a, uv s.b, uv s.c, uv s.d] 49)).alloc (.cells #[uv 0, uv 0, uv 0, uv 0] 49)) := ((Below.refl _ _).alloc (Nat.le_refl _) _).alloc (by simp) _
    exact ⟨0, by omega, rfl, heap_alloc2_old w _ _, heap_alloc2_new w _ _, HRD.out.below hB, HTB.out.below hB, hB, Nat.le_refl _⟩
  case round =>
    obtain ⟨k, hk, rfl, hM⟩ := hrel
    by_cases hlt : k < L / 64
    · obtain ⟨b, o, rfl, hm, _⟩ := HC.out (by omega)
      unfold maxLen at hm
      have hok := Md5.ok_run (l := xs) hs k
      have hst : Md5.runB xs s (k + 1) = Md5.block xs (64 * k) (Md5.runB xs s k) := rfl
      generalize hR : Md5.runB xs s k = R at hM hok hst
      obtain ⟨T0, hT0⟩ : ∃ T0, T0 = Md5.block xs (64 * k) R := ⟨_, rfl⟩
      have M1 : MA w w.heap.size R (.slice (some ⟨b, o, none⟩) L cap) xs wr.drew := hM.out.next ((Below.refl _ _).drew)
      have C1 := Lib.hid (words_in (w := w) (B := w.heap.size) (s := R) (b := b) (o := o) (cap := cap) (k := k) (xs := xs) (by have := HL.out; omega))
      have C2 := Lib.hid (mix_in (w := w) (B := w.heap.size) (s := R) (v := .slice (some ⟨b, o, none⟩) L cap) (xs := xs) (k := k) hok)
      rw [← hT0] at C2 hst
      rw [← HL.out] at C1
      have e0 : wr.cell? ⟨w.heap.size, 0, none⟩ = some (.int .u32 (R.a : Int)) := cell_of_row _ _ _ _ _ _ hM.out.h
      have e1 : wr.cell? ⟨w.heap.size, 1, none⟩ = some (.int .u32 (R.b : Int)) := cell_of_row _ _ _ _ _ _ hM.out.h
      have e2 : wr.cell? ⟨w.heap.size, 2, none⟩ = some (.int .u32 (R.c : Int)) := cell_of_row _ _ _ _ _ _ hM.out.h
      have e3 : wr.cell? ⟨w.heap.size, 3, none⟩ = some (.int .u32 (R.d : Int)) := cell_of_row _ _ _ _ _ _ hM.out.h
      have HST := Lib.hid hst
      have i0 : (0 : Int) ≤ (k : Int) := Int.natCast_nonneg _
      obtain ⟨lo, hlo⟩ : ∃ lo, lo = 64 * k := ⟨_, rfl⟩
      obtain ⟨hi, hhi⟩ : ∃ hi, hi = lo + 64 := ⟨_, rfl⟩
      have i1 : IntKind.i64.wrap ((k : Int) * 64) = (lo : Int) := by rw [wraps_i64 _ (by omega) (by omega)]; omega
      have i2 : IntKind.i64.wrap ((k : Int) + 1) = (k : Int) + 1 := wraps_i64 _ (by omega) (by omega)
      have i3 : IntKind.i64.wrap (((k : Int) + 1) * 64) = (hi : Int) := by rw [wraps_i64 _ (by omega) (by omega)]; omega
      have i4 : (0 : Int) ≤ (lo : Int) := Int.natCast_nonneg _
      have i5 : (lo : Int) ≤ (hi : Int) := by omega
      have i6 : (hi : Int) ≤ (cap : Int) := by omega
      have i7 : hi - lo = 64 := by omega
      have i8 : (cap = lo) = False := eq_false (by omega)
      rw [← hlo] at C1 C2
      have HLO := Lib.hid hlo
      have HHI := Lib.hid hhi
      clear hlo hhi
      clear hst hT0 hR
      go_wp2
      go_region_with (first | (go_at_call 52; refine (C1.out _ (by assumption)).mono ?_; rintro e w3 ⟨rfl, M2⟩; have s0 := M2.k0; have s1 := M2.k1; have s2 := M2.k2; have s3 := M2.k3) | (go_at_call 51; refine (C2.out _ (by assumption)).mono ?_; rintro e w4 ⟨rfl, M3⟩; have s0 := M3.k0; have s1 := M3.k1; have s2 := M3.k2; have s3 := M3.k3; have f0 := M3.f0; have f1 := M3.f1; have f2 := M3.f2; have f3 := M3.f3))
      all_goals
        have M4 := M3.set4 (t := T0) HRD.out HTB.out
        go_wp2
        go_roundw
        case rel => exact ⟨k + 1, by omega, by go_num, by show MA _ _ _ _ _ _; rw [HST.out]; exact M4⟩
        case measure => simp [intOf]; omega
    · obtain rfl : k = L / 64 := by omega
      have hM := hM.out
      rw [← HT.out] at hM
      have e0 := hM.k0
      have e1 := hM.k1
      have e2 := hM.k2
      have e3 := hM.k3
      have HM := Lib.hid hM
      have hz := hM.z
      clear hM
      go_wp2_with (refine wpList_store_at rfl 49 _ _ rfl (w.heap.size + 1) _ rfl rfl 49 _ hz rfl (by kernel_rfl) ?ca ?_)
      case ca => intro v hv; simp at hv; rcases hv with rfl | rfl | rfl | rfl <;> rfl
      intro w4 hg4 hgr4
      have hB4 := HM.out.below.grown hgr4 HM.out.below.size (fun k hk => by cases hk; omega)
      clear hgr4
      go_wp2
      exact bodyPost_ret (v := .agg _) (results_cell_row Tryd.results38 _ _ (w.heap.size + 1) 49 _ (0, 0) _ rfl hg4.out Tryd.underlying49 rfl (by kernel_rfl)) rfl ⟨rfl, hB4⟩
end Go.Proofs.YtjogdflhpciciaaDoor
