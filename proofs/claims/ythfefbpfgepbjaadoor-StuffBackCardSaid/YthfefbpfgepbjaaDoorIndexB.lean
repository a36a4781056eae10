/- bytes.IndexAny of the two letters of an end, whatever bytes. -/
import Derived.Test.YthfefbpfgepbjaaDoorSetB
import Derived.Test.YthfefbpfgepbjaaDoorRuneP
import Derived.Test.YthfefbpfgepbjaaDoorDecode
import Derived.Test.YthfefbpfgepbjaaDoorRdCut
import Derived.Test.YthfefbpfgepbjaaDoorMx
import Derived.Shelf.RegionOpenPlain
namespace Go.Proofs.YthfefbpfgepbjaaDoor
open Go.RowKit

/-- The library's tables and its variable. -/
structure LT (w : World) : Prop where
  u : U8 w
  m : MX w
theorem LT.below {w w' : World} (h : LT w) (hb : Below w.heap.size w w') : LT w' := ⟨h.u.below hb, h.m.below hb⟩

theorem ext_byte (s : ByteArray) (c : Int) (w : World) : (callFunc 31 #[.string s, .int .u8 c]).run Tryd.prog w = .ok (.value (.int .i64 (Lib.indexByte s.data.toList c.toNat.toUInt8))) w := by
  rw [run_callFunc_extern Tryd.func31 (by kernel_rfl) (by kernel_rfl) (by kernel_rfl) (e := Extern.BytealgIndexByte.indexByte) (by kernel_rfl), Lib.run_indexByteString]
  rfl
theorem ext_end (x : UInt8) : ∃ k : Int, (∀ w : World, (callFunc 31 #[.string ⟨#[13, 10]⟩, .int .u8 (x.toNat : Int)]).run Tryd.prog w = .ok (.value (.int .i64 k)) w) ∧ ((0 ≤ k) ↔ ([13, 10] : List UInt8).contains x = true) := by
  refine ⟨_, fun w => ext_byte _ _ w, ?_⟩
  have h := Lib.contains_iff_indexByte [13, 10] x
  have e : ((x.toNat : Int)).toNat.toUInt8 = x := by simp
  rw [e, h, decide_eq_true_eq]
theorem ext_rune {r : Nat} (h128 : 128 ≤ r) (hv : Utf8.valid (r : Int) = true) (m : Int) (hm : ((Utf8.encode (r : Int)).size : Int) ≤ m) (h2 : 2 ≤ (Utf8.encode (r : Int)).size) (w : World) (hw : w.cell? ⟨0, 0, none⟩ = some (.int .i64 m)) :
    (callFunc 37 #[.string ⟨#[13, 10]⟩, .string (Utf8.encode (r : Int))]).run Tryd.prog w = .ok (.value (.int .i64 (-1))) w := by
  rw [run_callFunc_extern Tryd.func37 (by kernel_rfl) (by kernel_rfl) (by kernel_rfl) (e := Extern.BytealgIndex.index) (by kernel_rfl), Lib.run_indexString (P := Tryd.prog) ⟨#[13, 10]⟩ _ w 0 m (by kernel_rfl) hw h2 hm (by decide)]
  show Result.ok (Next.value (.int .i64 (Lib.index [13, 10] _))) w = _
  rw [Tx.enc_index h128 hv]

/-- An end's two letters. -/
def crlf : ByteArray := ⟨#[13, 10]⟩
theorem crlf_low : ∀ (i : Nat) (h : i < crlf.size), (crlf[i]'h).toNat < 128
  | 0, _ => by show (13 : UInt8).toNat < 128; decide
  | 1, _ => by show (10 : UInt8).toNat < 128; decide
  | i + 2, h => absurd h (by show ¬ i + 2 < 2; omega)
/-- One step of a range over them. -/
theorem next_crlf (w : World) {i : Nat} (hi : i < 2) : ∃ c : Nat, c < 128 ∧ ∀ ty, (Instr.next (.pointer (some ⟨w.heap.size, 0, none⟩)) true ty).run Tryd.prog (w.iter crlf i) = .ok (.tuple #[.bool true, .int .i64 i, .int .i32 (c : Int)]) (w.iter crlf (i + 1)) :=
  ⟨_, crlf_low i hi, fun ty => run_next_ascii (P := Tryd.prog) w crlf i ty hi (crlf_low i hi)⟩
theorem next_crlf_end (w : World) : ∀ ty, (Instr.next (.pointer (some ⟨w.heap.size, 0, none⟩)) true ty).run Tryd.prog (w.iter crlf 2) = .ok (.tuple #[.bool false]) (w.iter crlf 2) := fun ty => run_next_end (P := Tryd.prog) w crlf 2 ty (by decide)

set_option maxHeartbeats 4000000 in
set_option maxRecDepth 1000000 in
/-- One byte. -/
theorem indexB_one (x : UInt8) (b o cap : Nat) (w : World) (hx : w.cell? ⟨b, o, none⟩ = some (.int .u8 (x.toNat : Int))) :
    Calls Tryd.prog 26 #[.slice (some ⟨b, o, none⟩) 1 cap, .string ⟨#[13, 10]⟩] w fun e w' => e = .returned (.int .i64 (Lib.indexAny [x] [13, 10])) ∧ Below w.heap.size w w' := by
  by_cases hlt : x.toNat < 128
  · obtain ⟨k, hk, hc⟩ := ext_end x
    cases hin : ([13, 10] : List UInt8).contains x
    · have e : Lib.indexAny [x] [13, 10] = -1 := by rw [Lib.indexAny, hin]; rfl
      have hk0 : ¬ (0 : Int) ≤ k := fun h => by rw [hc, hin] at h; cases h
      rw [e]
      clear hin hc e
      go_enter Tryd.func26, Tryd.ntmps26
      go_wp2
      go_ret
      exact ⟨rfl, Below.refl _ _⟩
    · have e : Lib.indexAny [x] [13, 10] = 0 := by rw [Lib.indexAny, hin]; rfl
      have hk0 : (0 : Int) ≤ k := hc.2 hin
      rw [e]
      clear hin hc e
      go_enter Tryd.func26, Tryd.ntmps26
      go_wp2
      go_ret
      exact ⟨rfl, Below.refl _ _⟩
  · have hin : ([13, 10] : List UInt8).contains x = false := by
      have h1 : x ≠ 13 := by rintro rfl; exact hlt (by decide)
      have h2 : x ≠ 10 := by rintro rfl; exact hlt (by decide)
      simp [h1, h2]
    have e : Lib.indexAny [x] [13, 10] = -1 := by rw [Lib.indexAny, hin]; rfl
    rw [e]
    have hge : (128 : Int) ≤ (x.toNat : Int) := by omega
    have h256 : (x.toNat : Int) < 256 := by have := x.toNat_lt; omega
    clear hin e hlt
    go_enter Tryd.func26, Tryd.ntmps26
    go_wp2
    go_loopg [5] 2 (fun g _ wx => ∃ i : Nat, i + g = 2 ∧ wx = w.iter crlf i)
    case atStart => exact ⟨0, rfl, rfl⟩
    case round =>
      obtain ⟨i, hi, rfl⟩ := hrel
      cases gk with
      | zero =>
        obtain rfl : i = 2 := by omega
        have hnx := next_crlf_end w
        go_wp2
        go_ret
        exact ⟨rfl, (Below.refl _ _).alloc (Nat.le_refl _) _⟩
      | succ g =>
        have hi2 : i < 2 := by omega
        obtain ⟨c, hc, hnx⟩ := next_crlf w hi2
        have hc2 : ((c : Int) == 65533) = false := beq_eq_false_iff_ne.2 (by omega)
        have hc3 : ((c : Int) = 65533) = False := eq_false (by omega)
        go_wp2
        go_roundg g
        case measure => omega
        case rel => exact ⟨i + 1, by omega, rfl⟩

theorem decode_drop {xs : List UInt8} {k n b o cap : Nat} {w : World} (hn : n = xs.length) (hk : k < n) (hx : ∀ j, j < n → w.cell? ⟨b, o + j, none⟩ = some (.int .u8 ((xs.getD j 0).toNat : Int))) (ht : U8 w) (hb : 128 ≤ (xs.getD k 0).toNat) :
    ∃ r m : Nat, Calls Tryd.prog 36 #[.slice (some ⟨b, o + k, none⟩) (n - k) (cap - k)] w (fun e w' => e = .returned (.tuple #[.int .i32 (r : Int), .int .i64 (m : Int)]) ∧ Below w.heap.size w w') ∧
      128 ≤ r ∧ r ≤ 1114111 ∧ 1 ≤ m ∧ m ≤ 4 ∧ k + m ≤ n ∧ (∀ j, k ≤ j → j < k + m → 128 ≤ (xs.getD j 0).toNat) ∧ (r ≠ 65533 → Utf8.valid (r : Int) = true ∧ 2 ≤ m ∧ (Utf8.encode (r : Int)).size = m) := by
  obtain ⟨s, hs⟩ : ∃ s : ByteArray, s = ⟨(xs.drop k).toArray⟩ := ⟨_, rfl⟩
  have hd : s.data.toList = xs.drop k := by rw [hs]
  have hsz : s.size = n - k := by rw [Lib.size_eq, hd, List.length_drop, hn]
  have hg : ∀ j, s.data.toList.getD j 0 = xs.getD (k + j) 0 := fun j => by rw [hd, List.getD_eq_getElem?_getD, List.getElem?_drop, ← List.getD_eq_getElem?_getD]
  have H := Tx.high_of s 0 (by omega) (by rw [hg]; exact hb)
  have C := decode_any s b (o + k) (cap - k) w ht (fun j hj => by
    rw [Nat.add_assoc, hx (k + j) (by omega), Tx.get_bang, hg])
  have hdg : Lib.decodeGo s = Utf8.decode s 0 := by rw [Lib.decodeGo, if_neg (by omega)]
  rw [hdg, hsz] at C
  refine ⟨_, _, C, H.r128, H.big, H.n1, H.n4, ?_, fun j h1 h2 => ?_, H.enc⟩
  · have := H.fits; omega
  · have := H.bytes (j - k) (by omega) (by omega)
    rw [hg, show k + (j - k) = j by omega] at this
    exact this

set_option maxHeartbeats 8000000 in
set_option maxRecDepth 1000000 in
/-- At most eight bytes, and not one. -/
theorem indexB_short (xs : List UInt8) (b o n cap : Nat) (w : World) (hn : n = xs.length) (hx : ∀ j, j < n → w.cell? ⟨b, o + j, none⟩ = some (.int .u8 ((xs.getD j 0).toNat : Int))) (h8 : n ≤ 8) (hn1 : n ≠ 1) (hcap : n ≤ cap) (hmax : cap ≤ maxLen) (ht : LT w) (C : ByteArray) (hC : C = crlf) :
    Calls Tryd.prog 26 #[.slice (some ⟨b, o, none⟩) n cap, .string C] w fun e w' => e = .returned (.int .i64 (Lib.indexAny xs [13, 10])) ∧ Below w.heap.size w w' := by
  have hl1 : ((n : Int) == 1) = false := beq_eq_false_iff_ne.2 (by omega)
  have hl2 : ((n : Int) = 1) = False := eq_false (by omega)
  have h8z : decide ((8 : Int) < (n : Int)) = false := decide_eq_false (by omega)
  have g1 : C.toList.isEmpty = false := by rw [hC, Lib.toList_data]; rfl
  have g2 : ((C.size : Int) == 1) = false := by rw [hC]; rfl
  have g3 : C.size = 2 := by rw [hC]; rfl
  have NX := Lib.hid (show ∀ (w : World) (i : Nat) (hi : i < 2), ∃ c : Nat, c < 128 ∧ ∀ ty, (Instr.next (.pointer (some ⟨w.heap.size, 0, none⟩)) true ty).run Tryd.prog (w.iter C i) = .ok (.tuple #[.bool true, .int .i64 i, .int .i32 (c : Int)]) (w.iter C (i + 1)) by rw [hC]; exact fun w i => next_crlf w)
  have NE := Lib.hid (show ∀ (w : World) ty, (Instr.next (.pointer (some ⟨w.heap.size, 0, none⟩)) true ty).run Tryd.prog (w.iter C 2) = .ok (.tuple #[.bool false]) (w.iter C 2) by rw [hC]; exact next_crlf_end)
  have EX := Lib.hid (show ∀ x : UInt8, ∃ k : Int, (∀ w : World, (callFunc 31 #[.string C, .int .u8 (x.toNat : Int)]).run Tryd.prog w = .ok (.value (.int .i64 k)) w) ∧ ((0 ≤ k) ↔ ([13, 10] : List UInt8).contains x = true) by rw [hC]; exact ext_end)
  have ER := Lib.hid (show ∀ (r : Nat) (h128 : 128 ≤ r) (hv : Utf8.valid (r : Int) = true) (m : Int) (hm : ((Utf8.encode (r : Int)).size : Int) ≤ m) (h2 : 2 ≤ (Utf8.encode (r : Int)).size) (w : World) (hw : w.cell? ⟨0, 0, none⟩ = some (.int .i64 m)),
    (callFunc 37 #[.string C, .string (Utf8.encode (r : Int))]).run Tryd.prog w = .ok (.value (.int .i64 (-1))) w by rw [hC]; exact fun r => ext_rune)
  have NQ := Lib.hid (show ∀ (r : Nat) (h128 : 128 ≤ r) (hv : Utf8.valid (r : Int) = true), (C.toList == (Utf8.encode (r : Int)).toList) = false by
    rw [hC]
    intro r h128 hv
    rw [Lib.toList_data, Lib.toList_data]
    exact beq_eq_false_iff_ne.2 (Ne.symm (Tx.enc_ne h128 hv)))
  clear hC
  unfold maxLen at hmax
  have HX := Lib.hid hx
  have HN := Lib.hid hn
  have HT := Lib.hid ht
  have HG3 := Lib.hid g3
  clear hx hn ht hn1 g3
  go_enter Tryd.func26, Tryd.ntmps26
  go_wp2_with fail
  refine (bShould lb _ _).mono ?_
  rintro e w' ⟨rfl, hw⟩
  rw [hw, h8z]
  clear hw
  go_wp2
  go_loopw [11, 12, 13, 15] (fun _ i _ _ wr => ∃ k : Nat, k ≤ n ∧ i = .int .i64 k ∧ Hid (Lib.NoAny xs [13, 10] k) ∧ Hid (Below w.heap.size w wr)) (fun _ i _ _ _ => n - (intOf i).toNat)
  case atStart => exact ⟨0, by omega, rfl, Lib.NoAny.zero _ _, Below.refl _ _⟩
  case round =>
    obtain ⟨k, hk, rfl, HNO, HB⟩ := hrel
    by_cases hlt : k < n
    · have hxr : ∀ j, j < n → wr.cell? ⟨b, o + j, none⟩ = some (.int .u8 ((xs.getD j 0).toNat : Int)) := fun j hj => (HB.out.cell (World.block_lt_of_cell? w _ (HX.out j hj))).trans (HX.out j hj)
      have hc := hxr k hlt
      have hxl : xs[k]? = some (xs.getD k 0) := by rw [List.getD_eq_getElem?_getD, List.getElem?_eq_getElem (by rw [← HN.out]; exact hlt)]; rfl
      obtain ⟨x, hxx⟩ : ∃ x, x = xs.getD k 0 := ⟨_, rfl⟩
      have h256 : (x.toNat : Int) < 256 := by have := x.toNat_lt; omega
      rw [← hxx] at hc hxl
      have HXX := Lib.hid hxx
      have HXL := Lib.hid hxl
      have HXR := Lib.hid hxr
      clear hxx hxl hxr
      by_cases h128 : x.toNat < 128
      · obtain ⟨q, hq, hqc⟩ := EX.out x
        cases hin : ([13, 10] : List UInt8).contains x
        · have hk0 : ¬ (0 : Int) ≤ q := fun h => by rw [hqc, hin] at h; cases h
          have HIN := Lib.hid hin
          clear hin hqc
          go_wp2
          go_roundw
          case rel => exact ⟨k + 1, by omega, by go_num, HNO.out.succ HXL.out HIN.out, HB.out⟩
          case measure => simp [intOf]; omega
        · have hk0 : (0 : Int) ≤ q := hqc.2 hin
          have HIN := Lib.hid hin
          clear hin hqc
          go_wp2
          go_ret
          refine ⟨?_, HB.out⟩
          rw [Lib.indexAny_hit HNO.out HXL.out HIN.out]
          rfl
      · have hge : (128 : Int) ≤ (x.toNat : Int) := by omega
        obtain ⟨r, m, hdec, hr, hr2, hm1, hm4, hkm, hbs, henc⟩ := decode_drop (cap := cap) HN.out hlt HXR.out (HT.out.u.below HB.out) (by rw [← HXX.out]; omega)
        have hck : (cap = k) = False := eq_false (by omega)
        have hck1 : ¬ (cap = k) := by omega
        have HNK := Lib.hid (Tx.noAny_more HNO.out hbs)
        have HENC := Lib.hid henc
        clear h128 hbs henc
        go_wp2_with fail
        refine hdec.mono ?_
        rintro e w1 ⟨rfl, hb1⟩
        have HB1 := Lib.hid (HB.out.trans (hb1.mono HB.out.size))
        clear hb1
        clear hdec
        by_cases hr0 : r = 65533
        · have hq1 : ((r : Int) != 65533) = false := by simp; omega
          have HR := Lib.hid hr0
          clear hr0
          go_wp2
          go_loopg [15] 2 (fun g _ wx => ∃ i : Nat, i + g = 2 ∧ wx = w1.iter C i)
          case atStart => exact ⟨0, rfl, rfl⟩
          case round =>
            obtain ⟨i, hi, rfl⟩ := hrel
            cases gk with
            | zero =>
              obtain rfl : i = 2 := by omega
              have hnx := NE.out w1
              go_wp2
              go_roundw
              case rel => exact ⟨k + m, by omega, by go_num, HNK.out, HB1.out.trans (((Below.refl _ _).alloc (Nat.le_refl _) _).mono HB1.out.size)⟩
              case measure => simp [intOf]; omega
            | succ g =>
              have hi2 : i < 2 := by omega
              obtain ⟨c, hc, hnx⟩ := NX.out w1 _ hi2
              have hc2 : ((r : Int) == (c : Int)) = false := beq_eq_false_iff_ne.2 (by omega)
              have hc3 : ((r : Int) = (c : Int)) = False := eq_false (by omega)
              have hc4 : (r = c) = False := eq_false (by omega)
              go_wp2
              go_roundg g
              case measure => omega
              case rel => exact ⟨i + 1, by omega, rfl⟩
        · obtain ⟨hv, hm2, hsz⟩ := HENC.out hr0
          have hq1 : ((r : Int) != 65533) = true := by simp; omega
          have hq2 : ((r : Int) = 65533) = False := eq_false (by omega)
          clear hr0
          by_cases hm : m = 2
          · have hq3 : ((C.size : Int) == (m : Int)) = true := by have := HG3.out; simp; omega
            have HM := Lib.hid hm
            clear hm
            have hne := NQ.out _ hr hv
            obtain ⟨E, hE⟩ : ∃ E, Utf8.encode (r : Int) = E := ⟨_, rfl⟩
            rw [hE] at hne
            clear hv hsz
            go_wp2
            go_roundw
            case rel => exact ⟨k + m, by omega, by go_num, HNK.out, HB1.out⟩
            case measure => simp [intOf]; omega
          · have hq3 : ((C.size : Int) == (m : Int)) = false := beq_eq_false_iff_ne.2 (by have := HG3.out; omega)
            obtain ⟨M, hM⟩ := (HT.out.below HB1.out).m
            by_cases hle : (m : Int) ≤ M
            · have hix := ER.out _ hr hv M (by rw [hsz]; exact hle) (by omega) w1 hM
              obtain ⟨E, hE⟩ : ∃ E, Utf8.encode (r : Int) = E := ⟨_, rfl⟩
              rw [hE] at hix
              clear hv hsz
              go_wp2
              go_roundw
              case rel => exact ⟨k + m, by omega, by go_num, HNK.out, HB1.out⟩
              case measure => simp [intOf]; omega
            · have hle2 : ((m : Int) ≤ M) = False := eq_false hle
              clear hv hsz
              go_wp2
              go_loopg [15] 2 (fun g _ wx => ∃ i : Nat, i + g = 2 ∧ wx = w1.iter C i)
              case atStart => exact ⟨0, rfl, rfl⟩
              case round =>
                obtain ⟨i, hi, rfl⟩ := hrel
                cases gk with
                | zero =>
                  obtain rfl : i = 2 := by omega
                  have hnx := NE.out w1
                  go_wp2
                  go_roundw
                  case rel => exact ⟨k + m, by omega, by go_num, HNK.out, HB1.out.trans (((Below.refl _ _).alloc (Nat.le_refl _) _).mono HB1.out.size)⟩
                  case measure => simp [intOf]; omega
                | succ g =>
                  have hi2 : i < 2 := by omega
                  obtain ⟨c, hc, hnx⟩ := NX.out w1 _ hi2
                  have hc2 : ((r : Int) == (c : Int)) = false := beq_eq_false_iff_ne.2 (by omega)
                  have hc3 : ((r : Int) = (c : Int)) = False := eq_false (by omega)
                  have hc4 : (r = c) = False := eq_false (by omega)
                  go_wp2
                  go_roundg g
                  case measure => omega
                  case rel => exact ⟨i + 1, by omega, rfl⟩
    · obtain rfl : k = n := by omega
      have hno := Lib.hid (show Lib.indexAny xs [13, 10] = -1 from Lib.indexAny_none (by rw [← HN.out]; exact HNO.out))
      go_wp2
      go_ret
      refine ⟨?_, HB.out⟩
      rw [hno.out]
      rfl
end Go.Proofs.YthfefbpfgepbjaaDoor
