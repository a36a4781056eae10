/- The law HmacKeys walked. -/
import Derived.Test.YtlimjcpkgolijaaDoorHmacLaw
import Derived.Test.YtlimjcpkgolijaaDoorStep
import Derived.OpenShut
namespace Go.Proofs.YtlimjcpkgolijaaDoor
open Go.RowKit

/-- What stands in HmacKeys, and behind it: the sum's block, three slices. -/
structure KP (w : World) (B : Nat) (R : List Value) (va vb vm : Value) (xa xb xm : List UInt8) (wr : World) : Prop where
  h : wr.heap[B]? = some (.cells R.toArray 25)
  ra : Rd wr va (xa.map bv)
  rb : Rd wr vb (xb.map bv)
  rm : Rd wr vm (xm.map bv)
  tb : TBL wr
  below : Below w.heap.size w wr
section
variable {w : World} {B : Nat} {R : List Value} {va vb vm : Value} {xa xb xm : List UInt8} {wr w' : World}
theorem KP.next (h : KP w B R va vb vm xa xb xm wr) (hb : Below wr.heap.size wr w') : KP w B R va vb vm xa xb xm w' :=
  ⟨(hb.block _ (Array.getElem?_eq_some_iff.1 h.h).1).trans h.h, h.ra.below hb, h.rb.below hb, h.rm.below hb, h.tb.below hb, h.below.trans (hb.mono h.below.size)⟩
theorem KP.range (h : KP w B R va vb vm xa xb xm wr) : wr.rangeAt B 0 R := fun j v hj => by
  rw [Nat.zero_add, cell_of_row _ _ _ _ _ _ h.h]
  simpa using hj
theorem KP.strA (h : KP w B R va vb vm xa xb xm wr) {K : ByteArray} (hK : sv xa = .string K) : (convert 22 9 va).run Tryd.prog wr = .ok (.string K) wr := by
  rw [← hK]
  exact bytes_string h.ra
theorem KP.strB (h : KP w B R va vb vm xa xb xm wr) {K : ByteArray} (hK : sv xb = .string K) : (convert 22 9 vb).run Tryd.prog wr = .ok (.string K) wr := by
  rw [← hK]
  exact bytes_string h.rb
theorem KP.sum (h : KP w B R va vb vm xa xb xm wr) (hl : xm.length ≤ 1000000) (hl2 : xb.length ≤ 1000000) (hR : R = (Hm.sum xa xb).map bv) (he : Hm.sum xm xb = Hm.sum xa xb) :
    Calls Tryd.prog 9 #[vm, vb] wr fun e w' => e = .returned (.agg R.toArray) ∧ KP w B R va vb vm xa xb xm w' := by
  refine (hsum_any vm xm vb xb wr h.rm h.rb hl hl2 h.tb).mono ?_
  rintro e w' ⟨rfl, hb⟩
  exact ⟨by rw [he, hR], h.next hb⟩
theorem KP.hex (h : KP w B R va vb vm xa xb xm wr) (hl : xa.length ≤ 1000000) (hl2 : xb.length ≤ 1000000) {X : ByteArray} (hX : sv (Md5.hex (Hm.sum xa xb)) = .string X) :
    Calls Tryd.prog 11 #[va, vb] wr fun e w' => e = .returned (.string X) ∧ KP w B R va vb vm xa xb xm w' := by
  refine (hhex_any va xa vb xb wr h.ra h.rb hl hl2 h.tb).mono ?_
  rintro e w' ⟨rfl, hb⟩
  exact ⟨by rw [hX], h.next hb⟩
theorem KP.dhex (h : KP w B R va vb vm xa xb xm wr) (hR : R = (Hm.sum xa xb).map bv) {X : ByteArray} (hX : sv (Md5.hex (Hm.sum xa xb)) = .string X) :
    Calls Tryd.prog 14 #[.slice (some ⟨B, 0, none⟩) 16 16] wr fun e w' => e = .returned (.string X) ∧ KP w B R va vb vm xa xb xm w' := by
  refine (hexb_any _ (Hm.sum xa xb) wr (Rd.row (by rw [← hR]; exact h.h) (by rw [Hm.sum_len]) (by decide)) (by rw [Hm.sum_len]; decide)).mono ?_
  rintro e w' ⟨rfl, hb⟩
  exact ⟨by rw [hX], h.next hb⟩
end

set_option maxRecDepth 20000 in
set_option maxHeartbeats 2000000 in
theorem lawKeysH (v0 : Value) (x0 : List UInt8) (v1 : Value) (x1 : List UInt8) (c : Int) (h0 : x0.length ≤ maxLen) (h1 : x1.length ≤ maxLen) (hc : (Lit.int .u8 c).wf = true) (w : World) (r0 : Rd w v0 (x0.map bv)) (r1 : Rd w v1 (x1.map bv)) (ht : TBL w) :
    Calls Tryd.prog 4 #[v0, v1, .int .u8 c] w fun e w' => e = .returned (.bool true) ∧ Below w.heap.size w w' := by
  have bc := bounds_u8 hc
  obtain ⟨m, rfl⟩ : ∃ m : Nat, c = (m : Int) := ⟨c.toNat, by omega⟩
  have hm : m < 256 := by omega
  have HTB := Lib.hid ht
  clear ht hc bc
  go_enter Tryd.func4, Tryd.ntmps4
  go_wp2_with fail
  refine (shown_any _ HTB.out).mono ?_
  rintro e w1 ⟨rfl, hb1⟩
  have ra := r0.below hb1
  have rb := r1.below hb1
  have HB1 := Lib.hid hb1
  clear r0 r1 hb1
  go_wp2_with fail
  refine (short_any v0 x0 _ ra h0).mono ?_
  rintro e w1' ⟨va, rfl, ra, hw1⟩
  obtain rfl := hw1
  have la : (x0.take 300).length ≤ 300 := List.length_take_le _ _
  generalize x0.take 300 = xa at ra la
  go_wp2_with fail
  refine (short_any v1 x1 _ rb h1).mono ?_
  rintro e w1' ⟨vb, rfl, rb, hw1⟩
  obtain rfl := hw1
  have lb : (x1.take 300).length ≤ 300 := List.length_take_le _ _
  generalize x1.take 300 = xb at rb lb
  obtain ⟨KA, hKA⟩ : ∃ K : ByteArray, K = ⟨xa.toArray⟩ := ⟨_, rfl⟩
  have eA : sv xa = .string KA := by rw [hKA]; rfl
  obtain ⟨KB, hKB⟩ : ∃ K : ByteArray, K = ⟨xb.toArray⟩ := ⟨_, rfl⟩
  have eB : sv xb = .string KB := by rw [hKB]; rfl
  have k1 := bytes_string ra
  have k2 := bytes_string rb
  rw [eA] at k1
  rw [eB] at k2
  obtain ⟨R, hR⟩ : ∃ R, R = (Hm.sum xa xb).map bv := ⟨_, rfl⟩
  have hRl : R.length = 16 := by rw [hR, List.length_map, Hm.sum_len]
  have hav : av (Hm.sum xa xb) = .agg R.toArray := by rw [hR]
  have heq : ∀ w, (Op.equalIn 10000 25 (.agg R.toArray) (.agg R.toArray)).run Tryd.prog w = .ok true w := fun w => by
    have := equal16 (Hm.sum xa xb) (Hm.sum xa xb) (Hm.sum_len _ _) (Hm.sum_len _ _) w
    rw [← hR] at this
    simpa using this
  obtain ⟨X, hX⟩ : ∃ X : ByteArray, X = ⟨(Md5.hex (Hm.sum xa xb)).toArray⟩ := ⟨_, rfl⟩
  have eX : sv (Md5.hex (Hm.sum xa xb)) = .string X := by rw [hX]; rfl
  have HAV := Lib.hid hav
  have HEQ := Lib.hid heq
  have EX := Lib.hid eX
  have EA := Lib.hid eA
  have EB := Lib.hid eB
  have HR := Lib.hid hR
  have HRL := Lib.hid hRl
  have HIL := Lib.hid (info16 hRl)
  have HONE := Lib.hid (show ∀ v ∈ R, v.oneCell' = true by rw [hR]; exact bv_cell _)
  have RA := Lib.hid ra
  have RB := Lib.hid rb
  clear hR hav heq hX eX eA eB hKA hKB hRl ra rb
  go_wp2_with fail
  clear k1 k2
  refine (hsum_any va xa vb xb _ RA.out RB.out (by omega) (by omega) (HTB.out.below HB1.out)).mono ?_
  rintro e w2 ⟨rfl, hb2⟩
  rw [HAV.out]
  have c2 : Below w.heap.size w w2 := HB1.out.trans (hb2.mono HB1.out.size)
  have ra2 := RA.out.below hb2
  have rb2 := RB.out.below hb2
  go_wp2_with (refine wpList_store_at rfl 25 _ _ rfl w2.heap.size R rfl rfl 25 _ (heap_alloc_new w2 _) ?cb HIL.out HONE.out ?_)
  case cb => rw [HRL.out]; rfl
  intro w3 hg3 hgr3
  have b3 : Below w2.heap.size w2 w3 := ((Below.refl _ _).alloc (Nat.le_refl _) _).grown hgr3 (by simp) (fun k hk => by cases hk; exact Nat.le_refl _)
  have c3 : Below w.heap.size w w3 := c2.trans (b3.mono c2.size)
  have K3 : KP w w2.heap.size R va vb va xa xb xa w3 := ⟨hg3.out, ra2.below b3, rb2.below b3, ra2.below b3, HTB.out.below c3, c3⟩
  obtain ⟨g5, hg5⟩ : ∃ g, g = w2.heap.size := ⟨_, rfl⟩
  rw [← hg5] at K3 ⊢
  have HK3 := Lib.hid K3
  obtain ⟨L, hL⟩ : ∃ L, L = xa.length := ⟨_, rfl⟩
  obtain ⟨aa, ca, hva, hca⟩ : ∃ aa ca, va = .slice aa L ca ∧ L ≤ ca := by
    obtain ⟨aa, ca, e, h, _⟩ := ra2.form
    exact ⟨aa, ca, by rw [hL]; exact e, by rw [hL]; exact h⟩
  subst hva
  have HL := Lib.hid hL
  have hu16 := Tryd.underlying25
  have hi16 := HIL.out
  have hl16 := HRL.out
  rw [← hL] at la
  clear b3 c3 c2 ra2 rb2 hgr3 hg3 hg5 K3 hb2 RA RB hL
  by_cases h64 : 64 < L
  · obtain ⟨T, hT⟩ : ∃ T, T = (Md5.sum xa).map bv := ⟨_, rfl⟩
    have hTl : T.length = 16 := by rw [hT, List.length_map, Md5.sum_len]
    have hat : av (Md5.sum xa) = .agg T.toArray := by rw [hT]
    have HAT := Lib.hid hat
    have HT := Lib.hid hT
    have HTL := Lib.hid hTl
    have HITL := Lib.hid (info16 hTl)
    have HTONE := Lib.hid (show ∀ v ∈ T, v.oneCell' = true by rw [hT]; exact bv_cell _)
    clear hT hTl hat hi16 hl16
    go_wp2_with fail
    refine (sum_any _ xa w3 HK3.out.ra (by rw [← HL.out]; omega) HK3.out.tb).mono ?_
    rintro e w4 ⟨rfl, hb4⟩
    rw [HAT.out]
    have HK4 := Lib.hid (HK3.out.next hb4)
    clear hb4
    go_wp2_with (refine wpList_store_at rfl 25 _ _ rfl w4.heap.size T rfl rfl 25 _ (heap_alloc_new w4 _) ?cc HITL.out HTONE.out ?_)
    case cc => rw [HTL.out]; rfl
    intro w5 hg5 hgr5
    have b5 : Below w4.heap.size w4 w5 := ((Below.refl _ _).alloc (Nat.le_refl _) _).grown hgr5 (by simp) (fun k hk => by cases hk; exact Nat.le_refl _)
    have K5 := HK4.out.next b5
    have r5 : Rd w5 (.slice (some ⟨w4.heap.size, 0, none⟩) 16 16) ((Md5.sum xa).map bv) := Rd.row (by rw [← HT.out]; exact hg5.out) (by rw [Md5.sum_len]) (by decide)
    obtain ⟨g6, hg6⟩ : ∃ g, g = w4.heap.size := ⟨_, rfl⟩
    rw [← hg6] at r5 ⊢
    have K6 : KP w g5 R (.slice aa L ca) vb (.slice (some ⟨g6, 0, none⟩) 16 16) xa xb (Md5.sum xa) w5 := ⟨K5.h, K5.ra, K5.rb, r5, K5.tb, K5.below⟩
    have A0 := K6.next ((Below.refl _ _).drew)
    have rg := A0.range; have q1 := A0.strA EA.out; have q2 := A0.strB EB.out
    have C1 := Lib.hid (fun wr (h : KP w g5 R (.slice aa L ca) vb (.slice (some ⟨g6, 0, none⟩) 16 16) xa xb (Md5.sum xa) wr) => h.sum (by rw [Md5.sum_len]; decide) (by omega) HR.out (Hm.sum_stands (by rw [← HL.out]; exact h64)))
    have heq := HEQ.out
    have hge := guard16
    have hi16 := HIL.out
    have hl16 := HRL.out
    clear K5 K6 r5 b5 hgr5 hg5 hg6
    go_wp2
    go_region_held3 (fun w' => w'.rangeAt g5 0 R ∧ (convert 22 9 (.slice aa L ca)).run Tryd.prog w' = .ok (.string KA) w' ∧ (convert 22 9 vb).run Tryd.prog w' = .ok (.string KB) w') (exact ⟨by first | assumption | go_keep_ranges, by assumption, by assumption⟩)
      (first | (go_at_call 9; refine (C1.out _ (by assumption)).mono ?_; rintro e w6 ⟨rfl, A1⟩; have s1 := A1.range; have k1 := A1.strA EA.out; have k2 := A1.strB EB.out))
    have c6 := A1.below
    clear A0 A1 s1 k1 k2 q1 q2 rg heq hge hi16 hl16 C1
    go_wp2
    go_ret
    exact ⟨rfl, c6⟩
  · clear hi16 hl16
    have hbn : Below w3.heap.size w3 (w3.alloc (.cells #[] 5)) := (Below.refl _ _).alloc (Nat.le_refl _) _
    have hrn := HK3.out.ra.below hbn
    go_wp2_with (at_builtin; refine append_u8s rfl (.tmp 51) (.tmp 52) rfl rfl (World.ownsRow_made (base := w3.heap.size) w3 #[] 0 (Nat.le_refl _) (Nat.zero_le _) rfl) (xa.map bv) hrn (bv_cell _) ?ca ?cc ?_)
    case ca => rw [List.length_map, ← HL.out]; omega
    case cc => simp
    intro v4 w4 hown4 hg4
    have hb4 : Below w3.heap.size w3 w4 := hbn.grown hg4 (by simp) (fun k hk => by cases hk; exact Nat.le_refl _)
    have hown4 : w4.ownsRow w3.heap.size 5 1 v4 L (xa.map bv) := by
      rw [HL.out]
      simpa using hown4
    have HO := Lib.hid hown4
    have HB4 := Lib.hid hb4
    clear hg4 hrn hbn hown4 hb4
    go_wp2
    go_loopw [12, 13] (fun o i wr => ∃ z : Nat, L + z ≤ 64 ∧ z ≤ m ∧ i = .int .i64 z ∧ Hid (wr.ownsRow w3.heap.size 5 1 o (L + z) ((xa ++ List.replicate z 0).map bv)) ∧ Below w3.heap.size w3 wr) (fun _ i _ => m - (intOf i).toNat)
    case atStart => exact ⟨0, by omega, by omega, rfl, Lib.hid (by simpa using HO.out), HB4.out⟩
    case round =>
      obtain ⟨z, hz, hzm, rfl, ho, hb⟩ := hrel
      obtain ⟨a8, c8, rfl⟩ := own_form ho.out
      by_cases hzl : z < m
      · by_cases hlt : L + z < 64
        · go_wp2_with (at_builtin; refine append_u8s rfl (.tmp 65) (.tmp 66) rfl rfl (ho.out.alloc _) ([(0 : UInt8)].map bv) (Rd.made wr [0] _ _ 1 rfl (by decide)) (bv_cell _) ?ca ?cc ?_)
          case ca => simp; omega
          case cc => have := hb.size; simp; omega
          intro v9 w9 hown9 hg9
          have hb9 : Below w3.heap.size w3 w9 := (hb.alloc hb.size _).grown hg9 (by have := hb.size; simp; omega) (fun k hk => (ho.out.lt k hk).1)
          have ho9 : Hid (w9.ownsRow w3.heap.size 5 1 v9 (L + (z + 1)) ((xa ++ List.replicate (z + 1) 0).map bv)) := Lib.hid (by
            rw [List.replicate_succ']
            simpa [Nat.add_assoc] using hown9)
          obtain ⟨a9, c9, rfl⟩ := own_form ho9.out
          clear hg9 hown9
          go_wp2
          go_roundw
          case rel => exact ⟨z + 1, by omega, by omega, by go_num, ho9, hb9⟩
          case measure => simp [intOf]; omega
        · have K3' := HK3.out.next hb
          have K8 : KP w g5 R (.slice aa L ca) vb (.slice a8 (L + z) c8) xa xb (xa ++ List.replicate z 0) wr := ⟨K3'.h, K3'.ra, K3'.rb, Rd.of_own ho.out, K3'.tb, K3'.below⟩
          have A0 := K8.next ((Below.refl _ _).drew)
          have rg := A0.range; have q1 := A0.strA EA.out; have q2 := A0.strB EB.out
          have C1 := Lib.hid (fun wr (h : KP w g5 R (.slice aa L ca) vb (.slice a8 (L + z) c8) xa xb (xa ++ List.replicate z 0) wr) => h.sum (by rw [List.length_append, List.length_replicate, ← HL.out]; omega) (by omega) HR.out (Hm.sum_noughts (by rw [← HL.out]; exact hz)))
          have C2 := Lib.hid (fun wr (h : KP w g5 R (.slice aa L ca) vb (.slice a8 (L + z) c8) xa xb (xa ++ List.replicate z 0) wr) => h.hex (by rw [← HL.out]; omega) (by omega) EX.out)
          have C3 := Lib.hid (fun wr (h : KP w g5 R (.slice aa L ca) vb (.slice a8 (L + z) c8) xa xb (xa ++ List.replicate z 0) wr) => h.dhex HR.out EX.out)
          have heq := HEQ.out
          have hge := guard16
          have hi16 := HIL.out
          have hl16 := HRL.out
          clear K3' K8 ho hb
          go_wp2
          go_region_held3 (fun w' => w'.rangeAt g5 0 R ∧ (convert 22 9 (.slice aa L ca)).run Tryd.prog w' = .ok (.string KA) w' ∧ (convert 22 9 vb).run Tryd.prog w' = .ok (.string KB) w') (exact ⟨by first | assumption | go_keep_ranges, by assumption, by assumption⟩)
            (first | (go_at_call 9; refine (C1.out _ (by assumption)).mono ?_; rintro e w6 ⟨rfl, A1⟩; have s1 := A1.range; have k1 := A1.strA EA.out; have k2 := A1.strB EB.out) | (go_at_call 11; refine (C2.out _ (by assumption)).mono ?_; rintro e w7 ⟨rfl, A2⟩; have s2 := A2.range; have m1 := A2.strA EA.out; have m2 := A2.strB EB.out) | (go_at_call 14; refine (C3.out _ (by assumption)).mono ?_; rintro e w8 ⟨rfl, A3⟩; have s3 := A3.range; have n1 := A3.strA EA.out; have n2 := A3.strB EB.out))
          have c8 := A3.below
          clear A0 A1 A2 A3 s1 s2 s3 k1 k2 m1 m2 n1 n2 q1 q2 rg heq hge hi16 hl16 C1 C2 C3
          go_wp2
          go_ret
          exact ⟨rfl, c8⟩
      · have K3' := HK3.out.next hb
        have K8 : KP w g5 R (.slice aa L ca) vb (.slice a8 (L + z) c8) xa xb (xa ++ List.replicate z 0) wr := ⟨K3'.h, K3'.ra, K3'.rb, Rd.of_own ho.out, K3'.tb, K3'.below⟩
        have A0 := K8.next ((Below.refl _ _).drew)
        have rg := A0.range; have q1 := A0.strA EA.out; have q2 := A0.strB EB.out
        have C1 := Lib.hid (fun wr (h : KP w g5 R (.slice aa L ca) vb (.slice a8 (L + z) c8) xa xb (xa ++ List.replicate z 0) wr) => h.sum (by rw [List.length_append, List.length_replicate, ← HL.out]; omega) (by omega) HR.out (Hm.sum_noughts (by rw [← HL.out]; exact hz)))
        have C2 := Lib.hid (fun wr (h : KP w g5 R (.slice aa L ca) vb (.slice a8 (L + z) c8) xa xb (xa ++ List.replicate z 0) wr) => h.hex (by rw [← HL.out]; omega) (by omega) EX.out)
        have C3 := Lib.hid (fun wr (h : KP w g5 R (.slice aa L ca) vb (.slice a8 (L + z) c8) xa xb (xa ++ List.replicate z 0) wr) => h.dhex HR.out EX.out)
        have heq := HEQ.out
        have hge := guard16
        have hi16 := HIL.out
        have hl16 := HRL.out
        clear K3' K8 ho hb
        go_wp2
        go_region_held3 (fun w' => w'.rangeAt g5 0 R ∧ (convert 22 9 (.slice aa L ca)).run Tryd.prog w' = .ok (.string KA) w' ∧ (convert 22 9 vb).run Tryd.prog w' = .ok (.string KB) w') (exact ⟨by first | assumption | go_keep_ranges, by assumption, by assumption⟩)
          (first | (go_at_call 9; refine (C1.out _ (by assumption)).mono ?_; rintro e w6 ⟨rfl, A1⟩; have s1 := A1.range; have k1 := A1.strA EA.out; have k2 := A1.strB EB.out) | (go_at_call 11; refine (C2.out _ (by assumption)).mono ?_; rintro e w7 ⟨rfl, A2⟩; have s2 := A2.range; have m1 := A2.strA EA.out; have m2 := A2.strB EB.out) | (go_at_call 14; refine (C3.out _ (by assumption)).mono ?_; rintro e w8 ⟨rfl, A3⟩; have s3 := A3.range; have n1 := A3.strA EA.out; have n2 := A3.strB EB.out))
        have c8 := A3.below
        clear A0 A1 A2 A3 s1 s2 s3 k1 k2 m1 m2 n1 n2 q1 q2 rg heq hge hi16 hl16 C1 C2 C3
        go_wp2
        go_ret
        exact ⟨rfl, c8⟩
end Go.Proofs.YtlimjcpkgolijaaDoor
