/- The reference's All walked (rejoinderref14). -/
import Derived.Test.YtiikionoagmabaaDoorPK
import Derived.Test.YtiikionoagmabaaDoorLexAll
namespace Go.Proofs.YtiikionoagmabaaDoor
open Go.RowKit

theorem rn_form {r : Except Nat (Nat × List UInt8 × List UInt8)} {L k : Nat} {e : Ending} (h : RN r L k e) : ∃ (a b : Nat) (t : List UInt8) (n x : Nat), e = .returned (.tuple #[tkv a t b, .int .i64 (n : Int), .int .i64 (x : Int)]) ∧ (match r with
    | .error y => n = 0 ∧ x = y
    | .ok (kd, t', rest) => a = kd ∧ t = t' ∧ b = k ∧ n = L - rest.length ∧ x = 0) := by
  cases r with
  | error y => obtain ⟨a, b, t, rfl⟩ := h; exact ⟨a, b, t, 0, y, rfl, rfl, rfl⟩
  | ok z => obtain ⟨kd, t, rest⟩ := z; exact ⟨kd, k, t, L - rest.length, 0, h, rfl, rfl, rfl, rfl, rfl⟩
set_option maxRecDepth 20000 in
set_option maxHeartbeats 4000000 in
theorem rall_any (l : List UInt8) (hl : l.length ≤ 1048576) (w : World) :
    Calls Tryd.prog 18 #[.string ⟨l.toArray⟩] w fun e w' => AllP (Lx.all l) w e w' := by
  have hz : (⟨l.toArray⟩ : ByteArray).size = l.length := rfl
  have PA := Lib.hid (fun k (hk : k ≤ l.length) wx => rpassed_any l (by omega) k hk wx)
  have NX := Lib.hid (fun k c r (hd : l.drop k = c :: r) wx => rnext_any l hl k c r hd wx)
  obtain ⟨L, hL⟩ : ∃ L, l.length = L := ⟨_, rfl⟩
  by_cases hbig : 2000 < L
  · have hall : Lx.all l = .error (0, 4) := by unfold Lx.all; rw [hL, if_pos hbig]
    have hb1 : ((2000 : Int) < (L : Int)) = True := eq_true (by omega)
    rw [hL] at hz
    rw [hall]
    show Calls _ _ _ _ fun e w' => Below w.heap.size w w' ∧ e = .returned (.tuple #[.slice none 0 0, .int .i64 0, .int .i64 4])
    clear hall hbig hL hl
    go_enter Tryd.func18, Tryd.ntmps18
    go_wp2
    refine bodyPost_ret (v := .tuple #[.slice none 0 0, .int .i64 0, .int .i64 4]) (by simp [results, Tryd.results18, go_sem]) rfl ⟨Below.refl _ _, rfl⟩
  · have hb1 : ((2000 : Int) < (L : Int)) = False := eq_false (by omega)
    have hL2 : L ≤ 2000 := by omega
    have hall : Lx.all l = Lx.go l.length l.length 0 (Lx.skip false l) := by unfold Lx.all; rw [if_neg (by rw [hL]; exact hbig)]
    have hsl := Lx.skip_len false l
    have hp := PA.out 0 (by omega)
    rw [List.drop_zero] at hp
    obtain ⟨k0, hk0⟩ : ∃ k0, l.length - (Lx.skip false l).length = k0 := ⟨_, rfl⟩
    have hd0 : l.drop k0 = Lx.skip false l := by rw [← hk0]; exact Lx.suf_drop (Lx.skip_suf false l)
    have hst : ∀ w', w' = w.alloc (.cells #[] 53) → AS w w' l k0 (.slice (some ⟨w.heap.size, 0, none⟩) 0 0) [] := fun w' hb => by
      subst hb
      exact ⟨(Below.refl _ _).alloc (Nat.le_refl _) _, World.ownsRow_made (base := w.heap.size) w #[] 0 (Nat.le_refl _) (Nat.zero_le _) rfl, by omega, by simp, by rw [hd0]; exact Lx.skip_skip false l, by rw [Lx.mapE_nil, hd0]; rfl⟩
    rw [hk0] at hp
    have HST := Lib.hid (hst _ rfl)
    have HALL := Lib.hid hall
    have HL := Lib.hid hL
    have hk0L : k0 ≤ L := by omega
    rw [hL] at hz
    clear hst hk0 hd0 hsl hall hL hl hbig
    go_enter Tryd.func18, Tryd.ntmps18
    go_wp2_with fail
    refine (hp _).mono ?_
    rintro e w1 ⟨rfl, he1⟩
    obtain rfl := he1
    clear hp
    go_wp2
    go_loopw [5, 6, 7, 8, 9, 20] (fun s5 s6 s7 s8 s9 s20 wr => ∃ (k : Nat) (ts : List Lx.Tok), s6 = .int .i64 k ∧ Hid (AS w wr l k s5 ts)) (fun s5 s6 s7 s8 s9 s20 _ => L - (intOf s6).toNat)
    case atStart => exact ⟨k0, [], rfl, HST⟩
    case round =>
      obtain ⟨k, ts, rfl, HR⟩ := hrel
      clear HST
      have hk2 := HR.out.hk
      rw [HL.out] at hk2
      have hown := HR.out.row
      obtain ⟨so, sc, hform, hcells⟩ := hown.form
      subst hform
      clear hcells
      obtain ⟨M, hM⟩ : ∃ M, ts.length = M := ⟨_, rfl⟩
      have hfew := HR.out.few
      have HM := Lib.hid hM
      by_cases hlt : k < L
      · obtain ⟨c, r, hd, hgc, hr, hrl⟩ := Lx.drop_cons (l := l) (k := k) (by rw [HL.out]; exact hlt)
        rw [HL.out] at hrl
        have hk3 : (k : Int) < (L : Int) := by omega
        have hf := NX.out k c r hd
        have heq := HR.out.eq
        rw [hd, HL.out, Lx.go_step L _ c r (by omega), hM] at heq
        rw [hM] at hfew hown ⊢
        have HD := Lib.hid hd
        rw [HL.out] at hf
        clear hgc hr hd
        cases hn : Lx.next c r with
        | error e =>
          have he := Lx.next_err0 hn
          have HV := Lib.hid (show Lx.all l = .error (k, e) by rw [HALL.out, HL.out, heq, hn]; show Except.error (L - (r.length + 1), e) = _; rw [show L - (r.length + 1) = k by omega])
          have HB := Lib.hid HR.out.below
          have hsz := HB.out.size
          rw [hn] at hf
          have hf2 : ∀ wx, Calls Tryd.prog 33 #[.string ⟨l.toArray⟩, .int .i64 (k : Int)] wx fun e' w' => (∃ (a b : Nat) (t : List UInt8), e' = .returned (.tuple #[.agg #[.int .i64 (a : Int), .string ⟨t.toArray⟩, .int .i64 (b : Int)], .int .i64 0, .int .i64 (e : Int)])) ∧ Below wx.heap.size wx w' := fun wx => hf wx
          have he1 : ((e : Int) != 0) = true := by rw [bne_iff_ne]; omega
          have he2 : ((e : Int) == 0) = false := beq_eq_false_iff_ne.2 (by omega)
          have he3 : ((e : Int) = 0) = False := eq_false (by omega)
          have HE0 := Lib.hid he
          clear hf heq hn HR hown he
          go_wp2_with fail
          refine (hf2 _).mono ?_
          rintro e' w1 ⟨⟨a, b, t, rfl⟩, hb1⟩
          have HB1 := Lib.hid (HB.out.trans (hb1.mono hsz))
          clear hb1 hf2
          go_wp2
          refine bodyPost_ret (v := .tuple #[.slice none 0 0, .int .i64 (k : Int), .int .i64 (e : Int)]) (by simp [results, Tryd.results18, go_sem]) rfl ?_
          rw [HV.out]
          exact ⟨HB1.out.alloc HB1.out.size _, rfl⟩
        | ok x =>
          obtain ⟨kd, t, rest⟩ := x
          have hsuf := Lx.next_suf hn
          have hsm := Lx.next_small hn
          rw [hn] at hf heq
          dsimp only at heq
          simp only [List.length_cons] at hsm
          obtain ⟨n, hnn⟩ : ∃ n, L - rest.length = n := ⟨_, rfl⟩
          have hf2 : ∀ wx, Calls Tryd.prog 33 #[.string ⟨l.toArray⟩, .int .i64 (k : Int)] wx fun e' w' => e' = .returned (.tuple #[.agg #[.int .i64 (kd : Int), .string ⟨t.toArray⟩, .int .i64 (k : Int)], .int .i64 (n : Int), .int .i64 0]) ∧ Below wx.heap.size wx w' := fun wx => by
            have := hf wx
            unfold RN at this
            dsimp only at this
            rw [hnn] at this
            exact this
          by_cases h4 : 400 ≤ M
          · obtain rfl : M = 400 := by omega
            rw [if_pos h4] at heq
            have HV := Lib.hid (show Lx.all l = .error (0, 4) by rw [HALL.out, HL.out, heq]; rfl)
            have HB := Lib.hid HR.out.below
            have hsz := HB.out.size
            clear hf heq hn HR hown hsuf h4
            go_wp2_with fail
            refine (hf2 _).mono ?_
            rintro e' w1 ⟨rfl, hb1⟩
            have HB1 := Lib.hid (HB.out.trans (hb1.mono hsz))
            clear hb1 hf2
            go_wp2
            refine bodyPost_ret (v := .tuple #[.slice none 0 0, .int .i64 0, .int .i64 4]) (by simp [results, Tryd.results18, go_sem]) rfl ?_
            rw [HV.out]
            exact ⟨HB1.out.alloc HB1.out.size _, rfl⟩
          · rw [if_neg h4, show L - (r.length + 1) = k by omega] at heq
            have h41 : ((400 : Int) ≤ (M : Int)) = False := eq_false (by omega)
            have hB := HR.out.below.size
            have hM4 : M < 400 := by omega
            have HB := Lib.hid HR.out.below
            have HEQ := Lib.hid heq
            have HSUF := Lib.hid hsuf
            have HNN := Lib.hid hnn
            have hnL : n ≤ L := by omega
            have hnk : k + 1 ≤ n := by omega
            have hrd : l.drop n = rest := by
              have h1 := Lx.suf_drop hsuf
              rw [List.length_cons] at h1
              have h2 : l.drop n = (l.drop k).drop (n - k) := by rw [List.drop_drop, show k + (n - k) = n by omega]
              rw [h2, HD.out, show n - k = r.length + 1 - rest.length by omega]
              exact h1
            have hp := PA.out n (by rw [HL.out]; exact hnL)
            rw [hrd, HL.out] at hp
            obtain ⟨m, hm⟩ : ∃ m, L - (Lx.skip false rest).length = m := ⟨_, rfl⟩
            rw [hm] at hp
            have hsl := Lx.skip_len false rest
            have hrm : l.drop m = Lx.skip false rest := by
              have h1 := Lx.suf_drop (Lx.skip_suf false rest)
              have h2 : l.drop m = (l.drop n).drop (m - n) := by rw [List.drop_drop, show n + (m - n) = m by omega]
              rw [h2, hrd, show m - n = rest.length - (Lx.skip false rest).length by omega]
              exact h1
            have HRM := Lib.hid hrm
            have hmL : m ≤ L := by omega
            have hmk : k + 1 ≤ m := by omega
            clear hf heq hn h4 hsuf HR hnn hrd hm hsl hrm
            have hnew : ∀ wx : World, ((wx.alloc (.cells #[.int .i64 (kd : Int), .string ⟨t.toArray⟩, .int .i64 (k : Int)] 53)).alloc (.cells #[.int .i64 (kd : Int), .string ⟨t.toArray⟩, .int .i64 (k : Int)] 53)).heap[wx.heap.size + 1]? = some (.cells (tokCells ⟨kd, t, k⟩).toArray 53 (0, 0)) := fun wx => heap_alloc2_new _ _ _
            have hal2 : ∀ (wx : World) (o o' : Obj), Below wx.heap.size wx ((wx.alloc o).alloc o') := fun wx o o' => ((Below.refl _ _).alloc (Nat.le_refl _) _).alloc (by simp) _
            go_wp2_with (first
              | (go_at_call 33; refine (hf2 _).mono ?_; rintro e' w1 ⟨rfl, hb1⟩; have hown1 := hown.below hb1; have HB1 := Lib.hid (HB.out.trans (hb1.mono hB)); clear hb1 hf2)
              | (at_builtin; refine append_tok ⟨kd, t, k⟩ rfl (.tmp 34) (.tmp 36) rfl rfl (hown1.below (hal2 _ _ _)) rfl (hnew _) ?ca ?cb ?_))
            case ca => rw [HM.out]; omega
            case cb => have := HB1.out.size; simp; omega
            intro g2 c2 w2 hown2 hg2
            have HW2 := Lib.hid ((((HB1.out.trans (((hal2 w1 _ _)).mono HB1.out.size)).grown hg2 (by have := HB1.out.size; simp; omega) (fun g hg => (hown1.lt g hg).1)) : Below w.heap.size w w2))
            have HO2 := Lib.hid hown2
            have HN : Hid (AS w w2 l m (.slice (some ⟨g2, 0, none⟩) (M + 1) c2) (ts ++ [⟨kd, t, k⟩])) := Lib.hid
              ⟨HW2.out, HO2.out, by rw [HL.out]; exact hmL, by rw [List.length_append, HM.out]; simp; omega, by rw [HRM.out]; exact Lx.skip_skip false rest, by
                have h := HEQ.out
                rw [Lx.mapE_mapE] at h
                rw [HL.out, h, List.length_append, HM.out, HRM.out]
                rfl⟩
            clear hnew hal2 hown2 hg2 hown1 HEQ hrl HO2 HB1 hown hfew hsm
            go_wp2_with fail
            refine (hp _).mono ?_
            rintro e' w3 ⟨rfl, he3⟩
            obtain rfl := he3
            go_wp2
            go_roundw
            case rel => exact ⟨m, _, by first | rfl | go_num, HN⟩
            case measure => simp [intOf]; omega
      · have hkL : k = L := by omega
        subst hkL
        have heq := HR.out.eq
        rw [List.drop_of_length_le (by rw [HL.out]; exact Nat.le_refl _), HL.out] at heq
        have HV := Lib.hid (show Lx.all l = .ok (ts ++ [⟨0, [], k⟩]) by
          rw [HALL.out, HL.out, heq]
          cases k <;> rfl)
        have HB := Lib.hid HR.out.below
        have hsz := HB.out.size
        have hnew : ∀ wx : World, (wx.alloc (.cells #[.int .i64 (0 : Int), .string ⟨#[]⟩, .int .i64 (k : Int)] 53)).heap[wx.heap.size]? = some (.cells (tokCells ⟨0, [], k⟩).toArray 53 (0, 0)) := fun wx => heap_alloc_new _ _
        rw [hM] at hfew hown ⊢
        clear heq HR
        go_wp2_with (at_builtin; refine append_tok ⟨0, [], k⟩ rfl (.tmp 41) (.tmp 45) rfl rfl (hown.below ((Below.refl _ _).alloc (Nat.le_refl _) _)) rfl (hnew _) ?ca ?cb ?_)
        case ca => rw [HM.out]; omega
        case cb => simp; omega
        intro g2 c2 w2 hown2 hg2
        have HW2 := Lib.hid (((HB.out.alloc hsz _).grown hg2 (by simp; omega) (fun g hg => (hown.lt g hg).1)) : Below w.heap.size w w2)
        have HO2 := Lib.hid hown2
        clear hown2 hg2
        go_wp2
        refine bodyPost_ret (v := .tuple #[.slice (some ⟨g2, 0, none⟩) (M + 1) c2, .int .i64 0, .int .i64 0]) (by simp [results, Tryd.results18, go_sem]) rfl ?_
        rw [HV.out]
        exact ⟨HW2.out, _, rfl, HO2.out⟩
end Go.Proofs.YtiikionoagmabaaDoor
