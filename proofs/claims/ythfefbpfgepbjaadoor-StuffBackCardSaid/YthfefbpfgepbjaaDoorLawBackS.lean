/- The law StuffBack walked. -/
import Derived.Test.YthfefbpfgepbjaaDoorStuffBF
import Derived.Test.YthfefbpfgepbjaaDoorFL
import Derived.Test.YthfefbpfgepbjaaDoorHeld
import Derived.Test.YthfefbpfgepbjaaDoorToBytes
namespace Go.Proofs.YthfefbpfgepbjaaDoor
open Go.RowKit

/-- What holds at the head of a round: the payload so far. -/
structure NP (w wr : World) (xs : List UInt8) (k : Nat) (s : Value) : Prop where
  o : wr.ownsRow w.heap.size 5 1 s (St.norm (xs.take k)).length ((St.norm (xs.take k)).map bv)
  b : Below w.heap.size w wr
theorem norm_at {xs : List UInt8} {k : Nat} {x : UInt8} (h : xs[k]? = some x) : St.norm (xs.take (k + 1)) = St.norm (xs.take k) ++ (if x = 13 ∨ x = 10 then [13, 10] else [x]) := by
  obtain ⟨hk, he⟩ := List.getElem?_eq_some_iff.1 h
  rw [List.take_succ_eq_append_getElem hk, he, St.norm_snoc]

/-- Bytes that are read where a block of other cells turns. -/
theorem turned_rd {w w' : World} {g : Nat} {v : Value} {ys : List UInt8} {m er : Int} {t : TypeId} {fr : Nat × Nat} (hr : Rd w v (ys.map bv)) (hg : w.heap[g]? = some (.cells #[.int .i64 m, .slice none 0 0, .int .i64 er] t fr)) (hT : Turn g (.slice none 0 0) w w') : Rd w' v (ys.map bv) := by
  rcases hr with hr | ⟨b, o, cap, h1, h2, h3, h4⟩
  · exact .inl hr
  · refine .inr ⟨b, o, cap, h1, h2, h3, fun j u hj => hT.cell (h4 j u hj) ?_ (fun e => by cases e)⟩
    have hc := h4 j u hj
    rintro rfl
    obtain ⟨x, _, rfl⟩ := List.mem_map.1 (List.mem_of_getElem? hj)
    unfold World.cell? at hc
    rw [hg] at hc
    dsimp only at hc
    generalize o + j = n at hc
    rcases n with _ | _ | _ | n
    · simp [bv] at hc
    · simp [bv] at hc
    · simp [bv] at hc
    · simp [bv] at hc
theorem whole_bf {W wr : World} {g : Nat} {s : Value} {most : Int} {b : St.Bd} (h : BF W g s most b wr) {v : Value} {xs : List UInt8} (hr : Rd wr v (xs.map bv)) (hs : xs.length ≤ 1000000) {K : ByteArray} (hK : K = kt (St.whole xs)) {n : Nat} (hn : n = K.size) :
    Calls Tryd.prog 13 #[v] wr fun e w' => ∃ ao c, e = .returned (.slice ao n c) ∧ (convert 22 9 (.slice ao n c)).run Tryd.prog w' = .ok (.string K) w' ∧ BF W g s most b w' ∧ Below wr.heap.size wr w' := by
  subst hn hK
  refine (whole_any v xs wr hr hs).mono ?_
  rintro e w' ⟨ao, c, rfl, hr2, hb⟩
  exact ⟨ao, c, rfl, bytes_string hr2, h.next hb, hb⟩
/-- What holds at the head of the second loop's round: the body, and the lines. -/
structure LX (W w6 : World) (gx : Nat) (s : Value) (lo : Option Addr) (lc : Nat) (ls : List (List UInt8)) (n k : Nat) (wr : World) : Prop where
  b : BF W gx s 2000 ⟨St.join (ls.take k), min k n⟩ wr
  l : wr.ownsRow w6.heap.size 9 1 (.slice lo (n + 1) lc) (n + 1) ((ls.map St.dotted ++ [[46]]).map sv)
theorem join_few : ∀ ls : List (List UInt8), ls.length ≤ (St.join ls).length
  | [] => Nat.le_refl _
  | l :: ls => by
    have := join_few ls
    rw [St.join_cons, List.length_append, List.length_append, List.length_cons]
    simp
    omega

set_option maxRecDepth 20000 in
set_option maxHeartbeats 4000000 in
theorem lawBackS (v0 : Value) (x0 : List UInt8) (h0 : x0.length ≤ maxLen) (w : World) (r0 : Rd w v0 (x0.map bv)) (ht : LT w) :
    Calls Tryd.prog 3 #[v0] w fun e w' => e = .returned (.bool true) ∧ Below w.heap.size w w' := by
  go_enter Tryd.func3, Tryd.ntmps3
  go_wp2_with fail
  refine (shown_any _ ht.m).mono ?_
  rintro e w1 ⟨rfl, hb1⟩
  have s0 := r0.below hb1
  have t1 := ht.below hb1
  clear r0 ht
  go_wp2_with fail
  refine (short_any v0 x0 _ s0 h0).mono ?_
  rintro e w1' ⟨va, rfl, ra, rfl⟩
  replace ra := ra _ s0
  obtain ⟨ao, ac, rfl, hac, hcl⟩ := ra.form
  have la : (x0.take 600).length ≤ 600 := List.length_take_le _ _
  generalize x0.take 600 = xs at ra la hac hcl ⊢
  obtain ⟨L, hL⟩ : ∃ L, L = xs.length := ⟨_, rfl⟩
  rw [← hL] at ra la hac hcl ⊢
  have HL := Lib.hid hL
  have HCL := Lib.hid hcl
  have T1 := Lib.hid t1
  have B1 := Lib.hid hb1
  clear hL hcl t1 hb1 s0 h0 ra
  have hal : Below w1.heap.size w1 (w1.alloc (.cells #[] 5)) := (Below.refl _ _).alloc (Nat.le_refl _) _
  have hst : NP w1 (w1.alloc (.cells #[] 5)) xs 0 (.slice (some ⟨w1.heap.size, 0, none⟩) 0 0) := ⟨World.ownsRow_made (base := w1.heap.size) w1 #[] 0 (Nat.le_refl _) (Nat.zero_le _) rfl, hal⟩
  have HST := Lib.hid hst
  clear hal hst
  go_wp2
  go_loopw [4, 5] (fun s i wr => ∃ k : Nat, k ≤ L ∧ i = .int .i64 k ∧ Hid (NP w1 wr xs k s)) (fun _ i _ => L - (intOf i).toNat)
  case atStart => exact ⟨0, Nat.zero_le _, rfl, HST⟩
  case round =>
    obtain ⟨k, hk, rfl, hR⟩ := hrel
    by_cases hlt : k < L
    · obtain ⟨x, hx⟩ : ∃ x, xs[k]? = some x := ⟨_, List.getElem?_eq_getElem (by rw [← HL.out]; exact hlt)⟩
      obtain ⟨b, o, rfl, hcm, hcell⟩ := HCL.out (by omega)
      have hce : w1.cell? ⟨b, o + k, none⟩ = some (bv x) := by
        rw [hcell k hlt, List.getD_eq_getElem?_getD, hx]; rfl
      have hce2 : wr.cell? ⟨b, o + k, none⟩ = some (bv x) := (hR.out.b.cell (World.block_lt_of_cell? w1 _ hce)).trans hce
      have HCE := Lib.hid hce
      have hna := norm_at hx
      have hdl := St.norm_len (xs.take k)
      rw [List.length_take, ← HL.out, Nat.min_eq_left hk] at hdl
      have hx256 := x.toNat_lt
      unfold bv at hce2
      obtain ⟨ds, hds⟩ : ∃ ds, ds = St.norm (xs.take k) := ⟨_, rfl⟩
      have hown := hR.out.o
      have hbel := hR.out.b
      rw [← hds] at hna hdl hown
      obtain ⟨s', sc, rfl⟩ := own_form hown
      obtain ⟨D, hD⟩ : ∃ D, D = ds.length := ⟨_, rfl⟩
      rw [← hD] at hown hdl ⊢
      have HNA := Lib.hid hna
      have HD := Lib.hid hD
      have HO := Lib.hid hown
      have HBL := Lib.hid hbel
      clear hna hD hce hcell hx hcm hds hown hbel hR
      by_cases hd : x = 13 ∨ x = 10
      · rw [if_pos hd] at HNA
        have hal : Below wr.heap.size wr (wr.alloc (.cells ([13, 10].map bv).toArray 5)) := (Below.refl _ _).alloc (Nat.le_refl _) _
        have HA := Lib.hid (own_below HO.out hal)
        have HRA := Lib.hid (Rd.made wr [13, 10] 5 (0, 0) 2 rfl (by decide))
        have HBA := Lib.hid (HBL.out.trans (hal.mono HBL.out.size))
        clear hal
        rcases hd with rfl | rfl
        all_goals
          go_wp2_with (at_builtin; refine append_u8s rfl (.tmp 35) (.tmp 36) rfl rfl HA.out ([13, 10].map bv) HRA.out (bv_cell _) ?ca HBA.out.size ?_)
          case ca => show D + 2 ≤ _; omega
          intro v3 w3 ho3 hg3
          obtain ⟨co, cc, rfl⟩ := own_form ho3
          have hnx : NP w1 w3 xs (k + 1) (.slice co (D + 2) cc) := ⟨by rw [HNA.out]; simpa [HD.out] using ho3, HBA.out.grown hg3 HBA.out.size (fun k hk => (HA.out.lt k hk).1)⟩
          have HN := Lib.hid hnx
          clear ho3 hg3 hnx HA HRA HBA HNA HD HO HBL
          go_wp2
          go_roundw
          case rel => exact ⟨k + 1, by omega, by go_num, HN⟩
          case measure => simp [intOf]; omega
      · rw [if_neg hd] at HNA
        have hal : Below wr.heap.size wr (wr.alloc (.cells ([x].map bv).toArray 5)) := (Below.refl _ _).alloc (Nat.le_refl _) _
        have HA := Lib.hid (own_below HO.out hal)
        have HRA := Lib.hid (Rd.made wr [x] 5 (0, 0) 1 rfl (by decide))
        have HBA := Lib.hid (HBL.out.trans (hal.mono HBL.out.size))
        have hx13 : x.toNat ≠ 13 := fun e => hd (.inl (UInt8.toNat_inj.1 e))
        have hx10 : x.toNat ≠ 10 := fun e => hd (.inr (UInt8.toNat_inj.1 e))
        have e1 : ((x.toNat : Int) == 13) = false := beq_eq_false_iff_ne.2 (by omega)
        have e2 : ((x.toNat : Int) = 13) = False := eq_false (by omega)
        have e3 : ((x.toNat : Int) == 10) = false := beq_eq_false_iff_ne.2 (by omega)
        have e4 : ((x.toNat : Int) = 10) = False := eq_false (by omega)
        clear hal hd hx13 hx10
        go_wp2_with (at_builtin; refine append_u8s rfl (.tmp 38) (.tmp 43) rfl rfl HA.out ([x].map bv) HRA.out (bv_cell _) ?ca HBA.out.size ?_)
        case ca => show D + 1 ≤ _; omega
        intro v3 w3 ho3 hg3
        obtain ⟨co, cc, rfl⟩ := own_form ho3
        have hnx : NP w1 w3 xs (k + 1) (.slice co (D + 1) cc) := ⟨by rw [HNA.out]; simpa [HD.out] using ho3, HBA.out.grown hg3 HBA.out.size (fun k hk => (HA.out.lt k hk).1)⟩
        have HN := Lib.hid hnx
        clear ho3 hg3 hnx HA HRA HBA HNA HD HO HBL
        go_wp2
        go_roundw
        case rel => exact ⟨k + 1, by omega, by go_num, HN⟩
        case measure => simp [intOf]; omega
    · obtain rfl : k = L := by omega
      obtain ⟨W0, hW0⟩ : ∃ W0, W0 = wr := ⟨_, rfl⟩
      subst hW0
      have hown := hR.out.o
      rw [HL.out, List.take_length] at hown
      have hb3 := B1.out.trans (hR.out.b.mono B1.out.size)
      have t3 := T1.out.below hR.out.b
      have hnl := St.norm_len xs
      rw [← HL.out] at hnl
      obtain ⟨po, pc, rfl⟩ := own_form hown
      obtain ⟨ls, hls, hbare⟩ := St.norm_lines xs
      have hwl := St.whole_len (St.norm xs)
      have hjl : (St.join ls).length ≤ 1202 := by rw [← hls]; omega
      have hput : St.put (St.norm xs) = St.put (St.join ls) := by unfold St.put; rw [← hls, St.whole_whole]
      have hfp := St.frame_put (m := 2000) hbare (by omega)
      rw [← hput] at hfp
      obtain ⟨P, hP⟩ : ∃ P, P = (St.norm xs).length := ⟨_, rfl⟩
      rw [← hP] at hown ⊢
      have RP := Lib.hid (Rd.of_own hown)
      have B3 := Lib.hid hb3
      have T3 := Lib.hid t3
      have HFP := Lib.hid hfp
      have HJL := Lib.hid hjl
      have HLS := Lib.hid hls
      have HPL := Lib.hid (show (St.norm xs).length ≤ 1200 by omega)
      clear hown hb3 t3 hfp hjl hls hnl hwl hput hbare hP hR HST T1 B1 HCL
      go_wp2_with fail
      refine (FL.new (Below.refl _ W0) 2000 (by decide)).mono ?_
      rintro e w4 ⟨rfl, hfl, hb4⟩
      rw [show max (0 : Int) 2000 = 2000 by decide] at hfl
      have hgf : W0.heap.size < w4.heap.size := hfl.o.lt
      generalize W0.heap.size = gf at hfl hgf ⊢
      have HFL := Lib.hid hfl
      clear hfl hb4
      go_wp2_with fail
      refine (BF.new HFL.out.b 2000 (by decide)).mono ?_
      rintro e w5 ⟨rfl, hbf, hb5⟩
      rw [show max (0 : Int) 2000 = 2000 by decide] at hbf
      have hgx : w4.heap.size ≠ gf := by omega
      generalize w4.heap.size = gx at hbf hgx ⊢
      have hsp := sput_any _ (St.norm xs) w5 (RP.out.below hbf.b) (by have := HPL.out; omega) (T3.out.m.below hbf.b)
      obtain ⟨Q, hQ⟩ : ∃ Q, Q = (St.put (St.norm xs)).length := ⟨_, rfl⟩
      have hQ2 := (St.put_len (St.norm xs)).2
      rw [← hQ] at hsp hQ2
      have HFL5 := Lib.hid (HFL.out.next hb5)
      have HBF := Lib.hid hbf
      have HSP := Lib.hid hsp
      have HQ := Lib.hid hQ
      clear hbf hb5 hsp HFL hQ
      go_wp2_with fail
      refine HSP.out.mono ?_
      rintro e w6 ⟨qo, qc, rfl, hr6, hb6⟩
      have hf6 := HFL5.out.next hb6
      have hx6 := HBF.out.next hb6
      have hpp := hf6.put T3.out (.slice qo Q qc) (St.put (St.norm xs)) (fun wx hT => turned_rd hr6 hf6.o.c hT) (by have := HPL.out; have := HQ.out; show 0 + _ ≤ _; omega) HFP.out
      rw [show Li.start.err = 0 from rfl] at hpp
      obtain ⟨n, hn⟩ : ∃ n, n = ls.length := ⟨_, rfl⟩
      have hlen : (ls.map St.dotted ++ [[46]]).length = n + 1 := by rw [List.length_append, List.length_map, hn]; rfl
      rw [hlen] at hpp
      clear hlen
      have hnb : n ≤ 1202 := by
        rw [hn]
        have := join_few ls
        have := HJL.out
        omega
      have HN := Lib.hid hn
      have HPP := Lib.hid hpp
      have HX6 := Lib.hid hx6
      clear hf6 hx6 hpp hr6 hb6 HSP HFL5 HBF hn
      go_wp2_with fail
      refine HPP.out.mono ?_
      rintro e w7 ⟨s7, lo, lc, rfl, hf7, ho7, hT7, _⟩
      have hx7 : BF W0 gx (.slice none 0 0) 2000 ⟨[], 0⟩ w7 := ⟨HX6.out.o.past hT7 hgx (fun e => by cases e) (fun e => by cases e) (Ap.none rfl), hf7.b⟩
      have HRE := Lib.hid (hf7.rest (r := 0) rfl)
      have HX7 := Lib.hid hx7
      have HO7 := Lib.hid ho7
      clear hf7 ho7 hT7 hx7 HPP HX6
      go_wp2_with fail
      refine HRE.out.mono ?_
      rintro e w8 ⟨rfl, hw⟩
      rw [← hw]
      clear hw HRE
      have z1 : ((n : Int) + 1 == 0) = false := beq_eq_false_iff_ne.2 (by omega)
      have z2 : ((n : Int) + 1 = 0) = False := eq_false (by omega)
      go_wp2
      have hst2 : LX W0 w6 gx (.slice none 0 0) lo lc ls n 0 w7 := ⟨by simpa [St.join] using HX7.out, HO7.out⟩
      have HST2 := Lib.hid hst2
      clear hst2
      go_loopw [10, 11, 12] (fun i _ _ wq => ∃ (k : Nat) (s : Value), i = .int .i64 k ∧ k ≤ n + 1 ∧ Hid (LX W0 w6 gx s lo lc ls n k wq)) (fun i _ _ _ => n + 1 - (intOf i).toNat)
      case atStart => exact ⟨0, _, rfl, by omega, HST2⟩
      case round =>
        obtain ⟨k, s, rfl, hk, hX⟩ := hrel
        by_cases hlt : k < n + 1
        · obtain ⟨b, rfl, hlc1, hlc2, _, hcell⟩ := own_at hX.out.l (Nat.succ_pos n)
          by_cases hkn : k < n
          · have hce := hcell k (.string (kt (St.dotted (ls.getD k [])))) (by
              rw [List.getElem?_map, List.getElem?_append_left (by rw [List.length_map, ← HN.out]; exact hkn), List.getElem?_map, List.getElem?_eq_getElem (by rw [← HN.out]; exact hkn), List.getD_eq_getElem?_getD, List.getElem?_eq_getElem (by rw [← HN.out]; exact hkn)]
              rfl)
            have BL := Lib.hid (hX.out.b.line (kt (St.dotted (ls.getD k []))) (by have := HJL.out; have := St.join_take_len ls k; show (St.join (ls.take k)).length ≤ _; omega) (by show min k n ≤ _; omega) (by
              rw [kt_size]
              have h1 := St.dotted_len (ls.getD k [])
              have h2 := St.join_len_mem (ls := ls) (l := ls.getD k []) (by rw [List.getD_eq_getElem?_getD, List.getElem?_eq_getElem (by rw [← HN.out]; exact hkn)]; exact List.getElem_mem _)
              have := HJL.out
              omega) (x := false) (er := 0) (b' := ⟨St.join (ls.take (k + 1)), k + 1⟩) (by
              rw [show min k n = k by omega]
              exact St.line_dotted (by rw [← HN.out]; exact hkn) (by have := HJL.out; omega)))
            have i1 : ((k : Int) == (n : Int)) = false := beq_eq_false_iff_ne.2 (by omega)
            have i2 : ((k : Int) = (n : Int)) = False := eq_false (by omega)
            have i3 : (k = n) = False := eq_false (by omega)
            obtain ⟨T, hT⟩ : ∃ T, T = kt (St.dotted (ls.getD k [])) := ⟨_, rfl⟩
            rw [← hT] at hce BL
            have HX := Lib.hid hX.out
            clear hX hcell hT
            go_wp2_with fail
            refine BL.out.mono ?_
            rintro e w9 ⟨s9, rfl, hf9, hT9, _⟩
            have hl9 := hT9.past HX.out.l (own_not HX.out.l HX.out.b.o.c (by decide)) (own_apart HX.out.l HX.out.b.o.o (by decide))
            have HX9 := Lib.hid (show LX W0 w6 gx s9 _ lc ls n (k + 1) w9 from ⟨by rw [show min (k + 1) n = k + 1 by omega]; exact hf9, hl9⟩)
            clear hf9 hT9 hl9 BL HX hce
            go_wp2
            go_roundw
            case rel => exact ⟨k + 1, s9, by go_num, by omega, HX9⟩
            case measure => simp [intOf]; omega
          · obtain rfl : k = n := by omega
            have hce := hcell k (.string (kt [46])) (by
              rw [List.getElem?_map, List.getElem?_append_right (by rw [List.length_map, ← HN.out]; omega), List.length_map, ← HN.out, Nat.sub_self]
              rfl)
            have BL := Lib.hid (hX.out.b.line (kt [46]) (by have := HJL.out; have := St.join_take_len ls k; show (St.join (ls.take k)).length ≤ _; omega) (by show min k k ≤ _; omega) (by rw [kt_size]; decide) (x := true) (er := 0) (b' := ⟨St.join (ls.take k), min k k⟩) (St.line_end _ _))
            obtain ⟨T, hT⟩ : ∃ T, T = kt [46] := ⟨_, rfl⟩
            rw [← hT] at hce BL
            have HX := Lib.hid hX.out
            clear hX hcell hT
            go_wp2_with fail
            refine BL.out.mono ?_
            rintro e w9 ⟨s9, rfl, hf9, hT9, _⟩
            have hl9 := hT9.past HX.out.l (own_not HX.out.l HX.out.b.o.c (by decide)) (own_apart HX.out.l HX.out.b.o.o (by decide))
            have HX9 := Lib.hid (show LX W0 w6 gx s9 _ lc ls k (k + 1) w9 from ⟨by
              rw [show min (k + 1) k = min k k by omega, List.take_of_length_le (show ls.length ≤ k + 1 by rw [← HN.out]; omega)]
              rw [List.take_of_length_le (show ls.length ≤ k by rw [← HN.out]; omega)] at hf9
              exact hf9, hl9⟩)
            clear hf9 hT9 hl9 BL HX hce
            go_wp2
            go_roundw
            case rel => exact ⟨k + 1, s9, by go_num, by omega, HX9⟩
            case measure => simp [intOf]
        · obtain rfl : k = n + 1 := by omega
          have hbf := hX.out.b
          rw [show min (n + 1) n = n by omega, List.take_of_length_le (show ls.length ≤ n + 1 by rw [← HN.out]; omega)] at hbf
          obtain ⟨KJ, hKJ⟩ : ∃ K, K = kt (St.join ls) := ⟨_, rfl⟩
          obtain ⟨JN, hJN⟩ : ∃ N, N = KJ.size := ⟨_, rfl⟩
          have hjl := HJL.out
          have CB := Lib.hid (fun wq (h : BF W0 gx s 2000 ⟨St.join ls, n⟩ wq) => h.bytes_rd (K := KJ) (n := JN) (by show (St.join ls).length ≤ _; omega) hKJ hJN)
          have CL := Lib.hid (fun wq (h : BF W0 gx s 2000 ⟨St.join ls, n⟩ wq) => h.lines (n := n) rfl)
          have CW := Lib.hid (fun wq (h : BF W0 gx s 2000 ⟨St.join ls, n⟩ wq) => whole_bf h (RP.out.below h.b) (by have := HPL.out; omega) (K := KJ) (n := JN) (by rw [HLS.out]; exact hKJ) hJN)
          have C4 := Lib.hid (fun wq v (hr : Rd wq v (KJ.data.toList.map bv)) => (sv_ba KJ) ▸ bytes_string hr)
          have A0 := BF.next hbf ((Below.refl wr.heap.size wr).drew)
          have iw : IntKind.i64.wrap ((n : Int) + 1 - 1) = (n : Int) := by rw [wraps_i64 _ (by omega) (by omega)]; omega
          have iw2 : IntKind.i64.wrap (n : Int) = (n : Int) := wraps_i64 _ (by omega) (by omega)
          clear hX hbf hKJ hJN hjl
          go_wp2
          refine wp_region_held_drew (S := fun w' => BF W0 gx s 2000 ⟨St.join ls, n⟩ w') (by kernel_rfl) (by assumption) (fun hH => ?_)
          -- (the region)
          refine heldTake (i := 0) (v := ?_) rfl (by kernel_rfl) (by kernel_rfl) (fun _ _ _ h => h) (by rfl) (by assumption) (fun w hSw => ?_) ?_; rotate_left; focus ((try dsimp only at hSw); go_simp; try with_reducible rfl)
          try simp only [Act.put, List.setIfInBounds_toArray, List.set_cons_zero, List.set_cons_succ]
          refine heldTake (i := 3) (v := ?_) rfl (by kernel_rfl) (by kernel_rfl) (fun _ _ _ h => h) (by rfl) (by assumption) (fun w hSw => ?_) ?_; rotate_left; focus ((try dsimp only at hSw); go_simp; try with_reducible rfl)
          try simp only [Act.put, List.setIfInBounds_toArray, List.set_cons_zero, List.set_cons_succ]
          -- NEXT 1 Op.call { callee := Callee.value (Operand.func 12), args := #[Operand.tmp 102], argTypes := #[27] }
          refine heldNext (i := 1) rfl (by kernel_rfl) (by rfl) (fun K hK => ?_)
          go_simp; go_at_call 12; refine (CB.out _ (by assumption)).mono ?_; rintro e wx ⟨uo, uc, rfl, kx, AX, bx, rx⟩; first | (refine hK.out _ _ (by assumption) ?_) | (go_wp2_with fail; refine hK.out _ _ (by assumption) ?_); clear hK K
          refine heldMore (S' := fun w' => BF W0 gx s 2000 ⟨St.join ls, n⟩ w' ∧ (convert 22 9 (.slice uo JN uc)).run Tryd.prog w' = .ok (.string KJ) w') (fun _ h => h.1) ?_
          have sx := And.intro AX kx
          try simp only [Act.put, List.setIfInBounds_toArray, List.set_cons_zero, List.set_cons_succ]
          refine heldTake (i := 2) (v := ?_) rfl (by kernel_rfl) (by kernel_rfl) (fun _ _ _ h => h) (by rfl) (by assumption) (fun w hSw => ?_) ?_; rotate_left; focus ((try dsimp only at hSw); go_simp; try with_reducible rfl)
          try simp only [Act.put, List.setIfInBounds_toArray, List.set_cons_zero, List.set_cons_succ]
          -- NEXT 4 Op.call { callee := Callee.value (Operand.func 13), args := #[Operand.tmp 105], argTypes := #[22] }
          refine heldNext (i := 4) rfl (by kernel_rfl) (by rfl) (fun K hK => ?_)
          go_simp; go_at_call 13; refine (CW.out _ (And.left (by assumption))).mono ?_; rintro e wy ⟨yo, yc, rfl, ky, AY, b2⟩; have sy := And.intro AY (C4.out _ _ (rx.below b2)); first | (refine hK.out _ _ (by assumption) ?_) | (go_wp2_with fail; refine hK.out _ _ (by assumption) ?_); clear hK K
          try simp only [Act.put, List.setIfInBounds_toArray, List.set_cons_zero, List.set_cons_succ]
          -- NEXT 5 Op.convert 22 9 (Operand.tmp 106)
          refine heldNext (i := 5) rfl (by kernel_rfl) (by rfl) (fun K hK => ?_)
          go_simp; refine hK.out _ _ (by assumption) ?_; clear hK K
          try simp only [Act.put, List.setIfInBounds_toArray, List.set_cons_zero, List.set_cons_succ]
          refine heldTake (i := 6) (v := ?_) rfl (by kernel_rfl) (by kernel_rfl) (fun _ _ _ h => h) (by rfl) (by assumption) (fun w hSw => ?_) ?_; rotate_left; focus ((try dsimp only at hSw); go_simp; try with_reducible rfl)
          try simp only [Act.put, List.setIfInBounds_toArray, List.set_cons_zero, List.set_cons_succ]
          refine heldTake (i := 7) (v := ?_) rfl (by kernel_rfl) (by kernel_rfl) (fun _ _ _ h => h) (by rfl) (by assumption) (fun w hSw => ?_) ?_; rotate_left; focus ((try dsimp only at hSw); go_simp; try with_reducible rfl)
          try simp only [Act.put, List.setIfInBounds_toArray, List.set_cons_zero, List.set_cons_succ]
          refine heldTake (i := 8) (v := ?_) rfl (by kernel_rfl) (by kernel_rfl) (fun _ _ _ h => h) (by rfl) (by assumption) (fun w hSw => ?_) ?_; rotate_left; focus ((try dsimp only at hSw); go_simp; try with_reducible rfl)
          try simp only [Act.put, List.setIfInBounds_toArray, List.set_cons_zero, List.set_cons_succ]
          refine heldTake (i := 10) (v := ?_) rfl (by kernel_rfl) (by kernel_rfl) (fun _ _ _ h => h) (by rfl) (by assumption) (fun w hSw => ?_) ?_; rotate_left; focus ((try dsimp only at hSw); go_simp; try with_reducible rfl)
          try simp only [Act.put, List.setIfInBounds_toArray, List.set_cons_zero, List.set_cons_succ]
          refine heldTake (i := 11) (v := ?_) rfl (by kernel_rfl) (by kernel_rfl) (fun _ _ _ h => h) (by rfl) (by assumption) (fun w hSw => ?_) ?_; rotate_left; focus ((try dsimp only at hSw); go_simp; try with_reducible rfl)
          try simp only [Act.put, List.setIfInBounds_toArray, List.set_cons_zero, List.set_cons_succ]
          refine heldTake (i := 12) (v := ?_) rfl (by kernel_rfl) (by kernel_rfl) (fun _ _ _ h => h) (by rfl) (by assumption) (fun w hSw => ?_) ?_; rotate_left; focus ((try dsimp only at hSw); go_simp; try with_reducible rfl)
          try simp only [Act.put, List.setIfInBounds_toArray, List.set_cons_zero, List.set_cons_succ]
          -- NEXT 9 Op.call { callee := Callee.value (Operand.func 14), args := #[Operand.tmp 110], argTypes := #[27] }
          refine heldNext (i := 9) rfl (by kernel_rfl) (by rfl) (fun K hK => ?_)
          go_simp; go_at_call 14; refine (CL.out _ (And.left (by assumption))).mono ?_; rintro e wz ⟨rfl, hwz⟩; have AL := AY; have sz := sy; rw [hwz] at AL sz; first | (refine hK.out _ _ (by assumption) ?_) | (go_wp2_with fail; refine hK.out _ _ (by assumption) ?_); clear hK K
          try simp only [Act.put, List.setIfInBounds_toArray, List.set_cons_zero, List.set_cons_succ]
          refine heldTake (i := 13) (v := ?_) rfl (by kernel_rfl) (by kernel_rfl) (fun _ _ _ h => h) (by rfl) (by assumption) (fun w hSw => ?_) ?_; rotate_left; focus ((try dsimp only at hSw); go_simp; try with_reducible rfl)
          try simp only [Act.put, List.setIfInBounds_toArray, List.set_cons_zero, List.set_cons_succ]
          refine heldTake (i := 14) (v := ?_) rfl (by kernel_rfl) (by kernel_rfl) (fun _ _ _ h => h) (by rfl) (by assumption) (fun w hSw => ?_) ?_; rotate_left; focus ((try dsimp only at hSw); go_simp; try with_reducible rfl)
          try simp only [Act.put, List.setIfInBounds_toArray, List.set_cons_zero, List.set_cons_succ]
          refine heldTake (i := 15) (v := ?_) rfl (by kernel_rfl) (by kernel_rfl) (fun _ _ _ h => h) (by rfl) (by assumption) (fun w hSw => ?_) ?_; rotate_left; focus ((try dsimp only at hSw); go_simp; try with_reducible rfl)
          try simp only [Act.put, List.setIfInBounds_toArray, List.set_cons_zero, List.set_cons_succ]
          refine wpAnyH_done (by kernel_rfl) ?_ _
          -- (behind it)
          go_wp2
          go_ret
          exact ⟨rfl, B3.out.trans (AL.b.mono B3.out.size)⟩
end Go.Proofs.YthfefbpfgepbjaaDoor
