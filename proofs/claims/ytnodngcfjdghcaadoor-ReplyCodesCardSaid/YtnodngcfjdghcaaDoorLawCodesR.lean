/- The law ReplyCodes walked. -/
import Derived.Test.YtnodngcfjdghcaaDoorReplyLaw
import Derived.Test.YtnodngcfjdghcaaDoorM2
import Derived.Test.YtnodngcfjdghcaaDoorRefCode
import Derived.OpenShut
namespace Go.Proofs.YtnodngcfjdghcaaDoor
open Go.RowKit Go.ChangeShapes

theorem ftp_begin {a b c : UInt8} (ha : Ln.first a = true) (hb : Ln.digit b = true) (hc : Ln.digit c = true) (t : List UInt8) (body : Bool) : Rp.step 3 none ([a, b, c] ++ 45 :: t) body = .inl ⟨[a, b, c], [t], none⟩ := Rp.first_more ha hb hc (.inr rfl) t body
theorem ftp_end {a b c : UInt8} (ha : Ln.first a = true) (hb : Ln.digit b = true) (hc : Ln.digit c = true) (ls : List (List UInt8)) (hl : ls.length < 20) (t : List UInt8) (body : Bool) : Rp.step 3 (some ⟨[a, b, c], ls, none⟩) ([a, b, c] ++ 32 :: t) body = .inr (.inl ⟨[a, b, c], ls ++ [t], []⟩) := by
  show Rp.next 3 ⟨[a, b, c], ls, none⟩ ([a, b, c] ++ 32 :: t) = _
  rw [Rp.ftp_last ha hb hc, if_neg (by omega)]
theorem codes_steps {A B : Nat} (hA : 100 ≤ A ∧ A < 600) (hB : 100 ≤ B ∧ B < 600) (t : List UInt8) :
    Rp.step 1 none (Ln.codeOf A ++ 45 :: t) false = .inl ⟨Ln.codeOf A, [t], none⟩ ∧ Rp.step 3 none (Ln.codeOf A ++ 45 :: t) false = .inl ⟨Ln.codeOf A, [t], none⟩ ∧
    (A = B → Rp.step 1 (some ⟨Ln.codeOf A, [t], none⟩) (Ln.codeOf B ++ 32 :: t) false = .inr (.inl ⟨Ln.codeOf A, [t, t], []⟩) ∧ Rp.step 3 (some ⟨Ln.codeOf A, [t], none⟩) (Ln.codeOf B ++ 32 :: t) false = .inr (.inl ⟨Ln.codeOf A, [t, t], []⟩)) ∧
    (A ≠ B → Rp.step 1 (some ⟨Ln.codeOf A, [t], none⟩) (Ln.codeOf B ++ 32 :: t) false = .inr (.inr 63) ∧ Rp.step 3 (some ⟨Ln.codeOf A, [t], none⟩) (Ln.codeOf B ++ 32 :: t) false = .inl ⟨Ln.codeOf A, [t, Ln.codeOf B ++ 32 :: t], none⟩) := by
  obtain ⟨a, b, c, e1, g1, g2, g3⟩ := code_shape A hA.1 hA.2
  obtain ⟨a', b', c', e2, k1, k2, k3⟩ := code_shape B hB.1 hB.2
  refine ⟨by rw [e1]; exact smtp_begin g1 g2 g3 t false, by rw [e1]; exact ftp_begin g1 g2 g3 t false, ?_, ?_⟩
  · rintro rfl
    exact ⟨by rw [e1]; exact smtp_end g1 g2 g3 [t] (by simp) t false, by rw [e1]; exact ftp_end g1 g2 g3 [t] (by simp) t false⟩
  · intro hne
    have hc : Ln.codeOf B ≠ Ln.codeOf A := fun e => hne (Rp.code_inj (by omega) (by omega) e).symm
    refine ⟨?_, ?_⟩
    · exact Rp.smtp_other (t := ⟨Ln.codeOf B, false, t⟩) (by rw [e2]; exact Rp.st_last k1 k2 k3 (.inl rfl) t) hc
    · exact Rp.ftp_other (t := ⟨Ln.codeOf B, false, t⟩) (by rw [e2]; exact Rp.st_last k1 k2 k3 (.inr rfl) t) hc (by simp)
set_option maxHeartbeats 8000000 in
set_option maxRecDepth 20000 in
theorem codes_same_long (A : Nat) (hA : A < 256) (q t : List UInt8) (hq : q.length ≤ maxLen) (hl : 200 < q.length) (ht : t = q.take 200) (w : World) :
    Calls Tryd.prog 7 #[.int .u8 (A : Int), .int .u8 (A : Int), .string (ba q)] w fun e w' => e = .returned (.bool true) ∧ Below w.heap.size w w' := by
  unfold maxLen at hq
  obtain ⟨X, hX⟩ : ∃ X, X = 200 + A := ⟨_, rfl⟩
  have e1 : (200 : Int) + (A : Int) = (X : Int) := by omega
  have hst := codes_steps (A := X) (B := X) (by omega) (by omega) t
  have DX := fun w => rcode_any X (by omega) (by omega) w
  obtain ⟨x, hx⟩ : ∃ x, x = Ln.codeOf X := ⟨_, rfl⟩
  have lx : x.length = 3 := by rw [hx]; rfl
  have lt : t.length ≤ 200 := by rw [ht]; exact List.length_take_le _ _
  rw [← hx] at hst
  rw [← hx] at DX
  obtain ⟨s1, s2, s3, s4⟩ := hst
  obtain ⟨s5, s6⟩ := s3 rfl
  clear s3 s4
  obtain ⟨XD, hXD⟩ : ∃ XD, ba x ++ (⟨#[45]⟩ : ByteArray) = XD := ⟨_, rfl⟩
  obtain ⟨XT, hXT⟩ : ∃ XT, XD ++ ba t = XT := ⟨_, rfl⟩
  obtain ⟨YD, hYD⟩ : ∃ YD, ba x ++ (⟨#[32]⟩ : ByteArray) = YD := ⟨_, rfl⟩
  obtain ⟨YT, hYT⟩ : ∃ YT, YD ++ ba t = YT := ⟨_, rfl⟩
  have eXT : XT = ba (x ++ 45 :: t) := by
    rw [← hXT, ← hXD, show (⟨#[45]⟩ : ByteArray) = ba [45] from rfl, ba_append, ba_append, List.append_assoc]; rfl
  have eYT : YT = ba (x ++ 32 :: t) := by
    rw [← hYT, ← hYD, show (⟨#[32]⟩ : ByteArray) = ba [32] from rfl, ba_append, ba_append, List.append_assoc]; rfl
  have zX : (ba x).size = 3 := lx
  have zT : (ba t).size ≤ 200 := lt
  have zXD : XD.size = 4 := by rw [← hXD, ByteArray.size_append, zX]; rfl
  have zYD : YD.size = 4 := by rw [← hYD, ByteArray.size_append, zX]; rfl
  have zd : (⟨#[45]⟩ : ByteArray).size = 1 := rfl
  have zb : (⟨#[32]⟩ : ByteArray).size = 1 := rfl
  obtain ⟨TL, hTL⟩ : ∃ TL, (ba t).size = TL := ⟨_, rfl⟩
  have lTL : TL ≤ 200 := by rw [← hTL]; exact zT
  have i1 : (9223372036854775807 < 4 + TL) = False := eq_false (by omega)
  have hn1 : (x ++ 45 :: t).length ≤ 1000000 := by rw [List.length_append, List.length_cons]; omega
  have hn2 : (x ++ 32 :: t).length ≤ 1000000 := by rw [List.length_append, List.length_cons]; omega
  have hqz : (ba q).size = q.length := rfl
  have hxt : (ba q).extract 0 200 = ba t := by rw [ht, ba, ba_extract]; simp [ba]
  have h2 : (200 : Int) < q.length := by omega
  have h3 : (200 : Int) ≤ q.length := by omega
  have CN := Lib.hid (fun (w1 : World) (h : Below w.heap.size w w1) => ML.new h 1)
  have CO := Lib.hid (fun (w1 : World) (g : Nat) (F : Nat → Prop) (h : ML w g F 1 none w1) => M2.new h.b h 3)
  have CM1 := Lib.hid (fun (w1 : World) (gm go : Nat) (Fm Fo : Nat → Prop) (h : M2 w gm Fm 1 none go Fo 3 none w1) => (s1 ▸ h.line (x ++ 45 :: t) hn1 false : Calls _ _ _ _ _))
  have CO1 := Lib.hid (fun (w1 : World) (gm go : Nat) (Fm Fo : Nat → Prop) (h : M2 w go Fo 3 none gm Fm 1 (some ⟨x, [t], none⟩) w1) => (s2 ▸ h.line (x ++ 45 :: t) hn1 false : Calls _ _ _ _ _))
  have CM2 := Lib.hid (fun (w1 : World) (gm go : Nat) (Fm Fo : Nat → Prop) (h : M2 w gm Fm 1 (some ⟨x, [t], none⟩) go Fo 3 (some ⟨x, [t], none⟩) w1) => (s5 ▸ h.line (x ++ 32 :: t) hn2 false : Calls _ _ _ _ _))
  have CO2 := Lib.hid (fun (w1 : World) (gm go : Nat) (Fm Fo : Nat → Prop) (h : M2 w go Fo 3 (some ⟨x, [t], none⟩) gm Fm 1 none w1) => (s6 ▸ h.line (x ++ 32 :: t) hn2 false : Calls _ _ _ _ _))
  have EXT := Lib.hid eXT
  have EYT := Lib.hid eYT
  have HX := Lib.hid hx
  clear s1 s2 s5 s6 eXT eYT hX hn1 hn2 lx lt hx ht hl zT
  generalize hbx : ba x = bx at *
  generalize hbt : ba t = bt at *
  go_enter Tryd.func7, Tryd.ntmps7
  go_wp2_with fail
  refine (shown_any w).mono ?_
  rintro e w1 ⟨rfl, hb1⟩
  go_wp2_with fail
  refine (CN.out w1 hb1).mono ?_
  rintro e w2 ⟨rfl, hm2, hb2⟩
  generalize w1.heap.size = gm at *
  clear CN
  go_wp2_with fail
  refine (CO.out w2 gm _ hm2).mono ?_
  rintro e w3 ⟨rfl, hm3, hb3⟩
  generalize w2.heap.size = go at *
  have HM3 := Lib.hid hm3
  clear CO hm2 hb2 hm3 hb3 hb1
  go_wp2_with fail
  refine (DX _).mono ?_
  rintro e w4 ⟨rfl, hw⟩
  rw [← hw]
  clear hw w4
  go_wp2_with fail
  refine (DX _).mono ?_
  rintro e w4 ⟨rfl, hw⟩
  rw [← hw]
  clear hw w4
  have C1 := CM1.out w3 gm go _ _ HM3.out
  rw [← EXT.out] at C1
  have C1 := Lib.hid C1
  clear CM1 HM3 DX
  go_wp2_with fail
  refine C1.out.mono ?_
  rintro e w4 ⟨F4, lo, lc, bo, bc, rfl, hm4, _, _, _⟩
  have C2 := CO1.out w4 gm go F4 _ hm4.swap
  rw [← EXT.out] at C2
  have C2 := Lib.hid C2
  clear CO1 C1 hm4
  go_wp2_with fail
  refine C2.out.mono ?_
  rintro e w5 ⟨F5, lo5, lc5, bo5, bc5, rfl, hm5, _, _, _⟩
  have C3 := CM2.out w5 gm go F4 F5 hm5.swap
  rw [← EYT.out] at C3
  have C3 := Lib.hid C3
  clear CM2 C2 hm5
  go_wp2_with fail
  refine C3.out.mono ?_
  rintro e w6 ⟨F6, lo6, lc6, bo6, bc6, rfl, hm6, ht6, hk6, hj6⟩
  have hmA := hm6.next ((Below.refl w6.heap.size w6).alloc (Nat.le_refl _) (.cells #[.string bx, .slice lo6 2 lc6, .slice bo6 0 bc6] 30))
  have hrA : Rb (w6.alloc (.cells #[.string bx, .slice lo6 2 lc6, .slice bo6 0 bc6] 30)) w6.heap.size bx (.slice lo6 2 lc6) (.slice bo6 0 bc6) := World.alloc_heap_new w6 _
  have hkA : Tk _ F6 F5 (.slice lo6 2 lc6) [sv t, sv t] := hk6.next ((Below.refl w6.heap.size w6).alloc (Nat.le_refl _) (.cells #[.string bx, .slice lo6 2 lc6, .slice bo6 0 bc6] 30))
  have hnA : ¬ F5 w6.heap.size := fun e => by have := (hm6.o.o.lt _ e).2; omega
  have C4 := CO2.out _ gm go F6 F5 hmA.swap
  rw [← EYT.out] at C4
  have C4 := Lib.hid C4
  simp only [Rp.outRe, Rp.outDone, Rp.outErr, List.length_nil, List.length_cons, hbx]
  have HRA := Lib.hid hrA
  have HKA := Lib.hid hkA
  have HNA := Lib.hid hnA
  clear CO2 C3 hm6 hmA hrA hkA hnA hk6 hj6 ht6
  go_wp2_with fail
  refine C4.out.mono ?_
  rintro e w7 ⟨F7, lo7, lc7, bo7, bc7, rfl, hm7, ht7, hk7, hj7⟩
  have hr7 : ∀ ob, Rb (w7.alloc ob) w6.heap.size bx (.slice lo6 2 lc6) (.slice bo6 0 bc6) := fun ob => by
    have h := HRA.out.same (ht7.block _ HRA.out.lt HNA.out)
    exact h.same (Below.heap_alloc _ _ _ h.lt)
  have hl6 := HKA.out.past ht7
  obtain ⟨b6, o6, rfl, n6, m6, k6⟩ := rd_at hl6 (by decide)
  have hl7 : Rd w7 (.slice lo7 2 lc7) [sv t, sv t] := hk7.1
  obtain ⟨b7, o7, rfl, n7, m7, k7⟩ := rd_at hl7 (by decide)
  have x6 : ∀ ob, (w7.alloc ob).cell? ⟨b6, o6 + 1, none⟩ = some (.string bt) := fun ob => by
    have := k6 1 (sv t) rfl
    rw [World.cell?_alloc_some _ _ _ (by rw [this]; rfl), this, ← hbt]; rfl
  have x7 : ∀ ob, (w7.alloc ob).cell? ⟨b7, o7 + 1, none⟩ = some (.string bt) := fun ob => by
    have := k7 1 (sv t) rfl
    rw [World.cell?_alloc_some _ _ _ (by rw [this]; rfl), this, ← hbt]; rfl
  have c0 := fun ob => (hr7 ob).c0
  have c1 := fun ob => (hr7 ob).c1
  have HB7 := Lib.hid hm7.m.b
  simp only [Rp.outRe, Rp.outDone, Rp.outErr, List.length_nil, List.length_cons, hbx]
  unfold maxLen at m6 m7
  clear C4 hm7 ht7 hk7 hj7 hl6 hl7 k6 k7 hr7
  go_wp2
  go_ret
  exact ⟨rfl, HB7.out.alloc HB7.out.size _⟩
set_option maxHeartbeats 8000000 in
set_option maxRecDepth 20000 in
theorem codes_same_short (A : Nat) (hA : A < 256) (q t : List UInt8) (hq : q.length ≤ maxLen) (hl : q.length ≤ 200) (ht : t = q.take 200) (w : World) :
    Calls Tryd.prog 7 #[.int .u8 (A : Int), .int .u8 (A : Int), .string (ba q)] w fun e w' => e = .returned (.bool true) ∧ Below w.heap.size w w' := by
  unfold maxLen at hq
  obtain ⟨X, hX⟩ : ∃ X, X = 200 + A := ⟨_, rfl⟩
  have e1 : (200 : Int) + (A : Int) = (X : Int) := by omega
  have hst := codes_steps (A := X) (B := X) (by omega) (by omega) t
  have DX := fun w => rcode_any X (by omega) (by omega) w
  obtain ⟨x, hx⟩ : ∃ x, x = Ln.codeOf X := ⟨_, rfl⟩
  have lx : x.length = 3 := by rw [hx]; rfl
  have lt : t.length ≤ 200 := by rw [ht]; exact List.length_take_le _ _
  rw [← hx] at hst
  rw [← hx] at DX
  obtain ⟨s1, s2, s3, s4⟩ := hst
  obtain ⟨s5, s6⟩ := s3 rfl
  clear s3 s4
  obtain ⟨XD, hXD⟩ : ∃ XD, ba x ++ (⟨#[45]⟩ : ByteArray) = XD := ⟨_, rfl⟩
  obtain ⟨XT, hXT⟩ : ∃ XT, XD ++ ba t = XT := ⟨_, rfl⟩
  obtain ⟨YD, hYD⟩ : ∃ YD, ba x ++ (⟨#[32]⟩ : ByteArray) = YD := ⟨_, rfl⟩
  obtain ⟨YT, hYT⟩ : ∃ YT, YD ++ ba t = YT := ⟨_, rfl⟩
  have eXT : XT = ba (x ++ 45 :: t) := by
    rw [← hXT, ← hXD, show (⟨#[45]⟩ : ByteArray) = ba [45] from rfl, ba_append, ba_append, List.append_assoc]; rfl
  have eYT : YT = ba (x ++ 32 :: t) := by
    rw [← hYT, ← hYD, show (⟨#[32]⟩ : ByteArray) = ba [32] from rfl, ba_append, ba_append, List.append_assoc]; rfl
  have zX : (ba x).size = 3 := lx
  have zT : (ba t).size ≤ 200 := lt
  have zXD : XD.size = 4 := by rw [← hXD, ByteArray.size_append, zX]; rfl
  have zYD : YD.size = 4 := by rw [← hYD, ByteArray.size_append, zX]; rfl
  have zd : (⟨#[45]⟩ : ByteArray).size = 1 := rfl
  have zb : (⟨#[32]⟩ : ByteArray).size = 1 := rfl
  obtain ⟨TL, hTL⟩ : ∃ TL, (ba t).size = TL := ⟨_, rfl⟩
  have lTL : TL ≤ 200 := by rw [← hTL]; exact zT
  have i1 : (9223372036854775807 < 4 + TL) = False := eq_false (by omega)
  have hn1 : (x ++ 45 :: t).length ≤ 1000000 := by rw [List.length_append, List.length_cons]; omega
  have hn2 : (x ++ 32 :: t).length ≤ 1000000 := by rw [List.length_append, List.length_cons]; omega
  have hqz : (ba q).size = q.length := rfl
  have hxt : ba q = ba t := by rw [ht, List.take_of_length_le hl]
  have h2 : ((200 : Int) < q.length) = False := eq_false (by omega)
  have CN := Lib.hid (fun (w1 : World) (h : Below w.heap.size w w1) => ML.new h 1)
  have CO := Lib.hid (fun (w1 : World) (g : Nat) (F : Nat → Prop) (h : ML w g F 1 none w1) => M2.new h.b h 3)
  have CM1 := Lib.hid (fun (w1 : World) (gm go : Nat) (Fm Fo : Nat → Prop) (h : M2 w gm Fm 1 none go Fo 3 none w1) => (s1 ▸ h.line (x ++ 45 :: t) hn1 false : Calls _ _ _ _ _))
  have CO1 := Lib.hid (fun (w1 : World) (gm go : Nat) (Fm Fo : Nat → Prop) (h : M2 w go Fo 3 none gm Fm 1 (some ⟨x, [t], none⟩) w1) => (s2 ▸ h.line (x ++ 45 :: t) hn1 false : Calls _ _ _ _ _))
  have CM2 := Lib.hid (fun (w1 : World) (gm go : Nat) (Fm Fo : Nat → Prop) (h : M2 w gm Fm 1 (some ⟨x, [t], none⟩) go Fo 3 (some ⟨x, [t], none⟩) w1) => (s5 ▸ h.line (x ++ 32 :: t) hn2 false : Calls _ _ _ _ _))
  have CO2 := Lib.hid (fun (w1 : World) (gm go : Nat) (Fm Fo : Nat → Prop) (h : M2 w go Fo 3 (some ⟨x, [t], none⟩) gm Fm 1 none w1) => (s6 ▸ h.line (x ++ 32 :: t) hn2 false : Calls _ _ _ _ _))
  have EXT := Lib.hid eXT
  have EYT := Lib.hid eYT
  have HX := Lib.hid hx
  clear s1 s2 s5 s6 eXT eYT hX hn1 hn2 lx lt hx ht hl zT
  generalize hbx : ba x = bx at *
  generalize hbt : ba t = bt at *
  go_enter Tryd.func7, Tryd.ntmps7
  go_wp2_with fail
  refine (shown_any w).mono ?_
  rintro e w1 ⟨rfl, hb1⟩
  go_wp2_with fail
  refine (CN.out w1 hb1).mono ?_
  rintro e w2 ⟨rfl, hm2, hb2⟩
  generalize w1.heap.size = gm at *
  clear CN
  go_wp2_with fail
  refine (CO.out w2 gm _ hm2).mono ?_
  rintro e w3 ⟨rfl, hm3, hb3⟩
  generalize w2.heap.size = go at *
  have HM3 := Lib.hid hm3
  clear CO hm2 hb2 hm3 hb3 hb1
  go_wp2_with fail
  refine (DX _).mono ?_
  rintro e w4 ⟨rfl, hw⟩
  rw [← hw]
  clear hw w4
  go_wp2_with fail
  refine (DX _).mono ?_
  rintro e w4 ⟨rfl, hw⟩
  rw [← hw]
  clear hw w4
  have C1 := CM1.out w3 gm go _ _ HM3.out
  rw [← EXT.out] at C1
  have C1 := Lib.hid C1
  clear CM1 HM3 DX
  go_wp2_with fail
  refine C1.out.mono ?_
  rintro e w4 ⟨F4, lo, lc, bo, bc, rfl, hm4, _, _, _⟩
  have C2 := CO1.out w4 gm go F4 _ hm4.swap
  rw [← EXT.out] at C2
  have C2 := Lib.hid C2
  clear CO1 C1 hm4
  go_wp2_with fail
  refine C2.out.mono ?_
  rintro e w5 ⟨F5, lo5, lc5, bo5, bc5, rfl, hm5, _, _, _⟩
  have C3 := CM2.out w5 gm go F4 F5 hm5.swap
  rw [← EYT.out] at C3
  have C3 := Lib.hid C3
  clear CM2 C2 hm5
  go_wp2_with fail
  refine C3.out.mono ?_
  rintro e w6 ⟨F6, lo6, lc6, bo6, bc6, rfl, hm6, ht6, hk6, hj6⟩
  have hmA := hm6.next ((Below.refl w6.heap.size w6).alloc (Nat.le_refl _) (.cells #[.string bx, .slice lo6 2 lc6, .slice bo6 0 bc6] 30))
  have hrA : Rb (w6.alloc (.cells #[.string bx, .slice lo6 2 lc6, .slice bo6 0 bc6] 30)) w6.heap.size bx (.slice lo6 2 lc6) (.slice bo6 0 bc6) := World.alloc_heap_new w6 _
  have hkA : Tk _ F6 F5 (.slice lo6 2 lc6) [sv t, sv t] := hk6.next ((Below.refl w6.heap.size w6).alloc (Nat.le_refl _) (.cells #[.string bx, .slice lo6 2 lc6, .slice bo6 0 bc6] 30))
  have hnA : ¬ F5 w6.heap.size := fun e => by have := (hm6.o.o.lt _ e).2; omega
  have C4 := CO2.out _ gm go F6 F5 hmA.swap
  rw [← EYT.out] at C4
  have C4 := Lib.hid C4
  simp only [Rp.outRe, Rp.outDone, Rp.outErr, List.length_nil, List.length_cons, hbx]
  have HRA := Lib.hid hrA
  have HKA := Lib.hid hkA
  have HNA := Lib.hid hnA
  clear CO2 C3 hm6 hmA hrA hkA hnA hk6 hj6 ht6
  go_wp2_with fail
  refine C4.out.mono ?_
  rintro e w7 ⟨F7, lo7, lc7, bo7, bc7, rfl, hm7, ht7, hk7, hj7⟩
  have hr7 : ∀ ob, Rb (w7.alloc ob) w6.heap.size bx (.slice lo6 2 lc6) (.slice bo6 0 bc6) := fun ob => by
    have h := HRA.out.same (ht7.block _ HRA.out.lt HNA.out)
    exact h.same (Below.heap_alloc _ _ _ h.lt)
  have hl6 := HKA.out.past ht7
  obtain ⟨b6, o6, rfl, n6, m6, k6⟩ := rd_at hl6 (by decide)
  have hl7 : Rd w7 (.slice lo7 2 lc7) [sv t, sv t] := hk7.1
  obtain ⟨b7, o7, rfl, n7, m7, k7⟩ := rd_at hl7 (by decide)
  have x6 : ∀ ob, (w7.alloc ob).cell? ⟨b6, o6 + 1, none⟩ = some (.string bt) := fun ob => by
    have := k6 1 (sv t) rfl
    rw [World.cell?_alloc_some _ _ _ (by rw [this]; rfl), this, ← hbt]; rfl
  have x7 : ∀ ob, (w7.alloc ob).cell? ⟨b7, o7 + 1, none⟩ = some (.string bt) := fun ob => by
    have := k7 1 (sv t) rfl
    rw [World.cell?_alloc_some _ _ _ (by rw [this]; rfl), this, ← hbt]; rfl
  have c0 := fun ob => (hr7 ob).c0
  have c1 := fun ob => (hr7 ob).c1
  have HB7 := Lib.hid hm7.m.b
  simp only [Rp.outRe, Rp.outDone, Rp.outErr, List.length_nil, List.length_cons, hbx]
  unfold maxLen at m6 m7
  clear C4 hm7 ht7 hk7 hj7 hl6 hl7 k6 k7 hr7
  go_wp2
  go_ret
  exact ⟨rfl, HB7.out.alloc HB7.out.size _⟩
set_option maxHeartbeats 8000000 in
set_option maxRecDepth 20000 in
theorem codes_other_long (A B : Nat) (hA : A < 256) (hB : B < 256) (hAB : A ≠ B) (q t : List UInt8) (hq : q.length ≤ maxLen) (hl : 200 < q.length) (ht : t = q.take 200) (w : World) :
    Calls Tryd.prog 7 #[.int .u8 (A : Int), .int .u8 (B : Int), .string (ba q)] w fun e w' => e = .returned (.bool true) ∧ Below w.heap.size w w' := by
  unfold maxLen at hq
  obtain ⟨X, hX⟩ : ∃ X, X = 200 + A := ⟨_, rfl⟩
  obtain ⟨Y, hY⟩ : ∃ Y, Y = 200 + B := ⟨_, rfl⟩
  have e1 : (200 : Int) + (A : Int) = (X : Int) := by omega
  have e2 : (200 : Int) + (B : Int) = (Y : Int) := by omega
  have hst := codes_steps (A := X) (B := Y) (by omega) (by omega) t
  have DX := fun w => rcode_any X (by omega) (by omega) w
  have DY := fun w => rcode_any Y (by omega) (by omega) w
  obtain ⟨x, hx⟩ : ∃ x, x = Ln.codeOf X := ⟨_, rfl⟩
  obtain ⟨y, hy⟩ : ∃ y, y = Ln.codeOf Y := ⟨_, rfl⟩
  have lx : x.length = 3 := by rw [hx]; rfl
  have ly : y.length = 3 := by rw [hy]; rfl
  have lt : t.length ≤ 200 := by rw [ht]; exact List.length_take_le _ _
  rw [← hx, ← hy] at hst
  rw [← hx] at DX
  rw [← hy] at DY
  obtain ⟨s1, s2, s3, s4⟩ := hst
  obtain ⟨s5, s6⟩ := s4 (by omega)
  clear s3 s4
  obtain ⟨XD, hXD⟩ : ∃ XD, ba x ++ (⟨#[45]⟩ : ByteArray) = XD := ⟨_, rfl⟩
  obtain ⟨XT, hXT⟩ : ∃ XT, XD ++ ba t = XT := ⟨_, rfl⟩
  obtain ⟨YD, hYD⟩ : ∃ YD, ba y ++ (⟨#[32]⟩ : ByteArray) = YD := ⟨_, rfl⟩
  obtain ⟨YT, hYT⟩ : ∃ YT, YD ++ ba t = YT := ⟨_, rfl⟩
  have eXT : XT = ba (x ++ 45 :: t) := by
    rw [← hXT, ← hXD, show (⟨#[45]⟩ : ByteArray) = ba [45] from rfl, ba_append, ba_append, List.append_assoc]; rfl
  have eYT : YT = ba (y ++ 32 :: t) := by
    rw [← hYT, ← hYD, show (⟨#[32]⟩ : ByteArray) = ba [32] from rfl, ba_append, ba_append, List.append_assoc]; rfl
  have zX : (ba x).size = 3 := lx
  have zY : (ba y).size = 3 := ly
  have zT : (ba t).size ≤ 200 := lt
  have zXD : XD.size = 4 := by rw [← hXD, ByteArray.size_append, zX]; rfl
  have zYD : YD.size = 4 := by rw [← hYD, ByteArray.size_append, zY]; rfl
  have zd : (⟨#[45]⟩ : ByteArray).size = 1 := rfl
  have zb : (⟨#[32]⟩ : ByteArray).size = 1 := rfl
  obtain ⟨TL, hTL⟩ : ∃ TL, (ba t).size = TL := ⟨_, rfl⟩
  have lTL : TL ≤ 200 := by rw [← hTL]; exact zT
  have i1 : (9223372036854775807 < 4 + TL) = False := eq_false (by omega)
  have hn1 : (x ++ 45 :: t).length ≤ 1000000 := by rw [List.length_append, List.length_cons]; omega
  have hn2 : (y ++ 32 :: t).length ≤ 1000000 := by rw [List.length_append, List.length_cons]; omega
  have hqz : (ba q).size = q.length := rfl
  have hxt : (ba q).extract 0 200 = ba t := by rw [ht, ba, ba_extract]; simp [ba]
  have h2 : (200 : Int) < q.length := by omega
  have h3 : (200 : Int) ≤ q.length := by omega
  have hAI : ((A : Int) == (B : Int)) = false := beq_eq_false_iff_ne.2 (by omega)
  have hAI2 : ((A : Int) = (B : Int)) = False := eq_false (by omega)
  have CN := Lib.hid (fun (w1 : World) (h : Below w.heap.size w w1) => ML.new h 1)
  have CO := Lib.hid (fun (w1 : World) (g : Nat) (F : Nat → Prop) (h : ML w g F 1 none w1) => M2.new h.b h 3)
  have CM1 := Lib.hid (fun (w1 : World) (gm go : Nat) (Fm Fo : Nat → Prop) (h : M2 w gm Fm 1 none go Fo 3 none w1) => (s1 ▸ h.line (x ++ 45 :: t) hn1 false : Calls _ _ _ _ _))
  have CO1 := Lib.hid (fun (w1 : World) (gm go : Nat) (Fm Fo : Nat → Prop) (h : M2 w go Fo 3 none gm Fm 1 (some ⟨x, [t], none⟩) w1) => (s2 ▸ h.line (x ++ 45 :: t) hn1 false : Calls _ _ _ _ _))
  have CM2 := Lib.hid (fun (w1 : World) (gm go : Nat) (Fm Fo : Nat → Prop) (h : M2 w gm Fm 1 (some ⟨x, [t], none⟩) go Fo 3 (some ⟨x, [t], none⟩) w1) => (s5 ▸ h.line (y ++ 32 :: t) hn2 false : Calls _ _ _ _ _))
  have CO2 := Lib.hid (fun (w1 : World) (gm go : Nat) (Fm Fo : Nat → Prop) (h : M2 w go Fo 3 (some ⟨x, [t], none⟩) gm Fm 1 none w1) => (s6 ▸ h.line (y ++ 32 :: t) hn2 false : Calls _ _ _ _ _))
  have EXT := Lib.hid eXT
  have EYT := Lib.hid eYT
  have HX := Lib.hid hx
  have HY := Lib.hid hy
  clear s1 s2 s5 s6 eXT eYT hX hY hn1 hn2 lx ly lt hx hy ht hl zT hAB
  generalize hbx : ba x = bx at *
  generalize hby : ba y = by' at *
  generalize hbt : ba t = bt at *
  go_enter Tryd.func7, Tryd.ntmps7
  go_wp2_with fail
  refine (shown_any w).mono ?_
  rintro e w1 ⟨rfl, hb1⟩
  go_wp2_with fail
  refine (CN.out w1 hb1).mono ?_
  rintro e w2 ⟨rfl, hm2, hb2⟩
  generalize w1.heap.size = gm at *
  clear CN
  go_wp2_with fail
  refine (CO.out w2 gm _ hm2).mono ?_
  rintro e w3 ⟨rfl, hm3, hb3⟩
  generalize w2.heap.size = go at *
  have HM3 := Lib.hid hm3
  clear CO hm2 hb2 hm3 hb3 hb1
  go_wp2_with fail
  refine (DX _).mono ?_
  rintro e w4 ⟨rfl, hw⟩
  rw [← hw]
  clear hw w4
  go_wp2_with fail
  refine (DY _).mono ?_
  rintro e w4 ⟨rfl, hw⟩
  rw [← hw]
  clear hw w4
  have C1 := CM1.out w3 gm go _ _ HM3.out
  rw [← EXT.out] at C1
  have C1 := Lib.hid C1
  clear CM1 HM3 DX DY
  go_wp2_with fail
  refine C1.out.mono ?_
  rintro e w4 ⟨F4, lo, lc, bo, bc, rfl, hm4, _, _, _⟩
  have C2 := CO1.out w4 gm go F4 _ hm4.swap
  rw [← EXT.out] at C2
  have C2 := Lib.hid C2
  clear CO1 C1 hm4
  go_wp2_with fail
  refine C2.out.mono ?_
  rintro e w5 ⟨F5, lo5, lc5, bo5, bc5, rfl, hm5, _, _, _⟩
  have C3 := CM2.out w5 gm go F4 F5 hm5.swap
  rw [← EYT.out] at C3
  have C3 := Lib.hid C3
  clear CM2 C2 hm5
  go_wp2_with fail
  refine C3.out.mono ?_
  rintro e w6 ⟨F6, lo6, lc6, bo6, bc6, rfl, hm6, ht6, hk6, hj6⟩
  have hmA := hm6.next ((Below.refl w6.heap.size w6).alloc (Nat.le_refl _) (.cells #[.string ⟨#[]⟩, .slice lo6 0 lc6, .slice bo6 0 bc6] 30))
  have C4 := CO2.out _ gm go F6 F5 hmA.swap
  rw [← EYT.out] at C4
  have C4 := Lib.hid C4
  simp only [Rp.outRe, Rp.outDone, Rp.outErr, List.length_nil, show ba [] = (⟨#[]⟩ : ByteArray) from rfl]
  clear CO2 C3 hm6 hmA hk6 hj6 ht6
  go_wp2_with fail
  refine C4.out.mono ?_
  rintro e w7 ⟨F7, lo7, lc7, bo7, bc7, rfl, hm7, ht7, hk7, hj7⟩
  simp only [Rp.outRe, Rp.outDone, Rp.outErr, List.length_nil, show ba [] = (⟨#[]⟩ : ByteArray) from rfl]
  have hmB := hm7.next ((Below.refl w7.heap.size w7).alloc (Nat.le_refl _) (.cells #[.string ⟨#[]⟩, .slice lo7 0 lc7, .slice bo7 0 bc7] 30))
  have BM := Lib.hid hmB.o.busy
  have BO' := Lib.hid hmB.m.busy
  have HB7 := Lib.hid hmB.m.b
  clear C4 hm7 ht7 hk7 hj7 hmB
  go_wp2_with (go_at_call 15; first
    | (refine BM.out.mono ?_; rintro e w8 ⟨rfl, hw⟩; rw [← hw]; clear hw)
    | (refine BO'.out.mono ?_; rintro e w8 ⟨rfl, hw⟩; rw [← hw]; clear hw))
  go_ret
  exact ⟨rfl, HB7.out⟩
set_option maxHeartbeats 8000000 in
set_option maxRecDepth 20000 in
theorem codes_other_short (A B : Nat) (hA : A < 256) (hB : B < 256) (hAB : A ≠ B) (q t : List UInt8) (hq : q.length ≤ maxLen) (hl : q.length ≤ 200) (ht : t = q.take 200) (w : World) :
    Calls Tryd.prog 7 #[.int .u8 (A : Int), .int .u8 (B : Int), .string (ba q)] w fun e w' => e = .returned (.bool true) ∧ Below w.heap.size w w' := by
  unfold maxLen at hq
  obtain ⟨X, hX⟩ : ∃ X, X = 200 + A := ⟨_, rfl⟩
  obtain ⟨Y, hY⟩ : ∃ Y, Y = 200 + B := ⟨_, rfl⟩
  have e1 : (200 : Int) + (A : Int) = (X : Int) := by omega
  have e2 : (200 : Int) + (B : Int) = (Y : Int) := by omega
  have hst := codes_steps (A := X) (B := Y) (by omega) (by omega) t
  have DX := fun w => rcode_any X (by omega) (by omega) w
  have DY := fun w => rcode_any Y (by omega) (by omega) w
  obtain ⟨x, hx⟩ : ∃ x, x = Ln.codeOf X := ⟨_, rfl⟩
  obtain ⟨y, hy⟩ : ∃ y, y = Ln.codeOf Y := ⟨_, rfl⟩
  have lx : x.length = 3 := by rw [hx]; rfl
  have ly : y.length = 3 := by rw [hy]; rfl
  have lt : t.length ≤ 200 := by rw [ht]; exact List.length_take_le _ _
  rw [← hx, ← hy] at hst
  rw [← hx] at DX
  rw [← hy] at DY
  obtain ⟨s1, s2, s3, s4⟩ := hst
  obtain ⟨s5, s6⟩ := s4 (by omega)
  clear s3 s4
  obtain ⟨XD, hXD⟩ : ∃ XD, ba x ++ (⟨#[45]⟩ : ByteArray) = XD := ⟨_, rfl⟩
  obtain ⟨XT, hXT⟩ : ∃ XT, XD ++ ba t = XT := ⟨_, rfl⟩
  obtain ⟨YD, hYD⟩ : ∃ YD, ba y ++ (⟨#[32]⟩ : ByteArray) = YD := ⟨_, rfl⟩
  obtain ⟨YT, hYT⟩ : ∃ YT, YD ++ ba t = YT := ⟨_, rfl⟩
  have eXT : XT = ba (x ++ 45 :: t) := by
    rw [← hXT, ← hXD, show (⟨#[45]⟩ : ByteArray) = ba [45] from rfl, ba_append, ba_append, List.append_assoc]; rfl
  have eYT : YT = ba (y ++ 32 :: t) := by
    rw [← hYT, ← hYD, show (⟨#[32]⟩ : ByteArray) = ba [32] from rfl, ba_append, ba_append, List.append_assoc]; rfl
  have zX : (ba x).size = 3 := lx
  have zY : (ba y).size = 3 := ly
  have zT : (ba t).size ≤ 200 := lt
  have zXD : XD.size = 4 := by rw [← hXD, ByteArray.size_append, zX]; rfl
  have zYD : YD.size = 4 := by rw [← hYD, ByteArray.size_append, zY]; rfl
  have zd : (⟨#[45]⟩ : ByteArray).size = 1 := rfl
  have zb : (⟨#[32]⟩ : ByteArray).size = 1 := rfl
  obtain ⟨TL, hTL⟩ : ∃ TL, (ba t).size = TL := ⟨_, rfl⟩
  have lTL : TL ≤ 200 := by rw [← hTL]; exact zT
  have i1 : (9223372036854775807 < 4 + TL) = False := eq_false (by omega)
  have hn1 : (x ++ 45 :: t).length ≤ 1000000 := by rw [List.length_append, List.length_cons]; omega
  have hn2 : (y ++ 32 :: t).length ≤ 1000000 := by rw [List.length_append, List.length_cons]; omega
  have hqz : (ba q).size = q.length := rfl
  have hxt : ba q = ba t := by rw [ht, List.take_of_length_le hl]
  have h2 : ((200 : Int) < q.length) = False := eq_false (by omega)
  have hAI : ((A : Int) == (B : Int)) = false := beq_eq_false_iff_ne.2 (by omega)
  have hAI2 : ((A : Int) = (B : Int)) = False := eq_false (by omega)
  have CN := Lib.hid (fun (w1 : World) (h : Below w.heap.size w w1) => ML.new h 1)
  have CO := Lib.hid (fun (w1 : World) (g : Nat) (F : Nat → Prop) (h : ML w g F 1 none w1) => M2.new h.b h 3)
  have CM1 := Lib.hid (fun (w1 : World) (gm go : Nat) (Fm Fo : Nat → Prop) (h : M2 w gm Fm 1 none go Fo 3 none w1) => (s1 ▸ h.line (x ++ 45 :: t) hn1 false : Calls _ _ _ _ _))
  have CO1 := Lib.hid (fun (w1 : World) (gm go : Nat) (Fm Fo : Nat → Prop) (h : M2 w go Fo 3 none gm Fm 1 (some ⟨x, [t], none⟩) w1) => (s2 ▸ h.line (x ++ 45 :: t) hn1 false : Calls _ _ _ _ _))
  have CM2 := Lib.hid (fun (w1 : World) (gm go : Nat) (Fm Fo : Nat → Prop) (h : M2 w gm Fm 1 (some ⟨x, [t], none⟩) go Fo 3 (some ⟨x, [t], none⟩) w1) => (s5 ▸ h.line (y ++ 32 :: t) hn2 false : Calls _ _ _ _ _))
  have CO2 := Lib.hid (fun (w1 : World) (gm go : Nat) (Fm Fo : Nat → Prop) (h : M2 w go Fo 3 (some ⟨x, [t], none⟩) gm Fm 1 none w1) => (s6 ▸ h.line (y ++ 32 :: t) hn2 false : Calls _ _ _ _ _))
  have EXT := Lib.hid eXT
  have EYT := Lib.hid eYT
  have HX := Lib.hid hx
  have HY := Lib.hid hy
  clear s1 s2 s5 s6 eXT eYT hX hY hn1 hn2 lx ly lt hx hy ht hl zT hAB
  generalize hbx : ba x = bx at *
  generalize hby : ba y = by' at *
  generalize hbt : ba t = bt at *
  go_enter Tryd.func7, Tryd.ntmps7
  go_wp2_with fail
  refine (shown_any w).mono ?_
  rintro e w1 ⟨rfl, hb1⟩
  go_wp2_with fail
  refine (CN.out w1 hb1).mono ?_
  rintro e w2 ⟨rfl, hm2, hb2⟩
  generalize w1.heap.size = gm at *
  clear CN
  go_wp2_with fail
  refine (CO.out w2 gm _ hm2).mono ?_
  rintro e w3 ⟨rfl, hm3, hb3⟩
  generalize w2.heap.size = go at *
  have HM3 := Lib.hid hm3
  clear CO hm2 hb2 hm3 hb3 hb1
  go_wp2_with fail
  refine (DX _).mono ?_
  rintro e w4 ⟨rfl, hw⟩
  rw [← hw]
  clear hw w4
  go_wp2_with fail
  refine (DY _).mono ?_
  rintro e w4 ⟨rfl, hw⟩
  rw [← hw]
  clear hw w4
  have C1 := CM1.out w3 gm go _ _ HM3.out
  rw [← EXT.out] at C1
  have C1 := Lib.hid C1
  clear CM1 HM3 DX DY
  go_wp2_with fail
  refine C1.out.mono ?_
  rintro e w4 ⟨F4, lo, lc, bo, bc, rfl, hm4, _, _, _⟩
  have C2 := CO1.out w4 gm go F4 _ hm4.swap
  rw [← EXT.out] at C2
  have C2 := Lib.hid C2
  clear CO1 C1 hm4
  go_wp2_with fail
  refine C2.out.mono ?_
  rintro e w5 ⟨F5, lo5, lc5, bo5, bc5, rfl, hm5, _, _, _⟩
  have C3 := CM2.out w5 gm go F4 F5 hm5.swap
  rw [← EYT.out] at C3
  have C3 := Lib.hid C3
  clear CM2 C2 hm5
  go_wp2_with fail
  refine C3.out.mono ?_
  rintro e w6 ⟨F6, lo6, lc6, bo6, bc6, rfl, hm6, ht6, hk6, hj6⟩
  have hmA := hm6.next ((Below.refl w6.heap.size w6).alloc (Nat.le_refl _) (.cells #[.string ⟨#[]⟩, .slice lo6 0 lc6, .slice bo6 0 bc6] 30))
  have C4 := CO2.out _ gm go F6 F5 hmA.swap
  rw [← EYT.out] at C4
  have C4 := Lib.hid C4
  simp only [Rp.outRe, Rp.outDone, Rp.outErr, List.length_nil, show ba [] = (⟨#[]⟩ : ByteArray) from rfl]
  clear CO2 C3 hm6 hmA hk6 hj6 ht6
  go_wp2_with fail
  refine C4.out.mono ?_
  rintro e w7 ⟨F7, lo7, lc7, bo7, bc7, rfl, hm7, ht7, hk7, hj7⟩
  simp only [Rp.outRe, Rp.outDone, Rp.outErr, List.length_nil, show ba [] = (⟨#[]⟩ : ByteArray) from rfl]
  have hmB := hm7.next ((Below.refl w7.heap.size w7).alloc (Nat.le_refl _) (.cells #[.string ⟨#[]⟩, .slice lo7 0 lc7, .slice bo7 0 bc7] 30))
  have BM := Lib.hid hmB.o.busy
  have BO' := Lib.hid hmB.m.busy
  have HB7 := Lib.hid hmB.m.b
  clear C4 hm7 ht7 hk7 hj7 hmB
  go_wp2_with (go_at_call 15; first
    | (refine BM.out.mono ?_; rintro e w8 ⟨rfl, hw⟩; rw [← hw]; clear hw)
    | (refine BO'.out.mono ?_; rintro e w8 ⟨rfl, hw⟩; rw [← hw]; clear hw))
  go_ret
  exact ⟨rfl, HB7.out⟩

theorem lawCodes (a b : Int) (s : ByteArray) (ha : (Lit.int .u8 a).wf = true) (hb : (Lit.int .u8 b).wf = true) (hs : s.size ≤ maxLen) (w : World) :
    Calls Tryd.prog 7 #[.int .u8 a, .int .u8 b, .string s] w fun e w' => e = .returned (.bool true) ∧ Below w.heap.size w w' := by
  have h1 := bounds_u8 ha
  have h2 := bounds_u8 hb
  obtain ⟨A, rfl⟩ : ∃ A : Nat, a = (A : Int) := ⟨a.toNat, by omega⟩
  obtain ⟨B, rfl⟩ : ∃ B : Nat, b = (B : Int) := ⟨b.toNat, by omega⟩
  rw [← ba_self s]
  by_cases hAB : A = B
  · subst hAB
    by_cases hl : 200 < s.data.toList.length
    · exact codes_same_long A (by omega) _ _ hs hl rfl w
    · exact codes_same_short A (by omega) _ _ hs (by omega) rfl w
  · by_cases hl : 200 < s.data.toList.length
    · exact codes_other_long A B (by omega) (by omega) hAB _ _ hs hl rfl w
    · exact codes_other_short A B (by omega) (by omega) hAB _ _ hs (by omega) rfl w
end Go.Proofs.YtnodngcfjdghcaaDoor
