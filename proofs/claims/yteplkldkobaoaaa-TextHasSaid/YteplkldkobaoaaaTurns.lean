/- The law TextTurns walked. -/
import Derived.Test.YteplkldkobaoaaaHas
namespace Go.Proofs.Yteplkldkobaoaaa
open Go.RowKit

theorem up_at {s u : ByteArray} (h : u.data.toList = Tx.up s.data.toList) {k : Nat} (h1 : k < s.size) (h2 : k < u.size) : (u[k]'h2).toNat = (Tx.upB (s[k]'h1)).toNat := by
  rw [Tx.get_eq u k h2, Tx.get_eq s k h1, h, Tx.up]
  have hl : s.data.toList.length = s.size := (Lib.size_eq s).symm
  rw [List.getD_eq_getElem?_getD, List.getD_eq_getElem?_getD, List.getElem?_map, List.getElem?_eq_getElem (by omega)]
  rfl

theorem Rd.shape {w : World} {v : Value} {xs : List (List UInt8)} (h : Rd w v (xs.map sv)) :
    ∃ ao cap, v = .slice ao xs.length cap ∧ (0 < xs.length → ∃ b o, ao = some ⟨b, o, none⟩ ∧ xs.length ≤ cap ∧ cap ≤ maxLen ∧ ∀ j, j < xs.length → w.cell? ⟨b, o + j, none⟩ = some (.string ⟨(xs.getD j []).toArray⟩)) := by
  rcases h with ⟨e, ao, cap, _, rfl⟩ | ⟨b, o, cap, rfl, g1, g2, g3⟩
  · have : xs = [] := by simpa using e
    subst this
    exact ⟨_, _, rfl, fun h => absurd h (by simp)⟩
  · rw [List.length_map] at g1
    exact ⟨_, _, by rw [List.length_map], fun _ => ⟨b, o, rfl, g1, g2, fun j hj => g3 j _ (svs_at hj)⟩⟩

theorem upper_word {l : List UInt8} {ws : List (List UInt8)} {j : Nat} {x y : ByteArray} (h : ws = Tx.words l) (hj : j < ws.length) (hx : x = ⟨(ws.getD j []).toArray⟩) (hy : y = ⟨((ws.map Tx.up).getD j []).toArray⟩) (hl : l.length ≤ 400) :
    ∀ (a1 a2 : Addr) (w : World), w.cell? a1 = some (.string x) → w.cell? a2 = some (.string y) → Calls Try.prog 11 #[.string x] w fun e w' => e = .returned (.string y) ∧ Below w.heap.size w w' ∧ w'.cell? a1 = some (.string x) ∧ w'.cell? a2 = some (.string y) := by
  intro a1 a2 w h1 h2
  have hlen : (ws.getD j []).length ≤ 400 := by
    have e1 := word_len hj rfl
    have e2 := (Tx.words_len l).1
    rw [← h] at e2
    omega
  have e : y = ⟨(Tx.up (ws.getD j [])).toArray⟩ := by
    rw [hy, List.getD_eq_getElem?_getD, List.getD_eq_getElem?_getD, List.getElem?_map, List.getElem?_eq_getElem hj]
    rfl
  refine (upper_at (s := x) (us := Tx.up (ws.getD j [])) (by rw [hx]) w ?_).mono ?_
  · rw [hx]
    show (ws.getD j []).toArray.size ≤ _
    simp only [List.size_toArray]
    omega
  · rintro e1 w' ⟨rfl, hb⟩
    exact ⟨by rw [e], hb, (hb.cell (World.block_lt_of_cell? _ _ h1)).trans h1, (hb.cell (World.block_lt_of_cell? _ _ h2)).trans h2⟩

theorem has_of {s p : ByteArray} {b : Bool} (h : b = Tx.has s.data.toList p.data.toList) (w : World) (hm : MX w) (hs : s.size ≤ 1048576) (hp : p.size ≤ 1048576) :
    Calls Try.prog 12 #[.string s, .string p] w fun e w' => e = .returned (.bool b) ∧ Below w.heap.size w w' := by
  subst h
  exact has_any s p w hm hs hp

theorem has_mid_any (s t : ByteArray) (w : World) (hm : MX w) (hs : s.size ≤ 400) (hp : t.size ≤ 400) :
    Calls Try.prog 12 #[.string (s ++ t ++ s), .string t] w fun e w' => e = .returned (.bool true) ∧ Below w.heap.size w w' := by
  refine has_of ?_ w hm (by rw [ByteArray.size_append', ByteArray.size_append']; omega) (by omega)
  rw [show (s ++ t ++ s).data.toList = s.data.toList ++ t.data.toList ++ s.data.toList from by simp, Tx.has_mid]

set_option maxHeartbeats 2000000 in
theorem lawTurns (a0 a1 : ByteArray) (w0 : a0.size ≤ maxLen) (w1 : a1.size ≤ maxLen) (w : World) (hm : MX w) :
    Calls Try.prog 5 #[.string a0, .string a1] w fun e w' => e = .returned (.bool true) ∧ Below w.heap.size w w' := by
  have hs0 := shortOf_le a0
  have ht0 := shortOf_le a1
  have hs := fun w => short_any a0 w w0
  have ht := fun w => short_any a1 w w1
  generalize shortOf a0 = s at hs0 hs
  generalize shortOf a1 = t at ht0 ht
  have HS := Lib.hid hs
  have HT := Lib.hid ht
  clear hs ht
  obtain ⟨u, hu⟩ : ∃ u : ByteArray, u = ⟨(Tx.up s.data.toList).toArray⟩ := ⟨_, rfl⟩
  have huz : u.size = s.size := by rw [Lib.size_eq, hu, Lib.size_eq]; exact Tx.up_len _
  have hud : u.data.toList = Tx.up s.data.toList := by rw [hu]
  have hup : ∀ w, Calls Try.prog 11 #[.string s] w fun e w' => e = .returned (.string u) ∧ Below w.heap.size w w' := fun w => by
    rw [hu]; exact upper_any s w (by omega)
  have HU := Lib.hid hu
  have HUZ := Lib.hid huz
  have HUD := Lib.hid hud
  have HUP := Lib.hid hup
  have hul : u.size ≤ 400 := by omega
  have huz1 : s.size ≤ u.size := by omega
  have huz2 : u.size ≤ s.size := by omega
  have hne : ((u.size : Int) != (s.size : Int)) = false := by simp; omega
  clear hu huz hud hup
  go_enter Try.func5, Try.ntmps5
  go_wp2_with fail
  refine (shown_any _).mono ?_
  rintro e w2 ⟨rfl, hb1⟩
  have hm2 := hm.below hb1
  go_wp2_with fail
  refine (HS.out _).mono ?_
  rintro e w2' ⟨rfl, rfl⟩
  go_wp2_with fail
  refine (HT.out _).mono ?_
  rintro e w2' ⟨rfl, rfl⟩
  go_wp2_with fail
  refine (HUP.out _).mono ?_
  rintro e w3 ⟨rfl, hb2⟩
  have c3 := hb1.trans (hb2.mono hb1.size)
  have hm3 := hm2.below hb2
  clear hm hm2 hb1 hb2
  go_wp2_with fail
  go_loop [7] (fun i => ∃ k : Nat, k ≤ s.size ∧ i = .int .i64 k) (fun i => s.size - (intOf i).toNat)
  case atStart => exact ⟨0, Nat.zero_le _, rfl⟩
  case round =>
    obtain ⟨k, hk, rfl⟩ := hrel
    by_cases hlt : k < s.size
    · have hlu : k < u.size := by omega
      have hb := up_at HUD.out hlt hlu
      by_cases h1 : 97 ≤ (s[k]'hlt).toNat
      · by_cases h2 : (s[k]'hlt).toNat ≤ 122
        · have hb2 : (u[k]'hlu).toNat = (s[k]'hlt).toNat - 32 := by rw [hb]; exact Tx.upB_low h1 h2
          have q1 : (((u[k]'hlu).toNat : Int) != ((s[k]'hlt).toNat : Int) - 32) = false := by simp; omega
          have H := Lib.hid hb
          clear hb hb2
          go_wp2
          go_round
          case rel => exact ⟨k + 1, by omega, by go_num⟩
          case measure => simp [intOf]; omega
        · have hb2 : (u[k]'hlu).toNat = (s[k]'hlt).toNat := by rw [hb, Tx.upB_other (by omega)]
          have q1 : (((u[k]'hlu).toNat : Int) != ((s[k]'hlt).toNat : Int)) = false := by simp [hb2]
          clear hb hb2
          go_wp2
          go_round
          case rel => exact ⟨k + 1, by omega, by go_num⟩
          case measure => simp [intOf]; omega
      · have hb2 : (u[k]'hlu).toNat = (s[k]'hlt).toNat := by rw [hb, Tx.upB_other (by omega)]
        have q1 : (((u[k]'hlu).toNat : Int) != ((s[k]'hlt).toNat : Int)) = false := by simp [hb2]
        clear hb hb2
        go_wp2
        go_round
        case rel => exact ⟨k + 1, by omega, by go_num⟩
        case measure => simp [intOf]; omega
    · clear hk
      obtain ⟨ws, hws⟩ : ∃ ws, ws = Tx.words s.data.toList := ⟨_, rfl⟩
      have hwu : Tx.words u.data.toList = ws.map Tx.up := by rw [HUD.out, Tx.words_up, hws]
      have hwl := words_size hs0
      rw [← hws] at hwl
      have HW := Lib.hid hws
      have HWU := Lib.hid hwu
      clear hws hwu
      go_wp2_with fail
      refine (words_any s _ (by omega)).mono ?_
      rintro e w4 ⟨v1, rfl, hown1, hb4⟩
      rw [← HW.out] at hown1
      have hm4 := hm3.below hb4
      have c4 := c3.trans (hb4.mono c3.size)
      have hr1 := Rd.of_own hown1
      clear hown1
      go_wp2_with fail
      refine (words_any u _ (by omega)).mono ?_
      rintro e w5 ⟨v2, rfl, hown2, hb5⟩
      rw [HWU.out] at hown2
      have hm5 := hm4.below hb5
      have c5 := c4.trans (hb5.mono c4.size)
      have hr2 := Rd.of_own hown2
      have hr1b := hr1.below hb5
      clear hown2 hr1 hm3 hm4 hb4 hb5 c3 c4
      obtain ⟨ao1, cap1, rfl, hc1⟩ := hr1b.shape
      obtain ⟨ao2, cap2, rfl, hc2⟩ := hr2.shape
      rw [List.length_map]
      have HC1 := Lib.hid hc1
      have HC2 := Lib.hid hc2
      clear hr1b hr2 hc1 hc2
      go_wp2_with fail
      go_loopw [11] (fun i wr => ∃ k : Nat, k ≤ ws.length ∧ i = .int .i64 k ∧ Below w5.heap.size w5 wr) (fun i _ => ws.length - (intOf i).toNat)
      case atStart => exact ⟨0, Nat.zero_le _, rfl, Below.refl _ _⟩
      case round =>
        obtain ⟨j, hj, rfl, hbr⟩ := hrel
        by_cases hjl : j < ws.length
        · obtain ⟨b1, o1, rfl, g1, g2, hca⟩ := HC1.out (by omega)
          obtain ⟨b2, o2, rfl, g3, g4, hcb⟩ := HC2.out (by rw [List.length_map]; omega)
          rw [List.length_map] at g3
          unfold maxLen at g2 g4
          obtain ⟨x, hx⟩ : ∃ x : ByteArray, x = ⟨(ws.getD j []).toArray⟩ := ⟨_, rfl⟩
          obtain ⟨y, hy⟩ : ∃ y : ByteArray, y = ⟨((ws.map Tx.up).getD j []).toArray⟩ := ⟨_, rfl⟩
          have q1 := hca j hjl
          have q2 := hcb j (by rw [List.length_map]; exact hjl)
          rw [← hx] at q1
          rw [← hy] at q2
          have q3 := (hbr.cell (p := ⟨b1, o1 + j, none⟩) (World.block_lt_of_cell? _ _ q1)).trans q1
          have q4 := (hbr.cell (p := ⟨b2, o2 + j, none⟩) (World.block_lt_of_cell? _ _ q2)).trans q2
          have HUX := Lib.hid (upper_word HW.out hjl hx hy (by rw [← Lib.size_eq]; exact hs0))
          clear hca hcb q1 q2 hx hy hm5 c5
          have i0 : (0 : Int) ≤ (j : Int) := Int.natCast_nonneg _
          have i1 : (j : Int) < (ws.length : Int) := by omega
          go_wp2_with fail
          go_region_held3 (fun w' => w'.cell? ⟨b1, o1 + j, none⟩ = some (.string x) ∧ w'.cell? ⟨b2, o2 + j, none⟩ = some (.string y)) (first | go_keep | exact ⟨by assumption, by assumption⟩)
            (first | (go_at_call 11; refine (HUX.out _ _ _ (by assumption) (by assumption)).mono ?_; rintro e w6 ⟨rfl, hb6, r1, r2⟩))
          have hbr2 := hbr.trans ((((Below.refl _ wr).drew).trans (hb6.mono (Nat.le_refl _))).mono hbr.size)
          clear hb6 hbr r1 r2 q3 q4
          go_wp2
          go_roundw
          case rel => exact ⟨j + 1, by omega, by go_num, hbr2⟩
          case measure => simp [intOf]; omega
        · have hm6 := hm5.below hbr
          have c6 := c5.trans (hbr.mono c5.size)
          clear hj hm5 c5 hbr
          obtain ⟨b, hb⟩ : ∃ b, b = Tx.has s.data.toList t.data.toList := ⟨_, rfl⟩
          have hub : b = Tx.has u.data.toList t.data.toList := by rw [hb, HUD.out, Tx.has_up]
          have hlen : b = true → t.size ≤ s.size := fun e => by
            rw [hb] at e
            have := Tx.has_len e
            rwa [← Lib.size_eq, ← Lib.size_eq] at this
          have HB := Lib.hid hb
          have HUB := Lib.hid hub
          have HLN := Lib.hid hlen
          clear hb hub hlen
          go_wp2_with fail
          refine (has_of HB.out _ hm6 (by omega) (by omega)).mono ?_
          rintro e w7 ⟨rfl, hb7⟩
          have hm7 := hm6.below hb7
          have c7 := c6.trans (hb7.mono c6.size)
          clear hm6 c6 hb7
          go_wp2_with fail
          refine (has_of HUB.out _ hm7 (by omega) (by omega)).mono ?_
          rintro e w8 ⟨rfl, hb8⟩
          have hm8 := hm7.below hb8
          have c8 := c7.trans (hb8.mono c7.size)
          clear hm7 c7 hb8
          have hbb : (b == b) = true := by simp
          go_wp2_with fail
          refine (has_mid_any s t _ hm8 (by omega) (by omega)).mono ?_
          rintro e w9 ⟨rfl, hb9⟩
          have hm9 := hm8.below hb9
          have c9 := c8.trans (hb9.mono c8.size)
          clear hm8 c8 hb9
          go_wp2_with fail
          refine (has_of HB.out _ hm9 (by omega) (by omega)).mono ?_
          rintro e w10 ⟨rfl, hb10⟩
          have c10 := c9.trans (hb10.mono c9.size)
          clear hm9 c9 hb10
          cases b
          · go_wp2
            go_ret
            exact ⟨rfl, c10⟩
          · have hl2 := HLN.out rfl
            go_wp2
            go_ret
            exact ⟨rfl, c10⟩

end Go.Proofs.Yteplkldkobaoaaa
