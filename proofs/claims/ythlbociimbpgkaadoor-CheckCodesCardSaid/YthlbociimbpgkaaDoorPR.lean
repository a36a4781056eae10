/- The texts ParseSh, RefQuote, one behind the other. -/
import Derived.Test.YthlbociimbpgkaaDoorPA
import Derived.Test.YthlbociimbpgkaaDoorPB
import Derived.Lib.ItoaLen
import Derived.Test.YthlbociimbpgkaaDoorBa
import Derived.Test.YthlbociimbpgkaaDoorRd
/- A statement written word by word, as its shape says, in plain words (layer 15: ParseShapes). -/
namespace Go.Proofs.YthlbociimbpgkaaDoor
namespace Ps
open Lx (Tok)

def quoteS (a : List UInt8) : List UInt8 := 34 :: (Lx.esc a ++ [34])
/-- What is written for a word, behind t texts. -/
def partOf (a b d : List UInt8) (t : Nat) (w : List UInt8) : List UInt8 :=
  if w = [110] then wName else if w = [119] then wCode else if w = [105] then d else if w = [116] then (if 0 < t then quoteS b else quoteS a) else if w = [123] then [123, 32, 125] else w
def srcOf (a b d : List UInt8) : Nat → List (List UInt8) → List UInt8
  | _, [] => []
  | t, w :: ws => 32 :: (partOf a b d t w ++ srcOf a b d (if w = [116] then t + 1 else t) ws)
theorem src_of (k : Nat) (hk : 1 ≤ k) (hk2 : k ≤ 17) (a b d : List UInt8) : srcOf a b d 0 (fw k :: tailW k) = str (pieces k a b d ++ [signP (lastC k)]) := by
  have hks : k = 1 ∨ k = 2 ∨ k = 3 ∨ k = 4 ∨ k = 5 ∨ k = 6 ∨ k = 7 ∨ k = 8 ∨ k = 9 ∨ k = 10 ∨ k = 11 ∨ k = 12 ∨ k = 13 ∨ k = 14 ∨ k = 15 ∨ k = 16 ∨ k = 17 := by omega
  rcases hks with rfl | rfl | rfl | rfl | rfl | rfl | rfl | rfl | rfl | rfl | rfl | rfl | rfl | rfl | rfl | rfl | rfl <;> rfl
theorem src_short (a b d : List UInt8) (ha : (quoteS a).length ≤ 202) (hb : (quoteS b).length ≤ 202) (hd : d.length ≤ 9) (k : Nat) (hk : 1 ≤ k) (hk2 : k ≤ 17) : (srcOf a b d 0 (fw k :: tailW k)).length ≤ 1000 := by
  rw [src_of k hk hk2]
  have e : ∀ x, (textP x).p = quoteS x := fun x => rfl
  have hks : k = 1 ∨ k = 2 ∨ k = 3 ∨ k = 4 ∨ k = 5 ∨ k = 6 ∨ k = 7 ∨ k = 8 ∨ k = 9 ∨ k = 10 ∨ k = 11 ∨ k = 12 ∨ k = 13 ∨ k = 14 ∨ k = 15 ∨ k = 16 ∨ k = 17 := by omega
  rcases hks with rfl | rfl | rfl | rfl | rfl | rfl | rfl | rfl | rfl | rfl | rfl | rfl | rfl | rfl | rfl | rfl | rfl <;> simp [pieces, str, nameP, signP, intP, e, wLet, wName, wIf, wCode] <;> omega
theorem esc_len : ∀ a : List UInt8, (Lx.esc a).length ≤ 2 * a.length
  | [] => by simp [Lx.esc]
  | c :: a => by
    have ih := esc_len a
    unfold Lx.esc at ih ⊢
    simp only [List.flatMap_cons, List.length_append, List.length_cons]
    have : (Lx.esc1 c).length ≤ 2 := by unfold Lx.esc1; repeat (first | split | simp)
    omega
theorem quote_len {a : List UInt8} (h : a.length ≤ 40) : (quoteS a).length ≤ 202 := by
  have := esc_len a
  simp [quoteS]
  omega
/-- The texts of a statement, as ParseShapes puts them together. -/
def allOf (s : St) : List UInt8 := s.s ++ [124] ++ s.t ++ [124] ++ s.u
def wantOfS (a b : List UInt8) : Nat → List UInt8
  | 1 => wName ++ [124] ++ a ++ [124]
  | 2 => [124] ++ a ++ [124]
  | 3 => a ++ [124] ++ b ++ [124]
  | 4 => a ++ [124] ++ b ++ [124]
  | 5 => wCode ++ [124] ++ a ++ [124]
  | 6 => [124, 124]
  | 7 => wName ++ [124] ++ a ++ [124] ++ b
  | 8 => a ++ [124] ++ b ++ [124]
  | 9 => wName ++ [124] ++ a ++ [124] ++ b
  | 10 => wName ++ [124] ++ a ++ [124]
  | 11 => a ++ [124] ++ b ++ [124]
  | 12 => [124, 124]
  | 13 => wName ++ [124, 124]
  | 14 => wName ++ [124, 124]
  | 15 => wName ++ [124, 124]
  | 16 => a ++ [124, 124]
  | 17 => [124, 124]
  | _ => []
theorem want_of (k : Nat) (hk : 1 ≤ k) (hk2 : k ≤ 17) (a b d : List UInt8) : allOf (shaped k a b d) = wantOfS a b k := by
  have hks : k = 1 ∨ k = 2 ∨ k = 3 ∨ k = 4 ∨ k = 5 ∨ k = 6 ∨ k = 7 ∨ k = 8 ∨ k = 9 ∨ k = 10 ∨ k = 11 ∨ k = 12 ∨ k = 13 ∨ k = 14 ∨ k = 15 ∨ k = 16 ∨ k = 17 := by omega
  rcases hks with rfl | rfl | rfl | rfl | rfl | rfl | rfl | rfl | rfl | rfl | rfl | rfl | rfl | rfl | rfl | rfl | rfl <;> simp [allOf, shaped, wantOfS]
theorem shaped_at (k : Nat) (hk : 1 ≤ k) (hk2 : k ≤ 17) (a b d : List UInt8) : (shaped k a b d).kind = k ∧ (shaped k a b d).place = 10 ∧ (shaped k a b d).n = (if k = 6 ∨ k = 12 then num d else 0) ∧ (shaped k a b d).l = [] ∧ (shaped k a b d).m = [] := by
  have hks : k = 1 ∨ k = 2 ∨ k = 3 ∨ k = 4 ∨ k = 5 ∨ k = 6 ∨ k = 7 ∨ k = 8 ∨ k = 9 ∨ k = 10 ∨ k = 11 ∨ k = 12 ∨ k = 13 ∨ k = 14 ∨ k = 15 ∨ k = 16 ∨ k = 17 := by omega
  rcases hks with rfl | rfl | rfl | rfl | rfl | rfl | rfl | rfl | rfl | rfl | rfl | rfl | rfl | rfl | rfl | rfl | rfl <;> exact ⟨rfl, rfl, rfl, rfl, rfl⟩
theorem shaped_len {a b : List UInt8} (d : List UInt8) (ha : a.length ≤ 40) (hb : b.length ≤ 40) (k : Nat) (hk : 1 ≤ k) (hk2 : k ≤ 17) : (shaped k a b d).s.length ≤ 40 ∧ (shaped k a b d).t.length ≤ 40 ∧ (shaped k a b d).u.length ≤ 40 := by
  have hks : k = 1 ∨ k = 2 ∨ k = 3 ∨ k = 4 ∨ k = 5 ∨ k = 6 ∨ k = 7 ∨ k = 8 ∨ k = 9 ∨ k = 10 ∨ k = 11 ∨ k = 12 ∨ k = 13 ∨ k = 14 ∨ k = 15 ∨ k = 16 ∨ k = 17 := by omega
  rcases hks with rfl | rfl | rfl | rfl | rfl | rfl | rfl | rfl | rfl | rfl | rfl | rfl | rfl | rfl | rfl | rfl | rfl <;> simp [shaped, wName, wCode, ha, hb]
/-- The digits of a number, read again. -/
theorem num_snoc (l : List UInt8) (c : UInt8) : num (l ++ [c]) = num l * 10 + (c.toNat - 48) := by simp [num]
theorem dec_num (n : Nat) : num (Lib.decDigits n) = n ∧ Lib.decDigits n ≠ [] ∧ ∀ c ∈ Lib.decDigits n, Lx.digit c = true := by
  induction n using Nat.strongRecOn with
  | ind n ih =>
    have hb : ∀ d, d < 10 → Lx.digit (UInt8.ofNat (48 + d)) = true ∧ (UInt8.ofNat (48 + d)).toNat - 48 = d := by
      intro d hd
      have h : ∀ d : Fin 10, Lx.digit (UInt8.ofNat (48 + d.val)) = true ∧ (UInt8.ofNat (48 + d.val)).toNat - 48 = d.val := by decide +kernel
      exact h ⟨d, hd⟩
    rw [Lib.decDigits]
    by_cases h : n < 10
    · rw [dif_pos h]
      refine ⟨?_, by simp, fun c hc => by rw [List.mem_singleton.1 hc]; exact (hb n h).1⟩
      have := (hb n h).2
      simpa [num] using this
    · rw [dif_neg h]
      obtain ⟨i1, i2, i3⟩ := ih (n / 10) (by omega)
      refine ⟨?_, by simp, fun c hc => ?_⟩
      · rw [num_snoc, i1, (hb _ (Nat.mod_lt n (by decide))).2]; omega
      · rcases List.mem_append.1 hc with hc | hc
        · exact i3 c hc
        · rw [List.mem_singleton.1 hc]; exact (hb _ (Nat.mod_lt n (by decide))).1
theorem dec_len (k : Nat) : ∀ n, n < 10 ^ (k + 1) → (Lib.decDigits n).length ≤ k + 1 := by
  induction k with
  | zero => intro n h; rw [Lib.decDigits, dif_pos (by omega)]; simp
  | succ k ih =>
    intro n h
    rw [Lib.decDigits]
    by_cases h2 : n < 10
    · rw [dif_pos h2]; simp
    · rw [dif_neg h2, List.length_append]
      have := ih (n / 10) (by rw [Nat.pow_succ] at h; omega)
      simp
      omega
end Ps
end Go.Proofs.YthlbociimbpgkaaDoor

/- The reference's Quote walked (layer 15). -/
namespace Go.Proofs.YthlbociimbpgkaaDoor
open Go.RowKit

theorem one_byte_atS (s : ByteArray) (k : Nat) (h : k < s.size) : s.extract k (k + 1) = ⟨[s[k]'h].toArray⟩ := by
  have hl : k < s.data.toList.length := by rw [Lib.size_eq] at h; exact h
  have e := Lib.extract_eq s k (k + 1)
  rw [List.drop_eq_getElem_cons hl, Nat.add_sub_cancel_left, List.take_succ_cons, List.take_zero] at e
  have : (s.extract k (k + 1)).data = [s[k]'h].toArray := by
    apply Array.toList_inj.1
    rw [e]
    rfl
  exact congrArg ByteArray.mk this

theorem esc_snoc (l : List UInt8) (c : UInt8) : Lx.esc (l ++ [c]) = Lx.esc l ++ Lx.esc1 c := by simp [Lx.esc]
set_option maxRecDepth 20000 in
set_option maxHeartbeats 2000000 in
/-- The reference's Quote, of what can be printed. -/
theorem rquote_any (x : List UInt8) (hx : x.length ≤ 100) (hp : ∀ c ∈ x, 32 ≤ c.toNat ∧ c.toNat ≤ 126) (w : World) :
    Calls Tryd.prog 13 #[.string ⟨x.toArray⟩] w fun e w' => e = .returned (.tuple #[.string ⟨(Ps.quoteS x).toArray⟩, .bool true]) ∧ w = w' := by
  obtain ⟨L, hL⟩ : ∃ L, x.length = L := ⟨_, rfl⟩
  have hz : (⟨x.toArray⟩ : ByteArray).size = L := hL
  have HL := Lib.hid hL
  have HP := Lib.hid hp
  rw [hL] at hx
  have hb : ((100 : Int) < (L : Int)) = False := eq_false (by omega)
  clear hp hL
  go_enter Tryd.func13, Tryd.ntmps13
  go_wp2
  go_loopw [4, 5, 35, 46, 50, 54] (fun o i s35 s46 s50 s54 wr => ∃ (k m : Nat) (X : List UInt8), k ≤ L ∧ i = .int .i64 k ∧ o = .string ⟨X.toArray⟩ ∧ X.length = m ∧ m ≤ 1 + 2 * k ∧ Hid (X = 34 :: Lx.esc (x.take k)) ∧ wr = w) (fun _ i s35 s46 s50 s54 _ => L - (intOf i).toNat)
  case atStart => exact ⟨0, 1, [34], Nat.zero_le _, rfl, rfl, rfl, by omega, Lib.hid (by simp [Lx.esc]), rfl⟩
  case round =>
    obtain ⟨k, m, X, hk, rfl, rfl, hm, hmk, HX, rfl⟩ := hrel
    have hzX : (⟨X.toArray⟩ : ByteArray).size = m := hm
    have HM := Lib.hid hm
    by_cases hlt : k < L
    · have hone := one_byte_atS ⟨x.toArray⟩ k (by rw [hz]; exact hlt)
      obtain ⟨c, hc⟩ : ∃ c, x[k]? = some c := ⟨_, List.getElem?_eq_getElem (by rw [HL.out]; exact hlt)⟩
      have hat : ∀ h, (⟨x.toArray⟩ : ByteArray)[k]'h = c := fun h => by rw [byte_at]; show x.getD k 0 = c; rw [List.getD_eq_getElem?_getD, hc]; rfl
      rw [hat] at hone
      obtain ⟨p1, p2⟩ := HP.out c (List.mem_of_getElem? hc)
      have htk : x.take (k + 1) = x.take k ++ [c] := by rw [List.take_add_one, hc]; rfl
      have HTK := Lib.hid htk
      have hzc : (⟨[c].toArray⟩ : ByteArray).size = 1 := rfl
      have hz92 : (⟨#[92]⟩ : ByteArray).size = 1 := rfl
      have q1 : ((c.toNat : Int) < 32) = False := eq_false (by omega)
      have q2 : ((126 : Int) < (c.toNat : Int)) = False := eq_false (by omega)
      by_cases hsl : c = 92 ∨ c = 34
      · have j1 : (⟨X.toArray⟩ : ByteArray) ++ ⟨#[92]⟩ = ⟨(X ++ [92]).toArray⟩ := ByteArray.mk_append_mk _ _
        obtain ⟨Y, hY⟩ : ∃ Y, X ++ [92] = Y := ⟨_, rfl⟩
        rw [hY] at j1
        have hYl : Y.length = m + 1 := by rw [← hY, List.length_append, hm]; rfl
        have hzY : (⟨Y.toArray⟩ : ByteArray).size = m + 1 := hYl
        have j2 : (⟨Y.toArray⟩ : ByteArray) ++ ⟨[c].toArray⟩ = ⟨(Y ++ [c]).toArray⟩ := ByteArray.mk_append_mk _ _
        have HZ : Hid (Y ++ [c] = 34 :: Lx.esc (x.take (k + 1))) := Lib.hid (by
          rw [HTK.out, esc_snoc, ← hY, HX.out]
          have : Lx.esc1 c = [92, c] := by rcases hsl with rfl | rfl <;> rfl
          rw [this]; simp)
        have hZl : (Y ++ [c]).length = m + 2 := by rw [List.length_append, hYl]; rfl
        obtain ⟨Z, hZ⟩ : ∃ Z, Y ++ [c] = Z := ⟨_, rfl⟩
        rw [hZ] at j2 HZ hZl
        rcases hsl with h9 | h3
        · have e1 : ((c.toNat : Int) == 92) = true := by rw [h9]; rfl
          have e2 : ((c.toNat : Int) = 92) = True := eq_true (by rw [h9]; rfl)
          clear h9 hY hZ htk hc hm hYl
          go_wp2
          go_roundw
          case rel => exact ⟨k + 1, m + 2, Z, by omega, by first | rfl | go_num, by first | rfl | simp only [j2], hZl, by omega, HZ, by first | rfl | trivial⟩
          case measure => simp [intOf]; omega
        · have e1 : ((c.toNat : Int) == 92) = false := by rw [h3]; rfl
          have e2 : ((c.toNat : Int) = 92) = False := eq_false (by rw [h3]; decide)
          have e3 : ((c.toNat : Int) == 34) = true := by rw [h3]; rfl
          have e4 : ((c.toNat : Int) = 34) = True := eq_true (by rw [h3]; rfl)
          clear h3 hY hZ htk hc hm hYl
          go_wp2
          go_roundw
          case rel => exact ⟨k + 1, m + 2, Z, by omega, by first | rfl | go_num, by first | rfl | simp only [j2], hZl, by omega, HZ, by first | rfl | trivial⟩
          case measure => simp [intOf]; omega
      · obtain ⟨h9, h3⟩ := not_or.1 hsl
        have n9 : c.toNat ≠ 92 := fun e => h9 (UInt8.toNat_inj.1 e)
        have n3 : c.toNat ≠ 34 := fun e => h3 (UInt8.toNat_inj.1 e)
        have e1 : ((c.toNat : Int) == 92) = false := beq_eq_false_iff_ne.2 (by omega)
        have e2 : ((c.toNat : Int) = 92) = False := eq_false (by omega)
        have e3 : ((c.toNat : Int) == 34) = false := beq_eq_false_iff_ne.2 (by omega)
        have e4 : ((c.toNat : Int) = 34) = False := eq_false (by omega)
        have e5 : ((c.toNat : Int) == 10) = false := beq_eq_false_iff_ne.2 (by omega)
        have e6 : ((c.toNat : Int) = 10) = False := eq_false (by omega)
        have e7 : ((c.toNat : Int) == 13) = false := beq_eq_false_iff_ne.2 (by omega)
        have e8 : ((c.toNat : Int) = 13) = False := eq_false (by omega)
        have e9 : ((c.toNat : Int) == 9) = false := beq_eq_false_iff_ne.2 (by omega)
        have e10 : ((c.toNat : Int) = 9) = False := eq_false (by omega)
        have j2 : (⟨X.toArray⟩ : ByteArray) ++ ⟨[c].toArray⟩ = ⟨(X ++ [c]).toArray⟩ := ByteArray.mk_append_mk _ _
        have HZ : Hid (X ++ [c] = 34 :: Lx.esc (x.take (k + 1))) := Lib.hid (by
          rw [HTK.out, esc_snoc, HX.out]
          have : Lx.esc1 c = [c] := by
            unfold Lx.esc1
            rw [if_neg h9, if_neg h3, if_neg (fun e => by rw [e] at p1; exact absurd p1 (by decide)), if_neg (fun e => by rw [e] at p1; exact absurd p1 (by decide)), if_neg (fun e => by rw [e] at p1; exact absurd p1 (by decide))]
          rw [this]; simp)
        have hZl : (X ++ [c]).length = m + 1 := by rw [List.length_append, hm]; rfl
        obtain ⟨Z, hZ⟩ : ∃ Z, X ++ [c] = Z := ⟨_, rfl⟩
        rw [hZ] at j2 HZ hZl
        clear h9 h3 n9 n3 hsl hZ htk hc hm
        go_wp2
        go_roundw
        case rel => exact ⟨k + 1, m + 1, Z, by omega, by first | rfl | go_num, by first | rfl | simp only [j2], hZl, by omega, HZ, by first | rfl | trivial⟩
        case measure => simp [intOf]; omega
    · obtain rfl : k = L := by omega
      have j2 : (⟨X.toArray⟩ : ByteArray) ++ ⟨#[34]⟩ = ⟨(X ++ [34]).toArray⟩ := ByteArray.mk_append_mk _ _
      have hq : X ++ [34] = Ps.quoteS x := by rw [HX.out, List.take_of_length_le (by rw [HL.out]; exact Nat.le_refl _)]; simp [Ps.quoteS]
      rw [hq] at j2
      have hz34 : (⟨#[34]⟩ : ByteArray).size = 1 := rfl
      clear hq hlt hk hm
      go_wp2
      refine bodyPost_ret (v := .tuple #[.string ⟨(Ps.quoteS x).toArray⟩, .bool true]) (by simp [results, Tryd.results13, go_sem]) rfl ⟨rfl, by first | rfl | trivial⟩
end Go.Proofs.YthlbociimbpgkaaDoor
