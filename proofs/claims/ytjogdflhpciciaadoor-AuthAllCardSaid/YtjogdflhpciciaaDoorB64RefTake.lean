/- rejoinderref02.Take walked. -/
import Derived.Test.YtjogdflhpciciaaDoorB64Ref
namespace Go.Proofs.YtjogdflhpciciaaDoor
open Go.RowKit

theorem go_no {n b : Nat} {c : UInt8} {r : List UInt8} (h : B64.rv c < 0) : B64.go n b (c :: r) = [] := by
  rw [B64.go, if_pos h]
theorem go_few {n b q : Nat} {c : UInt8} {r : List UInt8} (h : B64.rv c = (q : Int)) (hb : b < 2) : B64.go n b (c :: r) = B64.go (n % 4096 * 64 + q) (b + 6) r := by
  rw [B64.go, if_neg (by omega), if_neg (by omega), h]
  rfl
theorem go_byte {n b q : Nat} {c : UInt8} {r : List UInt8} (h : B64.rv c = (q : Int)) (hb : 2 ≤ b) : B64.go n b (c :: r) = UInt8.ofNat ((n % 4096 * 64 + q) / 2 ^ (b - 2)) :: B64.go (n % 4096 * 64 + q) (b - 2) r := by
  rw [B64.go, if_neg (by omega), if_pos (by omega), h]
  rfl

theorem drop_at {s : ByteArray} {k : Nat} (h : k < s.size) : s.data.toList.drop k = s[k]'h :: s.data.toList.drop (k + 1) := by
  have hl : s.data.toList.length = s.size := (Lib.size_eq s).symm
  rw [List.drop_eq_getElem_cons (by omega)]
  rfl

set_option maxHeartbeats 400000 in
theorem refTake_any (s : ByteArray) (w : World) (hs : s.size ≤ 1048576) :
    Calls Tryd.prog 23 #[.string s] w (TakePost w s.data.toList) := by
  go_enter Tryd.func23, Tryd.ntmps23
  go_wp2
  go_loopw [4, 5, 6, 7] (fun vo b n i wr => ∃ (B N K : Nat) (outl : List UInt8), b = .int .i64 B ∧ n = .int .i64 N ∧ i = .int .i64 K ∧ K ≤ s.size ∧ B ≤ 6 ∧ B % 2 = 0 ∧ N < 262144 ∧ outl.length ≤ K ∧
    wr.ownsRow w.heap.size 5 1 vo outl.length (outl.map bv) ∧ Below w.heap.size w wr ∧ Hid (outl ++ B64.go N B (s.data.toList.drop K) = B64.go 0 0 s.data.toList)) (fun _ _ _ i _ => s.size - (intOf i).toNat)
  case atStart => exact ⟨0, 0, 0, [], rfl, rfl, rfl, Nat.zero_le _, by omega, rfl, by omega, Nat.le_refl _, World.ownsRow_made (base := w.heap.size) w #[] 0 (Nat.le_refl _) (Nat.zero_le _) rfl, (Below.refl _ _).alloc (Nat.le_refl _) _, rfl⟩
  case round =>
    obtain ⟨B, N, K, outl, rfl, rfl, rfl, hK, hB, hBe, hN, ho, hown, hb, hinv⟩ := hrel
    by_cases hlt : K < s.size
    · have hd := drop_at hlt
      obtain ⟨r1, r2⟩ := B64.rv_small (s[K]'hlt)
      by_cases hr : B64.rv (s[K]'hlt) < 0
      · have hend : outl = B64.go 0 0 s.data.toList := by
          have := hinv.out
          rwa [hd, go_no hr, List.append_nil] at this
        have HE := Lib.hid hend
        clear hend
        have hv := fun w => value_any (s[K]'hlt) w
        generalize B64.rv (s[K]'hlt) = r at hr r1 r2 hv
        have HV := Lib.hid hv
        clear hv hd hinv
        go_wp2_with fail
        refine (HV.out _).mono ?_
        rintro e w' ⟨rfl, rfl⟩
        go_wp2_with fail
        refine (refPut_any _ outl _ (Rd.of_own hown) (by omega)).mono ?_
        rintro e w' ⟨rfl, rfl⟩
        by_cases hp : B64.put outl = s.data.toList
        · have e1 : sv (B64.put outl) = .string s := by rw [hp]; rfl
          rw [e1]
          have HPP := Lib.hid hp
          clear hp e1
          go_wp2
          go_ret2
          exact Or.inl ⟨outl, u4, HPP.out, rfl, hown, hb⟩
        · obtain ⟨P, hP⟩ : ∃ P : ByteArray, P = ⟨(B64.put outl).toArray⟩ := ⟨_, rfl⟩
          have e1 : sv (B64.put outl) = .string P := by rw [hP]; rfl
          have hq : (P.toList == s.toList) = false := beq_eq_false_iff_ne.2 (by rw [Lib.toList_data, Lib.toList_data, hP]; exact hp)
          rw [e1]
          have HNO := Lib.hid (show ∀ b, B64.put b ≠ s.data.toList from fun b hb => hp (by
            have := HE.out
            rw [← hb, B64.go_put] at this
            rw [this, hb]))
          clear hp e1 hP
          go_wp2
          go_ret2
          exact Or.inr ⟨HNO.out, rfl, hb⟩
      · obtain ⟨q, hq⟩ : ∃ q : Nat, B64.rv (s[K]'hlt) = (q : Int) := ⟨(B64.rv (s[K]'hlt)).toNat, by omega⟩
        have hv := fun w => value_any (s[K]'hlt) w
        rw [hq] at hv
        have hq64 : q < 64 := by omega
        have HV := Lib.hid hv
        have h0 : (0 : Int) ≤ (q : Int) := Int.natCast_nonneg _
        by_cases hB2 : B < 2
        · have HN := Lib.hid (show outl ++ B64.go (N % 4096 * 64 + q) (B + 6) (s.data.toList.drop (K + 1)) = B64.go 0 0 s.data.toList by
            have := hinv.out
            rwa [hd, go_few hq hB2] at this)
          clear hv hd hinv hr hq r1 r2
          go_wp2_with fail
          refine (HV.out _).mono ?_
          rintro e w' ⟨rfl, rfl⟩
          go_wp2
          go_roundw
          case rel => exact ⟨B + 6, N % 4096 * 64 + q, K + 1, outl, by go_num, by go_num, by go_num, by omega, by omega, by omega, by omega, by omega, hown, hb, HN⟩
          case measure => simp [intOf]; omega
        · have HN := Lib.hid (show (outl ++ [UInt8.ofNat ((N % 4096 * 64 + q) / 2 ^ (B - 2))]) ++ B64.go (N % 4096 * 64 + q) (B - 2) (s.data.toList.drop (K + 1)) = B64.go 0 0 s.data.toList by
            have := hinv.out
            rw [hd, go_byte hq (by omega)] at this
            rw [List.append_assoc]
            exact this)
          clear hv hd hinv hr hq r1 r2
          go_wp2_with fail
          refine (HV.out _).mono ?_
          rintro e w' ⟨rfl, rfl⟩
          obtain ⟨y, hy⟩ : ∃ y, y = UInt8.ofNat ((N % 4096 * 64 + q) / 2 ^ (B - 2)) := ⟨_, rfl⟩
          rw [← hy] at HN
          have hyv : ((N : Int) % 4096 * 64 + (q : Int)) / 2 ^ (B - 2) % 256 = (y.toNat : Int) := by
            rw [hy, UInt8.toNat_ofNat']
            simp
          have hrd := Rd.made wr [y] 5 (0, 0) 1 rfl (by decide)
          clear hy
          go_wp2_with (at_builtin; refine append_u8s rfl (.tmp 33) (.tmp 38) rfl rfl (hown.alloc _) ([y].map bv) hrd (bv_cell _) ?ca ?cb ?_)
          case ca => show _ + 1 ≤ _; omega
          case cb => have := hb.size; simp; omega
          intro v' w4 hown4 hg4
          have hown5 : w4.ownsRow w.heap.size 5 1 v' (outl ++ [y]).length ((outl ++ [y]).map bv) := by
            rw [List.length_append, List.map_append]
            exact hown4
          have hb4 : Below w.heap.size w w4 := (hb.alloc hb.size _).grown hg4 (by have := hb.size; simp; omega) (fun k hk => (hown.lt k hk).1)
          clear hown4 hg4 hrd hyv
          go_wp2
          go_roundw
          case rel => exact ⟨B - 2, N % 4096 * 64 + q, K + 1, outl ++ [y], by congr 1; omega, by go_num, by go_num, by omega, by omega, by omega, by omega, by simp; omega, hown5, hb4, HN⟩
          case measure => simp [intOf]; omega
    · have hend : outl = B64.go 0 0 s.data.toList := by
        have := hinv.out
        rwa [List.drop_of_length_le (by rw [← Lib.size_eq]; omega), B64.go, List.append_nil] at this
      have HE := Lib.hid hend
      clear hend
      clear hinv
      go_wp2_with fail
      refine (refPut_any _ outl _ (Rd.of_own hown) (by omega)).mono ?_
      rintro e w' ⟨rfl, rfl⟩
      by_cases hp : B64.put outl = s.data.toList
      · have e1 : sv (B64.put outl) = .string s := by rw [hp]; rfl
        rw [e1]
        have HPP := Lib.hid hp
        clear hp e1
        go_wp2
        go_ret2
        exact Or.inl ⟨outl, u4, HPP.out, rfl, hown, hb⟩
      · obtain ⟨P, hP⟩ : ∃ P : ByteArray, P = ⟨(B64.put outl).toArray⟩ := ⟨_, rfl⟩
        have e1 : sv (B64.put outl) = .string P := by rw [hP]; rfl
        have hq : (P.toList == s.toList) = false := beq_eq_false_iff_ne.2 (by rw [Lib.toList_data, Lib.toList_data, hP]; exact hp)
        rw [e1]
        have HNO := Lib.hid (show ∀ b, B64.put b ≠ s.data.toList from fun b hb => hp (by
          have := HE.out
          rw [← hb, B64.go_put] at this
          rw [this, hb]))
        clear hp e1 hP
        go_wp2
        go_ret2
        exact Or.inr ⟨HNO.out, rfl, hb⟩
end Go.Proofs.YtjogdflhpciciaaDoor
