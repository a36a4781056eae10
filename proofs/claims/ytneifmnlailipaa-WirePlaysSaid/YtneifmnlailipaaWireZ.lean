/- Two connections: how much was written; what is told of the first one. (Plain.) -/
import Derived.Test.YtneifmnlailipaaWireN
namespace Go.Proofs.Ytneifmnlailipaa
namespace Wi

theorem Cn.put_written (c : Cn) (ys : List UInt8) : Cn.written { c with xs := c.xs ++ ys } = c.written ++ ys := by
  unfold Cn.written
  rw [List.append_assoc]
theorem Wm.bw_upd {w : Wm} {k : Int} {c : Cn} {n : Nat} (h : k = 1 → c.written.length ≤ w.b.written.length + n) : (w.upd k c).b.written.length ≤ w.b.written.length + n := by
  rw [Wm.upd_b]
  split
  · exact h (by assumption)
  · omega
theorem Wm.write_bw (w : Wm) (k : Int) (ys : List UInt8) : (w.write k ys).2.b.written.length ≤ w.b.written.length + ys.length := by
  rw [Wm.write_eq]
  refine Wm.bw_upd fun hk => ?_
  subst hk
  rw [Wm.at_one]
  unfold Cn.puts
  split
  · exact Nat.le_add_right _ _
  · split
    · exact Nat.le_add_right _ _
    · show (Cn.written { w.b with xs := w.b.xs ++ ys }).length ≤ _
      rw [Cn.put_written, List.length_append]
      exact Nat.le_refl _
theorem Wm.finish_bw (w : Wm) (k : Int) : (w.finish k).b.written.length ≤ w.b.written.length := by
  rw [Wm.finish_eq]
  refine Wm.bw_upd (n := 0) fun hk => ?_
  subst hk
  rw [Wm.at_one]
  unfold Cn.done
  split <;> exact Nat.le_refl _
theorem Wm.ask_bw (w : Wm) : w.ask.2.b.written.length ≤ w.b.written.length := by
  by_cases h : w.b.st = 1
  · rw [Wm.ask_no h]
    exact Nat.le_refl _
  · rw [Wm.ask_eq h]
    show (w.b.written ++ []).length ≤ _
    rw [List.append_nil]
    exact Nat.le_refl _
theorem Wm.happen_bw {w : Wm} (hok : w.Ok) (kind k n : Int) (ys : List UInt8) : (w.happen kind k n ys).2.2.b.written.length ≤ w.b.written.length := by
  by_cases h1 : kind = 1
  · subst h1
    rw [Wm.happen1]
    refine Wm.bw_upd (n := 0) fun hk => ?_
    subst hk
    rw [Wm.at_one]
    unfold Cn.come
    split
    · exact Nat.le_refl _
    · split <;> exact Nat.le_refl _
  by_cases h2 : kind = 2
  · subst h2
    rw [Wm.happen2]
    refine Wm.bw_upd (n := 0) fun hk => ?_
    subst hk
    rw [Wm.at_one]
    unfold Cn.tk
    split <;> exact Nat.le_refl _
  by_cases h3 : kind = 3
  · subst h3
    rw [Wm.happen3]
    refine Wm.bw_upd (n := 0) fun hk => ?_
    subst hk
    rw [Wm.at_one]
    unfold Cn.fin
    split <;> exact Nat.le_refl _
  by_cases h4 : kind = 4
  · subst h4
    rw [Wm.happen4]
    refine Wm.bw_upd (n := 0) fun hk => ?_
    subst hk
    rw [Wm.at_one]
    unfold Cn.rs
    split <;> exact Nat.le_refl _
  by_cases h5 : kind = 5
  · subst h5
    rw [Wm.happen5 hok]
    refine Wm.bw_upd (n := 0) fun hk => ?_
    subst hk
    rw [Wm.at_one]
    unfold Cn.conn
    split <;> exact Nat.le_refl _
  by_cases h6 : kind = 6
  · subst h6
    rw [Wm.happen6]
    exact Nat.le_refl _
  · rw [Wm.happen_none w k n ys h1 h2 h3 h4 h5 h6]
    exact Nat.le_refl _
theorem Wm.Ok.aw {w : Wm} (h : w.Ok) : w.a.written.length ≤ 4000 := by
  unfold Cn.written
  rw [h.wrote, List.nil_append]
  exact h.a.xs
theorem Wm.Ok.atw {w : Wm} (h : w.Ok) (k : Int) : (w.at k).written.length ≤ 4000 + w.b.written.length := by
  unfold Wm.at
  split
  · have := h.aw
    omega
  · split
    · omega
    · exact Nat.zero_le _
theorem Cn.Ok.norm_old {c : Cn} (h : c.Ok) : c.norm.old.length ≤ c.written.length := by
  have h1 := h.sent_le
  have h2 : c.norm.old.length ≤ c.norm.sent.length := by unfold Cn.sent; rw [List.length_append]; omega
  rw [Cn.norm_sent] at h2
  omega
theorem Cn.norm_wrote (c : Cn) : c.norm.wrote.length ≤ c.written.length := by
  have h2 : c.norm.wrote.length ≤ c.norm.written.length := by
    show _ ≤ (c.norm.wrote ++ c.norm.xs).length
    rw [List.length_append]
    omega
  rw [Cn.norm_written] at h2
  exact h2
end Wi
end Go.Proofs.Ytneifmnlailipaa
