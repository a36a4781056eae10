/- What is told of the first connection. (Plain.) -/
import Derived.Test.YtneifmnlailipaaWireZ
namespace Go.Proofs.Ytneifmnlailipaa
namespace Wi
theorem Wm.Ok.a_written {w : Wm} (h : w.Ok) : w.a.written = w.a.xs := by
  unfold Cn.written
  rw [h.wrote, List.nil_append]
theorem Wm.Ok.a_sent {w : Wm} (h : w.Ok) : w.a.sent = w.a.xs.take w.a.t := by
  unfold Cn.sent
  rw [h.old, List.nil_append]
theorem Wm.Ok.a_live {w : Wm} (h : w.Ok) (h4 : w.a.st ≠ 4) : w.a.live = true := by
  have := h.st
  simp only [Cn.live, Bool.or_eq_true, beq_iff_eq]
  omega
theorem Wm.a_gone {w : Wm} (h4 : w.a.st = 4) : w.a.live = false := by
  simp [Cn.live, h4]
theorem Wm.finish_a (w : Wm) (k : Int) : (w.finish k).a.xs = w.a.xs ∧ (w.finish k).a.t = w.a.t ∧ (w.finish k).a.st = w.a.st := by
  rw [Wm.finish_eq]
  rw [Wm.upd_a]
  split
  · next h =>
    subst h
    unfold Cn.done
    split <;> exact ⟨rfl, rfl, rfl⟩
  · exact ⟨rfl, rfl, rfl⟩
theorem Wm.write_gone {w : Wm} (h4 : w.a.st = 4) (ys : List UInt8) : (65, w) = w.write 0 ys := by
  have hc : (w.at 0).puts ys = (65, w.at 0) := by
    unfold Cn.puts
    rw [if_pos (show (w.at 0).live = false ∨ (w.at 0).dn = true from .inl (Wm.a_gone h4))]
  rw [Wm.write_eq, hc, Wm.upd_at]
theorem Wm.write_done {w : Wm} (hd : w.a.dn = true) (ys : List UInt8) : (65, w) = w.write 0 ys := by
  have hc : (w.at 0).puts ys = (65, w.at 0) := by
    unfold Cn.puts
    rw [if_pos (show (w.at 0).live = false ∨ (w.at 0).dn = true from .inr hd)]
  rw [Wm.write_eq, hc, Wm.upd_at]
theorem Wm.write_full {w : Wm} (hl : w.a.live = true) (hd : w.a.dn = false) {ys : List UInt8} (hf : 4000 < w.a.xs.length + ys.length) : (72, w) = w.write 0 ys := by
  have hc : (w.at 0).puts ys = (72, w.at 0) := by
    unfold Cn.puts
    rw [if_neg (show ¬ ((w.at 0).live = false ∨ (w.at 0).dn = true) by rw [Wm.at_zero, hl, hd]; simp), if_pos (show 4000 < (w.at 0).xs.length + ys.length from hf)]
  rw [Wm.write_eq, hc, Wm.upd_at]
theorem Wm.write_fits {w : Wm} (hl : w.a.live = true) (hd : w.a.dn = false) {ys : List UInt8} (hf : ¬ 4000 < w.a.xs.length + ys.length) : (0, ({ w with a := { w.a with xs := w.a.xs ++ ys } } : Wm)) = w.write 0 ys := by
  have hc : (w.at 0).puts ys = (0, { w.at 0 with xs := (w.at 0).xs ++ ys }) := by
    unfold Cn.puts
    rw [if_neg (show ¬ ((w.at 0).live = false ∨ (w.at 0).dn = true) by rw [Wm.at_zero, hl, hd]; simp), if_neg (show ¬ 4000 < (w.at 0).xs.length + ys.length from hf)]
  rw [Wm.write_eq, hc]
  rfl
theorem Wm.sent_fits {w : Wm} (h : w.Ok) (ys : List UInt8) : (w.a.xs ++ ys).take w.a.t = w.a.xs.take w.a.t := by
  rw [List.take_append_of_le_length h.a.t]
theorem Wm.waits_live {w : Wm} (h : w.a.live = true) : w.a.waits = w.a.xs.length - w.a.t := by
  unfold Cn.waits
  rw [if_pos h]
theorem Wm.waits_gone {w : Wm} (h : w.a.live = false) : w.a.waits = 0 := by
  unfold Cn.waits
  rw [h]
  rfl
end Wi
end Go.Proofs.Ytneifmnlailipaa
