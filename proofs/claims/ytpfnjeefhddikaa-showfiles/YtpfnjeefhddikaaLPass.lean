/- What is let by, and how long a name is: pass, nameLength of the layer lex. -/
import Derived.WalkMore
import Derived.Test.YtpfnjeefhddikaaLBase
namespace Go.Proofs.Ytpfnjeefhddikaa
open Go.RowKit
set_option linter.unusedVariables false
set_option linter.unusedSimpArgs false

theorem pre_dash (t : Bs) (c : UInt8) (h : c.toNat = 45) : Lib.hasPrefix (c :: t) [45, 45] = dash t := by
  have hc : ((45 : UInt8) == c) = true := by rw [beqc]; simp [h]
  cases t with
  | nil => simp [Lib.hasPrefix, dash, List.isPrefixOf]
  | cons d t =>
    simp only [Lib.hasPrefix, List.isPrefixOf, hc, Bool.true_and, Bool.and_true, beqc, dash]
    rfl
theorem bl_yes {c : UInt8} (h : ((c.toNat : Int) == 32) = true ∨ ((c.toNat : Int) == 9) = true ∨ ((c.toNat : Int) == 10) = true ∨ ((c.toNat : Int) == 13) = true) : blankB c = true := by
  simp only [beq_iff_eq] at h
  simp only [blankB, decide_eq_true_eq]; omega
theorem bl_no {c : UInt8} (h1 : ((c.toNat : Int) == 32) = false) (h2 : ((c.toNat : Int) == 9) = false) (h3 : ((c.toNat : Int) == 10) = false) (h4 : ((c.toNat : Int) == 13) = false) : blankB c = false := by
  simp only [beq_eq_false_iff_ne] at h1 h2 h3 h4
  simp only [blankB, decide_eq_false_iff_not]; omega
theorem d_yes {c : UInt8} (h : ((c.toNat : Int) == 45) = true) : c.toNat = 45 := by simp only [beq_iff_eq] at h; omega
theorem d_no {c : UInt8} (h : ((c.toNat : Int) == 45) = false) : c.toNat ≠ 45 := by simp only [beq_eq_false_iff_ne] at h; omega
theorem dash_of {s : ByteArray} {k : Nat} {r : Bool} (hlt : k < s.size) (h : s[k].toNat = 45) (hr : Lib.hasPrefix ((tl s).drop k) [45, 45] = r) : dash ((tl s).drop (k + 1)) = r := by
  rw [tl_drop s k hlt, pre_dash _ _ h] at hr; exact hr
theorem ps_blank {s : ByteArray} {k q : Nat} (hlt : k < s.size) (hb : blankB s[k] = true) (h : k + passN false ((tl s).drop k) = q) : (k + 1) + passN false ((tl s).drop (k + 1)) = q := by
  rw [tl_drop s k hlt, passN_blank hb] at h; omega
theorem ps_dash {s : ByteArray} {k q : Nat} (hlt : k < s.size) (hb : s[k].toNat = 45) (hd : dash ((tl s).drop (k + 1)) = true) (h : k + passN false ((tl s).drop k) = q) :
    (k + cmtN ((tl s).drop k)) + passN false ((tl s).drop (k + cmtN ((tl s).drop k))) = q := by
  rw [tl_drop s k hlt, passN_dash hb hd, ← tl_drop s k hlt, List.drop_drop] at h; omega
theorem ps_stop {s : ByteArray} {k q : Nat} (hlt : k < s.size) (hb : blankB s[k] = false) (hd : ¬ (s[k].toNat = 45 ∧ dash ((tl s).drop (k + 1)) = true)) (h : k + passN false ((tl s).drop k) = q) : k = q := by
  rw [tl_drop s k hlt, passN_stop hb hd] at h; omega
theorem ps_end {s : ByteArray} {k q : Nat} (hlt : ¬ k < s.size) (h : k + passN false ((tl s).drop k) = q) : k = q := by
  rw [List.drop_of_length_le (by rw [tl_len]; omega)] at h
  simpa [passN] using h
theorem cmt_bd {s : ByteArray} {k : Nat} (hk : k ≤ s.size) : k + cmtN ((tl s).drop k) ≤ s.size := by
  have := cmtN_le ((tl s).drop k)
  rw [List.length_drop, tl_len] at this
  omega
theorem cmt_pos {s : ByteArray} {k : Nat} (hlt : k < s.size) (hb : s[k].toNat = 45) : 0 < cmtN ((tl s).drop k) := by
  rw [tl_drop s k hlt, cmtN, if_neg (by omega)]; omega
theorem wordN_at {s : ByteArray} {k : Nat} (hlt : k < s.size) : wordN ((tl s).drop k) = if letterB s[k] || digitB s[k] then 1 + wordN ((tl s).drop (k + 1)) else 0 := by rw [tl_drop s k hlt]; rfl
theorem nameN_at {s : ByteArray} (hlt : 0 < s.size) : nameN (tl s) = if letterB s[0] then 1 + wordN ((tl s).drop 1) else 0 := by
  have := tl_drop s 0 hlt
  rw [List.drop_zero] at this
  rw [this]; rfl
end Go.Proofs.Ytpfnjeefhddikaa
