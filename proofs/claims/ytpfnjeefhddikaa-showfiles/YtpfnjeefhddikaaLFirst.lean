/- The longest token with which a text begins; up to where a text is whole: first, whole of the layer lex. -/
import Derived.Deep.MidRow
import Derived.Test.YtpfnjeefhddikaaLPass
namespace Go.Proofs.Ytpfnjeefhddikaa
open Go.RowKit
set_option linter.unusedVariables false
set_option linter.unusedSimpArgs false

def signL : List Value := signTab.map fun p => Value.string (bs p)
theorem lt_of_cell {W : World} {g i : Nat} {v : Value} (h : W.cell? ⟨g, i, none⟩ = some v) : g < W.heap.size := by
  apply Nat.lt_of_not_le
  intro hle
  have e : W.heap[g]? = none := Array.getElem?_eq_none hle
  simp [World.cell?, e] at h
theorem extract_take (s : ByteArray) (n : Nat) : s.extract 0 n = bs ((tl s).take n) := by
  apply tl_inj
  rw [tl_extract, tl_bs, List.drop_zero]

theorem get_tl (s : ByteArray) (i : Nat) : s.get! i = (tl s).getD i 0 := by
  by_cases h : i < s.size
  · rw [Utf8W.get!_of_lt s i h, List.getD_eq_getElem?_getD, tl_get s i h]; rfl
  · have h1 : s.get! i = default := by
      show s.data[i]! = default
      exact getElem!_neg s.data i h
    rw [h1, List.getD_eq_getElem?_getD, List.getElem?_eq_none (by rw [tl_len]; omega)]
    rfl
theorem dec_eq (s : ByteArray) (h : 0 < s.size) : Lib.decodeGo s = Lib.decodeN s.size ((tl s).getD 0 0).toNat ((tl s).getD 1 0).toNat ((tl s).getD 2 0).toNat ((tl s).getD 3 0).toNat := by
  rw [Lib.decodeGo, if_neg (by omega), Lib.decode_at, Nat.sub_zero, get_tl, get_tl, get_tl, get_tl]
theorem dec_pos (s : ByteArray) (h : 0 < s.size) : 1 ≤ (Lib.decodeGo s).2 := by rw [dec_eq s h]; exact decodeN_pos _ _ _ _ _
theorem dec_step (s : ByteArray) (h : 0 < s.size) : stepN (tl s) = if (Lib.decodeGo s).1 = 65533 ∧ (Lib.decodeGo s).2 = 1 then 0 else (Lib.decodeGo s).2 := by
  rw [stepN, stepM, tl_len, dec_eq s h]

end Go.Proofs.Ytpfnjeefhddikaa
