/- What the small functions of the layer lex, and of the document's answer, hand back. -/
import Derived.WalkKit
import Derived.Lib.Strings
import Derived.Laws.Strings3
import Derived.Test.YtpfnjeefhddikaaProg
import Derived.Test.YtpfnjeefhddikaaLay
import Derived.Test.YtpfnjeefhddikaaLMathC
namespace Go.Proofs.Ytpfnjeefhddikaa
open Go.RowKit
set_option linter.unusedVariables false
set_option linter.unusedSimpArgs false

theorem ret_bool {a b : Bool} (h : a = b) : Ending.returned (.bool a) = .returned (.bool b) := by rw [h]
theorem ret_int {k : IntKind} {a b : Int} (h : a = b) : Ending.returned (.int k a) = .returned (.int k b) := by rw [h]
theorem chain {a b c : World} (h1 : Below a.heap.size a b) (h2 : Below b.heap.size b c) : Below a.heap.size a c := h1.trans (h2.mono h1.size)
theorem below_alloc (w : World) (o : Obj) : Below w.heap.size w (w.alloc o) := (Below.refl _ _).alloc (Nat.le_refl _) _
/-- The bytes of a string, as a list; and back. -/
def tl (s : ByteArray) : Bs := s.data.toList
def bs (l : Bs) : ByteArray := ⟨l.toArray⟩
theorem tl_bs (l : Bs) : tl (bs l) = l := by simp [tl, bs]
theorem bs_tl (s : ByteArray) : bs (tl s) = s := by simp [tl, bs]
theorem tl_inj {a b : ByteArray} (h : tl a = tl b) : a = b := by rw [← bs_tl a, h, bs_tl]
theorem tl_len (s : ByteArray) : (tl s).length = s.size := (Lib.size_eq s).symm
theorem bs_size (l : Bs) : (bs l).size = l.length := by rw [← tl_len, tl_bs]
theorem tl_def (s : ByteArray) : s.data.toList = tl s := rfl
theorem tl_get (s : ByteArray) (k : Nat) (h : k < s.size) : (tl s)[k]? = some s[k] := by
  rw [List.getElem?_eq_getElem (by rw [tl_len]; exact h)]
  rfl
theorem tl_drop (s : ByteArray) (k : Nat) (h : k < s.size) : (tl s).drop k = s[k] :: (tl s).drop (k + 1) := by
  rw [List.drop_eq_getElem_cons (by rw [tl_len]; exact h)]
  rfl
theorem tl_extract (s : ByteArray) (a b : Nat) : tl (s.extract a b) = ((tl s).take b).drop a := by
  simp only [tl, ByteArray.data_extract, Array.toList_extract, List.extract]
  rw [List.take_drop]
  by_cases h : a ≤ b
  · rw [Nat.add_sub_cancel' h]
  · rw [List.drop_of_length_le, List.drop_of_length_le]
    · simp; omega
    · simp; omega
theorem tl_from (s : ByteArray) (a : Nat) : tl (s.extract a s.size) = (tl s).drop a := by
  rw [tl_extract, List.take_of_length_le (by rw [tl_len]; exact Nat.le_refl _)]

set_option maxHeartbeats 400000 in
theorem rletter_any (c : UInt8) (w : World) : Calls Try.prog 59 #[.int .u8 (c.toNat : Int)] w fun e w' => e = .returned (.bool (letterB c)) ∧ w' = w := by
  have hb : letterB c = decide ((97 ≤ c.toNat ∧ c.toNat ≤ 122) ∨ (65 ≤ c.toNat ∧ c.toNat ≤ 90) ∨ c.toNat = 95) := rfl
  have H : Hid (_ = _) := hb
  clear hb
  generalize letterB c = r at *
  generalize c.toNat = x at *
  go_enter Try.func59, Try.ntmps59
  go_wp2
  all_goals
    go_ret
    exact ⟨ret_bool (by rw [H.out, Bool.eq_iff_iff]; simp; omega), rfl⟩
set_option maxHeartbeats 400000 in
theorem rdigit_any (c : UInt8) (w : World) : Calls Try.prog 60 #[.int .u8 (c.toNat : Int)] w fun e w' => e = .returned (.bool (digitB c)) ∧ w' = w := by
  have hb : digitB c = decide (48 ≤ c.toNat ∧ c.toNat ≤ 57) := rfl
  have H : Hid (_ = _) := hb
  clear hb
  generalize digitB c = r at *
  generalize c.toNat = x at *
  go_enter Try.func60, Try.ntmps60
  go_wp2
  all_goals
    go_ret
    exact ⟨ret_bool (by rw [H.out, Bool.eq_iff_iff]; simp; omega), rfl⟩
set_option maxHeartbeats 400000 in
theorem rblank_any (c : UInt8) (w : World) : Calls Try.prog 58 #[.int .u8 (c.toNat : Int)] w fun e w' => e = .returned (.bool (blankB c)) ∧ w' = w := by
  have hb : blankB c = decide (c.toNat = 32 ∨ c.toNat = 9 ∨ c.toNat = 10 ∨ c.toNat = 13) := rfl
  have H : Hid (_ = _) := hb
  clear hb
  generalize blankB c = r at *
  generalize c.toNat = x at *
  go_enter Try.func58, Try.ntmps58
  go_wp2
  all_goals
    go_ret
    exact ⟨ret_bool (by rw [H.out, Bool.eq_iff_iff]; simp; omega), rfl⟩
/-- How many bytes follow, and from what number on. -/
def moreF (x : Nat) : Int × Int := if x < 128 then (0, 0) else if 194 ≤ x ∧ x ≤ 223 then (1, 128) else if 224 ≤ x ∧ x ≤ 239 then (2, 2048) else if 240 ≤ x ∧ x ≤ 244 then (3, 65536) else (-1, 0)
set_option maxRecDepth 100000 in
set_option maxHeartbeats 1000000 in
theorem more_any (c : UInt8) (w : World) : Calls Try.prog 65 #[.int .u8 (c.toNat : Int)] w fun e w' => e = .returned (.tuple #[.int .i64 (moreF c.toNat).1, .int .i64 (moreF c.toNat).2]) ∧ w' = w := by
  generalize c.toNat = x at *
  by_cases h1 : x < 128
  · rw [show moreF x = (0, 0) by rw [moreF, if_pos h1]]
    go_enter Try.func65, Try.ntmps65
    go_wp2
    go_ret2
    exact ⟨rfl, rfl⟩
  by_cases h2 : 194 ≤ x ∧ x ≤ 223
  · rw [show moreF x = (1, 128) by rw [moreF, if_neg h1, if_pos h2]]
    obtain ⟨h3, h4⟩ := h2
    go_enter Try.func65, Try.ntmps65
    go_wp2
    go_ret2
    exact ⟨rfl, rfl⟩
  by_cases h3 : 224 ≤ x ∧ x ≤ 239
  · rw [show moreF x = (2, 2048) by rw [moreF, if_neg h1, if_neg h2, if_pos h3]]
    obtain ⟨h3, h4⟩ := h3
    have h5 : 194 ≤ x := by omega
    have h6 : ¬ x ≤ 223 := by omega
    clear h2
    go_enter Try.func65, Try.ntmps65
    go_wp2
    go_ret2
    exact ⟨rfl, rfl⟩
  by_cases h4 : 240 ≤ x ∧ x ≤ 244
  · rw [show moreF x = (3, 65536) by rw [moreF, if_neg h1, if_neg h2, if_neg h3, if_pos h4]]
    obtain ⟨h4, h5⟩ := h4
    have h6 : 194 ≤ x := by omega
    have h7 : ¬ x ≤ 223 := by omega
    have h8 : 224 ≤ x := by omega
    have h9 : ¬ x ≤ 239 := by omega
    clear h2 h3
    go_enter Try.func65, Try.ntmps65
    go_wp2
    go_ret2
    exact ⟨rfl, rfl⟩
  · rw [show moreF x = (-1, 0) by rw [moreF, if_neg h1, if_neg h2, if_neg h3, if_neg h4]]
    go_enter Try.func65, Try.ntmps65
    go_wp2
    all_goals first
      | (exfalso; omega)
      | (go_ret2; exact ⟨rfl, rfl⟩)
end Go.Proofs.Ytpfnjeefhddikaa
