/- What the small functions of the layer lex, and of the document's answer, hand back. -/
import Derived.WalkKit
import Derived.Lib.Strings
import Derived.Laws.Strings3
import Derived.Test.YtahnbigkdfmpbaaDoorProg
import Derived.Test.YtahnbigkdfmpbaaDoorLay
import Derived.Test.YtahnbigkdfmpbaaDoorMMath
namespace Go.Proofs.YtahnbigkdfmpbaaDoor
open Go.RowKit
set_option linter.unusedVariables false
set_option linter.unusedSimpArgs false

theorem ret_bool {a b : Bool} (h : a = b) : Ending.returned (.bool a) = .returned (.bool b) := by rw [h]
theorem ret_int {k : IntKind} {a b : Int} (h : a = b) : Ending.returned (.int k a) = .returned (.int k b) := by rw [h]
theorem chain {a b c : World} (h1 : Below a.heap.size a b) (h2 : Below b.heap.size b c) : Below a.heap.size a c := h1.trans (h2.mono h1.size)
theorem below_alloc (w : World) (o : Obj) : Below w.heap.size w (w.alloc o) := (Below.refl _ _).alloc (Nat.le_refl _) _
/-- The bytes of a string, as a list; and back. -/
def tl (s : ByteArray) : Bs := s.data.toList
def bs (l : Bs) : ByteArray := ⟨l.toArray⟩
theorem tl_bs (l : Bs) : tl (bs l) = l := by simp [tl, bs]
theorem bs_tl (s : ByteArray) : bs (tl s) = s := by simp [tl, bs]
theorem tl_inj {a b : ByteArray} (h : tl a = tl b) : a = b := by rw [← bs_tl a, h, bs_tl]
theorem tl_len (s : ByteArray) : (tl s).length = s.size := (Lib.size_eq s).symm
theorem bs_size (l : Bs) : (bs l).size = l.length := by rw [← tl_len, tl_bs]
theorem tl_def (s : ByteArray) : s.data.toList = tl s := rfl
theorem tl_get (s : ByteArray) (k : Nat) (h : k < s.size) : (tl s)[k]? = some s[k] := by
  rw [List.getElem?_eq_getElem (by rw [tl_len]; exact h)]
  rfl
theorem tl_drop (s : ByteArray) (k : Nat) (h : k < s.size) : (tl s).drop k = s[k] :: (tl s).drop (k + 1) := by
  rw [List.drop_eq_getElem_cons (by rw [tl_len]; exact h)]
  rfl
theorem tl_extract (s : ByteArray) (a b : Nat) : tl (s.extract a b) = ((tl s).take b).drop a := by
  simp only [tl, ByteArray.data_extract, Array.toList_extract, List.extract]
  rw [List.take_drop]
  by_cases h : a ≤ b
  · rw [Nat.add_sub_cancel' h]
  · rw [List.drop_of_length_le, List.drop_of_length_le]
    · simp; omega
    · simp; omega
theorem tl_from (s : ByteArray) (a : Nat) : tl (s.extract a s.size) = (tl s).drop a := by
  rw [tl_extract, List.take_of_length_le (by rw [tl_len]; exact Nat.le_refl _)]

set_option maxHeartbeats 400000 in
theorem isLetter_any (c : UInt8) (w : World) : Calls Tryd.prog 81 #[.int .u8 (c.toNat : Int)] w fun e w' => e = .returned (.bool (letterB c)) ∧ w' = w := by
  have hb : letterB c = decide ((97 ≤ c.toNat ∧ c.toNat ≤ 122) ∨ (65 ≤ c.toNat ∧ c.toNat ≤ 90) ∨ c.toNat = 95) := rfl
  have H : Hid (_ = _) := hb
  clear hb
  generalize letterB c = r at *
  generalize c.toNat = x at *
  go_enter Tryd.func81, Tryd.ntmps81
  go_wp2
  all_goals
    go_ret
    exact ⟨ret_bool (by rw [H.out, Bool.eq_iff_iff]; simp; omega), rfl⟩
set_option maxHeartbeats 400000 in
theorem isDigit_any (c : UInt8) (w : World) : Calls Tryd.prog 82 #[.int .u8 (c.toNat : Int)] w fun e w' => e = .returned (.bool (digitB c)) ∧ w' = w := by
  have hb : digitB c = decide (48 ≤ c.toNat ∧ c.toNat ≤ 57) := rfl
  have H : Hid (_ = _) := hb
  clear hb
  generalize digitB c = r at *
  generalize c.toNat = x at *
  go_enter Tryd.func82, Tryd.ntmps82
  go_wp2
  all_goals
    go_ret
    exact ⟨ret_bool (by rw [H.out, Bool.eq_iff_iff]; simp; omega), rfl⟩
/-- How many bytes follow, and from what number on. -/
def moreF (x : Nat) : Int × Int := if x < 128 then (0, 0) else if 194 ≤ x ∧ x ≤ 223 then (1, 128) else if 224 ≤ x ∧ x ≤ 239 then (2, 2048) else if 240 ≤ x ∧ x ≤ 244 then (3, 65536) else (-1, 0)
theorem clone_any (s : ByteArray) (w : World) (hs : s.size ≤ 65536) : Calls Tryd.prog 64 #[.string s] w fun e w' => e = .returned (.string s) ∧ Below w.heap.size w w' := by
  have hC := stringslite_Clone s w (by omega)
  go_enter Tryd.func64, Tryd.ntmps64
  go_wp2_with (go_at_call 83; refine hC.mono ?_; rintro e w' ⟨rfl, hb⟩)
  go_ret
  exact ⟨rfl, hb⟩
set_option maxHeartbeats 400000 in
theorem comment_any (s : ByteArray) (w : World) (hs : s.size ≤ 65536) : Calls Tryd.prog 62 #[.string s] w fun e w' => e = .returned (.int .i64 (cmtN (tl s) : Nat)) ∧ w' = w := by
  have hI := strings_IndexByte s 10 w
  have e10 : (10 : Int).toNat.toUInt8 = 10 := rfl
  rw [e10, tl_def] at hI
  have h1 := Lib.indexByte_ge (tl s) 10
  have H : Hid (_ ∧ _) := cmtN_index (tl s)
  have HL : Hid (_ = _) := tl_len s
  generalize Lib.indexByte (tl s) 10 = r at *
  by_cases h : 0 ≤ r
  · go_enter Tryd.func62, Tryd.ntmps62
    go_wp2_with (go_at_call 80; refine hI.mono ?_; rintro e w' ⟨rfl, hw⟩; rw [hw])
    go_ret
    exact ⟨ret_int (H.out.2 (by omega)).symm, rfl⟩
  · have h2 : r = -1 := by omega
    go_enter Tryd.func62, Tryd.ntmps62
    go_wp2_with (go_at_call 80; refine hI.mono ?_; rintro e w' ⟨rfl, hw⟩; rw [hw])
    go_ret
    exact ⟨ret_int (by rw [H.out.1 h2, HL.out]), rfl⟩
end Go.Proofs.YtahnbigkdfmpbaaDoor
