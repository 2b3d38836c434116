/- The tokens of a text: Scan of the layer lex. -/
import Derived.Test.YtpfnjeefhddikaaLRow
namespace Go.Proofs.Ytpfnjeefhddikaa
open Go.RowKit
set_option linter.unusedVariables false
set_option linter.unusedSimpArgs false

theorem scanP_in {s : ByteArray} {k f : Nat} (hlt : k < s.size) (acc : List Tok) (R : Nat ⊕ List Tok) (h : finR acc (scanP (f + 1) k ((tl s).drop k)) = R) :
    (tokN ((tl s).drop k) = 0 → R = .inl k) ∧ (tokN ((tl s).drop k) ≠ 0 → finR (acc ++ [⟨kindN ((tl s).drop k), ((tl s).drop k).take (tokN ((tl s).drop k)), k⟩]) (scanQ f (k + tokN ((tl s).drop k)) ((tl s).drop (k + tokN ((tl s).drop k)))) = R) := by
  have hne : (tl s).drop k ≠ [] := by rw [tl_drop s k hlt]; simp
  refine ⟨fun h0 => ?_, fun h0 => ?_⟩
  · rw [scanP_bad _ _ _ hne h0] at h; exact h.symm
  · rw [scanP_tok _ _ _ hne h0, List.drop_drop] at h
    rw [← h]
    cases scanQ f (k + tokN ((tl s).drop k)) ((tl s).drop (k + tokN ((tl s).drop k))) with
    | inl e => rfl
    | inr ts => simp [finR]
theorem scanP_out {s : ByteArray} {k f : Nat} (hlt : ¬ k < s.size) (hf : s.size < k + f) (hk : k ≤ s.size) (acc : List Tok) (R : Nat ⊕ List Tok) (h : finR acc (scanP f k ((tl s).drop k)) = R) : R = .inr (acc ++ [⟨0, [], s.size⟩]) := by
  obtain ⟨g, rfl⟩ : ∃ g, f = g + 1 := ⟨f - 1, by omega⟩
  rw [List.drop_of_length_le (by rw [tl_len]; omega), scanP_nil] at h
  obtain rfl : k = s.size := by omega
  exact h.symm
theorem scanF_mid {s : ByteArray} (hs : s.size ≤ 65536) (hu : ¬ utfP (s.size + 1) (tl s) < s.size) : scanF (tl s) = ansOf (scanP (s.size + 1) (passN false (tl s)) ((tl s).drop (passN false (tl s)))) := by
  rw [scanF, tl_len, if_neg (by omega), if_neg hu]
theorem scanF_utf {s : ByteArray} (hs : s.size ≤ 65536) (hu : utfP (s.size + 1) (tl s) < s.size) : scanF (tl s) = ([], utfP (s.size + 1) (tl s), 60) := by
  rw [scanF, tl_len, if_neg (by omega), if_pos hu]
theorem scanF_big {s : ByteArray} (hs : 65536 < s.size) : scanF (tl s) = ([], 0, 3) := by
  rw [scanF, tl_len, if_pos hs]
theorem app_below {e : TypeId} {w wr w3 : World} {base : Nat} {v : Value} {u : List Tok} {o : Obj} (hB : Below base w wr) (hb : base ≤ wr.heap.size) (hO : OwnsT e wr base v u) (hg : (wr.alloc o).grownBy w3 v.ownBlock) : Below base w w3 :=
  (hB.alloc hb o).trans (own_grown (hO.below (below_alloc wr o)) hg (by simp; omega))
theorem finR_nil (r : Nat ⊕ List Tok) : finR [] r = r := by cases r <;> rfl
theorem owns_nil (e : TypeId) (w : World) (base : Nat) : OwnsT e w base (.slice none 0 0) [] := World.ownsRow_nil _ _ _ _

theorem tok_count {s : ByteArray} (h : (scanF (tl s)).2.2 = 0) : (scanF (tl s)).1.length ≤ s.size + 1 := by
  have := tok_count_list h
  rw [tl_len] at this
  exact this
end Go.Proofs.Ytpfnjeefhddikaa
