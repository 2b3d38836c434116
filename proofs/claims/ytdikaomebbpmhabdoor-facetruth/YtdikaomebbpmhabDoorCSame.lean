/- The document's answer: Same tells whether two rows are alike; nothing that lay before the call turns. -/
import Derived.Deep.QuietTactic
import Derived.BigQuiet
import Derived.WalkSmall
import Derived.Test.YtdikaomebbpmhabDoorCRows
namespace Go.Proofs.YtdikaomebbpmhabDoor
open Go.RowKit
set_option linter.unusedVariables false
set_option linter.unusedSimpArgs false

theorem CRow.len {w : World} {v : Value} {l : List C} (h : CRow w v l) : ∃ a cap, v = .slice a l.length cap := by
  rcases h with ⟨a, cap, rfl, rfl⟩ | ⟨g, off, cap, rfl, _, _⟩
  · exact ⟨_, _, rfl⟩
  · exact ⟨_, _, rfl⟩
theorem CRow.cons {w : World} {v : Value} {l : List C} (h : CRow w v l) (hl : l ≠ []) : ∃ g off cap, v = .slice (some ⟨g, off, none⟩) l.length cap ∧ g < w.heap.size ∧ CellsC w g off l := by
  rcases h with ⟨a, cap, rfl, rfl⟩ | h
  · exact absurd rfl hl
  · exact h
theorem get_some {α : Type} {l : List α} {k : Nat} (h : k < l.length) : ∃ c, l[k]? = some c := ⟨l[k], List.getElem?_eq_getElem h⟩
theorem take_eq_step {l m : List C} {k : Nat} {c d : C} (h : l.take k = m.take k) (h1 : l[k]? = some c) (h2 : m[k]? = some d) (e : c = d) : l.take (k + 1) = m.take (k + 1) := by
  rw [List.take_add_one, List.take_add_one, h, h1, h2, e]
theorem c_ne {c d : C} (h : ¬ (c.1.val = d.1.val ∧ c.2.val = d.2.val)) : c ≠ d := by rintro rfl; exact h ⟨rfl, rfl⟩

set_option maxRecDepth 100000 in
set_option maxHeartbeats 1000000 in
theorem same_any (l m : List C) (a b : Value) (w : World) (ha : CRow w a l) (hb : CRow w b m) (hl : l.length ≤ 100000) :
    Calls Tryd.prog 14 #[a, b] w fun e w' => e = .returned (.bool (decide (l = m))) ∧ Below w.heap.size w w' := by
  by_cases hlen : l.length = m.length
  · by_cases hz : l = []
    · subst hz
      have hm : m = [] := List.length_eq_zero_iff.1 hlen.symm
      subst hm
      obtain ⟨p, c, rfl⟩ := ha.len
      obtain ⟨q, d, rfl⟩ := hb.len
      clear ha hb
      go_enter Tryd.func14, Tryd.ntmps14
      go_wp2
      go_loop [5] (fun i => i = .int .i64 0) (fun _ => 0)
      case atStart => rfl
      case round =>
        subst hrel
        go_wp2
        go_ret
        exact ⟨rfl, Below.refl _ _⟩
    · have hzm : m ≠ [] := by rintro rfl; exact hz (List.length_eq_zero_iff.1 hlen)
      obtain ⟨g, off, cap, rfl, hg, hc⟩ := ha.cons hz
      obtain ⟨g2, off2, cap2, rfl, hg2, hc2⟩ := hb.cons hzm
      clear ha hb
      rw [← hlen]
      obtain ⟨n, hn⟩ : ∃ n, n = l.length := ⟨_, rfl⟩
      have Hn : Hid (n = l.length) := hn
      have Hm : Hid (n = m.length) := hn.trans hlen
      rw [← hn] at hl ⊢
      clear hn hlen
      go_enter Tryd.func14, Tryd.ntmps14
      go_wp2
      go_loopw [5] (fun i wr => ∃ k : Nat, k ≤ n ∧ i = .int .i64 k ∧ l.take k = m.take k ∧ Below w.heap.size w wr) (fun i _ => n - (intOf i).toNat)
      case atStart => exact ⟨0, by omega, rfl, rfl, Below.refl _ _⟩
      case round =>
        obtain ⟨k, hk, rfl, htk, hB⟩ := hrel
        have HT : Hid (l.take k = m.take k) := htk
        clear htk
        by_cases hlt : k < n
        · obtain ⟨c, h1⟩ := get_some (l := l) (k := k) (by rw [← Hn.out]; exact hlt)
          obtain ⟨d, h2⟩ := get_some (l := m) (k := k) (by rw [← Hm.out]; exact hlt)
          have x1 := (hc.below hB hg) k c h1
          have x2 := (hc2.below hB hg2) k d h2
          obtain ⟨x1, x1'⟩ := x1
          obtain ⟨x2, x2'⟩ := x2
          have H1 : Hid (l[k]? = some c) := h1
          have H2 : Hid (m[k]? = some d) := h2
          clear h1 h2 hc hc2
          by_cases e1 : c.1.val = d.1.val
          · by_cases e2 : c.2.val = d.2.val
            · go_wp2
              go_quiet (fail)
              go_wp2
              go_roundw
              case rel => exact ⟨k + 1, by omega, by go_num, take_eq_step HT.out H1.out H2.out (c_ext e1 e2), below_drewN hB _⟩
              case measure => simp [intOf]; omega
            · have HN : Hid (l ≠ m) := fun h => by
                have := H2.out
                rw [← h, H1.out] at this
                exact e2 (by rw [Option.some.inj this])
              go_wp2
              go_quiet (fail)
              go_wp2
              go_ret
              exact ⟨ret_bool (by simp [HN.out]), below_drewN hB _⟩
          · have HN : Hid (l ≠ m) := fun h => by
              have := H2.out
              rw [← h, H1.out] at this
              exact e1 (by rw [Option.some.inj this])
            go_wp2
            go_quiet (fail)
            go_wp2
            go_ret
            exact ⟨ret_bool (by simp [HN.out]), below_drewN hB _⟩
        · obtain rfl : k = n := by omega
          have HE : Hid (l = m) := by
            have h := HT.out
            rwa [List.take_of_length_le (by rw [← Hn.out]; exact Nat.le_refl _), List.take_of_length_le (by rw [← Hm.out]; exact Nat.le_refl _)] at h
          go_wp2
          go_ret
          exact ⟨ret_bool (by simp [HE.out]), hB⟩
  · obtain ⟨p, c, rfl⟩ := ha.len
    obtain ⟨q, d, rfl⟩ := hb.len
    clear ha hb
    have h : l ≠ m := by rintro rfl; exact hlen rfl
    go_enter Tryd.func14, Tryd.ntmps14
    go_wp2
    go_ret
    exact ⟨by simp [h], Below.refl _ _⟩
end Go.Proofs.YtdikaomebbpmhabDoor
