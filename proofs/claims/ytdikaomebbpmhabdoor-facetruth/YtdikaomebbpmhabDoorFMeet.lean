/- meet: what two formulas make, met, in new memory. Nothing that lay before the call turns. -/
import Derived.Test.YtdikaomebbpmhabDoorFApp
namespace Go.Proofs.YtdikaomebbpmhabDoor
open Go.RowKit
set_option linter.unusedVariables false
set_option linter.unusedSimpArgs false

theorem pairs_snoc (l m : List C) (c : C) : pairsC (l ++ [c]) m = pairsC l m ++ m.map (meetC c) := by simp [pairsC]
theorem pairs_take_step {l m : List C} {k : Nat} {c : C} (h : l[k]? = some c) : pairsC (l.take (k + 1)) m = pairsC (l.take k) m ++ m.map (meetC c) := by
  have e : l.take (k + 1) = l.take k ++ [c] := by rw [List.take_add_one, h]; rfl
  rw [e, pairs_snoc]
theorem map_take_step {m : List C} {j : Nat} {c d : C} (h : m[j]? = some d) : (m.take (j + 1)).map (meetC c) = (m.take j).map (meetC c) ++ [meetC c d] := by
  have e : m.take (j + 1) = m.take j ++ [d] := by rw [List.take_add_one, h]; rfl
  rw [e]; simp
theorem pairs_take_le (l m : List C) (k : Nat) (hl : l.length ≤ 300) (hm : m.length ≤ 300) : (pairsC (l.take k) m).length ≤ 90000 := by
  rw [pairs_length]
  have h1 : (l.take k).length ≤ 300 := by rw [List.length_take]; omega
  exact Nat.mul_le_mul h1 hm
/-- The cells of a row, wherever it is empty too. -/
theorem CRow.at {w : World} {a0 : Option Addr} {n cap : Nat} {l : List C} (hv : CRow w (.slice a0 n cap) l) {k : Nat} {c : C} (hk : l[k]? = some c) : ∃ g off, a0 = some ⟨g, off, none⟩ ∧ g < w.heap.size ∧ w.cell? ⟨g, off + k * 2, none⟩ = some (.int .u32 (c.1.val : Int)) ∧ w.cell? ⟨g, off + k * 2 + 1, none⟩ = some (.int .u32 (c.2.val : Int)) := by
  have hz : l ≠ [] := by rintro rfl; simp at hk
  obtain ⟨g, off, cap2, e, hg, hc⟩ := hv.cons hz
  have e2 : a0 = some ⟨g, off, none⟩ := by injection e
  exact ⟨g, off, e2, hg, (hc k c hk).1, (hc k c hk).2⟩

set_option maxRecDepth 100000 in
set_option maxHeartbeats 4000000 in
theorem fmeet_any (l m : List C) (a b : Value) (w : World) (ha : CRow w a l) (hb : CRow w b m) (hl : l.length ≤ 300) (hm : m.length ≤ 300) :
    Calls Tryd.prog 61 #[a, b] w fun e w' => ∃ v, e = .returned (.tuple #[v, .int .i64 (meetR l m).2]) ∧ OwnsC w' w.heap.size v (meetR l m).1 ∧ Below w.heap.size w w' := by
  obtain ⟨i0, hi, hz0, hz1, hz2⟩ := info_parts Tryd.infoC
  have hpl := fun k => pairs_take_le l m k hl hm
  obtain ⟨pa, ca, rfl⟩ := ha.len
  obtain ⟨pb, cb, rfl⟩ := hb.len
  have Ha : Hid (CRow w (.slice pa l.length ca) l) := ha
  have Hb : Hid (CRow w (.slice pb m.length cb) m) := hb
  clear ha hb
  obtain ⟨n1, hn1⟩ : ∃ n1, n1 = l.length := ⟨_, rfl⟩
  obtain ⟨n2, hn2⟩ : ∃ n2, n2 = m.length := ⟨_, rfl⟩
  have Hn1 : Hid (n1 = l.length) := hn1
  have Hn2 : Hid (n2 = m.length) := hn2
  rw [← hn1] at hl Ha ⊢
  rw [← hn2] at hm Hb ⊢
  clear hn1 hn2
  have hnm : n1 * n2 ≤ 90000 := Nat.mul_le_mul hl hm
  have e1 : wrap64 ((n1 : Int) * (n2 : Int)) = ((n1 * n2 : Nat) : Int) := by rw [← Int.natCast_mul]; unfold wrap64; omega
  go_enter Tryd.func61, Tryd.ntmps61
  go_wp2_with (at_make; refine wpList_make_own _ rfl _ _ 22 rfl w.heap.size 25 i0 (.agg #[.int .u32 0, .int .u32 0]) 2 Tryd.underlying22 hi hz0 hz1 .i64 .i64 _ (n1 * n2) rfl rfl (by first | rfl | exact e1) (by rw [hz2]; omega) (by unfold maxLen; omega) (by simp) ?_; intro w1 hown1 hgrow1)
  go_loopw [6, 19] (fun v i wr => ∃ k : Nat, k ≤ n1 ∧ i = .int .i64 k ∧ OwnsC wr w.heap.size v (pairsC (l.take k) m) ∧ Below w.heap.size w wr) (fun _ i _ => n1 - (intOf i).toNat)
  case atStart => exact ⟨0, Nat.zero_le _, rfl, hown1, (Below.refl w.heap.size w).grown hgrow1 (Nat.le_refl _) (fun k h => by cases h)⟩
  case round =>
    obtain ⟨k, hk, rfl, hO, hny⟩ := hrel
    clear hown1 hgrow1
    by_cases hlt : k < n1
    · obtain ⟨c, hck⟩ := get_some (l := l) (k := k) (by rw [← Hn1.out]; exact hlt)
      obtain ⟨g, off, rfl, hg, x0, x1⟩ := (Ha.out.below hny).at hck
      have HC : Hid (l[k]? = some c) := hck
      clear hck
      have hne0 := own_ne hO
      go_wp2
      go_loopw [6, 25] (fun v i wr2 => ∃ j : Nat, j ≤ n2 ∧ i = .int .i64 j ∧ OwnsC wr2 w.heap.size v (pairsC (l.take k) m ++ (m.take j).map (meetC c)) ∧ Below w.heap.size w wr2 ∧ At wr2 wr.heap.size c ∧ v.ownBlock ≠ some wr.heap.size) (fun _ i _ => n2 - (intOf i).toNat)
      case atStart => exact ⟨0, Nat.zero_le _, rfl, by simp only [List.take_zero, List.map_nil, List.append_nil]; exact OwnsC.below hO (below_alloc _ _), chain hny (below_alloc _ _), At.made _ _ _, hne0⟩
      case round =>
        obtain ⟨j, hj, rfl, hO2, hny2, hat, hne⟩ := hrel
        by_cases hlt2 : j < n2
        · obtain ⟨d, hdj⟩ := get_some (l := m) (k := j) (by rw [← Hn2.out]; exact hlt2)
          obtain ⟨g2, off2, rfl, hg2, y0, y1⟩ := (Hb.out.below hny2).at hdj
          have hat0 := hat
          obtain ⟨z0, z1, z2⟩ := hat0
          have HD : Hid (m[j]? = some d) := hdj
          have hlen : Hid ((pairsC (l.take k) m ++ (m.take j).map (meetC c)).length + [meetC c d].length ≤ 200000) := by
            have h1 := hpl k
            have h2 := List.length_take_le j m
            show (pairsC (l.take k) m ++ (m.take j).map (meetC c)).length + 1 ≤ 200000
            rw [List.length_append, List.length_map]
            omega
          clear hdj
          go_wp2_with (first
            | (go_at_call 28; refine (meet_any _ _ _).mono ?_; rintro e w3 ⟨rfl, hG⟩)
            | (at_builtin; refine wpList_append_row rfl _ _ rfl w.heap.size _ _ _ [meetC c d] rfl rfl (OwnsC.below (OwnsC.below (OwnsC.below hO2 (below_alloc _ _)) hG.below) (below_alloc _ _)) (row_one _ _) hlen.out (by have := hny2.size; have := hG.below.size; simp at *; omega) ?_; intro v4 w4 hO4 hg4 hv4))
          have hX := chain (chain (chain hny2 (below_alloc _ _)) hG.below) (below_alloc w3 (.cells #[.int .u32 ((meetC c d).1.val : Int), .int .u32 ((meetC c d).2.val : Int)] 25))
          have hOX := (OwnsC.below (OwnsC.below (OwnsC.below hO2 (below_alloc _ _)) hG.below) (below_alloc w3 (.cells #[.int .u32 ((meetC c d).1.val : Int), .int .u32 ((meetC c d).2.val : Int)] 25)))
          have hAX := ((hat.alloc _).below hG.below).alloc (.cells #[.int .u32 ((meetC c d).1.val : Int), .int .u32 ((meetC c d).2.val : Int)] 25)
          go_roundw
          case rel => exact ⟨j + 1, by omega, by go_num, by rw [map_take_step HD.out, ← List.append_assoc]; exact hO4, hX.trans (own_grown hOX hg4 hX.size), hAX.far hg4 hne.symm, own_next hv4 hne hAX.2.2⟩
          case measure => simp [intOf]; omega
        · obtain rfl : j = n2 := by omega
          have e2 : m.take j = m := List.take_of_length_le (by rw [← Hn2.out]; exact Nat.le_refl _)
          rw [e2, ← pairs_take_step HC.out] at hO2
          go_wp2
          go_roundw
          case rel => exact ⟨k + 1, by omega, by go_num, hO2, hny2⟩
          case measure => simp [intOf]; omega
    · obtain rfl : k = n1 := by omega
      have e : l.take k = l := List.take_of_length_le (by rw [← Hn1.out]; exact Nat.le_refl _)
      rw [e] at hO
      have hrl : (pairsC l m).length ≤ 100000 := by have := hpl k; rw [e] at this; omega
      go_wp2_with (go_at_call 20; refine (leastC _ _ _ (OwnsC.row hO) hrl).mono ?_; rintro e w2 ⟨v2, rfl, hO2, hB2⟩)
      go_ret2
      exact ⟨_, rfl, OwnsC.mono hO2 hny.size, chain hny hB2⟩
end Go.Proofs.YtdikaomebbpmhabDoor
