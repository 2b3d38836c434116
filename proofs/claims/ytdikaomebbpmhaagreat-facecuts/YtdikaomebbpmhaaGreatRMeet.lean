/- The document's answers of the layer formula: Meet, turned, Not; each answer in new memory; nothing that lay before the call turns. -/
import Derived.Test.YtdikaomebbpmhaaGreatRForm
import Derived.Test.YtdikaomebbpmhaaGreatCRef
namespace Go.Proofs.YtdikaomebbpmhaaGreat
open Go.RowKit
set_option linter.unusedVariables false
set_option linter.unusedSimpArgs false

theorem rm_next {B g off k g2 off2 j : Nat} {c d : C} {W W' : World} (hb : Below B W W') (hg : g < B) (hg2 : g2 < B)
    (h : W.cell? ⟨g, off + k * 2, none⟩ = some (.int .u32 (c.1.val : Int)) ∧ W.cell? ⟨g, off + k * 2 + 1, none⟩ = some (.int .u32 (c.2.val : Int)) ∧ W.cell? ⟨g2, off2 + j * 2, none⟩ = some (.int .u32 (d.1.val : Int)) ∧ W.cell? ⟨g2, off2 + j * 2 + 1, none⟩ = some (.int .u32 (d.2.val : Int))) :
    W'.cell? ⟨g, off + k * 2, none⟩ = some (.int .u32 (c.1.val : Int)) ∧ W'.cell? ⟨g, off + k * 2 + 1, none⟩ = some (.int .u32 (c.2.val : Int)) ∧ W'.cell? ⟨g2, off2 + j * 2, none⟩ = some (.int .u32 (d.1.val : Int)) ∧ W'.cell? ⟨g2, off2 + j * 2 + 1, none⟩ = some (.int .u32 (d.2.val : Int)) :=
  ⟨(hb.cell (p := ⟨g, off + k * 2, none⟩) hg).trans h.1, (hb.cell (p := ⟨g, off + k * 2 + 1, none⟩) hg).trans h.2.1, (hb.cell (p := ⟨g2, off2 + j * 2, none⟩) hg2).trans h.2.2.1, (hb.cell (p := ⟨g2, off2 + j * 2 + 1, none⟩) hg2).trans h.2.2.2⟩

set_option maxRecDepth 100000 in
set_option maxHeartbeats 4000000 in
theorem rMeet_ok (l m : List C) (a b : Value) (w : World) (ha : CRow w a l) (hb : CRow w b m) (hf : rightF l = true) (hg : rightF m = true) :
    Calls Tryz.prog 75 #[a, b] w fun e w' => ∃ v, e = .returned (.tuple #[v, .int .i64 (meetR l m).2]) ∧ OwnsC w' w.heap.size v (meetR l m).1 ∧ Below w.heap.size w w' := by
  have hl : l.length ≤ 64 := rightF_len hf
  have hm : m.length ≤ 64 := rightF_len hg
  have c1 := rfright_any l a w ha (by omega)
  have c2 := fun w1 (h : Below w.heap.size w w1) => rfright_any m b w1 (hb.below h) (by omega)
  rw [hf] at c1
  simp only [hg] at c2
  have hpl := fun k => pairs_take_le l m k (by omega) (by omega)
  have HRl : Hid (∀ c ∈ l, rightC c = true) := List.all_eq_true.1 (rightF_all hf)
  have HRm : Hid (∀ c ∈ m, rightC c = true) := List.all_eq_true.1 (rightF_all hg)
  have Ha : Hid (∀ w1, Below w.heap.size w w1 → CRow w1 a l) := fun w1 h => ha.below h
  have Hb : Hid (∀ w1, Below w.heap.size w w1 → CRow w1 b m) := fun w1 h => hb.below h
  have HCa : Hid (∀ (k : Nat) c, l[k]? = some c → ∃ g off n cap, a = .slice (some ⟨g, off, none⟩) n cap ∧ g < w.heap.size) := fun k c hk => by
    obtain ⟨g, off, cap, e, h1, _⟩ := ha.cons (by rintro rfl; simp at hk)
    exact ⟨g, off, _, cap, e, h1⟩
  have HCb : Hid (∀ (k : Nat) c, m[k]? = some c → ∃ g off n cap, b = .slice (some ⟨g, off, none⟩) n cap ∧ g < w.heap.size) := fun k c hk => by
    obtain ⟨g, off, cap, e, h1, _⟩ := hb.cons (by rintro rfl; simp at hk)
    exact ⟨g, off, _, cap, e, h1⟩
  obtain ⟨pa, ca, rfl⟩ := ha.len
  obtain ⟨pb, cb, rfl⟩ := hb.len
  clear ha hb hf hg
  obtain ⟨n1, hn1⟩ : ∃ n1, n1 = l.length := ⟨_, rfl⟩
  obtain ⟨n2, hn2⟩ : ∃ n2, n2 = m.length := ⟨_, rfl⟩
  have Hn1 : Hid (n1 = l.length) := hn1
  have Hn2 : Hid (n2 = m.length) := hn2
  rw [← hn1] at hl Ha HCa c1 ⊢
  rw [← hn2] at hm Hb HCb c2 ⊢
  clear hn1 hn2
  go_enter Tryz.func75, Tryz.ntmps75
  go_wp2_with fail
  refine c1.mono ?_
  rintro e w1 ⟨rfl, hB1⟩
  clear c1
  replace c2 := c2 w1 hB1
  go_wp2_with fail
  refine c2.mono ?_
  rintro e w2 ⟨rfl, hB2⟩
  clear c2
  have hB := chain hB1 hB2
  go_wp2
  go_loopw [6, 7] (fun v i wr => ∃ k : Nat, k ≤ n1 ∧ i = .int .i64 k ∧ OwnsC wr w.heap.size v (pairsC (l.take k) m) ∧ Below w.heap.size w wr) (fun _ i _ => n1 - (intOf i).toNat)
  case atStart => exact ⟨0, Nat.zero_le _, rfl, World.ownsRow_nil _ _ _ _, hB⟩
  case round =>
    obtain ⟨k, hk, rfl, hO, hny⟩ := hrel
    by_cases hlt : k < n1
    · obtain ⟨c, hck⟩ := get_some (l := l) (k := k) (by rw [← Hn1.out]; exact hlt)
      have HC : Hid (l[k]? = some c) := hck
      have hrc : rightC c = true := HRl.out c (List.mem_of_getElem? hck)
      clear hck
      go_wp2
      go_loopw [6, 8] (fun v i wr2 => ∃ j : Nat, j ≤ n2 ∧ i = .int .i64 j ∧ OwnsC wr2 w.heap.size v (pairsC (l.take k) m ++ (m.take j).map (meetC c)) ∧ Below w.heap.size w wr2) (fun _ i _ => n2 - (intOf i).toNat)
      case atStart => exact ⟨0, Nat.zero_le _, rfl, by simp only [List.take_zero, List.map_nil, List.append_nil]; exact hO, hny⟩
      case round =>
        obtain ⟨j, hj, rfl, hO2, hny2⟩ := hrel
        by_cases hlt2 : j < n2
        · obtain ⟨d, hdj⟩ := get_some (l := m) (k := j) (by rw [← Hn2.out]; exact hlt2)
          have hrd : rightC d = true := HRm.out d (List.mem_of_getElem? hdj)
          obtain ⟨g, off, rfl, hg0, x0, x1⟩ := (Ha.out _ hny2).at HC.out
          obtain ⟨g2, off2, rfl, hg20, y0, y1⟩ := (Hb.out _ hny2).at hdj
          have hg : g < w.heap.size := by
            obtain ⟨g', off', n', cap', e, h⟩ := HCa.out k c HC.out
            injection e with e1; injection e1 with e1; injection e1 with e1; rw [e1]; exact h
          have hg2 : g2 < w.heap.size := by
            obtain ⟨g', off', n', cap', e, h⟩ := HCb.out j d hdj
            injection e with e1; injection e1 with e1; injection e1 with e1; rw [e1]; exact h
          have HD : Hid (m[j]? = some d) := hdj
          have hlen : Hid ((pairsC (l.take k) m ++ (m.take j).map (meetC c)).length + [meetC c d].length ≤ 200000) := by
            have h1 := hpl k
            have h2 := List.length_take_le j m
            show (pairsC (l.take k) m ++ (m.take j).map (meetC c)).length + 1 ≤ 200000
            rw [List.length_append, List.length_map]
            omega
          clear hdj hg0 hg20
          have hO0 : OwnsC wr.drew w.heap.size _ (pairsC (l.take k) m ++ (m.take j).map (meetC c)) := hO2
          have hny0 : w.heap.size ≤ wr.drew.heap.size := hny2.size
          go_wp2
          go_region_held3 (fun w' => w'.cell? ⟨g, off + k * 2, none⟩ = some (.int .u32 (c.1.val : Int)) ∧ w'.cell? ⟨g, off + k * 2 + 1, none⟩ = some (.int .u32 (c.2.val : Int)) ∧ w'.cell? ⟨g2, off2 + j * 2, none⟩ = some (.int .u32 (d.1.val : Int)) ∧ w'.cell? ⟨g2, off2 + j * 2 + 1, none⟩ = some (.int .u32 (d.2.val : Int))) (first | (exact rm_next hBk hg hg2 (by assumption)) | go_keep)
            (first
              | (go_at_call 25; refine (refmeet_any _ _ _ (by assumption) (by assumption)).mono ?_; rintro e w5 ⟨rfl, hB5⟩; have hBk := hB5.mono hny0; have hO5 := OwnsC.below hO0 hB5)
              | (refine step_append_row rfl (.tmp 29) (.tmp 39) rfl w.heap.size _ _ _ [meetC c d] rfl rfl (OwnsC.below hO5 (below_alloc _ _)) (row_one _ _) hlen.out (Nat.le_trans hny0 (Nat.le_trans hB5.size (by simp))) ?_; intro v6 w6 hO6 hg6 hv6; have hBk := own_grown (OwnsC.below hO5 (below_alloc w5 (.cells #[.int .u32 ((meetC c d).1.val : Int), .int .u32 ((meetC c d).2.val : Int)] 25))) hg6 (Nat.le_trans hny0 (Nat.le_trans hB5.size (by simp)))))
          have hB6 : Below w.heap.size w w6 := by
            have h1 : Below w.heap.size w w5 := hny2.trans ((below_drewN (Below.refl _ wr) 1).trans (hB5.mono hny0))
            exact (h1.alloc h1.size _).trans hBk
          go_wp2
          go_roundw
          case rel => exact ⟨j + 1, by omega, by go_num, by rw [map_take_step HD.out, ← List.append_assoc]; exact hO6, hB6⟩
          case measure => simp [intOf]; omega
        · obtain rfl : j = n2 := by omega
          have e2 : m.take j = m := List.take_of_length_le (by rw [← Hn2.out]; exact Nat.le_refl _)
          rw [e2, ← pairs_take_step HC.out] at hO2
          go_wp2
          go_roundw
          case rel => exact ⟨k + 1, by omega, by go_num, hO2, hny2⟩
          case measure => simp [intOf]; omega
    · obtain rfl : k = n1 := by omega
      have e : l.take k = l := List.take_of_length_le (by rw [← Hn1.out]; exact Nat.le_refl _)
      rw [e] at hO
      have hrl : (pairsC l m).length ≤ 100000 := by have := hpl k; rw [e] at this; omega
      have cL := refleastC _ _ wr (OwnsC.row hO) hrl
      obtain ⟨p9, q9, rfl⟩ := OwnsC.len hO
      go_wp2_with fail
      refine cL.mono ?_
      rintro e w3 ⟨v3, rfl, hO3, hB3⟩
      clear cL
      go_wp2
      go_ret2
      exact ⟨_, rfl, OwnsC.mono hO3 hny.size, chain hny hB3⟩
set_option maxHeartbeats 1000000 in
theorem rMeet_any (l m : List C) (a b : Value) (w : World) (ha : CRow w a l) (hb : CRow w b m) (hl : l.length ≤ 40000) (hm : m.length ≤ 40000) :
    Calls Tryz.prog 75 #[a, b] w fun e w' => ∃ v, e = .returned (.tuple #[v, .int .i64 (meetF l m).2]) ∧ OwnsC w' w.heap.size v (meetF l m).1 ∧ Below w.heap.size w w' := by
  cases hf : rightF l
  · have HJ : Hid (meetF l m = ([], 2)) := by unfold meetF; rw [hf]; rfl
    have c1 := rfright_any l a w ha (by omega)
    rw [hf] at c1
    obtain ⟨pa, ca, rfl⟩ := ha.len
    obtain ⟨pb, cb, rfl⟩ := hb.len
    clear ha hb
    go_enter Tryz.func75, Tryz.ntmps75
    go_wp2_with fail
    refine c1.mono ?_
    rintro e w1 ⟨rfl, hB1⟩
    clear c1
    go_wp2
    go_ret2
    rw [HJ.out]
    exact ⟨_, rfl, World.ownsRow_nil _ _ _ _, hB1⟩
  · cases hg : rightF m
    · have HJ : Hid (meetF l m = ([], 2)) := by unfold meetF; rw [hf, hg]; rfl
      have c1 := rfright_any l a w ha (by omega)
      have c2 := fun w1 (h : Below w.heap.size w w1) => rfright_any m b w1 (hb.below h) (by omega)
      rw [hf] at c1
      simp only [hg] at c2
      obtain ⟨pa, ca, rfl⟩ := ha.len
      obtain ⟨pb, cb, rfl⟩ := hb.len
      clear ha hb
      go_enter Tryz.func75, Tryz.ntmps75
      go_wp2_with fail
      refine c1.mono ?_
      rintro e w1 ⟨rfl, hB1⟩
      clear c1
      replace c2 := c2 w1 hB1
      go_wp2_with fail
      refine c2.mono ?_
      rintro e w2 ⟨rfl, hB2⟩
      clear c2
      go_wp2
      go_ret2
      rw [HJ.out]
      exact ⟨_, rfl, World.ownsRow_nil _ _ _ _, chain hB1 hB2⟩
    · rw [meetF_ok hf hg]
      exact rMeet_ok l m a b w ha hb hf hg
end Go.Proofs.YtdikaomebbpmhaaGreat
