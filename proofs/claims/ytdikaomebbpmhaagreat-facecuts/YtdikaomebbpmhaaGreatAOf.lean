/- The layer face: Of, OfZero, Join, Meet: each answer in new memory; nothing that lay before the call turns. -/
import Derived.Test.YtdikaomebbpmhaaGreatABase
namespace Go.Proofs.YtdikaomebbpmhaaGreat
open Go.RowKit
set_option linter.unusedVariables false
set_option linter.unusedSimpArgs false

set_option maxHeartbeats 1000000 in
theorem Of_any (l : List C) (v : Value) (w : World) (hv : FRow w v l) (hl : l.length ≤ 40000) :
    Calls Tryz.prog 14 #[v] w fun e w' => ∃ v', e = .returned (.tuple #[v', .int .i64 (ofF l).2]) ∧ OwnsC w' w.heap.size v' (ofF l).1 ∧ Below w.heap.size w w' := by
  have c1 := fright_any l v w hv (by omega)
  have c2 := fun w1 (h : Below w.heap.size w w1) => kept_any 19 #[] can_eg l v okC w1 (hv.row.below h) (by omega) (can_pred w1)
  have hcl : (calmC l).length ≤ 100000 := Nat.le_trans (calm_len _) (by omega)
  have HM : Hid (ofF l = if rightF l then leastF (calmC l) else ([], 2)) := rfl
  have hK : l.filter okC = calmC l := rfl
  rw [hK] at c2
  clear hK
  generalize calmC l = K at c2 hcl HM
  obtain ⟨pa, ca, rfl⟩ := hv.len
  clear hv
  generalize l.length = n at *
  cases hf : rightF l
  · rw [hf] at c1 HM
    go_enter Tryz.func14, Tryz.ntmps14
    go_wp2_with fail
    refine c1.mono ?_
    rintro e w1 ⟨rfl, hB1⟩
    clear c1
    go_wp2
    go_ret2
    rw [HM.out]
    exact ⟨_, rfl, World.ownsRow_nil _ _ _ _, hB1⟩
  · rw [hf] at c1 HM
    go_enter Tryz.func14, Tryz.ntmps14
    go_wp2_with fail
    refine c1.mono ?_
    rintro e w1 ⟨rfl, hB1⟩
    clear c1
    replace c2 := c2 w1 hB1
    go_wp2_with fail
    refine c2.mono ?_
    rintro e w2 ⟨v2, rfl, hO2, hB2⟩
    clear c2
    have cL := leastC K v2 w2 (OwnsC.row hO2) hcl
    obtain ⟨p8, q8, rfl⟩ := OwnsC.len hO2
    go_wp2_with fail
    refine cL.mono ?_
    rintro e w3 ⟨v3, rfl, hO3, hB3⟩
    clear cL
    have hB := chain (chain hB1 hB2) hB3
    go_wp2
    go_ret2
    rw [HM.out]
    exact ⟨_, rfl, OwnsC.mono hO3 (chain hB1 hB2).size, hB⟩
theorem ofZ_ok {l : List C} (h : (notF l).2 = 0) : ofZ l = ofF (notF l).1 := by simp [ofZ, h, ofF, notF_right l]
theorem ofZ_no {l : List C} (h : (notF l).2 ≠ 0) : ofZ l = ([], (notF l).2) := by simp [ofZ, h]
set_option maxHeartbeats 1000000 in
theorem OfZero_any (l : List C) (v : Value) (w : World) (hv : FRow w v l) (hl : l.length ≤ 40000) :
    Calls Tryz.prog 34 #[v] w fun e w' => ∃ v', e = .returned (.tuple #[v', .int .i64 (ofZ l).2]) ∧ OwnsC w' w.heap.size v' (ofZ l).1 ∧ Below w.heap.size w w' := by
  have c1 := Not_any l v w hv hl
  have hLen := notF_len l
  have HY : Hid ((notF l).2 = 0 → ofZ l = ofF (notF l).1) := ofZ_ok
  have HN : Hid ((notF l).2 ≠ 0 → ofZ l = ([], (notF l).2)) := ofZ_no
  obtain ⟨pa, ca, rfl⟩ := hv.len
  clear hv
  generalize notF l = P at c1 hLen HY HN
  obtain ⟨M, er⟩ := P
  dsimp only at c1 hLen HY HN
  generalize l.length = n at *
  by_cases h0 : er = 0
  · subst h0
    have HE : Hid (ofZ l = ofF M) := HY.out rfl
    clear HY HN
    go_enter Tryz.func34, Tryz.ntmps34
    go_wp2_with fail
    refine c1.mono ?_
    rintro e w1 ⟨v1, rfl, hO1, hB1⟩
    clear c1
    have c2 := Of_any M v1 w1 (OwnsC.frow hO1) (by omega)
    obtain ⟨p8, q8, rfl⟩ := OwnsC.len hO1
    go_wp2_with fail
    refine c2.mono ?_
    rintro e w2 ⟨v2, rfl, hO2, hB2⟩
    clear c2
    go_wp2
    go_ret2
    rw [HE.out]
    exact ⟨_, rfl, OwnsC.mono hO2 hB1.size, chain hB1 hB2⟩
  · have HE : Hid (ofZ l = ([], er)) := HN.out h0
    clear HY HN
    have h1 : (er == 0) = false := by simpa using h0
    go_enter Tryz.func34, Tryz.ntmps34
    go_wp2_with fail
    refine c1.mono ?_
    rintro e w1 ⟨v1, rfl, hO1, hB1⟩
    clear c1
    obtain ⟨p8, q8, rfl⟩ := OwnsC.len hO1
    go_wp2
    go_ret2
    rw [HE.out]
    exact ⟨_, rfl, World.ownsRow_nil _ _ _ _, hB1⟩

/-! ### joined, met -/
set_option maxHeartbeats 1000000 in
theorem ajoin_any (l m : List C) (a b : Value) (w : World) (ha : CRow w a l) (hb : CRow w b m) (hl : l.length ≤ 40000) (hm : m.length ≤ 40000) :
    Calls Tryz.prog 36 #[a, b] w fun e w' => ∃ v, e = .returned (.tuple #[v, .int .i64 (leastF (l ++ m)).2]) ∧ OwnsC w' w.heap.size v (leastF (l ++ m)).1 ∧ Below w.heap.size w w' := by
  have hB0 := below_alloc w (.cells #[a, b] 22)
  have hC := concat_any l m a b w.heap.size (w.alloc (.cells #[a, b] 22)) (ha.below hB0) (hb.below hB0) (by simp [go_sem]) (by simp [go_sem]) (by simp) hl hm
  have hlm : (l ++ m).length ≤ 100000 := by rw [List.length_append]; omega
  obtain ⟨pa, ca, rfl⟩ := ha.len
  obtain ⟨pb, cb, rfl⟩ := hb.len
  clear ha hb
  generalize l ++ m = lm at *
  generalize l.length = n1 at *
  generalize m.length = n2 at *
  go_enter Tryz.func36, Tryz.ntmps36
  go_wp2_with (first
    | (go_at_call 60; refine hC.mono ?_; rintro e w1 ⟨v1, rfl, hO1, hB1⟩)
    | (go_at_call 21; refine (leastC _ _ _ (OwnsC.row hO1) hlm).mono ?_; rintro e w2 ⟨v2, rfl, hO2, hB2⟩))
  go_ret2
  have hB := chain (chain hB0 hB1) hB2
  exact ⟨_, rfl, OwnsC.mono hO2 (by have := (chain hB0 hB1).size; omega), hB⟩
set_option maxRecDepth 100000 in
set_option maxHeartbeats 4000000 in
theorem ameet_any (l m : List C) (a b : Value) (w : World) (ha : CRow w a l) (hb : CRow w b m) (hl : l.length ≤ 300) (hm : m.length ≤ 300) :
    Calls Tryz.prog 59 #[a, b] w fun e w' => ∃ v, e = .returned (.tuple #[v, .int .i64 (mtR l m).2]) ∧ OwnsC w' w.heap.size v (mtR l m).1 ∧ Below w.heap.size w w' := by
  obtain ⟨i0, hi, hz0, hz1, hz2⟩ := info_parts Tryz.infoC
  have hpl := fun k => pairs_take_le l m k hl hm
  obtain ⟨pa, ca, rfl⟩ := ha.len
  obtain ⟨pb, cb, rfl⟩ := hb.len
  have Ha : Hid (CRow w (.slice pa l.length ca) l) := ha
  have Hb : Hid (CRow w (.slice pb m.length cb) m) := hb
  clear ha hb
  obtain ⟨n1, hn1⟩ : ∃ n1, n1 = l.length := ⟨_, rfl⟩
  obtain ⟨n2, hn2⟩ : ∃ n2, n2 = m.length := ⟨_, rfl⟩
  have Hn1 : Hid (n1 = l.length) := hn1
  have Hn2 : Hid (n2 = m.length) := hn2
  rw [← hn1] at hl Ha ⊢
  rw [← hn2] at hm Hb ⊢
  clear hn1 hn2
  have hnm : n1 * n2 ≤ 90000 := Nat.mul_le_mul hl hm
  have e1 : wrap64 ((n1 : Int) * (n2 : Int)) = ((n1 * n2 : Nat) : Int) := by rw [← Int.natCast_mul]; unfold wrap64; omega
  go_enter Tryz.func59, Tryz.ntmps59
  go_wp2_with (at_make; refine wpList_make_own _ rfl _ _ 22 rfl w.heap.size 25 i0 (.agg #[.int .u32 0, .int .u32 0]) 2 Tryz.underlying22 hi hz0 hz1 .i64 .i64 _ (n1 * n2) rfl rfl (by first | rfl | exact e1) (by rw [hz2]; omega) (by unfold maxLen; omega) (by simp) ?_; intro w1 hown1 hgrow1)
  go_loopw [6, 19] (fun v i wr => ∃ k : Nat, k ≤ n1 ∧ i = .int .i64 k ∧ OwnsC wr w.heap.size v (pairsC (l.take k) m) ∧ Below w.heap.size w wr) (fun _ i _ => n1 - (intOf i).toNat)
  case atStart => exact ⟨0, Nat.zero_le _, rfl, hown1, (Below.refl w.heap.size w).grown hgrow1 (Nat.le_refl _) (fun k h => by cases h)⟩
  case round =>
    obtain ⟨k, hk, rfl, hO, hny⟩ := hrel
    clear hown1 hgrow1
    by_cases hlt : k < n1
    · obtain ⟨c, hck⟩ := get_some (l := l) (k := k) (by rw [← Hn1.out]; exact hlt)
      obtain ⟨g, off, rfl, hg, x0, x1⟩ := (Ha.out.below hny).at hck
      have HC : Hid (l[k]? = some c) := hck
      clear hck
      have hne0 := own_ne hO
      go_wp2
      go_loopw [6, 25] (fun v i wr2 => ∃ j : Nat, j ≤ n2 ∧ i = .int .i64 j ∧ OwnsC wr2 w.heap.size v (pairsC (l.take k) m ++ (m.take j).map (meetC c)) ∧ Below w.heap.size w wr2 ∧ At wr2 wr.heap.size c ∧ v.ownBlock ≠ some wr.heap.size) (fun _ i _ => n2 - (intOf i).toNat)
      case atStart => exact ⟨0, Nat.zero_le _, rfl, by simp only [List.take_zero, List.map_nil, List.append_nil]; exact OwnsC.below hO (below_alloc _ _), chain hny (below_alloc _ _), At.made _ _ _, hne0⟩
      case round =>
        obtain ⟨j, hj, rfl, hO2, hny2, hat, hne⟩ := hrel
        by_cases hlt2 : j < n2
        · obtain ⟨d, hdj⟩ := get_some (l := m) (k := j) (by rw [← Hn2.out]; exact hlt2)
          obtain ⟨g2, off2, rfl, hg2, y0, y1⟩ := (Hb.out.below hny2).at hdj
          have hat0 := hat
          obtain ⟨z0, z1, z2⟩ := hat0
          have HD : Hid (m[j]? = some d) := hdj
          have hlen : Hid ((pairsC (l.take k) m ++ (m.take j).map (meetC c)).length + [meetC c d].length ≤ 200000) := by
            have h1 := hpl k
            have h2 := List.length_take_le j m
            show (pairsC (l.take k) m ++ (m.take j).map (meetC c)).length + 1 ≤ 200000
            rw [List.length_append, List.length_map]
            omega
          clear hdj
          go_wp2_with (first
            | (go_at_call 20; refine (meet_any _ _ _).mono ?_; rintro e w3 ⟨rfl, hG⟩)
            | (at_builtin; refine wpList_append_row rfl _ _ rfl w.heap.size _ _ _ [meetC c d] rfl rfl (OwnsC.below (OwnsC.below (OwnsC.below hO2 (below_alloc _ _)) hG.below) (below_alloc _ _)) (row_one _ _) hlen.out (by have := hny2.size; have := hG.below.size; simp at *; omega) ?_; intro v4 w4 hO4 hg4 hv4))
          have hX := chain (chain (chain hny2 (below_alloc _ _)) hG.below) (below_alloc w3 (.cells #[.int .u32 ((meetC c d).1.val : Int), .int .u32 ((meetC c d).2.val : Int)] 25))
          have hOX := (OwnsC.below (OwnsC.below (OwnsC.below hO2 (below_alloc _ _)) hG.below) (below_alloc w3 (.cells #[.int .u32 ((meetC c d).1.val : Int), .int .u32 ((meetC c d).2.val : Int)] 25)))
          have hAX := ((hat.alloc _).below hG.below).alloc (.cells #[.int .u32 ((meetC c d).1.val : Int), .int .u32 ((meetC c d).2.val : Int)] 25)
          go_roundw
          case rel => exact ⟨j + 1, by omega, by go_num, by rw [map_take_step HD.out, ← List.append_assoc]; exact hO4, hX.trans (own_grown hOX hg4 hX.size), hAX.far hg4 hne.symm, own_next hv4 hne hAX.2.2⟩
          case measure => simp [intOf]; omega
        · obtain rfl : j = n2 := by omega
          have e2 : m.take j = m := List.take_of_length_le (by rw [← Hn2.out]; exact Nat.le_refl _)
          rw [e2, ← pairs_take_step HC.out] at hO2
          go_wp2
          go_roundw
          case rel => exact ⟨k + 1, by omega, by go_num, hO2, hny2⟩
          case measure => simp [intOf]; omega
    · obtain rfl : k = n1 := by omega
      have e : l.take k = l := List.take_of_length_le (by rw [← Hn1.out]; exact Nat.le_refl _)
      rw [e] at hO
      have hrl : (pairsC l m).length ≤ 100000 := by have := hpl k; rw [e] at this; omega
      have cK := kept_any 19 #[] can_eg (pairsC l m) _ okC wr (OwnsC.row hO) hrl (can_pred wr)
      have hcl : (calmC (pairsC l m)).length ≤ 100000 := Nat.le_trans (calm_len _) hrl
      have HM : Hid (mtR l m = leastF (calmC (pairsC l m))) := rfl
      have hK : (pairsC l m).filter okC = calmC (pairsC l m) := rfl
      rw [hK] at cK
      clear hK
      generalize calmC (pairsC l m) = K at cK hcl HM
      obtain ⟨p9, q9, rfl⟩ := OwnsC.len hO
      generalize (pairsC l m).length = n9 at *
      go_wp2_with fail
      refine cK.mono ?_
      rintro e w2 ⟨v2, rfl, hO2, hB2⟩
      clear cK
      have cL := leastC K v2 w2 (OwnsC.row hO2) hcl
      obtain ⟨p8, q8, rfl⟩ := OwnsC.len hO2
      go_wp2_with fail
      refine cL.mono ?_
      rintro e w3 ⟨v3, rfl, hO3, hB3⟩
      clear cL
      have hB := chain (chain hny hB2) hB3
      go_wp2
      go_ret2
      rw [HM.out]
      exact ⟨_, rfl, OwnsC.mono hO3 (chain hny hB2).size, hB⟩
end Go.Proofs.YtdikaomebbpmhaaGreat
