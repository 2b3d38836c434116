/- The document's answers of the layer formula: turned, Not. -/
import Derived.Test.YtdikaomebbpmhaaGreatRMeet
namespace Go.Proofs.YtdikaomebbpmhaaGreat
open Go.RowKit
set_option linter.unusedVariables false
set_option linter.unusedSimpArgs false

/-- The opposites of the literals of the first k dimensions. -/
def oppJ (c : C) (j : Nat) : List C := (if c.1.val.testBit j then [negB j] else []) ++ (if c.2.val.testBit j then [posB j] else [])
def oppI (c : C) (k : Nat) : List C := (List.range k).flatMap (oppJ c)
theorem oppI_succ (c : C) (k : Nat) : oppI c (k + 1) = oppI c k ++ oppJ c k := by simp [oppI, List.range_succ]
theorem oppI_length (c : C) (k : Nat) : (oppI c k).length ≤ k * 2 := by
  induction k with
  | zero => simp [oppI]
  | succ k ih =>
    rw [oppI_succ, List.length_append]
    have : (oppJ c k).length ≤ 2 := by
      unfold oppJ
      cases c.1.val.testBit k <;> cases c.2.val.testBit k <;> simp
    omega
theorem oppI_mem (c x : C) : x ∈ oppI c 24 ↔ x ∈ oppC c := by
  unfold oppI oppC
  simp only [List.mem_flatMap, List.mem_range, List.mem_append, List.mem_map, mem_dimsOf]
  constructor
  · rintro ⟨k, hk, h⟩
    unfold oppJ at h
    rcases List.mem_append.1 h with h | h
    · split at h
      · rename_i hb
        exact .inl ⟨k, ⟨hk, hb⟩, (List.mem_singleton.1 h).symm⟩
      · simp at h
    · split at h
      · rename_i hb
        exact .inr ⟨k, ⟨hk, hb⟩, (List.mem_singleton.1 h).symm⟩
      · simp at h
  · rintro (⟨k, ⟨hk, hb⟩, rfl⟩ | ⟨k, ⟨hk, hb⟩, rfl⟩)
    · exact ⟨k, hk, by unfold oppJ; simp [hb]⟩
    · exact ⟨k, hk, by unfold oppJ; simp [hb]⟩
theorem oppI_turn (c : C) : leastF (oppI c 24) = (turnF c, 0) := (leastF_congr (oppI_mem c)).trans (turn_told c)

set_option maxRecDepth 100000 in
set_option maxHeartbeats 4000000 in
theorem turned_any (c : C) (w : World) :
    Calls Tryz.prog 76 #[clV c] w fun e w' => ∃ v, e = .returned v ∧ OwnsC w' w.heap.size v (turnF c) ∧ Below w.heap.size w w' := by
  have hA := At.made w c 25
  have hB := below_alloc w (.cells #[.int .u32 (c.1.val : Int), .int .u32 (c.2.val : Int)] 25)
  have hc1 := c.1.isLt
  have hc2 := c.2.isLt
  have hLt := oppI_length c 24
  have HT : Hid (leastF (oppI c 24) = (turnF c, 0)) := oppI_turn c
  have HS : Hid (∀ k, oppI c (k + 1) = oppI c k ++ oppJ c k) := oppI_succ c
  have HL : Hid (∀ k, (oppI c k).length ≤ k * 2) := oppI_length c
  go_enter Tryz.func76, Tryz.ntmps76
  go_wp2_with fail
  generalize w.alloc (.cells #[.int .u32 (c.1.val : Int), .int .u32 (c.2.val : Int)] 25) = wb at hA hB ⊢
  have HA : Hid (At wb w.heap.size c) := hA
  clear hA
  go_loopw [3, 4] (fun v i wr => ∃ k : Nat, k ≤ 24 ∧ i = .int .i64 k ∧ OwnsC wr wb.heap.size v (oppI c k) ∧ Below wb.heap.size wb wr) (fun _ i _ => 24 - (intOf i).toNat)
  case atStart => exact ⟨0, Nat.zero_le _, rfl, World.ownsRow_nil _ _ _ _, Below.refl _ _⟩
  case round =>
    obtain ⟨k, hk, rfl, hO, hny⟩ := hrel
    by_cases hlt : k < 24
    · have hP : hasB c.1.val (k : Int) = c.1.val.testBit k := hasB_nat hlt
      have hQ : hasB c.2.val (k : Int) = c.2.val.testBit k := hasB_nat hlt
      have hlen := HL.out k
      have HJ : Hid (oppI c (k + 1) = oppI c k ++ ((if c.1.val.testBit k then [negB k] else []) ++ (if c.2.val.testBit k then [posB k] else []))) := HS.out k
      have hset := refset1 k hlt wr
      have hny1 := chain hny (below_alloc wr (.cells #[.int .i64 (k : Int)] 3))
      have hO1 := OwnsC.below hO (below_alloc wr (.cells #[.int .i64 (k : Int)] 3))
      have hat1 := HA.out.below hny1
      obtain ⟨z0, z1, z2⟩ := hat1
      go_wp2_with fail
      generalize wr.alloc (.cells #[.int .i64 (k : Int)] 3) = w1 at hset hny1 hO1 z0 z1 z2 ⊢
      refine hset.mono ?_
      rintro e w0 ⟨rfl, hw0⟩
      replace hw0 := hw0.symm
      subst hw0
      clear hset hO hny
      cases hp : c.1.val.testBit k
      · cases hq : c.2.val.testBit k
        · rw [hp] at hP HJ
          rw [hq] at hQ HJ
          go_wp2_with (first
            | (go_at_call 31; refine (refHas_any _ _ _ (by assumption)).mono ?_; rintro e w0 ⟨rfl, hw0⟩; replace hw0 := hw0.symm; subst hw0; first | rw [hP] | rw [hQ]))
          go_roundw
          case rel => exact ⟨k + 1, by omega, by go_num, by rw [HJ.out]; simpa using hO1, hny1⟩
          case measure => simp [intOf]; omega
        · rw [hp] at hP HJ
          rw [hq] at hQ HJ
          go_wp2_with (first
            | (go_at_call 31; refine (refHas_any _ _ _ (by assumption)).mono ?_; rintro e w0 ⟨rfl, hw0⟩; replace hw0 := hw0.symm; subst hw0; first | rw [hP] | rw [hQ])
            | (at_builtin; refine wpList_append_row rfl _ _ rfl wb.heap.size _ _ (oppI c k) [posB k] rfl rfl (OwnsC.below hO1 (below_alloc w1 (.cells #[.int .u32 ((bitF k).val : Int), .int .u32 0] 25))) (row_pos _ _) (by simp; omega) (Nat.le_trans hny1.size (by simp)) ?_; intro v5 w5 hO5 hg5 hv5; have hB5 := (chain hny1 (below_alloc w1 (.cells #[.int .u32 ((bitF k).val : Int), .int .u32 0] 25))).trans (own_grown (OwnsC.below hO1 (below_alloc w1 (.cells #[.int .u32 ((bitF k).val : Int), .int .u32 0] 25))) hg5 (Nat.le_trans hny1.size (by simp)))))
          go_roundw
          case rel => exact ⟨k + 1, by omega, by go_num, by rw [HJ.out]; simpa using hO5, hB5⟩
          case measure => simp [intOf]; omega
      · cases hq : c.2.val.testBit k
        · rw [hp] at hP HJ
          rw [hq] at hQ HJ
          go_wp2_with (first
            | (go_at_call 31; refine (refHas_any _ _ _ (by assumption)).mono ?_; rintro e w0 ⟨rfl, hw0⟩; replace hw0 := hw0.symm; subst hw0; first | rw [hP] | rw [hQ])
            | (at_builtin; refine wpList_append_row rfl _ _ rfl wb.heap.size _ _ (oppI c k) [negB k] rfl rfl (OwnsC.below hO1 (below_alloc w1 (.cells #[.int .u32 0, .int .u32 ((bitF k).val : Int)] 25))) (row_neg _ _) (by simp; omega) (Nat.le_trans hny1.size (by simp)) ?_; intro v4 w4 hO4 hg4 hv4; have hB4 := (chain hny1 (below_alloc w1 (.cells #[.int .u32 0, .int .u32 ((bitF k).val : Int)] 25))).trans (own_grown (OwnsC.below hO1 (below_alloc w1 (.cells #[.int .u32 0, .int .u32 ((bitF k).val : Int)] 25))) hg4 (Nat.le_trans hny1.size (by simp))); have hA4 := HA.out.below hB4; have y0 := hA4.1; have y1 := hA4.2.1))
          go_roundw
          case rel => exact ⟨k + 1, by omega, by go_num, by rw [HJ.out]; simpa using hO4, hB4⟩
          case measure => simp [intOf]; omega
        · rw [hp] at hP HJ
          rw [hq] at hQ HJ
          go_wp2_with (first
            | (go_at_call 31; refine (refHas_any _ _ _ (by assumption)).mono ?_; rintro e w0 ⟨rfl, hw0⟩; replace hw0 := hw0.symm; subst hw0; first | rw [hP] | rw [hQ])
            | (at_builtin; refine wpList_append_row rfl _ _ rfl wb.heap.size _ _ (oppI c k) [negB k] rfl rfl (OwnsC.below hO1 (below_alloc w1 (.cells #[.int .u32 0, .int .u32 ((bitF k).val : Int)] 25))) (row_neg _ _) (by simp; omega) (Nat.le_trans hny1.size (by simp)) ?_; intro v4 w4 hO4 hg4 hv4; have hB4 := (chain hny1 (below_alloc w1 (.cells #[.int .u32 0, .int .u32 ((bitF k).val : Int)] 25))).trans (own_grown (OwnsC.below hO1 (below_alloc w1 (.cells #[.int .u32 0, .int .u32 ((bitF k).val : Int)] 25))) hg4 (Nat.le_trans hny1.size (by simp))); have hA4 := HA.out.below hB4; have y0 := hA4.1; have y1 := hA4.2.1)
            | (at_builtin; refine wpList_append_row rfl _ _ rfl wb.heap.size _ _ (oppI c k ++ [negB k]) [posB k] rfl rfl (OwnsC.below hO4 (below_alloc w4 (.cells #[.int .u32 ((bitF k).val : Int), .int .u32 0] 25))) (row_pos _ _) (by simp; omega) (Nat.le_trans hB4.size (by simp)) ?_; intro v5 w5 hO5 hg5 hv5; have hB5 := (chain hB4 (below_alloc w4 (.cells #[.int .u32 ((bitF k).val : Int), .int .u32 0] 25))).trans (own_grown (OwnsC.below hO4 (below_alloc w4 (.cells #[.int .u32 ((bitF k).val : Int), .int .u32 0] 25))) hg5 (Nat.le_trans hB4.size (by simp)))))
          go_roundw
          case rel => exact ⟨k + 1, by omega, by go_num, by rw [HJ.out]; simpa using hO5, hB5⟩
          case measure => simp [intOf]; omega
    · obtain rfl : k = 24 := by omega
      have cL := refleastC _ _ wr (OwnsC.row hO) (by omega)
      rw [HT.out] at cL
      obtain ⟨p9, q9, rfl⟩ := OwnsC.len hO
      go_wp2_with fail
      refine cL.mono ?_
      rintro e w3 ⟨v3, rfl, hO3, hB3⟩
      clear cL
      go_wp2
      go_ret
      exact ⟨_, rfl, OwnsC.mono hO3 (chain hB hny).size, chain (chain hB hny) hB3⟩

set_option maxRecDepth 100000 in
set_option maxHeartbeats 4000000 in
theorem rNot_any (l : List C) (a : Value) (w : World) (ha : CRow w a l) (hl : l.length ≤ 40000) :
    Calls Tryz.prog 63 #[a] w fun e w' => ∃ v, e = .returned (.tuple #[v, .int .i64 (notF l).2]) ∧ OwnsC w' w.heap.size v (notF l).1 ∧ Below w.heap.size w w' := by
  have c1 := rfright_any l a w ha (by omega)
  have Ha : Hid (∀ w1, Below w.heap.size w w1 → CRow w1 a l) := fun w1 h => ha.below h
  have HJ : Hid (notF l = if rightF l then notR l else ([], 2)) := rfl
  obtain ⟨pa, ca, rfl⟩ := ha.len
  clear ha
  obtain ⟨n, hn⟩ : ∃ n, n = l.length := ⟨_, rfl⟩
  have Hn : Hid (n = l.length) := hn
  rw [← hn] at hl Ha c1 ⊢
  clear hn
  cases hf : rightF l
  · rw [hf] at c1 HJ
    go_enter Tryz.func63, Tryz.ntmps63
    go_wp2_with fail
    refine c1.mono ?_
    rintro e w1 ⟨rfl, hB1⟩
    clear c1
    go_wp2
    go_ret2
    rw [HJ.out]
    exact ⟨_, rfl, World.ownsRow_nil _ _ _ _, hB1⟩
  · rw [hf] at c1 HJ
    have HJ2 : Hid (notF l = notR l) := HJ.out
    clear HJ hf
    go_enter Tryz.func63, Tryz.ntmps63
    go_wp2_with fail
    refine c1.mono ?_
    rintro e w1 ⟨rfl, hB1⟩
    clear c1
    go_wp2_with fail
    go_loopw [4, 5, 6] (fun v er i wr => ∃ k : Nat, k ≤ n ∧ i = .int .i64 k ∧ er = .int .i64 (notR (l.take k)).2 ∧ OwnsC wr w.heap.size v (notR (l.take k)).1 ∧ Below w.heap.size w wr) (fun _ _ i _ => n - (intOf i).toNat)
    case atStart => exact ⟨0, Nat.zero_le _, rfl, rfl, own_one1 w1 top0 _ hB1.size, chain hB1 (below_alloc _ _)⟩
    case round =>
      obtain ⟨k, hk, rfl, rfl, hO, hny⟩ := hrel
      have HStep : Hid (∀ c, l[k]? = some c → (notR (l.take k)).2 = 0 → notR (l.take (k + 1)) = meetR (notR (l.take k)).1 (turnF c)) := fun c h h0 => notR_take_step h h0
      have HStuck : Hid ((notR (l.take k)).2 ≠ 0 → notR l = notR (l.take k)) := fun h => (notR_stuck k h).trans ((notR_cases (l.take k)).resolve_left (fun x => h x.1)).symm
      have HRk : Hid (rightF (notR (l.take k)).1 = true) := notR_right _
      generalize hP : notR (l.take k) = P at hO HStep HStuck HRk ⊢
      have HP : Hid (notR (l.take k) = P) := hP
      clear hP
      obtain ⟨M, er⟩ := P
      dsimp only at hO HStep HStuck HRk ⊢
      by_cases hlt : k < n
      · by_cases h0 : er = 0
        · subst h0
          obtain ⟨c, hck⟩ := get_some (l := l) (k := k) (by rw [← Hn.out]; exact hlt)
          obtain ⟨g, off, rfl, hg, x0, x1⟩ := (Ha.out _ hny).at hck
          have HN : Hid (notR (l.take (k + 1)) = meetR M (turnF c)) := HStep.out c hck rfl
          have cT := turned_any c wr
          clear hck
          obtain ⟨p9, q9, rfl⟩ := OwnsC.len hO
          go_wp2_with fail
          refine cT.mono ?_
          rintro e w2 ⟨v2, rfl, hO2, hB2⟩
          clear cT
          have cM := rMeet_ok M (turnF c) _ v2 w2 ((OwnsC.row hO).below hB2) (OwnsC.row hO2) HRk.out (turn_right c)
          obtain ⟨p8, q8, rfl⟩ := OwnsC.len hO2
          go_wp2_with fail
          refine cM.mono ?_
          rintro e w3 ⟨v3, rfl, hO3, hB3⟩
          clear cM
          have hB3' := chain (chain hny hB2) hB3
          go_wp2
          go_roundw
          case rel => exact ⟨k + 1, by omega, by go_num, by rw [HN.out], by rw [HN.out]; exact OwnsC.mono hO3 (chain hny hB2).size, hB3'⟩
          case measure => simp [intOf]; omega
        · have HE : Hid (notR l = (M, er)) := HStuck.out h0
          obtain ⟨p9, q9, rfl⟩ := OwnsC.len hO
          go_wp2
          go_ret2
          rw [HJ2.out, HE.out]
          exact ⟨_, rfl, hO, hny⟩
      · obtain rfl : k = n := by omega
        have HE : Hid (notR l = (M, er)) := by
          have h := HP.out
          rwa [List.take_of_length_le (by rw [← Hn.out]; exact Nat.le_refl _)] at h
        obtain ⟨p9, q9, rfl⟩ := OwnsC.len hO
        go_wp2
        go_ret2
        rw [HJ2.out, HE.out]
        exact ⟨_, rfl, hO, hny⟩
end Go.Proofs.YtdikaomebbpmhaaGreat
