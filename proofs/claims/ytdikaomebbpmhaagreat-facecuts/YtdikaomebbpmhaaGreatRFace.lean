/- The document's answers of the layer face: Right, calm, Of, OfZero, Join, Meet, Under, Entails, Single, Holds: rows in new memory; nothing that lay before the call turns. -/
import Derived.Test.YtdikaomebbpmhaaGreatRTurn
import Derived.Test.YtdikaomebbpmhaaGreatAMath
namespace Go.Proofs.YtdikaomebbpmhaaGreat
open Go.RowKit Go.Sort
set_option linter.unusedVariables false
set_option linter.unusedSimpArgs false

theorem all_step {l : List C} {k : Nat} {c : C} (p : C → Bool) (h : l[k]? = some c) : (l.take (k + 1)).all p = ((l.take k).all p && p c) := by
  have e : l.take (k + 1) = l.take k ++ [c] := by rw [List.take_add_one, h]; rfl
  rw [e, List.all_append]; simp
theorem all_no {l : List C} {k : Nat} {c : C} {p : C → Bool} (h : l[k]? = some c) (hp : p c = false) : l.all p = false := by
  cases e : l.all p
  · rfl
  · rw [List.all_eq_true.1 e c (List.mem_of_getElem? h)] at hp; exact absurd hp (by simp)
theorem any_step {l : List C} {k : Nat} {c : C} (p : C → Bool) (h : l[k]? = some c) : (l.take (k + 1)).any p = ((l.take k).any p || p c) := by
  have e : l.take (k + 1) = l.take k ++ [c] := by rw [List.take_add_one, h]; rfl
  rw [e, List.any_append]; simp
theorem any_yes {l : List C} {k : Nat} {c : C} {p : C → Bool} (h : l[k]? = some c) (hp : p c = true) : l.any p = true := List.any_eq_true.2 ⟨c, List.mem_of_getElem? h, hp⟩
theorem filt_stepR {l : List C} {k : Nat} {c : C} (p : C → Bool) (h : l[k]? = some c) : (l.take (k + 1)).filter p = (l.take k).filter p ++ if p c then [c] else [] := by
  have e : l.take (k + 1) = l.take k ++ [c] := by rw [List.take_add_one, h]; rfl
  rw [e, List.filter_append]
  cases hp : p c <;> simp [hp]
theorem filt_lenR (l : List C) (p : C → Bool) (k : Nat) : ((l.take k).filter p).length ≤ l.length := Nat.le_trans (List.length_filter_le _ _) (by rw [List.length_take]; omega)

set_option maxRecDepth 100000 in
set_option maxHeartbeats 2000000 in
theorem raright_any (l : List C) (v : Value) (w : World) (hv : CRow w v l) (hl : l.length ≤ 100000) :
    Calls Tryz.prog 22 #[v] w fun e w' => e = .returned (.bool (rightA l)) ∧ Below w.heap.size w w' := by
  have c1 := rfright_any l v w hv hl
  have HR : Hid (rightA l = (rightF l && l.all okC)) := rfl
  have Ha : Hid (∀ W, Below w.heap.size w W → CRow W v l) := fun W h => hv.below h
  obtain ⟨pa, ca, rfl⟩ := hv.len
  clear hv
  obtain ⟨n, hn⟩ : ∃ n, n = l.length := ⟨_, rfl⟩
  have Hn : Hid (n = l.length) := hn
  rw [← hn] at hl Ha c1 ⊢
  clear hn
  cases hf : rightF l
  · rw [hf] at c1 HR
    go_enter Tryz.func22, Tryz.ntmps22
    go_wp2_with fail
    refine c1.mono ?_
    rintro e w1 ⟨rfl, hB1⟩
    clear c1
    go_wp2
    go_ret
    exact ⟨ret_bool HR.out.symm, hB1⟩
  · rw [hf] at c1 HR
    go_enter Tryz.func22, Tryz.ntmps22
    go_wp2_with fail
    refine c1.mono ?_
    rintro e w1 ⟨rfl, hB1⟩
    clear c1
    go_wp2
    go_loopw [3] (fun i wr => ∃ k : Nat, k ≤ n ∧ i = .int .i64 k ∧ Hid ((l.take k).all okC = true) ∧ Below w.heap.size w wr) (fun i _ => n - (intOf i).toNat)
    case atStart => exact ⟨0, Nat.zero_le _, rfl, rfl, hB1⟩
    case round =>
      obtain ⟨k, hk, rfl, HN, hny⟩ := hrel
      by_cases hlt : k < n
      · obtain ⟨c, hck⟩ := get_some (l := l) (k := k) (by rw [← Hn.out]; exact hlt)
        obtain ⟨g, off, rfl, hg, x0, x1⟩ := (Ha.out _ hny).at hck
        have HC : Hid (l[k]? = some c) := hck
        clear hck
        cases hcl : clashC c
        · have HT : Hid ((l.take (k + 1)).all okC = true) := by
            show _ = _
            rw [all_step okC HC.out, HN.out]; simp [okC, hcl]
          go_wp2_with (go_at_call 24; refine (refclash_any c _).mono ?_; rintro e w2 ⟨rfl, hB2⟩; rw [hcl])
          go_roundw
          case rel => exact ⟨k + 1, by omega, by go_num, HT, chain hny hB2⟩
          case measure => simp [intOf]; omega
        · have HT : Hid (rightA l = false) := by
            show _ = _
            rw [HR.out, all_no HC.out (by simp [okC, hcl])]; rfl
          go_wp2_with (go_at_call 24; refine (refclash_any c _).mono ?_; rintro e w2 ⟨rfl, hB2⟩; rw [hcl])
          go_ret
          exact ⟨ret_bool HT.out.symm, chain hny hB2⟩
      · obtain rfl : k = n := by omega
        have HT : Hid (rightA l = true) := by
          have h := HN.out
          rw [List.take_of_length_le (by rw [← Hn.out]; exact Nat.le_refl _)] at h
          show _ = _
          rw [HR.out, h]; rfl
        go_wp2
        go_ret
        exact ⟨ret_bool HT.out.symm, hny⟩

set_option maxRecDepth 100000 in
set_option maxHeartbeats 2000000 in
theorem rcalm_any (l : List C) (v : Value) (w : World) (hv : CRow w v l) (hl : l.length ≤ 100000) :
    Calls Tryz.prog 62 #[v] w fun e w' => ∃ v', e = .returned (.tuple #[v', .int .i64 (leastF (calmC l)).2]) ∧ OwnsC w' w.heap.size v' (leastF (calmC l)).1 ∧ Below w.heap.size w w' := by
  have Ha : Hid (∀ W, Below w.heap.size w W → CRow W v l) := fun W h => hv.below h
  have hfl := fun k => filt_lenR l okC k
  have hcl : (calmC l).length ≤ 100000 := Nat.le_trans (calm_len _) hl
  have HK : Hid (l.filter okC = calmC l) := rfl
  obtain ⟨pa, ca, rfl⟩ := hv.len
  clear hv
  obtain ⟨n, hn⟩ : ∃ n, n = l.length := ⟨_, rfl⟩
  have Hn : Hid (n = l.length) := hn
  rw [← hn] at hl Ha hfl ⊢
  clear hn
  go_enter Tryz.func62, Tryz.ntmps62
  go_wp2
  go_loopw [4, 5] (fun v i wr => ∃ k : Nat, k ≤ n ∧ i = .int .i64 k ∧ OwnsC wr w.heap.size v ((l.take k).filter okC) ∧ Below w.heap.size w wr) (fun _ i _ => n - (intOf i).toNat)
  case atStart => exact ⟨0, Nat.zero_le _, rfl, World.ownsRow_nil _ _ _ _, Below.refl _ _⟩
  case round =>
    obtain ⟨k, hk, rfl, hO, hny⟩ := hrel
    by_cases hlt : k < n
    · obtain ⟨c, hck⟩ := get_some (l := l) (k := k) (by rw [← Hn.out]; exact hlt)
      obtain ⟨g, off, rfl, hg, x0, x1⟩ := (Ha.out _ hny).at hck
      have HS : Hid ((l.take (k + 1)).filter okC = (l.take k).filter okC ++ if okC c then [c] else []) := filt_stepR okC hck
      have hlen : Hid (((l.take k).filter okC).length + [c].length ≤ 200000) := by
        have := hfl k
        show ((l.take k).filter okC).length + 1 ≤ 200000
        omega
      have HC : Hid (l[k]? = some c) := hck
      clear hck
      have cC := refclash_any c wr
      cases hcl : clashC c
      · have HS2 : Hid ((l.take (k + 1)).filter okC = (l.take k).filter okC ++ [c]) := by
          show _ = _
          rw [HS.out]; simp [okC, hcl]
        rw [hcl] at cC
        clear HS
        go_wp2_with fail
        refine cC.mono ?_
        rintro e w2 ⟨rfl, hB2⟩
        clear cC
        have hny2 := chain hny hB2
        have hO2 := OwnsC.below hO hB2
        obtain ⟨g', off', e', hg', y0, y1⟩ := (Ha.out _ hny2).at HC.out
        injection e' with e'
        injection e' with e1 e2
        subst e1 e2
        go_wp2_with (at_builtin; refine wpList_append_row rfl _ _ rfl w.heap.size _ _ _ [c] rfl rfl (OwnsC.below hO2 (below_alloc _ _)) (row_one _ _) hlen.out (by have := hny2.size; simp at *; omega) ?_; intro v4 w4 hO4 hg4 hv4)
        have hX2 := chain hny2 (below_alloc w2 (.cells #[.int .u32 (c.1.val : Int), .int .u32 (c.2.val : Int)] 25))
        have hOX2 := OwnsC.below hO2 (below_alloc w2 (.cells #[.int .u32 (c.1.val : Int), .int .u32 (c.2.val : Int)] 25))
        go_roundw
        case rel => exact ⟨k + 1, by omega, by go_num, by rw [HS2.out]; exact hO4, hX2.trans (own_grown hOX2 hg4 hX2.size)⟩
        case measure => simp [intOf]; omega
      · have HS2 : Hid ((l.take (k + 1)).filter okC = (l.take k).filter okC) := by
          show _ = _
          rw [HS.out]; simp [okC, hcl]
        rw [hcl] at cC
        clear HS
        go_wp2_with fail
        refine cC.mono ?_
        rintro e w2 ⟨rfl, hB2⟩
        clear cC
        go_wp2
        go_roundw
        case rel => exact ⟨k + 1, by omega, by go_num, by rw [HS2.out]; exact OwnsC.below hO hB2, chain hny hB2⟩
        case measure => simp [intOf]; omega
    · obtain rfl : k = n := by omega
      have e : l.take k = l := List.take_of_length_le (by rw [← Hn.out]; exact Nat.le_refl _)
      rw [e, HK.out] at hO
      have cL := refleastC (calmC l) _ wr (OwnsC.row hO) hcl
      obtain ⟨p8, q8, rfl⟩ := OwnsC.len hO
      go_wp2_with fail
      refine cL.mono ?_
      rintro e w3 ⟨v3, rfl, hO3, hB3⟩
      clear cL
      go_wp2
      go_ret2
      exact ⟨_, rfl, OwnsC.mono hO3 hny.size, chain hny hB3⟩

set_option maxHeartbeats 1000000 in
theorem rOf_any (l : List C) (v : Value) (w : World) (hv : CRow w v l) (hl : l.length ≤ 40000) :
    Calls Tryz.prog 39 #[v] w fun e w' => ∃ v', e = .returned (.tuple #[v', .int .i64 (ofF l).2]) ∧ OwnsC w' w.heap.size v' (ofF l).1 ∧ Below w.heap.size w w' := by
  have c1 := rfright_any l v w hv (by omega)
  have c2 := fun w1 (h : Below w.heap.size w w1) => rcalm_any l v w1 (hv.below h) (by omega)
  have HM : Hid (ofF l = if rightF l then leastF (calmC l) else ([], 2)) := rfl
  obtain ⟨pa, ca, rfl⟩ := hv.len
  clear hv
  generalize l.length = n at *
  cases hf : rightF l
  · rw [hf] at c1 HM
    go_enter Tryz.func39, Tryz.ntmps39
    go_wp2_with fail
    refine c1.mono ?_
    rintro e w1 ⟨rfl, hB1⟩
    clear c1
    go_wp2
    go_ret2
    rw [HM.out]
    exact ⟨_, rfl, World.ownsRow_nil _ _ _ _, hB1⟩
  · rw [hf] at c1 HM
    go_enter Tryz.func39, Tryz.ntmps39
    go_wp2_with fail
    refine c1.mono ?_
    rintro e w1 ⟨rfl, hB1⟩
    clear c1
    replace c2 := c2 w1 hB1
    go_wp2_with fail
    refine c2.mono ?_
    rintro e w2 ⟨v2, rfl, hO2, hB2⟩
    clear c2
    go_wp2
    go_ret2
    rw [HM.out]
    exact ⟨_, rfl, OwnsC.mono hO2 hB1.size, chain hB1 hB2⟩
set_option maxHeartbeats 1000000 in
theorem rOfZero_any (l : List C) (v : Value) (w : World) (hv : CRow w v l) (hl : l.length ≤ 40000) :
    Calls Tryz.prog 40 #[v] w fun e w' => ∃ v', e = .returned (.tuple #[v', .int .i64 (ofZ l).2]) ∧ OwnsC w' w.heap.size v' (ofZ l).1 ∧ Below w.heap.size w w' := by
  have c1 := rNot_any l v w hv hl
  have hLen := notF_len l
  have HY : Hid (ofZ l = if (notF l).2 = 0 then leastF (calmC (notF l).1) else ([], (notF l).2)) := rfl
  obtain ⟨pa, ca, rfl⟩ := hv.len
  clear hv
  generalize notF l = P at c1 hLen HY
  obtain ⟨M, er⟩ := P
  dsimp only at c1 hLen HY
  generalize l.length = n at *
  by_cases h0 : er = 0
  · subst h0
    have HE : Hid (ofZ l = leastF (calmC M)) := HY.out
    clear HY
    go_enter Tryz.func40, Tryz.ntmps40
    go_wp2_with fail
    refine c1.mono ?_
    rintro e w1 ⟨v1, rfl, hO1, hB1⟩
    clear c1
    have c2 := rcalm_any M v1 w1 (OwnsC.row hO1) (by omega)
    obtain ⟨p8, q8, rfl⟩ := OwnsC.len hO1
    go_wp2_with fail
    refine c2.mono ?_
    rintro e w2 ⟨v2, rfl, hO2, hB2⟩
    clear c2
    go_wp2
    go_ret2
    rw [HE.out]
    exact ⟨_, rfl, OwnsC.mono hO2 hB1.size, chain hB1 hB2⟩
  · have HE : Hid (ofZ l = ([], er)) := HY.out.trans (if_neg h0)
    clear HY
    have h1 : (er == 0) = false := by simpa using h0
    go_enter Tryz.func40, Tryz.ntmps40
    go_wp2_with fail
    refine c1.mono ?_
    rintro e w1 ⟨v1, rfl, hO1, hB1⟩
    clear c1
    obtain ⟨p8, q8, rfl⟩ := OwnsC.len hO1
    go_wp2
    go_ret2
    rw [HE.out]
    exact ⟨_, rfl, World.ownsRow_nil _ _ _ _, hB1⟩
set_option maxHeartbeats 2000000 in
theorem rAJoin_any (l m : List C) (a b : Value) (w : World) (ha : CRow w a l) (hb : CRow w b m) (hl : l.length ≤ 40000) (hm : m.length ≤ 40000) :
    Calls Tryz.prog 42 #[a, b] w fun e w' => ∃ v, e = .returned (.tuple #[v, .int .i64 (jnA l m).2]) ∧ OwnsC w' w.heap.size v (jnA l m).1 ∧ Below w.heap.size w w' := by
  have c1 := raright_any l a w ha (by omega)
  have c2 := fun w1 (h : Below w.heap.size w w1) => raright_any m b w1 (hb.below h) (by omega)
  have Ha : Hid (∀ w1, Below w.heap.size w w1 → CRow w1 a l) := fun w1 h => ha.below h
  have Hb : Hid (∀ w1, Below w.heap.size w w1 → CRow w1 b m) := fun w1 h => hb.below h
  have Hl : Hid (l.length ≤ 40000) := hl
  have Hm : Hid (m.length ≤ 40000) := hm
  obtain ⟨pa, ca, rfl⟩ := ha.len
  obtain ⟨pb, cb, rfl⟩ := hb.len
  have HJ : Hid (jnA l m = if rightA l && rightA m then leastF (l ++ m) else ([], 2)) := rfl
  clear ha hb hl hm
  generalize l.length = n1 at c1 Ha ⊢
  generalize m.length = n2 at c2 Hb ⊢
  cases hf : rightA l
  · rw [hf] at c1 HJ
    go_enter Tryz.func42, Tryz.ntmps42
    go_wp2_with fail
    refine c1.mono ?_
    rintro e w1 ⟨rfl, hB1⟩
    clear c1
    go_wp2
    go_ret2
    rw [HJ.out]
    exact ⟨_, rfl, World.ownsRow_nil _ _ _ _, hB1⟩
  · cases hg : rightA m
    · rw [hf] at c1 HJ
      rw [hg] at HJ
      simp only [hg] at c2
      go_enter Tryz.func42, Tryz.ntmps42
      go_wp2_with fail
      refine c1.mono ?_
      rintro e w1 ⟨rfl, hB1⟩
      clear c1
      replace c2 := c2 w1 hB1
      go_wp2_with fail
      refine c2.mono ?_
      rintro e w2 ⟨rfl, hB2⟩
      clear c2
      go_wp2
      go_ret2
      rw [HJ.out]
      exact ⟨_, rfl, World.ownsRow_nil _ _ _ _, chain hB1 hB2⟩
    · rw [hf] at c1 HJ
      rw [hg] at HJ
      simp only [hg] at c2
      go_enter Tryz.func42, Tryz.ntmps42
      go_wp2_with fail
      refine c1.mono ?_
      rintro e w1 ⟨rfl, hB1⟩
      clear c1
      replace c2 := c2 w1 hB1
      go_wp2_with fail
      refine c2.mono ?_
      rintro e w2 ⟨rfl, hB2⟩
      clear c2
      have hB := chain hB1 hB2
      have hE : OwnsC (w2.alloc (.cells #[] 25)) w.heap.size (.slice (some ⟨w2.heap.size, 0, none⟩) 0 0) [] := empty_row w2 _ hB.size
      have hB3 := chain hB (below_alloc w2 (.cells #[] 25))
      go_wp2_with (first
        | (at_builtin; refine wpList_append_row rfl _ _ rfl w.heap.size _ _ [] l rfl rfl hE (Ha.out _ hB3) (by have := Hl.out; simp; omega) hB3.size ?_; intro v4 w4 hO4 hg4 hv4; have hB4 := hB3.trans (own_grown hE hg4 hB3.size))
        | (at_builtin; refine wpList_append_row rfl _ _ rfl w.heap.size _ _ _ m rfl rfl hO4 (Hb.out _ hB4) (by have := Hl.out; have := Hm.out; simp; omega) hB4.size ?_; intro v5 w5 hO5 hg5 hv5; have hB5 := hB4.trans (own_grown hO4 hg5 hB4.size))
        | (go_at_call 62; refine (rcalm_any _ _ _ (OwnsC.row hO5) (by have := Hl.out; have := Hm.out; simp; omega)).mono ?_; rintro e w6 ⟨v6, rfl, hO6, hB6⟩))
      go_ret2
      rw [HJ.out]
      rw [List.nil_append, calm_same (app_ok (rightA_ok hf) (rightA_ok hg))] at *
      exact ⟨_, rfl, OwnsC.mono hO6 hB5.size, chain hB5 hB6⟩
set_option maxRecDepth 100000 in
set_option maxHeartbeats 4000000 in
theorem rAMeet_ok (l m : List C) (a b : Value) (w : World) (ha : CRow w a l) (hb : CRow w b m) (hf : rightA l = true) (hg : rightA m = true) :
    Calls Tryz.prog 41 #[a, b] w fun e w' => ∃ v, e = .returned (.tuple #[v, .int .i64 (mtR l m).2]) ∧ OwnsC w' w.heap.size v (mtR l m).1 ∧ Below w.heap.size w w' := by
  have hl : l.length ≤ 64 := rightA_len hf
  have hm : m.length ≤ 64 := rightA_len hg
  have c1 := raright_any l a w ha (by omega)
  have c2 := fun w1 (h : Below w.heap.size w w1) => raright_any m b w1 (hb.below h) (by omega)
  rw [hf] at c1
  simp only [hg] at c2
  have hpl := fun k => pairs_take_le l m k (by omega) (by omega)
  have HRl : Hid (∀ c ∈ l, rightC c = true) := List.all_eq_true.1 (rightF_all (rightA_right hf))
  have HRm : Hid (∀ c ∈ m, rightC c = true) := List.all_eq_true.1 (rightF_all (rightA_right hg))
  have Ha : Hid (∀ w1, Below w.heap.size w w1 → CRow w1 a l) := fun w1 h => ha.below h
  have Hb : Hid (∀ w1, Below w.heap.size w w1 → CRow w1 b m) := fun w1 h => hb.below h
  have HCa : Hid (∀ (k : Nat) c, l[k]? = some c → ∃ g off n cap, a = .slice (some ⟨g, off, none⟩) n cap ∧ g < w.heap.size) := fun k c hk => by
    obtain ⟨g, off, cap, e, h1, _⟩ := ha.cons (by rintro rfl; simp at hk)
    exact ⟨g, off, _, cap, e, h1⟩
  have HCb : Hid (∀ (k : Nat) c, m[k]? = some c → ∃ g off n cap, b = .slice (some ⟨g, off, none⟩) n cap ∧ g < w.heap.size) := fun k c hk => by
    obtain ⟨g, off, cap, e, h1, _⟩ := hb.cons (by rintro rfl; simp at hk)
    exact ⟨g, off, _, cap, e, h1⟩
  obtain ⟨pa, ca, rfl⟩ := ha.len
  obtain ⟨pb, cb, rfl⟩ := hb.len
  clear ha hb hf hg
  obtain ⟨n1, hn1⟩ : ∃ n1, n1 = l.length := ⟨_, rfl⟩
  obtain ⟨n2, hn2⟩ : ∃ n2, n2 = m.length := ⟨_, rfl⟩
  have Hn1 : Hid (n1 = l.length) := hn1
  have Hn2 : Hid (n2 = m.length) := hn2
  rw [← hn1] at hl Ha HCa c1 ⊢
  rw [← hn2] at hm Hb HCb c2 ⊢
  clear hn1 hn2
  go_enter Tryz.func41, Tryz.ntmps41
  go_wp2_with fail
  refine c1.mono ?_
  rintro e w1 ⟨rfl, hB1⟩
  clear c1
  replace c2 := c2 w1 hB1
  go_wp2_with fail
  refine c2.mono ?_
  rintro e w2 ⟨rfl, hB2⟩
  clear c2
  have hB := chain hB1 hB2
  go_wp2
  go_loopw [6, 7] (fun v i wr => ∃ k : Nat, k ≤ n1 ∧ i = .int .i64 k ∧ OwnsC wr w.heap.size v (pairsC (l.take k) m) ∧ Below w.heap.size w wr) (fun _ i _ => n1 - (intOf i).toNat)
  case atStart => exact ⟨0, Nat.zero_le _, rfl, World.ownsRow_nil _ _ _ _, hB⟩
  case round =>
    obtain ⟨k, hk, rfl, hO, hny⟩ := hrel
    by_cases hlt : k < n1
    · obtain ⟨c, hck⟩ := get_some (l := l) (k := k) (by rw [← Hn1.out]; exact hlt)
      have HC : Hid (l[k]? = some c) := hck
      have hrc : rightC c = true := HRl.out c (List.mem_of_getElem? hck)
      clear hck
      go_wp2
      go_loopw [6, 8] (fun v i wr2 => ∃ j : Nat, j ≤ n2 ∧ i = .int .i64 j ∧ OwnsC wr2 w.heap.size v (pairsC (l.take k) m ++ (m.take j).map (meetC c)) ∧ Below w.heap.size w wr2) (fun _ i _ => n2 - (intOf i).toNat)
      case atStart => exact ⟨0, Nat.zero_le _, rfl, by simp only [List.take_zero, List.map_nil, List.append_nil]; exact hO, hny⟩
      case round =>
        obtain ⟨j, hj, rfl, hO2, hny2⟩ := hrel
        by_cases hlt2 : j < n2
        · obtain ⟨d, hdj⟩ := get_some (l := m) (k := j) (by rw [← Hn2.out]; exact hlt2)
          have hrd : rightC d = true := HRm.out d (List.mem_of_getElem? hdj)
          obtain ⟨g, off, rfl, hg0, x0, x1⟩ := (Ha.out _ hny2).at HC.out
          obtain ⟨g2, off2, rfl, hg20, y0, y1⟩ := (Hb.out _ hny2).at hdj
          have hg : g < w.heap.size := by
            obtain ⟨g', off', n', cap', e, h⟩ := HCa.out k c HC.out
            injection e with e1; injection e1 with e1; injection e1 with e1; rw [e1]; exact h
          have hg2 : g2 < w.heap.size := by
            obtain ⟨g', off', n', cap', e, h⟩ := HCb.out j d hdj
            injection e with e1; injection e1 with e1; injection e1 with e1; rw [e1]; exact h
          have HD : Hid (m[j]? = some d) := hdj
          have hlen : Hid ((pairsC (l.take k) m ++ (m.take j).map (meetC c)).length + [meetC c d].length ≤ 200000) := by
            have h1 := hpl k
            have h2 := List.length_take_le j m
            show (pairsC (l.take k) m ++ (m.take j).map (meetC c)).length + 1 ≤ 200000
            rw [List.length_append, List.length_map]
            omega
          clear hdj hg0 hg20
          have hO0 : OwnsC wr.drew w.heap.size _ (pairsC (l.take k) m ++ (m.take j).map (meetC c)) := hO2
          have hny0 : w.heap.size ≤ wr.drew.heap.size := hny2.size
          go_wp2
          go_region_held3 (fun w' => w'.cell? ⟨g, off + k * 2, none⟩ = some (.int .u32 (c.1.val : Int)) ∧ w'.cell? ⟨g, off + k * 2 + 1, none⟩ = some (.int .u32 (c.2.val : Int)) ∧ w'.cell? ⟨g2, off2 + j * 2, none⟩ = some (.int .u32 (d.1.val : Int)) ∧ w'.cell? ⟨g2, off2 + j * 2 + 1, none⟩ = some (.int .u32 (d.2.val : Int))) (first | (exact rm_next hBk hg hg2 (by assumption)) | go_keep)
            (first
              | (go_at_call 25; refine (refmeet_any _ _ _ (by assumption) (by assumption)).mono ?_; rintro e w5 ⟨rfl, hB5⟩; have hBk := hB5.mono hny0; have hO5 := OwnsC.below hO0 hB5)
              | (refine step_append_row rfl (.tmp 29) (.tmp 39) rfl w.heap.size _ _ _ [meetC c d] rfl rfl (OwnsC.below hO5 (below_alloc _ _)) (row_one _ _) hlen.out (Nat.le_trans hny0 (Nat.le_trans hB5.size (by simp))) ?_; intro v6 w6 hO6 hg6 hv6; have hBk := own_grown (OwnsC.below hO5 (below_alloc w5 (.cells #[.int .u32 ((meetC c d).1.val : Int), .int .u32 ((meetC c d).2.val : Int)] 25))) hg6 (Nat.le_trans hny0 (Nat.le_trans hB5.size (by simp)))))
          have hB6 : Below w.heap.size w w6 := by
            have h1 : Below w.heap.size w w5 := hny2.trans ((below_drewN (Below.refl _ wr) 1).trans (hB5.mono hny0))
            exact (h1.alloc h1.size _).trans hBk
          go_wp2
          go_roundw
          case rel => exact ⟨j + 1, by omega, by go_num, by rw [map_take_step HD.out, ← List.append_assoc]; exact hO6, hB6⟩
          case measure => simp [intOf]; omega
        · obtain rfl : j = n2 := by omega
          have e2 : m.take j = m := List.take_of_length_le (by rw [← Hn2.out]; exact Nat.le_refl _)
          rw [e2, ← pairs_take_step HC.out] at hO2
          go_wp2
          go_roundw
          case rel => exact ⟨k + 1, by omega, by go_num, hO2, hny2⟩
          case measure => simp [intOf]; omega
    · obtain rfl : k = n1 := by omega
      have e : l.take k = l := List.take_of_length_le (by rw [← Hn1.out]; exact Nat.le_refl _)
      rw [e] at hO
      have hrl : (pairsC l m).length ≤ 100000 := by have := hpl k; rw [e] at this; omega
      have cL := rcalm_any _ _ wr (OwnsC.row hO) hrl
      obtain ⟨p9, q9, rfl⟩ := OwnsC.len hO
      go_wp2_with fail
      refine cL.mono ?_
      rintro e w3 ⟨v3, rfl, hO3, hB3⟩
      clear cL
      go_wp2
      go_ret2
      exact ⟨_, rfl, OwnsC.mono hO3 hny.size, chain hny hB3⟩
set_option maxHeartbeats 1000000 in
theorem rAMeet_any (l m : List C) (a b : Value) (w : World) (ha : CRow w a l) (hb : CRow w b m) (hl : l.length ≤ 40000) (hm : m.length ≤ 40000) :
    Calls Tryz.prog 41 #[a, b] w fun e w' => ∃ v, e = .returned (.tuple #[v, .int .i64 (mtA l m).2]) ∧ OwnsC w' w.heap.size v (mtA l m).1 ∧ Below w.heap.size w w' := by
  cases hf : rightA l
  · have HJ : Hid (mtA l m = ([], 2)) := by unfold mtA; rw [hf]; rfl
    have c1 := raright_any l a w ha (by omega)
    rw [hf] at c1
    obtain ⟨pa, ca, rfl⟩ := ha.len
    obtain ⟨pb, cb, rfl⟩ := hb.len
    clear ha hb
    go_enter Tryz.func41, Tryz.ntmps41
    go_wp2_with fail
    refine c1.mono ?_
    rintro e w1 ⟨rfl, hB1⟩
    clear c1
    go_wp2
    go_ret2
    rw [HJ.out]
    exact ⟨_, rfl, World.ownsRow_nil _ _ _ _, hB1⟩
  · cases hg : rightA m
    · have HJ : Hid (mtA l m = ([], 2)) := by unfold mtA; rw [hf, hg]; rfl
      have c1 := raright_any l a w ha (by omega)
      have c2 := fun w1 (h : Below w.heap.size w w1) => raright_any m b w1 (hb.below h) (by omega)
      rw [hf] at c1
      simp only [hg] at c2
      obtain ⟨pa, ca, rfl⟩ := ha.len
      obtain ⟨pb, cb, rfl⟩ := hb.len
      clear ha hb
      go_enter Tryz.func41, Tryz.ntmps41
      go_wp2_with fail
      refine c1.mono ?_
      rintro e w1 ⟨rfl, hB1⟩
      clear c1
      replace c2 := c2 w1 hB1
      go_wp2_with fail
      refine c2.mono ?_
      rintro e w2 ⟨rfl, hB2⟩
      clear c2
      go_wp2
      go_ret2
      rw [HJ.out]
      exact ⟨_, rfl, World.ownsRow_nil _ _ _ _, chain hB1 hB2⟩
    · rw [mtA_ok hf hg]
      exact rAMeet_ok l m a b w ha hb hf hg

/-! ### Under, Entails, Single, Holds -/
set_option maxHeartbeats 1000000 in
theorem single_any (c : C) (w : World) : Calls Tryz.prog 23 #[clV c] w fun e w' => e = .returned (.bool (singleC c)) ∧ Below w.heap.size w w' := by
  have hB0 := below_alloc w (.cells #[.int .u32 (c.1.val : Int), .int .u32 (c.2.val : Int)] 25)
  have hA := At.made w c 25
  have HS : Hid (singleC c = (rightC c && !clashC c)) := rfl
  cases hr : rightC c
  · rw [hr] at HS
    go_enter Tryz.func23, Tryz.ntmps23
    go_wp2_with (go_at_call 48; refine (refcright_any c _).mono ?_; rintro e w' ⟨rfl, hG⟩; rw [hr])
    go_ret
    exact ⟨ret_bool HS.out.symm, chain hB0 hG.below⟩
  · rw [hr] at HS
    go_enter Tryz.func23, Tryz.ntmps23
    go_wp2_with fail
    refine (refcright_any c _).mono ?_
    rintro e w1 ⟨rfl, hG⟩
    rw [hr]
    replace hB0 := chain hB0 hG.below
    obtain ⟨z0, z1, z2⟩ := hA.below hG.below
    clear hA
    go_wp2_with (go_at_call 24; refine (refclash_any c _).mono ?_; rintro e w2 ⟨rfl, hB2⟩)
    go_ret
    exact ⟨ret_bool HS.out.symm, chain hB0 hB2⟩
theorem ent_yes {l m : List C} (h : l.all (undB m) = true) : entB l m = true := h
end Go.Proofs.YtdikaomebbpmhaaGreat
