/- The document's answer: Clash, union, Meet: what they hand back; nothing that lay before the call turns. -/
import Derived.Test.YtdikaomebbpmhaaGreatRefB
import Derived.Test.YtdikaomebbpmhaaGreatCBox
namespace Go.Proofs.YtdikaomebbpmhaaGreat
open Go.RowKit Go.Sort
set_option linter.unusedVariables false
set_option linter.unusedSimpArgs false

theorem clashC_iff {c : C} : clashC c = true ↔ ∃ k, k < 24 ∧ c.1.val.testBit k = true ∧ c.2.val.testBit k = true := by
  unfold clashC
  rw [decide_eq_true_eq]
  constructor
  · intro h
    obtain ⟨k, hk⟩ := Nat.exists_testBit_of_ne_zero h
    rw [testBit_low, Nat.testBit_and] at hk
    simp only [Bool.and_eq_true, decide_eq_true_eq] at hk
    exact ⟨k, hk.1, hk.2.1, hk.2.2⟩
  · rintro ⟨k, hk, h1, h2⟩ h
    have : (c.1.val &&& c.2.val &&& 16777215).testBit k = false := by rw [h]; simp
    rw [testBit_low, Nat.testBit_and, h1, h2] at this
    simp [hk] at this

set_option maxHeartbeats 1000000 in
theorem refclash_any (c : C) (w : World) :
    Calls Tryz.prog 24 #[clV c] w fun e w' => e = .returned (.bool (clashC c)) ∧ Below w.heap.size w w' := by
  have hb1 := c.1.isLt
  have hb2 := c.2.isLt
  go_enter Tryz.func24, Tryz.ntmps24
  go_wp2
  go_loop [3] (fun i => ∃ k : Nat, k ≤ 24 ∧ i = .int .i64 k ∧ ∀ j, j < k → c.1.val.testBit j = true → c.2.val.testBit j = false) (fun i => 24 - (intOf i).toNat)
  case atStart => exact ⟨0, by omega, rfl, fun j hj => absurd hj (by omega)⟩
  case round =>
    obtain ⟨k, hk, rfl, hno⟩ := hrel
    have HN : Hid (∀ j, j < k → c.1.val.testBit j = true → c.2.val.testBit j = false) := hno
    clear hno
    by_cases hlt : k < 24
    · have HX : Hid (hasB c.1.val (k : Int) = c.1.val.testBit k) := hasB_nat hlt
      have HY : Hid (hasB c.2.val (k : Int) = c.2.val.testBit k) := hasB_nat hlt
      cases hx : hasB c.1.val (k : Int)
      · go_wp2_with (go_at_call 31; refine (refHas_any _ _ _ (by assumption)).mono ?_; rintro e w' ⟨rfl, rfl⟩)
        go_round
        case rel => exact ⟨k + 1, by omega, by go_num, fun j hj h => by
          rcases Nat.lt_or_ge j k with h1 | h1
          · exact HN.out j h1 h
          · obtain rfl : j = k := by omega
            rw [← HX.out, hx] at h; cases h⟩
        case measure => simp [intOf]; omega
      · cases hy : hasB c.2.val (k : Int)
        · go_wp2_with (go_at_call 31; refine (refHas_any _ _ _ (by assumption)).mono ?_; rintro e w' ⟨rfl, rfl⟩)
          go_round
          case rel => exact ⟨k + 1, by omega, by go_num, fun j hj h => by
            rcases Nat.lt_or_ge j k with h1 | h1
            · exact HN.out j h1 h
            · obtain rfl : j = k := by omega
              rw [← HY.out, hy]⟩
          case measure => simp [intOf]; omega
        · have HC : Hid (clashC c = true) := clashC_iff.2 ⟨k, hlt, by rw [← HX.out]; exact hx, by rw [← HY.out]; exact hy⟩
          go_wp2_with (go_at_call 31; refine (refHas_any _ _ _ (by assumption)).mono ?_; rintro e w' ⟨rfl, rfl⟩)
          go_ret
          exact ⟨ret_bool HC.out.symm, below_alloc _ _⟩
    · have HC : Hid (clashC c = false) := by
        cases h : clashC c
        · rfl
        · obtain ⟨j, hj, h1, h2⟩ := clashC_iff.1 h
          have := HN.out j (by omega) h1
          rw [h2] at this; cases this
      go_wp2
      go_ret
      exact ⟨ret_bool HC.out.symm, below_alloc _ _⟩

/-! ### union -/
theorem orFrom_lt {a : Nat} (ha : a < 16777216) {l : List Nat} (h : ∀ k ∈ l, k < 24) : orFrom a l < 16777216 := by
  have : orFrom a l < 2 ^ 24 := Nat.lt_pow_two_of_testBit _ (fun i hi => by
    rw [testBit_orFrom, Nat.testBit_lt_two_pow (Nat.lt_of_lt_of_le ha (Nat.pow_le_pow_right (n := 2) (by decide) hi)), Bool.false_or]
    exact decide_eq_false (fun hm => by have := h i hm; omega))
  exact this
theorem orFrom_snoc (a : Nat) (l : List Nat) (k : Nat) : orFrom a (l ++ [k]) = orFrom a l ||| 2 ^ k := by simp [orFrom]
theorem union_end {a b : Nat} (hb : b < 16777216) : orFrom a (dimsOf b) = a ||| b := by
  apply Nat.eq_of_testBit_eq
  intro k
  rw [testBit_orFrom, Nat.testBit_or]
  congr 1
  rw [Bool.eq_iff_iff, decide_eq_true_eq, mem_dimsOf]
  exact ⟨fun h => h.2, fun h => ⟨bit_lt24 hb h, h⟩⟩
theorem withN_low {s k : Nat} (hs : s < 16777216) (hk : k < 24) : withN s (k : Int) = s ||| 2 ^ k := by
  rw [withN, isDimB_nat hk]
  simp [low_of_lt hs]

set_option maxRecDepth 100000 in
set_option maxHeartbeats 1000000 in
theorem union_any (a b : Nat) (w : World) (ha : a < 16777216) (hb : b < 16777216) :
    Calls Tryz.prog 49 #[.int .u32 a, .int .u32 b] w fun e w' => e = .returned (.int .u32 (a ||| b : Nat)) ∧ Below w.heap.size w w' := by
  have hb32 : b < 4294967296 := by omega
  obtain ⟨l, hl⟩ : ∃ l, l = dimsOf b := ⟨_, rfl⟩
  have HL : Hid (l = dimsOf b) := hl
  have hlen : l.length ≤ 24 := by rw [hl]; exact dimsOf_length_le b
  have h24 : ∀ k ∈ l, k < 24 := by rw [hl]; exact dimsOf_lt
  have cL := refList_any b w hb32
  rw [← hl] at cL
  have HE : Hid (orFrom a l = a ||| b) := by rw [hl]; exact union_end hb
  clear hl
  go_enter Tryz.func49, Tryz.ntmps49
  go_wp2_with fail
  refine cL.mono ?_
  rintro e w1 ⟨v, rfl, hO, hB1⟩
  clear cL
  have hR := hO.rowAt
  clear hO
  obtain ⟨n, hn⟩ : ∃ n, n = l.length := ⟨_, rfl⟩
  have Hn : Hid (n = l.length) := hn
  rcases hR with ⟨rfl, rfl⟩ | ⟨g, cap, rfl, hg, hc⟩
  · go_wp2
    go_loop [0, 6] (fun x i => x = .int .u32 a ∧ i = .int .i64 0) (fun _ _ => 0)
    case atStart => exact ⟨rfl, rfl⟩
    case round =>
      obtain ⟨rfl, rfl⟩ := hrel
      go_wp2
      go_ret
      exact ⟨ret_int (by rw [← HE.out]; rfl), hB1⟩
  · rw [← hn] at hc hlen ⊢
    clear hn
    go_wp2
    go_loopw [0, 6] (fun x i wr => ∃ k : Nat, k ≤ n ∧ i = .int .i64 k ∧ x = .int .u32 (orFrom a (l.take k) : Nat) ∧ Below w1.heap.size w1 wr) (fun _ i _ => n - (intOf i).toNat)
    case atStart => exact ⟨0, Nat.zero_le _, rfl, rfl, Below.refl _ _⟩
    case round =>
      obtain ⟨k, hk, rfl, rfl, hB⟩ := hrel
      have hlo : orFrom a (l.take k) < 16777216 := orFrom_lt ha (fun x hx => h24 x (List.mem_of_mem_take hx))
      have hlo32 : orFrom a (l.take k) < 4294967296 := by omega
      by_cases hlt : k < n
      · obtain ⟨j, hj⟩ := get_some (l := l) (k := k) (by rw [← Hn.out]; exact hlt)
        have x0 := (hB.cell (p := ⟨g, k, none⟩) hg).trans (hc k hlt)
        rw [hj] at x0
        simp only [Option.getD_some] at x0
        have hj24 : j < 24 := h24 j (List.mem_of_getElem? hj)
        have hS : orFrom a (l.take (k + 1)) = withN (orFrom a (l.take k)) (j : Int) := by
          have e : l.take (k + 1) = l.take k ++ [j] := by rw [List.take_add_one, hj]; rfl
          rw [e, orFrom_snoc, withN_low hlo hj24]
        have HS : Hid (orFrom a (l.take (k + 1)) = withN (orFrom a (l.take k)) (j : Int)) := hS
        clear hS
        clear hj hc
        go_wp2_with (go_at_call 71; refine (refWith_any _ _ _ (by assumption)).mono ?_; rintro e w2 ⟨rfl, hB2⟩)
        go_roundw
        case rel => exact ⟨k + 1, by omega, by go_num, by rw [HS.out], chain hB hB2⟩
        case measure => simp [intOf]; omega
      · obtain rfl : k = n := by omega
        have e : l.take k = l := List.take_of_length_le (by rw [← Hn.out]; exact Nat.le_refl _)
        rw [e] at hlo hlo32 ⊢
        go_wp2
        go_ret
        exact ⟨ret_int (by rw [HE.out]), chain hB1 hB⟩

/-! ### Meet -/
theorem ms_next {w W W' : World} {a b : C} (hb : Below W.heap.size W W') (h : W.cell? ⟨w.heap.size, 0, none⟩ = some (.int .u32 (a.1.val : Int)) ∧ W.cell? ⟨w.heap.size, 1, none⟩ = some (.int .u32 (a.2.val : Int)) ∧ W.cell? ⟨w.heap.size + 1, 0, none⟩ = some (.int .u32 (b.1.val : Int)) ∧ W.cell? ⟨w.heap.size + 1, 1, none⟩ = some (.int .u32 (b.2.val : Int))) :
    W'.cell? ⟨w.heap.size, 0, none⟩ = some (.int .u32 (a.1.val : Int)) ∧ W'.cell? ⟨w.heap.size, 1, none⟩ = some (.int .u32 (a.2.val : Int)) ∧ W'.cell? ⟨w.heap.size + 1, 0, none⟩ = some (.int .u32 (b.1.val : Int)) ∧ W'.cell? ⟨w.heap.size + 1, 1, none⟩ = some (.int .u32 (b.2.val : Int)) := by
  obtain ⟨h1, h2, h3, h4⟩ := h
  have l1 := World.block_lt_of_cell? _ _ h1
  have l3 := World.block_lt_of_cell? _ _ h3
  exact ⟨(hb.cell l1).trans h1, (hb.cell (p := ⟨w.heap.size, 1, none⟩) l1).trans h2, (hb.cell l3).trans h3, (hb.cell (p := ⟨w.heap.size + 1, 1, none⟩) l3).trans h4⟩
theorem far_cell (W : World) (p q : Addr) (x : Value) (h : p.block ≠ q.block) : (W.setCell p x).cell? q = W.cell? q := World.cell?_setCell_far W p q x h
theorem ms_store {w W : World} {a b : C} {x y : Value} (h : W.cell? ⟨w.heap.size, 0, none⟩ = some (.int .u32 (a.1.val : Int)) ∧ W.cell? ⟨w.heap.size, 1, none⟩ = some (.int .u32 (a.2.val : Int)) ∧ W.cell? ⟨w.heap.size + 1, 0, none⟩ = some (.int .u32 (b.1.val : Int)) ∧ W.cell? ⟨w.heap.size + 1, 1, none⟩ = some (.int .u32 (b.2.val : Int))) :
    ((W.setCell ⟨w.heap.size + 1 + 1, 0, none⟩ x).setCell ⟨w.heap.size + 1 + 1, 1, none⟩ y).cell? ⟨w.heap.size, 0, none⟩ = some (.int .u32 (a.1.val : Int)) ∧ ((W.setCell ⟨w.heap.size + 1 + 1, 0, none⟩ x).setCell ⟨w.heap.size + 1 + 1, 1, none⟩ y).cell? ⟨w.heap.size, 1, none⟩ = some (.int .u32 (a.2.val : Int)) ∧ ((W.setCell ⟨w.heap.size + 1 + 1, 0, none⟩ x).setCell ⟨w.heap.size + 1 + 1, 1, none⟩ y).cell? ⟨w.heap.size + 1, 0, none⟩ = some (.int .u32 (b.1.val : Int)) ∧ ((W.setCell ⟨w.heap.size + 1 + 1, 0, none⟩ x).setCell ⟨w.heap.size + 1 + 1, 1, none⟩ y).cell? ⟨w.heap.size + 1, 1, none⟩ = some (.int .u32 (b.2.val : Int)) := by
  obtain ⟨h1, h2, h3, h4⟩ := h
  exact ⟨by rw [far_cell _ _ _ _ (by simp; omega), far_cell _ _ _ _ (by simp; omega)]; exact h1, by rw [far_cell _ _ _ _ (by simp; omega), far_cell _ _ _ _ (by simp; omega)]; exact h2, by rw [far_cell _ _ _ _ (by simp), far_cell _ _ _ _ (by simp)]; exact h3, by rw [far_cell _ _ _ _ (by simp), far_cell _ _ _ _ (by simp)]; exact h4⟩
/-- The result's block waits to be written. -/
structure Waits (W : World) (g : Nat) : Prop where
  y0 : W.cell? ⟨g, 0, none⟩ = some (.int .u32 0)
  y1 : W.cell? ⟨g, 1, none⟩ = some (.int .u32 0)
  z0 : W.frozen? ⟨g, 0, none⟩ = false
  z1 : W.frozen? ⟨g, 1, none⟩ = false
theorem Waits.next {W W' : World} {g : Nat} (h : Waits W g) (hb : Below W.heap.size W W') : Waits W' g := by
  have l := World.block_lt_of_cell? _ _ h.y0
  exact ⟨(hb.cell l).trans h.y0, (hb.cell (p := ⟨g, 1, none⟩) l).trans h.y1, (hb.frozen (p := ⟨g, 0, none⟩) l).trans h.z0, (hb.frozen (p := ⟨g, 1, none⟩) l).trans h.z1⟩

set_option maxRecDepth 100000 in
set_option maxHeartbeats 2000000 in
theorem refmeet_any (a b : C) (w : World) (ra : rightC a = true) (rb : rightC b = true) :
    Calls Tryz.prog 25 #[clV a, clV b] w fun e w' => e = .returned (clV (meetC a b)) ∧ Below w.heap.size w w' := by
  obtain ⟨pa, na⟩ := rightC_iff.1 ra
  obtain ⟨pb, nb⟩ := rightC_iff.1 rb
  have HP : Hid (a.1.val ||| b.1.val = meetP a b) := (low_of_lt (Nat.or_lt_two_pow (n := 24) pa pb)).symm
  have HN : Hid (a.2.val ||| b.2.val = meetN a b) := (low_of_lt (Nat.or_lt_two_pow (n := 24) na nb)).symm
  have hB : Below w.heap.size w ((((w.alloc (.cells #[.int .u32 (a.1.val : Int), .int .u32 (a.2.val : Int)] 25)).alloc (.cells #[.int .u32 (b.1.val : Int), .int .u32 (b.2.val : Int)] 25)).alloc (.cells #[.int .u32 0, .int .u32 0] 25)).drew) :=
    below_drewN (((below_alloc w _).alloc (by simp) _).alloc (by simp; omega) _) 1
  have hY : Waits ((((w.alloc (.cells #[.int .u32 (a.1.val : Int), .int .u32 (a.2.val : Int)] 25)).alloc (.cells #[.int .u32 (b.1.val : Int), .int .u32 (b.2.val : Int)] 25)).alloc (.cells #[.int .u32 0, .int .u32 0] 25)).drew) (w.heap.size + 1 + 1) :=
    ⟨by simp [go_sem], by simp [go_sem], by simp [go_sem], by simp [go_sem]⟩
  clear ra rb
  go_enter Tryz.func25, Tryz.ntmps25
  go_wp2
  go_region_held3 (fun w' => w'.cell? ⟨w.heap.size, 0, none⟩ = some (.int .u32 (a.1.val : Int)) ∧ w'.cell? ⟨w.heap.size, 1, none⟩ = some (.int .u32 (a.2.val : Int)) ∧ w'.cell? ⟨w.heap.size + 1, 0, none⟩ = some (.int .u32 (b.1.val : Int)) ∧ w'.cell? ⟨w.heap.size + 1, 1, none⟩ = some (.int .u32 (b.2.val : Int))) (first | (exact ms_next hB1 (by assumption)) | (exact ms_store (by assumption)) | (simp [go_sem]; done) | go_keep)
    (first | (go_at_call 49; refine (union_any _ _ _ (by assumption) (by assumption)).mono ?_; rintro e w1 ⟨rfl, hB1⟩; replace hB := chain hB hB1; replace hY := hY.next hB1; have y0 := hY.y0; have y1 := hY.y1; have z0 := hY.z0; have z1 := hY.z1))
  go_wp2
  exact bodyPost_ret (v := .agg #[.int .u32 (a.1.val ||| b.1.val : Nat), .int .u32 (a.2.val ||| b.2.val : Nat)]) (by simp [results, Tryz.results25, go_sem, *]) rfl ⟨by rw [HP.out, HN.out]; rfl, (hB.setCell (by simp; omega) _).setCell (by simp; omega) _⟩
theorem refmeet_q (a b : C) (ra : rightC a = true) (rb : rightC b = true) (w : World) (d : Nat) (os : Array Obj) : Calls Tryz.prog 25 #[clV a, clV b] (grow (redrawn w d) os) fun e w'' => e = .returned (clV (meetC a b)) ∧ ∃ p : Regrown, w'' = grow (redrawn w p.d) p.os :=
  Calls.regrown_of (refmeet_any a b _ ra rb)
theorem refclash_q (a : C) (w : World) (d : Nat) (os : Array Obj) : Calls Tryz.prog 24 #[clV a] (grow (redrawn w d) os) fun e w'' => e = .returned (.bool (clashC a)) ∧ ∃ p : Regrown, w'' = grow (redrawn w p.d) p.os :=
  Calls.regrown_of (refclash_any a _)
theorem right_q (a : C) (w : World) (d : Nat) (os : Array Obj) : Calls Tryz.prog 45 #[clV a] (grow (redrawn w d) os) fun e w'' => e = .returned (.bool (rightC a)) ∧ ∃ p : Regrown, w'' = grow (redrawn w p.d) p.os :=
  Calls.regrown_of ((cright_any a _).mono fun _ _ h => ⟨h.1, h.2.below⟩)
theorem refright_q (a : C) (w : World) (d : Nat) (os : Array Obj) : Calls Tryz.prog 48 #[clV a] (grow (redrawn w d) os) fun e w'' => e = .returned (.bool (rightC a)) ∧ ∃ p : Regrown, w'' = grow (redrawn w p.d) p.os :=
  Calls.regrown_of ((refcright_any a _).mono fun _ _ h => ⟨h.1, h.2.below⟩)
end Go.Proofs.YtdikaomebbpmhaaGreat
