/- What is asked of a node: its name, its row. -/
import Derived.Deep.Cut
import Derived.Lib.Strings
import Derived.Test.YtocfamcclfhkcaaGreatYOkA
import Derived.Test.YtocfamcclfhkcaaGreatYEqA
namespace Go.Proofs.YtocfamcclfhkcaaGreat
open Go.RowKit
set_option linter.unusedVariables false
set_option linter.unusedSimpArgs false

theorem isEmptyB (s : ByteArray) : s.toList.isEmpty = decide (s.size = 0) := by
  rw [Lib.toList_data, Bool.eq_iff_iff]
  obtain ⟨⟨x⟩⟩ := s
  simp [ByteArray.size]
theorem dig_hi {n : Nat} (h : ¬ n ≤ 57) : (57 : Int) < (n : Int) := by omega
set_option maxRecDepth 100000 in
set_option maxHeartbeats 2000000 in
theorem named_any (g off : Nat) (t : Tm) (w : World) (h0 : w.cell? ⟨g, off, none⟩ = some (.int .i64 t.kind)) (h2 : w.cell? ⟨g, off + 2, none⟩ = some (.string t.name)) (hl : t.name.size ≤ 1000000) :
    Calls Tryz.prog 152 #[.pointer (some ⟨g, off, none⟩)] w fun e w' => e = .returned (.bool (nameB t.kind t.name)) ∧ w' = w := by
  obtain ⟨k, hk⟩ : ∃ k, k = t.kind := ⟨_, rfl⟩
  obtain ⟨s, hs⟩ : ∃ s, s = t.name := ⟨_, rfl⟩
  rw [← hk] at h0 ⊢
  rw [← hs] at h2 hl ⊢
  clear hk hs
  by_cases hk : k = 2
  · subst hk
    have HR : Hid (nameB 2 s = nmB s) := rfl
    go_enter Tryz.func152, Tryz.ntmps152
    go_wp2
    go_loop [20] (fun i => ∃ j : Nat, j ≤ s.size ∧ i = .int .i64 j ∧ nmTo s j) (fun i => s.size - (intOf i).toNat)
    case atStart => exact ⟨0, Nat.zero_le _, rfl, nmTo_zero s⟩
    case round =>
      obtain ⟨j, hj, rfl, hn⟩ := hrel
      by_cases hlt : j < s.size
      · have cL := letter_any s[j] w
        have hc : (s[j]).toNat < 256 := (s[j]).toNat_lt
        cases hlet : letterU s[j] with
        | true =>
          have HS : Hid (nmTo s (j + 1)) := nmTo_step hn hlt (by rw [hlet]; rfl)
          rw [hlet] at cL
          go_wp2_with (go_at_call 170; refine cL.mono ?_; rintro e w' ⟨rfl, hw'⟩; subst hw')
          go_round
          case rel => exact ⟨j + 1, by omega, by go_num, HS.out⟩
          case measure => simp [intOf]; omega
        | false =>
          rw [hlet] at cL
          by_cases hj0 : j = 0
          · have HB : Hid (nmB s = false) := nmB_bad j hlt (by rw [hlet]; simp [hj0])
            subst hj0
            go_wp2_with (go_at_call 170; refine cL.mono ?_; rintro e w' ⟨rfl, hw'⟩; subst hw')
            go_ret
            exact ⟨ret_bool (by rw [HR.out, HB.out]), rfl⟩
          · have hj1 : ((j : Int) == 0) = false := by simpa using hj0
            cases hd : digitU s[j] with
            | true =>
              have HS : Hid (nmTo s (j + 1)) := nmTo_step hn hlt (by rw [hlet, hd]; simp; omega)
              unfold digitU at hd
              simp at hd
              have d1 : decide (((s[j]).toNat : Int) < 48) = false := by simp; omega
              have d2 : decide ((57 : Int) < ((s[j]).toNat : Int)) = false := by simp; omega
              clear hd
              go_wp2_with (go_at_call 170; refine cL.mono ?_; rintro e w' ⟨rfl, hw'⟩; subst hw')
              go_round
              case rel => exact ⟨j + 1, by omega, by go_num, HS.out⟩
              case measure => simp [intOf]; omega
            | false =>
              have HB : Hid (nmB s = false) := nmB_bad j hlt (by rw [hlet, hd]; simp)
              unfold digitU at hd
              simp at hd
              by_cases d1 : ((s[j]).toNat : Int) < 48
              · have d3 : decide (((s[j]).toNat : Int) < 48) = true := by simpa using d1
                clear hd
                go_wp2_with (go_at_call 170; refine cL.mono ?_; rintro e w' ⟨rfl, hw'⟩; subst hw')
                go_ret
                exact ⟨ret_bool (by rw [HR.out, HB.out]), rfl⟩
              · have d2 : (57 : Int) < ((s[j]).toNat : Int) := by have := hd (by omega); omega
                have d3 : decide (((s[j]).toNat : Int) < 48) = false := by simpa using d1
                have d4 : decide ((57 : Int) < ((s[j]).toNat : Int)) = true := by simpa using d2
                clear hd
                go_wp2_with (go_at_call 170; refine cL.mono ?_; rintro e w' ⟨rfl, hw'⟩; subst hw')
                go_ret
                exact ⟨ret_bool (by rw [HR.out, HB.out]), rfl⟩
      · obtain rfl : j = s.size := by omega
        by_cases hz : s.size = 0
        · have HB : Hid (nmB s = false) := nmB_zero hz
          go_wp2
          go_ret
          exact ⟨ret_bool (by rw [HR.out, HB.out, isEmptyB]; simp [hz]), rfl⟩
        · have HB : Hid (nmB s = true) := nmB_true (by omega) hn
          go_wp2
          go_ret
          exact ⟨ret_bool (by rw [HR.out, HB.out, isEmptyB]; simp [hz]), rfl⟩
  · have HR : Hid (nameB k s = decide (s.size = 0)) := by show _ = _; unfold nameB; rw [if_neg hk]
    go_enter Tryz.func152, Tryz.ntmps152
    go_wp2
    go_ret
    exact ⟨ret_bool (by rw [HR.out, isEmptyB]), rfl⟩
theorem shr_any (q e : Nat) (hq : q < 16777216) : Op.shift .shr .u32 (q : Int) .i64 (e : Int) = pure (.int .u32 ((q / 2 ^ e : Nat) : Int)) := by
  have h32 : q / 2 ^ 32 = 0 := Nat.div_eq_of_lt (by omega)
  have key : ∀ m : Nat, Int.fdiv (q : Int) (2 ^ m) = ((q / 2 ^ m : Nat) : Int) := fun m => by
    rw [Int.fdiv_eq_ediv_of_nonneg _ (Int.pow_nonneg (by decide))]
    simp
  have e1 : q / 2 ^ (min e 32) = q / 2 ^ e := by
    rcases Nat.le_total e 32 with h | h
    · rw [Nat.min_eq_left h]
    · rw [Nat.min_eq_right h, h32]
      exact (Nat.div_eq_of_lt (Nat.lt_of_lt_of_le (show q < 2 ^ 32 by omega) (Nat.pow_le_pow_right (by decide) h))).symm
  rw [← e1, ← key]
  simp [Op.shift, IntKind.bits]
  omega
theorem box_outs (w : World) (V D : Int) (o : Bool) (bv bd : Int) : ∃ w2, w2 = (w.alloc (.cells #[.int .i64 V, .int .i64 D, .bool o] 48)).alloc (.cells #[.int .i64 bv, .int .i64 bd] 90) ∧ Below w.heap.size w w2 ∧ w2.heap.size = w.heap.size + 2 ∧
    w2.heap[w.heap.size]? = some (.cells #[.int .i64 V, .int .i64 D, .bool o] 48 (0, 0)) ∧ w2.heap[w.heap.size + 1]? = some (.cells #[.int .i64 bv, .int .i64 bd] 90 (0, 0)) := by
  refine ⟨_, rfl, bchain (belowA _ _) (belowA _ _), by simp, (Below.heap_alloc _ _ _ (by simp)).trans (heapNew w _), ?_⟩
  have := heapNew (w.alloc (.cells #[.int .i64 V, .int .i64 D, .bool o] 48)) (.cells #[.int .i64 bv, .int .i64 bd] 90)
  rwa [World.size_alloc] at this
theorem cells3 {w : World} {x : Nat} {a b c : Value} {ty : TypeId} (h : w.heap[x]? = some (.cells #[a, b, c] ty (0, 0))) : w.cell? ⟨x, 0, none⟩ = some a ∧ w.cell? ⟨x, 1, none⟩ = some b ∧ w.cell? ⟨x, 2, none⟩ = some c := by
  refine ⟨?_, ?_, ?_⟩ <;> (unfold World.cell?; simp [h])
theorem cells2 {w : World} {x : Nat} {a b : Value} {ty : TypeId} (h : w.heap[x]? = some (.cells #[a, b] ty (0, 0))) : w.cell? ⟨x, 0, none⟩ = some a ∧ w.cell? ⟨x, 1, none⟩ = some b := by
  refine ⟨?_, ?_⟩ <;> (unfold World.cell?; simp [h])
set_option maxRecDepth 100000 in
set_option maxHeartbeats 4000000 in
theorem reaches_any (V : Int) (D : Nat) (o : Bool) (bv bd : Nat) (r : List C) (v : Value) (w : World) (hv : ClRow Tt w r v) (hl : r.length ≤ 100000) (hD : D ≤ 24) (hb : bd ≤ 1000000) :
    Calls Tryz.prog 155 #[.agg #[.int .i64 V, .int .i64 (D : Int), .bool o], v, .agg #[.int .i64 (bv : Int), .int .i64 (bd : Int)]] w fun e w' => e = .returned (.bool (reachB o (D + bd) r)) ∧ Below w.heap.size w w' := by
  obtain ⟨w2, hw2, hb2, s2, m1, m2⟩ := box_outs w V D o bv bd
  obtain ⟨a, cap, rfl, _⟩ := id hv
  have hd := dimsN_lt r
  have Hc : Hid (∀ u : Cw w2, Calls Tryz.prog 104 #[.slice a r.length cap] u.1 fun e w' => e = .returned (.int .u32 ((dimsN r : Nat) : Int)) ∧ ∃ u' : Cw w2, w' = u'.1) := fun u => cw_call u (Dims_any r _ u.1 ((hv.blw (bchain hb2 u.2)).row) hl)
  have x1 : ∀ u : Cw w2, u.1.cell? ⟨w.heap.size, 1, none⟩ = some (.int .i64 (D : Int)) := fun u => (cells3 ((u.2.block _ (by omega)).trans m1)).2.1
  have x2 : ∀ u : Cw w2, u.1.cell? ⟨w.heap.size, 2, none⟩ = some (.bool o) := fun u => (cells3 ((u.2.block _ (by omega)).trans m1)).2.2
  have y1 : ∀ u : Cw w2, u.1.cell? ⟨w.heap.size + 1, 1, none⟩ = some (.int .i64 (bd : Int)) := fun u => (cells2 ((u.2.block _ (by omega)).trans m2)).2
  have hne := cw_any w2
  have H2 : Hid (_ = _) := hw2
  have HR : Hid (reachB o (D + bd) r = (o || decide (dimsN r / 2 ^ (D + bd) = 0))) := rfl
  obtain ⟨n, hn⟩ : ∃ n, n = r.length := ⟨_, rfl⟩
  rw [← hn] at Hc ⊢
  obtain ⟨q, hq⟩ : ∃ q, q = dimsN r := ⟨_, rfl⟩
  rw [← hq] at Hc HR hd
  clear hw2 m1 m2 hv hn hl hq
  go_enter Tryz.func155, Tryz.ntmps155
  go_upto_region 1 with fail
  rw [← H2.out]
  cases o with
  | true =>
    refine wp_region_cw (by kernel_rfl) (by kernel_rfl) ?_
    repeat (first | go_big_quiet_step (exact Hc.out _) | quiet_step (exact Hc.out _))
    refine wpQuiet_nil ?_
    rintro _ ⟨u, rfl⟩
    obtain ⟨w5, hb5⟩ := u
    dsimp only
    have hal := bchain hb2 hb5
    clear x1 x2 y1 hne Hc
    go_wp2
    go_ret
    exact ⟨ret_bool (by rw [HR.out]; rfl), hal⟩
  | false =>
    obtain ⟨z, hz⟩ : ∃ z, z = q / 2 ^ (D + bd) := ⟨_, rfl⟩
    have HZ : Hid (q / 2 ^ (D + bd) = z) := hz.symm
    have hsh : Op.shift .shr .u32 (q : Int) .i64 ((D : Int) + (bd : Int)) = pure (.int .u32 (z : Int)) := by
      have := shr_any q (D + bd) hd
      rw [hz]; simpa using this
    clear hz
    have wr1 : IntKind.i64.wrap ((D : Int) + (bd : Int)) = (D : Int) + (bd : Int) := by simp [IntKind.wrap, IntKind.bits, IntKind.signed]; omega
    refine wp_region_cw (by kernel_rfl) (by kernel_rfl) ?_
    repeat (first | go_big_quiet_step (exact Hc.out _) | quiet_step (exact Hc.out _))
    refine wpQuiet_nil ?_
    rintro _ ⟨u, rfl⟩
    obtain ⟨w5, hb5⟩ := u
    dsimp only
    have hal := bchain hb2 hb5
    clear x1 x2 y1 hne Hc
    go_wp2
    go_ret
    exact ⟨ret_bool (by rw [HR.out, HZ.out, Bool.eq_iff_iff]; simp), hal⟩
end Go.Proofs.YtocfamcclfhkcaaGreat
