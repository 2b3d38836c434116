/- The walk of the law ClauseTurns: the call returns true; nothing that lay before it turns. -/
import Derived.Test.YtmegeaklddncoaaWMeets
namespace Go.Proofs.Ytmegeaklddncoaa
open Go.RowKit Go.Sort
set_option linter.unusedVariables false
set_option linter.unusedSimpArgs false

theorem meet_right (a b : C) : rightC (meetC a b) = true := rightC_iff.2 ⟨low_lt _, low_lt _⟩
theorem turn_least {l back N : List C} {c x : C} (hr : l.all rightC = true) (hm : ∀ y, y ∈ back ↔ y ∈ l ∨ y = x) (hc : c ∈ l) (hx : belC x c = true) (rx : rightC x = true) (h : IsLeast back N) : IsLeast l N := by
  have rl : ∀ y ∈ l, rightC y = true := fun y hy => List.all_eq_true.1 hr y hy
  refine ⟨h.rises, fun y => ?_⟩
  rw [h.mem]
  constructor
  · rintro ⟨h1, h2⟩
    rw [needed_iff] at h2
    have hyl : y ∈ l := by
      rcases (hm y).1 h1 with h3 | h3
      · exact h3
      · subst h3
        have := h2 c ((hm c).2 (.inl hc)) hx
        exact this ▸ hc
    exact ⟨hyl, needed_iff.2 fun d hd hb => h2 d ((hm d).2 (.inl hd)) hb⟩
  · rintro ⟨h1, h2⟩
    rw [needed_iff] at h2
    refine ⟨(hm y).2 (.inl h1), needed_iff.2 fun d hd hb => ?_⟩
    rcases (hm d).1 hd with h3 | h3
    · exact h2 d h3 hb
    · subst h3
      have e := h2 c hc (belC_trans hb hx)
      subst e
      exact bel_antisymm rx (rl _ h1) hx hb
theorem turn_is {l back M M' : List C} {er er' : Int} {c x : C} (hm : ∀ y, y ∈ back ↔ y ∈ l ∨ y = x) (hc : c ∈ l) (hx : belC x c = true) (rx : rightC x = true) (h : LeastIs l M er) (h' : LeastIs back M' er') : M = M' ∧ er = er' := by
  refine h.unique ?_
  have hall : back.all rightC = l.all rightC := by
    rw [Bool.eq_iff_iff, List.all_eq_true, List.all_eq_true]
    constructor
    · intro hh y hy; exact hh y ((hm y).2 (.inl hy))
    · intro hh y hy
      rcases (hm y).1 hy with h1 | h1
      · exact hh y h1
      · rw [h1]; exact rx
  rcases h' with ⟨a, b, d⟩ | ⟨a, N, hN, d⟩
  · exact .inl ⟨by rw [← hall]; exact a, b, d⟩
  · rw [hall] at a
    exact .inr ⟨a, N, turn_least a hm hc hx rx hN, d⟩
theorem rev_take_step {l : List C} {k : Nat} {c : C} (h : l[l.length - 1 - k]? = some c) (hk : k < l.length) : l.reverse.take (k + 1) = l.reverse.take k ++ [c] := by
  rw [List.take_add_one, List.getElem?_reverse hk, h]
  rfl

theorem which_at (which : Int) (n : Nat) (hn : 0 < n) (hb : n ≤ 150) : ∃ j : Nat, j < n ∧ wrap64 ((IntKind.u64.wrap which).tmod n) = (j : Int) := by
  have h0 : 0 ≤ IntKind.u64.wrap which := by
    simp [IntKind.wrap, IntKind.bits, IntKind.signed]
    omega
  generalize IntKind.u64.wrap which = x at h0
  have e : x.tmod n = x % n := Int.tmod_eq_emod_of_nonneg h0
  have h1 : 0 ≤ x % (n : Int) := Int.emod_nonneg _ (by omega)
  have h2 : x % (n : Int) < n := Int.emod_lt_of_pos _ (by omega)
  refine ⟨(x % (n : Int)).toNat, by omega, ?_⟩
  rw [e]
  unfold wrap64
  omega
theorem ts_next {B g off j q : Nat} {c more : C} {W W' : World} (hb : Below B W W') (hg : g < B) (hq : q < B) (h : W.cell? ⟨g, off + j * 2, none⟩ = some (.int .u32 (c.1.val : Int)) ∧ W.cell? ⟨g, off + j * 2 + 1, none⟩ = some (.int .u32 (c.2.val : Int)) ∧ W.cell? ⟨q, 0, none⟩ = some (.int .u32 (more.1.val : Int)) ∧ W.cell? ⟨q, 1, none⟩ = some (.int .u32 (more.2.val : Int))) :
    W'.cell? ⟨g, off + j * 2, none⟩ = some (.int .u32 (c.1.val : Int)) ∧ W'.cell? ⟨g, off + j * 2 + 1, none⟩ = some (.int .u32 (c.2.val : Int)) ∧ W'.cell? ⟨q, 0, none⟩ = some (.int .u32 (more.1.val : Int)) ∧ W'.cell? ⟨q, 1, none⟩ = some (.int .u32 (more.2.val : Int)) := by
  obtain ⟨h1, h2, h3, h4⟩ := h
  exact ⟨(hb.cell (p := ⟨g, off + j * 2, none⟩) hg).trans h1, (hb.cell (p := ⟨g, off + j * 2 + 1, none⟩) hg).trans h2, (hb.cell (p := ⟨q, 0, none⟩) hq).trans h3, (hb.cell (p := ⟨q, 1, none⟩) hq).trans h4⟩
theorem ownsRow_below {w w' : World} {base e size n : Nat} {v : Value} {xs : List Value} (h : w.ownsRow base e size v n xs) (hb : Below w.heap.size w w') : w'.ownsRow base e size v n xs := by
  have hlt := World.ownsRow.lt h
  obtain ⟨h1, h2⟩ := h
  refine ⟨h1, h2.imp id ?_⟩
  rintro ⟨g, cap, cur, rfl, hg, hh, r⟩
  exact ⟨g, cap, cur, rfl, hg, (hb.block g (hlt g rfl).2).trans hh, r⟩
theorem flat_two_oneCell (c d : C) : ∀ u ∈ encC c ++ encC d, u.oneCell' = true := by
  have e : encC c ++ encC d = flat [c, d] := by simp [flat]
  rw [e]; exact flat_oneCell _
theorem turn_grown {W w' : World} {o : Obj} {base e size n : Nat} {v : Value} {xs : List Value} (h : W.ownsRow base e size v n xs) (hg : (W.alloc o).grownBy w' v.ownBlock) (hb : base ≤ W.heap.size) : Below base (W.alloc o) w' :=
  (Below.refl _ _).grown hg (by simp; omega) (fun k hk => (World.ownsRow.lt h k hk).1)
theorem new_four (w : World) (x y z u : Value) (t : TypeId) : ∀ j v, [x, y, z, u][j]? = some v → (w.alloc (.cells #[x, y, z, u] t)).cell? ((⟨w.heap.size, 0, none⟩ : Addr).add j) = some v :=
  World.news_of_block (cs := #[x, y, z, u]) (MapKept.heap_alloc w _).1

set_option maxRecDepth 100000 in
set_option maxHeartbeats 4000000 in
theorem walk_ClauseTurns (l : List C) (v : Value) (which : Int) (hw : (Lit.int .i64 which).wf = true) (more : C) (w : World) (hv : CRow w v l) :
    Calls Try.prog 7 #[v, .int .i64 which, clV more] w fun e w' => e = .returned (.bool true) ∧ Below w.heap.size w w' := by
  obtain ⟨i0, hi, hz0, hz1, hz2⟩ := info_parts Try.infoC
  have hm := At.made w more 24
  have hB := below_alloc w (.cells #[.int .u32 (more.1.val : Int), .int .u32 (more.2.val : Int)] 24)
  by_cases hbig : 150 < l.length
  · obtain ⟨a0, cap, rfl⟩ := hv.len
    clear hv
    generalize l.length = n at hbig ⊢
    go_enter Try.func7, Try.ntmps7
    go_wp2_with (go_at_call 11; refine (works_any _).mono ?_; rintro e w1 ⟨rfl, hB1⟩; replace hB := chain hB hB1)
    go_ret
    exact ⟨rfl, hB⟩
  by_cases hz : l = []
  · subst hz
    obtain ⟨a0, cap, rfl⟩ := hv.len
    clear hv
    go_enter Try.func7, Try.ntmps7
    go_wp2_with (go_at_call 11; refine (works_any _).mono ?_; rintro e w1 ⟨rfl, hB1⟩; replace hB := chain hB hB1)
    go_ret
    exact ⟨rfl, hB⟩
  have hpos : 0 < l.length := List.length_pos_iff.2 hz
  cases rm : rightC more
  · obtain ⟨a0, cap, rfl⟩ := hv.len
    clear hv
    generalize l.length = n at hbig hpos ⊢
    go_enter Try.func7, Try.ntmps7
    go_wp2_with (first
      | (go_at_call 11; refine (works_any _).mono ?_; rintro e w1 ⟨rfl, hB1⟩; replace hB := chain hB hB1; replace hm := hm.below hB1; have m0 := hm.1; have m1 := hm.2.1)
      | (go_at_call 9; refine (cright_any _ _).mono ?_; rintro e w2 ⟨rfl, hG⟩; replace hB := chain hB hG.below))
    go_ret
    exact ⟨rfl, hB⟩
  have hv0 := hv
  obtain ⟨g, off, cap, rfl, hg, hc⟩ := hv.cons hz
  clear hv
  obtain ⟨n, hn⟩ : ∃ n, n = l.length := ⟨_, rfl⟩
  have Hn : Hid (n = l.length) := hn
  rw [← hn] at hbig hpos hv0 ⊢
  clear hn
  have h150 : decide ((150 : Int) < (n : Int)) = false := by simp; omega
  have hn0 : ((n : Int) == 0) = false := by simp; omega
  have hw0 : Below w.heap.size w (w.alloc (.cells #[.int .u32 (more.1.val : Int), .int .u32 (more.2.val : Int)] 24)) := hB
  go_enter Try.func7, Try.ntmps7
  go_wp2_with (first
    | (go_at_call 11; refine (works_any _).mono ?_; rintro e w1 ⟨rfl, hB1⟩; replace hB := chain hB hB1; replace hm := hm.below hB1; have m0 := hm.1; have m1 := hm.2.1)
    | (go_at_call 9; refine (cright_any _ _).mono ?_; rintro e w2 ⟨rfl, hG⟩; replace hB := chain hB hG.below; replace hm := hm.below hG.below))
  go_loopw [7, 31] (fun v i wr => ∃ k : Nat, k ≤ n ∧ i = .int .i64 k ∧ OwnsC wr w2.heap.size v (l.reverse.take k) ∧ Below w2.heap.size w2 wr) (fun _ i _ => n - (intOf i).toNat)
  case atStart => exact ⟨0, Nat.zero_le _, rfl, World.ownsRow_nil _ _ _ _, Below.refl _ _⟩
  case round =>
    obtain ⟨k, hk, rfl, hrow, hny⟩ := hrel
    have hlk : (l.reverse.take k).length = k := by rw [List.length_take, List.length_reverse, ← Hn.out]; omega
    by_cases hlt : k < n
    · obtain ⟨c, hcj⟩ := get_some (l := l) (k := n - 1 - k) (by rw [← Hn.out]; omega)
      have HS : Hid (l.reverse.take (k + 1) = l.reverse.take k ++ [c]) := rev_take_step (by rw [← Hn.out]; exact hcj) (by rw [← Hn.out]; exact hlt)
      have x := (hc.below hB hg) (n - 1 - k) c hcj
      obtain ⟨x0, x1⟩ := x
      have hgw : g < w2.heap.size := Nat.lt_of_lt_of_le hg hB.size
      replace x0 := (hny.cell (p := ⟨g, off + (n - 1 - k) * 2, none⟩) hgw).trans x0
      replace x1 := (hny.cell (p := ⟨g, off + (n - 1 - k) * 2 + 1, none⟩) hgw).trans x1
      clear hcj
      go_wp2_with (at_builtin; refine wpList_append_own _ rfl _ _ 30 rfl w2.heap.size 24 i0 (.agg #[.int .u32 0, .int .u32 0]) 2 8 Try.underlying30 hi hz0 hz1 hz2 rfl (by decide) _ _ _ rfl (World.ownsRow.alloc hrow _) ⟨wr.heap.size, 0, none⟩ 1 1 (encC c) rfl rfl (new_two _ _ _ _) (flat_one c ▸ flat_oneCell [c]) (by rw [hlk]; unfold maxLen; omega) (by rw [hlk]; omega) (by have := hny.size; simp; omega) ?_; intro v' w4 hown4 hgrow4 hnil4)
      have hlow := World.ownsRow.lt hrow
      have hrow4 : OwnsC w4 w2.heap.size v' (l.reverse.take k ++ [c]) := by
        unfold OwnsC
        rw [flat_append, flat_one, List.length_append]
        exact hown4
      go_roundw
      case rel => exact ⟨k + 1, by omega, by go_num, by rw [HS.out]; exact hrow4, (hny.alloc hny.size _).grown hgrow4 (by have := hny.size; simp; omega) (fun i hi => (hlow i hi).1)⟩
      case measure => simp [intOf]; omega
    · obtain rfl : k = n := by omega
      have e : l.reverse.take k = l.reverse := List.take_of_length_le (by rw [List.length_reverse, ← Hn.out]; exact Nat.le_refl _)
      rw [e] at hrow hlk
      clear e
      obtain ⟨j, hj, ej⟩ := which_at which k hpos (by omega)
      go_wp2
      rw [ej]
      clear ej
      obtain ⟨c, hcj⟩ := get_some (l := l) (k := j) (by rw [← Hn.out]; exact hj)
      have hgw : g < w2.heap.size := Nat.lt_of_lt_of_le hg hB.size
      have hqw : w.heap.size < w2.heap.size := hm.2.2
      obtain ⟨x0, x1⟩ := (hc.below hB hg) j c hcj
      replace x0 := (hny.cell (p := ⟨g, off + j * 2, none⟩) hgw).trans x0
      replace x1 := (hny.cell (p := ⟨g, off + j * 2 + 1, none⟩) hgw).trans x1
      have m0' := (hny.cell (p := ⟨w.heap.size, 0, none⟩) hqw).trans hm.1
      have m1' := (hny.cell (p := ⟨w.heap.size, 1, none⟩) hqw).trans hm.2.1
      have HC : Hid (c ∈ l) := List.mem_of_getElem? hcj
      clear hcj hc m0 m1
      have hrl : l.reverse.length = k := hlk
      have hrow0 : wr.drew.ownsRow w2.heap.size 24 2 u7 k (flat l.reverse) := by rw [← hrl]; exact hrow
      have hny0 : w2.heap.size ≤ wr.drew.heap.size := hny.size
      go_region_held3 (fun w' => w'.cell? ⟨g, off + j * 2, none⟩ = some (.int .u32 (c.1.val : Int)) ∧ w'.cell? ⟨g, off + j * 2 + 1, none⟩ = some (.int .u32 (c.2.val : Int)) ∧ w'.cell? ⟨w.heap.size, 0, none⟩ = some (.int .u32 (more.1.val : Int)) ∧ w'.cell? ⟨w.heap.size, 1, none⟩ = some (.int .u32 (more.2.val : Int))) (first | (exact ts_next hBk hgw hqw (by assumption)) | go_keep)
        (first
          | (go_at_call 15; refine (meet_any _ _ _).mono ?_; rintro e w5 ⟨rfl, hG⟩; have hBk := hG.below.mono hny0; have hrow5 := ownsRow_below hrow0 hG.below)
          | (refine step_append_lies _ rfl (.tmp 53) (.tmp 64) 30 rfl w2.heap.size 24 i0 (.agg #[.int .u32 0, .int .u32 0]) 2 8 Try.underlying30 hi hz0 hz1 hz2 rfl (by decide) u7 k (flat l.reverse) rfl (World.ownsRow.alloc hrow5 _) ⟨w5.heap.size, 0, none⟩ 2 2 (encC c ++ encC (meetC c more)) rfl rfl (new_four _ _ _ _ _ _) (flat_two_oneCell c (meetC c more)) (by decide) (by unfold maxLen; omega) (by omega) (Nat.le_trans hny0 (Nat.le_trans hG.below.size (by simp))) _ rfl ?_; intro g6 cap6 w6 hown6 hgrow6 hat6 hlt6; have hBk := turn_grown hrow5 hgrow6 (Nat.le_trans hny0 hG.below.size)))
      have hB6 : Below w2.heap.size w2 w6 := by
        have h1 : Below w2.heap.size w2 w5 := hny.trans ((below_drewN (Below.refl _ wr) 1).trans (hG.below.mono hny0))
        exact (h1.alloc h1.size _).trans hBk
      have hBw6 : Below w.heap.size w w6 := chain hB hB6
      have hv6 := hv0.below hBw6
      have hback : OwnsC w6 w2.heap.size (.slice (some ⟨g6, 0, none⟩) (k + 2) cap6) (l.reverse ++ [c, meetC c more]) := by
        unfold OwnsC
        have e1 : (l.reverse ++ [c, meetC c more]).length = k + 2 := by simp [hrl]
        have e2 : flat (l.reverse ++ [c, meetC c more]) = flat l.reverse ++ (encC c ++ encC (meetC c more)) := by simp [flat]
        rw [e1, e2]
        exact hown6
      have hmem : ∀ y, y ∈ l.reverse ++ [c, meetC c more] ↔ y ∈ l ∨ y = meetC c more := fun y => by
        have := HC.out
        simp
        constructor
        · rintro (h | rfl | h)
          · exact .inl h
          · exact .inl this
          · exact .inr h
        · rintro (h | h)
          · exact .inl h
          · exact .inr (.inr h)
      have HM : Hid (∀ y, y ∈ l.reverse ++ [c, meetC c more] ↔ y ∈ l ∨ y = meetC c more) := hmem
      clear hmem
      have cL1 := least_any l _ w6 hv6 (by rw [← Hn.out]; omega)
      have hlb : (l.reverse ++ [c, meetC c more]).length ≤ 1000 := by simp [hrl]; omega
      clear hBk hgrow6 hat6 hown6 hrow5 hrow0 x0 x1 m0' m1' hv0 hv6
      go_wp2_with fail
      refine cL1.mono ?_
      rintro e w7 ⟨v7, M, er, rfl, hL1, hO1, hB7⟩
      clear cL1
      have cL2 := least_any _ _ w7 (OwnsC.row (OwnsC.below hback hB7)) hlb
      go_wp2_with fail
      refine cL2.mono ?_
      rintro e w8 ⟨v8, M', er', rfl, hL2, hO2, hB8⟩
      clear cL2
      obtain ⟨rfl, rfl⟩ := turn_is HM.out HC.out (meet_le c more) (meet_right c more) hL1 hL2
      have hs := same_any M M _ _ w8 ((OwnsC.row hO1).below hB8) (OwnsC.row hO2) (by have := hL1.length_le; omega)
      go_wp2_with fail
      refine hs.mono ?_
      rintro e w9 ⟨rfl, hB9⟩
      go_wp2_with fail
      go_ret
      exact ⟨by simp, chain (chain (chain hBw6 hB7) hB8) hB9⟩
end Go.Proofs.Ytmegeaklddncoaa
