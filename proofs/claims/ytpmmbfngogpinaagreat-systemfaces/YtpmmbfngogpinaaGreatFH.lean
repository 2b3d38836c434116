/- Formulas and faces. -/
import Derived.Laws.BitsLemmas
import Derived.WalkKit
import Derived.Sort.Grow
import Derived.Deep.Draws
import Derived.Deep.RegionHeld3
import Derived.Lib.QuietBelow
import Derived.Laws.OwnMore
import Derived.OwnWalk
import Derived.Deep.Onto
import Derived.Deep.QuietTactic
import Derived.BigQuiet
import Derived.WalkSmall
import Derived.Lib.SliceRun
import Derived.Maps.OwnSet
import Derived.Maps.AppendAt
import Derived.DeepKeys4
import Derived.WideKeyPair
import Derived.Deep.AppendLies
import Derived.Lib.AppendZeros
import Derived.RangeFuncNested
import Derived.RangeFuncBound
import Derived.RangeFuncCalls
import Derived.RangeFuncLeaves
import Derived.RangeFuncFrom
import Derived.RangeFuncBox
import Derived.Shelf.Abstract
import Derived.Shelf.RegionOpen
import Derived.OwnWalkIn
import Derived.TacticsInMore
import Derived.LoopNIn
import Derived.LoopIn
import Derived.Test.YtpmmbfngogpinaaGreatFC
import Derived.Test.YtpmmbfngogpinaaGreatFD
namespace Go.Proofs.YtpmmbfngogpinaaGreat
open Go.RowKit
set_option linter.unusedVariables false
set_option linter.unusedSimpArgs false

/-! ### MathAll -/
/-! What each function of the layer answers. -/
/-! Lifting. -/
/-! Dropping. -/
/-! ### being below -/
/-! ### rows that rise -/
/-! ### the least row -/
/-! ### the least row as a function -/
/-! ### what is below a row -/
/-! ### formulas that may be -/
/-! ### what two make -/
/-! ### the opposite -/
/-! ### what stays as it is -/
/-! ### what has not a dimension -/
/-! ### the dimensions -/
/-! ### CBase -/
open Go.RowKit Go.Sort
/-! ### CCmp -/
open Go.RowKit Go.Sort
/-! ### CBelow -/
open Go.RowKit Go.Shelf
/-! ### CSort -/
open Go.RowKit Go.Shelf Go.Sort
/-! ### COrder -/
open Go.RowKit Go.Maps
/-! ### each once -/
/-! ### CBox -/
open Go.RowKit Go.Sort
/-! ### WCovers -/
open Go.RowKit Go.Sort
/-! ### CNeed -/
open Go.RowKit Go.Sort
/-! ### CRLeast -/
open Go.RowKit Go.Sort
/-! ### putting in -/
/-! ### FRow -/
open Go.RowKit Go.Shelf Go.Sort
/-! ### Loops -/
open Go.RowKit Go.Shelf
attribute [local go_sem] Oper.semAt_some

/-! ### FFold -/
/-! ### opposites -/
/-! ### FRight -/
open Go.RowKit Go.Sort
/-! ### CRef -/
open Go.RowKit Go.Sort
/-! ### union -/
/-! ### Meet -/
/-! ### RFace -/
open Go.RowKit Go.Sort
theorem filt_stepR {l : List C} {k : Nat} {c : C} (p : C → Bool) (h : l[k]? = some c) : (l.take (k + 1)).filter p = (l.take k).filter p ++ if p c then [c] else [] := by
  have e : l.take (k + 1) = l.take k ++ [c] := by rw [List.take_add_one, h]; rfl
  rw [e, List.filter_append]
  cases hp : p c <;> simp [hp]
theorem filt_lenR (l : List C) (p : C → Bool) (k : Nat) : ((l.take k).filter p).length ≤ l.length := Nat.le_trans (List.length_filter_le _ _) (by rw [List.length_take]; omega)

set_option maxRecDepth 100000 in
set_option maxHeartbeats 2000000 in
theorem rcalm_any (l : List C) (v : Value) (w : World) (hv : CRow w v l) (hl : l.length ≤ 100000) :
    Calls Tryz.prog 108 #[v] w fun e w' => ∃ v', e = .returned (.tuple #[v', .int .i64 (leastF (calmC l)).2]) ∧ OwnsC w' w.heap.size v' (leastF (calmC l)).1 ∧ Below w.heap.size w w' := by
  have Ha : Hid (∀ W, Below w.heap.size w W → CRow W v l) := fun W h => hv.below h
  have hfl := fun k => filt_lenR l okC k
  have hcl : (calmC l).length ≤ 100000 := Nat.le_trans (calm_len _) hl
  have HK : Hid (l.filter okC = calmC l) := rfl
  obtain ⟨pa, ca, rfl⟩ := hv.len
  clear hv
  obtain ⟨n, hn⟩ : ∃ n, n = l.length := ⟨_, rfl⟩
  have Hn : Hid (n = l.length) := hn
  rw [← hn] at hl Ha hfl ⊢
  clear hn
  go_enter Tryz.func108, Tryz.ntmps108
  go_wp2
  go_loopw [4, 5] (fun v i wr => ∃ k : Nat, k ≤ n ∧ i = .int .i64 k ∧ OwnsC wr w.heap.size v ((l.take k).filter okC) ∧ Below w.heap.size w wr) (fun _ i _ => n - (intOf i).toNat)
  case atStart => exact ⟨0, Nat.zero_le _, rfl, World.ownsRow_nil _ _ _ _, Below.refl _ _⟩
  case round =>
    obtain ⟨k, hk, rfl, hO, hny⟩ := hrel
    by_cases hlt : k < n
    · obtain ⟨c, hck⟩ := get_some (l := l) (k := k) (by rw [← Hn.out]; exact hlt)
      obtain ⟨g, off, rfl, hg, x0, x1⟩ := (Ha.out _ hny).at hck
      have HS : Hid ((l.take (k + 1)).filter okC = (l.take k).filter okC ++ if okC c then [c] else []) := filt_stepR okC hck
      have hlen : Hid (((l.take k).filter okC).length + [c].length ≤ 200000) := by
        have := hfl k
        show ((l.take k).filter okC).length + 1 ≤ 200000
        omega
      have HC : Hid (l[k]? = some c) := hck
      clear hck
      have cC := refclash_any c wr
      cases hcl : clashC c
      · have HS2 : Hid ((l.take (k + 1)).filter okC = (l.take k).filter okC ++ [c]) := by
          show _ = _
          rw [HS.out]; simp [okC, hcl]
        rw [hcl] at cC
        clear HS
        go_wp2_with fail
        refine cC.mono ?_
        rintro e w2 ⟨rfl, hB2⟩
        clear cC
        have hny2 := chain hny hB2
        have hO2 := OwnsC.below hO hB2
        obtain ⟨g', off', e', hg', y0, y1⟩ := (Ha.out _ hny2).at HC.out
        injection e' with e'
        injection e' with e1 e2
        subst e1 e2
        go_wp2_with (at_builtin; refine wpList_append_row rfl _ _ rfl w.heap.size _ _ _ [c] rfl rfl (OwnsC.below hO2 (below_alloc _ _)) (row_one _ _) hlen.out (by have := hny2.size; simp at *; omega) ?_; intro v4 w4 hO4 hg4 hv4)
        have hX2 := chain hny2 (below_alloc w2 (.cells #[.int .u32 (c.1.val : Int), .int .u32 (c.2.val : Int)] 38))
        have hOX2 := OwnsC.below hO2 (below_alloc w2 (.cells #[.int .u32 (c.1.val : Int), .int .u32 (c.2.val : Int)] 38))
        go_roundw
        case rel => exact ⟨k + 1, by omega, by go_num, by rw [HS2.out]; exact hO4, hX2.trans (own_grown hOX2 hg4 hX2.size)⟩
        case measure => simp [intOf]; omega
      · have HS2 : Hid ((l.take (k + 1)).filter okC = (l.take k).filter okC) := by
          show _ = _
          rw [HS.out]; simp [okC, hcl]
        rw [hcl] at cC
        clear HS
        go_wp2_with fail
        refine cC.mono ?_
        rintro e w2 ⟨rfl, hB2⟩
        clear cC
        go_wp2
        go_roundw
        case rel => exact ⟨k + 1, by omega, by go_num, by rw [HS2.out]; exact OwnsC.below hO hB2, chain hny hB2⟩
        case measure => simp [intOf]; omega
    · obtain rfl : k = n := by omega
      have e : l.take k = l := List.take_of_length_le (by rw [← Hn.out]; exact Nat.le_refl _)
      rw [e, HK.out] at hO
      have cL := refleastC (calmC l) _ wr (OwnsC.row hO) hcl
      obtain ⟨p8, q8, rfl⟩ := OwnsC.len hO
      go_wp2_with fail
      refine cL.mono ?_
      rintro e w3 ⟨v3, rfl, hO3, hB3⟩
      clear cL
      go_wp2
      go_ret2
      exact ⟨_, rfl, OwnsC.mono hO3 hny.size, chain hny hB3⟩

set_option maxHeartbeats 2000000 in
theorem rAJoin_any (l m : List C) (a b : Value) (w : World) (ha : CRow w a l) (hb : CRow w b m) (hl : l.length ≤ 40000) (hm : m.length ≤ 40000) :
    Calls Tryz.prog 55 #[a, b] w fun e w' => ∃ v, e = .returned (.tuple #[v, .int .i64 (jnA l m).2]) ∧ OwnsC w' w.heap.size v (jnA l m).1 ∧ Below w.heap.size w w' := by
  have c1 := raright_any l a w ha (by omega)
  have c2 := fun w1 (h : Below w.heap.size w w1) => raright_any m b w1 (hb.below h) (by omega)
  have Ha : Hid (∀ w1, Below w.heap.size w w1 → CRow w1 a l) := fun w1 h => ha.below h
  have Hb : Hid (∀ w1, Below w.heap.size w w1 → CRow w1 b m) := fun w1 h => hb.below h
  have Hl : Hid (l.length ≤ 40000) := hl
  have Hm : Hid (m.length ≤ 40000) := hm
  obtain ⟨pa, ca, rfl⟩ := ha.len
  obtain ⟨pb, cb, rfl⟩ := hb.len
  have HJ : Hid (jnA l m = if rightA l && rightA m then leastF (l ++ m) else ([], 2)) := rfl
  clear ha hb hl hm
  generalize l.length = n1 at c1 Ha ⊢
  generalize m.length = n2 at c2 Hb ⊢
  cases hf : rightA l
  · rw [hf] at c1 HJ
    go_enter Tryz.func55, Tryz.ntmps55
    go_wp2_with fail
    refine c1.mono ?_
    rintro e w1 ⟨rfl, hB1⟩
    clear c1
    go_wp2
    go_ret2
    rw [HJ.out]
    exact ⟨_, rfl, World.ownsRow_nil _ _ _ _, hB1⟩
  · cases hg : rightA m
    · rw [hf] at c1 HJ
      rw [hg] at HJ
      simp only [hg] at c2
      go_enter Tryz.func55, Tryz.ntmps55
      go_wp2_with fail
      refine c1.mono ?_
      rintro e w1 ⟨rfl, hB1⟩
      clear c1
      replace c2 := c2 w1 hB1
      go_wp2_with fail
      refine c2.mono ?_
      rintro e w2 ⟨rfl, hB2⟩
      clear c2
      go_wp2
      go_ret2
      rw [HJ.out]
      exact ⟨_, rfl, World.ownsRow_nil _ _ _ _, chain hB1 hB2⟩
    · rw [hf] at c1 HJ
      rw [hg] at HJ
      simp only [hg] at c2
      go_enter Tryz.func55, Tryz.ntmps55
      go_wp2_with fail
      refine c1.mono ?_
      rintro e w1 ⟨rfl, hB1⟩
      clear c1
      replace c2 := c2 w1 hB1
      go_wp2_with fail
      refine c2.mono ?_
      rintro e w2 ⟨rfl, hB2⟩
      clear c2
      have hB := chain hB1 hB2
      have hE : OwnsC (w2.alloc (.cells #[] 38)) w.heap.size (.slice (some ⟨w2.heap.size, 0, none⟩) 0 0) [] := empty_row w2 _ hB.size
      have hB3 := chain hB (below_alloc w2 (.cells #[] 38))
      go_wp2_with (first
        | (at_builtin; refine wpList_append_row rfl _ _ rfl w.heap.size _ _ [] l rfl rfl hE (Ha.out _ hB3) (by have := Hl.out; simp; omega) hB3.size ?_; intro v4 w4 hO4 hg4 hv4; have hB4 := hB3.trans (own_grown hE hg4 hB3.size))
        | (at_builtin; refine wpList_append_row rfl _ _ rfl w.heap.size _ _ _ m rfl rfl hO4 (Hb.out _ hB4) (by have := Hl.out; have := Hm.out; simp; omega) hB4.size ?_; intro v5 w5 hO5 hg5 hv5; have hB5 := hB4.trans (own_grown hO4 hg5 hB4.size))
        | (go_at_call 108; refine (rcalm_any _ _ _ (OwnsC.row hO5) (by have := Hl.out; have := Hm.out; simp; omega)).mono ?_; rintro e w6 ⟨v6, rfl, hO6, hB6⟩))
      go_ret2
      rw [HJ.out]
      rw [List.nil_append, calm_same (app_ok (rightA_ok hf) (rightA_ok hg))] at *
      exact ⟨_, rfl, OwnsC.mono hO6 hB5.size, chain hB5 hB6⟩
/-! ### Under, Entails, Single, Holds -/
end Go.Proofs.YtpmmbfngogpinaaGreat
