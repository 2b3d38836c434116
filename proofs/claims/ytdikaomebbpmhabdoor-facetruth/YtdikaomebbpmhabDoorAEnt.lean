/- The layer face: Entails, Holds, All, Restrict: what they hand back, rows in new memory; nothing that lay before the call turns. -/
import Derived.Test.YtdikaomebbpmhabDoorAOf
namespace Go.Proofs.YtdikaomebbpmhabDoor
open Go.RowKit
set_option linter.unusedVariables false
set_option linter.unusedSimpArgs false

/-! ### Entails, Holds -/
theorem ent_filter (l m : List C) : ((((l.filter (fun c => !undB m c)).length : Nat) : Int) == 0) = entB l m := by
  rw [Bool.eq_iff_iff, beq_iff_eq, entB, List.all_eq_true]
  constructor
  · intro h c hc
    have h0 : l.filter (fun c => !undB m c) = [] := List.length_eq_zero_iff.1 (by omega)
    have := List.filter_eq_nil_iff.1 h0 c hc
    simpa using this
  · intro h
    have h0 : l.filter (fun c => !undB m c) = [] := List.filter_eq_nil_iff.2 (fun c hc => by simp [h c hc])
    rw [h0]; rfl
set_option maxHeartbeats 1000000 in
theorem Holds_any (l : List C) (v : Value) (c : C) (w : World) (hv : FRow w v l) (hl : l.length ≤ 40000) :
    Calls Tryd.prog 10 #[v, clV c] w fun e w' => e = .returned (.tuple #[.bool (hldA l c).1, .int .i64 (hldA l c).2]) ∧ Below w.heap.size w w' := by
  have hB := below_alloc w (.cells #[.int .u32 (c.1.val : Int), .int .u32 (c.2.val : Int)] 25)
  have hA := At.made w c 25
  have c1 := fun W (h : Below w.heap.size w W) => aright_any l v W (hv.below h) (by omega)
  have c2 := fun W => stands_any c W
  have c3 := fun W (h : Below w.heap.size w W) => holds_any l v c W (hv.row.below h) (by omega)
  have HJ : Hid (hldA l c = if rightA l && singleC c then (undB l c, 0) else (false, 2)) := rfl
  obtain ⟨pa, ca, rfl⟩ := hv.len
  clear hv
  generalize l.length = n1 at *
  generalize undB l c = r at c3 HJ
  cases hf : rightA l
  · rw [hf] at HJ
    go_enter Tryd.func10, Tryd.ntmps10
    go_wp2_with fail
    generalize w.alloc (.cells #[.int .u32 (c.1.val : Int), .int .u32 (c.2.val : Int)] 25) = wb at hB hA ⊢
    refine (c1 wb hB).mono ?_
    rintro e w1 ⟨rfl, hB1⟩
    rw [hf]
    clear c1
    go_wp2
    go_ret2
    rw [HJ.out]
    exact ⟨rfl, chain hB hB1⟩
  · cases hg : singleC c
    · rw [hf, hg] at HJ
      go_enter Tryd.func10, Tryd.ntmps10
      go_wp2_with fail
      generalize w.alloc (.cells #[.int .u32 (c.1.val : Int), .int .u32 (c.2.val : Int)] 25) = wb at hB hA ⊢
      refine (c1 wb hB).mono ?_
      rintro e w1 ⟨rfl, hB1⟩
      rw [hf]
      clear c1
      replace hB := chain hB hB1
      obtain ⟨z0, z1, z2⟩ := hA.below hB1
      clear hA
      go_wp2_with fail
      refine (c2 w1).mono ?_
      rintro e w2 ⟨rfl, hB2⟩
      rw [hg]
      clear c2
      go_wp2
      go_ret2
      rw [HJ.out]
      exact ⟨rfl, chain hB hB2⟩
    · rw [hf, hg] at HJ
      go_enter Tryd.func10, Tryd.ntmps10
      go_wp2_with fail
      generalize w.alloc (.cells #[.int .u32 (c.1.val : Int), .int .u32 (c.2.val : Int)] 25) = wb at hB hA ⊢
      refine (c1 wb hB).mono ?_
      rintro e w1 ⟨rfl, hB1⟩
      rw [hf]
      clear c1
      replace hB := chain hB hB1
      replace hA := hA.below hB1
      have hA0 := hA
      obtain ⟨z0, z1, z2⟩ := hA0
      go_wp2_with fail
      refine (c2 w1).mono ?_
      rintro e w2 ⟨rfl, hB2⟩
      rw [hg]
      clear c2 z0 z1 z2
      replace hB := chain hB hB2
      obtain ⟨z0, z1, z2⟩ := hA.below hB2
      clear hA
      replace c3 := c3 w2 hB
      go_wp2_with fail
      refine c3.mono ?_
      rintro e w3 ⟨rfl, hB3⟩
      clear c3
      go_wp2
      go_ret2
      rw [HJ.out]
      exact ⟨rfl, chain hB hB3⟩

/-! ### All -/
theorem has_or (x y : Nat) (i : Int) : hasB (x ||| y) i = (hasB x i || hasB y i) := by
  unfold hasB; rw [Nat.testBit_or]; cases isDimB i <;> simp
theorem nei_or (i : Int) (c : C) : neiB i c = !hasB (c.1.val ||| c.2.val) i := by rw [has_or, Bool.not_or]; rfl
set_option maxHeartbeats 1000000 in
theorem all1_any (i : Int) (B : Nat) (w : World) (hb : Boxed w B 3 (.int .i64 i)) : PredC 30 #[.pointer (some ⟨B, 0, none⟩)] (neiB i) w := fun W c hW => by
  have b0 := boxed_below hb hW
  have hne : B ≠ W.heap.size := by have := b0.lt; omega
  have y := (b0.alloc (.cells #[.int .u32 (c.1.val : Int), .int .u32 (c.2.val : Int)] 25)).cell
  clear b0 hb
  have e1 : bits BinOp.or IntKind.u32 (c.1.val : Int) (c.2.val : Int) = ((c.1.val ||| c.2.val : Nat) : Int) := bits_or32 _ _ c.1.isLt c.2.isLt
  have cH := has_any (c.1.val ||| c.2.val) i (W.alloc (.cells #[.int .u32 (c.1.val : Int), .int .u32 (c.2.val : Int)] 25)) (or_lt32 c.1.isLt c.2.isLt)
  rw [← e1] at cH
  clear e1
  have HN : Hid (neiB i c = !hasB (c.1.val ||| c.2.val) i) := nei_or i c
  generalize hasB (c.1.val ||| c.2.val) i = r at cH HN
  show Calls Tryd.prog 30 #[clV c, .pointer (some ⟨B, 0, none⟩)] W _
  go_enter Tryd.func30, Tryd.ntmps30
  go_wp2_with fail
  refine cH.mono ?_
  rintro e w' ⟨rfl, hw⟩
  replace hw := hw.symm
  subst hw
  clear cH
  go_wp2
  go_ret
  exact ⟨ret_bool HN.out.symm, below_alloc _ _⟩
set_option maxHeartbeats 1000000 in
theorem All_any (l : List C) (v : Value) (i : Int) (w : World) (hv : FRow w v l) (hl : l.length ≤ 40000) :
    Calls Tryd.prog 13 #[v, .int .i64 i] w fun e w' => ∃ v', e = .returned (.tuple #[v', .int .i64 (allA l i).2]) ∧ OwnsC w' w.heap.size v' (allA l i).1 ∧ Below w.heap.size w w' := by
  have eg : ∀ args w, (callFunc 30 args).run Tryd.prog w = .ok (.enter 30 args) w := enters_of Tryd.func30 (by kernel_rfl) rfl
  have hB := below_alloc w (.cells #[.int .i64 i] 3)
  have b1 := Boxed.new w 3 (.int .i64 i)
  have c1 := fun W (h : Below w.heap.size w W) => aright_any l v W (hv.below h) (by omega)
  have c2 := fun W => aisDim_any i W
  have c3 : ∀ W (h : Below w.heap.size w W) (hx : Boxed W w.heap.size 3 (.int .i64 i)), Calls Tryd.prog 21 #[v, .func (.func 30) #[] #[.pointer (some ⟨w.heap.size, 0, none⟩)]] W fun e w' => ∃ v, e = .returned v ∧ OwnsC w' W.heap.size v (allL l i) ∧ Below W.heap.size W w' :=
    fun W (h : Below w.heap.size w W) (hx : Boxed W w.heap.size 3 (.int .i64 i)) => kept_any 30 #[.pointer (some ⟨w.heap.size, 0, none⟩)] eg l v _ W (hv.row.below h) (by omega) (all1_any i w.heap.size W hx)
  have hfl : (allL l i).length ≤ 100000 := Nat.le_trans (List.length_filter_le _ _) (by omega)
  have HJ : Hid (allA l i = if rightA l && isDimB i then leastF (allL l i) else ([], 2)) := rfl
  obtain ⟨pa, ca, rfl⟩ := hv.len
  clear hv eg
  generalize l.length = n1 at *
  generalize allL l i = K at c3 HJ hfl
  cases hf : rightA l
  · rw [hf] at HJ
    go_enter Tryd.func13, Tryd.ntmps13
    go_wp2_with fail
    generalize w.alloc (.cells #[Value.int .i64 i] 3) = wb at hB b1 ⊢
    refine (c1 wb hB).mono ?_
    rintro e w1 ⟨rfl, hB1⟩
    rw [hf]
    clear c1
    go_wp2
    go_ret2
    rw [HJ.out]
    exact ⟨_, rfl, World.ownsRow_nil _ _ _ _, chain hB hB1⟩
  · cases hg : isDimB i
    · rw [hf, hg] at HJ
      go_enter Tryd.func13, Tryd.ntmps13
      go_wp2_with fail
      generalize w.alloc (.cells #[Value.int .i64 i] 3) = wb at hB b1 ⊢
      refine (c1 wb hB).mono ?_
      rintro e w1 ⟨rfl, hB1⟩
      rw [hf]
      clear c1
      replace hB := chain hB hB1
      replace b1 := boxed_below b1 hB1
      have y := b1.cell
      go_wp2_with fail
      refine (c2 w1).mono ?_
      rintro e w2 ⟨rfl, hw2⟩
      replace hw2 := hw2.symm
      subst hw2
      rw [hg]
      clear c2
      go_wp2
      go_ret2
      rw [HJ.out]
      exact ⟨_, rfl, World.ownsRow_nil _ _ _ _, hB⟩
    · rw [hf, hg] at HJ
      go_enter Tryd.func13, Tryd.ntmps13
      go_wp2_with fail
      generalize w.alloc (.cells #[Value.int .i64 i] 3) = wb at hB b1 ⊢
      refine (c1 wb hB).mono ?_
      rintro e w1 ⟨rfl, hB1⟩
      rw [hf]
      clear c1
      replace hB := chain hB hB1
      replace b1 := boxed_below b1 hB1
      have y := b1.cell
      go_wp2_with fail
      refine (c2 w1).mono ?_
      rintro e w2 ⟨rfl, hw2⟩
      replace hw2 := hw2.symm
      subst hw2
      rw [hg]
      clear c2
      replace c3 := c3 w1 hB b1
      go_wp2_with fail
      refine c3.mono ?_
      rintro e w3 ⟨v3, rfl, hO3, hB3⟩
      clear c3
      replace hB := chain hB hB3
      have cL := leastC K v3 w3 (OwnsC.row hO3) hfl
      obtain ⟨p3, q3, rfl⟩ := OwnsC.len hO3
      go_wp2_with fail
      refine cL.mono ?_
      rintro e w4 ⟨v4, rfl, hO4, hB4⟩
      clear cL
      go_wp2
      go_ret2
      rw [HJ.out]
      exact ⟨_, rfl, OwnsC.mono hO4 hB.size, chain hB hB4⟩

/-! ### Restrict -/
theorem flat_set (l : List C) (k : Nat) (d : C) (hk : k < l.length) : flat (l.set k d) = ((flat l).set (k * 2) (.int .u32 (d.1.val : Int))).set (k * 2 + 1) (.int .u32 (d.2.val : Int)) := by
  have hL := flat_length l
  generalize hx : Value.int .u32 (d.1.val : Int) = x
  generalize hy : Value.int .u32 (d.2.val : Int) = y
  refine List.ext_getElem? (fun q => ?_)
  rcases Nat.mod_two_eq_zero_or_one q with hm | hm
  · obtain ⟨j, rfl⟩ : ∃ j, q = j * 2 := ⟨q / 2, by omega⟩
    have e0 : (((flat l).set (k * 2) x).set (k * 2 + 1) y)[j * 2]? = ((flat l).set (k * 2) x)[j * 2]? := List.getElem?_set_ne (by omega)
    rw [e0, flat_get0]
    by_cases e : k = j
    · subst e
      have e1 : ((flat l).set (k * 2) x)[k * 2]? = some x := List.getElem?_set_self (by omega)
      rw [e1, List.getElem?_set_self hk, ← hx]; rfl
    · have e1 : ((flat l).set (k * 2) x)[j * 2]? = (flat l)[j * 2]? := List.getElem?_set_ne (by omega)
      rw [e1, List.getElem?_set_ne e, flat_get0]
  · obtain ⟨j, rfl⟩ : ∃ j, q = j * 2 + 1 := ⟨q / 2, by omega⟩
    rw [flat_get1]
    by_cases e : k = j
    · subst e
      have e1 : (((flat l).set (k * 2) x).set (k * 2 + 1) y)[k * 2 + 1]? = some y := List.getElem?_set_self (by rw [List.length_set]; omega)
      rw [e1, List.getElem?_set_self hk, ← hy]; rfl
    · have e0 : (((flat l).set (k * 2) x).set (k * 2 + 1) y)[j * 2 + 1]? = ((flat l).set (k * 2) x)[j * 2 + 1]? := List.getElem?_set_ne (by omega)
      have e1 : ((flat l).set (k * 2) x)[j * 2 + 1]? = (flat l)[j * 2 + 1]? := List.getElem?_set_ne (by omega)
      rw [e0, e1, List.getElem?_set_ne e, flat_get1]
/-- The row when its first k are cut. -/
def cutK (c : C) (L : List C) (k : Nat) : List C := (L.take k).map (cutC c) ++ L.drop k
theorem cutK_len (c : C) (L : List C) (k : Nat) : (cutK c L k).length = L.length := by simp [cutK]; omega
theorem cutK_zero (c : C) (L : List C) : cutK c L 0 = L := by simp [cutK]
theorem cutK_end (c : C) (L : List C) : cutK c L L.length = L.map (cutC c) := by simp [cutK]
theorem cutK_at {c a : C} {L : List C} {k : Nat} (h : L[k]? = some a) : (cutK c L k)[k]? = some a := by
  have hk : k < L.length := (List.getElem?_eq_some_iff.1 h).1
  unfold cutK
  rw [List.getElem?_append_right (by simp; omega), List.length_map, List.length_take, Nat.min_eq_left (by omega), Nat.sub_self, List.getElem?_drop, Nat.add_zero, h]
theorem cutK_step {c a : C} {L : List C} {k : Nat} (h : L[k]? = some a) : (cutK c L k).set k (cutC c a) = cutK c L (k + 1) := by
  have hk : k < L.length := (List.getElem?_eq_some_iff.1 h).1
  refine List.ext_getElem? (fun q => ?_)
  by_cases e : k = q
  · subst e
    rw [List.getElem?_set_self (by rw [cutK_len]; exact hk)]
    unfold cutK
    rw [List.getElem?_append_left (by simp; omega), List.getElem?_map, List.getElem?_take, if_pos (by omega), h]; rfl
  · rw [List.getElem?_set_ne e]
    unfold cutK
    rcases Nat.lt_or_ge q k with h1 | h1
    · rw [List.getElem?_append_left (by simp; omega), List.getElem?_append_left (by simp; omega), List.getElem?_map, List.getElem?_map, List.getElem?_take, List.getElem?_take, if_pos h1, if_pos (by omega)]
    · rw [List.getElem?_append_right (by simp; omega), List.getElem?_append_right (by simp; omega), List.length_map, List.length_map, List.length_take, List.length_take, Nat.min_eq_left (by omega), Nat.min_eq_left (by omega), List.getElem?_drop, List.getElem?_drop]
      congr 1; omega
theorem own_cut {W : World} {base g n cap : Nat} {c a : C} {L : List C} {k : Nat} (hn : n = L.length) (h : OwnsC W base (.slice (some ⟨g, 0, none⟩) n cap) (cutK c L k)) (hk : L[k]? = some a) :
    W.cell? ⟨g, k * 2, none⟩ = some (.int .u32 (a.1.val : Int)) ∧ W.cell? ⟨g, k * 2 + 1, none⟩ = some (.int .u32 (a.2.val : Int)) ∧ W.frozen? ⟨g, k * 2, none⟩ = false ∧ W.frozen? ⟨g, k * 2 + 1, none⟩ = false ∧ g < W.heap.size ∧ base ≤ g := by
  have hlt : k < L.length := (List.getElem?_eq_some_iff.1 hk).1
  have h2 : W.ownsRow base 25 2 (.slice (some ⟨g, 0, none⟩) n cap) n (flat (cutK c L k)) := by
    have := h; unfold OwnsC at this; rw [cutK_len, ← hn] at this; exact this
  have hl := World.ownsRow.lt h g rfl
  refine ⟨?_, ?_, World.ownsRow.frozenAt h2 _, World.ownsRow.frozenAt h2 _, hl.2, hl.1⟩
  · rw [World.ownsRow.cellAt h2 (k * 2) (by omega), flat_get0, cutK_at hk]; rfl
  · rw [World.ownsRow.cellAt h2 (k * 2 + 1) (by omega), flat_get1, cutK_at hk]; rfl
theorem own_cut_set {W : World} {base g n cap : Nat} {c a : C} {L : List C} {k : Nat} (hn : n = L.length) (h : OwnsC W base (.slice (some ⟨g, 0, none⟩) n cap) (cutK c L k)) (hk : L[k]? = some a) (hb : base ≤ W.heap.size) :
    OwnsC ((W.setCell ⟨g, k * 2, none⟩ (.int .u32 ((andNot32 a.1.val c.1.val : Nat) : Int))).setCell ⟨g, k * 2 + 1, none⟩ (.int .u32 ((andNot32 a.2.val c.2.val : Nat) : Int))) base (.slice (some ⟨g, 0, none⟩) n cap) (cutK c L (k + 1)) ∧
    Below base W ((W.setCell ⟨g, k * 2, none⟩ (.int .u32 ((andNot32 a.1.val c.1.val : Nat) : Int))).setCell ⟨g, k * 2 + 1, none⟩ (.int .u32 ((andNot32 a.2.val c.2.val : Nat) : Int))) := by
  have hlt : k < L.length := (List.getElem?_eq_some_iff.1 hk).1
  have h2 : W.ownsRow base 25 2 (.slice (some ⟨g, 0, none⟩) n cap) n (flat (cutK c L k)) := by
    have := h; unfold OwnsC at this; rw [cutK_len, ← hn] at this; exact this
  have s1 := World.ownsRow.stored h2 (k * 2) (.int .u32 ((andNot32 a.1.val c.1.val : Nat) : Int))
  have s2 := World.ownsRow.stored s1.1 (k * 2 + 1) (.int .u32 ((andNot32 a.2.val c.2.val : Nat) : Int))
  refine ⟨?_, ?_⟩
  · unfold OwnsC
    rw [cutK_len, ← hn, ← cutK_step hk, flat_set _ _ _ (by rw [cutK_len]; exact hlt)]
    exact s2.1
  · have hg := (World.ownsRow.lt h g rfl).1
    have b1 := (Below.refl base W).grown s1.2 hb (fun k hk => by injection hk with hk; omega)
    exact b1.grown s2.2 (Nat.le_trans hb b1.size) (fun k hk => by injection hk with hk; omega)
theorem rst1_any (c : C) (B : Nat) (w : World) (hA : At w B c) : PredC 27 #[.pointer (some ⟨B, 0, none⟩)] (withC c) w := fun W a hb => by
  obtain ⟨g0, g1, hBW⟩ := hA.below hb
  have hne : B ≠ W.heap.size := by omega
  show Calls Tryd.prog 27 #[clV a, .pointer (some ⟨B, 0, none⟩)] W _
  go_enter Tryd.func27, Tryd.ntmps27
  go_wp2_with (first
    | (go_at_call 28; refine (meet_any a c _).mono ?_; rintro e w1 ⟨rfl, hG⟩)
    | (go_at_call 22; refine (can_any _ _).mono ?_; rintro e w2 ⟨rfl, hB2⟩))
  go_ret
  exact ⟨rfl, chain (chain (below_alloc _ _) hG.below) hB2⟩
set_option maxRecDepth 100000 in
set_option maxHeartbeats 2000000 in
theorem Restrict_any (l : List C) (v : Value) (c : C) (w : World) (hv : FRow w v l) (hl : l.length ≤ 40000) :
    Calls Tryd.prog 12 #[v, clV c] w fun e w' => ∃ v', e = .returned (.tuple #[v', .int .i64 (rstA l c).2]) ∧ OwnsC w' w.heap.size v' (rstA l c).1 ∧ Below w.heap.size w w' := by
  have eg : ∀ args w, (callFunc 27 args).run Tryd.prog w = .ok (.enter 27 args) w := enters_of Tryd.func27 (by kernel_rfl) rfl
  have hB := below_alloc w (.cells #[.int .u32 (c.1.val : Int), .int .u32 (c.2.val : Int)] 25)
  have hA := At.made w c 25
  have c1 := fun W (h : Below w.heap.size w W) => aright_any l v W (hv.below h) (by omega)
  have c2 := fun W => stands_any c W
  have c3 := fun W (h : Below w.heap.size w W) (hx : At W w.heap.size c) => kept_any 27 #[.pointer (some ⟨w.heap.size, 0, none⟩)] eg l v (withC c) W (hv.row.below h) (by omega) (rst1_any c w.heap.size W hx)
  have hfl : (l.filter (withC c)).length ≤ 40000 := Nat.le_trans (List.length_filter_le _ _) (by omega)
  have HJ : Hid (rstA l c = if rightA l && singleC c then leastF ((l.filter (withC c)).map (cutC c)) else ([], 2)) := rfl
  obtain ⟨pa, ca, rfl⟩ := hv.len
  clear hv eg
  generalize l.length = n1 at *
  generalize l.filter (withC c) = L at c3 HJ hfl
  cases hf : rightA l
  · rw [hf] at HJ
    go_enter Tryd.func12, Tryd.ntmps12
    go_wp2_with fail
    generalize w.alloc (.cells #[.int .u32 (c.1.val : Int), .int .u32 (c.2.val : Int)] 25) = wb at hB hA ⊢
    refine (c1 wb hB).mono ?_
    rintro e w1 ⟨rfl, hB1⟩
    rw [hf]
    clear c1
    go_wp2
    go_ret2
    rw [HJ.out]
    exact ⟨_, rfl, World.ownsRow_nil _ _ _ _, chain hB hB1⟩
  · cases hg : singleC c
    · rw [hf, hg] at HJ
      go_enter Tryd.func12, Tryd.ntmps12
      go_wp2_with fail
      generalize w.alloc (.cells #[.int .u32 (c.1.val : Int), .int .u32 (c.2.val : Int)] 25) = wb at hB hA ⊢
      refine (c1 wb hB).mono ?_
      rintro e w1 ⟨rfl, hB1⟩
      rw [hf]
      clear c1
      replace hB := chain hB hB1
      obtain ⟨z0, z1, z2⟩ := hA.below hB1
      clear hA
      go_wp2_with fail
      refine (c2 w1).mono ?_
      rintro e w2 ⟨rfl, hB2⟩
      rw [hg]
      clear c2
      go_wp2
      go_ret2
      rw [HJ.out]
      exact ⟨_, rfl, World.ownsRow_nil _ _ _ _, chain hB hB2⟩
    · rw [hf, hg] at HJ
      have HJ2 : Hid (rstA l c = leastF (L.map (cutC c))) := HJ.out
      clear HJ
      go_enter Tryd.func12, Tryd.ntmps12
      go_wp2_with fail
      generalize w.alloc (.cells #[.int .u32 (c.1.val : Int), .int .u32 (c.2.val : Int)] 25) = wb at hB hA ⊢
      refine (c1 wb hB).mono ?_
      rintro e w1 ⟨rfl, hB1⟩
      rw [hf]
      clear c1
      replace hB := chain hB hB1
      replace hA := hA.below hB1
      have hA0 := hA
      obtain ⟨z0, z1, z2⟩ := hA0
      go_wp2_with fail
      refine (c2 w1).mono ?_
      rintro e wk ⟨rfl, hB2⟩
      rw [hg]
      clear c2 z0 z1 z2
      replace hB := chain hB hB2
      replace hA := hA.below hB2
      replace c3 := c3 wk hB hA
      go_wp2_with fail
      refine c3.mono ?_
      rintro e w3 ⟨v3, rfl, hO3, hB3⟩
      clear c3 hf hg hB1 hB2
      have cL := fun v4 W4 (h : CRow W4 v4 (L.map (cutC c))) => leastC (L.map (cutC c)) v4 W4 h (by rw [List.length_map]; omega)
      rcases hO3.form with ⟨rfl, rfl⟩ | ⟨g, cap, rfl, hg1, hg2, _⟩
      · go_wp2
        go_loop [22] (fun i => i = .int .i64 0) (fun _ => 0)
        case atStart => rfl
        case round =>
          subst hrel
          replace cL := cL (.slice none 0 0) w3 (OwnsC.row hO3)
          go_wp2_with fail
          refine cL.mono ?_
          rintro e w4 ⟨v4, rfl, hO4, hB4⟩
          clear cL
          go_wp2
          go_ret2
          rw [HJ2.out]
          exact ⟨_, rfl, OwnsC.mono hO4 (chain hB hB3).size, chain (chain hB hB3) hB4⟩
      · have HO3 : Hid (OwnsC w3 wk.heap.size (.slice (some ⟨g, 0, none⟩) L.length cap) L) := hO3
        obtain ⟨n, hn⟩ : ∃ n, n = L.length := ⟨_, rfl⟩
        have Hn : Hid (n = L.length) := hn
        rw [← hn] at hfl HO3 ⊢
        clear hn hO3
        go_wp2
        go_loopw [22] (fun i wr => ∃ k : Nat, k ≤ n ∧ i = .int .i64 k ∧ Hid (OwnsC wr wk.heap.size (.slice (some ⟨g, 0, none⟩) n cap) (cutK c L k)) ∧ Below wk.heap.size wk wr) (fun i _ => n - (intOf i).toNat)
        case atStart => exact ⟨0, Nat.zero_le _, rfl, by rw [cutK_zero]; exact HO3, hB3⟩
        case round =>
          obtain ⟨k, hk, rfl, hOk, hny⟩ := hrel
          by_cases hlt : k < n
          · obtain ⟨a, hak⟩ := get_some (l := L) (k := k) (by rw [← Hn.out]; exact hlt)
            obtain ⟨x0, x1, f0, f1, hgl, hgb⟩ := own_cut Hn.out hOk.out hak
            obtain ⟨z0, z1, z2⟩ := hA.below hny
            have hne1 : g ≠ wr.heap.size := by omega
            have hne2 : w.heap.size ≠ wr.heap.size := by omega
            have hne3 : g ≠ w.heap.size := by have := hA.2.2; omega
            have HS : Hid (_ ∧ _) := own_cut_set (c := c) Hn.out hOk.out hak hny.size
            have e1 : bits BinOp.andNot IntKind.u32 (a.1.val : Int) (c.1.val : Int) = ((andNot32 a.1.val c.1.val : Nat) : Int) := bits_andNot32 _ _
            have e2 : bits BinOp.andNot IntKind.u32 (a.2.val : Int) (c.2.val : Int) = ((andNot32 a.2.val c.2.val : Nat) : Int) := bits_andNot32 _ _
            clear hak
            go_wp2
            go_roundw
            case rel => exact ⟨k + 1, by omega, by go_num, OwnsC.below HS.out.1 (below_alloc _ _), chain (hny.trans HS.out.2) (below_alloc _ _)⟩
            case measure => simp [intOf]; omega
          · obtain rfl : k = n := by omega
            have hO4 := hOk.out
            rw [Hn.out, cutK_end] at hO4
            rw [← Hn.out] at hO4
            replace cL := cL _ wr (OwnsC.row hO4)
            clear hO4 hOk
            go_wp2_with fail
            refine cL.mono ?_
            rintro e w4 ⟨v4, rfl, hO4, hB4⟩
            clear cL
            go_wp2
            go_ret2
            rw [HJ2.out]
            exact ⟨_, rfl, OwnsC.mono hO4 (chain hB hny).size, chain (chain hB hny) hB4⟩
end Go.Proofs.YtdikaomebbpmhabDoor
