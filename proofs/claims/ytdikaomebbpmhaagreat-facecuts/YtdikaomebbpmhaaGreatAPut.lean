/- The layer face: Put: a formula in a dimension's place; the answer in new memory; nothing that lay before the call turns. -/
import Derived.Test.YtdikaomebbpmhaaGreatAOf
import Derived.Test.YtdikaomebbpmhaaGreatAPutM
namespace Go.Proofs.YtdikaomebbpmhaaGreat
open Go.RowKit Go.Shelf
set_option linter.unusedVariables false
set_option linter.unusedSimpArgs false

theorem below_drewA (w : World) : Below w.heap.size w w.drew := below_drewN (Below.refl _ w) 1
theorem put1_any (i : Int) (B : Nat) (w : World) (hb : Boxed w B 3 (.int .i64 i)) : PredC 33 #[.pointer (some ⟨B, 0, none⟩)] (fun x => hasB x.2.val i) w := fun W c hW => by
  have b0 := boxed_below hb hW
  have hne : B ≠ W.heap.size := by have := b0.lt; omega
  have y := (b0.alloc (.cells #[.int .u32 (c.1.val : Int), .int .u32 (c.2.val : Int)] 25)).cell
  have hx := c.2.isLt
  clear b0 hb
  show Calls Tryz.prog 33 #[clV c, .pointer (some ⟨B, 0, none⟩)] W _
  go_enter Tryz.func33, Tryz.ntmps33
  go_wp2_with (go_at_call 30; refine (has_any _ _ _ (by assumption)).mono ?_; rintro e w' ⟨rfl, hw⟩; replace hw := hw.symm; subst hw)
  go_ret
  exact ⟨rfl, below_alloc _ _⟩
set_option maxRecDepth 100000 in
set_option maxHeartbeats 1000000 in
theorem aputC_p (c : C) (i : Int) (one zero : List C) (vo vz : Value) (w : World) (ho : CRow w vo one) (hz : CRow w vz zero) (lo : one.length ≤ 64) (lz : zero.length ≤ 64) (hp : hasB c.1.val i = true) :
    Calls Tryz.prog 35 #[clV c, .int .i64 i, vo, vz] w fun e w' => ∃ v, e = .returned (.tuple #[v, .int .i64 (prtA c i one (zero, 0)).2]) ∧ OwnsC w' w.heap.size v (prtA c i one (zero, 0)).1 ∧ Below w.heap.size w w' := by
  have HP : Hid (prtA c i one (zero, 0) = mtR [outC c i] one) := prt_p hp
  have hc1 := c.1.isLt
  have hc2 := c.2.isLt
  have hA := At.made w c 25
  have hB := below_alloc w (.cells #[.int .u32 (c.1.val : Int), .int .u32 (c.2.val : Int)] 25)
  obtain ⟨pr, cr, rfl⟩ := ho.len
  obtain ⟨pn, cn, rfl⟩ := hz.len
  have Hr : Hid (∀ W, Below w.heap.size w W → CRow W (.slice pr one.length cr) one) := fun W h => ho.below h
  have Hn : Hid (∀ W, Below w.heap.size w W → CRow W (.slice pn zero.length cn) zero) := fun W h => hz.below h
  have HA : Hid (At (w.alloc (.cells #[.int .u32 (c.1.val : Int), .int .u32 (c.2.val : Int)] 25)) w.heap.size c) := hA
  clear ho hz hA
  go_enter Tryz.func35, Tryz.ntmps35
  go_wp2_with fail
  generalize (w.alloc (.cells #[.int .u32 (c.1.val : Int), .int .u32 (c.2.val : Int)] 25)) = wb at HA hB ⊢
  have hA0 := HA.out
  have z0 := hA0.1
  have z1 := hA0.2.1
  go_region_held3 (fun w' => w'.cell? ⟨w.heap.size, 0, none⟩ = some (.int .u32 (c.1.val : Int)) ∧ w'.cell? ⟨w.heap.size, 1, none⟩ = some (.int .u32 (c.2.val : Int))) (go_keep)
    (first | (go_at_call 58; refine (without_any _ _ _ (by assumption)).mono ?_; rintro e w1 ⟨rfl, hw1⟩; replace hw1 := hw1.symm; subst hw1))
  have hX := chain (below_alloc wb (.cells #[.int .u32 (withoutN c.1.val i : Nat), .int .u32 (withoutN c.2.val i : Nat)] 25)) (below_drewA (wb.alloc (.cells #[.int .u32 (withoutN c.1.val i : Nat), .int .u32 (withoutN c.2.val i : Nat)] 25)))
  have hB7 := chain hB hX
  have hA7 := hA0.below hX
  have hOg : OwnsC (wb.alloc (.cells #[.int .u32 (withoutN c.1.val i : Nat), .int .u32 (withoutN c.2.val i : Nat)] 25)).drew w.heap.size (.slice (some ⟨wb.heap.size, 0, none⟩) 1 1) [outC c i] := OwnsC.below (own_one1 wb (outC c i) _ hB.size) (below_drewA _)
  clear z0 z1 hA0 HA hX
  go_wp2_with fail
  generalize (wb.alloc (.cells #[.int .u32 (withoutN c.1.val i : Nat), .int .u32 (withoutN c.2.val i : Nat)] 25)).drew = w7 at hB7 hA7 hOg ⊢
  refine (has_any _ _ _ (by assumption)).mono ?_
  rintro e w0 ⟨rfl, hw0⟩
  replace hw0 := hw0.symm
  subst hw0
  rw [hp]
  have cM := ameet_any [outC c i] one _ _ w7 (OwnsC.row hOg) (Hr.out w7 hB7) (by simp) (by omega)
  go_wp2_with fail
  refine cM.mono ?_
  rintro e w8 ⟨v8, rfl, hO8, hB8⟩
  clear cM
  go_wp2
  go_ret2
  rw [HP.out]
  exact ⟨_, rfl, OwnsC.mono hO8 hB7.size, chain hB7 hB8⟩
set_option maxRecDepth 100000 in
set_option maxHeartbeats 1000000 in
theorem aputC_n (c : C) (i : Int) (one zero : List C) (vo vz : Value) (w : World) (ho : CRow w vo one) (hz : CRow w vz zero) (lo : one.length ≤ 64) (lz : zero.length ≤ 64) (hp : hasB c.1.val i = false) (hq : hasB c.2.val i = true) :
    Calls Tryz.prog 35 #[clV c, .int .i64 i, vo, vz] w fun e w' => ∃ v, e = .returned (.tuple #[v, .int .i64 (prtA c i one (zero, 0)).2]) ∧ OwnsC w' w.heap.size v (prtA c i one (zero, 0)).1 ∧ Below w.heap.size w w' := by
  have HP : Hid (prtA c i one (zero, 0) = mtR [outC c i] zero) := (prt_n hp hq).trans (if_pos rfl)
  have hc1 := c.1.isLt
  have hc2 := c.2.isLt
  have hA := At.made w c 25
  have hB := below_alloc w (.cells #[.int .u32 (c.1.val : Int), .int .u32 (c.2.val : Int)] 25)
  obtain ⟨pr, cr, rfl⟩ := ho.len
  obtain ⟨pn, cn, rfl⟩ := hz.len
  have Hr : Hid (∀ W, Below w.heap.size w W → CRow W (.slice pr one.length cr) one) := fun W h => ho.below h
  have Hn : Hid (∀ W, Below w.heap.size w W → CRow W (.slice pn zero.length cn) zero) := fun W h => hz.below h
  have HA : Hid (At (w.alloc (.cells #[.int .u32 (c.1.val : Int), .int .u32 (c.2.val : Int)] 25)) w.heap.size c) := hA
  clear ho hz hA
  go_enter Tryz.func35, Tryz.ntmps35
  go_wp2_with fail
  generalize (w.alloc (.cells #[.int .u32 (c.1.val : Int), .int .u32 (c.2.val : Int)] 25)) = wb at HA hB ⊢
  have hA0 := HA.out
  have z0 := hA0.1
  have z1 := hA0.2.1
  go_region_held3 (fun w' => w'.cell? ⟨w.heap.size, 0, none⟩ = some (.int .u32 (c.1.val : Int)) ∧ w'.cell? ⟨w.heap.size, 1, none⟩ = some (.int .u32 (c.2.val : Int))) (go_keep)
    (first | (go_at_call 58; refine (without_any _ _ _ (by assumption)).mono ?_; rintro e w1 ⟨rfl, hw1⟩; replace hw1 := hw1.symm; subst hw1))
  have hX := chain (below_alloc wb (.cells #[.int .u32 (withoutN c.1.val i : Nat), .int .u32 (withoutN c.2.val i : Nat)] 25)) (below_drewA (wb.alloc (.cells #[.int .u32 (withoutN c.1.val i : Nat), .int .u32 (withoutN c.2.val i : Nat)] 25)))
  have hB7 := chain hB hX
  have hA7 := hA0.below hX
  have hOg : OwnsC (wb.alloc (.cells #[.int .u32 (withoutN c.1.val i : Nat), .int .u32 (withoutN c.2.val i : Nat)] 25)).drew w.heap.size (.slice (some ⟨wb.heap.size, 0, none⟩) 1 1) [outC c i] := OwnsC.below (own_one1 wb (outC c i) _ hB.size) (below_drewA _)
  clear z0 z1 hA0 HA hX
  go_wp2_with fail
  generalize (wb.alloc (.cells #[.int .u32 (withoutN c.1.val i : Nat), .int .u32 (withoutN c.2.val i : Nat)] 25)).drew = w7 at hB7 hA7 hOg ⊢
  refine (has_any _ _ _ (by assumption)).mono ?_
  rintro e w0 ⟨rfl, hw0⟩
  replace hw0 := hw0.symm
  subst hw0
  rw [hp]
  obtain ⟨z0, z1, z2⟩ := hA7
  go_wp2_with fail
  refine (has_any _ _ _ (by assumption)).mono ?_
  rintro e w0 ⟨rfl, hw0⟩
  replace hw0 := hw0.symm
  subst hw0
  rw [hq]
  have cM := ameet_any [outC c i] zero _ _ w7 (OwnsC.row hOg) (Hn.out w7 hB7) (by simp) (by omega)
  go_wp2_with fail
  refine cM.mono ?_
  rintro e w8 ⟨v8, rfl, hO8, hB8⟩
  clear cM
  go_wp2
  go_ret2
  rw [HP.out]
  exact ⟨_, rfl, OwnsC.mono hO8 hB7.size, chain hB7 hB8⟩
set_option maxRecDepth 100000 in
set_option maxHeartbeats 1000000 in
theorem aputC_o (c : C) (i : Int) (one zero : List C) (vo vz : Value) (w : World) (ho : CRow w vo one) (hz : CRow w vz zero) (lo : one.length ≤ 64) (lz : zero.length ≤ 64) (hp : hasB c.1.val i = false) (hq : hasB c.2.val i = false) :
    Calls Tryz.prog 35 #[clV c, .int .i64 i, vo, vz] w fun e w' => ∃ v, e = .returned (.tuple #[v, .int .i64 (prtA c i one (zero, 0)).2]) ∧ OwnsC w' w.heap.size v (prtA c i one (zero, 0)).1 ∧ Below w.heap.size w w' := by
  have HP : Hid (prtA c i one (zero, 0) = ([outC c i], 0)) := prt_o hp hq
  have hc1 := c.1.isLt
  have hc2 := c.2.isLt
  have hA := At.made w c 25
  have hB := below_alloc w (.cells #[.int .u32 (c.1.val : Int), .int .u32 (c.2.val : Int)] 25)
  obtain ⟨pr, cr, rfl⟩ := ho.len
  obtain ⟨pn, cn, rfl⟩ := hz.len
  have Hr : Hid (∀ W, Below w.heap.size w W → CRow W (.slice pr one.length cr) one) := fun W h => ho.below h
  have Hn : Hid (∀ W, Below w.heap.size w W → CRow W (.slice pn zero.length cn) zero) := fun W h => hz.below h
  have HA : Hid (At (w.alloc (.cells #[.int .u32 (c.1.val : Int), .int .u32 (c.2.val : Int)] 25)) w.heap.size c) := hA
  clear ho hz hA
  go_enter Tryz.func35, Tryz.ntmps35
  go_wp2_with fail
  generalize (w.alloc (.cells #[.int .u32 (c.1.val : Int), .int .u32 (c.2.val : Int)] 25)) = wb at HA hB ⊢
  have hA0 := HA.out
  have z0 := hA0.1
  have z1 := hA0.2.1
  go_region_held3 (fun w' => w'.cell? ⟨w.heap.size, 0, none⟩ = some (.int .u32 (c.1.val : Int)) ∧ w'.cell? ⟨w.heap.size, 1, none⟩ = some (.int .u32 (c.2.val : Int))) (go_keep)
    (first | (go_at_call 58; refine (without_any _ _ _ (by assumption)).mono ?_; rintro e w1 ⟨rfl, hw1⟩; replace hw1 := hw1.symm; subst hw1))
  have hX := chain (below_alloc wb (.cells #[.int .u32 (withoutN c.1.val i : Nat), .int .u32 (withoutN c.2.val i : Nat)] 25)) (below_drewA (wb.alloc (.cells #[.int .u32 (withoutN c.1.val i : Nat), .int .u32 (withoutN c.2.val i : Nat)] 25)))
  have hB7 := chain hB hX
  have hA7 := hA0.below hX
  have hOg : OwnsC (wb.alloc (.cells #[.int .u32 (withoutN c.1.val i : Nat), .int .u32 (withoutN c.2.val i : Nat)] 25)).drew w.heap.size (.slice (some ⟨wb.heap.size, 0, none⟩) 1 1) [outC c i] := OwnsC.below (own_one1 wb (outC c i) _ hB.size) (below_drewA _)
  clear z0 z1 hA0 HA hX
  go_wp2_with fail
  generalize (wb.alloc (.cells #[.int .u32 (withoutN c.1.val i : Nat), .int .u32 (withoutN c.2.val i : Nat)] 25)).drew = w7 at hB7 hA7 hOg ⊢
  refine (has_any _ _ _ (by assumption)).mono ?_
  rintro e w0 ⟨rfl, hw0⟩
  replace hw0 := hw0.symm
  subst hw0
  rw [hp]
  obtain ⟨z0, z1, z2⟩ := hA7
  go_wp2_with fail
  refine (has_any _ _ _ (by assumption)).mono ?_
  rintro e w0 ⟨rfl, hw0⟩
  replace hw0 := hw0.symm
  subst hw0
  rw [hq]
  go_wp2
  go_ret2
  rw [HP.out]
  exact ⟨_, rfl, hOg, hB7⟩
theorem aputC_any (c : C) (i : Int) (one zero : List C) (vo vz : Value) (w : World) (ho : CRow w vo one) (hz : CRow w vz zero) (lo : one.length ≤ 64) (lz : zero.length ≤ 64) :
    Calls Tryz.prog 35 #[clV c, .int .i64 i, vo, vz] w fun e w' => ∃ v, e = .returned (.tuple #[v, .int .i64 (prtA c i one (zero, 0)).2]) ∧ OwnsC w' w.heap.size v (prtA c i one (zero, 0)).1 ∧ Below w.heap.size w w' := by
  cases hp : hasB c.1.val i
  · cases hq : hasB c.2.val i
    · exact aputC_o c i one zero vo vz w ho hz lo lz hp hq
    · exact aputC_n c i one zero vo vz w ho hz lo lz hp hq
  · exact aputC_p c i one zero vo vz w ho hz lo lz hp

set_option maxRecDepth 100000 in
set_option maxHeartbeats 4000000 in
theorem APut_any (l r : List C) (i : Int) (vl vr : Value) (w : World) (hl : FRow w vl l) (hr : FRow w vr r) (hll : l.length ≤ 40000) (hrl : r.length ≤ 40000) :
    Calls Tryz.prog 10 #[vl, .int .i64 i, vr] w fun e w' => ∃ v, e = .returned (.tuple #[v, .int .i64 (ptA l i r).2]) ∧ OwnsC w' w.heap.size v (ptA l i r).1 ∧ Below w.heap.size w w' := by
  have eg : ∀ args w, (callFunc 33 args).run Tryz.prog w = .ok (.enter 33 args) w := enters_of Tryz.func33 (by kernel_rfl) rfl
  have HJ : Hid (ptA l i r = if rightA l && isDimB i && rightF r then ptS l i (ofF r).1 (ofZ r) else ([], 2)) := rfl
  have hB := below_alloc w (.cells #[.int .i64 i] 3)
  have b1 := Boxed.new w 3 (.int .i64 i)
  have c1 := fun W (h : Below w.heap.size w W) => aright_any l vl W (hl.below h) (by omega)
  have c2 := fun W => aisDim_any i W
  have c3 := fun W (h : Below w.heap.size w W) => Of_any r vr W (hr.below h) hrl
  have c4 := fun W (h : Below w.heap.size w W) (hx : Boxed W w.heap.size 3 (.int .i64 i)) => has_row l vl W (hl.row.below h) (by omega) _ 33 _ eg (put1_any i w.heap.size W hx).pred
  have c5 := fun W (h : Below w.heap.size w W) => OfZero_any r vr W (hr.below h) hrl
  have Hl : Hid (∀ W, Below w.heap.size w W → FRow W vl l) := fun W h => hl.below h
  have hOl := rightA_len (ofF_right r)
  have hZl := rightA_len (ofZ_right r)
  obtain ⟨pl, cl, rfl⟩ := hl.len
  obtain ⟨pr, cr, rfl⟩ := hr.len
  clear hl hr eg
  obtain ⟨n, hn⟩ : ∃ n, n = l.length := ⟨_, rfl⟩
  have Hn : Hid (n = l.length) := hn
  rw [← hn] at hll Hl c1 c4 ⊢
  clear hn
  generalize r.length = n2 at *
  cases hf : rightA l
  · rw [hf] at HJ
    go_enter Tryz.func10, Tryz.ntmps10
    go_wp2_with fail
    generalize w.alloc (.cells #[Value.int .i64 i] 3) = wb at hB b1 ⊢
    refine (c1 wb hB).mono ?_
    rintro e w1 ⟨rfl, hB1⟩
    rw [hf]
    clear c1
    go_wp2
    go_ret2
    rw [HJ.out]
    exact ⟨_, rfl, World.ownsRow_nil _ _ _ _, chain hB hB1⟩
  · have HOk : Hid (∀ c ∈ l, okC c = true) := rightA_ok hf
    go_enter Tryz.func10, Tryz.ntmps10
    go_wp2_with fail
    generalize w.alloc (.cells #[Value.int .i64 i] 3) = wb at hB b1 ⊢
    refine (c1 wb hB).mono ?_
    rintro e w1 ⟨rfl, hB1⟩
    rw [hf] at HJ ⊢
    clear c1
    replace hB := chain hB hB1
    replace b1 := boxed_below b1 hB1
    clear hB1
    have y := b1.cell
    replace c2 := c2 w1
    cases hi : isDimB i
    · rw [hi] at HJ c2
      go_wp2_with fail
      refine c2.mono ?_
      rintro e w2 ⟨rfl, hw2⟩
      replace hw2 := hw2.symm
      subst hw2
      clear c2
      go_wp2
      go_ret2
      rw [HJ.out]
      exact ⟨_, rfl, World.ownsRow_nil _ _ _ _, hB⟩
    · rw [hi] at HJ c2
      go_wp2_with fail
      refine c2.mono ?_
      rintro e w2 ⟨rfl, hw2⟩
      replace hw2 := hw2.symm
      subst hw2
      clear c2 y
      replace c3 := c3 w1 hB
      cases hg : rightF r
      · have hE : ofF r = ([], 2) := by simp [ofF, hg]
        rw [hg] at HJ
        rw [hE] at c3
        clear hE hOl
        dsimp only at c3
        go_wp2_with fail
        refine c3.mono ?_
        rintro e w3 ⟨v3, rfl, hO3, hB3⟩
        clear c3
        obtain ⟨p3, q3, rfl⟩ := OwnsC.len hO3
        go_wp2
        go_ret2
        rw [HJ.out]
        exact ⟨_, rfl, World.ownsRow_nil _ _ _ _, chain hB hB3⟩
      · rw [hg] at HJ
        have HT : Hid (ToldA (ofZ r)) := ToldA.ofZ hg
        have hO2 := ofF_told hg
        have HJ2 : Hid (ptA l i r = ptS l i (ofF r).1 (ofZ r)) := HJ.out
        clear HJ
        generalize ofF r = PO at c3 hO2 HJ2 hOl
        obtain ⟨O, oe⟩ := PO
        obtain rfl : oe = 0 := hO2
        dsimp only at c3 HJ2 hOl
        go_wp2_with fail
        refine c3.mono ?_
        rintro e w3 ⟨v3, rfl, hO3, hB3⟩
        clear c3
        replace hB := chain hB hB3
        replace b1 := boxed_below b1 hB3
        have RO := OwnsC.row hO3
        obtain ⟨p3, q3, rfl⟩ := OwnsC.len hO3
        clear hO3 hB3
        replace c4 := c4 w3 hB b1
        cases ha : l.any (fun x => hasB x.2.val i)
        · have HE0 : Hid (ptA l i r = ptS l i O ([], 0)) := HJ2.out.trans (ptS_off ha)
          rw [ha] at c4
          go_wp2_with fail
          refine c4.mono ?_
          rintro e wL ⟨rfl, hB4⟩
          clear c4
          replace hB := chain hB hB4
          replace b1 := boxed_below b1 hB4
          replace RO := RO.below hB4
          clear hB4 HJ2 HT c5
          have TZ : Hid (ToldA (([] : List C), 0)) := .inl ⟨rfl, rightA_nil⟩
          have RZ : CRow wL (.slice none 0 0) [] := .inl ⟨_, _, rfl, rfl⟩
          have hB0 := hB
          go_wp2
          go_loopw [11, 45] (fun v j wr => ∃ k : Nat, k ≤ n ∧ j = .int .i64 k ∧ (ptS (l.take k) i O (([] : List C), 0)).2 = 0 ∧ OwnsC wr w.heap.size v (ptS (l.take k) i O (([] : List C), 0)).1 ∧ Below wL.heap.size wL wr) (fun _ j _ => n - (intOf j).toNat)
          case atStart => exact ⟨0, Nat.zero_le _, rfl, rfl, World.ownsRow_nil _ _ _ _, Below.refl _ _⟩
          case round =>
            obtain ⟨k, hk, rfl, hz, hO, hny⟩ := hrel
            have HZ : Hid ((ptS (l.take k) i O (([] : List C), 0)).2 = 0) := hz
            have HM : Hid (rightA (ptS (l.take k) i O (([] : List C), 0)).1 = true) := (ToldA.pts i O (fun c hc => HOk.out c (List.mem_of_mem_take hc)) TZ.out).right
            clear hz
            by_cases hlt : k < n
            · obtain ⟨c, hck⟩ := get_some (l := l) (k := k) (by rw [← Hn.out]; exact hlt)
              obtain ⟨g, off, rfl, hg, x0, x1⟩ := (Hl.out _ (chain hB hny)).row.at hck
              have HStep : Hid (ptS (l.take (k + 1)) i O (([] : List C), 0) = stpA i O (([] : List C), 0) ((ptS (l.take k) i O (([] : List C), 0)).1, 0) c) := ptS_take_step hck HZ.out
              have HStuck : Hid ((ptS (l.take (k + 1)) i O (([] : List C), 0)).2 ≠ 0 → ptS (l.take (k + 1)) i O (([] : List C), 0) = ([], 3) ∧ ptS l i O (([] : List C), 0) = ([], 3)) := fun h => ptS_stuck HOk.out TZ.out (k + 1) h
              have hPl := (ToldA.prt (c := c) i O (HOk.out c (List.mem_of_getElem? hck)) TZ.out).len
              clear hck
              generalize (ptS (l.take k) i O (([] : List C), 0)).1 = M at hO HM HStep
              have hMl := rightA_len HM.out
              have hBb := below_alloc wr (.cells #[.int .u32 (c.1.val : Int), .int .u32 (c.2.val : Int)] 25)
              have y1 := (boxed_below b1 (chain hny hBb)).cell
              have hnb : w.heap.size ≠ wr.heap.size := by have h1 := b1.lt; have h2 := hny.size; omega
              have cP := aputC_any c i O [] _ _ (wr.alloc (.cells #[.int .u32 (c.1.val : Int), .int .u32 (c.2.val : Int)] 25)) (RO.below (chain hny hBb)) (RZ.below (chain hny hBb)) (by omega) (by first | omega | simp)
              have hOM := OwnsC.below hO hBb
              obtain ⟨pM, qM, rfl⟩ := OwnsC.len hO
              clear hO
              generalize hPP : prtA c i O (([] : List C), 0) = PP at cP hPl
              have HPP : Hid (prtA c i O (([] : List C), 0) = PP) := hPP
              clear hPP
              obtain ⟨P1, pe⟩ := PP
              dsimp only at cP hPl
              go_wp2_with fail
              refine cP.mono ?_
              rintro e w8 ⟨v8, rfl, hO8, hB8⟩
              clear cP
              have hB9 := chain (chain hny hBb) hB8
              replace hOM := OwnsC.below hOM hB8
              by_cases p0 : pe = 0
              · subst p0
                have HST : Hid (ptS (l.take (k + 1)) i O (([] : List C), 0) = leastF (M ++ P1)) := HStep.out.trans (by rw [stpA_some, HPP.out]; simp)
                have cJ := ajoin_any M P1 _ v8 w8 (OwnsC.row hOM) (OwnsC.row hO8) (by omega) (by omega)
                obtain ⟨p8, q8, rfl⟩ := OwnsC.len hO8
                generalize leastF (M ++ P1) = PJ at cJ HST
                obtain ⟨J, je⟩ := PJ
                dsimp only at cJ HST
                go_wp2_with fail
                refine cJ.mono ?_
                rintro e w10 ⟨v10, rfl, hO10, hB10⟩
                clear cJ
                have hBf := chain hB9 hB10
                obtain ⟨p10, q10, rfl⟩ := OwnsC.len hO10
                by_cases j0 : je = 0
                · subst j0
                  go_wp2
                  go_roundw
                  case rel => exact ⟨k + 1, by omega, by go_num, by rw [HST.out], by rw [HST.out]; exact OwnsC.mono hO10 (chain hB hB9).size, hBf⟩
                  case measure => simp [intOf]; omega
                · have HE := HStuck.out (by rw [HST.out]; exact j0)
                  have h3 : je = 3 := by have := HST.out; rw [HE.1] at this; injection this with _ h; exact h.symm
                  have HE2 : Hid (ptS l i O (([] : List C), 0) = ([], 3)) := HE.2
                  clear HE
                  subst h3
                  go_wp2
                  go_ret2
                  rw [HE0.out, HE2.out]
                  exact ⟨_, rfl, World.ownsRow_nil _ _ _ _, chain hB hBf⟩
              · have HST : Hid (ptS (l.take (k + 1)) i O (([] : List C), 0) = ([], pe)) := HStep.out.trans (by rw [stpA_some, HPP.out]; simp [p0])
                have HE := HStuck.out (by rw [HST.out]; exact p0)
                have h3 : pe = 3 := by have := HST.out; rw [HE.1] at this; injection this with _ h; exact h.symm
                have HE2 : Hid (ptS l i O (([] : List C), 0) = ([], 3)) := HE.2
                clear HE
                subst h3
                obtain ⟨p8, q8, rfl⟩ := OwnsC.len hO8
                go_wp2
                go_ret2
                rw [HE0.out, HE2.out]
                exact ⟨_, rfl, World.ownsRow_nil _ _ _ _, chain hB hB9⟩
            · obtain rfl : k = n := by omega
              have e : l.take k = l := List.take_of_length_le (by rw [← Hn.out]; exact Nat.le_refl _)
              have HZ2 : Hid ((ptS l i O (([] : List C), 0)).2 = 0) := by rw [← e]; exact HZ.out
              rw [e] at hO
              go_wp2
              go_ret2
              rw [HE0.out, HZ2.out]
              exact ⟨_, rfl, hO, chain hB hny⟩
        · rw [ha] at c4
          go_wp2_with fail
          refine c4.mono ?_
          rintro e w4 ⟨rfl, hB4⟩
          clear c4
          replace hB := chain hB hB4
          replace b1 := boxed_below b1 hB4
          replace RO := RO.below hB4
          clear hB4
          replace c5 := c5 w4 hB
          generalize ofZ r = PZ at c5 HT HJ2 hZl
          obtain ⟨Z, ze⟩ := PZ
          dsimp only at c5 hZl
          by_cases z0 : ze = 0
          · subst z0
            have HE0 : Hid (ptA l i r = ptS l i O (Z, 0)) := HJ2.out
            have TZ : Hid (ToldA (Z, 0)) := HT.out
            go_wp2_with fail
            refine c5.mono ?_
            rintro e wL ⟨v5, rfl, hO5, hB5⟩
            clear c5
            replace hB := chain hB hB5
            replace b1 := boxed_below b1 hB5
            replace RO := RO.below hB5
            have RZ := OwnsC.row hO5
            obtain ⟨p5, q5, rfl⟩ := OwnsC.len hO5
            clear hO5 hB5 HJ2 HT
            have hB0 := hB
            go_wp2
            go_loopw [11, 45] (fun v j wr => ∃ k : Nat, k ≤ n ∧ j = .int .i64 k ∧ (ptS (l.take k) i O (Z, 0)).2 = 0 ∧ OwnsC wr w.heap.size v (ptS (l.take k) i O (Z, 0)).1 ∧ Below wL.heap.size wL wr) (fun _ j _ => n - (intOf j).toNat)
            case atStart => exact ⟨0, Nat.zero_le _, rfl, rfl, World.ownsRow_nil _ _ _ _, Below.refl _ _⟩
            case round =>
              obtain ⟨k, hk, rfl, hz, hO, hny⟩ := hrel
              have HZ : Hid ((ptS (l.take k) i O (Z, 0)).2 = 0) := hz
              have HM : Hid (rightA (ptS (l.take k) i O (Z, 0)).1 = true) := (ToldA.pts i O (fun c hc => HOk.out c (List.mem_of_mem_take hc)) TZ.out).right
              clear hz
              by_cases hlt : k < n
              · obtain ⟨c, hck⟩ := get_some (l := l) (k := k) (by rw [← Hn.out]; exact hlt)
                obtain ⟨g, off, rfl, hg, x0, x1⟩ := (Hl.out _ (chain hB hny)).row.at hck
                have HStep : Hid (ptS (l.take (k + 1)) i O (Z, 0) = stpA i O (Z, 0) ((ptS (l.take k) i O (Z, 0)).1, 0) c) := ptS_take_step hck HZ.out
                have HStuck : Hid ((ptS (l.take (k + 1)) i O (Z, 0)).2 ≠ 0 → ptS (l.take (k + 1)) i O (Z, 0) = ([], 3) ∧ ptS l i O (Z, 0) = ([], 3)) := fun h => ptS_stuck HOk.out TZ.out (k + 1) h
                have hPl := (ToldA.prt (c := c) i O (HOk.out c (List.mem_of_getElem? hck)) TZ.out).len
                clear hck
                generalize (ptS (l.take k) i O (Z, 0)).1 = M at hO HM HStep
                have hMl := rightA_len HM.out
                have hBb := below_alloc wr (.cells #[.int .u32 (c.1.val : Int), .int .u32 (c.2.val : Int)] 25)
                have y1 := (boxed_below b1 (chain hny hBb)).cell
                have hnb : w.heap.size ≠ wr.heap.size := by have h1 := b1.lt; have h2 := hny.size; omega
                have cP := aputC_any c i O Z _ _ (wr.alloc (.cells #[.int .u32 (c.1.val : Int), .int .u32 (c.2.val : Int)] 25)) (RO.below (chain hny hBb)) (RZ.below (chain hny hBb)) (by omega) (by first | omega | simp)
                have hOM := OwnsC.below hO hBb
                obtain ⟨pM, qM, rfl⟩ := OwnsC.len hO
                clear hO
                generalize hPP : prtA c i O (Z, 0) = PP at cP hPl
                have HPP : Hid (prtA c i O (Z, 0) = PP) := hPP
                clear hPP
                obtain ⟨P1, pe⟩ := PP
                dsimp only at cP hPl
                go_wp2_with fail
                refine cP.mono ?_
                rintro e w8 ⟨v8, rfl, hO8, hB8⟩
                clear cP
                have hB9 := chain (chain hny hBb) hB8
                replace hOM := OwnsC.below hOM hB8
                by_cases p0 : pe = 0
                · subst p0
                  have HST : Hid (ptS (l.take (k + 1)) i O (Z, 0) = leastF (M ++ P1)) := HStep.out.trans (by rw [stpA_some, HPP.out]; simp)
                  have cJ := ajoin_any M P1 _ v8 w8 (OwnsC.row hOM) (OwnsC.row hO8) (by omega) (by omega)
                  obtain ⟨p8, q8, rfl⟩ := OwnsC.len hO8
                  generalize leastF (M ++ P1) = PJ at cJ HST
                  obtain ⟨J, je⟩ := PJ
                  dsimp only at cJ HST
                  go_wp2_with fail
                  refine cJ.mono ?_
                  rintro e w10 ⟨v10, rfl, hO10, hB10⟩
                  clear cJ
                  have hBf := chain hB9 hB10
                  obtain ⟨p10, q10, rfl⟩ := OwnsC.len hO10
                  by_cases j0 : je = 0
                  · subst j0
                    go_wp2
                    go_roundw
                    case rel => exact ⟨k + 1, by omega, by go_num, by rw [HST.out], by rw [HST.out]; exact OwnsC.mono hO10 (chain hB hB9).size, hBf⟩
                    case measure => simp [intOf]; omega
                  · have HE := HStuck.out (by rw [HST.out]; exact j0)
                    have h3 : je = 3 := by have := HST.out; rw [HE.1] at this; injection this with _ h; exact h.symm
                    have HE2 : Hid (ptS l i O (Z, 0) = ([], 3)) := HE.2
                    clear HE
                    subst h3
                    go_wp2
                    go_ret2
                    rw [HE0.out, HE2.out]
                    exact ⟨_, rfl, World.ownsRow_nil _ _ _ _, chain hB hBf⟩
                · have HST : Hid (ptS (l.take (k + 1)) i O (Z, 0) = ([], pe)) := HStep.out.trans (by rw [stpA_some, HPP.out]; simp [p0])
                  have HE := HStuck.out (by rw [HST.out]; exact p0)
                  have h3 : pe = 3 := by have := HST.out; rw [HE.1] at this; injection this with _ h; exact h.symm
                  have HE2 : Hid (ptS l i O (Z, 0) = ([], 3)) := HE.2
                  clear HE
                  subst h3
                  obtain ⟨p8, q8, rfl⟩ := OwnsC.len hO8
                  go_wp2
                  go_ret2
                  rw [HE0.out, HE2.out]
                  exact ⟨_, rfl, World.ownsRow_nil _ _ _ _, chain hB hB9⟩
              · obtain rfl : k = n := by omega
                have e : l.take k = l := List.take_of_length_le (by rw [← Hn.out]; exact Nat.le_refl _)
                have HZ2 : Hid ((ptS l i O (Z, 0)).2 = 0) := by rw [← e]; exact HZ.out
                rw [e] at hO
                go_wp2
                go_ret2
                rw [HE0.out, HZ2.out]
                exact ⟨_, rfl, hO, chain hB hny⟩
          · have HN : Hid (ptA l i r = ([], 3)) := HJ2.out.trans (ptS_no HOk.out HT.out z0 ha)
            have h3 : ze = 3 := by have := HT.out.no z0; injection this with _ h
            subst h3
            go_wp2_with fail
            refine c5.mono ?_
            rintro e w5 ⟨v5, rfl, hO5, hB5⟩
            clear c5
            obtain ⟨p5, q5, rfl⟩ := OwnsC.len hO5
            go_wp2
            go_ret2
            rw [HN.out]
            exact ⟨_, rfl, World.ownsRow_nil _ _ _ _, chain hB hB5⟩
end Go.Proofs.YtdikaomebbpmhaaGreat
