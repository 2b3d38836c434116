/- Not, and the exported Join, Meet, Dim, One, Zero: each answer in new memory; nothing that lay before the call turns. -/
import Derived.Test.YtdikaomebbpmhabDoorFFold
import Derived.Test.YtdikaomebbpmhabDoorFJoin
import Derived.Test.YtdikaomebbpmhabDoorFRight
namespace Go.Proofs.YtdikaomebbpmhabDoor
open Go.RowKit
set_option linter.unusedVariables false
set_option linter.unusedSimpArgs false

theorem not1_any (M : List C) (v : Value) (c : C) (w : World) (hv : CRow w v M) (hM : M.length ≤ 64) :
    Calls Tryd.prog 59 #[v, clV c] w fun e w' => ∃ v', e = .returned (.tuple #[v', .int .i64 (meetR M (turnF c)).2]) ∧ OwnsC w' w.heap.size v' (meetR M (turnF c)).1 ∧ Below w.heap.size w w' := by
  have hB0 := below_alloc w (.cells #[.int .u32 (c.1.val : Int), .int .u32 (c.2.val : Int)] 25)
  have hv1 := hv.below hB0
  have hop : (oppC c).length ≤ 100000 := by have := opp_length c; omega
  have htl := turn_len c
  have Ht : Hid (leastF (oppC c) = (turnF c, 0)) := turn_told c
  obtain ⟨pa, ca, rfl⟩ := hv.len
  clear hv
  have HM : Hid (M.length ≤ 64) := hM
  clear hM
  generalize M.length = n at hv1 ⊢
  go_enter Tryd.func59, Tryd.ntmps59
  go_wp2_with fail
  generalize w.alloc (.cells #[.int .u32 (c.1.val : Int), .int .u32 (c.2.val : Int)] 25) = wb at hB0 hv1 ⊢
  refine (opp_any c wb).mono ?_
  rintro e w1 ⟨v1, rfl, hO1, hB1⟩
  go_wp2_with fail
  refine (leastC _ _ w1 (OwnsC.row hO1) hop).mono ?_
  rintro e w2 ⟨v2, rfl, hO2, hB2⟩
  rw [Ht.out] at hO2 ⊢
  have hv2 := (hv1.below hB1).below hB2
  have cM := fmeet_any M (turnF c) _ _ w2 hv2 (OwnsC.row hO2) (by have := HM.out; omega) (by omega)
  obtain ⟨pb, cb, rfl⟩ := OwnsC.len hO2
  clear hO1 hO2 hv1
  go_wp2_with fail
  refine cM.mono ?_
  rintro e w3 ⟨v3, rfl, hO3, hB3⟩
  clear cM
  go_wp2
  go_ret2
  have hB := chain (chain (chain hB0 hB1) hB2) hB3
  exact ⟨_, rfl, OwnsC.mono hO3 (by have := (chain (chain hB0 hB1) hB2).size; omega), hB⟩

theorem notR_take_step {l : List C} {k : Nat} {c : C} (h : l[k]? = some c) (h0 : (notR (l.take k)).2 = 0) : notR (l.take (k + 1)) = meetR (notR (l.take k)).1 (turnF c) := by
  have e : l.take (k + 1) = l.take k ++ [c] := by rw [List.take_add_one, h]; rfl
  rw [e, notR_snoc, stepN, if_pos h0]
theorem foldl_stuck {l : List C} {a : List C × Int} (step : List C × Int → C → List C × Int) (hs : ∀ a c, a.2 ≠ 0 → step a c = a) (h : a.2 ≠ 0) : l.foldl step a = a := by
  induction l with
  | nil => rfl
  | cons c l ih => rw [List.foldl_cons, hs a c h, ih]
theorem notR_stuck {l : List C} (k : Nat) (h : (notR (l.take k)).2 ≠ 0) : notR l = ([], 3) := by
  have e : notR l = (l.drop k).foldl stepN (notR (l.take k)) := by
    unfold notR
    rw [← List.foldl_append, List.take_append_drop]
  rw [e, foldl_stuck stepN (fun a c ha => by unfold stepN; rw [if_neg ha]) h]
  exact (notR_cases (l.take k)).resolve_left (fun x => h x.1)
theorem one_any (w : World) : Calls Tryd.prog 58 #[] w fun e w' => ∃ v, e = .returned v ∧ OwnsC w' w.heap.size v [top0] ∧ Below w.heap.size w w' := by
  go_enter Tryd.func58, Tryd.ntmps58
  go_wp2
  go_ret
  exact ⟨_, rfl, own_one1 w top0 _ (Nat.le_refl _), below_alloc _ _⟩
set_option maxHeartbeats 1000000 in
theorem fnot_any (l : List C) (v : Value) (w : World) (hv : CRow w v l) (hl : l.length ≤ 100000) :
    Calls Tryd.prog 44 #[v] w fun e w' => ∃ v', e = .returned (.tuple #[v', .int .i64 (notR l).2]) ∧ OwnsC w' w.heap.size v' (notR l).1 ∧ Below w.heap.size w w' := by
  have eg : ∀ args w, (callFunc 59 args).run Tryd.prog w = .ok (.enter 59 args) w := enters_of Tryd.func59 (by kernel_rfl) rfl
  have hF : ∀ (w1 : World) (v1 : Value), OwnsC w1 w.heap.size v1 [top0] → Below w.heap.size w w1 → Calls Tryd.prog 57 #[v, v1, .func (.func 59) #[] #[]] w1 fun e w' => Below w.heap.size w w' ∧ ∃ v' er, e = .returned (.tuple #[v', .int .i64 er]) ∧ ((er = 0 ∧ (OwnsC w' w.heap.size v' (notR (l.take l.length)).1 ∧ (notR (l.take l.length)).2 = 0)) ∨ (er ≠ 0 ∧ v' = .slice none 0 0 ∧ notR l = ([], er))) :=
    fun w1 v1 h1 hB => foldCR_any 59 #[] eg l v v1 w w1 hv hl (fun k v W => OwnsC W w.heap.size v (notR (l.take k)).1 ∧ (notR (l.take k)).2 = 0) (fun er => notR l = ([], er)) (fun k v W W' h hb => ⟨OwnsC.below h.1 hb, h.2⟩) hB ⟨h1, rfl⟩ (fun k c v W hk hW hI => by
      refine (not1_any _ v c W (OwnsC.row hI.1) (notR_len _)).mono ?_
      rintro e w' ⟨v', rfl, hO, hB'⟩
      rw [← notR_take_step hk hI.2] at hO ⊢
      refine ⟨chain hW hB', v', _, rfl, ?_⟩
      by_cases h0 : (notR (l.take (k + 1))).2 = 0
      · exact .inl ⟨h0, OwnsC.mono hO hW.size, h0⟩
      · refine .inr ⟨h0, ?_⟩
        have h3 := (notR_cases (l.take (k + 1))).resolve_left (fun x => h0 x.1)
        rw [notR_stuck (k + 1) h0, h3])
  obtain ⟨pa, ca, rfl⟩ := hv.len
  clear hv
  rw [List.take_length] at hF
  generalize l.length = n at *
  go_enter Tryd.func44, Tryd.ntmps44
  go_wp2_with fail
  refine (one_any w).mono ?_
  rintro e w1 ⟨v1, rfl, hO1, hB1⟩
  replace hF := hF w1 v1 hO1 hB1
  go_wp2_with fail
  refine hF.mono ?_
  rintro e w2 ⟨hB2, v2, er, rfl, ⟨rfl, hO2, hz⟩ | ⟨hne, rfl, hq⟩⟩
  · clear hF
    go_wp2
    go_ret2
    rw [hz]
    exact ⟨_, rfl, hO2, hB2⟩
  · clear hF
    go_wp2
    go_ret2
    rw [hq]
    exact ⟨_, rfl, World.ownsRow_nil _ _ _ _, hB2⟩
theorem has_all (i : Int) (w : World) : Calls Tryd.prog 31 #[.int .u32 16777215, .int .i64 i] w fun e w' => e = .returned (.bool (isDimB i)) ∧ w' = w := by
  have h := has_any 16777215 i w (by decide)
  have e : hasB 16777215 i = isDimB i := by
    unfold hasB
    cases hd : isDimB i
    · rfl
    · simp [isDimB] at hd
      rw [full_bit]; simp; omega
  rw [e] at h
  exact h
def dimF (i : Int) : List C × Int := if isDimB i then ([posB i.toNat], 0) else ([], 2)
set_option maxHeartbeats 1000000 in
theorem Not_any (l : List C) (a : Value) (w : World) (ha : FRow w a l) (hl : l.length ≤ 40000) :
    Calls Tryd.prog 26 #[a] w fun e w' => ∃ v, e = .returned (.tuple #[v, .int .i64 (notF l).2]) ∧ OwnsC w' w.heap.size v (notF l).1 ∧ Below w.heap.size w w' := by
  have c1 := fright_any l a w ha (by omega)
  have c3 := fun w1 (h : Below w.heap.size w w1) => fnot_any l a w1 (ha.row.below h) (by omega)
  obtain ⟨pa, ca, rfl⟩ := ha.len
  have HJ : Hid (notF l = if rightF l then notR l else ([], 2)) := rfl
  clear ha
  generalize l.length = n1 at *
  cases hf : rightF l
  · rw [hf] at c1 HJ
    go_enter Tryd.func26, Tryd.ntmps26
    go_wp2_with fail
    refine c1.mono ?_
    rintro e w1 ⟨rfl, hB1⟩
    clear c1
    go_wp2
    go_ret2
    rw [HJ.out]
    exact ⟨_, rfl, World.ownsRow_nil _ _ _ _, hB1⟩
  · rw [hf] at c1 HJ
    go_enter Tryd.func26, Tryd.ntmps26
    go_wp2_with fail
    refine c1.mono ?_
    rintro e w1 ⟨rfl, hB1⟩
    clear c1
    replace c3 := c3 w1 hB1
    go_wp2_with fail
    refine c3.mono ?_
    rintro e w3 ⟨v3, rfl, hO3, hB3⟩
    clear c3
    go_wp2
    go_ret2
    rw [HJ.out]
    exact ⟨_, rfl, OwnsC.mono hO3 hB1.size, chain hB1 hB3⟩
end Go.Proofs.YtdikaomebbpmhabDoor
