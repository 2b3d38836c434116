/- Put: a formula in a dimension's place; the answer in new memory; nothing that lay before the call turns. -/
import Derived.RangeFuncBox
import Derived.Test.YtinegcahhafddaaDoorFPut
namespace Go.Proofs.YtinegcahhafddaaDoor
open Go.RowKit Go.Shelf
set_option linter.unusedVariables false
set_option linter.unusedSimpArgs false

theorem boxed_below {W W' : World} {B : Nat} {t : TypeId} {v : Value} (h : Boxed W B t v) (hb : Below W.heap.size W W') : Boxed W' B t v := (hb.block B h.lt).trans h
/-- slices.ContainsFunc at a row of clauses. -/
theorem has_row (l : List C) (v : Value) (w : World) (hv : CRow w v l) (hl : l.length ≤ 100000) (p : C → Bool) (g : Nat) (lb : Array Value) (eg : ∀ args w, (callFunc g args).run Tryd.prog w = .ok (.enter g args) w) (hp : PredBelow Tryd.prog g lb (fun x => .agg (encC x).toArray) p w) :
    Calls Tryd.prog 46 #[v, .func (.func g) #[] lb] w fun e w' => e = .returned (.bool (l.any p)) ∧ Below w.heap.size w w' := by
  by_cases hz : l = []
  · subst hz
    obtain ⟨a, cap, rfl⟩ := hv.len
    refine (has_none _ _ _ _).mono ?_
    rintro e w' ⟨rfl, rfl⟩
    exact ⟨rfl, Below.refl _ _⟩
  · obtain ⟨b, off, cap, rfl, hg, hc⟩ := hv.cons hz
    have hcon := AnyQ.slices_ContainsFunc hasC 2 Tryd.isAgg55 Tryd.sizeOf55 encC (fun _ => rfl) p g lb eg b off l.length cap l w hp (Nat.le_refl _) (by omega) hg (fun j hj i u hi => by
      have h1 := hc j l[j] (List.getElem?_eq_getElem hj)
      have e : l[j]! = l[j] := getElem!_pos l j hj
      rw [e] at hi
      match i, hi with
      | 0, hi => simp [encC] at hi; rw [← hi]; exact h1.1
      | 1, hi => simp [encC] at hi; rw [← hi]; exact h1.2
      | i + 2, hi => simp [encC] at hi)
    rw [List.take_of_length_le (Nat.le_refl _)] at hcon
    exact hcon
theorem pred_put (i : Int) (B : Nat) (w : World) (hB : Boxed w B 3 (.int .i64 i)) :
    PredBelow Tryd.prog 47 #[.pointer (some ⟨B, 0, none⟩)] (fun x => .agg (encC x).toArray) (fun x => hasB x.2.val i) w := fun W x hb => by
  have hBW := boxed_below hB hb
  have g0 := hBW.cell
  have hlt := hBW.lt
  have hne : B ≠ W.heap.size := by omega
  have hx := x.2.isLt
  show Calls Tryd.prog 47 #[clV x, .pointer (some ⟨B, 0, none⟩)] W _
  go_enter Tryd.func47, Tryd.ntmps47
  go_wp2_with (go_at_call 45; refine (has_any _ _ _ (by assumption)).mono ?_; rintro e w' ⟨rfl, hw⟩; replace hw := hw.symm; subst hw)
  go_ret
  exact ⟨rfl, hb.alloc hb.size _⟩

theorem stepP_some (i : Int) (r : List C) (s : List C × Int) (M : List C) (c : C) : stepP i r s (M, 0) c = if (partF c i r s).2 = 0 then joinR M (partF c i r s).1 else ([], (partF c i r s).2) := by simp [stepP]
set_option maxRecDepth 100000 in
set_option maxHeartbeats 2000000 in
theorem put2_any (M : List C) (v : Value) (c : C) (i : Int) (r n : List C) (vr vn : Value) (B1 B2 B3 : Nat) (w : World) (h1 : Boxed w B1 3 (.int .i64 i)) (h2 : Boxed w B2 26 vr) (h3 : Boxed w B3 26 vn)
    (hv : CRow w v M) (hr : CRow w vr r) (hn : CRow w vn n) (hM : M.length ≤ 64) (lr : r.length ≤ 64) (ln : n.length ≤ 64) :
    Calls Tryd.prog 50 #[v, clV c, .pointer (some ⟨B1, 0, none⟩), .pointer (some ⟨B2, 0, none⟩), .pointer (some ⟨B3, 0, none⟩)] w
      fun e w' => ∃ v', e = .returned (.tuple #[v', .int .i64 (stepP i r (n, 0) (M, 0) c).2]) ∧ OwnsC w' w.heap.size v' (stepP i r (n, 0) (M, 0) c).1 ∧ Below w.heap.size w w' := by
  have hB0 := below_alloc w (.cells #[.int .u32 (c.1.val : Int), .int .u32 (c.2.val : Int)] 55)
  have y1 := (boxed_below h1 hB0).cell
  have y2 := (boxed_below h2 hB0).cell
  have y3 := (boxed_below h3 hB0).cell
  have n1 : B1 ≠ w.heap.size := by have := h1.lt; omega
  have n2 : B2 ≠ w.heap.size := by have := h2.lt; omega
  have n3 : B3 ≠ w.heap.size := by have := h3.lt; omega
  replace hv := hv.below hB0
  have cP := putC_any c i r n vr vn _ (hr.below hB0) (hn.below hB0) lr ln
  have hpl : (partF c i r (n, 0)).2 = 0 → (partF c i r (n, 0)).1.length ≤ 64 := fun _ => by
    rw [part_meets]; exact ((Told.one (out_right c i)).meets _).len
  have HS : Hid (stepP i r (n, 0) (M, 0) c = if (partF c i r (n, 0)).2 = 0 then joinR M (partF c i r (n, 0)).1 else ([], (partF c i r (n, 0)).2)) := stepP_some i r (n, 0) M c
  obtain ⟨pr, cr, rfl⟩ := hr.len
  obtain ⟨pn, cn, rfl⟩ := hn.len
  obtain ⟨pv, cv, rfl⟩ := hv.len
  have HV : Hid (CRow (w.alloc (.cells #[.int .u32 (c.1.val : Int), .int .u32 (c.2.val : Int)] 55)) (.slice pv M.length cv) M) := hv
  have HM : Hid (M.length ≤ 64) := hM
  clear hr hn hv h1 h2 h3 hM
  generalize partF c i r (n, 0) = P at *
  go_enter Tryd.func50, Tryd.ntmps50
  go_wp2_with fail
  generalize w.alloc (.cells #[.int .u32 (c.1.val : Int), .int .u32 (c.2.val : Int)] 55) = wb at hB0 y1 y2 y3 HV cP ⊢
  refine cP.mono ?_
  rintro e w1 ⟨v1, rfl, hO1, hB1⟩
  clear cP y1 y2 y3
  by_cases h0 : P.2 = 0
  · have hpl2 := hpl h0
    have cJ := fjoin_any M P.1 _ v1 w1 (HV.out.below hB1) (OwnsC.row hO1) (by have := HM.out; omega) (by omega)
    rw [h0]
    have HS2 : Hid (stepP i r (n, 0) (M, 0) c = joinR M P.1) := HS.out.trans (if_pos h0)
    clear hpl
    obtain ⟨q1, c1, rfl⟩ := OwnsC.len hO1
    go_wp2_with fail
    refine cJ.mono ?_
    rintro e w2 ⟨v2, rfl, hO2, hB2⟩
    clear cJ
    go_wp2
    go_ret2
    rw [HS2.out]
    exact ⟨_, rfl, OwnsC.mono hO2 (chain hB0 hB1).size, chain (chain hB0 hB1) hB2⟩
  · have HS2 : Hid (stepP i r (n, 0) (M, 0) c = ([], P.2)) := HS.out.trans (if_neg h0)
    clear hpl
    obtain ⟨q1, c1, rfl⟩ := OwnsC.len hO1
    go_wp2
    go_ret2
    rw [HS2.out]
    exact ⟨_, rfl, World.ownsRow_nil _ _ _ _, chain hB0 hB1⟩
theorem putS_take_step {l : List C} {i : Int} {r : List C} {s : List C × Int} {k : Nat} {c : C} (h : l[k]? = some c) (h0 : (putS (l.take k) i r s).2 = 0) : putS (l.take (k + 1)) i r s = stepP i r s ((putS (l.take k) i r s).1, 0) c := by
  have e : l.take (k + 1) = l.take k ++ [c] := by rw [List.take_add_one, h]; rfl
  rw [e, putS_snoc, ← h0]
theorem putS_stuck {l : List C} {i : Int} {r : List C} {s : List C × Int} (hs : Told s) (k : Nat) (h : (putS (l.take k) i r s).2 ≠ 0) : putS l i r s = ([], 3) := by
  have e : putS l i r s = (l.drop k).foldl (stepP i r s) (putS (l.take k) i r s) := by
    unfold putS
    rw [← List.foldl_append, List.take_append_drop]
  rw [e, foldl_stuck (stepP i r s) (fun a c ha => by unfold stepP; rw [if_neg ha]) h]
  exact (Told.put (l.take k) i r hs).no h
theorem fold_put (l : List C) (vl : Value) (i : Int) (r n : List C) (vr vn : Value) (B1 B2 B3 : Nat) (w : World) (hl : CRow w vl l) (hll : l.length ≤ 100000) (h1 : Boxed w B1 3 (.int .i64 i)) (h2 : Boxed w B2 26 vr) (h3 : Boxed w B3 26 vn)
    (hr : CRow w vr r) (hn : CRow w vn n) (lr : r.length ≤ 64) (rn : rightF n = true) :
    Calls Tryd.prog 48 #[vl, .slice none 0 0, .func (.func 50) #[] #[.pointer (some ⟨B1, 0, none⟩), .pointer (some ⟨B2, 0, none⟩), .pointer (some ⟨B3, 0, none⟩)]] w
      fun e w' => ∃ v', e = .returned (.tuple #[v', .int .i64 (putS l i r (n, 0)).2]) ∧ OwnsC w' w.heap.size v' (putS l i r (n, 0)).1 ∧ Below w.heap.size w w' := by
  have eg : ∀ args w, (callFunc 50 args).run Tryd.prog w = .ok (.enter 50 args) w := enters_of Tryd.func50 (by kernel_rfl) rfl
  have hs : Told (n, 0) := .inl ⟨rfl, rn⟩
  refine (foldCR_any 50 _ eg l vl _ w w hl hll (fun k v W => OwnsC W w.heap.size v (putS (l.take k) i r (n, 0)).1 ∧ (putS (l.take k) i r (n, 0)).2 = 0) (fun er => putS l i r (n, 0) = ([], er)) (fun k v W W' h hb => ⟨OwnsC.below h.1 hb, h.2⟩) (Below.refl _ _) ⟨World.ownsRow_nil _ _ _ _, rfl⟩ (fun k c v W hk hW hI => ?_)).mono ?_
  · have hT := Told.put (l.take k) i r hs
    refine (put2_any _ v c i r n vr vn B1 B2 B3 W (boxed_below h1 hW) (boxed_below h2 hW) (boxed_below h3 hW) (OwnsC.row hI.1) (hr.below hW) (hn.below hW) hT.len lr (rightF_len rn)).mono ?_
    rintro e w' ⟨v', rfl, hO, hB'⟩
    rw [← putS_take_step hk hI.2] at hO ⊢
    refine ⟨chain hW hB', v', _, rfl, ?_⟩
    by_cases h0 : (putS (l.take (k + 1)) i r (n, 0)).2 = 0
    · exact .inl ⟨h0, OwnsC.mono hO hW.size, h0⟩
    · refine .inr ⟨h0, ?_⟩
      rw [putS_stuck hs (k + 1) h0, (Told.put (l.take (k + 1)) i r hs).no h0]
  · rintro e w' ⟨hB', v', er, rfl, ⟨rfl, hO, hz⟩ | ⟨hne, rfl, hq⟩⟩
    · rw [List.take_length] at hO hz
      exact ⟨v', by rw [hz], hO, hB'⟩
    · rw [hq]
      exact ⟨_, rfl, World.ownsRow_nil _ _ _ _, hB'⟩
end Go.Proofs.YtinegcahhafddaaDoor
