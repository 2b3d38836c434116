/- The layer face: those of a row that are wanted (kept); what is asked of a clause and of a row. Nothing that lay before the call turns. -/
import Derived.RangeFuncBox
import Derived.Test.YtdikaomebbpmhabDoorFNot
import Derived.Test.YtdikaomebbpmhabDoorAMath
namespace Go.Proofs.YtdikaomebbpmhabDoor
open Go.RowKit Go.Shelf
set_option linter.unusedVariables false
set_option linter.unusedSimpArgs false

theorem boxed_below {W W' : World} {B : Nat} {t : TypeId} {v : Value} (h : Boxed W B t v) (hb : Below W.heap.size W W') : Boxed W' B t v := (hb.block B h.lt).trans h
/-- slices.ContainsFunc at a row of clauses. -/
theorem has_row (l : List C) (v : Value) (w : World) (hv : CRow w v l) (hl : l.length ≤ 100000) (p : C → Bool) (g : Nat) (lb : Array Value) (eg : ∀ args w, (callFunc g args).run Tryd.prog w = .ok (.enter g args) w) (hp : PredBelow Tryd.prog g lb (fun x => .agg (encC x).toArray) p w) :
    Calls Tryd.prog 41 #[v, .func (.func g) #[] lb] w fun e w' => e = .returned (.bool (l.any p)) ∧ Below w.heap.size w w' := by
  by_cases hz : l = []
  · subst hz
    obtain ⟨a, cap, rfl⟩ := hv.len
    refine (has_none _ _ _ _).mono ?_
    rintro e w' ⟨rfl, rfl⟩
    exact ⟨rfl, Below.refl _ _⟩
  · obtain ⟨b, off, cap, rfl, hg, hc⟩ := hv.cons hz
    have hcon := AnyQ.slices_ContainsFunc hasC 2 Tryd.isAgg25 Tryd.sizeOf25 encC (fun _ => rfl) p g lb eg b off l.length cap l w hp (Nat.le_refl _) (by omega) hg (fun j hj i u hi => by
      have h1 := hc j l[j] (List.getElem?_eq_getElem hj)
      have e : l[j]! = l[j] := getElem!_pos l j hj
      rw [e] at hi
      match i, hi with
      | 0, hi => simp [encC] at hi; rw [← hi]; exact h1.1
      | 1, hi => simp [encC] at hi; rw [← hi]; exact h1.2
      | i + 2, hi => simp [encC] at hi)
    rw [List.take_of_length_le (Nat.le_refl _)] at hcon
    exact hcon
/-- A closure that tells of a clause, and leaves all that lay there. -/
def PredC (fid : Nat) (cap : Array Value) (p : C → Bool) (wb : World) : Prop := ∀ W c, Below wb.heap.size wb W → Calls Tryd.prog fid (#[clV c] ++ cap) W fun e w' => e = .returned (.bool (p c)) ∧ Below W.heap.size W w'
theorem PredC.pred {fid : Nat} {cap : Array Value} {p : C → Bool} {w : World} (h : PredC fid cap p w) : PredBelow Tryd.prog fid cap (fun x => .agg (encC x).toArray) p w := fun W x hb =>
  (h W x hb).mono fun e w' h2 => ⟨h2.1, chain hb h2.2⟩
theorem filt_step {l : List C} {k : Nat} {c : C} (p : C → Bool) (h : l[k]? = some c) : (l.take (k + 1)).filter p = (l.take k).filter p ++ if p c then [c] else [] := by
  have e : l.take (k + 1) = l.take k ++ [c] := by rw [List.take_add_one, h]; rfl
  rw [e, List.filter_append]
  cases hp : p c <;> simp [hp]
theorem filt_len (l : List C) (p : C → Bool) (k : Nat) : ((l.take k).filter p).length ≤ l.length := Nat.le_trans (List.length_filter_le _ _) (by rw [List.length_take]; omega)

set_option maxRecDepth 100000 in
set_option maxHeartbeats 2000000 in
theorem kept_any (fid : Nat) (cap : Array Value) (eg : ∀ args w, (callFunc fid args).run Tryd.prog w = .ok (.enter fid args) w) (l : List C) (vs : Value) (p : C → Bool) (w : World) (hv : CRow w vs l) (hl : l.length ≤ 100000) (hp : PredC fid cap p w) :
    Calls Tryd.prog 21 #[vs, .func (.func fid) #[] cap] w fun e w' => ∃ v, e = .returned v ∧ OwnsC w' w.heap.size v (l.filter p) ∧ Below w.heap.size w w' := by
  obtain ⟨pa, ca, rfl⟩ := hv.len
  have Ha : Hid (CRow w (.slice pa l.length ca) l) := hv
  have hfl := fun k => filt_len l p k
  clear hv
  obtain ⟨n, hn1⟩ : ∃ n, n = l.length := ⟨_, rfl⟩
  have Hn : Hid (n = l.length) := hn1
  rw [← hn1] at hl Ha hfl ⊢
  clear hn1
  have HP : Hid (PredC fid cap p w) := hp
  clear hp
  go_enter Tryd.func21, Tryd.ntmps21
  go_wp2
  go_loopw [5, 10] (fun v i wr => ∃ k : Nat, k ≤ n ∧ i = .int .i64 k ∧ OwnsC wr w.heap.size v ((l.take k).filter p) ∧ Below w.heap.size w wr) (fun _ i _ => n - (intOf i).toNat)
  case atStart => exact ⟨0, Nat.zero_le _, rfl, World.ownsRow_nil _ _ _ _, Below.refl _ _⟩
  case round =>
    obtain ⟨k, hk, rfl, hO, hny⟩ := hrel
    by_cases hlt : k < n
    · obtain ⟨c, hck⟩ := get_some (l := l) (k := k) (by rw [← Hn.out]; exact hlt)
      obtain ⟨g, off, rfl, hg, x0, x1⟩ := (Ha.out.below hny).at hck
      have HS : Hid ((l.take (k + 1)).filter p = (l.take k).filter p ++ if p c then [c] else []) := filt_step p hck
      have hX := chain hny (below_alloc wr (.cells #[.int .u32 (c.1.val : Int), .int .u32 (c.2.val : Int)] 25))
      have HC := HP.out (wr.alloc (.cells #[.int .u32 (c.1.val : Int), .int .u32 (c.2.val : Int)] 25)) c hX
      have hA := At.made wr c 25
      have hOX := OwnsC.below hO (below_alloc wr (.cells #[.int .u32 (c.1.val : Int), .int .u32 (c.2.val : Int)] 25))
      have hlen : Hid (((l.take k).filter p).length + [c].length ≤ 200000) := by
        have := hfl k
        show ((l.take k).filter p).length + 1 ≤ 200000
        omega
      clear hck hO
      go_wp2_with fail
      refine HC.mono ?_
      rintro e w2 ⟨rfl, hB2⟩
      clear HC
      replace hX := chain hX hB2
      replace hOX := OwnsC.below hOX hB2
      replace hA := hA.below hB2
      cases hpc : p c
      · rw [hpc] at HS
        go_wp2
        go_roundw
        case rel => exact ⟨k + 1, by omega, by go_num, by rw [HS.out]; simpa using hOX, hX⟩
        case measure => simp [intOf]; omega
      · rw [hpc] at HS
        obtain ⟨z0, z1, z2⟩ := hA
        go_wp2_with (at_builtin; refine wpList_append_row rfl _ _ rfl w.heap.size _ _ _ [c] rfl rfl (OwnsC.below hOX (below_alloc _ _)) (row_one _ _) hlen.out (by have := hX.size; simp at *; omega) ?_; intro v4 w4 hO4 hg4 hv4)
        have hX2 := chain hX (below_alloc w2 (.cells #[.int .u32 (c.1.val : Int), .int .u32 (c.2.val : Int)] 25))
        have hOX2 := OwnsC.below hOX (below_alloc w2 (.cells #[.int .u32 (c.1.val : Int), .int .u32 (c.2.val : Int)] 25))
        go_roundw
        case rel => exact ⟨k + 1, by omega, by go_num, by rw [HS.out]; exact hO4, hX2.trans (own_grown hOX2 hg4 hX2.size)⟩
        case measure => simp [intOf]; omega
    · obtain rfl : k = n := by omega
      have e : l.take k = l := List.take_of_length_le (by rw [← Hn.out]; exact Nat.le_refl _)
      rw [e] at hO
      go_wp2
      go_ret
      exact ⟨_, rfl, hO, hny⟩

/-! ### what is asked of a clause -/
theorem can_any (c : C) (w : World) : Calls Tryd.prog 22 #[clV c] w fun e w' => e = .returned (.bool (okC c)) ∧ Below w.heap.size w w' := by
  go_enter Tryd.func22, Tryd.ntmps22
  go_wp2_with (go_at_call 7; refine (clash_any c _).mono ?_; rintro e w' ⟨rfl, hG⟩)
  go_ret
  exact ⟨rfl, chain (below_alloc w _) hG.below⟩
theorem can_pred (w : World) : PredC 22 #[] okC w := fun W c _ => can_any c W
theorem clash_pred (w : World) : PredC 7 #[] clashC w := fun W c _ => (clash_any c W).mono fun e w' h => ⟨h.1, h.2.below⟩
theorem can_eg : ∀ args w, (callFunc 22 args).run Tryd.prog w = .ok (.enter 22 args) w := enters_of Tryd.func22 (by kernel_rfl) rfl
theorem clash_eg : ∀ args w, (callFunc 7 args).run Tryd.prog w = .ok (.enter 7 args) w := enters_of Tryd.func7 (by kernel_rfl) rfl
theorem with_zero {i : Int} : ((withN 0 i : Nat) : Int) ≠ 0 ↔ isDimB i = true := by
  have e : ((withN 0 i : Nat) : Int) ≠ 0 ↔ withN 0 i ≠ 0 := by omega
  rw [e]
  by_cases hi : isDimB i = true
  · simp only [withN, hi, if_true]
    simp
  · simp only [withN, hi]
    simp
set_option maxHeartbeats 1000000 in
theorem aisDim_any (i : Int) (w : World) : Calls Tryd.prog 29 #[.int .i64 i] w fun e w' => e = .returned (.bool (isDimB i)) ∧ w' = w := by
  have h := with_any 0 i w (by decide)
  have HZ : Hid (((withN 0 i : Nat) : Int) ≠ 0 ↔ isDimB i = true) := with_zero
  generalize ((withN 0 i : Nat) : Int) = z at h HZ
  have HZ2 : Hid ((z != 0) = isDimB i) := by
    have h1 := HZ.out
    show _ = _
    rw [Bool.eq_iff_iff, ← h1]; simp
  clear HZ
  go_enter Tryd.func29, Tryd.ntmps29
  go_wp2_with fail
  refine h.mono ?_
  rintro e w1 ⟨rfl, hw1⟩
  replace hw1 := hw1.symm
  subst hw1
  clear h
  go_wp2
  go_ret
  exact ⟨ret_bool HZ2.out, rfl⟩
set_option maxHeartbeats 1000000 in
theorem stands_any (c : C) (w : World) : Calls Tryd.prog 24 #[clV c] w fun e w' => e = .returned (.bool (singleC c)) ∧ Below w.heap.size w w' := by
  have hB0 := below_alloc w (.cells #[.int .u32 (c.1.val : Int), .int .u32 (c.2.val : Int)] 25)
  have hA := At.made w c 25
  have HS : Hid (singleC c = (rightC c && okC c)) := rfl
  cases hr : rightC c
  · rw [hr] at HS
    go_enter Tryd.func24, Tryd.ntmps24
    go_wp2_with (go_at_call 6; refine (cright_any c _).mono ?_; rintro e w' ⟨rfl, hG⟩; rw [hr])
    go_ret
    exact ⟨ret_bool HS.out.symm, chain hB0 hG.below⟩
  · rw [hr] at HS
    go_enter Tryd.func24, Tryd.ntmps24
    go_wp2_with fail
    refine (cright_any c _).mono ?_
    rintro e w1 ⟨rfl, hG⟩
    rw [hr]
    replace hB0 := chain hB0 hG.below
    obtain ⟨z0, z1, z2⟩ := hA.below hG.below
    clear hA
    go_wp2_with (go_at_call 22; refine (can_any c _).mono ?_; rintro e w2 ⟨rfl, hB2⟩)
    go_ret
    exact ⟨ret_bool HS.out.symm, chain hB0 hB2⟩

/-! ### what is asked of a row -/
theorem all_ok (l : List C) : l.all okC = !l.any clashC := by
  induction l with
  | nil => rfl
  | cons c l ih => simp only [List.all_cons, List.any_cons, ih, okC, Bool.not_or]
set_option maxHeartbeats 1000000 in
theorem aright_any (l : List C) (v : Value) (w : World) (hv : FRow w v l) (hl : l.length ≤ 100000) :
    Calls Tryd.prog 23 #[v] w fun e w' => e = .returned (.bool (rightA l)) ∧ Below w.heap.size w w' := by
  have c1 := fright_any l v w hv hl
  have c2 := fun w1 (h : Below w.heap.size w w1) => has_row l v w1 (hv.row.below h) hl clashC 7 #[] clash_eg (clash_pred w1).pred
  have HR : Hid (rightA l = (rightF l && !l.any clashC)) := by
    show _ = _
    rw [← all_ok]; rfl
  obtain ⟨pa, ca, rfl⟩ := hv.len
  clear hv
  generalize l.length = n at *
  cases hf : rightF l
  · rw [hf] at c1 HR
    go_enter Tryd.func23, Tryd.ntmps23
    go_wp2_with fail
    refine c1.mono ?_
    rintro e w1 ⟨rfl, hB1⟩
    clear c1
    go_wp2
    go_ret
    exact ⟨ret_bool HR.out.symm, hB1⟩
  · rw [hf] at c1 HR
    go_enter Tryd.func23, Tryd.ntmps23
    go_wp2_with fail
    refine c1.mono ?_
    rintro e w1 ⟨rfl, hB1⟩
    clear c1
    replace c2 := c2 w1 hB1
    go_wp2_with fail
    refine c2.mono ?_
    rintro e w2 ⟨rfl, hB2⟩
    clear c2
    go_wp2
    go_ret
    exact ⟨ret_bool HR.out.symm, chain hB1 hB2⟩
theorem holds1_any (c : C) (B : Nat) (w : World) (hA : At w B c) : PredC 42 #[.pointer (some ⟨B, 0, none⟩)] (fun b => belC c b) w := fun W x hb => by
  obtain ⟨g0, g1, hBW⟩ := hA.below hb
  have hne : B ≠ W.heap.size := by omega
  show Calls Tryd.prog 42 #[clV x, .pointer (some ⟨B, 0, none⟩)] W _
  go_enter Tryd.func42, Tryd.ntmps42
  go_wp2_with (go_at_call 43; refine (bel_any c x _).mono ?_; rintro e w' ⟨rfl, hG⟩)
  go_ret
  exact ⟨rfl, chain (below_alloc _ _) hG.below⟩
set_option maxHeartbeats 1000000 in
theorem holds_any (l : List C) (v : Value) (c : C) (w : World) (hv : CRow w v l) (hl : l.length ≤ 100000) :
    Calls Tryd.prog 25 #[v, clV c] w fun e w' => e = .returned (.bool (undB l c)) ∧ Below w.heap.size w w' := by
  have eg : ∀ args w, (callFunc 42 args).run Tryd.prog w = .ok (.enter 42 args) w := enters_of Tryd.func42 (by kernel_rfl) rfl
  have hB := below_alloc w (.cells #[.int .u32 (c.1.val : Int), .int .u32 (c.2.val : Int)] 25)
  have c1 : Calls Tryd.prog 41 #[v, .func (.func 42) #[] #[.pointer (some ⟨w.heap.size, 0, none⟩)]] (w.alloc (.cells #[.int .u32 (c.1.val : Int), .int .u32 (c.2.val : Int)] 25)) fun e w' => e = .returned (.bool (undB l c)) ∧ Below (w.alloc (.cells #[.int .u32 (c.1.val : Int), .int .u32 (c.2.val : Int)] 25)).heap.size (w.alloc (.cells #[.int .u32 (c.1.val : Int), .int .u32 (c.2.val : Int)] 25)) w' :=
    has_row l v (w.alloc (.cells #[.int .u32 (c.1.val : Int), .int .u32 (c.2.val : Int)] 25)) (hv.below hB) hl (fun b => belC c b) 42 #[.pointer (some ⟨w.heap.size, 0, none⟩)] eg (holds1_any c w.heap.size _ (At.made w c _)).pred
  obtain ⟨pa, ca, rfl⟩ := hv.len
  clear hv
  generalize undB l c = r at c1 ⊢
  generalize l.length = n at *
  go_enter Tryd.func25, Tryd.ntmps25
  go_wp2_with fail
  refine c1.mono ?_
  rintro e w1 ⟨rfl, hB1⟩
  clear c1
  go_wp2
  go_ret
  exact ⟨rfl, chain hB hB1⟩
end Go.Proofs.YtdikaomebbpmhabDoor
