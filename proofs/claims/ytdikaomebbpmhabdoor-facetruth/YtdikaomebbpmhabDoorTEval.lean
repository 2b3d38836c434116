/- A formula's value: valueOf, evalClause, eval of the layer truth; at and eval of the document's answer. -/
import Derived.Test.YtdikaomebbpmhabDoorTVal
import Derived.Test.YtdikaomebbpmhabDoorCSame
import Derived.Test.YtdikaomebbpmhabDoorSlices
namespace Go.Proofs.YtdikaomebbpmhabDoor
open Go.RowKit
set_option linter.unusedVariables false
set_option linter.unusedSimpArgs false

/-- The slice value v can be read as the numbers l. -/
def RowZ (w : World) (v : Value) (l : List Int) : Prop :=
  (∃ a cap, v = .slice a 0 cap ∧ l = []) ∨ ∃ g off cap, v = .slice (some ⟨g, off, none⟩) l.length cap ∧ g < w.heap.size ∧ ∀ j z, l[j]? = some z → w.cell? ⟨g, off + j, none⟩ = some (.int .i64 z)
theorem RowZ.below {w w' : World} {v : Value} {l : List Int} (h : RowZ w v l) (hb : Below w.heap.size w w') : RowZ w' v l := by
  rcases h with h | ⟨g, off, cap, rfl, hg, hc⟩
  · exact .inl h
  · exact .inr ⟨g, off, cap, rfl, Nat.lt_of_lt_of_le hg hb.size, fun j z hj => (hb.cell (p := ⟨g, off + j, none⟩) hg).trans (hc j z hj)⟩
theorem RowZ.len {w : World} {v : Value} {l : List Int} (h : RowZ w v l) : ∃ a cap, v = .slice a l.length cap := by
  rcases h with ⟨a, cap, rfl, rfl⟩ | ⟨g, off, cap, rfl, _⟩
  · exact ⟨_, _, rfl⟩
  · exact ⟨_, _, rfl⟩
theorem RowZ.at {w : World} {a0 : Option Addr} {n cap : Nat} {l : List Int} (hv : RowZ w (.slice a0 n cap) l) {k : Nat} {z : Int} (hk : l[k]? = some z) : ∃ g off, a0 = some ⟨g, off, none⟩ ∧ g < w.heap.size ∧ w.cell? ⟨g, off + k, none⟩ = some (.int .i64 z) := by
  rcases hv with ⟨a, c, e, rfl⟩ | ⟨g, off, c, e, hg, hc⟩
  · simp at hk
  · injection e with e1 e2 e3
    exact ⟨g, off, e1, hg, hc k z hk⟩
def toZ (l : List Nat) : List Int := l.map (fun k : Nat => (k : Int))
theorem toZ_length (l : List Nat) : (toZ l).length = l.length := by simp [toZ]
theorem toZ_get {l : List Nat} {k d : Nat} (h : l[k]? = some d) : (toZ l)[k]? = some (d : Int) := by simp [toZ, h]
theorem atZ_toZ (l : List Nat) : atZ (toZ l) = atN l := by
  funext i
  unfold atZ atN toZ
  rw [List.getElem?_map]
  cases l[i]? <;> rfl
theorem RowAt.rowZ {w : World} {v : Value} {l : List Nat} (h : RowAt w v l) : RowZ w v (toZ l) := by
  rcases h with ⟨rfl, rfl⟩ | ⟨g, cap, rfl, hg, hc⟩
  · exact .inl ⟨_, _, rfl, rfl⟩
  · refine .inr ⟨g, 0, cap, by rw [toZ_length], hg, fun j z hj => ?_⟩
    have hlt : j < l.length := by
      have := (List.getElem?_eq_some_iff.1 hj).1
      rwa [toZ_length] at this
    rw [Nat.zero_add, hc j hlt]
    unfold toZ at hj
    rw [List.getElem?_map, List.getElem?_eq_getElem hlt] at hj
    simp at hj
    rw [← hj]
    simp [hlt]
/-- Block g holds the clause c. -/
def BoxC (w : World) (g : Nat) (c : C) : Prop := w.cell? ⟨g, 0, none⟩ = some (.int .u32 (c.1.val : Int)) ∧ w.cell? ⟨g, 1, none⟩ = some (.int .u32 (c.2.val : Int)) ∧ g < w.heap.size
theorem BoxC.below {w w' : World} {g : Nat} {c : C} (h : BoxC w g c) (hb : Below w.heap.size w w') : BoxC w' g c :=
  ⟨(hb.cell (p := ⟨g, 0, none⟩) h.2.2).trans h.1, (hb.cell (p := ⟨g, 1, none⟩) h.2.2).trans h.2.1, Nat.lt_of_lt_of_le h.2.2 hb.size⟩
theorem BoxC.made (w : World) (c : C) (t : TypeId) : BoxC (w.alloc (.cells #[.int .u32 (c.1.val : Int), .int .u32 (c.2.val : Int)] t)) w.heap.size c :=
  ⟨by simp [go_sem], by simp [go_sem], by simp⟩
theorem CRow.atT {w : World} {a0 : Option Addr} {n cap : Nat} {l : List C} (hv : CRow w (.slice a0 n cap) l) {k : Nat} {c : C} (hk : l[k]? = some c) : ∃ g off, a0 = some ⟨g, off, none⟩ ∧ g < w.heap.size ∧ w.cell? ⟨g, off + k * 2, none⟩ = some (.int .u32 (c.1.val : Int)) ∧ w.cell? ⟨g, off + k * 2 + 1, none⟩ = some (.int .u32 (c.2.val : Int)) := by
  rcases hv with ⟨a, c', e, rfl⟩ | ⟨g, off, c', e, hg, hc⟩
  · simp at hk
  · injection e with e1 e2 e3
    exact ⟨g, off, e1, hg, (hc k c hk).1, (hc k c hk).2⟩

theorem valueOf_any (i : Nat) (l : List Int) (va : Value) (w : World) (ha : RowZ w va l) :
    Calls Tryd.prog 52 #[.int .i64 i, va] w fun e w' => e = .returned (.int .i64 (atZ l i)) ∧ w' = w := by
  obtain ⟨pa, ca, rfl⟩ := ha.len
  have HZ : Hid (atZ l i = l[i]?.getD 0) := rfl
  by_cases h : i < l.length
  · obtain ⟨z, hz⟩ := get_some h
    obtain ⟨g, off, rfl, hg, x0⟩ := ha.at hz
    rw [hz] at HZ
    generalize l.length = n at *
    clear ha hz
    go_enter Tryd.func52, Tryd.ntmps52
    go_wp2
    go_ret
    exact ⟨ret_int HZ.out.symm, rfl⟩
  · rw [List.getElem?_eq_none (by omega)] at HZ
    generalize l.length = n at *
    clear ha
    go_enter Tryd.func52, Tryd.ntmps52
    go_wp2
    go_ret
    exact ⟨ret_int HZ.out.symm, rfl⟩
theorem evC_take_step {c : C} {v : Nat → Int} {ds : List Nat} {k d : Nat} (h : ds[k]? = some d) : evC c v (ds.take (k + 1)) = stepB c v (stepA c v (evC c v (ds.take k)) d) d := by
  have e : ds.take (k + 1) = ds.take k ++ [d] := by rw [List.take_add_one, h]; rfl
  rw [e, evC_snoc]; rfl
theorem evF_take_step {f : List C} {v : Nat → Int} {ds : List Nat} {k : Nat} {c : C} (h : f[k]? = some c) : evF (f.take (k + 1)) v ds = jnV (evF (f.take k) v ds) (evC c v ds) := by
  have e : f.take (k + 1) = f.take k ++ [c] := by rw [List.take_add_one, h]; rfl
  rw [e, evF_snoc]; rfl
theorem evC_range_step (c : C) (v : Nat → Int) (k : Nat) : evC c v (List.range (k + 1)) = stepB c v (stepA c v (evC c v (List.range k)) k) k := by
  rw [List.range_succ, evC_snoc]; rfl


set_option maxRecDepth 100000 in
set_option maxHeartbeats 2000000 in
theorem evalClause_any (c : C) (ds : List Nat) (l : List Int) (vd va : Value) (w : World) (hT : Tabs w) (hd : RowZ w vd (toZ ds)) (h24 : ∀ i ∈ ds, i < 24) (hn : ds.length ≤ 24) (ha : RowZ w va l) :
    Calls Tryd.prog 35 #[clV c, vd, va] w fun e w' => e = .returned (.int .i64 (evC c (atZ l) ds)) ∧ Below w.heap.size w w' := by
  have hA := BoxC.made w c 25
  have hB := below_alloc w (.cells #[.int .u32 (c.1.val : Int), .int .u32 (c.2.val : Int)] 25)
  have hc1 := c.1.isLt
  have hc2 := c.2.isLt
  have HT : Hid (∀ W, Below w.heap.size w W → Tabs W) := fun W h => hT.below h
  have HD : Hid (∀ W, Below w.heap.size w W → RowZ W vd (toZ ds)) := fun W h => hd.below h
  have HZ : Hid (∀ W, Below w.heap.size w W → RowZ W va l) := fun W h => ha.below h
  have H24 : Hid (∀ i ∈ ds, i < 24) := h24
  obtain ⟨pd, cd, rfl⟩ := hd.len
  obtain ⟨pa, ca, rfl⟩ := ha.len
  rw [toZ_length] at HD ⊢
  clear hT hd ha h24
  obtain ⟨n, hn1⟩ : ∃ n, n = ds.length := ⟨_, rfl⟩
  have Hn : Hid (n = ds.length) := hn1
  rw [← hn1] at hn HD ⊢
  clear hn1
  generalize l.length = nl at HZ ⊢
  go_enter Tryd.func35, Tryd.ntmps35
  go_wp2
  generalize w.alloc (.cells #[.int .u32 (c.1.val : Int), .int .u32 (c.2.val : Int)] 25) = wb at hA hB ⊢
  have HA : Hid (∀ W, Below wb.heap.size wb W → BoxC W w.heap.size c) := fun W h => hA.below h
  have hBs := hB.size
  clear hA
  go_loopw [7, 12] (fun v i wr => ∃ k : Nat, k ≤ n ∧ i = .int .i64 k ∧ v = .int .i64 (evC c (atZ l) (ds.take k)) ∧ Below wb.heap.size wb wr) (fun _ i _ => n - (intOf i).toNat)
  case atStart => exact ⟨0, Nat.zero_le _, rfl, rfl, Below.refl _ _⟩
  case round =>
    obtain ⟨k, hk, rfl, rfl, hny⟩ := hrel
    by_cases hlt : k < n
    · obtain ⟨d, hdk⟩ := get_some (l := ds) (k := k) (by rw [← Hn.out]; exact hlt)
      have hBr := chain hB hny
      obtain ⟨g, off, rfl, hg, x0⟩ := (HD.out wr hBr).at (toZ_get hdk)
      have hd24 : d < 24 := H24.out d (List.mem_of_getElem? hdk)
      have HS : Hid (evC c (atZ l) (ds.take (k + 1)) = stepB c (atZ l) (stepA c (atZ l) (evC c (atZ l) (ds.take k)) d) d) := evC_take_step hdk
      obtain ⟨z0, z1, z2⟩ := HA.out wr hny
      have hP : hasB c.1.val (d : Int) = c.1.val.testBit d := hasB_nat hd24
      have hQ : hasB c.2.val (d : Int) = c.2.val.testBit d := hasB_nat hd24
      have cH1 := fun W => has_any c.1.val (d : Int) W hc1
      have cH2 := fun W => has_any c.2.val (d : Int) W hc2
      rw [hP] at cH1
      rw [hQ] at cH2
      have HSA : Hid (∀ a, stepA c (atZ l) a d = if c.1.val.testBit d then mtV a (atZ l d) else a) := fun _ => rfl
      have HSB : Hid (∀ a, stepB c (atZ l) a d = if c.2.val.testBit d then mtV a (ntV (atZ l d)) else a) := fun _ => rfl
      have cV := fun W (h : Below w.heap.size w W) => valueOf_any d l _ W (HZ.out W h)
      have cM := fun a b W (h : Below w.heap.size w W) => tMeet_any a b W (HT.out W h)
      have cN := fun a W (h : Below w.heap.size w W) => tNot_any a W (HT.out W h)
      clear hdk hP hQ
      generalize evC c (atZ l) (ds.take k) = a0 at HS ⊢
      generalize atZ l d = zd at *
      cases hp : c.1.val.testBit d
      · cases hq : c.2.val.testBit d
        · rw [hp] at HSA
          rw [hq] at HSB
          simp only [hp] at cH1
          simp only [hq] at cH2
          go_wp2_with fail
          refine (cH1 wr).mono ?_
          rintro e w0 ⟨rfl, hw0⟩
          replace hw0 := hw0.symm
          subst hw0
          go_wp2_with fail
          refine (cH2 wr).mono ?_
          rintro e w0 ⟨rfl, hw0⟩
          replace hw0 := hw0.symm
          subst hw0
          clear cH1 cH2 cV cM cN
          go_wp2
          go_roundw
          case rel => exact ⟨k + 1, by omega, by go_num, by rw [HS.out, HSA.out, HSB.out]; rfl, hny⟩
          case measure => simp [intOf]; omega
        · rw [hp] at HSA
          rw [hq] at HSB
          simp only [hp] at cH1
          simp only [hq] at cH2
          go_wp2_with fail
          refine (cH1 wr).mono ?_
          rintro e w0 ⟨rfl, hw0⟩
          replace hw0 := hw0.symm
          subst hw0
          go_wp2_with fail
          refine (cH2 wr).mono ?_
          rintro e w0 ⟨rfl, hw0⟩
          replace hw0 := hw0.symm
          subst hw0
          go_wp2_with fail
          refine (cV wr hBr).mono ?_
          rintro e w0 ⟨rfl, hw0⟩
          replace hw0 := hw0.symm
          subst hw0
          go_wp2_with fail
          refine (cN _ wr hBr).mono ?_
          rintro e w3 ⟨rfl, hB3⟩
          have hBr3 := chain hBr hB3
          have hny3 := chain hny hB3
          go_wp2_with fail
          refine (cM _ _ w3 hBr3).mono ?_
          rintro e w4 ⟨rfl, hB4⟩
          have hBr4 := chain hBr3 hB4
          have hny4 := chain hny3 hB4
          clear cH1 cH2 cV cM cN
          go_wp2
          go_roundw
          case rel => exact ⟨k + 1, by omega, by go_num, by rw [HS.out, HSA.out, HSB.out]; rfl, hny4⟩
          case measure => simp [intOf]; omega
      · cases hq : c.2.val.testBit d
        · rw [hp] at HSA
          rw [hq] at HSB
          simp only [hp] at cH1
          simp only [hq] at cH2
          go_wp2_with fail
          refine (cH1 wr).mono ?_
          rintro e w0 ⟨rfl, hw0⟩
          replace hw0 := hw0.symm
          subst hw0
          go_wp2_with fail
          refine (cV wr hBr).mono ?_
          rintro e w0 ⟨rfl, hw0⟩
          replace hw0 := hw0.symm
          subst hw0
          go_wp2_with fail
          refine (cM _ _ wr hBr).mono ?_
          rintro e w2 ⟨rfl, hB2⟩
          have hBr2 := chain hBr hB2
          have hny2 := chain hny hB2
          obtain ⟨y0, y1, y2⟩ := HA.out w2 hny2
          go_wp2_with fail
          refine (cH2 w2).mono ?_
          rintro e w0 ⟨rfl, hw0⟩
          replace hw0 := hw0.symm
          subst hw0
          clear cH1 cH2 cV cM cN
          go_wp2
          go_roundw
          case rel => exact ⟨k + 1, by omega, by go_num, by rw [HS.out, HSA.out, HSB.out]; rfl, hny2⟩
          case measure => simp [intOf]; omega
        · rw [hp] at HSA
          rw [hq] at HSB
          simp only [hp] at cH1
          simp only [hq] at cH2
          go_wp2_with fail
          refine (cH1 wr).mono ?_
          rintro e w0 ⟨rfl, hw0⟩
          replace hw0 := hw0.symm
          subst hw0
          go_wp2_with fail
          refine (cV wr hBr).mono ?_
          rintro e w0 ⟨rfl, hw0⟩
          replace hw0 := hw0.symm
          subst hw0
          go_wp2_with fail
          refine (cM _ _ wr hBr).mono ?_
          rintro e w2 ⟨rfl, hB2⟩
          have hBr2 := chain hBr hB2
          have hny2 := chain hny hB2
          obtain ⟨y0, y1, y2⟩ := HA.out w2 hny2
          go_wp2_with fail
          refine (cH2 w2).mono ?_
          rintro e w0 ⟨rfl, hw0⟩
          replace hw0 := hw0.symm
          subst hw0
          go_wp2_with fail
          refine (cV w2 hBr2).mono ?_
          rintro e w0 ⟨rfl, hw0⟩
          replace hw0 := hw0.symm
          subst hw0
          go_wp2_with fail
          refine (cN _ w2 hBr2).mono ?_
          rintro e w3 ⟨rfl, hB3⟩
          have hBr3 := chain hBr2 hB3
          have hny3 := chain hny2 hB3
          go_wp2_with fail
          refine (cM _ _ w3 hBr3).mono ?_
          rintro e w4 ⟨rfl, hB4⟩
          have hBr4 := chain hBr3 hB4
          have hny4 := chain hny3 hB4
          clear cH1 cH2 cV cM cN
          go_wp2
          go_roundw
          case rel => exact ⟨k + 1, by omega, by go_num, by rw [HS.out, HSA.out, HSB.out]; rfl, hny4⟩
          case measure => simp [intOf]; omega
    · obtain rfl : k = n := by omega
      have e : ds.take k = ds := List.take_of_length_le (by rw [← Hn.out]; exact Nat.le_refl _)
      rw [e]
      go_wp2
      go_ret
      exact ⟨rfl, chain hB hny⟩

set_option maxRecDepth 100000 in
set_option maxHeartbeats 2000000 in
theorem teval_any (f : List C) (ds : List Nat) (l : List Int) (vf vd va : Value) (w : World) (hT : Tabs w) (hf : CRow w vf f) (hd : RowZ w vd (toZ ds)) (h24 : ∀ i ∈ ds, i < 24) (hn : ds.length ≤ 24) (ha : RowZ w va l) (hfl : f.length ≤ 40000) :
    Calls Tryd.prog 17 #[vf, vd, va] w fun e w' => e = .returned (.int .i64 (evF f (atZ l) ds)) ∧ Below w.heap.size w w' := by
  have cE := fun c W (h : Below w.heap.size w W) => evalClause_any c ds l vd va W (hT.below h) (hd.below h) h24 hn (ha.below h)
  have cJ := fun a b W (h : Below w.heap.size w W) => tJoin_any a b W (hT.below h)
  have HF : Hid (∀ W, Below w.heap.size w W → CRow W vf f) := fun W h => hf.below h
  obtain ⟨pf, cf, rfl⟩ := hf.len
  obtain ⟨pd, cd, rfl⟩ := hd.len
  obtain ⟨pa, ca, rfl⟩ := ha.len
  clear hT hf hd ha h24 hn
  obtain ⟨n, hn1⟩ : ∃ n, n = f.length := ⟨_, rfl⟩
  have Hn : Hid (n = f.length) := hn1
  rw [← hn1] at hfl HF ⊢
  clear hn1
  generalize (toZ ds).length = nd at *
  generalize l.length = nl at *
  go_enter Tryd.func17, Tryd.ntmps17
  go_wp2
  go_loopw [7, 12] (fun v i wr => ∃ k : Nat, k ≤ n ∧ i = .int .i64 k ∧ v = .int .i64 (evF (f.take k) (atZ l) ds) ∧ Below w.heap.size w wr) (fun _ i _ => n - (intOf i).toNat)
  case atStart => exact ⟨0, Nat.zero_le _, rfl, rfl, Below.refl _ _⟩
  case round =>
    obtain ⟨k, hk, rfl, rfl, hny⟩ := hrel
    by_cases hlt : k < n
    · obtain ⟨c, hck⟩ := get_some (l := f) (k := k) (by rw [← Hn.out]; exact hlt)
      obtain ⟨g, off, rfl, hg, x0, x1⟩ := (HF.out wr hny).atT hck
      have HS : Hid (evF (f.take (k + 1)) (atZ l) ds = jnV (evF (f.take k) (atZ l) ds) (evC c (atZ l) ds)) := evF_take_step hck
      clear hck
      have hb := chain hny (below_alloc wr (.cells #[.int .u32 (c.1.val : Int), .int .u32 (c.2.val : Int)] 25))
      have c1 := cE c _ hb
      clear cE
      generalize evF (f.take k) (atZ l) ds = a0 at HS ⊢
      generalize evC c (atZ l) ds = a1 at HS c1 ⊢
      go_wp2_with fail
      refine c1.mono ?_
      rintro e w2 ⟨rfl, hB2⟩
      clear c1
      have hb2 := chain hb hB2
      go_wp2_with fail
      refine (cJ a0 a1 w2 hb2).mono ?_
      rintro e w3 ⟨rfl, hB3⟩
      clear cJ
      have hb3 := chain hb2 hB3
      go_wp2
      go_roundw
      case rel => exact ⟨k + 1, by omega, by go_num, by rw [HS.out], hb3⟩
      case measure => simp [intOf]; omega
    · obtain rfl : k = n := by omega
      have e : f.take k = f := List.take_of_length_le (by rw [← Hn.out]; exact Nat.le_refl _)
      rw [e]
      clear cE cJ
      go_wp2
      go_ret
      exact ⟨rfl, hny⟩

end Go.Proofs.YtdikaomebbpmhabDoor
