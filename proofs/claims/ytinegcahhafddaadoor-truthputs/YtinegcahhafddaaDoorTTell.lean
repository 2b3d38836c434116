/- Tell, Same and Eval of the layer truth: what they hand back; nothing that lay before the call turns. -/
import Derived.Deep.LoopGhost
import Derived.Test.YtinegcahhafddaaDoorTTurn
import Derived.Test.YtinegcahhafddaaDoorFDims
import Derived.Test.YtinegcahhafddaaDoorLoops
namespace Go.Proofs.YtinegcahhafddaaDoor
open Go.RowKit
set_option linter.unusedVariables false
set_option linter.unusedSimpArgs false

theorem OwnsL.nil (w : World) (base : Nat) : OwnsL w base (.slice none 0 0) [] := World.ownsRow_nil _ _ _ _
theorem OwnsL.len {w : World} {base : Nat} {v : Value} {l : List Nat} (h : OwnsL w base v l) : ∃ a cap, v = .slice a l.length cap := by
  have := h.rowZ.len
  rwa [toZ_length] at this
theorem tellF_arg {f g : List C} (h : (rightF f && rightF g) = false) : tellF f g = ([], 2) := by unfold tellF; rw [h]; rfl
theorem tellF_big {f g : List C} (hf : rightF f = true) (hg : rightF g = true) (h : 5 < (dimsFG f g).length) : tellF f g = ([], 3) := by
  unfold tellF; rw [hf, hg]; exact if_pos h
theorem tellF_ok {f g : List C} (hf : rightF f = true) (hg : rightF g = true) (h : ¬ 5 < (dimsFG f g).length) : tellF f g = (tellR f g, 0) := by
  unfold tellF; rw [hf, hg]; exact if_neg h
theorem or_dims_lt (f g : List C) : dimsN f ||| dimsN g < 4294967296 := or_lt32 (dimsN_lt32 f) (dimsN_lt32 g)

set_option maxHeartbeats 2000000 in
theorem Tell_arg (f g : List C) (vf vg : Value) (w : World) (hf : FRow w vf f) (hg : FRow w vg g) (hfl : f.length ≤ 40000) (hgl : g.length ≤ 40000) (hr : (rightF f && rightF g) = false) :
    Calls Tryd.prog 18 #[vf, vg] w fun e w' => ∃ v, e = .returned (.tuple #[v, .int .i64 (tellF f g).2]) ∧ OwnsL w' w.heap.size v (tellF f g).1 ∧ Below w.heap.size w w' := by
  have HE : Hid (tellF f g = ([], 2)) := tellF_arg hr
  have c1 := fright_any f vf w hf (by omega)
  have c2 := fun w1 (h : Below w.heap.size w w1) => fright_any g vg w1 (hg.below h) (by omega)
  obtain ⟨pf, cf, rfl⟩ := hf.len
  obtain ⟨pg, cg, rfl⟩ := hg.len
  clear hf hg hfl hgl
  generalize f.length = nf at *
  generalize g.length = ng at *
  cases h1 : rightF f
  · rw [h1] at c1
    clear c2 hr h1
    go_enter Tryd.func18, Tryd.ntmps18
    go_wp2_with fail
    refine c1.mono ?_
    rintro e w1 ⟨rfl, hB1⟩
    clear c1
    go_wp2
    go_ret2
    rw [HE.out]
    exact ⟨_, rfl, OwnsL.nil _ _, hB1⟩
  · have h2 : rightF g = false := by rw [h1] at hr; simpa using hr
    rw [h1] at c1
    simp only [h2] at c2
    clear hr h1 h2
    go_enter Tryd.func18, Tryd.ntmps18
    go_wp2_with fail
    refine c1.mono ?_
    rintro e w1 ⟨rfl, hB1⟩
    clear c1
    replace c2 := c2 w1 hB1
    go_wp2_with fail
    refine c2.mono ?_
    rintro e w2 ⟨rfl, hB2⟩
    clear c2
    go_wp2
    go_ret2
    rw [HE.out]
    exact ⟨_, rfl, OwnsL.nil _ _, chain hB1 hB2⟩

set_option maxRecDepth 100000 in
set_option maxHeartbeats 4000000 in
theorem Tell_ok (f g : List C) (vf vg : Value) (w : World) (hT : Tabs w) (hf : FRow w vf f) (hg : FRow w vg g) (hfl : f.length ≤ 40000) (hgl : g.length ≤ 40000) (hrf : rightF f = true) (hrg : rightF g = true) :
    Calls Tryd.prog 18 #[vf, vg] w fun e w' => ∃ v, e = .returned (.tuple #[v, .int .i64 (tellF f g).2]) ∧ OwnsL w' w.heap.size v (tellF f g).1 ∧ Below w.heap.size w w' := by
  have HE3 : Hid (5 < (dimsFG f g).length → tellF f g = ([], 3)) := tellF_big hrf hrg
  have HE0 : Hid (¬ 5 < (dimsFG f g).length → tellF f g = (tellR f g, 0)) := tellF_ok hrf hrg
  have c1 := fright_any f vf w hf (by omega)
  have c2 := fun w1 (h : Below w.heap.size w w1) => fright_any g vg w1 (hg.below h) (by omega)
  rw [hrf] at c1
  simp only [hrg] at c2
  have c3 := fun w1 (h : Below w.heap.size w w1) => Dims_any f vf w1 (hf.row.below h) (by omega)
  have c4 := fun w1 (h : Below w.heap.size w w1) => Dims_any g vg w1 (hg.row.below h) (by omega)
  have H1 : Hid (bits BinOp.or IntKind.u32 (dimsN f : Int) (dimsN g : Int) = ((dimsN f ||| dimsN g : Nat) : Int)) := bits_or32 _ _ (dimsN_lt32 f) (dimsN_lt32 g)
  have c5 := fun w1 => count_any (dimsN f ||| dimsN g) w1 (or_dims_lt f g)
  have c6 := fun w1 => list_any (dimsN f ||| dimsN g) w1 (or_dims_lt f g)
  have hcn : countN (dimsN f ||| dimsN g) = (dimsFG f g).length := rfl
  have hdd : dimsOf (dimsN f ||| dimsN g) = dimsFG f g := rfl
  simp only [hcn] at c5
  simp only [hdd] at c6
  have hD24 : ∀ i ∈ dimsFG f g, i < 24 := dimsOf_lt
  have hDn : (dimsFG f g).length ≤ 24 := dimsOf_length_le _
  have hDs : (dimsFG f g).Pairwise (· < ·) := dimsOf_sorted _
  have HR : Hid (tellR f g = tellN f g (dimsFG f g) (4 ^ (dimsFG f g).length) (row0 (dimsFG f g))) := rfl
  have HF : Hid (∀ W, Below w.heap.size w W → CRow W vf f) := fun W h => hf.row.below h
  have HG : Hid (∀ W, Below w.heap.size w W → CRow W vg g) := fun W h => hg.row.below h
  have HT : Hid (∀ W, Below w.heap.size w W → Tabs W) := fun W h => hT.below h
  obtain ⟨pf, cf, rfl⟩ := hf.len
  obtain ⟨pg, cg, rfl⟩ := hg.len
  have Hfl : Hid (rightF f = true) := hrf
  have Hgl : Hid (rightF g = true) := hrg
  clear hf hg hfl hgl hT hcn hdd hrf hrg
  generalize f.length = nf at *
  generalize g.length = ng at *
  generalize dimsFG f g = ds at *
  generalize dimsN f = sf at *
  generalize dimsN g = sg at *
  go_enter Tryd.func18, Tryd.ntmps18
  go_wp2_with fail
  refine c1.mono ?_
  rintro e w1 ⟨rfl, hB1⟩
  clear c1
  replace c2 := c2 w1 hB1
  go_wp2_with fail
  refine c2.mono ?_
  rintro e w2 ⟨rfl, hB2⟩
  replace hB2 := chain hB1 hB2
  clear c2 hB1
  replace c3 := c3 w2 hB2
  go_wp2_with fail
  refine c3.mono ?_
  rintro e w3 ⟨rfl, hB3⟩
  replace hB3 := chain hB2 hB3
  clear c3 hB2
  replace c4 := c4 w3 hB3
  go_wp2_with fail
  refine c4.mono ?_
  rintro e w4 ⟨rfl, hB4⟩
  replace hB4 := chain hB3 hB4
  clear c4 hB3
  go_wp2_with fail
  rw [H1.out]
  refine (c5 w4).mono ?_
  rintro e w5 ⟨rfl, hB5⟩
  replace hB5 := chain hB4 hB5
  clear c5 hB4 H1
  by_cases h5 : 5 < ds.length
  · have HE := HE3.out h5
    have HE' : Hid (tellF f g = ([], 3)) := HE
    clear HE HE3 HE0 c6
    generalize ds.length = n at *
    have h5' : (5 : Int) < (n : Int) := by omega
    go_wp2
    go_ret2
    rw [HE'.out]
    exact ⟨_, rfl, OwnsL.nil _ _, hB5⟩
  · have HE' : Hid (tellF f g = (tellR f g, 0)) := HE0.out h5
    clear HE3 HE0
    replace c6 := c6 w5
    have h5' : ¬ ((5 : Int) < (ds.length : Int)) := by omega
    go_wp2_with fail
    refine c6.mono ?_
    rintro e w6 ⟨vd, rfl, hO6, hB6⟩
    replace hB6 := chain hB5 hB6
    clear c6 hB5 h5'
    have hdZ := hO6.rowZ
    have c7 := firstRow_any ds vd w6 hdZ hD24 hDn
    obtain ⟨pd, cd, rfl⟩ := hO6.len
    generalize hdl : ds.length = nd at c7 hdZ ⊢
    clear hO6
    go_wp2_with fail
    refine c7.mono ?_
    rintro e w7 ⟨vr, rfl, hO7, hB7⟩
    clear c7
    have HD : Hid (RowZ w6 (.slice pd nd cd) (toZ ds)) := hdZ
    have HGo : Hid (Good (sizeD ds) (row0 ds)) := row0_good ds
    have hsz := sizeD_pos ds
    have hs24 := sizeD_le hD24
    have HLT : Hid (∀ i ∈ ds, i < sizeD ds) := sizeD_gt hDs
    have HND : Hid (ds.Nodup) := sorted_nodup hDs
    have H24 : Hid (∀ i ∈ ds, i < 24) := hD24
    have HN0 : Hid (numL (row0 ds) ds = 0) := row0_num ds ds
    have HLen : Hid (ds.length ≤ 24) := hDn
    have HE6 : Hid (Below w.heap.size w w6) := hB6
    have hB6s := hB6.size
    clear hdZ hD24 hDs hDn hdl h5
    obtain ⟨pr, cr, hvr⟩ := hO7.len
    rw [HGo.out.len] at hvr
    subst hvr
    generalize hsd : sizeD ds = size at *
    go_wp2
    go_loopg [9] (4 ^ ds.length) (fun m v wr => (∃ r : List Nat, v = .bool true ∧ 0 < m ∧ Good size r ∧ m + numL r ds = 4 ^ ds.length ∧ tellR f g = tellN f g ds m r ∧ OwnsL wr w6.heap.size (.slice pr size cr) r ∧ Below w6.heap.size w6 wr) ∨ (m = 0 ∧ v = .bool false ∧ tellR f g = [] ∧ Below w6.heap.size w6 wr))
    case atStart => exact .inl ⟨row0 ds, rfl, Nat.pow_pos (by decide), HGo.out, by rw [HN0.out]; rfl, HR.out, hO7, hB7⟩
    case round =>
      rcases hrel with ⟨r, rfl, hm, hG, hnum, hR, hO, hB⟩ | ⟨hm, rfl, hR, hB⟩
      · have hBw : Below w.heap.size w wr := chain HE6.out hB
        have cf := fun W (h : Below w6.heap.size w6 W) (hO : OwnsL W w6.heap.size (.slice pr size cr) r) => teval_any f ds (toZ r) (.slice pf nf cf) (.slice pd nd cd) (.slice pr size cr) W (HT.out W (chain HE6.out h)) (HF.out W (chain HE6.out h)) (HD.out.below h) H24.out HLen.out hO.rowZ (by have := rightF_len Hfl.out; omega)
        have cg := fun W (h : Below w6.heap.size w6 W) (hO : OwnsL W w6.heap.size (.slice pr size cr) r) => teval_any g ds (toZ r) (.slice pg ng cg) (.slice pd nd cd) (.slice pr size cr) W (HT.out W (chain HE6.out h)) (HG.out W (chain HE6.out h)) (HD.out.below h) H24.out HLen.out hO.rowZ (by have := rightF_len Hgl.out; omega)
        simp only [atZ_toZ] at cf cg
        have A : Aside (Good size r ∧ gk + numL r ds = 4 ^ ds.length ∧ tellR f g = tellN f g ds gk r) := ⟨hG, hnum, hR⟩
        clear hG hnum hR
        have cf1 := cf wr hB hO
        clear cf
        go_wp2_with fail
        refine cf1.mono ?_
        rintro e w8 ⟨rfl, hB8⟩
        clear cf1
        replace hO := hO.below hB8
        replace hB := chain hB hB8
        clear hB8 hBw
        have cg1 := cg w8 hB hO
        clear cg
        go_wp2_with fail
        refine cg1.mono ?_
        rintro e w9 ⟨rfl, hB9⟩
        clear cg1
        replace hO := hO.below hB9
        replace hB := chain hB hB9
        clear hB9
        by_cases he : evF f (atN r) ds = evF g (atN r) ds
        · have ct := turn_any ds r size (.slice pd nd cd) (.slice pr size cr) w6 w9 HD.out HLT.out HLen.out A.out.1 hsz hs24 hO hB
          have he' : (evF f (atN r) ds != evF g (atN r) ds) = false := by simp [he]
          cases hb : (turnL r ds).2
          · have HT2 : Hid (tellR f g = []) := A.out.2.2.trans (tellN_end he hb)
            rw [hb] at ct
            clear he hO hB hb
            generalize evF f (atN r) ds = a1 at he' ⊢
            generalize evF g (atN r) ds = a2 at he' ⊢
            go_wp2_with fail
            refine ct.mono ?_
            rintro e w10 ⟨rfl, hO10, hB10⟩
            clear ct
            go_wp2
            go_roundg 0
            case measure => exact hm
            case rel => exact .inr ⟨rfl, rfl, HT2.out, hB10⟩
          · have hg1 : gk = (gk - 1) + 1 := by omega
            have HT2 : Hid (tellR f g = tellN f g ds (gk - 1) (turnL r ds).1) := by
              have h1 := A.out.2.2
              rw [hg1, tellN_on he hb] at h1
              exact h1
            have HN2 : Hid (gk - 1 + numL (turnL r ds).1 ds = 4 ^ ds.length ∧ 0 < gk - 1) := by
              have h1 := turnL_yes A.out.1 HND.out HLT.out hb
              have h2 := numL_lt (turnL_good (ds := ds) A.out.1) ds
              have h3 := A.out.2.1
              exact ⟨by omega, by omega⟩
            have HG2 : Hid (Good size (turnL r ds).1) := turnL_good A.out.1
            rw [hb] at ct
            clear he hO hB hb hg1
            generalize evF f (atN r) ds = a1 at he' ⊢
            generalize evF g (atN r) ds = a2 at he' ⊢
            go_wp2_with fail
            refine ct.mono ?_
            rintro e w10 ⟨rfl, hO10, hB10⟩
            clear ct
            go_wp2
            go_roundg (gk - 1)
            case measure => omega
            case rel => exact .inl ⟨_, rfl, HN2.out.2, HG2.out, HN2.out.1, HT2.out, hO10, hB10⟩
        · have he' : (evF f (atN r) ds != evF g (atN r) ds) = true := by simp [he]
          have HT2 : Hid (tellR f g = r) := A.out.2.2.trans (tellN_hit hm he)
          clear he
          generalize evF f (atN r) ds = a1 at he' ⊢
          generalize evF g (atN r) ds = a2 at he' ⊢
          go_wp2
          go_ret2
          rw [HE'.out]
          exact ⟨_, rfl, by show OwnsL _ _ _ (tellR f g); rw [HT2.out]; exact hO.mono hB6s, chain HE6.out hB⟩
      · have A : Aside (tellR f g = []) := hR
        clear hR
        go_wp2
        go_ret2
        rw [HE'.out, A.out]
        exact ⟨_, rfl, OwnsL.nil _ _, chain HE6.out hB⟩
theorem Tell_any (f g : List C) (vf vg : Value) (w : World) (hT : Tabs w) (hf : FRow w vf f) (hg : FRow w vg g) (hfl : f.length ≤ 40000) (hgl : g.length ≤ 40000) :
    Calls Tryd.prog 18 #[vf, vg] w fun e w' => ∃ v, e = .returned (.tuple #[v, .int .i64 (tellF f g).2]) ∧ OwnsL w' w.heap.size v (tellF f g).1 ∧ Below w.heap.size w w' := by
  cases h : rightF f && rightF g
  · exact Tell_arg f g vf vg w hf hg hfl hgl h
  · rw [Bool.and_eq_true] at h
    exact Tell_ok f g vf vg w hT hf hg hfl hgl h.1 h.2

theorem len_zero {l : List Nat} : decide (l = []) = ((l.length : Int) == 0) := by
  cases l with
  | nil => rfl
  | cons a l => simp; omega
set_option maxHeartbeats 1000000 in
theorem Same_any (f g : List C) (vf vg : Value) (w : World) (hT : Tabs w) (hf : FRow w vf f) (hg : FRow w vg g) (hfl : f.length ≤ 40000) (hgl : g.length ≤ 40000) :
    Calls Tryd.prog 20 #[vf, vg] w fun e w' => e = .returned (.tuple #[.bool (sameV f g), .int .i64 (tellF f g).2]) ∧ Below w.heap.size w w' := by
  have c1 := Tell_any f g vf vg w hT hf hg hfl hgl
  have HS : Hid (sameV f g = (decide ((tellF f g).2 = 0) && decide ((tellF f g).1 = []))) := rfl
  obtain ⟨pf, cf, rfl⟩ := hf.len
  obtain ⟨pg, cg, rfl⟩ := hg.len
  clear hf hg hT hfl hgl
  generalize f.length = nf at *
  generalize g.length = ng at *
  generalize tellF f g = P at c1 HS ⊢
  obtain ⟨M, er⟩ := P
  simp only [len_zero] at HS c1 ⊢
  by_cases he : er = 0
  · subst he
    go_enter Tryd.func20, Tryd.ntmps20
    go_wp2_with fail
    refine c1.mono ?_
    rintro e w1 ⟨v, rfl, hO, hB⟩
    clear c1
    obtain ⟨pm, cm, rfl⟩ := hO.len
    clear hO
    generalize M.length = nm at *
    go_wp2
    go_ret2
    exact ⟨by rw [HS.out]; rfl, hB⟩
  · have he' : (er == 0) = false := by simp [he]
    have HS2 : Hid (sameV f g = false) := by show _ = _; rw [HS.out]; simp [he]
    clear HS he
    go_enter Tryd.func20, Tryd.ntmps20
    go_wp2_with fail
    refine c1.mono ?_
    rintro e w1 ⟨v, rfl, hO, hB⟩
    clear c1
    obtain ⟨pm, cm, rfl⟩ := hO.len
    clear hO
    generalize M.length = nm at *
    go_wp2
    go_ret2
    exact ⟨by rw [HS2.out]; rfl, hB⟩
set_option maxHeartbeats 1000000 in
theorem Eval_any (f : List C) (l : List Int) (vf va : Value) (w : World) (hT : Tabs w) (hf : FRow w vf f) (ha : RowZ w va l) (hfl : f.length ≤ 40000) :
    Calls Tryd.prog 16 #[vf, va] w fun e w' => e = .returned (.tuple #[.int .i64 (evalF f (atZ l)).1, .int .i64 (evalF f (atZ l)).2]) ∧ Below w.heap.size w w' := by
  have HE : Hid (evalF f (atZ l) = if rightF f then (valF f (atZ l), 0) else (0, 2)) := rfl
  have c1 := fright_any f vf w hf (by omega)
  have c2 := fun W (h : Below w.heap.size w W) => Dims_any f vf W (hf.row.below h) (by omega)
  have c3 := fun W => list_any (dimsN f) W (dimsN_lt32 f)
  have c4 := fun vd W (h : Below w.heap.size w W) (hd : RowZ W vd (toZ (dimsOf (dimsN f)))) => teval_any f (dimsOf (dimsN f)) l vf vd va W (hT.below h) (hf.row.below h) hd dimsOf_lt (dimsOf_length_le _) (ha.below h) hfl
  simp only [evF_own] at c4
  obtain ⟨pf, cf, rfl⟩ := hf.len
  obtain ⟨pa, ca, rfl⟩ := ha.len
  clear hf ha hfl hT
  generalize f.length = nf at *
  generalize l.length = nl at *
  generalize valF f (atZ l) = val at *
  generalize dimsN f = s at *
  cases h1 : rightF f
  · rw [h1] at c1 HE
    clear c2 c3 c4
    go_enter Tryd.func16, Tryd.ntmps16
    go_wp2_with fail
    refine c1.mono ?_
    rintro e w1 ⟨rfl, hB1⟩
    clear c1
    go_wp2
    go_ret2
    rw [HE.out]
    exact ⟨rfl, hB1⟩
  · rw [h1] at c1 HE
    go_enter Tryd.func16, Tryd.ntmps16
    go_wp2_with fail
    refine c1.mono ?_
    rintro e w1 ⟨rfl, hB1⟩
    clear c1
    replace c2 := c2 w1 hB1
    go_wp2_with fail
    refine c2.mono ?_
    rintro e w2 ⟨rfl, hB2⟩
    clear c2
    replace hB2 := chain hB1 hB2
    replace c3 := c3 w2
    go_wp2_with fail
    refine c3.mono ?_
    rintro e w3 ⟨vd, rfl, hO3, hB3⟩
    clear c3
    replace hB3 := chain hB2 hB3
    replace c4 := c4 vd w3 hB3 hO3.rowZ
    obtain ⟨pd, cd, rfl⟩ := hO3.len
    clear hO3
    go_wp2_with fail
    refine c4.mono ?_
    rintro e w4 ⟨rfl, hB4⟩
    clear c4
    go_wp2
    go_ret2
    rw [HE.out]
    exact ⟨rfl, chain hB3 hB4⟩
end Go.Proofs.YtinegcahhafddaaDoor
