/- The document's answers of the layer truth: Eval and Tell. Nothing that lay before the call turns. -/
import Derived.Deep.LoopGhost
import Derived.Test.YtinegcahhafddaaDoorTTurn
import Derived.Test.YtinegcahhafddaaDoorTTell
import Derived.Test.YtinegcahhafddaaDoorRDims
namespace Go.Proofs.YtinegcahhafddaaDoor
open Go.RowKit
set_option linter.unusedVariables false
set_option linter.unusedSimpArgs false

theorem inF_append (f g : List C) (k : Nat) : inF (f ++ g) k = (inF f k || inF g k) := by simp [inF]
theorem dims_append (f g : List C) : dimsN (f ++ g) = dimsN f ||| dimsN g := by
  apply Nat.eq_of_testBit_eq
  intro k
  rw [Nat.testBit_or, dimsN_bit, dimsN_bit, dimsN_bit, inF_append]
  cases decide (k < 24) <;> simp
set_option maxHeartbeats 1000000 in
theorem rEval_any (f : List C) (l : List Int) (vf va : Value) (w : World) (hf : CRow w vf f) (ha : RowZ w va l) (hfl : f.length ≤ 40000) :
    Calls Tryd.prog 17 #[vf, va] w fun e w' => e = .returned (.tuple #[.int .i64 (evalF f (atZ l)).1, .int .i64 (evalF f (atZ l)).2]) ∧ Below w.heap.size w w' := by
  have HE : Hid (evalF f (atZ l) = if rightF f then (valF f (atZ l), 0) else (0, 2)) := rfl
  have c1 := rfright_any f vf w hf (by omega)
  have c2 := fun W (h : Below w.heap.size w W) => reval_any f l vf va W (hf.below h) (ha.below h) hfl
  obtain ⟨pf, cf, rfl⟩ := hf.len
  obtain ⟨pa, ca, rfl⟩ := ha.len
  clear hf ha hfl
  generalize f.length = nf at *
  generalize l.length = nl at *
  generalize valF f (atZ l) = val at *
  cases h1 : rightF f
  · rw [h1] at c1 HE
    clear c2
    go_enter Tryd.func17, Tryd.ntmps17
    go_wp2_with fail
    refine c1.mono ?_
    rintro e w1 ⟨rfl, hB1⟩
    clear c1
    go_wp2
    go_ret2
    rw [HE.out]
    exact ⟨rfl, hB1⟩
  · rw [h1] at c1 HE
    go_enter Tryd.func17, Tryd.ntmps17
    go_wp2_with fail
    refine c1.mono ?_
    rintro e w1 ⟨rfl, hB1⟩
    clear c1
    go_wp2_with fail
    refine (c2 w1 hB1).mono ?_
    rintro e w0 ⟨rfl, hw0⟩
    replace hw0 := hw0.symm
    subst hw0
    clear c2
    go_wp2
    go_ret2
    rw [HE.out]
    exact ⟨rfl, hB1⟩

set_option maxHeartbeats 2000000 in
theorem rTell_arg (f g : List C) (vf vg : Value) (w : World) (hf : CRow w vf f) (hg : CRow w vg g) (hfl : f.length ≤ 40000) (hgl : g.length ≤ 40000) (hr : (rightF f && rightF g) = false) :
    Calls Tryd.prog 19 #[vf, vg] w fun e w' => ∃ v, e = .returned (.tuple #[v, .int .i64 (tellF f g).2]) ∧ OwnsL w' w.heap.size v (tellF f g).1 ∧ Below w.heap.size w w' := by
  have HE : Hid (tellF f g = ([], 2)) := tellF_arg hr
  have c1 := rfright_any f vf w hf (by omega)
  have c2 := fun w1 (h : Below w.heap.size w w1) => rfright_any g vg w1 (hg.below h) (by omega)
  obtain ⟨pf, cf, rfl⟩ := hf.len
  obtain ⟨pg, cg, rfl⟩ := hg.len
  clear hf hg hfl hgl
  generalize f.length = nf at *
  generalize g.length = ng at *
  cases h1 : rightF f
  · rw [h1] at c1
    clear c2 hr h1
    go_enter Tryd.func19, Tryd.ntmps19
    go_wp2_with fail
    refine c1.mono ?_
    rintro e w1 ⟨rfl, hB1⟩
    clear c1
    go_wp2
    go_ret2
    rw [HE.out]
    exact ⟨_, rfl, OwnsL.nil _ _, hB1⟩
  · have h2 : rightF g = false := by rw [h1] at hr; simpa using hr
    rw [h1] at c1
    simp only [h2] at c2
    clear hr h1 h2
    go_enter Tryd.func19, Tryd.ntmps19
    go_wp2_with fail
    refine c1.mono ?_
    rintro e w1 ⟨rfl, hB1⟩
    clear c1
    replace c2 := c2 w1 hB1
    go_wp2_with fail
    refine c2.mono ?_
    rintro e w2 ⟨rfl, hB2⟩
    clear c2
    go_wp2
    go_ret2
    rw [HE.out]
    exact ⟨_, rfl, OwnsL.nil _ _, chain hB1 hB2⟩

set_option maxRecDepth 100000 in
set_option maxHeartbeats 4000000 in
theorem rTell_ok (f g : List C) (vf vg : Value) (w : World) (hf : CRow w vf f) (hg : CRow w vg g) (hfl : f.length ≤ 10000) (hgl : g.length ≤ 10000) (hrf : rightF f = true) (hrg : rightF g = true) :
    Calls Tryd.prog 19 #[vf, vg] w fun e w' => ∃ v, e = .returned (.tuple #[v, .int .i64 (tellF f g).2]) ∧ OwnsL w' w.heap.size v (tellF f g).1 ∧ Below w.heap.size w w' := by
  obtain ⟨i0, hi, hz0, hz1, hz2⟩ := info_parts Tryd.infoInt
  have HE3 : Hid (5 < (dimsFG f g).length → tellF f g = ([], 3)) := tellF_big hrf hrg
  have HE0 : Hid (¬ 5 < (dimsFG f g).length → tellF f g = (tellR f g, 0)) := tellF_ok hrf hrg
  have c1 := rfright_any f vf w hf (by omega)
  have c2 := fun w1 (h : Below w.heap.size w w1) => rfright_any g vg w1 (hg.below h) (by omega)
  rw [hrf] at c1
  simp only [hrg] at c2
  have c4 := fun v w1 (h : CRow w1 v (f ++ g)) => rDims_any (f ++ g) v w1 h (by simp; omega)
  simp only [dims_append] at c4
  have c6 := fun w1 => refList_any (dimsN f ||| dimsN g) w1 (or_dims_lt f g)
  have hdd : dimsOf (dimsN f ||| dimsN g) = dimsFG f g := rfl
  simp only [hdd] at c6
  have hD24 : ∀ i ∈ dimsFG f g, i < 24 := dimsOf_lt
  have hDn : (dimsFG f g).length ≤ 24 := dimsOf_length_le _
  have hDs : (dimsFG f g).Pairwise (· < ·) := dimsOf_sorted _
  have HR : Hid (tellR f g = tellN f g (dimsFG f g) (4 ^ (dimsFG f g).length) (row0 (dimsFG f g))) := rfl
  have HVf : Hid (∀ v, valF f v = evF f v (dimsFG f g)) := fun v => (evF_l f g v).symm
  have HVg : Hid (∀ v, valF g v = evF g v (dimsFG f g)) := fun v => (evF_r f g v).symm
  have HF : Hid (∀ W, Below w.heap.size w W → CRow W vf f) := fun W h => hf.below h
  have HG : Hid (∀ W, Below w.heap.size w W → CRow W vg g) := fun W h => hg.below h
  obtain ⟨pf, cf, rfl⟩ := hf.len
  obtain ⟨pg, cg, rfl⟩ := hg.len
  have Hfl : Hid (rightF f = true) := hrf
  have Hgl : Hid (rightF g = true) := hrg
  clear hf hg hfl hgl hdd hrf hrg
  generalize f.length = nf at *
  generalize g.length = ng at *
  generalize dimsFG f g = ds at *
  generalize dimsN f ||| dimsN g = sb at *
  go_enter Tryd.func19, Tryd.ntmps19
  go_wp2_with fail
  refine c1.mono ?_
  rintro e w1 ⟨rfl, hB1⟩
  clear c1
  replace c2 := c2 w1 hB1
  go_wp2_with fail
  refine c2.mono ?_
  rintro e w2 ⟨rfl, hB2⟩
  replace hB2 := chain hB1 hB2
  clear c2 hB1
  have hE : OwnsC (w2.alloc (.cells #[] 55)) w.heap.size (.slice (some ⟨w2.heap.size, 0, none⟩) 0 0) [] := empty_row w2 _ hB2.size
  have hB3 := chain hB2 (below_alloc w2 (.cells #[] 55))
  go_wp2_with (first
    | (at_builtin; refine wpList_append_row rfl _ _ rfl w.heap.size _ _ [] f rfl rfl hE (HF.out _ hB3) (by have := rightF_len Hfl.out; simp; omega) hB3.size ?_; intro v4 w4 hO4 hg4 hv4; have hB4 := hB3.trans (own_grown hE hg4 hB3.size))
    | (at_builtin; refine wpList_append_row rfl _ _ rfl w.heap.size _ _ _ g rfl rfl hO4 (HG.out _ hB4) (by have := rightF_len Hfl.out; have := rightF_len Hgl.out; simp; omega) hB4.size ?_; intro v5 w5 hO5 hg5 hv5; have hB5 := hB4.trans (own_grown hO4 hg5 hB4.size))
    | fail)
  rw [List.nil_append] at hO5
  replace c4 := c4 _ w5 (OwnsC.row hO5)
  refine c4.mono ?_
  rintro e w6 ⟨rfl, hB6⟩
  replace hB6 := chain hB5 hB6
  clear c4 hB5 hO5 hO4 hg5 hg4 hE hB3 hB4 hv4 hv5
  replace c6 := c6 w6
  go_wp2_with fail
  refine c6.mono ?_
  rintro e w7 ⟨vd, rfl, hO7, hB7⟩
  replace hB7 := chain hB6 hB7
  clear c6 hB6
  have hdZ := hO7.rowZ
  obtain ⟨pd, cd, rfl⟩ := hO7.len
  by_cases h5 : 5 < ds.length
  · have HE' : Hid (tellF f g = ([], 3)) := HE3.out h5
    clear HE3 HE0 hO7 hdZ
    generalize ds.length = n at *
    have h5' : (5 : Int) < (n : Int) := by omega
    go_wp2
    go_ret2
    rw [HE'.out]
    exact ⟨_, rfl, OwnsL.nil _ _, hB7⟩
  · have HE' : Hid (tellF f g = (tellR f g, 0)) := HE0.out h5
    clear HE3 HE0 hO7
    have h5' : ¬ ((5 : Int) < (ds.length : Int)) := by omega
    have HGo : Hid (Good (sizeD ds) (row0 ds)) := row0_good ds
    have hsz := sizeD_pos ds
    have hs24 := sizeD_le hD24
    have HLT : Hid (∀ i ∈ ds, i < sizeD ds) := sizeD_gt hDs
    have HND : Hid (ds.Nodup) := sorted_nodup hDs
    have H24 : Hid (∀ i ∈ ds, i < 24) := hD24
    have HN0 : Hid (numL (row0 ds) ds = 0) := row0_num ds ds
    have HE6 : Hid (Below w.heap.size w w7) := hB7
    have hB7s := hB7.size
    have HR0 : Hid (row0 ds = List.replicate (sizeD ds) 0) := rfl
    by_cases hz : ds = []
    · have hS : sizeD ds = 1 := by rw [hz]; rfl
      have hn0 : ds.length = 0 := by rw [hz]; rfl
      have HD : Hid (∀ W, Below w7.heap.size w7 W → RowZ W (.slice pd ds.length cd) (toZ ds)) := fun W h => hdZ.below h
      clear hD24 hDs hz hdZ hB7
      obtain ⟨nd, hnd⟩ : ∃ nd, nd = ds.length := ⟨_, rfl⟩
      have Hnd : Hid (nd = ds.length) := hnd
      rw [← hnd] at HD hDn h5 h5' hn0 ⊢
      clear hnd
      subst hn0
      go_wp2_with (at_make; refine wpList_make_full _ rfl _ _ 27 rfl w7.heap.size 3 i0 (.int .i64 0) 1 Tryd.underlying27 hi hz0 hz1 .i64 .i64 _ _ 1 rfl rfl rfl rfl (by rw [hz2]; omega) (by unfold maxLen; omega) (Nat.le_refl _) ?_; intro w8 hown8 hgrow8)
      have HO8 : Hid (OwnsL w8 w7.heap.size (.slice (some ⟨w7.heap.size, 0, none⟩) (1) (1)) (row0 ds)) := by show OwnsL _ _ _ _; rw [HR0.out, hS]; exact owns_zeros hown8
      have hB8 : Below w7.heap.size w7 w8 := (Below.refl _ _).grown hgrow8 (Nat.le_refl _) (fun k h => by cases h)
      clear hown8 hgrow8 HR0
      rw [hS] at HGo HLT hsz hs24
      clear hS
      go_loopg [] (4 ^ ds.length) (fun m wr => ∃ r : List Nat, 0 < m ∧ Good (1) r ∧ m + numL r ds = 4 ^ ds.length ∧ tellR f g = tellN f g ds m r ∧ wr.ownsRow w7.heap.size 3 1 (.slice (some ⟨w7.heap.size, 0, none⟩) (1) (1)) (1) (r.map encI) ∧ Below w7.heap.size w7 wr)
      case atStart => exact ⟨row0 ds, Nat.pow_pos (by decide), HGo.out, by rw [HN0.out]; rfl, HR.out, by have h8 := HO8.out; unfold OwnsL at h8; rw [HGo.out.len] at h8; exact h8, hB8⟩
      case round =>
        obtain ⟨r, hm, hG, hnum, hR, hO, hB⟩ := hrel
        clear HO8 hB8
        have hOL : OwnsL wr w7.heap.size (.slice (some ⟨w7.heap.size, 0, none⟩) (1) (1)) r := by unfold OwnsL; rw [hG.len]; exact hO
        have cf := reval_any f (toZ r) (.slice pf nf cf) _ wr (HF.out wr (chain HE6.out hB)) hOL.rowZ (by have := rightF_len Hfl.out; omega)
        have cg := reval_any g (toZ r) (.slice pg ng cg) _ wr (HG.out wr (chain HE6.out hB)) hOL.rowZ (by have := rightF_len Hgl.out; omega)
        rw [atZ_toZ, HVf.out] at cf
        rw [atZ_toZ, HVg.out] at cg
        have A : Aside (gk + numL r ds = 4 ^ ds.length ∧ tellR f g = tellN f g ds gk r) := ⟨hnum, hR⟩
        clear hnum hR
        go_wp2_with fail
        refine cf.mono ?_
        rintro e w0 ⟨rfl, hw0⟩
        replace hw0 := hw0.symm
        subst hw0
        clear cf
        go_wp2_with fail
        refine cg.mono ?_
        rintro e w0 ⟨rfl, hw0⟩
        replace hw0 := hw0.symm
        subst hw0
        clear cg
        by_cases he : evF f (atN r) ds = evF g (atN r) ds
        · have he' : (evF f (atN r) ds != evF g (atN r) ds) = false := by simp [he]
          have HEnd : Aside ((turnL r ds).2 = false → tellR f g = []) := fun hb => A.out.2.trans (tellN_end he hb)
          have HOn : Aside ((turnL r ds).2 = true → tellR f g = tellN f g ds (gk - 1) (turnL r ds).1 ∧ gk - 1 + numL (turnL r ds).1 ds = 4 ^ ds.length ∧ 0 < gk - 1 ∧ Good (1) (turnL r ds).1) := fun hb => by
            have hg1 : gk = (gk - 1) + 1 := by omega
            have h0 := A.out.2
            rw [hg1, tellN_on he hb] at h0
            have h1 := turnL_yes hG HND.out HLT.out hb
            have h2 := numL_lt (turnL_good (ds := ds) hG) ds
            have h3 := A.out.1
            exact ⟨h0, by omega, by omega, turnL_good hG⟩
          clear he hOL A
          generalize evF f (atN r) ds = a1 at he' ⊢
          generalize evF g (atN r) ds = a2 at he' ⊢
          go_wp2
          clear he'
          go_loopw [9] (fun i wr2 => ∃ (k : Nat) (r2 : List Nat), k ≤ 0 ∧ i = .int .i64 k ∧ wr2.ownsRow w7.heap.size 3 1 (.slice (some ⟨w7.heap.size, 0, none⟩) (1) (1)) (1) (r2.map encI) ∧ Good (1) r2 ∧ turnL r ds = turnL r2 (ds.drop k) ∧ Below w7.heap.size w7 wr2) (fun i _ => 0 - (intOf i).toNat)
          case atStart => exact ⟨0, r, Nat.zero_le _, rfl, hO, hG, rfl, hB⟩
          case round =>
            obtain ⟨k, r2, hk, rfl, hO2, hG2, hT2, hB2⟩ := hrel
            clear hO hG hB
            by_cases hlt : k < 0
            · omega
            · obtain rfl : k = 0 := by omega
              have e : ds.drop (0) = [] := List.drop_of_length_le (by rw [← Hnd.out]; exact Nat.le_refl _)
              rw [e] at hT2
              have HT3 : Hid (tellR f g = []) := HEnd.out (by rw [hT2]; rfl)
              clear hT2 e HEnd HOn
              go_wp2
              go_ret2
              rw [HE'.out]
              exact ⟨_, rfl, by show OwnsL _ _ _ (tellR f g); rw [HT3.out]; exact OwnsL.nil _ _, chain HE6.out hB2⟩
        · have he' : (evF f (atN r) ds != evF g (atN r) ds) = true := by simp [he]
          have HT : Hid (tellR f g = r) := A.out.2.trans (tellN_hit hm he)
          clear he
          generalize evF f (atN r) ds = a1 at he' ⊢
          generalize evF g (atN r) ds = a2 at he' ⊢
          go_wp2
          go_ret2
          rw [HE'.out]
          exact ⟨_, rfl, by show OwnsL _ _ _ (tellR f g); rw [HT.out]; exact hOL.mono hB7s, chain HE6.out hB⟩
    · obtain ⟨d, hdk, hS⟩ := last_dim hz
      have hpos : 0 < ds.length := List.length_pos_iff.2 hz
      obtain ⟨gd, off, rfl, hgd, x0⟩ := hdZ.at (toZ_get hdk)
      have hd24 : d < 24 := hD24 d (List.mem_of_getElem? hdk)
      have HD : Hid (∀ W, Below w7.heap.size w7 W → RowZ W (.slice (some ⟨gd, off, none⟩) ds.length cd) (toZ ds)) := fun W h => hdZ.below h
      clear hD24 hDs hz hdZ hB7 hdk
      obtain ⟨nd, hnd⟩ : ∃ nd, nd = ds.length := ⟨_, rfl⟩
      have Hnd : Hid (nd = ds.length) := hnd
      rw [← hnd] at HD hDn h5 h5' hpos x0 ⊢
      clear hnd
      obtain ⟨n1, rfl⟩ : ∃ n1, nd = n1 + 1 := ⟨nd - 1, by omega⟩
      rw [Nat.add_sub_cancel] at x0
      go_wp2_with (at_make; refine wpList_make_full _ rfl _ _ 27 rfl w7.heap.size 3 i0 (.int .i64 0) 1 Tryd.underlying27 hi hz0 hz1 .i64 .i64 _ _ (d + 1) rfl rfl (by go_num) (by go_num) (by rw [hz2]; omega) (by unfold maxLen; omega) (Nat.le_refl _) ?_; intro w8 hown8 hgrow8)
      have HO8 : Hid (OwnsL w8 w7.heap.size (.slice (some ⟨w7.heap.size, 0, none⟩) (d + 1) (d + 1)) (row0 ds)) := by show OwnsL _ _ _ _; rw [HR0.out, hS]; exact owns_zeros hown8
      have hB8 : Below w7.heap.size w7 w8 := (Below.refl _ _).grown hgrow8 (Nat.le_refl _) (fun k h => by cases h)
      clear hown8 hgrow8 HR0 x0
      rw [hS] at HGo HLT hsz hs24
      clear hS
      go_loopg [] (4 ^ ds.length) (fun m wr => ∃ r : List Nat, 0 < m ∧ Good (d + 1) r ∧ m + numL r ds = 4 ^ ds.length ∧ tellR f g = tellN f g ds m r ∧ wr.ownsRow w7.heap.size 3 1 (.slice (some ⟨w7.heap.size, 0, none⟩) (d + 1) (d + 1)) (d + 1) (r.map encI) ∧ Below w7.heap.size w7 wr)
      case atStart => exact ⟨row0 ds, Nat.pow_pos (by decide), HGo.out, by rw [HN0.out]; rfl, HR.out, by have h8 := HO8.out; unfold OwnsL at h8; rw [HGo.out.len] at h8; exact h8, hB8⟩
      case round =>
        obtain ⟨r, hm, hG, hnum, hR, hO, hB⟩ := hrel
        clear HO8 hB8
        have hOL : OwnsL wr w7.heap.size (.slice (some ⟨w7.heap.size, 0, none⟩) (d + 1) (d + 1)) r := by unfold OwnsL; rw [hG.len]; exact hO
        have cf := reval_any f (toZ r) (.slice pf nf cf) _ wr (HF.out wr (chain HE6.out hB)) hOL.rowZ (by have := rightF_len Hfl.out; omega)
        have cg := reval_any g (toZ r) (.slice pg ng cg) _ wr (HG.out wr (chain HE6.out hB)) hOL.rowZ (by have := rightF_len Hgl.out; omega)
        rw [atZ_toZ, HVf.out] at cf
        rw [atZ_toZ, HVg.out] at cg
        have A : Aside (gk + numL r ds = 4 ^ ds.length ∧ tellR f g = tellN f g ds gk r) := ⟨hnum, hR⟩
        clear hnum hR
        go_wp2_with fail
        refine cf.mono ?_
        rintro e w0 ⟨rfl, hw0⟩
        replace hw0 := hw0.symm
        subst hw0
        clear cf
        go_wp2_with fail
        refine cg.mono ?_
        rintro e w0 ⟨rfl, hw0⟩
        replace hw0 := hw0.symm
        subst hw0
        clear cg
        by_cases he : evF f (atN r) ds = evF g (atN r) ds
        · have he' : (evF f (atN r) ds != evF g (atN r) ds) = false := by simp [he]
          have HEnd : Aside ((turnL r ds).2 = false → tellR f g = []) := fun hb => A.out.2.trans (tellN_end he hb)
          have HOn : Aside ((turnL r ds).2 = true → tellR f g = tellN f g ds (gk - 1) (turnL r ds).1 ∧ gk - 1 + numL (turnL r ds).1 ds = 4 ^ ds.length ∧ 0 < gk - 1 ∧ Good (d + 1) (turnL r ds).1) := fun hb => by
            have hg1 : gk = (gk - 1) + 1 := by omega
            have h0 := A.out.2
            rw [hg1, tellN_on he hb] at h0
            have h1 := turnL_yes hG HND.out HLT.out hb
            have h2 := numL_lt (turnL_good (ds := ds) hG) ds
            have h3 := A.out.1
            exact ⟨h0, by omega, by omega, turnL_good hG⟩
          clear he hOL A
          generalize evF f (atN r) ds = a1 at he' ⊢
          generalize evF g (atN r) ds = a2 at he' ⊢
          go_wp2
          clear he'
          go_loopw [9] (fun i wr2 => ∃ (k : Nat) (r2 : List Nat), k ≤ (n1 + 1) ∧ i = .int .i64 k ∧ wr2.ownsRow w7.heap.size 3 1 (.slice (some ⟨w7.heap.size, 0, none⟩) (d + 1) (d + 1)) (d + 1) (r2.map encI) ∧ Good (d + 1) r2 ∧ turnL r ds = turnL r2 (ds.drop k) ∧ Below w7.heap.size w7 wr2) (fun i _ => (n1 + 1) - (intOf i).toNat)
          case atStart => exact ⟨0, r, Nat.zero_le _, rfl, hO, hG, rfl, hB⟩
          case round =>
            obtain ⟨k, r2, hk, rfl, hO2, hG2, hT2, hB2⟩ := hrel
            clear hO hG hB
            by_cases hlt : k < (n1 + 1)
            · obtain ⟨d2, hdk⟩ := get_some (l := ds) (k := k) (by rw [← Hnd.out]; exact hlt)
              obtain ⟨gd2, off2, e2, hgd2, x0⟩ := (HD.out _ hB2).at (toZ_get hdk)
              simp only [Option.some.injEq, Addr.mk.injEq, and_true] at e2
              obtain ⟨rfl, rfl⟩ := e2
              have hds : d2 < d + 1 := HLT.out d2 (List.mem_of_getElem? hdk)
              have hc := own_cell hO2 hG2.len hds
              have hf := World.ownsRow.frozenAt hO2 d2
              have hx3 := hG2.le d2
              by_cases hx : gN r2 d2 < 3
              · have hst := own_set hO2 d2 (gN r2 d2 + 1)
                have hBs := hB2.setCell (p := ⟨w7.heap.size, d2, none⟩) (Nat.le_refl _) (.int .i64 ((gN r2 d2 + 1 : Nat) : Int))
                rw [turnL_lo hdk hx] at hT2
                have HT3 := HOn.out (by rw [hT2])
                rw [hT2] at HT3
                have HT4 : Hid _ := HT3
                have e1 : ((gN r2 d2 + 1 : Nat) : Int) = ((gN r2 d2 : Nat) : Int) + 1 := by omega
                rw [e1] at hst hBs
                have hx' : (((gN r2 d2 : Nat) : Int) == 3) = false := by simp; omega
                clear hT2 HT3 hdk hO2 e1 HOn HEnd
                generalize gN r2 d2 = x at *
                go_wp2
                go_roundg (gk - 1)
                case measure => omega
                case rel => exact ⟨_, HT4.out.2.2.1, HT4.out.2.2.2, HT4.out.2.1, HT4.out.1, hst, hBs⟩
              · have hst := own_set hO2 d2 0
                have hgo : Good (d + 1) (r2.set d2 0) := hG2.set (by omega)
                have hBs := hB2.setCell (p := ⟨w7.heap.size, d2, none⟩) (Nat.le_refl _) (.int .i64 ((0 : Nat) : Int))
                rw [turnL_hi hdk hx] at hT2
                have HT4 : Hid (turnL r ds = turnL (r2.set d2 0) (ds.drop (k + 1))) := hT2
                have hx' : (((gN r2 d2 : Nat) : Int) == 3) = true := by simp; omega
                clear hT2 hdk hO2 HOn HEnd
                generalize gN r2 d2 = x at *
                go_wp2
                go_roundw
                case rel => exact ⟨k + 1, _, by omega, by go_num, hst, hgo, HT4.out, hBs⟩
                case measure => simp [intOf]; omega
            · obtain rfl : k = (n1 + 1) := by omega
              have e : ds.drop ((n1 + 1)) = [] := List.drop_of_length_le (by rw [← Hnd.out]; exact Nat.le_refl _)
              rw [e] at hT2
              have HT3 : Hid (tellR f g = []) := HEnd.out (by rw [hT2]; rfl)
              clear hT2 e HEnd HOn
              go_wp2
              go_ret2
              rw [HE'.out]
              exact ⟨_, rfl, by show OwnsL _ _ _ (tellR f g); rw [HT3.out]; exact OwnsL.nil _ _, chain HE6.out hB2⟩
        · have he' : (evF f (atN r) ds != evF g (atN r) ds) = true := by simp [he]
          have HT : Hid (tellR f g = r) := A.out.2.trans (tellN_hit hm he)
          clear he
          generalize evF f (atN r) ds = a1 at he' ⊢
          generalize evF g (atN r) ds = a2 at he' ⊢
          go_wp2
          go_ret2
          rw [HE'.out]
          exact ⟨_, rfl, by show OwnsL _ _ _ (tellR f g); rw [HT.out]; exact hOL.mono hB7s, chain HE6.out hB⟩
theorem rTell_any (f g : List C) (vf vg : Value) (w : World) (hf : CRow w vf f) (hg : CRow w vg g) (hfl : f.length ≤ 10000) (hgl : g.length ≤ 10000) :
    Calls Tryd.prog 19 #[vf, vg] w fun e w' => ∃ v, e = .returned (.tuple #[v, .int .i64 (tellF f g).2]) ∧ OwnsL w' w.heap.size v (tellF f g).1 ∧ Below w.heap.size w w' := by
  cases h : rightF f && rightF g
  · exact rTell_arg f g vf vg w hf hg (by omega) (by omega) h
  · rw [Bool.and_eq_true] at h
    exact rTell_ok f g vf vg w hf hg hfl hgl h.1 h.2
end Go.Proofs.YtinegcahhafddaaDoor
