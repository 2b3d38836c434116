/- Boxes' texts, by the document's answer. -/
import Derived.Test.YtpfnjeefhddikaaRStr
namespace Go.Proofs.Ytpfnjeefhddikaa
open Go.RowKit
set_option linter.unusedVariables false
set_option linter.unusedSimpArgs false

theorem kids_take {f : Nat} {l : List Sx} {k : Nat} {q : Sx} (h : l[k]? = some q) : (l.take (k + 1)).map (lineF f) = (l.take k).map (lineF f) ++ [lineF f q] := by
  rw [List.take_add_one, h]
  simp
theorem lines_sum (f : Nat) (l : List Sx) : ((l.map (lineF f)).map fun x => x.length + [44, 32].length).sum ≤ 16 * blkK l := by
  have := kids_sum (line_len f) l 2 (by omega)
  simpa using this
theorem cell_str_new (w : World) (X : ByteArray) (ty : TypeId) : (w.alloc (.cells #[.string X] ty)).cell? ⟨w.heap.size, 0, none⟩ = some (.string X) := by simp [go_sem]
theorem faceT_some {l : List Sx} (h : l ≠ []) : faceT l = (l.map eqR).flatten ∧ (l.map eqR).flatten ≠ [] := by
  refine ⟨by unfold faceT; rw [if_neg h], ?_⟩
  match l, h with
  | x :: l, _ => simp [eqR]

set_option maxRecDepth 100000 in
set_option maxHeartbeats 8000000 in
theorem rbox_any (f : Nat) (IH : ∀ m, m ≤ f → RTx m) (n : Nat) (t : Sx) (v : Value) (w : World) (hb : blk t ≤ 65536) (hok : t.kids.all (okF f 2) = true) (h : SxIn n w t v) (hn : n ≤ w.heap.size) : Calls Try.prog 35 #[v] w fun e w' => e = .returned (.string (bs (91 :: (jn [44, 32] (t.kids.map (lineF f)) ++ [93])))) ∧ Below w.heap.size w w' := by
  obtain ⟨ka, kc, na, nc, rfl, hN, hK⟩ := h.form
  have hbs := blk_sum t
  have hkl := blk_klen t
  obtain ⟨w1, hw1⟩ : ∃ w1, w1 = w.alloc (.cells #[.int .i64 t.kind, .string (bs t.name), .slice ka t.kids.length kc, .slice na t.names.length nc, .int .i64 t.at_] 25) := ⟨_, rfl⟩
  have hal1 : Below w.heap.size w w1 := by rw [hw1]; exact below_alloc _ _
  have hB1 : Bx w1 w.heap.size (.int .i64 t.kind) (.string (bs t.name)) (.slice ka t.kids.length kc) (.slice na t.names.length nc) (.int .i64 t.at_) := by rw [hw1]; exact bx_new _ _ _ _ _ _
  have Hw1 : Hid (_ = _) := hw1
  clear hw1
  have hn1 := Nat.le_trans hn hal1.size
  have HK : Hid (KdP n w (SxIn n w) t.kids ka) := hK
  clear hK hN h
  obtain ⟨L, hL⟩ : ∃ L, L = t.kids.length := ⟨_, rfl⟩
  have HL : Hid (L = t.kids.length) := hL
  rw [← hL] at hB1 hkl Hw1 ⊢
  clear hL
  have HO : Hid (∀ y ∈ t.kids, okF f 2 y = true) := List.all_eq_true.1 hok
  clear hok
  go_enter Try.func35, Try.ntmps35
  go_wp2_with fail
  rw [← Hw1.out]
  clear Hw1
  go_loopw [3, 4] (fun v i wr => ∃ k : Nat, k ≤ L ∧ i = .int .i64 k ∧ Hid (OwnsS wr w1.heap.size v ((t.kids.take k).map (lineF f))) ∧ Below w1.heap.size w1 wr) (fun _ i _ => L - (intOf i).toNat)
  case atStart => exact ⟨0, Nat.zero_le _, rfl, OwnsS.nil _ _, Below.refl _ _⟩
  case round =>
    obtain ⟨wo, hwo⟩ : ∃ wo, wo = wr := ⟨_, rfl⟩
    subst hwo
    obtain ⟨k, hk, rfl, HOw, hBr⟩ := hrel
    have hBx := hB1.blw hBr
    obtain ⟨x0, x1, x2, x3, x4⟩ := hBx.cells
    have halr := chain hal1 hBr
    have hnr := Nat.le_trans hn halr.size
    by_cases hlt : k < L
    · obtain ⟨y, hy⟩ := someS (l := t.kids) (k := k) (by rw [← HL.out]; exact hlt)
      have hym := List.mem_of_getElem? hy
      obtain ⟨g, off, ka0, kc0, na0, nc0, rfl, hg, hxx, c0, c1, c2, c3, c4⟩ := (HK.out.all (halr.mono hn)).at hy
      have hby : blk y < blk t := blk_kid hym
      have HY : Hid (_ = _) := kids_take (f := f) hy
      obtain ⟨fc, hfd, hcase⟩ := elem_facts (HO.out y hym)
      have HFD : Hid (∀ q ∈ fc.kids, ∃ d, q.names = [d]) := hfd
      clear hfd
      have hKy := hxx.parts
      obtain ⟨wa, hwa⟩ : ∃ wa, wa = wo.alloc (.cells #[.int .i64 y.kind, .string (bs y.name), .slice ka0 y.kids.length kc0, .slice na0 y.names.length nc0, .int .i64 y.at_] 25) := ⟨_, rfl⟩
      have hba : Below wo.heap.size wo wa := by rw [hwa]; exact below_alloc _ _
      have hBa : Bx wa wo.heap.size (.int .i64 y.kind) (.string (bs y.name)) (.slice ka0 y.kids.length kc0) (.slice na0 y.names.length nc0) (.int .i64 y.at_) := by rw [hwa]; exact bx_new _ _ _ _ _ _
      have Hwa : Hid (_ = _) := hwa
      clear hwa
      have hf0 : y.kids[0]? = some fc := by rcases hcase with ⟨e, _⟩ | ⟨b, e, _, _⟩ <;> rw [e] <;> rfl
      have hp0 : 0 < y.kids.length := by rcases hcase with ⟨e, _⟩ | ⟨b, e, _, _⟩ <;> rw [e] <;> simp
      have hbf : blk fc < blk y := blk_kid (List.mem_of_getElem? hf0)
      obtain ⟨gy, oy, kf, kfc, nf, nfc, hey, hgy, hff, d0, d1, d2, d3, d4⟩ := hKy.at hf0
      subst hey
      simp only [Nat.zero_mul, Nat.add_zero] at d0 d1 d2 d3 d4
      have hKf : Hid (KdP n wo (SxIn n wo) fc.kids kf) := hff.parts
      have HC : Hid (_ ∨ _) := hcase
      have HKy : Hid (KdP n wo (SxIn n wo) y.kids (some ⟨gy, oy, none⟩)) := hKy
      have hnlf := blk_klen fc
      obtain ⟨LF, hLF⟩ : ∃ LF, LF = fc.kids.length := ⟨_, rfl⟩
      have HLF : Hid (LF = fc.kids.length) := hLF
      rw [← hLF] at d2 hnlf
      have hala := chain halr hba
      have hna := Nat.le_trans hnr hba.size
      have d2a := (hba.cell (p := ⟨gy, oy + 2, none⟩) (by show gy < _; omega)).trans d2
      clear hLF hcase hy hff hKy hxx d0 d1 d3 d4
      go_wp2_with fail
      rw [← Hwa.out]
      clear Hwa x0 x1 x2 x3 x4 c0 c1 c2 c3 c4
      go_loopw [6, 7] (fun s i wi => ∃ j : Nat, j ≤ LF ∧ i = .int .i64 j ∧ s = .string (bs ((fc.kids.take j).map eqR).flatten) ∧ Below wa.heap.size wa wi) (fun _ i _ => LF - (intOf i).toNat)
      case atStart => exact ⟨0, Nat.zero_le _, rfl, rfl, Below.refl _ _⟩
      case round =>
        obtain ⟨wi, hwi⟩ : ∃ wi, wi = wr := ⟨_, rfl⟩
        subst hwi
        obtain ⟨j, hj, rfl, rfl, hBi⟩ := hrel
        have hBi2 := hBa.blw hBi
        obtain ⟨x0, x1, x2, x3, x4⟩ := hBi2.cells
        have d2i := (hBi.cell (p := ⟨gy, oy + 2, none⟩) (by show gy < _; omega)).trans d2a
        have hali := chain hala hBi
        have hni := Nat.le_trans hna hBi.size
        have hzl := Nat.le_trans (eqs_len (fc.kids.take j)) (Nat.mul_le_mul_left 16 (Nat.le_trans (blkK_take fc.kids j) (blkK_kid fc)))
        by_cases hjl : j < LF
        · obtain ⟨q, hq⟩ := someS (l := fc.kids) (k := j) (by rw [← HLF.out]; exact hjl)
          have hqm := List.mem_of_getElem? hq
          obtain ⟨gq, oq, ka1, kc1, na1, nc1, rfl, hgq, hxq, q0, q1, q2, q3, q4⟩ := (hKf.out.all ((chain hba hBi).mono hnr)).at hq
          have hbq : blk q < blk fc := blk_kid hqm
          obtain ⟨d, hd⟩ := HFD.out q hqm
          have HE : Hid (_ = _) := eqs_take hq
          have HQ : Hid (eqR q = 40 :: (q.name ++ 61 :: (d ++ [41]))) := (by unfold eqR; rw [hd]; simp : eqR q = 40 :: (q.name ++ 61 :: (d ++ [41])))
          obtain ⟨_, _, _, _, eq', hNq, _⟩ := hxq.form
          cases eq'
          obtain ⟨na', nc', eN, _, hNc⟩ := hNq
          cases eN
          obtain ⟨gd, od, rfl, hgd, cd⟩ := hNc 0 d (by rw [hd]; rfl)
          simp only [Nat.add_zero] at cd
          have hpd : 0 < q.names.length := by rw [hd]; simp
          have hdl : d.length < blk q := blk_names (by rw [hd]; simp)
          have hql : q.name.length < blk q := by have := blk_sum q; omega
          obtain ⟨z, hz⟩ : ∃ z, z = ((fc.kids.take j).map eqR).flatten := ⟨_, rfl⟩
          have Hz : Hid (_ = _) := hz
          rw [← hz] at hzl ⊢
          clear hz hd hq
          obtain ⟨wq, hwq⟩ : ∃ wq, wq = wi.alloc (.cells #[.int .i64 q.kind, .string (bs q.name), .slice ka1 q.kids.length kc1, .slice (some ⟨gd, od, none⟩) q.names.length nc1, .int .i64 q.at_] 25) := ⟨_, rfl⟩
          have hbq2 : Below wi.heap.size wi wq := by rw [hwq]; exact below_alloc _ _
          have hBq : Bx wq wi.heap.size (.int .i64 q.kind) (.string (bs q.name)) (.slice ka1 q.kids.length kc1) (.slice (some ⟨gd, od, none⟩) q.names.length nc1) (.int .i64 q.at_) := by rw [hwq]; exact bx_new _ _ _ _ _ _
          have Hwq : Hid (_ = _) := hwq
          clear hwq
          have cdq := (hbq2.cell (p := ⟨gd, od, none⟩) (by show gd < _; omega)).trans cd
          have ad1 : ∀ w, (Op.stringOp .add (bs z) ⟨#[40]⟩).run Try.prog w = .ok (.string (bs (z ++ [40]))) w := add_as (b := [40]) rfl (by simp; omega)
          have ad2 : ∀ w, (Op.stringOp .add (bs (z ++ [40])) (bs q.name)).run Try.prog w = .ok (.string (bs (z ++ 40 :: q.name))) w := add_as (by simp) (by simp; omega)
          have ad3 : ∀ w, (Op.stringOp .add (bs (z ++ 40 :: q.name)) ⟨#[61]⟩).run Try.prog w = .ok (.string (bs (z ++ 40 :: (q.name ++ [61])))) w := add_as (b := [61]) (by simp) (by simp; omega)
          have ad4 : ∀ w, (Op.stringOp .add (bs (z ++ 40 :: (q.name ++ [61]))) (bs d)).run Try.prog w = .ok (.string (bs (z ++ 40 :: (q.name ++ 61 :: d)))) w := add_as (by simp) (by simp; omega)
          have ad5 : ∀ w, (Op.stringOp .add (bs (z ++ 40 :: (q.name ++ 61 :: d))) ⟨#[41]⟩).run Try.prog w = .ok (.string (bs (z ++ 40 :: (q.name ++ 61 :: (d ++ [41]))))) w := add_as (b := [41]) (by simp) (by simp; omega)
          go_wp2_with fail
          rw [← Hwq.out]
          clear Hwq
          obtain ⟨b0, b1, b2, b3, b4⟩ := hBq.cells
          have Y1 : ∀ u : ClsS wq, u.1.cell? ⟨wi.heap.size, 1, none⟩ = _ := fun u => (u.2.cell (p := ⟨wi.heap.size, 1, none⟩) hBq.lt).trans b1
          have Y3 : ∀ u : ClsS wq, u.1.cell? ⟨wi.heap.size, 3, none⟩ = _ := fun u => (u.2.cell (p := ⟨wi.heap.size, 3, none⟩) hBq.lt).trans b3
          have YD : ∀ u : ClsS wq, u.1.cell? ⟨gd, od, none⟩ = _ := fun u => (u.2.cell (p := ⟨gd, od, none⟩) (by show gd < _; have := hbq2.size; omega)).trans cdq
          have hne := clsS_any wq
          refine wp_region_clsS (by kernel_rfl) (by kernel_rfl) ?_
          repeat (quiet_step (fail))
          refine wpQuiet_nil ?_
          rintro _ ⟨u, rfl⟩
          obtain ⟨w3, hb3⟩ := u
          have hB3 := chain (chain hBi hbq2) hb3
          go_wp2_with fail
          go_roundw
          case rel => exact ⟨j + 1, by omega, by go_num, by rw [HE.out, HQ.out, ← Hz.out], hB3⟩
          case measure => simp [intOf]; omega
        · have hje : j = LF := by omega
          subst hje
          have HTk : Hid (fc.kids.take j = fc.kids) := List.take_of_length_le (by rw [← HLF.out]; exact Nat.le_refl _)
          have HOi : Hid (OwnsS wi w1.heap.size u3 ((t.kids.take k).map (lineF f))) := (HOw.out.below hba).below hBi
          have hsz1 := hBr.size
          have hsza := hba.size
          have hszi := hBi.size
          have hkk : ((t.kids.take k).map (lineF f)).length ≤ 200000 := by rw [List.length_map, List.length_take]; omega
          have hBri : Below w1.heap.size w1 wi := (hBr.trans (hba.mono hsz1)).trans (hBi.mono (by omega))
          rw [HTk.out] at hzl ⊢
          clear HTk
          -- the face's text
          obtain ⟨Z, hZ⟩ : ∃ Z, Z = (fc.kids.map eqR).flatten := ⟨_, rfl⟩
          have eZ := bs_nil Z
          have HZ : Hid (Z = (fc.kids.map eqR).flatten) := hZ
          rw [← hZ] at hzl ⊢
          clear hZ
          have hfin : ∀ (T : Bs), lineF f y = T → (t.kids.take (k + 1)).map (lineF f) = (t.kids.take k).map (lineF f) ++ [T] := fun T hT => by rw [HY.out, hT]
          have Hfin : Hid (∀ (T : Bs), lineF f y = T → (t.kids.take (k + 1)).map (lineF f) = (t.kids.take k).map (lineF f) ++ [T]) := hfin
          clear hfin HY
          rcases HC.out with ⟨e1, eT⟩ | ⟨bb, e1, hob, eT⟩
          · have el2 : ((y.kids.length : Int) == 2) = false := by rw [e1]; rfl
            clear e1 HC
            by_cases hfk : fc.kids = []
            · have e0 : Z = [] := by rw [HZ.out, hfk]; rfl
              rw [decide_eq_true e0] at eZ
              have HT : Hid (lineF f y = [49]) := (by rw [eT]; unfold faceT; rw [if_pos hfk] : lineF f y = [49])
              clear eT hfk e0
              go_wp2_with (at_builtin; refine wpList_append_strR rfl _ _ rfl w1.heap.size _ ⟨wi.heap.size, 0, none⟩ ((t.kids.take k).map (lineF f)) [49] rfl rfl (HOi.out.below (below_alloc _ _)) (cell_str_new _ _ _) hkk (by simp; omega) ?_; intro v' w4 hO' hg')
              go_roundw
              case rel => exact ⟨k + 1, by omega, by go_num, by rw [Hfin.out _ HT.out]; exact hO', hBri.trans (((below_alloc _ _).mono (by omega)).trans (OwnsS.grown (HOi.out.below (below_alloc _ _)) hg' (by simp; omega)))⟩
              case measure => simp [intOf]; omega
            · have e0 : Z ≠ [] := by rw [HZ.out]; exact (faceT_some hfk).2
              rw [decide_eq_false e0] at eZ
              have HT : Hid (lineF f y = Z) := (by rw [eT, (faceT_some hfk).1, HZ.out] : lineF f y = Z)
              clear eT hfk e0
              go_wp2_with (at_builtin; refine wpList_append_strR rfl _ _ rfl w1.heap.size _ ⟨wi.heap.size, 0, none⟩ ((t.kids.take k).map (lineF f)) Z rfl rfl (HOi.out.below (below_alloc _ _)) (cell_str_new _ _ _) hkk (by simp; omega) ?_; intro v' w4 hO' hg')
              go_roundw
              case rel => exact ⟨k + 1, by omega, by go_num, by rw [Hfin.out _ HT.out]; exact hO', hBri.trans (((below_alloc _ _).mono (by omega)).trans (OwnsS.grown (HOi.out.below (below_alloc _ _)) hg' (by simp; omega)))⟩
              case measure => simp [intOf]; omega
          · have el2 : ((y.kids.length : Int) == 2) = true := by rw [e1]; rfl
            have hq1 : (1 : Int) < (y.kids.length : Int) := by rw [e1]; simp
            have hbb : blk bb < blk y := blk_kid (by rw [e1]; simp)
            have hlb := partF_len (f - 1) 0 bb
            obtain ⟨gb, ob, kb0, kbc, nb0, nbc, heb, hgb, hxb, p0, p1, p2, p3, p4⟩ := (HKy.out.all ((chain hba hBi).mono hnr)).at (j := 1) (x := bb) (by rw [e1]; rfl)
            cases heb
            simp only [Nat.one_mul] at p0 p1 p2 p3 p4
            have cT := (IH (f - 1) (by omega)).at0 n bb _ wi hob (by omega) hxb hni
            clear e1 HC hxb
            by_cases hfk : fc.kids = []
            · have e0 : Z = [] := by rw [HZ.out, hfk]; rfl
              rw [decide_eq_true e0] at eZ
              have HT : Hid (lineF f y = 49 :: 32 :: 45 :: 62 :: 32 :: partF (f - 1) 0 bb) := (by rw [eT]; unfold faceT; rw [if_pos hfk]; rfl : lineF f y = 49 :: 32 :: 45 :: 62 :: 32 :: partF (f - 1) 0 bb)
              have ad1 : ∀ w, (Op.stringOp .add ⟨#[49]⟩ ⟨#[32, 45, 62, 32]⟩).run Try.prog w = .ok (.string (bs [49, 32, 45, 62, 32])) w := add_as (a := [49]) (b := [32, 45, 62, 32]) rfl (by simp)
              have ad2 : ∀ w, (Op.stringOp .add (bs [49, 32, 45, 62, 32]) (bs (partF (f - 1) 0 bb))).run Try.prog w = .ok (.string (bs (49 :: 32 :: 45 :: 62 :: 32 :: partF (f - 1) 0 bb))) w := add_as rfl (by simp; omega)
              clear eT hfk e0
              go_wp2_with (refine wp_add rfl _ _ rfl _ _ _ rfl rfl ad1 ?_)
              refine cT.mono ?_
              rintro e w5 ⟨rfl, hb5⟩
              clear cT
              have hsz5 := hb5.size
              go_wp2_with (first
                | (refine wp_add rfl _ _ rfl _ _ _ rfl rfl ad2 ?_)
                | (at_builtin; refine wpList_append_strR rfl _ _ rfl w1.heap.size _ ⟨w5.heap.size, 0, none⟩ ((t.kids.take k).map (lineF f)) (49 :: 32 :: 45 :: 62 :: 32 :: partF (f - 1) 0 bb) rfl rfl ((HOi.out.below hb5).below (below_alloc _ _)) (cell_str_new _ _ _) hkk (by simp; omega) ?_; intro v' w4 hO' hg'))
              go_roundw
              case rel => exact ⟨k + 1, by omega, by go_num, by rw [Hfin.out _ HT.out]; exact hO', (hBri.trans (hb5.mono (by omega))).trans (((below_alloc _ _).mono (by omega)).trans (OwnsS.grown ((HOi.out.below hb5).below (below_alloc _ _)) hg' (by simp; omega)))⟩
              case measure => simp [intOf]; omega
            · have e0 : Z ≠ [] := by rw [HZ.out]; exact (faceT_some hfk).2
              rw [decide_eq_false e0] at eZ
              have HT : Hid (lineF f y = Z ++ 32 :: 45 :: 62 :: 32 :: partF (f - 1) 0 bb) := (by rw [eT, (faceT_some hfk).1, HZ.out]; rfl : lineF f y = Z ++ 32 :: 45 :: 62 :: 32 :: partF (f - 1) 0 bb)
              have ad1 : ∀ w, (Op.stringOp .add (bs Z) ⟨#[32, 45, 62, 32]⟩).run Try.prog w = .ok (.string (bs (Z ++ [32, 45, 62, 32]))) w := add_as (b := [32, 45, 62, 32]) rfl (by simp; omega)
              have ad2 : ∀ w, (Op.stringOp .add (bs (Z ++ [32, 45, 62, 32])) (bs (partF (f - 1) 0 bb))).run Try.prog w = .ok (.string (bs (Z ++ 32 :: 45 :: 62 :: 32 :: partF (f - 1) 0 bb))) w := add_as (by simp) (by simp; omega)
              clear eT hfk e0
              go_wp2_with (refine wp_add rfl _ _ rfl _ _ _ rfl rfl ad1 ?_)
              refine cT.mono ?_
              rintro e w5 ⟨rfl, hb5⟩
              clear cT
              have hsz5 := hb5.size
              go_wp2_with (first
                | (refine wp_add rfl _ _ rfl _ _ _ rfl rfl ad2 ?_)
                | (at_builtin; refine wpList_append_strR rfl _ _ rfl w1.heap.size _ ⟨w5.heap.size, 0, none⟩ ((t.kids.take k).map (lineF f)) (Z ++ 32 :: 45 :: 62 :: 32 :: partF (f - 1) 0 bb) rfl rfl ((HOi.out.below hb5).below (below_alloc _ _)) (cell_str_new _ _ _) hkk (by simp; omega) ?_; intro v' w4 hO' hg'))
              go_roundw
              case rel => exact ⟨k + 1, by omega, by go_num, by rw [Hfin.out _ HT.out]; exact hO', (hBri.trans (hb5.mono (by omega))).trans (((below_alloc _ _).mono (by omega)).trans (OwnsS.grown ((HOi.out.below hb5).below (below_alloc _ _)) hg' (by simp; omega)))⟩
              case measure => simp [intOf]; omega
    · have hke : k = L := by omega
      have HTk : Hid (t.kids.take k = t.kids) := List.take_of_length_le (by rw [← HL.out, hke]; exact Nat.le_refl _)
      have hO := HOw.out
      rw [HTk.out] at hO
      obtain ⟨a, cap, rfl, hc⟩ := hO.form
      have hs9 := lines_sum f t.kids
      have hsj := Nat.le_trans (jn_len [44, 32] (t.kids.map (lineF f))) hs9
      have cJ := join_any (t.kids.map (lineF f)) [44, 32] a cap wo hc (by rw [List.length_map, ← HL.out]; omega) (by omega) (by simp)
      obtain ⟨ML, hML⟩ : ∃ ML, ML = t.kids.map (lineF f) := ⟨_, rfl⟩
      rw [← hML] at cJ hsj ⊢
      have HML : Hid (ML = t.kids.map (lineF f)) := hML
      obtain ⟨J, hJ⟩ : ∃ J, J = jn [44, 32] ML := ⟨_, rfl⟩
      rw [← hJ] at cJ hsj
      have HJ : Hid (J = jn [44, 32] ML) := hJ
      obtain ⟨NL, hNL⟩ : ∃ NL, NL = ML.length := ⟨_, rfl⟩
      rw [← hNL] at cJ ⊢
      clear hML hJ hNL
      have ad1 : ∀ w, (Op.stringOp .add ⟨#[91]⟩ (bs J)).run Try.prog w = .ok (.string (bs (91 :: J))) w := add_as (a := [91]) rfl (by simp; omega)
      have ad2 : ∀ w, (Op.stringOp .add (bs (91 :: J)) ⟨#[93]⟩).run Try.prog w = .ok (.string (bs (91 :: (J ++ [93])))) w := add_as (b := [93]) rfl (by simp; omega)
      clear HOw hO hc hs9 HTk
      go_wp2_with fail
      refine cJ.mono ?_
      rintro e w2 ⟨rfl, hb2⟩
      clear cJ
      go_wp2_with (first | (refine wp_add rfl _ _ rfl _ _ _ rfl rfl ad1 ?_) | (refine wp_add rfl _ _ rfl _ _ _ rfl rfl ad2 ?_))
      go_ret
      exact ⟨by rw [← HML.out, ← HJ.out]; rfl, chain halr hb2⟩
end Go.Proofs.Ytpfnjeefhddikaa
