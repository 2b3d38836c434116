/- Declarations. -/
import Derived.Deep.RegionWith
import Derived.Test.YtekcpglapkpenaaDoorPDim
import Derived.Test.YtekcpglapkpenaaDoorPRow
namespace Go.Proofs.YtekcpglapkpenaaDoor
open Go.RowKit
set_option linter.unusedVariables false
set_option linter.unusedSimpArgs false

set_option maxRecDepth 100000 in
set_option maxHeartbeats 4000000 in
theorem decl_any (r : Rdr) (hwf : r.wf) (f : Nat) (iht : RuleC r 33 (termP r.e f)) : RuleC0 r 36 (declP r.e f) := by
  intro R w hR hNF
  obtain ⟨X, hX⟩ : ∃ X, declP r.e f R = X := ⟨_, rfl⟩
  rw [hX] at hNF ⊢
  rw [declP] at hX
  have HX : Hid (_ = X) := hX
  clear hX
  have hlt := hR.lt.2
  obtain ⟨w1, hw1⟩ : ∃ w1, w1 = w.alloc (.cells #[.int .i64 0, .string ⟨#[]⟩, .slice none 0 0, .slice none 0 0, .int .i64 0] 26) := ⟨_, rfl⟩
  have hB1 : Below w.heap.size w w1 := by rw [hw1]; exact below_alloc _ _
  have hh1 : Hole w1 w.heap.size := by rw [hw1]; exact hole_new w
  have hn1 : w.heap.size < w1.heap.size := by rw [hw1]; simp
  have hI1 := hR.below hB1
  have hK1 := Kp.refl r.b w1
  have Hw1 : Hid (_ = _) := hw1
  clear hw1
  go_enter Tryd.func36, Tryd.ntmps36
  go_wp2_with fail
  rw [← Hw1.out]
  clear Hw1
  go_wp2_with fail
  refine (at_any r w1 (R) hI1 hwf).mono ?_
  rintro e w2 ⟨rfl, hb2⟩
  have hI2 := hI1.below hb2
  have hK2 := chainK hK1 hb2
  have hk2 := Kp.of_below (b := r.b) hb2
  clear hb2 hk2
  go_wp2_with fail
  have hal := below_alloc w2 (.cells #[.int .i64 18, .string ⟨#[]⟩, .slice none 0 0, .slice none 0 0, .int .i64 (atP r.e R : Nat)] 26)
  have hbx := blk_new w2 (.int .i64 18) (.string ⟨#[]⟩) (.slice none 0 0) (.slice none 0 0) (.int .i64 (atP r.e R : Nat))
  have hxge := hK2.size
  obtain ⟨w3, hw⟩ : ∃ w0, w0 = w2.alloc (.cells #[.int .i64 18, .string ⟨#[]⟩, .slice none 0 0, .slice none 0 0, .int .i64 (atP r.e R : Nat)] 26) := ⟨_, rfl⟩
  rw [← hw] at hal hbx ⊢
  clear hw
  have hI3 := hI2.below hal
  have hK3 := chainK hK2 hal
  clear hal
  obtain ⟨x, hx⟩ : ∃ x, x = w2.heap.size := ⟨_, rfl⟩
  rw [← hx] at hbx hxge ⊢
  clear hx
  have c := name_any r w3 (R) hI3 hwf
  have hxl4 := hbx.lt
  cases hq : nameP r.e (R) using Rs.cs with
  | bad p y =>
    rw [hq] at c HX
    go_wp2_with fail
    refine c.mono ?_
    rintro e w4 ⟨rfl, hb⟩
    exact ⟨rfl, rule_bad HX.out.symm hB1 hK3 hlt hb⟩
  | ok t4 R4 =>
    rw [hq] at c HX
    rw [bnd_ok] at HX
    go_wp2_with fail
    refine c.mono ?_
    rintro e w4 ⟨v4, rfl, rfl, hI4, hk4⟩
    have hK4 := hK3.trans hk4
    clear c hq
    replace hbx := Blk.kp hbx hk4 hbx.lt (by omega)
    obtain ⟨c0, c1, c2, c3, c4, f0, f1, f2, f3, f4⟩ := hbx.cells
    go_wp2_with fail
    clear c0 c1 c2 c3 c4 f0 f1 f2 f3 f4
    obtain ⟨w5, hw⟩ : ∃ w0, w0 = w4.setCell ⟨x, 1, none⟩ (.string (bs t4)) := ⟨_, rfl⟩
    rw [← hw]
    have hI5 : r.In w5 (R4) := by rw [hw]; exact hI4.put (by omega) _
    have hK5 : Kp r.b w1 w5 := by rw [hw]; exact hK4.setCell (.inr hxge) _
    have hs5 : w5.heap.size = w4.heap.size := by rw [hw]; exact set_size _ _ _
    replace hbx := Blk.set1 hbx (.string (bs t4))
    rw [← hw] at hbx
    clear hw
    have c := must_any [58] (by simp) r w5 (R4) hI5 hwf
    have hxl6 := hbx.lt
    cases hq : mustP r.e [58] (R4) using Rs.cs with
    | bad p y =>
      rw [hq] at c HX
      go_wp2_with fail
      refine c.mono ?_
      rintro e w6 ⟨rfl, hb⟩
      exact ⟨rfl, rule_bad HX.out.symm hB1 hK5 hlt hb⟩
    | ok t6 R6 =>
      rw [hq] at c HX
      rw [bnd_ok] at HX
      go_wp2_with fail
      refine c.mono ?_
      rintro e w6 ⟨v6, rfl, rfl, hI6, hk6⟩
      have hK6 := hK5.trans hk6
      clear c hq
      replace hbx := Blk.kp hbx hk6 hbx.lt (by omega)
      have hkr := KRow.nil w1.heap.size x w6
      go_wp2_with fail
      obtain ⟨w7, hw7⟩ : ∃ w0, w0 = w6.drew := ⟨_, rfl⟩
      have hB7 : Below w6.heap.size w6 w7 := by rw [hw7]; exact Below.drew (Below.refl _ _)
      have hI7 := hI6.below hB7
      have hK7 := chainK hK6 hB7
      have hk7 := Kp.of_below (b := r.b) hB7
      refine wp_region_any (by kernel_rfl) ?_
      change wpAny _ _ _ _ _ _ _ (World.drew _)
      rw [← hw7]
      clear hw7
      replace hbx := Blk.kp hbx hk7 hbx.lt (by omega)
      replace hkr := KRow.kp hkr hk7 (by omega)
      clear hB7 hk7
      refine wpAny_take (i := 0) (v := .pointer (some ⟨x, 2, none⟩)) rfl (by kernel_rfl) (by kernel_rfl) (by kernel_rfl) (fun _ _ _ h => h) (Or.inl ⟨by rfl, fun w => by go_simp⟩) ?_
      simp only [Act.put, List.setIfInBounds_toArray, List.set_cons_zero, List.set_cons_succ]
      refine wpAny_take (i := 2) (v := r.ptr) rfl (by kernel_rfl) (by kernel_rfl) (by kernel_rfl) (fun _ _ _ h => h) (Or.inl ⟨by rfl, fun w => by go_simp⟩) ?_
      simp only [Act.put, List.setIfInBounds_toArray, List.set_cons_zero, List.set_cons_succ]
      refine wpAny_ready (rs := [1, 3]) (by kernel_rfl) (by simp) ?_
      refine AllReady.cons rfl (fun KK hKK => ?_) (AllReady.cons rfl (fun KK hKK => ?_) AllReady.nil)
      · skip
        obtain ⟨c0, c1, c2, c3, c4, _⟩ := hbx.cells
        go_simp
        clear c0 c1 c2 c3 c4
        refine hKK _ _ ?_
        clear hKK KK
        refine wpAny_ready (rs := [3]) (by kernel_rfl) (by simp) ?_
        refine AllReady.cons rfl (fun KK hKK => ?_) AllReady.nil
        go_simp
        have hN8 : NF (termP r.e f 1 (R6)) := NF.left (by have h := hNF; rw [← HX.out] at h; exact h)
        have c := iht 1 (R6) w7 (by omega) hI7 hN8
        have hxl8 := hbx.lt
        have hown8 := hkr.own
        cases hq : termP r.e f 1 (R6) using Rs.cs with
        | bad p y =>
          rw [hq] at c HX
          refine c.mono ?_
          rintro e w8 ⟨rfl, hb⟩
          exact ⟨rfl, rule_bad HX.out.symm hB1 hK7 hlt hb⟩
        | ok t8 R8 =>
          rw [hq] at c HX
          rw [bnd_ok] at HX
          refine c.mono ?_
          rintro e w8 ⟨v8, rfl, ht8, hI8, hk8⟩
          have hK8 := hK7.trans hk8
          clear c hq
          replace hbx := Blk.kp hbx hk8 hbx.lt (by omega)
          replace hkr := KRow.kp hkr hk8 (by omega)
          have hz8 := ht8
          have hms8 := hK7.size
          clear ht8
          obtain ⟨vk8, vn8, rfl, hf8, ka8, kc8, rfl⟩ := TrIn.form hz8
          obtain ⟨na8, nc8, rfl⟩ := hf8.form
          clear hf8
          refine hKK _ _ ?_
          clear hKK KK
          refine wpAny_ready (rs := [4]) (by kernel_rfl) (by simp) ?_
          refine AllReady.cons rfl (fun KK hKK => ?_) AllReady.nil
          go_simp
          have hal := below_alloc w8 (.cells #[.int .i64 (t8.kind : Nat), .string (bs t8.name), .slice ka8 t8.kids.length kc8, .slice na8 t8.names.length nc8, .int .i64 (t8.at_ : Nat)] 26)
          have hkl := Kp.of_below (b := r.b) hal
          obtain ⟨w9, hw9⟩ : ∃ w0, w0 = w8.alloc (.cells #[.int .i64 (t8.kind : Nat), .string (bs t8.name), .slice ka8 t8.kids.length kc8, .slice na8 t8.names.length nc8, .int .i64 (t8.at_ : Nat)] 26) := ⟨_, rfl⟩
          rw [← hw9] at hal hkl ⊢
          have hI9 := hI8.below hal
          have hK9 := chainK hK8 hal
          have Hw9 : Hid (_ = _) := hw9
          clear hw9
          replace hbx := Blk.kp hbx hkl hbx.lt (by omega)
          replace hkr := KRow.kp hkr hkl (by omega)
          replace hz8 := TrIn.kp hz8 hkl (by omega)
          refine hKK _ _ ?_
          clear hKK KK
          refine wpAny_ready (rs := [5]) (by kernel_rfl) (by simp) ?_
          refine AllReady.cons rfl (fun KK hKK => ?_) AllReady.nil
          refine step_append_tree (n := w1.heap.size) (x := x) (m := w7.heap.size) rfl (.tmp 13) (.tmp 16) rfl rfl rfl hkr hz8 (one_cells _ _ _ _ _ _ _) hown8 hxl8 hms8 (fun j y hj => by rw [Hw9.out]; exact new_cell _ _ _ _ j y rfl hj) (by simp) hK9.size hbx.lt ?_
          intro v10 w10 hkr10 hg10
          have hI10 := hI9.grownK hkr hg10 (by omega)
          have hK10 := hK9.grownK hkr hg10 (Nat.le_refl _)
          replace hbx := hbx.grownK hkr hg10
          clear hkr hz8 hg10 Hw9 hal hkl hms8 hown8 hxl8
          have hkr := hkr10
          clear hkr10
          obtain ⟨rA10, rL10, rC10, rfl⟩ := hkr.form2
          refine hKK _ _ ?_
          clear hKK KK
          refine wpAny_ready (rs := [6]) (by kernel_rfl) (by simp) ?_
          refine AllReady.cons rfl (fun KK hKK => ?_) AllReady.nil
          go_simp
          refine hKK _ _ ?_
          clear hKK KK
          refine wpAny_ready (rs := [7]) (by kernel_rfl) (by simp) ?_
          refine AllReady.cons rfl (fun KK hKK => ?_) AllReady.nil
          obtain ⟨c0, c1, c2, c3, c4, f0, f1, f2, f3, f4⟩ := hbx.cells
          go_simp
          clear c0 c1 c2 c3 c4 f0 f1 f2 f3 f4
          obtain ⟨w11, hw⟩ : ∃ w0, w0 = w10.setCell ⟨x, 2, none⟩ (.slice rA10 rL10 rC10) := ⟨_, rfl⟩
          rw [← hw]
          have hI11 : r.In w11 (R8) := by rw [hw]; exact hI10.put (by omega) _
          have hK11 : Kp r.b w1 w11 := by rw [hw]; exact hK10.setCell (.inr hxge) _
          have hs11 : w11.heap.size = w10.heap.size := by rw [hw]; exact set_size _ _ _
          replace hbx := Blk.set2 hbx (.slice rA10 rL10 rC10)
          replace hkr := KRow.put (i := 2) hkr (.slice rA10 rL10 rC10)
          rw [← hw] at hbx hkr
          clear hw
          refine hKK _ _ ?_
          clear hKK KK
          refine wpAny_done (by kernel_rfl) ?_ _
          have c := must_any [61] (by simp) r w11 (R8) hI11 hwf
          have hxl12 := hbx.lt
          have hown12 := hkr.own
          cases hq : mustP r.e [61] (R8) using Rs.cs with
          | bad p y =>
            rw [hq] at c HX
            go_wp2_with fail
            refine c.mono ?_
            rintro e w12 ⟨rfl, hb⟩
            exact ⟨rfl, rule_bad HX.out.symm hB1 hK11 hlt hb⟩
          | ok t12 R12 =>
            rw [hq] at c HX
            rw [bnd_ok] at HX
            go_wp2_with fail
            refine c.mono ?_
            rintro e w12 ⟨v12, rfl, rfl, hI12, hk12⟩
            have hK12 := hK11.trans hk12
            clear c hq
            replace hbx := Blk.kp hbx hk12 hbx.lt (by omega)
            replace hkr := KRow.kp hkr hk12 (by omega)
            go_wp2_with fail
            obtain ⟨w13, hw13⟩ : ∃ w0, w0 = w12.drew := ⟨_, rfl⟩
            have hB13 : Below w12.heap.size w12 w13 := by rw [hw13]; exact Below.drew (Below.refl _ _)
            have hI13 := hI12.below hB13
            have hK13 := chainK hK12 hB13
            have hk13 := Kp.of_below (b := r.b) hB13
            refine wp_region_any (by kernel_rfl) ?_
            change wpAny _ _ _ _ _ _ _ (World.drew _)
            rw [← hw13]
            clear hw13
            replace hbx := Blk.kp hbx hk13 hbx.lt (by omega)
            replace hkr := KRow.kp hkr hk13 (by omega)
            clear hB13 hk13
            refine wpAny_take (i := 0) (v := .pointer (some ⟨x, 2, none⟩)) rfl (by kernel_rfl) (by kernel_rfl) (by kernel_rfl) (fun _ _ _ h => h) (Or.inl ⟨by rfl, fun w => by go_simp⟩) ?_
            simp only [Act.put, List.setIfInBounds_toArray, List.set_cons_zero, List.set_cons_succ]
            refine wpAny_take (i := 2) (v := r.ptr) rfl (by kernel_rfl) (by kernel_rfl) (by kernel_rfl) (fun _ _ _ h => h) (Or.inl ⟨by rfl, fun w => by go_simp⟩) ?_
            simp only [Act.put, List.setIfInBounds_toArray, List.set_cons_zero, List.set_cons_succ]
            refine wpAny_ready (rs := [1, 3]) (by kernel_rfl) (by simp) ?_
            refine AllReady.cons rfl (fun KK hKK => ?_) (AllReady.cons rfl (fun KK hKK => ?_) AllReady.nil)
            · skip
              obtain ⟨c0, c1, c2, c3, c4, _⟩ := hbx.cells
              go_simp
              clear c0 c1 c2 c3 c4
              refine hKK _ _ ?_
              clear hKK KK
              refine wpAny_ready (rs := [3]) (by kernel_rfl) (by simp) ?_
              refine AllReady.cons rfl (fun KK hKK => ?_) AllReady.nil
              go_simp
              have hN14 : NF (termP r.e f 1 (R12)) := NF.left (by have h := hNF; rw [← HX.out] at h; exact h)
              have c := iht 1 (R12) w13 (by omega) hI13 hN14
              have hxl14 := hbx.lt
              have hown14 := hkr.own
              cases hq : termP r.e f 1 (R12) using Rs.cs with
              | bad p y =>
                rw [hq] at c HX
                refine c.mono ?_
                rintro e w14 ⟨rfl, hb⟩
                exact ⟨rfl, rule_bad HX.out.symm hB1 hK13 hlt hb⟩
              | ok t14 R14 =>
                rw [hq] at c HX
                rw [bnd_ok] at HX
                refine c.mono ?_
                rintro e w14 ⟨v14, rfl, ht14, hI14, hk14⟩
                have hK14 := hK13.trans hk14
                clear c hq
                replace hbx := Blk.kp hbx hk14 hbx.lt (by omega)
                replace hkr := KRow.kp hkr hk14 (by omega)
                have hz14 := ht14
                have hms14 := hK13.size
                clear ht14
                obtain ⟨vk14, vn14, rfl, hf14, ka14, kc14, rfl⟩ := TrIn.form hz14
                obtain ⟨na14, nc14, rfl⟩ := hf14.form
                clear hf14
                refine hKK _ _ ?_
                clear hKK KK
                refine wpAny_ready (rs := [4]) (by kernel_rfl) (by simp) ?_
                refine AllReady.cons rfl (fun KK hKK => ?_) AllReady.nil
                go_simp
                have hal := below_alloc w14 (.cells #[.int .i64 (t14.kind : Nat), .string (bs t14.name), .slice ka14 t14.kids.length kc14, .slice na14 t14.names.length nc14, .int .i64 (t14.at_ : Nat)] 26)
                have hkl := Kp.of_below (b := r.b) hal
                obtain ⟨w15, hw15⟩ : ∃ w0, w0 = w14.alloc (.cells #[.int .i64 (t14.kind : Nat), .string (bs t14.name), .slice ka14 t14.kids.length kc14, .slice na14 t14.names.length nc14, .int .i64 (t14.at_ : Nat)] 26) := ⟨_, rfl⟩
                rw [← hw15] at hal hkl ⊢
                have hI15 := hI14.below hal
                have hK15 := chainK hK14 hal
                have Hw15 : Hid (_ = _) := hw15
                clear hw15
                replace hbx := Blk.kp hbx hkl hbx.lt (by omega)
                replace hkr := KRow.kp hkr hkl (by omega)
                replace hz14 := TrIn.kp hz14 hkl (by omega)
                refine hKK _ _ ?_
                clear hKK KK
                refine wpAny_ready (rs := [5]) (by kernel_rfl) (by simp) ?_
                refine AllReady.cons rfl (fun KK hKK => ?_) AllReady.nil
                refine step_append_tree (n := w1.heap.size) (x := x) (m := w13.heap.size) rfl (.tmp 22) (.tmp 25) rfl rfl rfl hkr hz14 (one_cells _ _ _ _ _ _ _) hown14 hxl14 hms14 (fun j y hj => by rw [Hw15.out]; exact new_cell _ _ _ _ j y rfl hj) (by simp) hK15.size hbx.lt ?_
                intro v16 w16 hkr16 hg16
                have hI16 := hI15.grownK hkr hg16 (by omega)
                have hK16 := hK15.grownK hkr hg16 (Nat.le_refl _)
                replace hbx := hbx.grownK hkr hg16
                clear hkr hz14 hg16 Hw15 hal hkl hms14 hown14 hxl14
                have hkr := hkr16
                clear hkr16
                obtain ⟨rA16, rL16, rC16, rfl⟩ := hkr.form2
                refine hKK _ _ ?_
                clear hKK KK
                refine wpAny_ready (rs := [6]) (by kernel_rfl) (by simp) ?_
                refine AllReady.cons rfl (fun KK hKK => ?_) AllReady.nil
                go_simp
                refine hKK _ _ ?_
                clear hKK KK
                refine wpAny_ready (rs := [7]) (by kernel_rfl) (by simp) ?_
                refine AllReady.cons rfl (fun KK hKK => ?_) AllReady.nil
                obtain ⟨c0, c1, c2, c3, c4, f0, f1, f2, f3, f4⟩ := hbx.cells
                go_simp
                clear c0 c1 c2 c3 c4 f0 f1 f2 f3 f4
                obtain ⟨w17, hw⟩ : ∃ w0, w0 = w16.setCell ⟨x, 2, none⟩ (.slice rA16 rL16 rC16) := ⟨_, rfl⟩
                rw [← hw]
                have hI17 : r.In w17 (R14) := by rw [hw]; exact hI16.put (by omega) _
                have hK17 : Kp r.b w1 w17 := by rw [hw]; exact hK16.setCell (.inr hxge) _
                have hs17 : w17.heap.size = w16.heap.size := by rw [hw]; exact set_size _ _ _
                replace hbx := Blk.set2 hbx (.slice rA16 rL16 rC16)
                replace hkr := KRow.put (i := 2) hkr (.slice rA16 rL16 rC16)
                rw [← hw] at hbx hkr
                clear hw
                refine hKK _ _ ?_
                clear hKK KK
                refine wpAny_done (by kernel_rfl) ?_ _
                have c := must_any [59] (by simp) r w17 (R14) hI17 hwf
                have hxl18 := hbx.lt
                have hown18 := hkr.own
                cases hq : mustP r.e [59] (R14) using Rs.cs with
                | bad p y =>
                  rw [hq] at c HX
                  go_wp2_with fail
                  refine c.mono ?_
                  rintro e w18 ⟨rfl, hb⟩
                  exact ⟨rfl, rule_bad HX.out.symm hB1 hK17 hlt hb⟩
                | ok t18 R18 =>
                  rw [hq] at c HX
                  rw [bnd_ok] at HX
                  go_wp2_with fail
                  refine c.mono ?_
                  rintro e w18 ⟨v18, rfl, rfl, hI18, hk18⟩
                  have hK18 := hK17.trans hk18
                  clear c hq
                  replace hbx := Blk.kp hbx hk18 hbx.lt (by omega)
                  replace hkr := KRow.kp hkr hk18 (by omega)
                  obtain ⟨c0, c1, c2, c3, c4, _⟩ := hbx.cells
                  obtain ⟨o0, o1, o2, o3, o4, z0, z1, z2, z3, z4⟩ := Blk.cells (hh1.kp hK18 hn1 hlt)
                  go_wp2_with fail
                  exact ⟨rfl, .agg #[.int .i64 18, .string (bs t4), .slice rA16 rL16 rC16, .slice none 0 0, .int .i64 (atP r.e R : Nat)], by simp [results, Tryd.results36, go_sem, *], rule_end (n := w.heap.size) HX.out.symm hB1 rfl hn1 hI18 hlt hK18 (TrIn.fromB (hkr.tree 18 t4 [] (atP r.e R) (.nil none 0))) _ _ _ _ _⟩
            · skip
              go_simp
              have hN19 : NF (termP r.e f 1 (R12)) := NF.left (by have h := hNF; rw [← HX.out] at h; exact h)
              have c := iht 1 (R12) w13 (by omega) hI13 hN19
              have hxl19 := hbx.lt
              have hown19 := hkr.own
              cases hq : termP r.e f 1 (R12) using Rs.cs with
              | bad p y =>
                rw [hq] at c HX
                refine c.mono ?_
                rintro e w19 ⟨rfl, hb⟩
                exact ⟨rfl, rule_bad HX.out.symm hB1 hK13 hlt hb⟩
              | ok t19 R19 =>
                rw [hq] at c HX
                rw [bnd_ok] at HX
                refine c.mono ?_
                rintro e w19 ⟨v19, rfl, ht19, hI19, hk19⟩
                have hK19 := hK13.trans hk19
                clear c hq
                replace hbx := Blk.kp hbx hk19 hbx.lt (by omega)
                replace hkr := KRow.kp hkr hk19 (by omega)
                have hz19 := ht19
                have hms19 := hK13.size
                clear ht19
                obtain ⟨vk19, vn19, rfl, hf19, ka19, kc19, rfl⟩ := TrIn.form hz19
                obtain ⟨na19, nc19, rfl⟩ := hf19.form
                clear hf19
                refine hKK _ _ ?_
                clear hKK KK
                refine wpAny_ready (rs := [1, 4]) (by kernel_rfl) (by simp) ?_
                refine AllReady.cons rfl (fun KK hKK => ?_) (AllReady.cons rfl (fun KK hKK => ?_) AllReady.nil)
                · skip
                  obtain ⟨c0, c1, c2, c3, c4, _⟩ := hbx.cells
                  go_simp
                  clear c0 c1 c2 c3 c4
                  refine hKK _ _ ?_
                  clear hKK KK
                  refine wpAny_ready (rs := [4]) (by kernel_rfl) (by simp) ?_
                  refine AllReady.cons rfl (fun KK hKK => ?_) AllReady.nil
                  go_simp
                  have hal := below_alloc w19 (.cells #[.int .i64 (t19.kind : Nat), .string (bs t19.name), .slice ka19 t19.kids.length kc19, .slice na19 t19.names.length nc19, .int .i64 (t19.at_ : Nat)] 26)
                  have hkl := Kp.of_below (b := r.b) hal
                  obtain ⟨w20, hw20⟩ : ∃ w0, w0 = w19.alloc (.cells #[.int .i64 (t19.kind : Nat), .string (bs t19.name), .slice ka19 t19.kids.length kc19, .slice na19 t19.names.length nc19, .int .i64 (t19.at_ : Nat)] 26) := ⟨_, rfl⟩
                  rw [← hw20] at hal hkl ⊢
                  have hI20 := hI19.below hal
                  have hK20 := chainK hK19 hal
                  have Hw20 : Hid (_ = _) := hw20
                  clear hw20
                  replace hbx := Blk.kp hbx hkl hbx.lt (by omega)
                  replace hkr := KRow.kp hkr hkl (by omega)
                  replace hz19 := TrIn.kp hz19 hkl (by omega)
                  refine hKK _ _ ?_
                  clear hKK KK
                  refine wpAny_ready (rs := [5]) (by kernel_rfl) (by simp) ?_
                  refine AllReady.cons rfl (fun KK hKK => ?_) AllReady.nil
                  refine step_append_tree (n := w1.heap.size) (x := x) (m := w13.heap.size) rfl (.tmp 22) (.tmp 25) rfl rfl rfl hkr hz19 (one_cells _ _ _ _ _ _ _) hown19 hxl19 hms19 (fun j y hj => by rw [Hw20.out]; exact new_cell _ _ _ _ j y rfl hj) (by simp) hK20.size hbx.lt ?_
                  intro v21 w21 hkr21 hg21
                  have hI21 := hI20.grownK hkr hg21 (by omega)
                  have hK21 := hK20.grownK hkr hg21 (Nat.le_refl _)
                  replace hbx := hbx.grownK hkr hg21
                  clear hkr hz19 hg21 Hw20 hal hkl hms19 hown19 hxl19
                  have hkr := hkr21
                  clear hkr21
                  obtain ⟨rA21, rL21, rC21, rfl⟩ := hkr.form2
                  refine hKK _ _ ?_
                  clear hKK KK
                  refine wpAny_ready (rs := [6]) (by kernel_rfl) (by simp) ?_
                  refine AllReady.cons rfl (fun KK hKK => ?_) AllReady.nil
                  go_simp
                  refine hKK _ _ ?_
                  clear hKK KK
                  refine wpAny_ready (rs := [7]) (by kernel_rfl) (by simp) ?_
                  refine AllReady.cons rfl (fun KK hKK => ?_) AllReady.nil
                  obtain ⟨c0, c1, c2, c3, c4, f0, f1, f2, f3, f4⟩ := hbx.cells
                  go_simp
                  clear c0 c1 c2 c3 c4 f0 f1 f2 f3 f4
                  obtain ⟨w22, hw⟩ : ∃ w0, w0 = w21.setCell ⟨x, 2, none⟩ (.slice rA21 rL21 rC21) := ⟨_, rfl⟩
                  rw [← hw]
                  have hI22 : r.In w22 (R19) := by rw [hw]; exact hI21.put (by omega) _
                  have hK22 : Kp r.b w1 w22 := by rw [hw]; exact hK21.setCell (.inr hxge) _
                  have hs22 : w22.heap.size = w21.heap.size := by rw [hw]; exact set_size _ _ _
                  replace hbx := Blk.set2 hbx (.slice rA21 rL21 rC21)
                  replace hkr := KRow.put (i := 2) hkr (.slice rA21 rL21 rC21)
                  rw [← hw] at hbx hkr
                  clear hw
                  refine hKK _ _ ?_
                  clear hKK KK
                  refine wpAny_done (by kernel_rfl) ?_ _
                  have c := must_any [59] (by simp) r w22 (R19) hI22 hwf
                  have hxl23 := hbx.lt
                  have hown23 := hkr.own
                  cases hq : mustP r.e [59] (R19) using Rs.cs with
                  | bad p y =>
                    rw [hq] at c HX
                    go_wp2_with fail
                    refine c.mono ?_
                    rintro e w23 ⟨rfl, hb⟩
                    exact ⟨rfl, rule_bad HX.out.symm hB1 hK22 hlt hb⟩
                  | ok t23 R23 =>
                    rw [hq] at c HX
                    rw [bnd_ok] at HX
                    go_wp2_with fail
                    refine c.mono ?_
                    rintro e w23 ⟨v23, rfl, rfl, hI23, hk23⟩
                    have hK23 := hK22.trans hk23
                    clear c hq
                    replace hbx := Blk.kp hbx hk23 hbx.lt (by omega)
                    replace hkr := KRow.kp hkr hk23 (by omega)
                    obtain ⟨c0, c1, c2, c3, c4, _⟩ := hbx.cells
                    obtain ⟨o0, o1, o2, o3, o4, z0, z1, z2, z3, z4⟩ := Blk.cells (hh1.kp hK23 hn1 hlt)
                    go_wp2_with fail
                    exact ⟨rfl, .agg #[.int .i64 18, .string (bs t4), .slice rA21 rL21 rC21, .slice none 0 0, .int .i64 (atP r.e R : Nat)], by simp [results, Tryd.results36, go_sem, *], rule_end (n := w.heap.size) HX.out.symm hB1 rfl hn1 hI23 hlt hK23 (TrIn.fromB (hkr.tree 18 t4 [] (atP r.e R) (.nil none 0))) _ _ _ _ _⟩
                · skip
                  go_simp
                  have hal := below_alloc w19 (.cells #[.int .i64 (t19.kind : Nat), .string (bs t19.name), .slice ka19 t19.kids.length kc19, .slice na19 t19.names.length nc19, .int .i64 (t19.at_ : Nat)] 26)
                  have hkl := Kp.of_below (b := r.b) hal
                  obtain ⟨w24, hw24⟩ : ∃ w0, w0 = w19.alloc (.cells #[.int .i64 (t19.kind : Nat), .string (bs t19.name), .slice ka19 t19.kids.length kc19, .slice na19 t19.names.length nc19, .int .i64 (t19.at_ : Nat)] 26) := ⟨_, rfl⟩
                  rw [← hw24] at hal hkl ⊢
                  have hI24 := hI19.below hal
                  have hK24 := chainK hK19 hal
                  have Hw24 : Hid (_ = _) := hw24
                  clear hw24
                  replace hbx := Blk.kp hbx hkl hbx.lt (by omega)
                  replace hkr := KRow.kp hkr hkl (by omega)
                  replace hz19 := TrIn.kp hz19 hkl (by omega)
                  refine hKK _ _ ?_
                  clear hKK KK
                  refine wpAny_ready (rs := [1]) (by kernel_rfl) (by simp) ?_
                  refine AllReady.cons rfl (fun KK hKK => ?_) AllReady.nil
                  obtain ⟨c0, c1, c2, c3, c4, _⟩ := hbx.cells
                  go_simp
                  clear c0 c1 c2 c3 c4
                  refine hKK _ _ ?_
                  clear hKK KK
                  refine wpAny_ready (rs := [5]) (by kernel_rfl) (by simp) ?_
                  refine AllReady.cons rfl (fun KK hKK => ?_) AllReady.nil
                  refine step_append_tree (n := w1.heap.size) (x := x) (m := w13.heap.size) rfl (.tmp 22) (.tmp 25) rfl rfl rfl hkr hz19 (one_cells _ _ _ _ _ _ _) hown19 hxl19 hms19 (fun j y hj => by rw [Hw24.out]; exact new_cell _ _ _ _ j y rfl hj) (by simp) hK24.size hbx.lt ?_
                  intro v25 w25 hkr25 hg25
                  have hI25 := hI24.grownK hkr hg25 (by omega)
                  have hK25 := hK24.grownK hkr hg25 (Nat.le_refl _)
                  replace hbx := hbx.grownK hkr hg25
                  clear hkr hz19 hg25 Hw24 hal hkl hms19 hown19 hxl19
                  have hkr := hkr25
                  clear hkr25
                  obtain ⟨rA25, rL25, rC25, rfl⟩ := hkr.form2
                  refine hKK _ _ ?_
                  clear hKK KK
                  refine wpAny_ready (rs := [6]) (by kernel_rfl) (by simp) ?_
                  refine AllReady.cons rfl (fun KK hKK => ?_) AllReady.nil
                  go_simp
                  refine hKK _ _ ?_
                  clear hKK KK
                  refine wpAny_ready (rs := [7]) (by kernel_rfl) (by simp) ?_
                  refine AllReady.cons rfl (fun KK hKK => ?_) AllReady.nil
                  obtain ⟨c0, c1, c2, c3, c4, f0, f1, f2, f3, f4⟩ := hbx.cells
                  go_simp
                  clear c0 c1 c2 c3 c4 f0 f1 f2 f3 f4
                  obtain ⟨w26, hw⟩ : ∃ w0, w0 = w25.setCell ⟨x, 2, none⟩ (.slice rA25 rL25 rC25) := ⟨_, rfl⟩
                  rw [← hw]
                  have hI26 : r.In w26 (R19) := by rw [hw]; exact hI25.put (by omega) _
                  have hK26 : Kp r.b w1 w26 := by rw [hw]; exact hK25.setCell (.inr hxge) _
                  have hs26 : w26.heap.size = w25.heap.size := by rw [hw]; exact set_size _ _ _
                  replace hbx := Blk.set2 hbx (.slice rA25 rL25 rC25)
                  replace hkr := KRow.put (i := 2) hkr (.slice rA25 rL25 rC25)
                  rw [← hw] at hbx hkr
                  clear hw
                  refine hKK _ _ ?_
                  clear hKK KK
                  refine wpAny_done (by kernel_rfl) ?_ _
                  have c := must_any [59] (by simp) r w26 (R19) hI26 hwf
                  have hxl27 := hbx.lt
                  have hown27 := hkr.own
                  cases hq : mustP r.e [59] (R19) using Rs.cs with
                  | bad p y =>
                    rw [hq] at c HX
                    go_wp2_with fail
                    refine c.mono ?_
                    rintro e w27 ⟨rfl, hb⟩
                    exact ⟨rfl, rule_bad HX.out.symm hB1 hK26 hlt hb⟩
                  | ok t27 R27 =>
                    rw [hq] at c HX
                    rw [bnd_ok] at HX
                    go_wp2_with fail
                    refine c.mono ?_
                    rintro e w27 ⟨v27, rfl, rfl, hI27, hk27⟩
                    have hK27 := hK26.trans hk27
                    clear c hq
                    replace hbx := Blk.kp hbx hk27 hbx.lt (by omega)
                    replace hkr := KRow.kp hkr hk27 (by omega)
                    obtain ⟨c0, c1, c2, c3, c4, _⟩ := hbx.cells
                    obtain ⟨o0, o1, o2, o3, o4, z0, z1, z2, z3, z4⟩ := Blk.cells (hh1.kp hK27 hn1 hlt)
                    go_wp2_with fail
                    exact ⟨rfl, .agg #[.int .i64 18, .string (bs t4), .slice rA25 rL25 rC25, .slice none 0 0, .int .i64 (atP r.e R : Nat)], by simp [results, Tryd.results36, go_sem, *], rule_end (n := w.heap.size) HX.out.symm hB1 rfl hn1 hI27 hlt hK27 (TrIn.fromB (hkr.tree 18 t4 [] (atP r.e R) (.nil none 0))) _ _ _ _ _⟩
      · skip
        go_simp
        have hN28 : NF (termP r.e f 1 (R6)) := NF.left (by have h := hNF; rw [← HX.out] at h; exact h)
        have c := iht 1 (R6) w7 (by omega) hI7 hN28
        have hxl28 := hbx.lt
        have hown28 := hkr.own
        cases hq : termP r.e f 1 (R6) using Rs.cs with
        | bad p y =>
          rw [hq] at c HX
          refine c.mono ?_
          rintro e w28 ⟨rfl, hb⟩
          exact ⟨rfl, rule_bad HX.out.symm hB1 hK7 hlt hb⟩
        | ok t28 R28 =>
          rw [hq] at c HX
          rw [bnd_ok] at HX
          refine c.mono ?_
          rintro e w28 ⟨v28, rfl, ht28, hI28, hk28⟩
          have hK28 := hK7.trans hk28
          clear c hq
          replace hbx := Blk.kp hbx hk28 hbx.lt (by omega)
          replace hkr := KRow.kp hkr hk28 (by omega)
          have hz28 := ht28
          have hms28 := hK7.size
          clear ht28
          obtain ⟨vk28, vn28, rfl, hf28, ka28, kc28, rfl⟩ := TrIn.form hz28
          obtain ⟨na28, nc28, rfl⟩ := hf28.form
          clear hf28
          refine hKK _ _ ?_
          clear hKK KK
          refine wpAny_ready (rs := [1, 4]) (by kernel_rfl) (by simp) ?_
          refine AllReady.cons rfl (fun KK hKK => ?_) (AllReady.cons rfl (fun KK hKK => ?_) AllReady.nil)
          · skip
            obtain ⟨c0, c1, c2, c3, c4, _⟩ := hbx.cells
            go_simp
            clear c0 c1 c2 c3 c4
            refine hKK _ _ ?_
            clear hKK KK
            refine wpAny_ready (rs := [4]) (by kernel_rfl) (by simp) ?_
            refine AllReady.cons rfl (fun KK hKK => ?_) AllReady.nil
            go_simp
            have hal := below_alloc w28 (.cells #[.int .i64 (t28.kind : Nat), .string (bs t28.name), .slice ka28 t28.kids.length kc28, .slice na28 t28.names.length nc28, .int .i64 (t28.at_ : Nat)] 26)
            have hkl := Kp.of_below (b := r.b) hal
            obtain ⟨w29, hw29⟩ : ∃ w0, w0 = w28.alloc (.cells #[.int .i64 (t28.kind : Nat), .string (bs t28.name), .slice ka28 t28.kids.length kc28, .slice na28 t28.names.length nc28, .int .i64 (t28.at_ : Nat)] 26) := ⟨_, rfl⟩
            rw [← hw29] at hal hkl ⊢
            have hI29 := hI28.below hal
            have hK29 := chainK hK28 hal
            have Hw29 : Hid (_ = _) := hw29
            clear hw29
            replace hbx := Blk.kp hbx hkl hbx.lt (by omega)
            replace hkr := KRow.kp hkr hkl (by omega)
            replace hz28 := TrIn.kp hz28 hkl (by omega)
            refine hKK _ _ ?_
            clear hKK KK
            refine wpAny_ready (rs := [5]) (by kernel_rfl) (by simp) ?_
            refine AllReady.cons rfl (fun KK hKK => ?_) AllReady.nil
            refine step_append_tree (n := w1.heap.size) (x := x) (m := w7.heap.size) rfl (.tmp 13) (.tmp 16) rfl rfl rfl hkr hz28 (one_cells _ _ _ _ _ _ _) hown28 hxl28 hms28 (fun j y hj => by rw [Hw29.out]; exact new_cell _ _ _ _ j y rfl hj) (by simp) hK29.size hbx.lt ?_
            intro v30 w30 hkr30 hg30
            have hI30 := hI29.grownK hkr hg30 (by omega)
            have hK30 := hK29.grownK hkr hg30 (Nat.le_refl _)
            replace hbx := hbx.grownK hkr hg30
            clear hkr hz28 hg30 Hw29 hal hkl hms28 hown28 hxl28
            have hkr := hkr30
            clear hkr30
            obtain ⟨rA30, rL30, rC30, rfl⟩ := hkr.form2
            refine hKK _ _ ?_
            clear hKK KK
            refine wpAny_ready (rs := [6]) (by kernel_rfl) (by simp) ?_
            refine AllReady.cons rfl (fun KK hKK => ?_) AllReady.nil
            go_simp
            refine hKK _ _ ?_
            clear hKK KK
            refine wpAny_ready (rs := [7]) (by kernel_rfl) (by simp) ?_
            refine AllReady.cons rfl (fun KK hKK => ?_) AllReady.nil
            obtain ⟨c0, c1, c2, c3, c4, f0, f1, f2, f3, f4⟩ := hbx.cells
            go_simp
            clear c0 c1 c2 c3 c4 f0 f1 f2 f3 f4
            obtain ⟨w31, hw⟩ : ∃ w0, w0 = w30.setCell ⟨x, 2, none⟩ (.slice rA30 rL30 rC30) := ⟨_, rfl⟩
            rw [← hw]
            have hI31 : r.In w31 (R28) := by rw [hw]; exact hI30.put (by omega) _
            have hK31 : Kp r.b w1 w31 := by rw [hw]; exact hK30.setCell (.inr hxge) _
            have hs31 : w31.heap.size = w30.heap.size := by rw [hw]; exact set_size _ _ _
            replace hbx := Blk.set2 hbx (.slice rA30 rL30 rC30)
            replace hkr := KRow.put (i := 2) hkr (.slice rA30 rL30 rC30)
            rw [← hw] at hbx hkr
            clear hw
            refine hKK _ _ ?_
            clear hKK KK
            refine wpAny_done (by kernel_rfl) ?_ _
            have c := must_any [61] (by simp) r w31 (R28) hI31 hwf
            have hxl32 := hbx.lt
            have hown32 := hkr.own
            cases hq : mustP r.e [61] (R28) using Rs.cs with
            | bad p y =>
              rw [hq] at c HX
              go_wp2_with fail
              refine c.mono ?_
              rintro e w32 ⟨rfl, hb⟩
              exact ⟨rfl, rule_bad HX.out.symm hB1 hK31 hlt hb⟩
            | ok t32 R32 =>
              rw [hq] at c HX
              rw [bnd_ok] at HX
              go_wp2_with fail
              refine c.mono ?_
              rintro e w32 ⟨v32, rfl, rfl, hI32, hk32⟩
              have hK32 := hK31.trans hk32
              clear c hq
              replace hbx := Blk.kp hbx hk32 hbx.lt (by omega)
              replace hkr := KRow.kp hkr hk32 (by omega)
              go_wp2_with fail
              obtain ⟨w33, hw33⟩ : ∃ w0, w0 = w32.drew := ⟨_, rfl⟩
              have hB33 : Below w32.heap.size w32 w33 := by rw [hw33]; exact Below.drew (Below.refl _ _)
              have hI33 := hI32.below hB33
              have hK33 := chainK hK32 hB33
              have hk33 := Kp.of_below (b := r.b) hB33
              refine wp_region_any (by kernel_rfl) ?_
              change wpAny _ _ _ _ _ _ _ (World.drew _)
              rw [← hw33]
              clear hw33
              replace hbx := Blk.kp hbx hk33 hbx.lt (by omega)
              replace hkr := KRow.kp hkr hk33 (by omega)
              clear hB33 hk33
              refine wpAny_take (i := 0) (v := .pointer (some ⟨x, 2, none⟩)) rfl (by kernel_rfl) (by kernel_rfl) (by kernel_rfl) (fun _ _ _ h => h) (Or.inl ⟨by rfl, fun w => by go_simp⟩) ?_
              simp only [Act.put, List.setIfInBounds_toArray, List.set_cons_zero, List.set_cons_succ]
              refine wpAny_take (i := 2) (v := r.ptr) rfl (by kernel_rfl) (by kernel_rfl) (by kernel_rfl) (fun _ _ _ h => h) (Or.inl ⟨by rfl, fun w => by go_simp⟩) ?_
              simp only [Act.put, List.setIfInBounds_toArray, List.set_cons_zero, List.set_cons_succ]
              refine wpAny_ready (rs := [1, 3]) (by kernel_rfl) (by simp) ?_
              refine AllReady.cons rfl (fun KK hKK => ?_) (AllReady.cons rfl (fun KK hKK => ?_) AllReady.nil)
              · skip
                obtain ⟨c0, c1, c2, c3, c4, _⟩ := hbx.cells
                go_simp
                clear c0 c1 c2 c3 c4
                refine hKK _ _ ?_
                clear hKK KK
                refine wpAny_ready (rs := [3]) (by kernel_rfl) (by simp) ?_
                refine AllReady.cons rfl (fun KK hKK => ?_) AllReady.nil
                go_simp
                have hN34 : NF (termP r.e f 1 (R32)) := NF.left (by have h := hNF; rw [← HX.out] at h; exact h)
                have c := iht 1 (R32) w33 (by omega) hI33 hN34
                have hxl34 := hbx.lt
                have hown34 := hkr.own
                cases hq : termP r.e f 1 (R32) using Rs.cs with
                | bad p y =>
                  rw [hq] at c HX
                  refine c.mono ?_
                  rintro e w34 ⟨rfl, hb⟩
                  exact ⟨rfl, rule_bad HX.out.symm hB1 hK33 hlt hb⟩
                | ok t34 R34 =>
                  rw [hq] at c HX
                  rw [bnd_ok] at HX
                  refine c.mono ?_
                  rintro e w34 ⟨v34, rfl, ht34, hI34, hk34⟩
                  have hK34 := hK33.trans hk34
                  clear c hq
                  replace hbx := Blk.kp hbx hk34 hbx.lt (by omega)
                  replace hkr := KRow.kp hkr hk34 (by omega)
                  have hz34 := ht34
                  have hms34 := hK33.size
                  clear ht34
                  obtain ⟨vk34, vn34, rfl, hf34, ka34, kc34, rfl⟩ := TrIn.form hz34
                  obtain ⟨na34, nc34, rfl⟩ := hf34.form
                  clear hf34
                  refine hKK _ _ ?_
                  clear hKK KK
                  refine wpAny_ready (rs := [4]) (by kernel_rfl) (by simp) ?_
                  refine AllReady.cons rfl (fun KK hKK => ?_) AllReady.nil
                  go_simp
                  have hal := below_alloc w34 (.cells #[.int .i64 (t34.kind : Nat), .string (bs t34.name), .slice ka34 t34.kids.length kc34, .slice na34 t34.names.length nc34, .int .i64 (t34.at_ : Nat)] 26)
                  have hkl := Kp.of_below (b := r.b) hal
                  obtain ⟨w35, hw35⟩ : ∃ w0, w0 = w34.alloc (.cells #[.int .i64 (t34.kind : Nat), .string (bs t34.name), .slice ka34 t34.kids.length kc34, .slice na34 t34.names.length nc34, .int .i64 (t34.at_ : Nat)] 26) := ⟨_, rfl⟩
                  rw [← hw35] at hal hkl ⊢
                  have hI35 := hI34.below hal
                  have hK35 := chainK hK34 hal
                  have Hw35 : Hid (_ = _) := hw35
                  clear hw35
                  replace hbx := Blk.kp hbx hkl hbx.lt (by omega)
                  replace hkr := KRow.kp hkr hkl (by omega)
                  replace hz34 := TrIn.kp hz34 hkl (by omega)
                  refine hKK _ _ ?_
                  clear hKK KK
                  refine wpAny_ready (rs := [5]) (by kernel_rfl) (by simp) ?_
                  refine AllReady.cons rfl (fun KK hKK => ?_) AllReady.nil
                  refine step_append_tree (n := w1.heap.size) (x := x) (m := w33.heap.size) rfl (.tmp 22) (.tmp 25) rfl rfl rfl hkr hz34 (one_cells _ _ _ _ _ _ _) hown34 hxl34 hms34 (fun j y hj => by rw [Hw35.out]; exact new_cell _ _ _ _ j y rfl hj) (by simp) hK35.size hbx.lt ?_
                  intro v36 w36 hkr36 hg36
                  have hI36 := hI35.grownK hkr hg36 (by omega)
                  have hK36 := hK35.grownK hkr hg36 (Nat.le_refl _)
                  replace hbx := hbx.grownK hkr hg36
                  clear hkr hz34 hg36 Hw35 hal hkl hms34 hown34 hxl34
                  have hkr := hkr36
                  clear hkr36
                  obtain ⟨rA36, rL36, rC36, rfl⟩ := hkr.form2
                  refine hKK _ _ ?_
                  clear hKK KK
                  refine wpAny_ready (rs := [6]) (by kernel_rfl) (by simp) ?_
                  refine AllReady.cons rfl (fun KK hKK => ?_) AllReady.nil
                  go_simp
                  refine hKK _ _ ?_
                  clear hKK KK
                  refine wpAny_ready (rs := [7]) (by kernel_rfl) (by simp) ?_
                  refine AllReady.cons rfl (fun KK hKK => ?_) AllReady.nil
                  obtain ⟨c0, c1, c2, c3, c4, f0, f1, f2, f3, f4⟩ := hbx.cells
                  go_simp
                  clear c0 c1 c2 c3 c4 f0 f1 f2 f3 f4
                  obtain ⟨w37, hw⟩ : ∃ w0, w0 = w36.setCell ⟨x, 2, none⟩ (.slice rA36 rL36 rC36) := ⟨_, rfl⟩
                  rw [← hw]
                  have hI37 : r.In w37 (R34) := by rw [hw]; exact hI36.put (by omega) _
                  have hK37 : Kp r.b w1 w37 := by rw [hw]; exact hK36.setCell (.inr hxge) _
                  have hs37 : w37.heap.size = w36.heap.size := by rw [hw]; exact set_size _ _ _
                  replace hbx := Blk.set2 hbx (.slice rA36 rL36 rC36)
                  replace hkr := KRow.put (i := 2) hkr (.slice rA36 rL36 rC36)
                  rw [← hw] at hbx hkr
                  clear hw
                  refine hKK _ _ ?_
                  clear hKK KK
                  refine wpAny_done (by kernel_rfl) ?_ _
                  have c := must_any [59] (by simp) r w37 (R34) hI37 hwf
                  have hxl38 := hbx.lt
                  have hown38 := hkr.own
                  cases hq : mustP r.e [59] (R34) using Rs.cs with
                  | bad p y =>
                    rw [hq] at c HX
                    go_wp2_with fail
                    refine c.mono ?_
                    rintro e w38 ⟨rfl, hb⟩
                    exact ⟨rfl, rule_bad HX.out.symm hB1 hK37 hlt hb⟩
                  | ok t38 R38 =>
                    rw [hq] at c HX
                    rw [bnd_ok] at HX
                    go_wp2_with fail
                    refine c.mono ?_
                    rintro e w38 ⟨v38, rfl, rfl, hI38, hk38⟩
                    have hK38 := hK37.trans hk38
                    clear c hq
                    replace hbx := Blk.kp hbx hk38 hbx.lt (by omega)
                    replace hkr := KRow.kp hkr hk38 (by omega)
                    obtain ⟨c0, c1, c2, c3, c4, _⟩ := hbx.cells
                    obtain ⟨o0, o1, o2, o3, o4, z0, z1, z2, z3, z4⟩ := Blk.cells (hh1.kp hK38 hn1 hlt)
                    go_wp2_with fail
                    exact ⟨rfl, .agg #[.int .i64 18, .string (bs t4), .slice rA36 rL36 rC36, .slice none 0 0, .int .i64 (atP r.e R : Nat)], by simp [results, Tryd.results36, go_sem, *], rule_end (n := w.heap.size) HX.out.symm hB1 rfl hn1 hI38 hlt hK38 (TrIn.fromB (hkr.tree 18 t4 [] (atP r.e R) (.nil none 0))) _ _ _ _ _⟩
              · skip
                go_simp
                have hN39 : NF (termP r.e f 1 (R32)) := NF.left (by have h := hNF; rw [← HX.out] at h; exact h)
                have c := iht 1 (R32) w33 (by omega) hI33 hN39
                have hxl39 := hbx.lt
                have hown39 := hkr.own
                cases hq : termP r.e f 1 (R32) using Rs.cs with
                | bad p y =>
                  rw [hq] at c HX
                  refine c.mono ?_
                  rintro e w39 ⟨rfl, hb⟩
                  exact ⟨rfl, rule_bad HX.out.symm hB1 hK33 hlt hb⟩
                | ok t39 R39 =>
                  rw [hq] at c HX
                  rw [bnd_ok] at HX
                  refine c.mono ?_
                  rintro e w39 ⟨v39, rfl, ht39, hI39, hk39⟩
                  have hK39 := hK33.trans hk39
                  clear c hq
                  replace hbx := Blk.kp hbx hk39 hbx.lt (by omega)
                  replace hkr := KRow.kp hkr hk39 (by omega)
                  have hz39 := ht39
                  have hms39 := hK33.size
                  clear ht39
                  obtain ⟨vk39, vn39, rfl, hf39, ka39, kc39, rfl⟩ := TrIn.form hz39
                  obtain ⟨na39, nc39, rfl⟩ := hf39.form
                  clear hf39
                  refine hKK _ _ ?_
                  clear hKK KK
                  refine wpAny_ready (rs := [1, 4]) (by kernel_rfl) (by simp) ?_
                  refine AllReady.cons rfl (fun KK hKK => ?_) (AllReady.cons rfl (fun KK hKK => ?_) AllReady.nil)
                  · skip
                    obtain ⟨c0, c1, c2, c3, c4, _⟩ := hbx.cells
                    go_simp
                    clear c0 c1 c2 c3 c4
                    refine hKK _ _ ?_
                    clear hKK KK
                    refine wpAny_ready (rs := [4]) (by kernel_rfl) (by simp) ?_
                    refine AllReady.cons rfl (fun KK hKK => ?_) AllReady.nil
                    go_simp
                    have hal := below_alloc w39 (.cells #[.int .i64 (t39.kind : Nat), .string (bs t39.name), .slice ka39 t39.kids.length kc39, .slice na39 t39.names.length nc39, .int .i64 (t39.at_ : Nat)] 26)
                    have hkl := Kp.of_below (b := r.b) hal
                    obtain ⟨w40, hw40⟩ : ∃ w0, w0 = w39.alloc (.cells #[.int .i64 (t39.kind : Nat), .string (bs t39.name), .slice ka39 t39.kids.length kc39, .slice na39 t39.names.length nc39, .int .i64 (t39.at_ : Nat)] 26) := ⟨_, rfl⟩
                    rw [← hw40] at hal hkl ⊢
                    have hI40 := hI39.below hal
                    have hK40 := chainK hK39 hal
                    have Hw40 : Hid (_ = _) := hw40
                    clear hw40
                    replace hbx := Blk.kp hbx hkl hbx.lt (by omega)
                    replace hkr := KRow.kp hkr hkl (by omega)
                    replace hz39 := TrIn.kp hz39 hkl (by omega)
                    refine hKK _ _ ?_
                    clear hKK KK
                    refine wpAny_ready (rs := [5]) (by kernel_rfl) (by simp) ?_
                    refine AllReady.cons rfl (fun KK hKK => ?_) AllReady.nil
                    refine step_append_tree (n := w1.heap.size) (x := x) (m := w33.heap.size) rfl (.tmp 22) (.tmp 25) rfl rfl rfl hkr hz39 (one_cells _ _ _ _ _ _ _) hown39 hxl39 hms39 (fun j y hj => by rw [Hw40.out]; exact new_cell _ _ _ _ j y rfl hj) (by simp) hK40.size hbx.lt ?_
                    intro v41 w41 hkr41 hg41
                    have hI41 := hI40.grownK hkr hg41 (by omega)
                    have hK41 := hK40.grownK hkr hg41 (Nat.le_refl _)
                    replace hbx := hbx.grownK hkr hg41
                    clear hkr hz39 hg41 Hw40 hal hkl hms39 hown39 hxl39
                    have hkr := hkr41
                    clear hkr41
                    obtain ⟨rA41, rL41, rC41, rfl⟩ := hkr.form2
                    refine hKK _ _ ?_
                    clear hKK KK
                    refine wpAny_ready (rs := [6]) (by kernel_rfl) (by simp) ?_
                    refine AllReady.cons rfl (fun KK hKK => ?_) AllReady.nil
                    go_simp
                    refine hKK _ _ ?_
                    clear hKK KK
                    refine wpAny_ready (rs := [7]) (by kernel_rfl) (by simp) ?_
                    refine AllReady.cons rfl (fun KK hKK => ?_) AllReady.nil
                    obtain ⟨c0, c1, c2, c3, c4, f0, f1, f2, f3, f4⟩ := hbx.cells
                    go_simp
                    clear c0 c1 c2 c3 c4 f0 f1 f2 f3 f4
                    obtain ⟨w42, hw⟩ : ∃ w0, w0 = w41.setCell ⟨x, 2, none⟩ (.slice rA41 rL41 rC41) := ⟨_, rfl⟩
                    rw [← hw]
                    have hI42 : r.In w42 (R39) := by rw [hw]; exact hI41.put (by omega) _
                    have hK42 : Kp r.b w1 w42 := by rw [hw]; exact hK41.setCell (.inr hxge) _
                    have hs42 : w42.heap.size = w41.heap.size := by rw [hw]; exact set_size _ _ _
                    replace hbx := Blk.set2 hbx (.slice rA41 rL41 rC41)
                    replace hkr := KRow.put (i := 2) hkr (.slice rA41 rL41 rC41)
                    rw [← hw] at hbx hkr
                    clear hw
                    refine hKK _ _ ?_
                    clear hKK KK
                    refine wpAny_done (by kernel_rfl) ?_ _
                    have c := must_any [59] (by simp) r w42 (R39) hI42 hwf
                    have hxl43 := hbx.lt
                    have hown43 := hkr.own
                    cases hq : mustP r.e [59] (R39) using Rs.cs with
                    | bad p y =>
                      rw [hq] at c HX
                      go_wp2_with fail
                      refine c.mono ?_
                      rintro e w43 ⟨rfl, hb⟩
                      exact ⟨rfl, rule_bad HX.out.symm hB1 hK42 hlt hb⟩
                    | ok t43 R43 =>
                      rw [hq] at c HX
                      rw [bnd_ok] at HX
                      go_wp2_with fail
                      refine c.mono ?_
                      rintro e w43 ⟨v43, rfl, rfl, hI43, hk43⟩
                      have hK43 := hK42.trans hk43
                      clear c hq
                      replace hbx := Blk.kp hbx hk43 hbx.lt (by omega)
                      replace hkr := KRow.kp hkr hk43 (by omega)
                      obtain ⟨c0, c1, c2, c3, c4, _⟩ := hbx.cells
                      obtain ⟨o0, o1, o2, o3, o4, z0, z1, z2, z3, z4⟩ := Blk.cells (hh1.kp hK43 hn1 hlt)
                      go_wp2_with fail
                      exact ⟨rfl, .agg #[.int .i64 18, .string (bs t4), .slice rA41 rL41 rC41, .slice none 0 0, .int .i64 (atP r.e R : Nat)], by simp [results, Tryd.results36, go_sem, *], rule_end (n := w.heap.size) HX.out.symm hB1 rfl hn1 hI43 hlt hK43 (TrIn.fromB (hkr.tree 18 t4 [] (atP r.e R) (.nil none 0))) _ _ _ _ _⟩
                  · skip
                    go_simp
                    have hal := below_alloc w39 (.cells #[.int .i64 (t39.kind : Nat), .string (bs t39.name), .slice ka39 t39.kids.length kc39, .slice na39 t39.names.length nc39, .int .i64 (t39.at_ : Nat)] 26)
                    have hkl := Kp.of_below (b := r.b) hal
                    obtain ⟨w44, hw44⟩ : ∃ w0, w0 = w39.alloc (.cells #[.int .i64 (t39.kind : Nat), .string (bs t39.name), .slice ka39 t39.kids.length kc39, .slice na39 t39.names.length nc39, .int .i64 (t39.at_ : Nat)] 26) := ⟨_, rfl⟩
                    rw [← hw44] at hal hkl ⊢
                    have hI44 := hI39.below hal
                    have hK44 := chainK hK39 hal
                    have Hw44 : Hid (_ = _) := hw44
                    clear hw44
                    replace hbx := Blk.kp hbx hkl hbx.lt (by omega)
                    replace hkr := KRow.kp hkr hkl (by omega)
                    replace hz39 := TrIn.kp hz39 hkl (by omega)
                    refine hKK _ _ ?_
                    clear hKK KK
                    refine wpAny_ready (rs := [1]) (by kernel_rfl) (by simp) ?_
                    refine AllReady.cons rfl (fun KK hKK => ?_) AllReady.nil
                    obtain ⟨c0, c1, c2, c3, c4, _⟩ := hbx.cells
                    go_simp
                    clear c0 c1 c2 c3 c4
                    refine hKK _ _ ?_
                    clear hKK KK
                    refine wpAny_ready (rs := [5]) (by kernel_rfl) (by simp) ?_
                    refine AllReady.cons rfl (fun KK hKK => ?_) AllReady.nil
                    refine step_append_tree (n := w1.heap.size) (x := x) (m := w33.heap.size) rfl (.tmp 22) (.tmp 25) rfl rfl rfl hkr hz39 (one_cells _ _ _ _ _ _ _) hown39 hxl39 hms39 (fun j y hj => by rw [Hw44.out]; exact new_cell _ _ _ _ j y rfl hj) (by simp) hK44.size hbx.lt ?_
                    intro v45 w45 hkr45 hg45
                    have hI45 := hI44.grownK hkr hg45 (by omega)
                    have hK45 := hK44.grownK hkr hg45 (Nat.le_refl _)
                    replace hbx := hbx.grownK hkr hg45
                    clear hkr hz39 hg45 Hw44 hal hkl hms39 hown39 hxl39
                    have hkr := hkr45
                    clear hkr45
                    obtain ⟨rA45, rL45, rC45, rfl⟩ := hkr.form2
                    refine hKK _ _ ?_
                    clear hKK KK
                    refine wpAny_ready (rs := [6]) (by kernel_rfl) (by simp) ?_
                    refine AllReady.cons rfl (fun KK hKK => ?_) AllReady.nil
                    go_simp
                    refine hKK _ _ ?_
                    clear hKK KK
                    refine wpAny_ready (rs := [7]) (by kernel_rfl) (by simp) ?_
                    refine AllReady.cons rfl (fun KK hKK => ?_) AllReady.nil
                    obtain ⟨c0, c1, c2, c3, c4, f0, f1, f2, f3, f4⟩ := hbx.cells
                    go_simp
                    clear c0 c1 c2 c3 c4 f0 f1 f2 f3 f4
                    obtain ⟨w46, hw⟩ : ∃ w0, w0 = w45.setCell ⟨x, 2, none⟩ (.slice rA45 rL45 rC45) := ⟨_, rfl⟩
                    rw [← hw]
                    have hI46 : r.In w46 (R39) := by rw [hw]; exact hI45.put (by omega) _
                    have hK46 : Kp r.b w1 w46 := by rw [hw]; exact hK45.setCell (.inr hxge) _
                    have hs46 : w46.heap.size = w45.heap.size := by rw [hw]; exact set_size _ _ _
                    replace hbx := Blk.set2 hbx (.slice rA45 rL45 rC45)
                    replace hkr := KRow.put (i := 2) hkr (.slice rA45 rL45 rC45)
                    rw [← hw] at hbx hkr
                    clear hw
                    refine hKK _ _ ?_
                    clear hKK KK
                    refine wpAny_done (by kernel_rfl) ?_ _
                    have c := must_any [59] (by simp) r w46 (R39) hI46 hwf
                    have hxl47 := hbx.lt
                    have hown47 := hkr.own
                    cases hq : mustP r.e [59] (R39) using Rs.cs with
                    | bad p y =>
                      rw [hq] at c HX
                      go_wp2_with fail
                      refine c.mono ?_
                      rintro e w47 ⟨rfl, hb⟩
                      exact ⟨rfl, rule_bad HX.out.symm hB1 hK46 hlt hb⟩
                    | ok t47 R47 =>
                      rw [hq] at c HX
                      rw [bnd_ok] at HX
                      go_wp2_with fail
                      refine c.mono ?_
                      rintro e w47 ⟨v47, rfl, rfl, hI47, hk47⟩
                      have hK47 := hK46.trans hk47
                      clear c hq
                      replace hbx := Blk.kp hbx hk47 hbx.lt (by omega)
                      replace hkr := KRow.kp hkr hk47 (by omega)
                      obtain ⟨c0, c1, c2, c3, c4, _⟩ := hbx.cells
                      obtain ⟨o0, o1, o2, o3, o4, z0, z1, z2, z3, z4⟩ := Blk.cells (hh1.kp hK47 hn1 hlt)
                      go_wp2_with fail
                      exact ⟨rfl, .agg #[.int .i64 18, .string (bs t4), .slice rA45 rL45 rC45, .slice none 0 0, .int .i64 (atP r.e R : Nat)], by simp [results, Tryd.results36, go_sem, *], rule_end (n := w.heap.size) HX.out.symm hB1 rfl hn1 hI47 hlt hK47 (TrIn.fromB (hkr.tree 18 t4 [] (atP r.e R) (.nil none 0))) _ _ _ _ _⟩
          · skip
            go_simp
            have hal := below_alloc w28 (.cells #[.int .i64 (t28.kind : Nat), .string (bs t28.name), .slice ka28 t28.kids.length kc28, .slice na28 t28.names.length nc28, .int .i64 (t28.at_ : Nat)] 26)
            have hkl := Kp.of_below (b := r.b) hal
            obtain ⟨w48, hw48⟩ : ∃ w0, w0 = w28.alloc (.cells #[.int .i64 (t28.kind : Nat), .string (bs t28.name), .slice ka28 t28.kids.length kc28, .slice na28 t28.names.length nc28, .int .i64 (t28.at_ : Nat)] 26) := ⟨_, rfl⟩
            rw [← hw48] at hal hkl ⊢
            have hI48 := hI28.below hal
            have hK48 := chainK hK28 hal
            have Hw48 : Hid (_ = _) := hw48
            clear hw48
            replace hbx := Blk.kp hbx hkl hbx.lt (by omega)
            replace hkr := KRow.kp hkr hkl (by omega)
            replace hz28 := TrIn.kp hz28 hkl (by omega)
            refine hKK _ _ ?_
            clear hKK KK
            refine wpAny_ready (rs := [1]) (by kernel_rfl) (by simp) ?_
            refine AllReady.cons rfl (fun KK hKK => ?_) AllReady.nil
            obtain ⟨c0, c1, c2, c3, c4, _⟩ := hbx.cells
            go_simp
            clear c0 c1 c2 c3 c4
            refine hKK _ _ ?_
            clear hKK KK
            refine wpAny_ready (rs := [5]) (by kernel_rfl) (by simp) ?_
            refine AllReady.cons rfl (fun KK hKK => ?_) AllReady.nil
            refine step_append_tree (n := w1.heap.size) (x := x) (m := w7.heap.size) rfl (.tmp 13) (.tmp 16) rfl rfl rfl hkr hz28 (one_cells _ _ _ _ _ _ _) hown28 hxl28 hms28 (fun j y hj => by rw [Hw48.out]; exact new_cell _ _ _ _ j y rfl hj) (by simp) hK48.size hbx.lt ?_
            intro v49 w49 hkr49 hg49
            have hI49 := hI48.grownK hkr hg49 (by omega)
            have hK49 := hK48.grownK hkr hg49 (Nat.le_refl _)
            replace hbx := hbx.grownK hkr hg49
            clear hkr hz28 hg49 Hw48 hal hkl hms28 hown28 hxl28
            have hkr := hkr49
            clear hkr49
            obtain ⟨rA49, rL49, rC49, rfl⟩ := hkr.form2
            refine hKK _ _ ?_
            clear hKK KK
            refine wpAny_ready (rs := [6]) (by kernel_rfl) (by simp) ?_
            refine AllReady.cons rfl (fun KK hKK => ?_) AllReady.nil
            go_simp
            refine hKK _ _ ?_
            clear hKK KK
            refine wpAny_ready (rs := [7]) (by kernel_rfl) (by simp) ?_
            refine AllReady.cons rfl (fun KK hKK => ?_) AllReady.nil
            obtain ⟨c0, c1, c2, c3, c4, f0, f1, f2, f3, f4⟩ := hbx.cells
            go_simp
            clear c0 c1 c2 c3 c4 f0 f1 f2 f3 f4
            obtain ⟨w50, hw⟩ : ∃ w0, w0 = w49.setCell ⟨x, 2, none⟩ (.slice rA49 rL49 rC49) := ⟨_, rfl⟩
            rw [← hw]
            have hI50 : r.In w50 (R28) := by rw [hw]; exact hI49.put (by omega) _
            have hK50 : Kp r.b w1 w50 := by rw [hw]; exact hK49.setCell (.inr hxge) _
            have hs50 : w50.heap.size = w49.heap.size := by rw [hw]; exact set_size _ _ _
            replace hbx := Blk.set2 hbx (.slice rA49 rL49 rC49)
            replace hkr := KRow.put (i := 2) hkr (.slice rA49 rL49 rC49)
            rw [← hw] at hbx hkr
            clear hw
            refine hKK _ _ ?_
            clear hKK KK
            refine wpAny_done (by kernel_rfl) ?_ _
            have c := must_any [61] (by simp) r w50 (R28) hI50 hwf
            have hxl51 := hbx.lt
            have hown51 := hkr.own
            cases hq : mustP r.e [61] (R28) using Rs.cs with
            | bad p y =>
              rw [hq] at c HX
              go_wp2_with fail
              refine c.mono ?_
              rintro e w51 ⟨rfl, hb⟩
              exact ⟨rfl, rule_bad HX.out.symm hB1 hK50 hlt hb⟩
            | ok t51 R51 =>
              rw [hq] at c HX
              rw [bnd_ok] at HX
              go_wp2_with fail
              refine c.mono ?_
              rintro e w51 ⟨v51, rfl, rfl, hI51, hk51⟩
              have hK51 := hK50.trans hk51
              clear c hq
              replace hbx := Blk.kp hbx hk51 hbx.lt (by omega)
              replace hkr := KRow.kp hkr hk51 (by omega)
              go_wp2_with fail
              obtain ⟨w52, hw52⟩ : ∃ w0, w0 = w51.drew := ⟨_, rfl⟩
              have hB52 : Below w51.heap.size w51 w52 := by rw [hw52]; exact Below.drew (Below.refl _ _)
              have hI52 := hI51.below hB52
              have hK52 := chainK hK51 hB52
              have hk52 := Kp.of_below (b := r.b) hB52
              refine wp_region_any (by kernel_rfl) ?_
              change wpAny _ _ _ _ _ _ _ (World.drew _)
              rw [← hw52]
              clear hw52
              replace hbx := Blk.kp hbx hk52 hbx.lt (by omega)
              replace hkr := KRow.kp hkr hk52 (by omega)
              clear hB52 hk52
              refine wpAny_take (i := 0) (v := .pointer (some ⟨x, 2, none⟩)) rfl (by kernel_rfl) (by kernel_rfl) (by kernel_rfl) (fun _ _ _ h => h) (Or.inl ⟨by rfl, fun w => by go_simp⟩) ?_
              simp only [Act.put, List.setIfInBounds_toArray, List.set_cons_zero, List.set_cons_succ]
              refine wpAny_take (i := 2) (v := r.ptr) rfl (by kernel_rfl) (by kernel_rfl) (by kernel_rfl) (fun _ _ _ h => h) (Or.inl ⟨by rfl, fun w => by go_simp⟩) ?_
              simp only [Act.put, List.setIfInBounds_toArray, List.set_cons_zero, List.set_cons_succ]
              refine wpAny_ready (rs := [1, 3]) (by kernel_rfl) (by simp) ?_
              refine AllReady.cons rfl (fun KK hKK => ?_) (AllReady.cons rfl (fun KK hKK => ?_) AllReady.nil)
              · skip
                obtain ⟨c0, c1, c2, c3, c4, _⟩ := hbx.cells
                go_simp
                clear c0 c1 c2 c3 c4
                refine hKK _ _ ?_
                clear hKK KK
                refine wpAny_ready (rs := [3]) (by kernel_rfl) (by simp) ?_
                refine AllReady.cons rfl (fun KK hKK => ?_) AllReady.nil
                go_simp
                have hN53 : NF (termP r.e f 1 (R51)) := NF.left (by have h := hNF; rw [← HX.out] at h; exact h)
                have c := iht 1 (R51) w52 (by omega) hI52 hN53
                have hxl53 := hbx.lt
                have hown53 := hkr.own
                cases hq : termP r.e f 1 (R51) using Rs.cs with
                | bad p y =>
                  rw [hq] at c HX
                  refine c.mono ?_
                  rintro e w53 ⟨rfl, hb⟩
                  exact ⟨rfl, rule_bad HX.out.symm hB1 hK52 hlt hb⟩
                | ok t53 R53 =>
                  rw [hq] at c HX
                  rw [bnd_ok] at HX
                  refine c.mono ?_
                  rintro e w53 ⟨v53, rfl, ht53, hI53, hk53⟩
                  have hK53 := hK52.trans hk53
                  clear c hq
                  replace hbx := Blk.kp hbx hk53 hbx.lt (by omega)
                  replace hkr := KRow.kp hkr hk53 (by omega)
                  have hz53 := ht53
                  have hms53 := hK52.size
                  clear ht53
                  obtain ⟨vk53, vn53, rfl, hf53, ka53, kc53, rfl⟩ := TrIn.form hz53
                  obtain ⟨na53, nc53, rfl⟩ := hf53.form
                  clear hf53
                  refine hKK _ _ ?_
                  clear hKK KK
                  refine wpAny_ready (rs := [4]) (by kernel_rfl) (by simp) ?_
                  refine AllReady.cons rfl (fun KK hKK => ?_) AllReady.nil
                  go_simp
                  have hal := below_alloc w53 (.cells #[.int .i64 (t53.kind : Nat), .string (bs t53.name), .slice ka53 t53.kids.length kc53, .slice na53 t53.names.length nc53, .int .i64 (t53.at_ : Nat)] 26)
                  have hkl := Kp.of_below (b := r.b) hal
                  obtain ⟨w54, hw54⟩ : ∃ w0, w0 = w53.alloc (.cells #[.int .i64 (t53.kind : Nat), .string (bs t53.name), .slice ka53 t53.kids.length kc53, .slice na53 t53.names.length nc53, .int .i64 (t53.at_ : Nat)] 26) := ⟨_, rfl⟩
                  rw [← hw54] at hal hkl ⊢
                  have hI54 := hI53.below hal
                  have hK54 := chainK hK53 hal
                  have Hw54 : Hid (_ = _) := hw54
                  clear hw54
                  replace hbx := Blk.kp hbx hkl hbx.lt (by omega)
                  replace hkr := KRow.kp hkr hkl (by omega)
                  replace hz53 := TrIn.kp hz53 hkl (by omega)
                  refine hKK _ _ ?_
                  clear hKK KK
                  refine wpAny_ready (rs := [5]) (by kernel_rfl) (by simp) ?_
                  refine AllReady.cons rfl (fun KK hKK => ?_) AllReady.nil
                  refine step_append_tree (n := w1.heap.size) (x := x) (m := w52.heap.size) rfl (.tmp 22) (.tmp 25) rfl rfl rfl hkr hz53 (one_cells _ _ _ _ _ _ _) hown53 hxl53 hms53 (fun j y hj => by rw [Hw54.out]; exact new_cell _ _ _ _ j y rfl hj) (by simp) hK54.size hbx.lt ?_
                  intro v55 w55 hkr55 hg55
                  have hI55 := hI54.grownK hkr hg55 (by omega)
                  have hK55 := hK54.grownK hkr hg55 (Nat.le_refl _)
                  replace hbx := hbx.grownK hkr hg55
                  clear hkr hz53 hg55 Hw54 hal hkl hms53 hown53 hxl53
                  have hkr := hkr55
                  clear hkr55
                  obtain ⟨rA55, rL55, rC55, rfl⟩ := hkr.form2
                  refine hKK _ _ ?_
                  clear hKK KK
                  refine wpAny_ready (rs := [6]) (by kernel_rfl) (by simp) ?_
                  refine AllReady.cons rfl (fun KK hKK => ?_) AllReady.nil
                  go_simp
                  refine hKK _ _ ?_
                  clear hKK KK
                  refine wpAny_ready (rs := [7]) (by kernel_rfl) (by simp) ?_
                  refine AllReady.cons rfl (fun KK hKK => ?_) AllReady.nil
                  obtain ⟨c0, c1, c2, c3, c4, f0, f1, f2, f3, f4⟩ := hbx.cells
                  go_simp
                  clear c0 c1 c2 c3 c4 f0 f1 f2 f3 f4
                  obtain ⟨w56, hw⟩ : ∃ w0, w0 = w55.setCell ⟨x, 2, none⟩ (.slice rA55 rL55 rC55) := ⟨_, rfl⟩
                  rw [← hw]
                  have hI56 : r.In w56 (R53) := by rw [hw]; exact hI55.put (by omega) _
                  have hK56 : Kp r.b w1 w56 := by rw [hw]; exact hK55.setCell (.inr hxge) _
                  have hs56 : w56.heap.size = w55.heap.size := by rw [hw]; exact set_size _ _ _
                  replace hbx := Blk.set2 hbx (.slice rA55 rL55 rC55)
                  replace hkr := KRow.put (i := 2) hkr (.slice rA55 rL55 rC55)
                  rw [← hw] at hbx hkr
                  clear hw
                  refine hKK _ _ ?_
                  clear hKK KK
                  refine wpAny_done (by kernel_rfl) ?_ _
                  have c := must_any [59] (by simp) r w56 (R53) hI56 hwf
                  have hxl57 := hbx.lt
                  have hown57 := hkr.own
                  cases hq : mustP r.e [59] (R53) using Rs.cs with
                  | bad p y =>
                    rw [hq] at c HX
                    go_wp2_with fail
                    refine c.mono ?_
                    rintro e w57 ⟨rfl, hb⟩
                    exact ⟨rfl, rule_bad HX.out.symm hB1 hK56 hlt hb⟩
                  | ok t57 R57 =>
                    rw [hq] at c HX
                    rw [bnd_ok] at HX
                    go_wp2_with fail
                    refine c.mono ?_
                    rintro e w57 ⟨v57, rfl, rfl, hI57, hk57⟩
                    have hK57 := hK56.trans hk57
                    clear c hq
                    replace hbx := Blk.kp hbx hk57 hbx.lt (by omega)
                    replace hkr := KRow.kp hkr hk57 (by omega)
                    obtain ⟨c0, c1, c2, c3, c4, _⟩ := hbx.cells
                    obtain ⟨o0, o1, o2, o3, o4, z0, z1, z2, z3, z4⟩ := Blk.cells (hh1.kp hK57 hn1 hlt)
                    go_wp2_with fail
                    exact ⟨rfl, .agg #[.int .i64 18, .string (bs t4), .slice rA55 rL55 rC55, .slice none 0 0, .int .i64 (atP r.e R : Nat)], by simp [results, Tryd.results36, go_sem, *], rule_end (n := w.heap.size) HX.out.symm hB1 rfl hn1 hI57 hlt hK57 (TrIn.fromB (hkr.tree 18 t4 [] (atP r.e R) (.nil none 0))) _ _ _ _ _⟩
              · skip
                go_simp
                have hN58 : NF (termP r.e f 1 (R51)) := NF.left (by have h := hNF; rw [← HX.out] at h; exact h)
                have c := iht 1 (R51) w52 (by omega) hI52 hN58
                have hxl58 := hbx.lt
                have hown58 := hkr.own
                cases hq : termP r.e f 1 (R51) using Rs.cs with
                | bad p y =>
                  rw [hq] at c HX
                  refine c.mono ?_
                  rintro e w58 ⟨rfl, hb⟩
                  exact ⟨rfl, rule_bad HX.out.symm hB1 hK52 hlt hb⟩
                | ok t58 R58 =>
                  rw [hq] at c HX
                  rw [bnd_ok] at HX
                  refine c.mono ?_
                  rintro e w58 ⟨v58, rfl, ht58, hI58, hk58⟩
                  have hK58 := hK52.trans hk58
                  clear c hq
                  replace hbx := Blk.kp hbx hk58 hbx.lt (by omega)
                  replace hkr := KRow.kp hkr hk58 (by omega)
                  have hz58 := ht58
                  have hms58 := hK52.size
                  clear ht58
                  obtain ⟨vk58, vn58, rfl, hf58, ka58, kc58, rfl⟩ := TrIn.form hz58
                  obtain ⟨na58, nc58, rfl⟩ := hf58.form
                  clear hf58
                  refine hKK _ _ ?_
                  clear hKK KK
                  refine wpAny_ready (rs := [1, 4]) (by kernel_rfl) (by simp) ?_
                  refine AllReady.cons rfl (fun KK hKK => ?_) (AllReady.cons rfl (fun KK hKK => ?_) AllReady.nil)
                  · skip
                    obtain ⟨c0, c1, c2, c3, c4, _⟩ := hbx.cells
                    go_simp
                    clear c0 c1 c2 c3 c4
                    refine hKK _ _ ?_
                    clear hKK KK
                    refine wpAny_ready (rs := [4]) (by kernel_rfl) (by simp) ?_
                    refine AllReady.cons rfl (fun KK hKK => ?_) AllReady.nil
                    go_simp
                    have hal := below_alloc w58 (.cells #[.int .i64 (t58.kind : Nat), .string (bs t58.name), .slice ka58 t58.kids.length kc58, .slice na58 t58.names.length nc58, .int .i64 (t58.at_ : Nat)] 26)
                    have hkl := Kp.of_below (b := r.b) hal
                    obtain ⟨w59, hw59⟩ : ∃ w0, w0 = w58.alloc (.cells #[.int .i64 (t58.kind : Nat), .string (bs t58.name), .slice ka58 t58.kids.length kc58, .slice na58 t58.names.length nc58, .int .i64 (t58.at_ : Nat)] 26) := ⟨_, rfl⟩
                    rw [← hw59] at hal hkl ⊢
                    have hI59 := hI58.below hal
                    have hK59 := chainK hK58 hal
                    have Hw59 : Hid (_ = _) := hw59
                    clear hw59
                    replace hbx := Blk.kp hbx hkl hbx.lt (by omega)
                    replace hkr := KRow.kp hkr hkl (by omega)
                    replace hz58 := TrIn.kp hz58 hkl (by omega)
                    refine hKK _ _ ?_
                    clear hKK KK
                    refine wpAny_ready (rs := [5]) (by kernel_rfl) (by simp) ?_
                    refine AllReady.cons rfl (fun KK hKK => ?_) AllReady.nil
                    refine step_append_tree (n := w1.heap.size) (x := x) (m := w52.heap.size) rfl (.tmp 22) (.tmp 25) rfl rfl rfl hkr hz58 (one_cells _ _ _ _ _ _ _) hown58 hxl58 hms58 (fun j y hj => by rw [Hw59.out]; exact new_cell _ _ _ _ j y rfl hj) (by simp) hK59.size hbx.lt ?_
                    intro v60 w60 hkr60 hg60
                    have hI60 := hI59.grownK hkr hg60 (by omega)
                    have hK60 := hK59.grownK hkr hg60 (Nat.le_refl _)
                    replace hbx := hbx.grownK hkr hg60
                    clear hkr hz58 hg60 Hw59 hal hkl hms58 hown58 hxl58
                    have hkr := hkr60
                    clear hkr60
                    obtain ⟨rA60, rL60, rC60, rfl⟩ := hkr.form2
                    refine hKK _ _ ?_
                    clear hKK KK
                    refine wpAny_ready (rs := [6]) (by kernel_rfl) (by simp) ?_
                    refine AllReady.cons rfl (fun KK hKK => ?_) AllReady.nil
                    go_simp
                    refine hKK _ _ ?_
                    clear hKK KK
                    refine wpAny_ready (rs := [7]) (by kernel_rfl) (by simp) ?_
                    refine AllReady.cons rfl (fun KK hKK => ?_) AllReady.nil
                    obtain ⟨c0, c1, c2, c3, c4, f0, f1, f2, f3, f4⟩ := hbx.cells
                    go_simp
                    clear c0 c1 c2 c3 c4 f0 f1 f2 f3 f4
                    obtain ⟨w61, hw⟩ : ∃ w0, w0 = w60.setCell ⟨x, 2, none⟩ (.slice rA60 rL60 rC60) := ⟨_, rfl⟩
                    rw [← hw]
                    have hI61 : r.In w61 (R58) := by rw [hw]; exact hI60.put (by omega) _
                    have hK61 : Kp r.b w1 w61 := by rw [hw]; exact hK60.setCell (.inr hxge) _
                    have hs61 : w61.heap.size = w60.heap.size := by rw [hw]; exact set_size _ _ _
                    replace hbx := Blk.set2 hbx (.slice rA60 rL60 rC60)
                    replace hkr := KRow.put (i := 2) hkr (.slice rA60 rL60 rC60)
                    rw [← hw] at hbx hkr
                    clear hw
                    refine hKK _ _ ?_
                    clear hKK KK
                    refine wpAny_done (by kernel_rfl) ?_ _
                    have c := must_any [59] (by simp) r w61 (R58) hI61 hwf
                    have hxl62 := hbx.lt
                    have hown62 := hkr.own
                    cases hq : mustP r.e [59] (R58) using Rs.cs with
                    | bad p y =>
                      rw [hq] at c HX
                      go_wp2_with fail
                      refine c.mono ?_
                      rintro e w62 ⟨rfl, hb⟩
                      exact ⟨rfl, rule_bad HX.out.symm hB1 hK61 hlt hb⟩
                    | ok t62 R62 =>
                      rw [hq] at c HX
                      rw [bnd_ok] at HX
                      go_wp2_with fail
                      refine c.mono ?_
                      rintro e w62 ⟨v62, rfl, rfl, hI62, hk62⟩
                      have hK62 := hK61.trans hk62
                      clear c hq
                      replace hbx := Blk.kp hbx hk62 hbx.lt (by omega)
                      replace hkr := KRow.kp hkr hk62 (by omega)
                      obtain ⟨c0, c1, c2, c3, c4, _⟩ := hbx.cells
                      obtain ⟨o0, o1, o2, o3, o4, z0, z1, z2, z3, z4⟩ := Blk.cells (hh1.kp hK62 hn1 hlt)
                      go_wp2_with fail
                      exact ⟨rfl, .agg #[.int .i64 18, .string (bs t4), .slice rA60 rL60 rC60, .slice none 0 0, .int .i64 (atP r.e R : Nat)], by simp [results, Tryd.results36, go_sem, *], rule_end (n := w.heap.size) HX.out.symm hB1 rfl hn1 hI62 hlt hK62 (TrIn.fromB (hkr.tree 18 t4 [] (atP r.e R) (.nil none 0))) _ _ _ _ _⟩
                  · skip
                    go_simp
                    have hal := below_alloc w58 (.cells #[.int .i64 (t58.kind : Nat), .string (bs t58.name), .slice ka58 t58.kids.length kc58, .slice na58 t58.names.length nc58, .int .i64 (t58.at_ : Nat)] 26)
                    have hkl := Kp.of_below (b := r.b) hal
                    obtain ⟨w63, hw63⟩ : ∃ w0, w0 = w58.alloc (.cells #[.int .i64 (t58.kind : Nat), .string (bs t58.name), .slice ka58 t58.kids.length kc58, .slice na58 t58.names.length nc58, .int .i64 (t58.at_ : Nat)] 26) := ⟨_, rfl⟩
                    rw [← hw63] at hal hkl ⊢
                    have hI63 := hI58.below hal
                    have hK63 := chainK hK58 hal
                    have Hw63 : Hid (_ = _) := hw63
                    clear hw63
                    replace hbx := Blk.kp hbx hkl hbx.lt (by omega)
                    replace hkr := KRow.kp hkr hkl (by omega)
                    replace hz58 := TrIn.kp hz58 hkl (by omega)
                    refine hKK _ _ ?_
                    clear hKK KK
                    refine wpAny_ready (rs := [1]) (by kernel_rfl) (by simp) ?_
                    refine AllReady.cons rfl (fun KK hKK => ?_) AllReady.nil
                    obtain ⟨c0, c1, c2, c3, c4, _⟩ := hbx.cells
                    go_simp
                    clear c0 c1 c2 c3 c4
                    refine hKK _ _ ?_
                    clear hKK KK
                    refine wpAny_ready (rs := [5]) (by kernel_rfl) (by simp) ?_
                    refine AllReady.cons rfl (fun KK hKK => ?_) AllReady.nil
                    refine step_append_tree (n := w1.heap.size) (x := x) (m := w52.heap.size) rfl (.tmp 22) (.tmp 25) rfl rfl rfl hkr hz58 (one_cells _ _ _ _ _ _ _) hown58 hxl58 hms58 (fun j y hj => by rw [Hw63.out]; exact new_cell _ _ _ _ j y rfl hj) (by simp) hK63.size hbx.lt ?_
                    intro v64 w64 hkr64 hg64
                    have hI64 := hI63.grownK hkr hg64 (by omega)
                    have hK64 := hK63.grownK hkr hg64 (Nat.le_refl _)
                    replace hbx := hbx.grownK hkr hg64
                    clear hkr hz58 hg64 Hw63 hal hkl hms58 hown58 hxl58
                    have hkr := hkr64
                    clear hkr64
                    obtain ⟨rA64, rL64, rC64, rfl⟩ := hkr.form2
                    refine hKK _ _ ?_
                    clear hKK KK
                    refine wpAny_ready (rs := [6]) (by kernel_rfl) (by simp) ?_
                    refine AllReady.cons rfl (fun KK hKK => ?_) AllReady.nil
                    go_simp
                    refine hKK _ _ ?_
                    clear hKK KK
                    refine wpAny_ready (rs := [7]) (by kernel_rfl) (by simp) ?_
                    refine AllReady.cons rfl (fun KK hKK => ?_) AllReady.nil
                    obtain ⟨c0, c1, c2, c3, c4, f0, f1, f2, f3, f4⟩ := hbx.cells
                    go_simp
                    clear c0 c1 c2 c3 c4 f0 f1 f2 f3 f4
                    obtain ⟨w65, hw⟩ : ∃ w0, w0 = w64.setCell ⟨x, 2, none⟩ (.slice rA64 rL64 rC64) := ⟨_, rfl⟩
                    rw [← hw]
                    have hI65 : r.In w65 (R58) := by rw [hw]; exact hI64.put (by omega) _
                    have hK65 : Kp r.b w1 w65 := by rw [hw]; exact hK64.setCell (.inr hxge) _
                    have hs65 : w65.heap.size = w64.heap.size := by rw [hw]; exact set_size _ _ _
                    replace hbx := Blk.set2 hbx (.slice rA64 rL64 rC64)
                    replace hkr := KRow.put (i := 2) hkr (.slice rA64 rL64 rC64)
                    rw [← hw] at hbx hkr
                    clear hw
                    refine hKK _ _ ?_
                    clear hKK KK
                    refine wpAny_done (by kernel_rfl) ?_ _
                    have c := must_any [59] (by simp) r w65 (R58) hI65 hwf
                    have hxl66 := hbx.lt
                    have hown66 := hkr.own
                    cases hq : mustP r.e [59] (R58) using Rs.cs with
                    | bad p y =>
                      rw [hq] at c HX
                      go_wp2_with fail
                      refine c.mono ?_
                      rintro e w66 ⟨rfl, hb⟩
                      exact ⟨rfl, rule_bad HX.out.symm hB1 hK65 hlt hb⟩
                    | ok t66 R66 =>
                      rw [hq] at c HX
                      rw [bnd_ok] at HX
                      go_wp2_with fail
                      refine c.mono ?_
                      rintro e w66 ⟨v66, rfl, rfl, hI66, hk66⟩
                      have hK66 := hK65.trans hk66
                      clear c hq
                      replace hbx := Blk.kp hbx hk66 hbx.lt (by omega)
                      replace hkr := KRow.kp hkr hk66 (by omega)
                      obtain ⟨c0, c1, c2, c3, c4, _⟩ := hbx.cells
                      obtain ⟨o0, o1, o2, o3, o4, z0, z1, z2, z3, z4⟩ := Blk.cells (hh1.kp hK66 hn1 hlt)
                      go_wp2_with fail
                      exact ⟨rfl, .agg #[.int .i64 18, .string (bs t4), .slice rA64 rL64 rC64, .slice none 0 0, .int .i64 (atP r.e R : Nat)], by simp [results, Tryd.results36, go_sem, *], rule_end (n := w.heap.size) HX.out.symm hB1 rfl hn1 hI66 hlt hK66 (TrIn.fromB (hkr.tree 18 t4 [] (atP r.e R) (.nil none 0))) _ _ _ _ _⟩
end Go.Proofs.YtekcpglapkpenaaDoor
