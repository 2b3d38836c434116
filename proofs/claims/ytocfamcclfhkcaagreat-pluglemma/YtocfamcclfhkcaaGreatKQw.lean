/- The chapter's examples, of terms in the place of variables. -/
import Derived.Deep.RegionHeld3
import Derived.Test.YtocfamcclfhkcaaGreatKQu
import Derived.Test.YtocfamcclfhkcaaGreatKWk
namespace Go.Proofs.YtocfamcclfhkcaaGreat
open Go.RowKit
set_option linter.unusedVariables false
set_option linter.unusedSimpArgs false

set_option maxRecDepth 100000 in
set_option maxHeartbeats 4000000 in
theorem v12_any (n : Int) (w : World) :
    Calls Tryz.prog 22 #[.int .i64 n] w fun e w' => e = .returned (.agg #[.int .i64 1, .int .i64 n, .string ⟨#[]⟩, .slice none 0 0, .slice none 0 0, .slice none 0 0]) ∧ Below w.heap.size w w' := by
  obtain ⟨w1, hw1⟩ : ∃ W, W = w.alloc (.cells #[.int .i64 0, .int .i64 0, .string ⟨#[]⟩, .slice none 0 0, .slice none 0 0, .slice none 0 0] 26) := ⟨_, rfl⟩
  have b1 : Below w.heap.size w w1 := by rw [hw1]; exact belowA _ _
  obtain ⟨X, hX⟩ : ∃ X, X = w.heap.size := ⟨_, rfl⟩
  have s1 : w1.heap.size = X + 1 := by rw [hw1, hX]; simp
  have x1 : Six w1 (X) (.int .i64 0) (.int .i64 0) (.string ⟨#[]⟩) (.slice none 0 0) (.slice none 0 0) (.slice none 0 0) := ⟨by
    rw [hX, hw1]
    have q := heapNew w (.cells #[.int .i64 0, .int .i64 0, .string ⟨#[]⟩, .slice none 0 0, .slice none 0 0, .slice none 0 0] 26)
    try simp only [World.size_alloc] at q
    exact q⟩
  have HW : Hid (_ = _) := hw1
  have HX : Hid (X = w.heap.size) := hX
  have Hb1 : Hid (Below w.heap.size w w1) := b1
  clear hw1 hX b1
  go_enter Tryz.func22, Tryz.ntmps22
  go_upto_region 1 with fail
  rw [← HW.out]
  simp only [← HX.out]
  clear HW
  have zz := x1
  have zz2 := zz.set6 (.int .i64 1) (.int .i64 n) (.string ⟨#[]⟩) (.slice none 0 0) (.slice none 0 0) (.slice none 0 0)
  obtain ⟨o0, o1, o2, o3, o4, o5, ff⟩ := zz.cells
  have f0 := ff 0
  have f1 := ff 1
  have f2 := ff 2
  have f3 := ff 3
  have f4 := ff 4
  have f5 := ff 5
  obtain ⟨w4, hwz⟩ : ∃ W, W = (((((w1.setCell ⟨X, 0, none⟩ (.int .i64 1)).setCell ⟨X, 1, none⟩ (.int .i64 n)).setCell ⟨X, 2, none⟩ (.string ⟨#[]⟩)).setCell ⟨X, 3, none⟩ (.slice none 0 0)).setCell ⟨X, 4, none⟩ (.slice none 0 0)).setCell ⟨X, 5, none⟩ (.slice none 0 0) := ⟨_, rfl⟩
  rw [← hwz] at zz2
  have kz : Kn (fun q => q ≠ X) w1 w4 := by rw [hwz]; exact (((((kn_set _ _ _ _).trans (kn_set _ _ _ _)).trans (kn_set _ _ _ _)).trans (kn_set _ _ _ _)).trans (kn_set _ _ _ _)).trans (kn_set _ _ _ _)
  have hK4 : Below w.heap.size w w4 := Hb1.out.trans (kz.below (fun q hq => by have := HX.out; omega) (by have := Hb1.out.size; omega))
  obtain ⟨h0, h1, h2, h3, h4, h5, _⟩ := zz2.cells
  have Hwz : Hid (_ = _) := hwz
  clear hwz ff kz zz zz2
  go_wp2_with fail
  rw [← Hwz.out]
  exact bodyPost_ret (v := .agg #[.int .i64 1, .int .i64 n, .string ⟨#[]⟩, .slice none 0 0, .slice none 0 0, .slice none 0 0]) (by simp only [results, Tryz.results22]; simp [go_sem, h0, h1, h2, h3, h4, h5]) rfl ⟨rfl, hK4⟩
def tUn : Tm := .mk 3 0 ⟨#[]⟩ [] [] []
def tAp (a b : Tm) : Tm := .mk 6 0 ⟨#[]⟩ [] [a, b] []
def tLa (a : Tm) : Tm := .mk 5 0 ⟨#[]⟩ [] [a] []
theorem pw_e1 : plE 0 (tAp (tV 0) (tV 1)) tUn = 0 ∧ plT 0 (tAp (tV 0) (tV 1)) tUn = tAp tUn (tV 0) := ⟨by decide +kernel, by kernel_rfl⟩
theorem pw_e2 : plE 0 (tLa (tAp (tV 1) (tV 0))) (tV 5) = 0 ∧ plT 0 (tLa (tAp (tV 1) (tV 0))) (tV 5) = tLa (tAp (tV 6) (tV 0)) := ⟨by decide +kernel, by kernel_rfl⟩
theorem pw_e3 : cnP 1 (tAp (tV 1) (tV 1)) 0 = 2 := by decide +kernel
theorem pw_w3 : wrongN true 0 0 (tAp (tV 1) (tV 1)) = 0 := by decide +kernel
theorem pw_b : blk (tAp (tV 0) (tV 1)) ≤ 20000 ∧ blk (tLa (tAp (tV 1) (tV 0))) ≤ 20000 ∧ blk tUn ≤ 20000 ∧ blk (tV 5) ≤ 20000 ∧ blk (tAp (tV 1) (tV 1)) ≤ 20000 ∧ blk (tAp tUn (tV 0)) ≤ 20000 ∧ blk (tLa (tAp (tV 6) (tV 0))) ≤ 20000 := by decide +kernel
theorem pw_s : blk (putT 0 tUn (tAp (tV 0) (tV 1)) 0 0) ≤ 100000 ∧ blk (putT 0 (tV 5) (tLa (tAp (tV 1) (tV 0))) 0 0) ≤ 100000 := by decide +kernel
theorem pk_two {w : World} {o : Nat} {ty : TypeId} {x y : Tm} {u0 u1 u2 u3 u4 u5 v0 v1 v2 v3 v4 v5 : Value} (h : w.heap[o]? = some (.cells #[u0, u1, u2, u3, u4, u5, v0, v1, v2, v3, v4, v5] ty (0, 0))) (hx : TmIn Tt w x (.agg #[u0, u1, u2, u3, u4, u5])) (hy : TmIn Tt w y (.agg #[v0, v1, v2, v3, v4, v5])) :
    KdT Tt w (TmIn Tt w) [x, y] (.slice (some ⟨o, 0, none⟩) 2 2) := by
  have hlt := (Array.getElem?_eq_some_iff.1 h).1
  refine ⟨_, _, rfl, Nat.le_refl _, fun j z hz => ?_⟩
  match j, hz with
  | 0, hz => cases hz; exact ⟨o, 0, u0, u1, u2, u3, u4, u5, rfl, trivial, hlt, hx, by simp [World.cell?, h], by simp [World.cell?, h], by simp [World.cell?, h], by simp [World.cell?, h], by simp [World.cell?, h], by simp [World.cell?, h]⟩
  | 1, hz => cases hz; exact ⟨o, 0, v0, v1, v2, v3, v4, v5, rfl, trivial, hlt, hy, by simp [World.cell?, h], by simp [World.cell?, h], by simp [World.cell?, h], by simp [World.cell?, h], by simp [World.cell?, h], by simp [World.cell?, h]⟩
  | (j + 2), hz => simp at hz
theorem pk_one {w : World} {o : Nat} {ty : TypeId} {x : Tm} {u0 u1 u2 u3 u4 u5 : Value} (h : w.heap[o]? = some (.cells #[u0, u1, u2, u3, u4, u5] ty (0, 0))) (hx : TmIn Tt w x (.agg #[u0, u1, u2, u3, u4, u5])) :
    KdT Tt w (TmIn Tt w) [x] (.slice (some ⟨o, 0, none⟩) 1 1) := by
  have hlt := (Array.getElem?_eq_some_iff.1 h).1
  refine ⟨_, _, rfl, Nat.le_refl _, fun j z hz => ?_⟩
  match j, hz with
  | 0, hz => cases hz; exact ⟨o, 0, u0, u1, u2, u3, u4, u5, rfl, trivial, hlt, hx, by simp [World.cell?, h], by simp [World.cell?, h], by simp [World.cell?, h], by simp [World.cell?, h], by simp [World.cell?, h], by simp [World.cell?, h]⟩
  | (j + 1), hz => simp at hz
theorem un_in (w : World) : TmIn Tt w tUn (.agg #[.int .i64 3, .int .i64 0, .string ⟨#[]⟩, .slice none 0 0, .slice none 0 0, .slice none 0 0]) :=
  .mk _ _ _ _ _ _ _ _ _ ⟨by decide, by decide⟩ ⟨by decide, by decide⟩ (cl_nil0 w) (kd_nil0 w) (sy_nil0 w)
theorem ap_in {w : World} {a b : Tm} {v : Value} (h : KdT Tt w (TmIn Tt w) [a, b] v) : TmIn Tt w (tAp a b) (.agg #[.int .i64 6, .int .i64 0, .string ⟨#[]⟩, .slice none 0 0, v, .slice none 0 0]) :=
  .mk _ _ _ _ _ _ _ _ _ ⟨by decide, by decide⟩ ⟨by decide, by decide⟩ (cl_nil0 w) h (sy_nil0 w)
theorem la_in {w : World} {a : Tm} {v : Value} (h : KdT Tt w (TmIn Tt w) [a] v) : TmIn Tt w (tLa a) (.agg #[.int .i64 5, .int .i64 0, .string ⟨#[]⟩, .slice none 0 0, v, .slice none 0 0]) :=
  .mk _ _ _ _ _ _ _ _ _ ⟨by decide, by decide⟩ ⟨by decide, by decide⟩ (cl_nil0 w) h (sy_nil0 w)
theorem v_in (w : World) (n : Int) (h1 : 0 ≤ n) (h2 : n ≤ 10) : TmIn Tt w (tV n) (.agg #[.int .i64 1, .int .i64 n, .string ⟨#[]⟩, .slice none 0 0, .slice none 0 0, .slice none 0 0]) := tV_in w n ⟨by omega, by omega⟩
set_option maxRecDepth 100000 in
set_option maxHeartbeats 2000000 in
theorem works12_any (hLA : LAll) (w : World) : Calls Tryz.prog 6 #[] w fun e w' => e = .returned (.bool true) ∧ Below w.heap.size w w' := by
  have B0 : Below w.heap.size w w := Below.refl _ _
  go_enter Tryz.func6, Tryz.ntmps6
  go_upto_region 1 with fail
  have cc := v12_any 0 w
  go_wp2_with fail
  refine cc.mono ?_
  rintro e w1 ⟨rfl, bw1⟩
  clear cc
  have Bw1 : Below w.heap.size w w1 := B0.trans (bw1.mono B0.size)
  have cc := v12_any 1 w1
  go_wp2_with fail
  refine cc.mono ?_
  rintro e w2 ⟨rfl, bw2⟩
  clear cc
  have Bw2 : Below w.heap.size w w2 := Bw1.trans (bw2.mono Bw1.size)
  obtain ⟨A, hA⟩ : ∃ q, q = w2.heap.size := ⟨_, rfl⟩
  obtain ⟨w3, hw3⟩ : ∃ W, W = w2.alloc (.cells #[.int .i64 1, .int .i64 0, .string ⟨#[]⟩, .slice none 0 0, .slice none 0 0, .slice none 0 0, .int .i64 1, .int .i64 1, .string ⟨#[]⟩, .slice none 0 0, .slice none 0 0, .slice none 0 0] 26) := ⟨_, rfl⟩
  have bw3 : Below w2.heap.size w2 w3 := by rw [hw3]; exact belowA _ _
  have zA : w3.heap[A]? = some (.cells #[.int .i64 1, .int .i64 0, .string ⟨#[]⟩, .slice none 0 0, .slice none 0 0, .slice none 0 0, .int .i64 1, .int .i64 1, .string ⟨#[]⟩, .slice none 0 0, .slice none 0 0, .slice none 0 0] 26 (0, 0)) := by rw [hw3, hA]; exact heapNew _ _
  have Bw3 : Below w.heap.size w w3 := Bw2.trans (bw3.mono Bw2.size)
  have Hw3 : Hid (_ = _) := hw3
  have HA : Hid (_ = _) := hA
  clear hw3 hA
  have kA := pk_two zA (v_in _ 0 (by omega) (by omega)) (v_in _ 1 (by omega) (by omega))
  have cc := plat_any hLA _ _ 0 ⟨by decide, by decide⟩ _ _ w3 (ap_in kA) (un_in _) pw_b.1 pw_b.2.2.1 (fun _ _ _ => by have := pw_s.1; omega)
  rw [pw_e1.1, pw_e1.2] at cc
  go_wp2_with fail
  simp only [← HA.out]
  rw [← Hw3.out]
  refine cc.mono ?_
  rintro e w10 ⟨v10, rfl, hv10, b10⟩
  clear cc kA zA
  obtain ⟨r1, rc1, k1, kc1, s1, sc1, rfl, ht1⟩ := hv10.form
  have B10 : Below w.heap.size w w10 := Bw3.trans (b10.mono Bw3.size)
  obtain ⟨Y1, hY1⟩ : ∃ Y, Y = w10.heap.size := ⟨_, rfl⟩
  obtain ⟨w11, hw11⟩ : ∃ W, W = w10.alloc (.cells #[.int .i64 6, .int .i64 0, .string ⟨#[]⟩, .slice r1 0 rc1, .slice k1 2 kc1, .slice s1 0 sc1] 26) := ⟨_, rfl⟩
  have b11 : Below w10.heap.size w10 w11 := by rw [hw11]; exact belowA _ _
  have n1 : Six w11 Y1 (.int .i64 6) (.int .i64 0) (.string ⟨#[]⟩) (.slice r1 0 rc1) (.slice k1 2 kc1) (.slice s1 0 sc1) := ⟨by rw [hw11, hY1]; exact heapNew _ _⟩
  have B11 : Below w.heap.size w w11 := B10.trans (b11.mono B10.size)
  have HT1 : Hid (∀ V, Below w11.heap.size w11 V → TmIn Tt V (tAp tUn (tV 0)) (.agg #[.int .i64 6, .int .i64 0, .string ⟨#[]⟩, .slice r1 0 rc1, .slice k1 2 kc1, .slice s1 0 sc1]) ∧ Six V Y1 (.int .i64 6) (.int .i64 0) (.string ⟨#[]⟩) (.slice r1 0 rc1) (.slice k1 2 kc1) (.slice s1 0 sc1)) := fun V q => ⟨(((ht1.value.up fun _ _ => trivial).blw b11).blw q), n1.blw q⟩
  have H11 : Hid (_ = _) := hw11
  have HY1 : Hid (Y1 = w10.heap.size) := hY1
  clear hw11 hY1 ht1 hv10 n1
  simp only [tAp, List.length_cons, List.length_nil, Nat.zero_add]
  go_upto_region 2 with fail
  rw [← H11.out]
  simp only [← HY1.out]
  clear H11
  have Bw11 := B11
  have cc := v12_any 1 w11
  go_wp2_with fail
  refine cc.mono ?_
  rintro e w21 ⟨rfl, bw21⟩
  clear cc
  have Bw21 : Below w.heap.size w w21 := Bw11.trans (bw21.mono Bw11.size)
  have cc := v12_any 0 w21
  go_wp2_with fail
  refine cc.mono ?_
  rintro e w22 ⟨rfl, bw22⟩
  clear cc
  have Bw22 : Below w.heap.size w w22 := Bw21.trans (bw22.mono Bw21.size)
  obtain ⟨A2, hA2⟩ : ∃ q, q = w22.heap.size := ⟨_, rfl⟩
  obtain ⟨w23, hw23⟩ : ∃ W, W = w22.alloc (.cells #[.int .i64 1, .int .i64 1, .string ⟨#[]⟩, .slice none 0 0, .slice none 0 0, .slice none 0 0, .int .i64 1, .int .i64 0, .string ⟨#[]⟩, .slice none 0 0, .slice none 0 0, .slice none 0 0] 26) := ⟨_, rfl⟩
  have bw23 : Below w22.heap.size w22 w23 := by rw [hw23]; exact belowA _ _
  have zA2 : w23.heap[A2]? = some (.cells #[.int .i64 1, .int .i64 1, .string ⟨#[]⟩, .slice none 0 0, .slice none 0 0, .slice none 0 0, .int .i64 1, .int .i64 0, .string ⟨#[]⟩, .slice none 0 0, .slice none 0 0, .slice none 0 0] 26 (0, 0)) := by rw [hw23, hA2]; exact heapNew _ _
  have Bw23 : Below w.heap.size w w23 := Bw22.trans (bw23.mono Bw22.size)
  have Hw23 : Hid (_ = _) := hw23
  have HA2 : Hid (_ = _) := hA2
  clear hw23 hA2
  have kA2 := pk_two zA2 (v_in _ 1 (by omega) (by omega)) (v_in _ 0 (by omega) (by omega))
  obtain ⟨A3, hA3⟩ : ∃ q, q = w23.heap.size := ⟨_, rfl⟩
  obtain ⟨w24, hw24⟩ : ∃ W, W = w23.alloc (.cells #[.int .i64 6, .int .i64 0, .string ⟨#[]⟩, .slice none 0 0, .slice (some ⟨A2, 0, none⟩) 2 2, .slice none 0 0] 26) := ⟨_, rfl⟩
  have bw24 : Below w23.heap.size w23 w24 := by rw [hw24]; exact belowA _ _
  have zA3 : w24.heap[A3]? = some (.cells #[.int .i64 6, .int .i64 0, .string ⟨#[]⟩, .slice none 0 0, .slice (some ⟨A2, 0, none⟩) 2 2, .slice none 0 0] 26 (0, 0)) := by rw [hw24, hA3]; exact heapNew _ _
  have Bw24 : Below w.heap.size w w24 := Bw23.trans (bw24.mono Bw23.size)
  have Hw24 : Hid (_ = _) := hw24
  have HA3 : Hid (_ = _) := hA3
  clear hw24 hA3
  have HA3x : Hid (A2 + 1 = A3) := by show _ = _; rw [HA3.out, Hw23.out, World.size_alloc, HA2.out]
  have kA3 := pk_one zA3 ((ap_in kA2).blw bw24)
  have cc := v12_any 5 w24
  go_wp2_with fail
  simp only [← HA2.out]
  rw [← Hw23.out]
  simp only [HA3x.out]
  rw [← Hw24.out]
  refine cc.mono ?_
  rintro e w30 ⟨rfl, b30⟩
  clear cc
  have B30 : Below w.heap.size w w30 := Bw24.trans (b30.mono Bw24.size)
  have cc := plat_any hLA _ _ 0 ⟨by decide, by decide⟩ _ _ w30 ((la_in kA3).blw b30) (v_in _ 5 (by omega) (by omega)) pw_b.2.1 pw_b.2.2.2.1 (fun _ _ _ => by have := pw_s.2; omega)
  rw [pw_e2.1, pw_e2.2] at cc
  go_wp2_with fail
  refine cc.mono ?_
  rintro e w31 ⟨v31, rfl, hv31, b31⟩
  clear cc kA2 zA2 kA3 zA3
  obtain ⟨r2, rc2, k2, kc2, s2, sc2, rfl, ht2⟩ := hv31.form
  have B31 : Below w.heap.size w w31 := B30.trans (b31.mono B30.size)
  obtain ⟨Y2, hY2⟩ : ∃ Y, Y = w31.heap.size := ⟨_, rfl⟩
  obtain ⟨w32, hw32⟩ : ∃ W, W = w31.alloc (.cells #[.int .i64 5, .int .i64 0, .string ⟨#[]⟩, .slice r2 0 rc2, .slice k2 1 kc2, .slice s2 0 sc2] 26) := ⟨_, rfl⟩
  have b32 : Below w31.heap.size w31 w32 := by rw [hw32]; exact belowA _ _
  have n2 : Six w32 Y2 (.int .i64 5) (.int .i64 0) (.string ⟨#[]⟩) (.slice r2 0 rc2) (.slice k2 1 kc2) (.slice s2 0 sc2) := ⟨by rw [hw32, hY2]; exact heapNew _ _⟩
  have B32 : Below w.heap.size w w32 := B31.trans (b32.mono B31.size)
  have HT2 : Hid (∀ V, Below w32.heap.size w32 V → TmIn Tt V (tLa (tAp (tV 6) (tV 0))) (.agg #[.int .i64 5, .int .i64 0, .string ⟨#[]⟩, .slice r2 0 rc2, .slice k2 1 kc2, .slice s2 0 sc2]) ∧ Six V Y2 (.int .i64 5) (.int .i64 0) (.string ⟨#[]⟩) (.slice r2 0 rc2) (.slice k2 1 kc2) (.slice s2 0 sc2)) := fun V q => ⟨(((ht2.value.up fun _ _ => trivial).blw b32).blw q), n2.blw q⟩
  have H32 : Hid (_ = _) := hw32
  have HY2 : Hid (Y2 = w31.heap.size) := hY2
  have b1132 : Below w11.heap.size w11 w32 := bchain bw21 (bchain bw22 (bchain bw23 (bchain bw24 (bchain b30 (bchain b31 b32)))))
  clear hw32 hY2 ht2 hv31 n2
  simp only [tLa, List.length_cons, List.length_nil, Nat.zero_add]
  go_upto_region 3 with fail
  rw [← H32.out]
  simp only [← HY2.out]
  clear H32
  have Bw32 := B32
  have cc := v12_any 1 w32
  go_wp2_with fail
  refine cc.mono ?_
  rintro e w41 ⟨rfl, bw41⟩
  clear cc
  have Bw41 : Below w.heap.size w w41 := Bw32.trans (bw41.mono Bw32.size)
  have cc := v12_any 1 w41
  go_wp2_with fail
  refine cc.mono ?_
  rintro e w42 ⟨rfl, bw42⟩
  clear cc
  have Bw42 : Below w.heap.size w w42 := Bw41.trans (bw42.mono Bw41.size)
  obtain ⟨A4, hA4⟩ : ∃ q, q = w42.heap.size := ⟨_, rfl⟩
  obtain ⟨w43, hw43⟩ : ∃ W, W = w42.alloc (.cells #[.int .i64 1, .int .i64 1, .string ⟨#[]⟩, .slice none 0 0, .slice none 0 0, .slice none 0 0, .int .i64 1, .int .i64 1, .string ⟨#[]⟩, .slice none 0 0, .slice none 0 0, .slice none 0 0] 26) := ⟨_, rfl⟩
  have bw43 : Below w42.heap.size w42 w43 := by rw [hw43]; exact belowA _ _
  have zA4 : w43.heap[A4]? = some (.cells #[.int .i64 1, .int .i64 1, .string ⟨#[]⟩, .slice none 0 0, .slice none 0 0, .slice none 0 0, .int .i64 1, .int .i64 1, .string ⟨#[]⟩, .slice none 0 0, .slice none 0 0, .slice none 0 0] 26 (0, 0)) := by rw [hw43, hA4]; exact heapNew _ _
  have Bw43 : Below w.heap.size w w43 := Bw42.trans (bw43.mono Bw42.size)
  have Hw43 : Hid (_ = _) := hw43
  have HA4 : Hid (_ = _) := hA4
  clear hw43 hA4
  have kA4 := pk_two zA4 (v_in _ 1 (by omega) (by omega)) (v_in _ 1 (by omega) (by omega))
  have cc := plcount_any _ 1 ⟨by decide, by decide⟩ (by decide) _ w43 (ap_in kA4) pw_b.2.2.2.2.1 pw_w3
  rw [pw_e3] at cc
  go_wp2_with fail
  simp only [← HA4.out]
  rw [← Hw43.out]
  refine cc.mono ?_
  rintro e w50 ⟨rfl, b50⟩
  clear cc kA4 zA4
  have B50 : Below w.heap.size w w50 := Bw43.trans (b50.mono Bw43.size)
  have b3250 : Below w32.heap.size w32 w50 := bchain bw41 (bchain bw42 (bchain bw43 b50))
  go_upto_region 4 with fail
  have HS : Hid (∀ V, Below w50.heap.size w50 V → (TmIn Tt V (tAp tUn (tV 0)) (.agg #[.int .i64 6, .int .i64 0, .string ⟨#[]⟩, .slice r1 0 rc1, .slice k1 2 kc1, .slice s1 0 sc1]) ∧ Six V Y1 (.int .i64 6) (.int .i64 0) (.string ⟨#[]⟩) (.slice r1 0 rc1) (.slice k1 2 kc1) (.slice s1 0 sc1)) ∧ (TmIn Tt V (tLa (tAp (tV 6) (tV 0))) (.agg #[.int .i64 5, .int .i64 0, .string ⟨#[]⟩, .slice r2 0 rc2, .slice k2 1 kc2, .slice s2 0 sc2]) ∧ Six V Y2 (.int .i64 5) (.int .i64 0) (.string ⟨#[]⟩) (.slice r2 0 rc2) (.slice k2 1 kc2) (.slice s2 0 sc2))) := fun V q => ⟨HT1.out V (bchain b1132 (bchain b3250 q)), HT2.out V (bchain b3250 q)⟩
  refine wp_region_held_drew (S := fun V => Below w50.heap.size w50 V) (by kernel_rfl) ((Below.refl _ _).drew) (fun hS => ?_)
  obtain ⟨wd, hwd⟩ : ∃ V, V = w50.drew := ⟨_, rfl⟩
  rw [← hwd] at hS ⊢
  clear hwd
  refine wpAnyH_take (i := 0) (v := .int .i64 0) rfl (by kernel_rfl) (by kernel_rfl) (by kernel_rfl) (fun _ _ _ h => h) (Or.inl ⟨by rfl, fun w hS => by go_simp⟩) hS ?_
  try simp only [Act.put, List.getElem_toArray, List.getElem_cons_zero, List.getElem_cons_succ, List.setIfInBounds_toArray, List.set_cons_zero, List.set_cons_succ]
  refine wpAnyH_take (i := 1) (v := .bool true) rfl (by kernel_rfl) (by kernel_rfl) (by kernel_rfl) (fun _ _ _ h => h) (Or.inl ⟨by rfl, fun w hS => by go_simp⟩) hS ?_
  try simp only [Act.put, List.getElem_toArray, List.getElem_cons_zero, List.getElem_cons_succ, List.setIfInBounds_toArray, List.set_cons_zero, List.set_cons_succ]
  refine wpAnyH_take (i := 2) (v := .bool true) rfl (by kernel_rfl) (by kernel_rfl) (by kernel_rfl) (fun _ _ _ h => h) (Or.inl ⟨by rfl, fun w hS => by go_simp⟩) hS ?_
  try simp only [Act.put, List.getElem_toArray, List.getElem_cons_zero, List.getElem_cons_succ, List.setIfInBounds_toArray, List.set_cons_zero, List.set_cons_succ]
  refine wpAnyH_take (i := 3) (v := .int .i64 0) rfl (by kernel_rfl) (by kernel_rfl) (by kernel_rfl) (fun _ _ _ h => h) (Or.inl ⟨by rfl, fun w hS => by go_simp⟩) hS ?_
  try simp only [Act.put, List.getElem_toArray, List.getElem_cons_zero, List.getElem_cons_succ, List.setIfInBounds_toArray, List.set_cons_zero, List.set_cons_succ]
  refine wpAnyH_take (i := 4) (v := .bool true) rfl (by kernel_rfl) (by kernel_rfl) (by kernel_rfl) (fun _ _ _ h => h) (Or.inl ⟨by rfl, fun w hS => by go_simp⟩) hS ?_
  try simp only [Act.put, List.getElem_toArray, List.getElem_cons_zero, List.getElem_cons_succ, List.setIfInBounds_toArray, List.set_cons_zero, List.set_cons_succ]
  refine wpAnyH_take (i := 5) (v := .bool true) rfl (by kernel_rfl) (by kernel_rfl) (by kernel_rfl) (fun _ _ _ h => h) (Or.inl ⟨by rfl, fun w hS => by go_simp⟩) hS ?_
  try simp only [Act.put, List.getElem_toArray, List.getElem_cons_zero, List.getElem_cons_succ, List.setIfInBounds_toArray, List.set_cons_zero, List.set_cons_succ]
  refine wpAnyH_take (i := 6) (v := .bool true) rfl (by kernel_rfl) (by kernel_rfl) (by kernel_rfl) (fun _ _ _ h => h) (Or.inl ⟨by rfl, fun w hS => by go_simp⟩) hS ?_
  try simp only [Act.put, List.getElem_toArray, List.getElem_cons_zero, List.getElem_cons_succ, List.setIfInBounds_toArray, List.set_cons_zero, List.set_cons_succ]
  refine wpAnyH_take (i := 7) (v := .agg #[.int .i64 6, .int .i64 0, .string ⟨#[]⟩, .slice r1 0 rc1, .slice k1 2 kc1, .slice s1 0 sc1]) rfl (by kernel_rfl) (by kernel_rfl) (by kernel_rfl) (fun _ _ _ h => h) (Or.inl ⟨by rfl, fun w hS => by obtain ⟨y0, y1, y2, y3, y4, y5, _⟩ := (HS.out w hS).1.2.cells; go_simp⟩) hS ?_
  try simp only [Act.put, List.getElem_toArray, List.getElem_cons_zero, List.getElem_cons_succ, List.setIfInBounds_toArray, List.set_cons_zero, List.set_cons_succ]
  refine wpAnyH_take (i := 8) (v := .agg #[.int .i64 3, .int .i64 0, .string ⟨#[]⟩, .slice none 0 0, .slice none 0 0, .slice none 0 0]) rfl (by kernel_rfl) (by kernel_rfl) (by kernel_rfl) (fun _ _ _ h => h) (Or.inl ⟨by rfl, fun w hS => by go_simp⟩) hS ?_
  try simp only [Act.put, List.getElem_toArray, List.getElem_cons_zero, List.getElem_cons_succ, List.setIfInBounds_toArray, List.set_cons_zero, List.set_cons_succ]
  refine wpAnyH_ready (rs := [9]) (by kernel_rfl) (by simp) ?_
  refine ready_cons rfl (fun KK hKK => ?_) AllReadyH.nil
  refine ⟨?_⟩
  have cc := v12_any 0 wd
  go_simp
  refine cc.mono ?_
  rintro e u9 ⟨rfl, bu9⟩
  clear cc
  have qu9 : Below w50.heap.size w50 u9 := hS.trans (bu9.mono hS.size)
  refine hKK.out _ _ qu9 (fun hS1 => ?_)
  clear hKK KK
  try simp only [Act.put, List.getElem_toArray, List.getElem_cons_zero, List.getElem_cons_succ, List.setIfInBounds_toArray, List.set_cons_zero, List.set_cons_succ]
  refine wpAnyH_ready (rs := [10]) (by kernel_rfl) (by simp) ?_
  refine ready_cons rfl (fun KK hKK => ?_) AllReadyH.nil
  obtain ⟨C1, hC1⟩ : ∃ q, q = u9.heap.size := ⟨_, rfl⟩
  obtain ⟨u10, hu10⟩ : ∃ W, W = u9.alloc (.cells #[.int .i64 3, .int .i64 0, .string ⟨#[]⟩, .slice none 0 0, .slice none 0 0, .slice none 0 0, .int .i64 1, .int .i64 0, .string ⟨#[]⟩, .slice none 0 0, .slice none 0 0, .slice none 0 0] 26) := ⟨_, rfl⟩
  have bu10 : Below u9.heap.size u9 u10 := by rw [hu10]; exact belowA _ _
  have zC1 : u10.heap[C1]? = some (.cells #[.int .i64 3, .int .i64 0, .string ⟨#[]⟩, .slice none 0 0, .slice none 0 0, .slice none 0 0, .int .i64 1, .int .i64 0, .string ⟨#[]⟩, .slice none 0 0, .slice none 0 0, .slice none 0 0] 26 (0, 0)) := by rw [hu10, hC1]; exact heapNew _ _
  have kC1 := pk_two zC1 (un_in _) (v_in _ 0 (by omega) (by omega))
  have qu10 : Below w50.heap.size w50 u10 := hS1.trans (bu10.mono hS1.size)
  have Hu10 : Hid (_ = _) := hu10
  have HC1 : Hid (_ = _) := hC1
  clear hu10 hC1
  refine ⟨?_⟩
  go_simp
  rw [← Hu10.out]
  try simp only [← HC1.out]
  refine hKK.out _ _ qu10 (fun hS2 => ?_)
  clear hKK KK
  try simp only [Act.put, List.getElem_toArray, List.getElem_cons_zero, List.getElem_cons_succ, List.setIfInBounds_toArray, List.set_cons_zero, List.set_cons_succ]
  refine wpAnyH_take (i := 11) (v := .agg #[.int .i64 6, .int .i64 0, .string ⟨#[]⟩, .slice none 0 0, .slice (some ⟨C1, 0, none⟩) 2 2, .slice none 0 0]) rfl (by kernel_rfl) (by kernel_rfl) (by kernel_rfl) (fun _ _ _ h => h) (Or.inl ⟨by rfl, fun w hS => by go_simp⟩) hS2 ?_
  try simp only [Act.put, List.getElem_toArray, List.getElem_cons_zero, List.getElem_cons_succ, List.setIfInBounds_toArray, List.set_cons_zero, List.set_cons_succ]
  refine wpAnyH_ready (rs := [12]) (by kernel_rfl) (by simp) ?_
  refine ready_cons rfl (fun KK hKK => ?_) AllReadyH.nil
  refine ⟨?_⟩
  have cc := rsame_any 20000 _ _ true _ _ u10 (HS.out _ hS2).1.1 (ap_in kC1) (by have := pw_b.2.2.2.2.2.1; omega) (by have := pw_b; omega) ⟨fun _ => rfl, fun _ => rfl⟩
  go_simp
  refine cc.mono ?_
  rintro e u12 ⟨rfl, bu12⟩
  clear cc
  have qu12 : Below w50.heap.size w50 u12 := hS2.trans (bu12.mono hS2.size)
  refine hKK.out _ _ qu12 (fun hS3 => ?_)
  clear hKK KK
  try simp only [Act.put, List.getElem_toArray, List.getElem_cons_zero, List.getElem_cons_succ, List.setIfInBounds_toArray, List.set_cons_zero, List.set_cons_succ]
  refine wpAnyH_take (i := 13) (v := .bool true) rfl (by kernel_rfl) (by kernel_rfl) (by kernel_rfl) (fun _ _ _ h => h) (Or.inl ⟨by rfl, fun w hS => by go_simp⟩) hS3 ?_
  try simp only [Act.put, List.getElem_toArray, List.getElem_cons_zero, List.getElem_cons_succ, List.setIfInBounds_toArray, List.set_cons_zero, List.set_cons_succ]
  refine wpAnyH_take (i := 14) (v := .bool true) rfl (by kernel_rfl) (by kernel_rfl) (by kernel_rfl) (fun _ _ _ h => h) (Or.inl ⟨by rfl, fun w hS => by go_simp⟩) hS3 ?_
  try simp only [Act.put, List.getElem_toArray, List.getElem_cons_zero, List.getElem_cons_succ, List.setIfInBounds_toArray, List.set_cons_zero, List.set_cons_succ]
  refine wpAnyH_take (i := 15) (v := .agg #[.int .i64 5, .int .i64 0, .string ⟨#[]⟩, .slice r2 0 rc2, .slice k2 1 kc2, .slice s2 0 sc2]) rfl (by kernel_rfl) (by kernel_rfl) (by kernel_rfl) (fun _ _ _ h => h) (Or.inl ⟨by rfl, fun w hS => by obtain ⟨y0, y1, y2, y3, y4, y5, _⟩ := (HS.out w hS).2.2.cells; go_simp⟩) hS3 ?_
  try simp only [Act.put, List.getElem_toArray, List.getElem_cons_zero, List.getElem_cons_succ, List.setIfInBounds_toArray, List.set_cons_zero, List.set_cons_succ]
  refine wpAnyH_ready (rs := [16]) (by kernel_rfl) (by simp) ?_
  refine ready_cons rfl (fun KK hKK => ?_) AllReadyH.nil
  refine ⟨?_⟩
  have cc := v12_any 6 u12
  go_simp
  refine cc.mono ?_
  rintro e u16 ⟨rfl, bu16⟩
  clear cc
  have qu16 : Below w50.heap.size w50 u16 := hS3.trans (bu16.mono hS3.size)
  refine hKK.out _ _ qu16 (fun hS4 => ?_)
  clear hKK KK
  try simp only [Act.put, List.getElem_toArray, List.getElem_cons_zero, List.getElem_cons_succ, List.setIfInBounds_toArray, List.set_cons_zero, List.set_cons_succ]
  refine wpAnyH_ready (rs := [17]) (by kernel_rfl) (by simp) ?_
  refine ready_cons rfl (fun KK hKK => ?_) AllReadyH.nil
  refine ⟨?_⟩
  have cc := v12_any 0 u16
  go_simp
  refine cc.mono ?_
  rintro e u17 ⟨rfl, bu17⟩
  clear cc
  have qu17 : Below w50.heap.size w50 u17 := hS4.trans (bu17.mono hS4.size)
  refine hKK.out _ _ qu17 (fun hS5 => ?_)
  clear hKK KK
  try simp only [Act.put, List.getElem_toArray, List.getElem_cons_zero, List.getElem_cons_succ, List.setIfInBounds_toArray, List.set_cons_zero, List.set_cons_succ]
  refine wpAnyH_ready (rs := [18]) (by kernel_rfl) (by simp) ?_
  refine ready_cons rfl (fun KK hKK => ?_) AllReadyH.nil
  obtain ⟨C2, hC2⟩ : ∃ q, q = u17.heap.size := ⟨_, rfl⟩
  obtain ⟨u18, hu18⟩ : ∃ W, W = u17.alloc (.cells #[.int .i64 1, .int .i64 6, .string ⟨#[]⟩, .slice none 0 0, .slice none 0 0, .slice none 0 0, .int .i64 1, .int .i64 0, .string ⟨#[]⟩, .slice none 0 0, .slice none 0 0, .slice none 0 0] 26) := ⟨_, rfl⟩
  have bu18 : Below u17.heap.size u17 u18 := by rw [hu18]; exact belowA _ _
  have zC2 : u18.heap[C2]? = some (.cells #[.int .i64 1, .int .i64 6, .string ⟨#[]⟩, .slice none 0 0, .slice none 0 0, .slice none 0 0, .int .i64 1, .int .i64 0, .string ⟨#[]⟩, .slice none 0 0, .slice none 0 0, .slice none 0 0] 26 (0, 0)) := by rw [hu18, hC2]; exact heapNew _ _
  have kC2 := pk_two zC2 (v_in _ 6 (by omega) (by omega)) (v_in _ 0 (by omega) (by omega))
  have qu18 : Below w50.heap.size w50 u18 := hS5.trans (bu18.mono hS5.size)
  have Hu18 : Hid (_ = _) := hu18
  have HC2 : Hid (_ = _) := hC2
  clear hu18 hC2
  refine ⟨?_⟩
  go_simp
  rw [← Hu18.out]
  try simp only [← HC2.out]
  refine hKK.out _ _ qu18 (fun hS6 => ?_)
  clear hKK KK
  try simp only [Act.put, List.getElem_toArray, List.getElem_cons_zero, List.getElem_cons_succ, List.setIfInBounds_toArray, List.set_cons_zero, List.set_cons_succ]
  refine wpAnyH_take (i := 19) (v := .agg #[.int .i64 6, .int .i64 0, .string ⟨#[]⟩, .slice none 0 0, .slice (some ⟨C2, 0, none⟩) 2 2, .slice none 0 0]) rfl (by kernel_rfl) (by kernel_rfl) (by kernel_rfl) (fun _ _ _ h => h) (Or.inl ⟨by rfl, fun w hS => by go_simp⟩) hS6 ?_
  try simp only [Act.put, List.getElem_toArray, List.getElem_cons_zero, List.getElem_cons_succ, List.setIfInBounds_toArray, List.set_cons_zero, List.set_cons_succ]
  refine wpAnyH_ready (rs := [20]) (by kernel_rfl) (by simp) ?_
  refine ready_cons rfl (fun KK hKK => ?_) AllReadyH.nil
  obtain ⟨C3, hC3⟩ : ∃ q, q = u18.heap.size := ⟨_, rfl⟩
  obtain ⟨u20, hu20⟩ : ∃ W, W = u18.alloc (.cells #[.int .i64 6, .int .i64 0, .string ⟨#[]⟩, .slice none 0 0, .slice (some ⟨C2, 0, none⟩) 2 2, .slice none 0 0] 26) := ⟨_, rfl⟩
  have bu20 : Below u18.heap.size u18 u20 := by rw [hu20]; exact belowA _ _
  have zC3 : u20.heap[C3]? = some (.cells #[.int .i64 6, .int .i64 0, .string ⟨#[]⟩, .slice none 0 0, .slice (some ⟨C2, 0, none⟩) 2 2, .slice none 0 0] 26 (0, 0)) := by rw [hu20, hC3]; exact heapNew _ _
  have kC3 := pk_one zC3 ((ap_in kC2).blw bu20)
  have qu20 : Below w50.heap.size w50 u20 := hS6.trans (bu20.mono hS6.size)
  have Hu20 : Hid (_ = _) := hu20
  have HC3 : Hid (_ = _) := hC3
  clear hu20 hC3
  refine ⟨?_⟩
  go_simp
  rw [← Hu20.out]
  try simp only [← HC3.out]
  refine hKK.out _ _ qu20 (fun hS7 => ?_)
  clear hKK KK
  try simp only [Act.put, List.getElem_toArray, List.getElem_cons_zero, List.getElem_cons_succ, List.setIfInBounds_toArray, List.set_cons_zero, List.set_cons_succ]
  refine wpAnyH_take (i := 21) (v := .agg #[.int .i64 5, .int .i64 0, .string ⟨#[]⟩, .slice none 0 0, .slice (some ⟨C3, 0, none⟩) 1 1, .slice none 0 0]) rfl (by kernel_rfl) (by kernel_rfl) (by kernel_rfl) (fun _ _ _ h => h) (Or.inl ⟨by rfl, fun w hS => by go_simp⟩) hS7 ?_
  try simp only [Act.put, List.getElem_toArray, List.getElem_cons_zero, List.getElem_cons_succ, List.setIfInBounds_toArray, List.set_cons_zero, List.set_cons_succ]
  refine wpAnyH_ready (rs := [22]) (by kernel_rfl) (by simp) ?_
  refine ready_cons rfl (fun KK hKK => ?_) AllReadyH.nil
  refine ⟨?_⟩
  have cc := rsame_any 20000 _ _ true _ _ u20 (HS.out _ hS7).2.1 (la_in kC3) (by have := pw_b.2.2.2.2.2.2; omega) (by have := pw_b; omega) ⟨fun _ => rfl, fun _ => rfl⟩
  go_simp
  refine cc.mono ?_
  rintro e u22 ⟨rfl, bu22⟩
  clear cc
  have qu22 : Below w50.heap.size w50 u22 := hS7.trans (bu22.mono hS7.size)
  refine hKK.out _ _ qu22 (fun hS8 => ?_)
  clear hKK KK
  try simp only [Act.put, List.getElem_toArray, List.getElem_cons_zero, List.getElem_cons_succ, List.setIfInBounds_toArray, List.set_cons_zero, List.set_cons_succ]
  refine wpAnyH_take (i := 23) (v := .bool true) rfl (by kernel_rfl) (by kernel_rfl) (by kernel_rfl) (fun _ _ _ h => h) (Or.inl ⟨by rfl, fun w hS => by go_simp⟩) hS8 ?_
  try simp only [Act.put, List.getElem_toArray, List.getElem_cons_zero, List.getElem_cons_succ, List.setIfInBounds_toArray, List.set_cons_zero, List.set_cons_succ]
  refine wpAnyH_take (i := 24) (v := .bool true) rfl (by kernel_rfl) (by kernel_rfl) (by kernel_rfl) (fun _ _ _ h => h) (Or.inl ⟨by rfl, fun w hS => by go_simp⟩) hS8 ?_
  try simp only [Act.put, List.getElem_toArray, List.getElem_cons_zero, List.getElem_cons_succ, List.setIfInBounds_toArray, List.set_cons_zero, List.set_cons_succ]
  refine wpAnyH_take (i := 25) (v := .int .i64 0) rfl (by kernel_rfl) (by kernel_rfl) (by kernel_rfl) (fun _ _ _ h => h) (Or.inl ⟨by rfl, fun w hS => by go_simp⟩) hS8 ?_
  try simp only [Act.put, List.getElem_toArray, List.getElem_cons_zero, List.getElem_cons_succ, List.setIfInBounds_toArray, List.set_cons_zero, List.set_cons_succ]
  refine wpAnyH_take (i := 26) (v := .bool true) rfl (by kernel_rfl) (by kernel_rfl) (by kernel_rfl) (fun _ _ _ h => h) (Or.inl ⟨by rfl, fun w hS => by go_simp⟩) hS8 ?_
  try simp only [Act.put, List.getElem_toArray, List.getElem_cons_zero, List.getElem_cons_succ, List.setIfInBounds_toArray, List.set_cons_zero, List.set_cons_succ]
  refine wpAnyH_take (i := 27) (v := .bool true) rfl (by kernel_rfl) (by kernel_rfl) (by kernel_rfl) (fun _ _ _ h => h) (Or.inl ⟨by rfl, fun w hS => by go_simp⟩) hS8 ?_
  try simp only [Act.put, List.getElem_toArray, List.getElem_cons_zero, List.getElem_cons_succ, List.setIfInBounds_toArray, List.set_cons_zero, List.set_cons_succ]
  refine wpAnyH_take (i := 28) (v := .bool true) rfl (by kernel_rfl) (by kernel_rfl) (by kernel_rfl) (fun _ _ _ h => h) (Or.inl ⟨by rfl, fun w hS => by go_simp⟩) hS8 ?_
  try simp only [Act.put, List.getElem_toArray, List.getElem_cons_zero, List.getElem_cons_succ, List.setIfInBounds_toArray, List.set_cons_zero, List.set_cons_succ]
  refine wpAnyH_take (i := 29) (v := .int .i64 2) rfl (by kernel_rfl) (by kernel_rfl) (by kernel_rfl) (fun _ _ _ h => h) (Or.inl ⟨by rfl, fun w hS => by go_simp⟩) hS8 ?_
  try simp only [Act.put, List.getElem_toArray, List.getElem_cons_zero, List.getElem_cons_succ, List.setIfInBounds_toArray, List.set_cons_zero, List.set_cons_succ]
  refine wpAnyH_take (i := 30) (v := .bool true) rfl (by kernel_rfl) (by kernel_rfl) (by kernel_rfl) (fun _ _ _ h => h) (Or.inl ⟨by rfl, fun w hS => by go_simp⟩) hS8 ?_
  try simp only [Act.put, List.getElem_toArray, List.getElem_cons_zero, List.getElem_cons_succ, List.setIfInBounds_toArray, List.set_cons_zero, List.set_cons_succ]
  refine wpAnyH_take (i := 31) (v := .bool true) rfl (by kernel_rfl) (by kernel_rfl) (by kernel_rfl) (fun _ _ _ h => h) (Or.inl ⟨by rfl, fun w hS => by go_simp⟩) hS8 ?_
  try simp only [Act.put, List.getElem_toArray, List.getElem_cons_zero, List.getElem_cons_succ, List.setIfInBounds_toArray, List.set_cons_zero, List.set_cons_succ]
  refine wpAnyH_take (i := 32) (v := .bool true) rfl (by kernel_rfl) (by kernel_rfl) (by kernel_rfl) (fun _ _ _ h => h) (Or.inl ⟨by rfl, fun w hS => by go_simp⟩) hS8 ?_
  try simp only [Act.put, List.getElem_toArray, List.getElem_cons_zero, List.getElem_cons_succ, List.setIfInBounds_toArray, List.set_cons_zero, List.set_cons_succ]
  refine wpAnyH_done (by kernel_rfl) ?_ _
  go_wp2_with fail
  go_ret
  exact ⟨rfl, B50.trans (qu22.mono B50.size)⟩
end Go.Proofs.YtocfamcclfhkcaaGreat

