/- What was lifted from a place on by one is as it was, whatever is put there. A term that was lifted from a variable on is as it was ahead of that, whatever is put there. -/
import Derived.Test.YtocfamcclfhkcaaGreatKPe
import Derived.Test.YtocfamcclfhkcaaGreatKPc
import Derived.Test.YtocfamcclfhkcaaGreatKLg
import Derived.Test.YtocfamcclfhkcaaGreatYLfN
import Derived.Test.YtocfamcclfhkcaaGreatYLfF
import Derived.Test.YtocfamcclfhkcaaGreatKPw
import Derived.Test.YtocfamcclfhkcaaGreatYBulk
import Derived.Test.YtocfamcclfhkcaaGreatYLfD
namespace Go.Proofs.YtocfamcclfhkcaaGreat
open Go.RowKit
set_option linter.unusedVariables false
set_option linter.unusedSimpArgs false

theorem numV_up (n : Int) (bv : Nat) (k m : Int) : numV ⟨n, 1, 0, 0⟩ bv k m = if k = 1 ∧ n ≤ m - bv then m + 1 else m := by
  unfold numV
  by_cases h : k = 1 ∧ n ≤ m - bv
  · rw [if_pos h, if_pos (by unfold farB; exact h)]
  · rw [if_neg h, if_neg (by unfold farB; exact h)]
theorem up_ne (n : Int) (bv : Nat) (k m : Int) : ¬ (k = 1 ∧ numV ⟨n, 1, 0, 0⟩ bv k m - (bv : Int) = n) := by
  rw [numV_up]
  rintro ⟨h1, h2⟩
  by_cases h : k = 1 ∧ n ≤ m - bv
  · rw [if_pos h] at h2; omega
  · rw [if_neg h] at h2; exact h ⟨h1, by omega⟩
theorem up_back (n : Int) (bv : Nat) (k m : Int) : pnV n bv k (numV ⟨n, 1, 0, 0⟩ bv k m) = m := by
  rw [numV_up]
  unfold pnV
  by_cases h : k = 1 ∧ n ≤ m - bv
  · rw [if_pos h, if_pos ⟨h.1, by omega⟩]; omega
  · rw [if_neg h, if_neg (fun q => h ⟨q.1, by omega⟩)]
theorem put_li (n : Int) (u : Tm) : ∀ (N : Nat) (t : Tm) (bv bd : Nat), blk t ≤ N → putT n u (liT ⟨n, 1, 0, 0⟩ t bv bd) bv bd = t ∧ eP n u (liT ⟨n, 1, 0, 0⟩ t bv bd) bv bd = 0 ∧ cnP n (liT ⟨n, 1, 0, 0⟩ t bv bd) bv = 0
  | 0, t, bv, bd, h => by have := blk_pos t; omega
  | N + 1, t, bv, bd, h => by
    have hk : ∀ (i : Nat) (x : Tm), t.kids[i]? = some x → _ := fun i x hx => put_li n u N x (bv + bvK t.kind i) (bd + bdK t.kind i) (by have := blk_kid (List.mem_of_getElem? hx); omega)
    have hs : ∀ b ∈ t.sys, ∀ x ∈ b.2, _ := fun b hb x hx => put_li n u N x bv (bd + moreK t.kind) (by have := blk_sub hb hx; omega)
    obtain ⟨k, m, nm, r, kids, sys⟩ := t
    dsimp only at hk hs
    have e0 : ∀ (bd : Nat) (r : List C), rowP ⟨n, 1, 0, 0⟩ bd r = (r, 0) := fun bd r => rowP_zero rfl bd r
    have ne := up_ne n bv k m
    have gk : ∀ i, (liK ⟨n, 1, 0, 0⟩ k kids bv bd)[i]? = (kids[i]?).map fun x => liT ⟨n, 1, 0, 0⟩ x (bv + bvK k i) (bd + bdK k i) := fun i => by
      unfold liK
      rw [List.getElem?_map, List.getElem?_zipIdx]
      cases kids[i]? <;> simp
    rw [li_eq]
    dsimp only
    refine ⟨?_, ?_, ?_⟩
    · rw [put_eq]
      dsimp only
      rw [if_neg ne, up_back, e0]
      congr 1
      · refine List.ext_getElem? fun i => ?_
        unfold putK
        rw [List.getElem?_map, List.getElem?_zipIdx, gk]
        cases hi : kids[i]? with
        | none => rfl
        | some x => simp [(hk i x hi).1]
      · rw [List.map_map]
        have : ∀ b ∈ sys, (fun b => putB n u k b bv bd) (liB ⟨n, 1, 0, 0⟩ k b bv bd) = b := fun b hb => by
          show ((rowP ⟨n, 1, 0, 0⟩ bd b.1).1, (b.2.map fun x => liT ⟨n, 1, 0, 0⟩ x bv (bd + moreK k)).map fun x => putT n u x bv (bd + moreK k)) = b
          rw [e0, List.map_map]
          obtain ⟨f, l⟩ := b
          congr 1
          have e := List.map_congr_left (l := l) (f := (fun x => putT n u x bv (bd + moreK k)) ∘ fun x => liT ⟨n, 1, 0, 0⟩ x bv (bd + moreK k)) (g := id) fun x hx => (hs (f, l) hb x hx).1
          rw [e, List.map_id]
        have e := List.map_congr_left (l := sys) (f := (fun b => putB n u k b bv bd) ∘ fun b => liB ⟨n, 1, 0, 0⟩ k b bv bd) (g := id) this
        rw [e, List.map_id]
    · rw [eP_eq]
      dsimp only
      by_cases h1 : k = 1
      · rw [if_pos h1, if_neg (fun q => ne ⟨h1, q⟩)]
      · rw [if_neg h1]
        rw [firstE_zero]
        intro z hz
        rcases List.mem_append.1 hz with hz | hz
        · obtain ⟨i, hi⟩ := List.mem_iff_getElem?.1 hz
          unfold ePK at hi
          rw [List.getElem?_map, List.getElem?_zipIdx, gk] at hi
          cases hx : kids[i]? with
          | none => rw [hx] at hi; simp at hi
          | some x =>
            rw [hx] at hi
            simp at hi
            rw [← hi]
            exact (hk i x hx).2.1
        · rw [List.map_map, List.mem_map] at hz
          obtain ⟨b, hb, rfl⟩ := hz
          show firstE (ePL n u k (b.2.map fun x => liT ⟨n, 1, 0, 0⟩ x bv (bd + moreK k)) bv bd) = 0
          rw [firstE_zero]
          intro z hz
          unfold ePL at hz
          rw [List.map_map, List.mem_map] at hz
          obtain ⟨x, hx, rfl⟩ := hz
          exact (hs b hb x hx).2.1
    · rw [cn_eq]
      dsimp only
      rw [if_neg ne]
      have s1 : (cnK n k (liK ⟨n, 1, 0, 0⟩ k kids bv bd) bv).sum = 0 := by
        refine List.sum_eq_zero_iff_forall_eq_nat.2 fun z hz => ?_
        obtain ⟨i, hi⟩ := List.mem_iff_getElem?.1 hz
        unfold cnK at hi
        rw [List.getElem?_map, List.getElem?_zipIdx, gk] at hi
        cases hx : kids[i]? with
        | none => rw [hx] at hi; simp at hi
        | some x =>
          rw [hx] at hi
          simp at hi
          rw [← hi]
          exact (hk i x hx).2.2
      have s2 : ((sys.map fun b => liB ⟨n, 1, 0, 0⟩ k b bv bd).map fun b => (cnL n b.2 bv).sum).sum = 0 := by
        refine List.sum_eq_zero_iff_forall_eq_nat.2 fun z hz => ?_
        rw [List.map_map, List.mem_map] at hz
        obtain ⟨b, hb, rfl⟩ := hz
        show (cnL n (b.2.map fun x => liT ⟨n, 1, 0, 0⟩ x bv (bd + moreK k)) bv).sum = 0
        refine List.sum_eq_zero_iff_forall_eq_nat.2 fun z hz => ?_
        unfold cnL at hz
        rw [List.map_map, List.mem_map] at hz
        obtain ⟨x, hx, rfl⟩ := hz
        exact (hs b hb x hx).2.2
      rw [s1, s2]
theorem pl_lifts {n : Int} {t u : Tm} (hb : blk t ≤ 20000) (he : varsE n 1 t = 0) (hu : wrongN true 0 0 u = 0) : varsT n 1 t = liT ⟨n, 1, 0, 0⟩ t 0 0 ∧ plE n (varsT n 1 t) u = 0 ∧ plT n (varsT n 1 t) u = t ∧ blk (varsT n 1 t) ≤ blk t ∧ putT n u (varsT n 1 t) 0 0 = t := by
  have hw : wrL n 1 t = 0 := by
    unfold varsE apE at he
    by_cases h : wrL n 1 t = 0
    · exact h
    · rw [if_neg h] at he; exact absurd he h
  have hwt : wrongN true 0 0 t = 0 := by
    unfold wrL at hw
    by_cases h : wrongN true 0 0 t = 0
    · exact h
    · rw [if_neg h] at hw; omega
  have hn : ¬ n < 0 := by
    unfold wrL at hw
    rw [if_pos hwt] at hw
    intro q
    rw [if_pos (.inl q)] at hw
    omega
  have her : erT ⟨n, 1, 0, 0⟩ t 0 0 = 0 := by unfold varsE apE at he; rwa [if_pos hw] at he
  have ex : varsT n 1 t = liT ⟨n, 1, 0, 0⟩ t 0 0 := by unfold varsT apT ansL; rw [if_pos hw, if_pos her]
  obtain ⟨p1, p2, p3⟩ := put_li n u _ t 0 0 (Nat.le_refl _)
  have hbl : blk (liT ⟨n, 1, 0, 0⟩ t 0 0) ≤ blk t := blk_li _ t 0 0 (Nat.le_refl _)
  have hwx := formed_li (s := ⟨n, 1, 0, 0⟩) (by show (0 : Int) ≤ 1; decide) (by show (0 : Int) ≤ 0; decide) 0 0 hwt
  have hdt : ¬ 200 < depthT t := by
    intro q
    unfold wrongN at hwt
    rw [if_pos q] at hwt
    omega
  have e : plE n (liT ⟨n, 1, 0, 0⟩ t 0 0) u = 0 := by
    have hsz := size_blk (liT ⟨n, 1, 0, 0⟩ t 0 0)
    unfold plE
    rw [if_neg (by omega), if_neg (by omega), if_neg hn, p3, p2, p1, if_neg (by omega), if_neg (by omega), if_neg hdt]
  refine ⟨ex, by rw [ex]; exact e, ?_, by rw [ex]; exact hbl, by rw [ex]; exact p1⟩
  rw [ex]
  unfold plT
  rw [if_pos e, p1]
end Go.Proofs.YtocfamcclfhkcaaGreat

namespace Go.Proofs.YtocfamcclfhkcaaGreat
open Go.RowKit
set_option linter.unusedVariables false
set_option linter.unusedSimpArgs false

theorem lAllP : LAll := fun s hs N => lf_any hs N
set_option maxRecDepth 100000 in
set_option maxHeartbeats 4000000 in
theorem great12_any (t : Tm) (v : Value) (w : World) (hv : TmIn Tt w t v) : Calls Tryz.prog 7 #[v] w fun e w' => e = .returned (.bool (decide (200 < blk t))) ∧ Below w.heap.size w w' := by
  obtain ⟨ra, rc, ka, kc, sa, sc, rfl, ht⟩ := hv.form
  obtain ⟨w1, hw1⟩ : ∃ w1, w1 = w.alloc (.cells #[.int .i64 t.kind, .int .i64 t.n, .string t.name, .slice ra t.r.length rc, .slice ka t.kids.length kc, .slice sa t.sys.length sc] 26) := ⟨_, rfl⟩
  have b1 : Below w.heap.size w w1 := by rw [hw1]; exact belowA _ _
  have c6 : Cs6 w1 w.heap.size 0 t ra rc ka kc sa sc := by rw [hw1]; exact cs6_new w t ra rc ka kc sa sc
  have cc := bulk_any (blk t) 200 200 t _ w1 rfl (by omega) (Nat.le_refl _) (ht.blw b1).value
  obtain ⟨_, y0, y1, y2, y3, y4, y5⟩ := c6
  simp only [Nat.zero_add] at y1 y2 y3 y4 y5
  have H1 : Hid (_ = _) := hw1
  clear hw1 hv ht
  go_enter Tryz.func7, Tryz.ntmps7
  go_upto_region 1 with fail
  rw [← H1.out]
  go_wp2_with fail
  refine cc.mono ?_
  rintro e w3 ⟨⟨r, rfl, r1, r2, r3, r4⟩, hb3⟩
  clear cc y0 y1 y2 y3 y4 y5
  have HE : Hid (decide ((200 : Int) < (r : Int)) = decide (200 < blk t)) := (by
    rw [decide_eq_decide]
    by_cases h : blk t ≤ 200
    · have := r1 h; omega
    · have := r2 (by omega); omega : decide ((200 : Int) < (r : Int)) = decide (200 < blk t))
  clear r1 r2
  go_wp2_with fail
  go_ret
  exact ⟨ret_bool HE.out, bchain b1 hb3⟩
set_option maxRecDepth 100000 in
set_option maxHeartbeats 4000000 in
theorem walk_PlugLifts (t : Tm) (v0 : Value) (n : Int) (hwn : (Lit.int .i64 n).wf = true) (u : Tm) (v1 : Value) (w : World) (hv0 : TmIn Tt w t v0) (hv1 : TmIn Tt w u v1) :
    Calls Tryz.prog 3 #[v0, .int .i64 n, v1] w fun e w' => e = .returned (.bool true) ∧ Below w.heap.size w w' := by
  obtain ⟨ra0, rc0, ka0, kc0, sa0, sc0, rfl, ht⟩ := hv0.form
  obtain ⟨ra1, rc1, ka1, kc1, sa1, sc1, rfl, hu⟩ := hv1.form
  have hnI : I64 n := by
    have h := hwn
    simp [Lit.wf, IntKind.min, IntKind.max, IntKind.bits, IntKind.signed] at h
    unfold I64
    omega
  obtain ⟨X, hX⟩ : ∃ X, X = w.heap.size := ⟨_, rfl⟩
  obtain ⟨w0, hw0⟩ : ∃ W, W = w.alloc (.cells #[.int .i64 t.kind, .int .i64 t.n, .string t.name, .slice ra0 t.r.length rc0, .slice ka0 t.kids.length kc0, .slice sa0 t.sys.length sc0] 26) := ⟨_, rfl⟩
  have b0 : Below w.heap.size w w0 := by rw [hw0]; exact belowA _ _
  have s0 : w0.heap.size = X + 1 := by rw [hw0, hX]; simp
  have n0 : Six w0 X (.int .i64 t.kind) (.int .i64 t.n) (.string t.name) (.slice ra0 t.r.length rc0) (.slice ka0 t.kids.length kc0) (.slice sa0 t.sys.length sc0) := ⟨by rw [hw0, hX]; exact heapNew _ _⟩
  obtain ⟨w1, hw1⟩ : ∃ W, W = w0.alloc (.cells #[.int .i64 u.kind, .int .i64 u.n, .string u.name, .slice ra1 u.r.length rc1, .slice ka1 u.kids.length kc1, .slice sa1 u.sys.length sc1] 26) := ⟨_, rfl⟩
  have b1 : Below w0.heap.size w0 w1 := by rw [hw1]; exact belowA _ _
  have n1 : Six w1 (X + 1) (.int .i64 u.kind) (.int .i64 u.n) (.string u.name) (.slice ra1 u.r.length rc1) (.slice ka1 u.kids.length kc1) (.slice sa1 u.sys.length sc1) := ⟨by rw [hw1, ← s0]; exact heapNew _ _⟩
  have b01 := bchain b0 b1
  have HS : Hid (∀ V, Below w1.heap.size w1 V → Six V X (.int .i64 t.kind) (.int .i64 t.n) (.string t.name) (.slice ra0 t.r.length rc0) (.slice ka0 t.kids.length kc0) (.slice sa0 t.sys.length sc0) ∧ Six V (X + 1) (.int .i64 u.kind) (.int .i64 u.n) (.string u.name) (.slice ra1 u.r.length rc1) (.slice ka1 u.kids.length kc1) (.slice sa1 u.sys.length sc1) ∧ TmIn Tt V t (.agg #[.int .i64 t.kind, .int .i64 t.n, .string t.name, .slice ra0 t.r.length rc0, .slice ka0 t.kids.length kc0, .slice sa0 t.sys.length sc0]) ∧ TmIn Tt V u (.agg #[.int .i64 u.kind, .int .i64 u.n, .string u.name, .slice ra1 u.r.length rc1, .slice ka1 u.kids.length kc1, .slice sa1 u.sys.length sc1]) ∧ Below w.heap.size w V) := fun V q => ⟨(n0.blw b1).blw q, n1.blw q, (ht.blw (bchain b01 q)).value, (hu.blw (bchain b01 q)).value, bchain b01 q⟩
  have HW : Hid (w1 = (w.alloc (.cells #[.int .i64 t.kind, .int .i64 t.n, .string t.name, .slice ra0 t.r.length rc0, .slice ka0 t.kids.length kc0, .slice sa0 t.sys.length sc0] 26)).alloc (.cells #[.int .i64 u.kind, .int .i64 u.n, .string u.name, .slice ra1 u.r.length rc1, .slice ka1 u.kids.length kc1, .slice sa1 u.sys.length sc1] 26)) := (by rw [hw1, hw0] : _ = _)
  have HX : Hid (X = w.heap.size) := hX
  have hLA := lAllP
  have hB1 : Below w1.heap.size w1 w1 := Below.refl _ _
  clear hw0 hw1 hX b0 b1 s0 n0 n1 b01 hv0 hv1 ht hu
  go_enter Tryz.func3, Tryz.ntmps3
  go_upto_region 1 with fail
  rw [← HW.out]
  simp only [← HX.out]
  clear HW
  have cw := works12_any hLA w1
  go_wp2_with fail
  refine cw.mono ?_
  rintro e w2 ⟨rfl, b2⟩
  clear cw
  have B2 : Below w1.heap.size w1 w2 := b2
  obtain ⟨q0, q1, t0, u0, _⟩ := HS.out _ B2
  obtain ⟨y0, y1, y2, y3, y4, y5, _⟩ := q0.cells
  have cg := great12_any t _ w2 t0
  by_cases hg : 200 < blk t
  · rw [decide_eq_true hg] at cg
    clear q0 q1 t0 u0
    go_wp2_with fail
    refine cg.mono ?_
    rintro e w3 ⟨rfl, b3⟩
    have HF : Hid (Below w.heap.size w w3) := (HS.out _ (B2.trans (b3.mono B2.size))).2.2.2.2
    clear cg y0 y1 y2 y3 y4 y5
    go_wp2_with fail
    go_ret
    exact ⟨rfl, HF.out⟩
  rw [decide_eq_false hg] at cg
  clear q0 q1 t0 u0
  go_wp2_with fail
  refine cg.mono ?_
  rintro e w3 ⟨rfl, b3⟩
  clear cg y0 y1 y2 y3 y4 y5
  have B3 : Below w1.heap.size w1 w3 := B2.trans (b3.mono B2.size)
  obtain ⟨q0, q1, t0, u0, _⟩ := HS.out _ B3
  obtain ⟨y0, y1, y2, y3, y4, y5, _⟩ := q1.cells
  have cg := great12_any u _ w3 u0
  by_cases hg2 : 200 < blk u
  · rw [decide_eq_true hg2] at cg
    clear q0 q1 t0 u0
    go_wp2_with fail
    refine cg.mono ?_
    rintro e w4 ⟨rfl, b4⟩
    have HF : Hid (Below w.heap.size w w4) := (HS.out _ (B3.trans (b4.mono B3.size))).2.2.2.2
    clear cg y0 y1 y2 y3 y4 y5
    go_wp2_with fail
    go_ret
    exact ⟨rfl, HF.out⟩
  rw [decide_eq_false hg2] at cg
  clear q0 q1 t0 u0
  go_wp2_with fail
  refine cg.mono ?_
  rintro e w4 ⟨rfl, b4⟩
  clear cg y0 y1 y2 y3 y4 y5
  have B4 : Below w1.heap.size w1 w4 := B3.trans (b4.mono B3.size)
  obtain ⟨q0, q1, t0, u0, _⟩ := HS.out _ B4
  obtain ⟨y0, y1, y2, y3, y4, y5, _⟩ := q1.cells
  have cf := formed_any u _ w4 u0 (by omega)
  obtain ⟨F, hF⟩ : ∃ F, F = wrongN true 0 0 u := ⟨_, rfl⟩
  rw [← hF] at cf
  have HFu : Hid (F = wrongN true 0 0 u) := hF
  clear q0 q1 t0 u0 hF
  go_wp2_with fail
  refine cf.mono ?_
  rintro e w5 ⟨rfl, b5⟩
  clear cf y0 y1 y2 y3 y4 y5
  have B5 : Below w1.heap.size w1 w5 := B4.trans (b5.mono B4.size)
  by_cases hF0 : F = 0
  rotate_left
  · have hF1 : ((F : Int) == 0) = false := by simp; omega
    have hF2 : ¬ (F : Int) = 0 := by omega
    have hF3 : ((F : Int) != 0) = true := by simp; omega
    have HF : Hid (Below w.heap.size w w5) := (HS.out _ B5).2.2.2.2
    go_wp2_with fail
    go_ret
    exact ⟨rfl, HF.out⟩
  subst hF0
  obtain ⟨q0, q1, t0, u0, _⟩ := HS.out _ B5
  obtain ⟨y0, y1, y2, y3, y4, y5, _⟩ := q0.cells
  have cv := lvars_any hLA t _ w5 t0 (by omega) n 1 hnI
  obtain ⟨E, hE⟩ : ∃ z, z = varsE n 1 t := ⟨_, rfl⟩
  obtain ⟨T, hT⟩ : ∃ z, z = varsT n 1 t := ⟨_, rfl⟩
  rw [← hE, ← hT] at cv
  have HET : Hid (E = varsE n 1 t ∧ T = varsT n 1 t) := ⟨hE, hT⟩
  clear q0 q1 t0 u0 hE hT
  go_wp2_with fail
  refine cv.mono ?_
  rintro e w6 ⟨v6, rfl, hv6, b6⟩
  clear cv y0 y1 y2 y3 y4 y5
  have B6 : Below w1.heap.size w1 w6 := B5.trans (b6.mono B5.size)
  obtain ⟨r6, rc6, k6, kc6, s6, sc6, rfl, ht6⟩ := hv6.form
  obtain ⟨Y, hY⟩ : ∃ Y, Y = w6.heap.size := ⟨_, rfl⟩
  obtain ⟨w7, hw7⟩ : ∃ W, W = w6.alloc (.cells #[.int .i64 T.kind, .int .i64 T.n, .string T.name, .slice r6 T.r.length rc6, .slice k6 T.kids.length kc6, .slice s6 T.sys.length sc6] 26) := ⟨_, rfl⟩
  have b7 : Below w6.heap.size w6 w7 := by rw [hw7]; exact belowA _ _
  have n7 : Six w7 Y (.int .i64 T.kind) (.int .i64 T.n) (.string T.name) (.slice r6 T.r.length rc6) (.slice k6 T.kids.length kc6) (.slice s6 T.sys.length sc6) := ⟨by rw [hw7, hY]; exact heapNew _ _⟩
  have B7 : Below w1.heap.size w1 w7 := B6.trans (b7.mono B6.size)
  have tx : TmIn Tt w7 T (.agg #[.int .i64 T.kind, .int .i64 T.n, .string T.name, .slice r6 T.r.length rc6, .slice k6 T.kids.length kc6, .slice s6 T.sys.length sc6]) := ((ht6.blw b7).up fun _ _ => trivial).value
  have H7 : Hid (_ = _) := hw7
  have HY : Hid (Y = w6.heap.size) := hY
  clear hw7 hY ht6 hv6
  go_upto_region 6 with fail
  rw [← H7.out]
  simp only [← HY.out]
  clear H7
  by_cases hE0 : E = 0
  rotate_left
  · have hE1 : (E == 0) = false := by simpa using hE0
    have hE3 : (E != 0) = true := by simpa using hE0
    have HF : Hid (Below w.heap.size w w7) := (HS.out _ B7).2.2.2.2
    clear n7 tx
    go_wp2_with fail
    go_ret
    exact ⟨rfl, HF.out⟩
  subst hE0
  obtain ⟨p1, p2, p3, p4, p5⟩ := pl_lifts (n := n) (t := t) (u := u) (by omega) HET.out.1.symm HFu.out.symm
  rw [← HET.out.2] at p2 p3 p4 p5
  obtain ⟨q0, q1, t0, u0, _⟩ := HS.out _ B7
  have ca := plat_any hLA T u n hnI _ _ w7 tx u0 (by omega) (by omega) (by rw [p5]; omega)
  rw [p2, p3] at ca
  obtain ⟨y0, y1, y2, y3, y4, y5, _⟩ := n7.cells
  obtain ⟨z0, z1, z2, z3, z4, z5, _⟩ := q1.cells
  clear q0 q1 t0 u0 n7 tx p1 p2 p3 p4 p5
  go_wp2_with fail
  refine ca.mono ?_
  rintro e w8 ⟨v8, rfl, hv8, b8⟩
  clear ca y0 y1 y2 y3 y4 y5 z0 z1 z2 z3 z4 z5
  have B8 : Below w1.heap.size w1 w8 := B7.trans (b8.mono B7.size)
  obtain ⟨r8, rc8, k8, kc8, s8, sc8, rfl, ht8⟩ := hv8.form
  obtain ⟨Z, hZ⟩ : ∃ Y, Y = w8.heap.size := ⟨_, rfl⟩
  obtain ⟨w9, hw9⟩ : ∃ W, W = w8.alloc (.cells #[.int .i64 t.kind, .int .i64 t.n, .string t.name, .slice r8 t.r.length rc8, .slice k8 t.kids.length kc8, .slice s8 t.sys.length sc8] 26) := ⟨_, rfl⟩
  have b9 : Below w8.heap.size w8 w9 := by rw [hw9]; exact belowA _ _
  have n9 : Six w9 Z (.int .i64 t.kind) (.int .i64 t.n) (.string t.name) (.slice r8 t.r.length rc8) (.slice k8 t.kids.length kc8) (.slice s8 t.sys.length sc8) := ⟨by rw [hw9, hZ]; exact heapNew _ _⟩
  have B9 : Below w1.heap.size w1 w9 := B8.trans (b9.mono B8.size)
  have tz : TmIn Tt w9 t (.agg #[.int .i64 t.kind, .int .i64 t.n, .string t.name, .slice r8 t.r.length rc8, .slice k8 t.kids.length kc8, .slice s8 t.sys.length sc8]) := ((ht8.blw b9).up fun _ _ => trivial).value
  obtain ⟨q0, q1, t0, u0, _⟩ := HS.out _ B9
  have cs := rsame_any 20000 t t true _ _ w9 tz t0 (by omega) (by omega) ⟨fun _ => rfl, fun _ => rfl⟩
  obtain ⟨y0, y1, y2, y3, y4, y5, _⟩ := n9.cells
  obtain ⟨z0, z1, z2, z3, z4, z5, _⟩ := q0.cells
  have H9 : Hid (_ = _) := hw9
  have HZ : Hid (Z = w8.heap.size) := hZ
  clear hw9 hZ ht8 hv8 q0 q1 t0 u0 n9 tz
  go_upto_region 9 with fail
  rw [← H9.out]
  simp only [← HZ.out]
  clear H9
  go_wp2_with fail
  refine cs.mono ?_
  rintro e wa ⟨rfl, ba⟩
  have HF : Hid (Below w.heap.size w wa) := (HS.out _ (B9.trans (ba.mono B9.size))).2.2.2.2
  clear cs y0 y1 y2 y3 y4 y5 z0 z1 z2 z3 z4 z5
  go_wp2_with fail
  go_ret
  exact ⟨rfl, HF.out⟩
end Go.Proofs.YtocfamcclfhkcaaGreat

