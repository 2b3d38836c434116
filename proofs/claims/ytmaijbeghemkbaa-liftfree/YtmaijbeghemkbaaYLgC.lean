/- How great a term is; a variable that is too great. -/
import Derived.Test.YtmaijbeghemkbaaYBulk
import Derived.Test.YtmaijbeghemkbaaYLgM
import Derived.Deep.DeepCutAuto
import Derived.Deep.CutBlock
namespace Go.Proofs.Ytmaijbeghemkbaa
open Go.RowKit
set_option linter.unusedVariables false
set_option linter.unusedSimpArgs false

set_option maxRecDepth 100000 in
set_option maxHeartbeats 4000000 in
theorem great11_any (t : Tm) (v : Value) (w : World) (hv : TmIn Tt w t v) : Calls Try.prog 18 #[v] w fun e w' => e = .returned (.bool (decide (400 < blk t))) ∧ Below w.heap.size w w' := by
  obtain ⟨ra, rc, ka, kc, sa, sc, rfl, ht⟩ := hv.form
  obtain ⟨w1, hw1⟩ : ∃ w1, w1 = w.alloc (.cells #[.int .i64 t.kind, .int .i64 t.n, .string t.name, .slice ra t.r.length rc, .slice ka t.kids.length kc, .slice sa t.sys.length sc] 26) := ⟨_, rfl⟩
  have b1 : Below w.heap.size w w1 := by rw [hw1]; exact belowA _ _
  have c6 : Cs6 w1 w.heap.size 0 t ra rc ka kc sa sc := by rw [hw1]; exact cs6_new w t ra rc ka kc sa sc
  have cc := bulk_any (blk t) 400 400 t _ w1 rfl (by omega) (Nat.le_refl _) (ht.blw b1).value
  obtain ⟨_, y0, y1, y2, y3, y4, y5⟩ := c6
  simp only [Nat.zero_add] at y1 y2 y3 y4 y5
  have H1 : Hid (_ = _) := hw1
  clear hw1 hv ht
  go_enter Try.func18, Try.ntmps18
  go_upto_region 1 with fail
  rw [← H1.out]
  go_wp2_with fail
  refine cc.mono ?_
  rintro e w3 ⟨⟨r, rfl, r1, r2, r3, r4⟩, hb3⟩
  clear cc y0 y1 y2 y3 y4 y5
  have HE : Hid (decide ((400 : Int) < (r : Int)) = decide (400 < blk t)) := (by
    rw [decide_eq_decide]
    by_cases h : blk t ≤ 400
    · have := r1 h; omega
    · have := r2 (by omega); omega : decide ((400 : Int) < (r : Int)) = decide (400 < blk t))
  clear r1 r2
  go_wp2_with fail
  go_ret
  exact ⟨ret_bool HE.out, bchain b1 hb3⟩
theorem any_step {α : Type} {p : α → Bool} {l : List α} {k : Nat} {x : α} (h : l[k]? = some x) : (l.take (k + 1)).any p = ((l.take k).any p || p x) := by
  rw [List.take_add_one, h]; simp
def FarC (N : Nat) : Prop := ∀ (t : Tm) (v : Value) (w : World), blk t ≤ N → blk t ≤ 100000 → TmIn Tt w t v → Calls Try.prog 21 #[v] w fun e w' => e = .returned (.bool (farT t)) ∧ Below w.heap.size w w'
set_option maxRecDepth 100000 in
set_option maxHeartbeats 8000000 in
theorem far_step (N : Nat) (IH : FarC N) : FarC (N + 1) := by
  intro t v w hbN hbb h
  obtain ⟨ra, rc, ka, kc, sa, sc, rfl, ht⟩ := h.form
  obtain ⟨w1, hw1⟩ : ∃ w1, w1 = w.alloc (.cells #[.int .i64 t.kind, .int .i64 t.n, .string t.name, .slice ra t.r.length rc, .slice ka t.kids.length kc, .slice sa t.sys.length sc] 26) := ⟨_, rfl⟩
  have b1 : Below w.heap.size w w1 := by rw [hw1]; exact belowA _ _
  have HC : Hid (Cs6 w1 w.heap.size 0 t ra rc ka kc sa sc) := by rw [hw1]; exact cs6_new w t ra rc ka kc sa sc
  have HT : Hid (TmTop Tt w1 t ra rc ka kc sa sc) := ht.blw b1
  obtain ⟨L, hL⟩ : ∃ L, L = t.kids.length := ⟨_, rfl⟩
  have HL : Hid (L = t.kids.length) := hL
  obtain ⟨M, hM⟩ : ∃ M, M = t.sys.length := ⟨_, rfl⟩
  have HM : Hid (M = t.sys.length) := hM
  have hLb : L ≤ 100000 := by have := (blk_lens t).2.2.1; omega
  have hMb : M ≤ 100000 := by have := (blk_lens t).2.2.2; omega
  have HE : Hid (_ = _) := far_eq t
  have HW : Hid (_ = _) := hw1
  obtain ⟨_, x0, x1, x2, x3, x4, x5⟩ := HC.out.blw (Below.refl _ _)
  simp only [Nat.zero_add] at x1 x2 x3 x4 x5
  rw [← HL.out] at x4
  rw [← HM.out] at x5
  clear hw1 h ht hL hM
  go_enter Try.func21, Try.ntmps21
  go_upto_region 1 with fail
  rw [← HW.out]
  clear HW
  by_cases hkn : t.kind = 1 ∧ 1000000000 < t.n
  · have HR : Hid (farT t = true) := (by rw [HE.out, decide_eq_true hkn]; rfl : farT t = true)
    have hk1 := hkn.1
    have hk2 := hkn.2
    have hk3 : decide (1000000000 < t.n) = true := by simpa using hk2
    clear hkn
    go_wp2_with fail
    go_ret
    exact ⟨by rw [HR.out]; rfl, b1⟩
  · have Hk : Hid (decide (t.kind = 1 ∧ 1000000000 < t.n) = false) := decide_eq_false hkn
    go_cut [16] (fun s wx => s = .bool false ∧ wx = w1)
    case first =>
      by_cases hk1 : t.kind = 1
      · have hk2 : ¬ 1000000000 < t.n := fun h => hkn ⟨hk1, h⟩
        have hk3 : decide (1000000000 < t.n) = false := by simpa using hk2
        have hk4 : (t.kind == 1) = true := by simpa using hk1
        clear hkn hk1
        go_wp2_with fail
        go_meet
        exact ⟨rfl, rfl⟩
      · have hk4 : (t.kind == 1) = false := by simpa using hk1
        clear hkn
        go_wp2_with fail
        go_meet
        exact ⟨rfl, rfl⟩
    case rest =>
    obtain ⟨rfl, rfl⟩ := hcut
    go_wp2_with fail
    clear x0 x1 x2 x3 x4 x5 hkn
    go_loopw [20] (fun i wr => ∃ k : Nat, k ≤ L ∧ i = .int .i64 k ∧ Hid ((t.kids.take k).any farT = false) ∧ Below wc.heap.size wc wr) (fun i _ => L - (intOf i).toNat)
    case atStart => exact ⟨0, Nat.zero_le _, rfl, (by simp : (t.kids.take 0).any farT = false), Below.refl _ _⟩
    case round =>
      obtain ⟨wo, hwo⟩ : ∃ wo, wo = wr := ⟨_, rfl⟩
      subst hwo
      obtain ⟨k, hk, rfl, HS, hBr⟩ := hrel
      by_cases hlt : k < L
      · have hkI : (k : Int) < (L : Int) := by omega
        obtain ⟨y, hy⟩ := someL (l := t.kids) (k := k) (by rw [← HL.out]; exact hlt)
        obtain ⟨g, off, ra1, rc1, ka1, kc1, sa1, sc1, rfl, hg, q6, qt⟩ := (HT.out.blw hBr).kids.at hy
        have hby : blk y < blk t := blk_kid (List.mem_of_getElem? hy)
        have HY : Hid (_ = _) := any_step (p := farT) hy
        have HAny : Hid (farT y = true → t.kids.any farT = true) := fun h => List.any_eq_true.2 ⟨y, List.mem_of_getElem? hy, h⟩
        obtain ⟨w2, hw2⟩ : ∃ W, W = wo.alloc (.cells #[.int .i64 y.kind, .int .i64 y.n, .string y.name, .slice ra1 y.r.length rc1, .slice ka1 y.kids.length kc1, .slice sa1 y.sys.length sc1] 26) := ⟨_, rfl⟩
        have b2 : Below wo.heap.size wo w2 := by rw [hw2]; exact belowA _ _
        have cc := IH y _ w2 (by omega) (by omega) (qt.blw b2).value
        obtain ⟨_, z0, z1, z2, z3, z4, z5⟩ : Cs6 w2 wo.heap.size 0 y ra1 rc1 ka1 kc1 sa1 sc1 := by rw [hw2]; exact cs6_new wo y ra1 rc1 ka1 kc1 sa1 sc1
        simp only [Nat.zero_add] at z1 z2 z3 z4 z5
        obtain ⟨r, hr⟩ : ∃ r, r = farT y := ⟨_, rfl⟩
        rw [← hr] at cc HY HAny
        obtain ⟨_, c0, c1, c2, c3, c4, c5⟩ := q6
        have H2 : Hid (_ = _) := hw2
        clear hy qt hr hw2
        go_upto_region 6 with fail
        rw [← H2.out]
        clear H2 c0 c1 c2 c3 c4 c5
        go_wp2_with fail
        refine cc.mono ?_
        rintro e w6 ⟨rfl, hb6⟩
        clear cc z0 z1 z2 z3 z4 z5
        have hB6 := bchain hBr (bchain b2 hb6)
        cases r with
        | true =>
          have HR : Hid (farT t = true) := (by rw [HE.out, HAny.out rfl]; simp : farT t = true)
          go_wp2_with fail
          go_ret
          exact ⟨by rw [HR.out]; rfl, bchain b1 hB6⟩
        | false =>
          have HS' : Hid ((t.kids.take (k + 1)).any farT = false) := (by rw [HY.out, HS.out]; rfl : (t.kids.take (k + 1)).any farT = false)
          go_wp2_with fail
          go_roundw
          case rel => exact ⟨k + 1, by omega, by go_num, HS', hB6⟩
          case measure => simp [intOf]; omega
      · have hkI : ¬ (k : Int) < (L : Int) := by omega
        have HK : Hid (t.kids.any farT = false) := (by have := HS.out; rwa [List.take_of_length_le (by rw [← HL.out]; omega)] at this : t.kids.any farT = false)
        obtain ⟨_, x0, x1, x2, x3, x4, x5⟩ := HC.out.blw (hBr)
        simp only [Nat.zero_add] at x1 x2 x3 x4 x5
        rw [← HM.out] at x5
        clear HS
        go_wp2_with fail
        clear x0 x1 x2 x3 x4 x5
        go_loopw [30] (fun i wr => ∃ k : Nat, k ≤ M ∧ i = .int .i64 k ∧ Hid (((t.sys.take k).any fun b => b.2.any farT) = false) ∧ Below wc.heap.size wc wr) (fun i _ => M - (intOf i).toNat)
        case atStart => exact ⟨0, Nat.zero_le _, rfl, (by simp : ((t.sys.take 0).any fun b => b.2.any farT) = false), hBr⟩
        case round =>
          obtain ⟨wp, hwp⟩ : ∃ wp, wp = wr := ⟨_, rfl⟩
          subst hwp
          clear hkI hBr
          obtain ⟨k, hk, rfl, HS, hBr⟩ := hrel
          by_cases hlt : k < M
          · have hkI : (k : Int) < (M : Int) := by omega
            obtain ⟨b, hb⟩ := someL (l := t.sys) (k := k) (by rw [← HM.out]; exact hlt)
            obtain ⟨g, off, fa, fc, ka1, kc1, rfl, hg, q2, qf, qk⟩ := (HT.out.blw hBr).sys.at hb
            have HY : Hid (_ = _) := any_step (p := fun b : List C × List Tm => b.2.any farT) hb
            have HMm : Hid (b ∈ t.sys) := List.mem_of_getElem? hb
            have HK2 : Hid (KdT Tt wp (TmIn Tt wp) b.2 (.slice ka1 b.2.length kc1)) := qk
            obtain ⟨K, hK⟩ : ∃ K, K = b.2.length := ⟨_, rfl⟩
            obtain ⟨F, hF⟩ : ∃ K, K = b.1.length := ⟨_, rfl⟩
            have HKl : Hid (K = b.2.length) := hK
            have hKb : K ≤ 100000 := by have := blk_br (List.mem_of_getElem? hb); have := blkL_len b.2; omega
            obtain ⟨w2, hw2⟩ : ∃ W, W = wp.alloc (.cells #[.slice fa b.1.length fc, .slice ka1 b.2.length kc1] 45) := ⟨_, rfl⟩
            have b2 : Below wp.heap.size wp w2 := by rw [hw2]; exact belowA _ _
            obtain ⟨_, z0, z1⟩ : Cs2 w2 wp.heap.size 0 b fa fc ka1 kc1 := by rw [hw2]; exact cs2_new wp b fa fc ka1 kc1
            simp only [Nat.zero_add] at z1
            obtain ⟨_, c0, c1⟩ := q2
            rw [← hK] at c1 z1 hw2
            rw [← hF] at c0 z0 hw2
            have H2 : Hid (_ = _) := hw2
            clear hK hb qf qk hw2 hF
            go_upto_region 12 with fail
            rw [← H2.out]
            clear H2 c0 c1
            go_wp2_with fail
            clear z0 z1
            go_loopw [37] (fun i wr => ∃ j : Nat, j ≤ K ∧ i = .int .i64 j ∧ Hid ((b.2.take j).any farT = false) ∧ Below w2.heap.size w2 wr) (fun i _ => K - (intOf i).toNat)
            case atStart => exact ⟨0, Nat.zero_le _, rfl, (by simp : (b.2.take 0).any farT = false), Below.refl _ _⟩
            case round =>
              obtain ⟨wq, hwq⟩ : ∃ wq, wq = wr := ⟨_, rfl⟩
              subst hwq
              obtain ⟨j, hj, rfl, HS2, hBq⟩ := hrel
              by_cases hlt2 : j < K
              · have hjI : (j : Int) < (K : Int) := by omega
                obtain ⟨y, hy⟩ := someL (l := b.2) (k := j) (by rw [← HKl.out]; exact hlt2)
                obtain ⟨g2, off2, ra1, rc1, ka2, kc2, sa1, sc1, rfl, hg2, q6, qt⟩ := (HK2.out.blw (bchain b2 hBq)).at hy
                have hby : blk y < blk t := blk_sub HMm.out (List.mem_of_getElem? hy)
                have HY2 : Hid (_ = _) := any_step (p := farT) hy
                have HAny : Hid (farT y = true → (t.sys.any fun b => b.2.any farT) = true) := fun h => List.any_eq_true.2 ⟨b, HMm.out, List.any_eq_true.2 ⟨y, List.mem_of_getElem? hy, h⟩⟩
                obtain ⟨w5, hw5⟩ : ∃ W, W = wq.alloc (.cells #[.int .i64 y.kind, .int .i64 y.n, .string y.name, .slice ra1 y.r.length rc1, .slice ka2 y.kids.length kc2, .slice sa1 y.sys.length sc1] 26) := ⟨_, rfl⟩
                have b5 : Below wq.heap.size wq w5 := by rw [hw5]; exact belowA _ _
                have cc := IH y _ w5 (by omega) (by omega) (qt.blw b5).value
                obtain ⟨_, z0, z1, z2, z3, z4, z5⟩ : Cs6 w5 wq.heap.size 0 y ra1 rc1 ka2 kc2 sa1 sc1 := by rw [hw5]; exact cs6_new wq y ra1 rc1 ka2 kc2 sa1 sc1
                simp only [Nat.zero_add] at z1 z2 z3 z4 z5
                obtain ⟨r, hr⟩ : ∃ r, r = farT y := ⟨_, rfl⟩
                rw [← hr] at cc HY2 HAny
                obtain ⟨_, c0, c1, c2, c3, c4, c5⟩ := q6
                have H5 : Hid (_ = _) := hw5
                clear hy qt hr hw5
                go_upto_region 15 with fail
                rw [← H5.out]
                clear H5 c0 c1 c2 c3 c4 c5
                go_wp2_with fail
                refine cc.mono ?_
                rintro e w6 ⟨rfl, hb6⟩
                clear cc z0 z1 z2 z3 z4 z5
                have hB6 := bchain hBq (bchain b5 hb6)
                cases r with
                | true =>
                  have HR : Hid (farT t = true) := (by rw [HE.out, HAny.out rfl]; simp : farT t = true)
                  go_wp2_with fail
                  go_ret
                  exact ⟨by rw [HR.out]; rfl, bchain b1 (bchain hBr (bchain b2 hB6))⟩
                | false =>
                  have HS' : Hid ((b.2.take (j + 1)).any farT = false) := (by rw [HY2.out, HS2.out]; rfl : (b.2.take (j + 1)).any farT = false)
                  go_wp2_with fail
                  go_roundw
                  case rel => exact ⟨j + 1, by omega, by go_num, HS', hB6⟩
                  case measure => simp [intOf]; omega
              · have hjI : ¬ (j : Int) < (K : Int) := by omega
                have HS' : Hid (((t.sys.take (k + 1)).any fun b => b.2.any farT) = false) := (by have := HS2.out; rw [List.take_of_length_le (by rw [← HKl.out]; omega)] at this; rw [HY.out, HS.out, this]; rfl : ((t.sys.take (k + 1)).any fun b => b.2.any farT) = false)
                go_wp2_with fail
                go_roundw
                case rel => exact ⟨k + 1, by omega, by go_num, HS', bchain hBr (bchain b2 hBq)⟩
                case measure => simp [intOf]; omega
          · have hkI : ¬ (k : Int) < (M : Int) := by omega
            have HR : Hid (farT t = false) := (by have := HS.out; rw [List.take_of_length_le (by rw [← HM.out]; omega)] at this; rw [HE.out, Hk.out, HK.out, this]; rfl : farT t = false)
            clear HS
            go_wp2_with fail
            go_ret
            exact ⟨by rw [HR.out]; rfl, bchain b1 hBr⟩
theorem far_any (N : Nat) : FarC N := by
  induction N with
  | zero => intro t v w hb; have := blk_pos t; omega
  | succ N ih => exact far_step N ih
end Go.Proofs.Ytmaijbeghemkbaa
