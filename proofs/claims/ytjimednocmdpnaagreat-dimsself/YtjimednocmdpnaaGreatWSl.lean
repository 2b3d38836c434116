/- The chapter's examples. How great a term is: Bulk of the document's answer. The chapter's examples, of formulas in the places of dimensions; how great is too great. How great is too great; whether a branch's face is never. Which terms are the same, by the document. Which terms are the same, by the document: the node. How a term that came in lies in memory. A dimension's own formula in its place changes nothing; what was lifted is as it was, when that is taken out. -/
import Derived.Deep.RegionHeld3
import Derived.Test.YtjimednocmdpnaaGreatYSame
import Derived.Test.YtjimednocmdpnaaGreatYUses
import Derived.Test.YtjimednocmdpnaaGreatYRight
import Derived.Test.YtjimednocmdpnaaGreatYMeas
import Derived.Test.YtjimednocmdpnaaGreatWSlA
import Derived.Test.YtjimednocmdpnaaGreatYRCopyM
import Derived.Deep.DeepCutAuto
import Derived.Test.YtjimednocmdpnaaGreatYEq
import Derived.ProofKit
import Derived.OpenShut
import Derived.Lib.SmallJoins
import Derived.Deep.Slices
import Derived.Deep.Strs
import Derived.Test.YtjimednocmdpnaaGreatYEqA
import Derived.Deep.SlicePairs
import Derived.Test.YtjimednocmdpnaaGreatYLfD
namespace Go.Proofs.YtjimednocmdpnaaGreat
open Go.RowKit
set_option linter.unusedVariables false
set_option linter.unusedSimpArgs false

theorem cl_nil0 (w : World) : ClRow Tt w [] (.slice none 0 0) := ⟨none, 0, rfl, Nat.le_refl _, fun j c h => by simp at h⟩
theorem kd_nil0 (w : World) : KdT Tt w (TmIn Tt w) [] (.slice none 0 0) := ⟨none, 0, rfl, Nat.le_refl _, fun j c h => by simp at h⟩
theorem sy_nil0 (w : World) : SyT Tt w (TmIn Tt w) [] (.slice none 0 0) := ⟨none, 0, rfl, Nat.le_refl _, fun j c h => by simp at h⟩
end Go.Proofs.YtjimednocmdpnaaGreat

namespace Go.Proofs.YtjimednocmdpnaaGreat
open Go.RowKit
set_option linter.unusedVariables false
set_option linter.unusedSimpArgs false

def BulkR (m B r : Nat) : Prop := (B ≤ m → r = B) ∧ (m < B → m < r) ∧ r ≤ 2 * m + 2 ∧ 1 ≤ r
def BulkC (N : Nat) : Prop := ∀ (m : Nat) (q : Int) (t : Tm) (v : Value) (w : World), q = (m : Nat) → m ≤ 1000000 → blk t ≤ N → TmIn Tt w t v → Calls Tryz.prog 17 #[v, .int .i64 q] w fun e w' => (∃ r : Nat, e = .returned (.int .i64 r) ∧ BulkR m (blk t) r) ∧ Below w.heap.size w w'
/-- A sum as far as it was made: it is right, or it is too great and rightly so. -/
structure Pt (m S P : Nat) : Prop where
  out : S = P ∨ (m < S ∧ m < P)
theorem Pt.step {m S P B r : Nat} (h : Pt m S P) (hS : S ≤ m) (hr : BulkR (m - S) B r) : Pt m (S + r) (P + B) := by
  obtain ⟨r1, r2, r3, r4⟩ := hr
  refine ⟨?_⟩
  rcases h.out with h | h
  · by_cases hz : B ≤ m - S
    · have := r1 hz; left; omega
    · have := r2 (by omega); right; omega
  · omega
theorem Pt.add {m S P : Nat} (h : Pt m S P) (x : Nat) : Pt m (S + x) (P + x) := ⟨by have := h.out; omega⟩
theorem Pt.to {m S P P' : Nat} (h : Pt m S P) (e : P = P') : Pt m S P' := e ▸ h
theorem Pt.bulk {m S P B : Nat} (h : Pt m S P) (hP : P ≤ B) (he : P = B ∨ m < S) (h2 : S ≤ 2 * m + 2) (h1 : 1 ≤ S) : BulkR m B S := by
  have := h.out
  refine ⟨?_, ?_, h2, h1⟩ <;> omega
set_option maxRecDepth 100000 in
set_option maxHeartbeats 16000000 in
theorem bulk_step (N : Nat) (IH : BulkC N) : BulkC (N + 1) := by
  intro m q t v w hq hm hbN h
  subst hq
  obtain ⟨ra, rc, ka, kc, sa, sc, rfl, ht⟩ := h.form
  obtain ⟨w1, hw1⟩ : ∃ w1, w1 = w.alloc (.cells #[.int .i64 t.kind, .int .i64 t.n, .string t.name, .slice ra t.r.length rc, .slice ka t.kids.length kc, .slice sa t.sys.length sc] 26) := ⟨_, rfl⟩
  have b1 : Below w.heap.size w w1 := by rw [hw1]; exact belowA _ _
  have c6 : Cs6 w1 w.heap.size 0 t ra rc ka kc sa sc := by rw [hw1]; exact cs6_new w t ra rc ka kc sa sc
  have HT : Hid (TmTop Tt w1 t ra rc ka kc sa sc) := ht.blw b1
  have HC : Hid (Cs6 w1 w.heap.size 0 t ra rc ka kc sa sc) := c6
  have hbs := blk_eq t
  have HB : Hid (blk t = 1 + t.r.length + t.name.size + blkL t.kids + blkS t.sys) := hbs
  obtain ⟨R, hR⟩ : ∃ R, R = t.r.length := ⟨_, rfl⟩
  obtain ⟨Q, hQ⟩ : ∃ Q, Q = t.name.size := ⟨_, rfl⟩
  have HR : Hid (R = t.r.length ∧ Q = t.name.size) := ⟨hR, hQ⟩
  obtain ⟨_, y0, y1, y2, y3, y4, y5⟩ := c6
  simp only [Nat.zero_add] at y1 y2 y3 y4 y5
  rw [← hR] at y3 hw1
  rw [← hR, ← hQ] at hbs
  have HW : Hid (_ = _) := hw1
  clear hw1 h ht
  rw [← hR]
  have hsz : t.name.size = Q := hQ.symm
  clear hR hQ
  by_cases h1 : m < R
  · have hi : (m : Int) < (R : Int) := by omega
    go_enter Tryz.func17, Tryz.ntmps17
    go_wp2_with fail
    rw [← HW.out]
    go_wp2_with fail
    go_ret
    exact ⟨⟨m + 1, by go_num, by unfold BulkR; omega⟩, b1⟩
  · have hi : ¬ (m : Int) < (R : Int) := by omega
    by_cases h2 : m < Q
    · have hi2 : (m : Int) < (Q : Int) := by omega
      go_enter Tryz.func17, Tryz.ntmps17
      go_wp2_with fail
      rw [← HW.out]
      go_wp2_with fail
      go_ret
      exact ⟨⟨m + 1, by go_num, by unfold BulkR; omega⟩, b1⟩
    · have hi2 : ¬ (m : Int) < (Q : Int) := by omega
      obtain ⟨L, hL⟩ : ∃ L, L = t.kids.length := ⟨_, rfl⟩
      have HL : Hid (L = t.kids.length) := hL
      obtain ⟨M, hM⟩ : ∃ M, M = t.sys.length := ⟨_, rfl⟩
      have HM : Hid (M = t.sys.length) := hM
      have HBs : Hid (blk t = 1 + R + Q + blkL t.kids + blkS t.sys) := hbs
      clear hL hM hbs
      go_enter Tryz.func17, Tryz.ntmps17
      go_wp2_with fail
      rw [← HW.out]
      clear y0 y1 y2 y3 y4 y5
      go_loopw [5, 6] (fun s i wr => ∃ k S : Nat, k ≤ L ∧ i = .int .i64 k ∧ s = .int .i64 S ∧ Pt m S (1 + R + Q + blkL (t.kids.take k)) ∧ S ≤ 2 * m + 2 ∧ k + 1 ≤ S ∧ Below w1.heap.size w1 wr) (fun _ i _ => L - (intOf i).toNat)
      case atStart => exact ⟨0, 1 + R + Q, Nat.zero_le _, rfl, by go_num, ⟨.inl (by simp [blkL])⟩, by omega, by omega, Below.refl _ _⟩
      case round =>
        obtain ⟨wo, hwo⟩ : ∃ wo, wo = wr := ⟨_, rfl⟩
        subst hwo
        obtain ⟨k, S, hk, rfl, rfl, hS, hSm, hkS, hBr⟩ := hrel
        obtain ⟨_, x0, x1, x2, x3, x4, x5⟩ := HC.out.blw hBr
        simp only [Nat.zero_add] at x1 x2 x3 x4 x5
        rw [← HL.out] at x4
        rw [← HM.out] at x5
        by_cases hgo : k < L ∧ S ≤ m
        · obtain ⟨hlt, hSl⟩ := hgo
          have hkI : (k : Int) < (L : Int) := by omega
          have hSI : (S : Int) ≤ (m : Int) := by omega
          obtain ⟨y, hy⟩ := someL (l := t.kids) (k := k) (by rw [← HL.out]; exact hlt)
          obtain ⟨g, off, ra1, rc1, ka1, kc1, sa1, sc1, rfl, hg, q6, qt⟩ := (HT.out.blw hBr).kids.at hy
          have hby : blk y < blk t := blk_kid (List.mem_of_getElem? hy)
          have HY : Hid (_ = _) := blkL_step hy
          have cc := IH (m - S) ((m : Int) - (S : Int)) y _ wo (by omega) (by omega) (by omega) qt.value
          obtain ⟨_, c0, c1, c2, c3, c4, c5⟩ := q6
          clear hy qt
          go_wp2_with fail
          refine cc.mono ?_
          rintro e w6 ⟨⟨r, rfl, hr⟩, hb6⟩
          clear cc
          have hP := (hS.step hSl hr).to (show _ = 1 + R + Q + blkL (t.kids.take (k + 1)) by rw [HY.out]; omega)
          obtain ⟨_, _, r3, r4⟩ := hr
          clear HY hS x0 x1 x2 x3 x4 x5 c0 c1 c2 c3 c4 c5
          go_wp2_with fail
          go_roundw
          case rel => exact ⟨k + 1, S + r, by omega, by go_num, by go_num, hP, by omega, by omega, hBr.trans (hb6.mono hBr.size)⟩
          case measure => simp [intOf]; omega
        · have HP0 : Pt m S (1 + R + Q + blkL (t.kids.take k)) ∧ (blkL (t.kids.take k) = blkL t.kids ∨ m < S) := ⟨hS, by
            by_cases hkL : k < L
            · right; omega
            · left; rw [List.take_of_length_le (by rw [← HL.out]; omega)]⟩
          have HPt : Hid (Pt m S (1 + R + Q + blkL t.kids)) := (by
            have h9 := blkL_take t.kids k
            have := HP0.1.out
            rcases HP0.2 with e | e
            · rw [← e]; exact HP0.1
            · exact ⟨.inr ⟨e, by omega⟩⟩ : Pt m S (1 + R + Q + blkL t.kids))
          clear HP0 hS
          rcases (show L ≤ k ∨ (k < L ∧ m < S) by omega) with hend | ⟨hend, hend2⟩
          · have hkI : ¬ (k : Int) < (L : Int) := by omega
            go_wp2_with fail
            clear x0 x1 x2 x3 x4 x5
            have hS1 : 1 ≤ S := by omega
            go_loopw [5, 7] (fun s i wr => ∃ k S : Nat, k ≤ M ∧ i = .int .i64 k ∧ s = .int .i64 S ∧ Pt m S (1 + R + Q + blkL t.kids + blkS (t.sys.take k)) ∧ S ≤ 2 * m + 2 ∧ k + 1 ≤ S ∧ Below w1.heap.size w1 wr) (fun _ i _ => M - (intOf i).toNat)
            case atStart => exact ⟨0, S, Nat.zero_le _, rfl, rfl, HPt.out.to (by simp [blkS]), hSm, by omega, hBr⟩
            case round =>
              obtain ⟨wp, hwp⟩ : ∃ wp, wp = wr := ⟨_, rfl⟩
              subst hwp
              clear hkI hBr hSm hkS HPt hS1
              obtain ⟨k, S, hk, rfl, rfl, hS, hSm, hkS, hBr⟩ := hrel
              obtain ⟨_, x0, x1, x2, x3, x4, x5⟩ := HC.out.blw hBr
              simp only [Nat.zero_add] at x1 x2 x3 x4 x5
              rw [← HM.out] at x5
              by_cases hgo : k < M ∧ S ≤ m
              · obtain ⟨hlt, hSl⟩ := hgo
                have hkI : (k : Int) < (M : Int) := by omega
                have hSI : (S : Int) ≤ (m : Int) := by omega
                obtain ⟨b, hb⟩ := someL (l := t.sys) (k := k) (by rw [← HM.out]; exact hlt)
                obtain ⟨g, off, fa, fc, ka1, kc1, rfl, hg, q2, qf, qk⟩ := (HT.out.blw hBr).sys.at hb
                have HY : Hid (_ = _) := blkS_step hb
                have HMm : Hid (b ∈ t.sys) := List.mem_of_getElem? hb
                have hle := blkS_take t.sys (k + 1)
                have hle2 := HY.out
                have HQ2 : Hid (Cs2 wp g (off + k * 2) b fa fc ka1 kc1) := q2
                have HK : Hid (KdT Tt wp (TmIn Tt wp) b.2 (.slice ka1 b.2.length kc1)) := qk
                obtain ⟨_, c0, c1⟩ := q2
                obtain ⟨Fl, hFl⟩ : ∃ Fl, Fl = b.1.length := ⟨_, rfl⟩
                have HF : Hid (Fl = b.1.length) := hFl
                obtain ⟨K, hK⟩ : ∃ K, K = b.2.length := ⟨_, rfl⟩
                have HKl : Hid (K = b.2.length) := hK
                rw [← hFl] at c0 hle2
                rw [← hK] at c1
                clear hFl hK hb qf qk
                by_cases hf : m < Fl
                · have hfI : (m : Int) < (Fl : Int) := by omega
                  have HRR : Hid (BulkR m (blk t) (m + 1)) := (by have := HBs.out; unfold BulkR; omega : BulkR m (blk t) (m + 1))
                  clear hle hle2
                  go_wp2_with fail
                  go_ret
                  exact ⟨⟨m + 1, by go_num, HRR.out⟩, bchain b1 hBr⟩
                · have hfI : ¬ (m : Int) < (Fl : Int) := by omega
                  clear hle hle2
                  go_wp2_with fail
                  have HP1 : Hid (Pt m (S + 1 + Fl) (1 + R + Q + blkL t.kids + blkS (t.sys.take k) + 1 + Fl + blkL (b.2.take 0))) := ((hS.add 1).add Fl).to (by simp [blkL])
                  clear hS x0 x1 x2 x3 x4 x5 c0 c1
                  have hS2 : S + 1 + Fl ≤ 2 * m + 2 := by omega
                  go_loopw [5, 8] (fun s i wr => ∃ j S' : Nat, j ≤ K ∧ i = .int .i64 j ∧ s = .int .i64 S' ∧ Pt m S' (1 + R + Q + blkL t.kids + blkS (t.sys.take k) + 1 + Fl + blkL (b.2.take j)) ∧ S' ≤ 2 * m + 2 ∧ k + 2 + j ≤ S' ∧ Below wp.heap.size wp wr) (fun _ i _ => K - (intOf i).toNat)
                  case atStart => exact ⟨0, S + 1 + Fl, Nat.zero_le _, rfl, by go_num, HP1.out, hS2, by omega, Below.refl _ _⟩
                  case round =>
                    obtain ⟨wq, hwq⟩ : ∃ wq, wq = wr := ⟨_, rfl⟩
                    subst hwq
                    obtain ⟨j, S', hj, rfl, rfl, hS', hSm', hjS, hBq⟩ := hrel
                    have hB2 := bchain hBr hBq
                    obtain ⟨_, x0, x1, x2, x3, x4, x5⟩ := HC.out.blw hB2
                    simp only [Nat.zero_add] at x1 x2 x3 x4 x5
                    rw [← HM.out] at x5
                    obtain ⟨_, c0, c1⟩ := HQ2.out.blw hBq
                    rw [← HKl.out] at c1
                    by_cases hgo2 : j < K ∧ S' ≤ m
                    · obtain ⟨hlt2, hSl2⟩ := hgo2
                      have hjI : (j : Int) < (K : Int) := by omega
                      have hSI2 : (S' : Int) ≤ (m : Int) := by omega
                      obtain ⟨y, hy⟩ := someL (l := b.2) (k := j) (by rw [← HKl.out]; exact hlt2)
                      obtain ⟨g2, off2, ra2, rc2, ka2, kc2, sa2, sc2, rfl, hg2, q6, qt⟩ := (HK.out.blw hBq).at hy
                      have hby : blk y < blk t := blk_sub HMm.out (List.mem_of_getElem? hy)
                      have HY2 : Hid (_ = _) := blkL_step hy
                      have cc := IH (m - S') ((m : Int) - (S' : Int)) y _ wq (by omega) (by omega) (by omega) qt.value
                      obtain ⟨_, d0, d1, d2, d3, d4, d5⟩ := q6
                      clear hy qt
                      go_wp2_with fail
                      refine cc.mono ?_
                      rintro e w6 ⟨⟨r, rfl, hr⟩, hb6⟩
                      clear cc
                      have hP := (hS'.step hSl2 hr).to (show _ = 1 + R + Q + blkL t.kids + blkS (t.sys.take k) + 1 + Fl + blkL (b.2.take (j + 1)) by rw [HY2.out]; omega)
                      obtain ⟨_, _, r3, r4⟩ := hr
                      clear HY2 hS' x0 x1 x2 x3 x4 x5 c0 c1 d0 d1 d2 d3 d4 d5
                      go_wp2_with fail
                      go_roundw
                      case rel => exact ⟨j + 1, S' + r, by omega, by go_num, by go_num, hP, by omega, by omega, hBq.trans (hb6.mono hBq.size)⟩
                      case measure => simp [intOf]; omega
                    · have HPn : Hid (Pt m S' (1 + R + Q + blkL t.kids + blkS (t.sys.take (k + 1)))) := (by
                        have e0 := HY.out
                        rw [← HF.out] at e0
                        have h9 := blkL_take b.2 j
                        have h8 := hS'.out
                        by_cases hjK : j < K
                        · exact ⟨.inr ⟨by omega, by omega⟩⟩
                        · have e9 : b.2.take j = b.2 := List.take_of_length_le (by rw [← HKl.out]; omega)
                          rw [e9] at hS'
                          exact hS'.to (by omega) : Pt m S' (1 + R + Q + blkL t.kids + blkS (t.sys.take (k + 1))))
                      clear hS'
                      rcases (show K ≤ j ∨ (j < K ∧ m < S') by omega) with hend | ⟨hend, hend2⟩
                      · have hjI : ¬ (j : Int) < (K : Int) := by omega
                        go_wp2_with fail
                        go_roundw
                        case rel => exact ⟨k + 1, S', by omega, by go_num, rfl, HPn.out, hSm', by omega, hB2⟩
                        case measure => simp [intOf]; omega
                      · have hjI : (j : Int) < (K : Int) := by omega
                        have hSI2 : ¬ (S' : Int) ≤ (m : Int) := by omega
                        go_wp2_with fail
                        go_roundw
                        case rel => exact ⟨k + 1, S', by omega, by go_num, rfl, HPn.out, hSm', by omega, hB2⟩
                        case measure => simp [intOf]; omega
              · have HRR : Hid (BulkR m (blk t) S) := (by
                  have h3 := HBs.out
                  have h9 := blkS_take t.sys k
                  refine hS.bulk (by omega) ?_ hSm (by omega)
                  by_cases hkM : k < M
                  · right; omega
                  · left; rw [List.take_of_length_le (by rw [← HM.out]; omega)]; omega : BulkR m (blk t) S)
                clear hS
                rcases (show M ≤ k ∨ (k < M ∧ m < S) by omega) with hend | ⟨hend, hend2⟩
                · have hkI : ¬ (k : Int) < (M : Int) := by omega
                  go_wp2_with fail
                  go_ret
                  exact ⟨⟨S, rfl, HRR.out⟩, bchain b1 hBr⟩
                · have hkI : (k : Int) < (M : Int) := by omega
                  have hSI : ¬ (S : Int) ≤ (m : Int) := by omega
                  go_wp2_with fail
                  go_ret
                  exact ⟨⟨S, rfl, HRR.out⟩, bchain b1 hBr⟩
          · have hkI : (k : Int) < (L : Int) := by omega
            have hSI : ¬ (S : Int) ≤ (m : Int) := by omega
            go_wp2_with fail
            clear x0 x1 x2 x3 x4 x5
            have hS1 : 1 ≤ S := by omega
            go_loopw [5, 7] (fun s i wr => ∃ k S : Nat, k ≤ M ∧ i = .int .i64 k ∧ s = .int .i64 S ∧ Pt m S (1 + R + Q + blkL t.kids + blkS (t.sys.take k)) ∧ S ≤ 2 * m + 2 ∧ k + 1 ≤ S ∧ Below w1.heap.size w1 wr) (fun _ i _ => M - (intOf i).toNat)
            case atStart => exact ⟨0, S, Nat.zero_le _, rfl, rfl, HPt.out.to (by simp [blkS]), hSm, by omega, hBr⟩
            case round =>
              obtain ⟨wp, hwp⟩ : ∃ wp, wp = wr := ⟨_, rfl⟩
              subst hwp
              clear hkI hBr hSm hkS HPt hS1
              obtain ⟨k, S, hk, rfl, rfl, hS, hSm, hkS, hBr⟩ := hrel
              obtain ⟨_, x0, x1, x2, x3, x4, x5⟩ := HC.out.blw hBr
              simp only [Nat.zero_add] at x1 x2 x3 x4 x5
              rw [← HM.out] at x5
              by_cases hgo : k < M ∧ S ≤ m
              · obtain ⟨hlt, hSl⟩ := hgo
                have hkI : (k : Int) < (M : Int) := by omega
                have hSI : (S : Int) ≤ (m : Int) := by omega
                obtain ⟨b, hb⟩ := someL (l := t.sys) (k := k) (by rw [← HM.out]; exact hlt)
                obtain ⟨g, off, fa, fc, ka1, kc1, rfl, hg, q2, qf, qk⟩ := (HT.out.blw hBr).sys.at hb
                have HY : Hid (_ = _) := blkS_step hb
                have HMm : Hid (b ∈ t.sys) := List.mem_of_getElem? hb
                have hle := blkS_take t.sys (k + 1)
                have hle2 := HY.out
                have HQ2 : Hid (Cs2 wp g (off + k * 2) b fa fc ka1 kc1) := q2
                have HK : Hid (KdT Tt wp (TmIn Tt wp) b.2 (.slice ka1 b.2.length kc1)) := qk
                obtain ⟨_, c0, c1⟩ := q2
                obtain ⟨Fl, hFl⟩ : ∃ Fl, Fl = b.1.length := ⟨_, rfl⟩
                have HF : Hid (Fl = b.1.length) := hFl
                obtain ⟨K, hK⟩ : ∃ K, K = b.2.length := ⟨_, rfl⟩
                have HKl : Hid (K = b.2.length) := hK
                rw [← hFl] at c0 hle2
                rw [← hK] at c1
                clear hFl hK hb qf qk
                by_cases hf : m < Fl
                · have hfI : (m : Int) < (Fl : Int) := by omega
                  have HRR : Hid (BulkR m (blk t) (m + 1)) := (by have := HBs.out; unfold BulkR; omega : BulkR m (blk t) (m + 1))
                  clear hle hle2
                  go_wp2_with fail
                  go_ret
                  exact ⟨⟨m + 1, by go_num, HRR.out⟩, bchain b1 hBr⟩
                · have hfI : ¬ (m : Int) < (Fl : Int) := by omega
                  clear hle hle2
                  go_wp2_with fail
                  have HP1 : Hid (Pt m (S + 1 + Fl) (1 + R + Q + blkL t.kids + blkS (t.sys.take k) + 1 + Fl + blkL (b.2.take 0))) := ((hS.add 1).add Fl).to (by simp [blkL])
                  clear hS x0 x1 x2 x3 x4 x5 c0 c1
                  have hS2 : S + 1 + Fl ≤ 2 * m + 2 := by omega
                  go_loopw [5, 8] (fun s i wr => ∃ j S' : Nat, j ≤ K ∧ i = .int .i64 j ∧ s = .int .i64 S' ∧ Pt m S' (1 + R + Q + blkL t.kids + blkS (t.sys.take k) + 1 + Fl + blkL (b.2.take j)) ∧ S' ≤ 2 * m + 2 ∧ k + 2 + j ≤ S' ∧ Below wp.heap.size wp wr) (fun _ i _ => K - (intOf i).toNat)
                  case atStart => exact ⟨0, S + 1 + Fl, Nat.zero_le _, rfl, by go_num, HP1.out, hS2, by omega, Below.refl _ _⟩
                  case round =>
                    obtain ⟨wq, hwq⟩ : ∃ wq, wq = wr := ⟨_, rfl⟩
                    subst hwq
                    obtain ⟨j, S', hj, rfl, rfl, hS', hSm', hjS, hBq⟩ := hrel
                    have hB2 := bchain hBr hBq
                    obtain ⟨_, x0, x1, x2, x3, x4, x5⟩ := HC.out.blw hB2
                    simp only [Nat.zero_add] at x1 x2 x3 x4 x5
                    rw [← HM.out] at x5
                    obtain ⟨_, c0, c1⟩ := HQ2.out.blw hBq
                    rw [← HKl.out] at c1
                    by_cases hgo2 : j < K ∧ S' ≤ m
                    · obtain ⟨hlt2, hSl2⟩ := hgo2
                      have hjI : (j : Int) < (K : Int) := by omega
                      have hSI2 : (S' : Int) ≤ (m : Int) := by omega
                      obtain ⟨y, hy⟩ := someL (l := b.2) (k := j) (by rw [← HKl.out]; exact hlt2)
                      obtain ⟨g2, off2, ra2, rc2, ka2, kc2, sa2, sc2, rfl, hg2, q6, qt⟩ := (HK.out.blw hBq).at hy
                      have hby : blk y < blk t := blk_sub HMm.out (List.mem_of_getElem? hy)
                      have HY2 : Hid (_ = _) := blkL_step hy
                      have cc := IH (m - S') ((m : Int) - (S' : Int)) y _ wq (by omega) (by omega) (by omega) qt.value
                      obtain ⟨_, d0, d1, d2, d3, d4, d5⟩ := q6
                      clear hy qt
                      go_wp2_with fail
                      refine cc.mono ?_
                      rintro e w6 ⟨⟨r, rfl, hr⟩, hb6⟩
                      clear cc
                      have hP := (hS'.step hSl2 hr).to (show _ = 1 + R + Q + blkL t.kids + blkS (t.sys.take k) + 1 + Fl + blkL (b.2.take (j + 1)) by rw [HY2.out]; omega)
                      obtain ⟨_, _, r3, r4⟩ := hr
                      clear HY2 hS' x0 x1 x2 x3 x4 x5 c0 c1 d0 d1 d2 d3 d4 d5
                      go_wp2_with fail
                      go_roundw
                      case rel => exact ⟨j + 1, S' + r, by omega, by go_num, by go_num, hP, by omega, by omega, hBq.trans (hb6.mono hBq.size)⟩
                      case measure => simp [intOf]; omega
                    · have HPn : Hid (Pt m S' (1 + R + Q + blkL t.kids + blkS (t.sys.take (k + 1)))) := (by
                        have e0 := HY.out
                        rw [← HF.out] at e0
                        have h9 := blkL_take b.2 j
                        have h8 := hS'.out
                        by_cases hjK : j < K
                        · exact ⟨.inr ⟨by omega, by omega⟩⟩
                        · have e9 : b.2.take j = b.2 := List.take_of_length_le (by rw [← HKl.out]; omega)
                          rw [e9] at hS'
                          exact hS'.to (by omega) : Pt m S' (1 + R + Q + blkL t.kids + blkS (t.sys.take (k + 1))))
                      clear hS'
                      rcases (show K ≤ j ∨ (j < K ∧ m < S') by omega) with hend | ⟨hend, hend2⟩
                      · have hjI : ¬ (j : Int) < (K : Int) := by omega
                        go_wp2_with fail
                        go_roundw
                        case rel => exact ⟨k + 1, S', by omega, by go_num, rfl, HPn.out, hSm', by omega, hB2⟩
                        case measure => simp [intOf]; omega
                      · have hjI : (j : Int) < (K : Int) := by omega
                        have hSI2 : ¬ (S' : Int) ≤ (m : Int) := by omega
                        go_wp2_with fail
                        go_roundw
                        case rel => exact ⟨k + 1, S', by omega, by go_num, rfl, HPn.out, hSm', by omega, hB2⟩
                        case measure => simp [intOf]; omega
              · have HRR : Hid (BulkR m (blk t) S) := (by
                  have h3 := HBs.out
                  have h9 := blkS_take t.sys k
                  refine hS.bulk (by omega) ?_ hSm (by omega)
                  by_cases hkM : k < M
                  · right; omega
                  · left; rw [List.take_of_length_le (by rw [← HM.out]; omega)]; omega : BulkR m (blk t) S)
                clear hS
                rcases (show M ≤ k ∨ (k < M ∧ m < S) by omega) with hend | ⟨hend, hend2⟩
                · have hkI : ¬ (k : Int) < (M : Int) := by omega
                  go_wp2_with fail
                  go_ret
                  exact ⟨⟨S, rfl, HRR.out⟩, bchain b1 hBr⟩
                · have hkI : (k : Int) < (M : Int) := by omega
                  have hSI : ¬ (S : Int) ≤ (m : Int) := by omega
                  go_wp2_with fail
                  go_ret
                  exact ⟨⟨S, rfl, HRR.out⟩, bchain b1 hBr⟩
theorem bulk_any (N : Nat) : BulkC N := by
  induction N with
  | zero => intro m q t v w _ _ hb; have := blk_pos t; omega
  | succ N ih => exact bulk_step N ih
end Go.Proofs.YtjimednocmdpnaaGreat

namespace Go.Proofs.YtjimednocmdpnaaGreat
open Go.RowKit
set_option linter.unusedVariables false
set_option linter.unusedSimpArgs false

def cP (n : Fin 4294967296) : C := (n, 0)
def wU : Tm := .mk 3 0 ⟨#[]⟩ [] [] []
def wA : Tm := .mk 21 0 ⟨#[]⟩ [cP 1] [] []
def wA2 : Tm := .mk 21 0 ⟨#[]⟩ [cP 2] [] []
def wB : Tm := .mk 21 0 ⟨#[]⟩ [cP 1, cP 2] [] []
def wH : Tm := .mk 15 0 ⟨#[]⟩ [] [wU, wU] [([cP 1], [wU])]
def wH2 : Tm := .mk 15 0 ⟨#[]⟩ [] [wU, wU] []
theorem wk_pE : putE 0 [cP 2] wA = 0 := by decide +kernel
theorem wk_pT : putT' 0 [cP 2] wA = wA2 := by kernel_rfl
theorem wk_tE : takE 0 [] wB = 0 := by decide +kernel
theorem wk_tT : takT 0 [] wB = wA := by kernel_rfl
theorem wk_u : undA ((0, 1) : C) wH = (wH2, 0) := by kernel_rfl
theorem wk_b1 : blk wA ≤ 20000 := by decide +kernel
theorem wk_b2 : blk wB ≤ 20000 := by decide +kernel
theorem wk_b3 : blk wH ≤ 20000 ∧ capT wH ≤ 40000 ∧ capT wB ≤ 40000 := by decide +kernel
theorem wrow1_in (w : World) (g : Nat) (n : Fin 4294967296) (h : w.heap[g]? = some (.cells #[.int .u32 (n.val : Int), .int .u32 0] 43 (0, 0))) : ClRow Tt w [cP n] (.slice (some ⟨g, 0, none⟩) 1 1) := by
  refine ⟨_, _, rfl, Nat.le_refl _, fun j x hx => ?_⟩
  have hj : j = 0 := by have := some_lt hx; simp at this; omega
  subst hj
  simp only [List.getElem?_cons_zero, Option.some.injEq] at hx
  subst hx
  refine ⟨g, 0, rfl, trivial, (Array.getElem?_eq_some_iff.1 h).1, ?_, ?_⟩ <;> (unfold World.cell?; simp [h, cP])
theorem wrow2_in (w : World) (g : Nat) (h : w.heap[g]? = some (.cells #[.int .u32 1, .int .u32 0, .int .u32 2, .int .u32 0] 43 (0, 0))) : ClRow Tt w [cP 1, cP 2] (.slice (some ⟨g, 0, none⟩) 2 2) := by
  refine ⟨_, _, rfl, Nat.le_refl _, fun j x hx => ?_⟩
  have hj : j = 0 ∨ j = 1 := by have := some_lt hx; simp at this; omega
  rcases hj with rfl | rfl
  · simp only [List.getElem?_cons_zero, Option.some.injEq] at hx
    subst hx
    refine ⟨g, 0, rfl, trivial, (Array.getElem?_eq_some_iff.1 h).1, ?_, ?_⟩ <;> (unfold World.cell?; simp [h, cP])
  · simp only [List.getElem?_cons_succ, List.getElem?_cons_zero, Option.some.injEq] at hx
    subst hx
    refine ⟨g, 0, rfl, trivial, (Array.getElem?_eq_some_iff.1 h).1, ?_, ?_⟩ <;> (unfold World.cell?; simp [h, cP])
theorem wU_in (w : World) : TmIn Tt w wU (.agg #[.int .i64 3, .int .i64 0, .string ⟨#[]⟩, .slice none 0 0, .slice none 0 0, .slice none 0 0]) :=
  .mk _ _ _ _ _ _ _ _ _ ⟨by decide, by decide⟩ ⟨by decide, by decide⟩ (cl_nil0 w) (kd_nil0 w) (sy_nil0 w)
theorem wLoop_in (w : World) (l : List C) (a : Option Addr) (n c : Nat) (h : ClRow Tt w l (.slice a n c)) : TmIn Tt w (.mk 21 0 ⟨#[]⟩ l [] []) (.agg #[.int .i64 21, .int .i64 0, .string ⟨#[]⟩, .slice a n c, .slice none 0 0, .slice none 0 0]) :=
  .mk _ _ _ _ _ _ _ _ _ ⟨by decide, by decide⟩ ⟨by decide, by decide⟩ h (kd_nil0 w) (sy_nil0 w)
theorem wKids1 (w : World) (g : Nat) (h : w.heap[g]? = some (.cells #[.int .i64 3, .int .i64 0, .string ⟨#[]⟩, .slice none 0 0, .slice none 0 0, .slice none 0 0] 26 (0, 0))) : KdT Tt w (TmIn Tt w) [wU] (.slice (some ⟨g, 0, none⟩) 1 1) := by
  refine ⟨_, _, rfl, Nat.le_refl _, fun j x hx => ?_⟩
  have hj : j = 0 := by have := some_lt hx; simp at this; omega
  subst hj
  simp only [List.getElem?_cons_zero, Option.some.injEq] at hx
  subst hx
  refine ⟨g, 0, _, _, _, _, _, _, rfl, trivial, (Array.getElem?_eq_some_iff.1 h).1, wU_in w, ?_, ?_, ?_, ?_, ?_, ?_⟩ <;> (unfold World.cell?; simp [h])
theorem wKids2 (w : World) (g : Nat) (h : w.heap[g]? = some (.cells #[.int .i64 3, .int .i64 0, .string ⟨#[]⟩, .slice none 0 0, .slice none 0 0, .slice none 0 0, .int .i64 3, .int .i64 0, .string ⟨#[]⟩, .slice none 0 0, .slice none 0 0, .slice none 0 0] 26 (0, 0))) : KdT Tt w (TmIn Tt w) [wU, wU] (.slice (some ⟨g, 0, none⟩) 2 2) := by
  refine ⟨_, _, rfl, Nat.le_refl _, fun j x hx => ?_⟩
  have hj : j = 0 ∨ j = 1 := by have := some_lt hx; simp at this; omega
  rcases hj with rfl | rfl
  · simp only [List.getElem?_cons_zero, Option.some.injEq] at hx
    subst hx
    refine ⟨g, 0, _, _, _, _, _, _, rfl, trivial, (Array.getElem?_eq_some_iff.1 h).1, wU_in w, ?_, ?_, ?_, ?_, ?_, ?_⟩ <;> (unfold World.cell?; simp [h])
  · simp only [List.getElem?_cons_succ, List.getElem?_cons_zero, Option.some.injEq] at hx
    subst hx
    refine ⟨g, 0, _, _, _, _, _, _, rfl, trivial, (Array.getElem?_eq_some_iff.1 h).1, wU_in w, ?_, ?_, ?_, ?_, ?_, ?_⟩ <;> (unfold World.cell?; simp [h])
theorem wH_in (w : World) (g1 g2 g3 g4 : Nat) (h1 : w.heap[g1]? = some (.cells #[.int .i64 3, .int .i64 0, .string ⟨#[]⟩, .slice none 0 0, .slice none 0 0, .slice none 0 0, .int .i64 3, .int .i64 0, .string ⟨#[]⟩, .slice none 0 0, .slice none 0 0, .slice none 0 0] 26 (0, 0)))
    (h2 : w.heap[g2]? = some (.cells #[.int .u32 1, .int .u32 0] 43 (0, 0))) (h3 : w.heap[g3]? = some (.cells #[.int .i64 3, .int .i64 0, .string ⟨#[]⟩, .slice none 0 0, .slice none 0 0, .slice none 0 0] 26 (0, 0)))
    (h4 : w.heap[g4]? = some (.cells #[.slice (some ⟨g2, 0, none⟩) 1 1, .slice (some ⟨g3, 0, none⟩) 1 1] 46 (0, 0))) :
    TmIn Tt w wH (.agg #[.int .i64 15, .int .i64 0, .string ⟨#[]⟩, .slice none 0 0, .slice (some ⟨g1, 0, none⟩) 2 2, .slice (some ⟨g4, 0, none⟩) 1 1]) := by
  refine .mk _ _ _ _ _ _ _ _ _ ⟨by decide, by decide⟩ ⟨by decide, by decide⟩ (cl_nil0 w) (wKids2 w g1 h1) ⟨_, _, rfl, Nat.le_refl _, fun j x hx => ?_⟩
  have hj : j = 0 := by have := some_lt hx; simp at this; omega
  subst hj
  simp only [List.getElem?_cons_zero, Option.some.injEq] at hx
  subst hx
  refine ⟨g4, 0, _, _, rfl, trivial, (Array.getElem?_eq_some_iff.1 h4).1, wrow1_in w g2 1 h2, wKids1 w g3 h3, ?_, ?_⟩ <;> (unfold World.cell?; simp [h4])
theorem loop_any (a : Option Addr) (n c : Nat) (w : World) : Calls Tryz.prog 14 #[.slice a n c] w fun e w' => e = .returned (.agg #[.int .i64 21, .int .i64 0, .string ⟨#[]⟩, .slice a n c, .slice none 0 0, .slice none 0 0]) ∧ Below w.heap.size w w' := by
  obtain ⟨w1, hw1⟩ : ∃ W, W = w.alloc (.cells #[.int .i64 21, .int .i64 0, .string ⟨#[]⟩, .slice a n c, .slice none 0 0, .slice none 0 0] 26) := ⟨_, rfl⟩
  have b1 : Below w.heap.size w w1 := by rw [hw1]; exact belowA _ _
  have m1 : Six w1 w.heap.size (.int .i64 21) (.int .i64 0) (.string ⟨#[]⟩) (.slice a n c) (.slice none 0 0) (.slice none 0 0) := ⟨by rw [hw1]; exact heapNew _ _⟩
  obtain ⟨h0, h1, h2, h3, h4, h5, _⟩ := m1.cells
  have H1 : Hid (_ = _) := hw1
  clear hw1 m1
  go_enter Tryz.func14, Tryz.ntmps14
  go_wp2_with fail
  rw [← H1.out]
  exact bodyPost_ret (v := .agg #[.int .i64 21, .int .i64 0, .string ⟨#[]⟩, .slice a n c, .slice none 0 0, .slice none 0 0]) (by simp only [results, Tryz.results14]; simp [go_sem, h0, h1, h2, h3, h4, h5]) rfl ⟨rfl, b1⟩
set_option maxRecDepth 100000 in
set_option maxHeartbeats 8000000 in
theorem works13_any (w : World) : Calls Tryz.prog 4 #[] w fun e w' => e = .returned (.bool true) ∧ Below w.heap.size w w' := by
  -- Put
  obtain ⟨w1, hw1⟩ : ∃ W, W = w.alloc (.cells #[.int .u32 1, .int .u32 0] 43) := ⟨_, rfl⟩
  have b1 : Below w.heap.size w w1 := by rw [hw1]; exact belowA _ _
  have m1 : w1.heap[w.heap.size]? = some (.cells #[.int .u32 1, .int .u32 0] 43 (0, 0)) := by rw [hw1]; exact heapNew _ _
  have c1 := loop_any (some ⟨w.heap.size, 0, none⟩) 1 1 w1
  obtain ⟨X, hX⟩ : ∃ X, X = w.heap.size := ⟨_, rfl⟩
  rw [← hX] at c1 m1
  have H1 : Hid (_ = _) := hw1
  have HX : Hid (X = w.heap.size) := hX
  have B1 : Below X w w1 := by rw [hX]; exact b1
  rw [← hX]
  clear hw1 hX b1
  go_enter Tryz.func4, Tryz.ntmps4
  go_wp2_with fail
  simp only [← HX.out]
  rw [← H1.out]
  refine c1.mono ?_
  rintro e w2 ⟨rfl, b2⟩
  clear c1 H1
  obtain ⟨w3, hw3⟩ : ∃ W, W = w2.alloc (.cells #[.int .u32 2, .int .u32 0] 43) := ⟨_, rfl⟩
  have b3 : Below w2.heap.size w2 w3 := by rw [hw3]; exact belowA _ _
  have m3 : w3.heap[w2.heap.size]? = some (.cells #[.int .u32 2, .int .u32 0] 43 (0, 0)) := by rw [hw3]; exact heapNew _ _
  have b13 := bchain b2 b3
  have r1 := (wrow1_in w1 X 1 m1).blw b13
  have c3 := dput_any wA _ w3 (wLoop_in w3 [cP 1] _ _ _ r1) wk_b1 0 [cP 2] _ (wrow1_in w3 w2.heap.size 2 m3) (by simp)
  rw [wk_pE, wk_pT] at c3
  have B3 : Below X w w3 := B1.trans (b13.mono (by have := B1.size; have := HX.out; omega))
  have H3 : Hid (_ = _) := hw3
  clear hw3 r1 m1 m3
  go_wp2_with fail
  rw [← H3.out]
  refine c3.mono ?_
  rintro e w4 ⟨v4, rfl, hv4, b4⟩
  clear c3 H3
  obtain ⟨ra4, rc4, ka4, kc4, sa4, sc4, rfl, ht4⟩ := hv4.form
  obtain ⟨w5, hw5⟩ : ∃ W, W = w4.alloc (.cells #[.int .i64 21, .int .i64 0, .string ⟨#[]⟩, .slice ra4 1 rc4, .slice ka4 0 kc4, .slice sa4 0 sc4] 26) := ⟨_, rfl⟩
  obtain ⟨A, hA⟩ : ∃ A, A = w4.heap.size := ⟨_, rfl⟩
  have b5 : Below w4.heap.size w4 w5 := by rw [hw5]; exact belowA _ _
  have n5 : Six w5 A (.int .i64 21) (.int .i64 0) (.string ⟨#[]⟩) (.slice ra4 1 rc4) (.slice ka4 0 kc4) (.slice sa4 0 sc4) := ⟨by rw [hw5, hA]; exact heapNew _ _⟩
  have b35 := bchain b4 b5
  have B5 : Below X w w5 := B3.trans (b35.mono (by have := B3.size; have := HX.out; omega))
  have HRa : Hid (ClRow Tt w5 [cP 2] (.slice ra4 1 rc4)) := ((ht4.blw b5).row).keep (Nat.le_refl _) (fun _ _ => trivial) (fun _ _ _ => rfl)
  have H5 : Hid (_ = _) := hw5
  have HA : Hid (A = w4.heap.size) := hA
  clear hw5 hA hv4 ht4 b4 b5 b35
  simp only [wA2, List.length_cons, List.length_nil, Nat.zero_add]
  go_upto_region 2 with fail
  simp only [← HA.out]
  rw [← H5.out]
  clear H5
  -- Take
  obtain ⟨w6, hw6⟩ : ∃ W, W = w5.alloc (.cells #[.int .u32 1, .int .u32 0, .int .u32 2, .int .u32 0] 43) := ⟨_, rfl⟩
  obtain ⟨Y, hY⟩ : ∃ Y, Y = w5.heap.size := ⟨_, rfl⟩
  have b6 : Below w5.heap.size w5 w6 := by rw [hw6]; exact belowA _ _
  have m6 : w6.heap[Y]? = some (.cells #[.int .u32 1, .int .u32 0, .int .u32 2, .int .u32 0] 43 (0, 0)) := by rw [hw6, hY]; exact heapNew _ _
  have c6 := loop_any (some ⟨Y, 0, none⟩) 2 2 w6
  have H6 : Hid (_ = _) := hw6
  have HY : Hid (Y = w5.heap.size) := hY
  clear hw6 hY
  go_wp2_with fail
  simp only [← HY.out]
  rw [← H6.out]
  refine c6.mono ?_
  rintro e w7 ⟨rfl, b7⟩
  clear c6 H6
  have b57 := bchain b6 b7
  have c7 := dtake_any wB _ w7 (wLoop_in w7 [cP 1, cP 2] _ _ _ ((wrow2_in w6 Y m6).blw b7)) wk_b2 0 [] (.slice none 0 0) (cl_nil0 w7) (by simp) (Nat.le_trans (cap_ge _).1 (Nat.le_trans (cap_ans (putOp_len _ _) _) wk_b3.2.2))
  rw [wk_tE, wk_tT] at c7
  go_wp2_with fail
  refine c7.mono ?_
  rintro e w8 ⟨v8, rfl, hv8, b8⟩
  clear c7
  obtain ⟨ra8, rc8, ka8, kc8, sa8, sc8, rfl, ht8⟩ := hv8.form
  obtain ⟨w9, hw9⟩ : ∃ W, W = w8.alloc (.cells #[.int .i64 21, .int .i64 0, .string ⟨#[]⟩, .slice ra8 1 rc8, .slice ka8 0 kc8, .slice sa8 0 sc8] 26) := ⟨_, rfl⟩
  obtain ⟨D, hD⟩ : ∃ A, A = w8.heap.size := ⟨_, rfl⟩
  have b9 : Below w8.heap.size w8 w9 := by rw [hw9]; exact belowA _ _
  have n9 : Six w9 D (.int .i64 21) (.int .i64 0) (.string ⟨#[]⟩) (.slice ra8 1 rc8) (.slice ka8 0 kc8) (.slice sa8 0 sc8) := ⟨by rw [hw9, hD]; exact heapNew _ _⟩
  have b59 := bchain (bchain b57 b8) b9
  have HRb : Hid (ClRow Tt w9 [cP 1] (.slice ra8 1 rc8)) := ((ht8.blw b9).row).keep (Nat.le_refl _) (fun _ _ => trivial) (fun _ _ _ => rfl)
  have H9 : Hid (_ = _) := hw9
  have HD : Hid (D = w8.heap.size) := hD
  clear hw9 hD hv8 ht8 b8 b9 b57 b6 b7 m6
  simp only [wA, List.length_cons, List.length_nil, Nat.zero_add]
  go_upto_region 3 with fail
  simp only [← HD.out]
  rw [← H9.out]
  clear H9
  -- Under
  obtain ⟨U, hU⟩ : ∃ U, U = w9.heap.size := ⟨_, rfl⟩
  obtain ⟨wu, hwu⟩ : ∃ W, W = w9.alloc (.cells #[.int .i64 3, .int .i64 0, .string ⟨#[]⟩, .slice none 0 0, .slice none 0 0, .slice none 0 0] 26) := ⟨_, rfl⟩
  have bu : Below w9.heap.size w9 wu := by rw [hwu]; exact belowA _ _
  have nu : Six wu U (.int .i64 3) (.int .i64 0) (.string ⟨#[]⟩) (.slice none 0 0) (.slice none 0 0) (.slice none 0 0) := ⟨by rw [hwu, hU]; exact heapNew _ _⟩
  have Hu : Hid (_ = _) := hwu
  have HU : Hid (U = w9.heap.size) := hU
  have su : wu.heap.size = U + 1 := by rw [hwu, hU]; simp
  clear hwu hU
  go_upto_region 4 with fail
  simp only [← HU.out]
  rw [← Hu.out]
  clear Hu
  obtain ⟨wv, hwv⟩ : ∃ W, W = (((wu.alloc (.cells #[.int .i64 3, .int .i64 0, .string ⟨#[]⟩, .slice none 0 0, .slice none 0 0, .slice none 0 0, .int .i64 3, .int .i64 0, .string ⟨#[]⟩, .slice none 0 0, .slice none 0 0, .slice none 0 0] 26)).alloc (.cells #[.int .u32 1, .int .u32 0] 43)).alloc (.cells #[.int .i64 3, .int .i64 0, .string ⟨#[]⟩, .slice none 0 0, .slice none 0 0, .slice none 0 0] 26)).alloc (.cells #[.slice (some ⟨U + 2, 0, none⟩) 1 1, .slice (some ⟨U + 3, 0, none⟩) 1 1] 46) := ⟨_, rfl⟩
  have bv : Below wu.heap.size wu wv := by rw [hwv]; exact bchain (bchain (bchain (belowA _ _) (belowA _ _)) (belowA _ _)) (belowA _ _)
  have k1 : wv.heap[U + 1]? = some (.cells #[.int .i64 3, .int .i64 0, .string ⟨#[]⟩, .slice none 0 0, .slice none 0 0, .slice none 0 0, .int .i64 3, .int .i64 0, .string ⟨#[]⟩, .slice none 0 0, .slice none 0 0, .slice none 0 0] 26 (0, 0)) := by
    rw [hwv, ← su]; exact (Below.heap_alloc _ _ _ (by simp; omega)).trans ((Below.heap_alloc _ _ _ (by simp; omega)).trans ((Below.heap_alloc _ _ _ (by simp)).trans (heapNew wu _)))
  have k2 : wv.heap[U + 2]? = some (.cells #[.int .u32 1, .int .u32 0] 43 (0, 0)) := by
    rw [hwv]; refine (Below.heap_alloc _ _ _ (by simp; omega)).trans ((Below.heap_alloc _ _ _ (by simp; omega)).trans ?_)
    have := heapNew (wu.alloc (.cells #[.int .i64 3, .int .i64 0, .string ⟨#[]⟩, .slice none 0 0, .slice none 0 0, .slice none 0 0, .int .i64 3, .int .i64 0, .string ⟨#[]⟩, .slice none 0 0, .slice none 0 0, .slice none 0 0] 26)) (.cells #[.int .u32 1, .int .u32 0] 43); rwa [World.size_alloc, su] at this
  have k3 : wv.heap[U + 3]? = some (.cells #[.int .i64 3, .int .i64 0, .string ⟨#[]⟩, .slice none 0 0, .slice none 0 0, .slice none 0 0] 26 (0, 0)) := by
    rw [hwv]; refine (Below.heap_alloc _ _ _ (by simp; omega)).trans ?_
    have := heapNew ((wu.alloc (.cells #[.int .i64 3, .int .i64 0, .string ⟨#[]⟩, .slice none 0 0, .slice none 0 0, .slice none 0 0, .int .i64 3, .int .i64 0, .string ⟨#[]⟩, .slice none 0 0, .slice none 0 0, .slice none 0 0] 26)).alloc (.cells #[.int .u32 1, .int .u32 0] 43)) (.cells #[.int .i64 3, .int .i64 0, .string ⟨#[]⟩, .slice none 0 0, .slice none 0 0, .slice none 0 0] 26); rwa [World.size_alloc, World.size_alloc, su] at this
  have k4 : wv.heap[U + 4]? = some (.cells #[.slice (some ⟨U + 2, 0, none⟩) 1 1, .slice (some ⟨U + 3, 0, none⟩) 1 1] 46 (0, 0)) := by
    rw [hwv]
    have := heapNew (((wu.alloc (.cells #[.int .i64 3, .int .i64 0, .string ⟨#[]⟩, .slice none 0 0, .slice none 0 0, .slice none 0 0, .int .i64 3, .int .i64 0, .string ⟨#[]⟩, .slice none 0 0, .slice none 0 0, .slice none 0 0] 26)).alloc (.cells #[.int .u32 1, .int .u32 0] 43)).alloc (.cells #[.int .i64 3, .int .i64 0, .string ⟨#[]⟩, .slice none 0 0, .slice none 0 0, .slice none 0 0] 26)) (.cells #[.slice (some ⟨U + 2, 0, none⟩) 1 1, .slice (some ⟨U + 3, 0, none⟩) 1 1] 46); rwa [World.size_alloc, World.size_alloc, World.size_alloc, su] at this
  have cu := under_any wH _ wv (wH_in wv (U + 1) (U + 2) (U + 3) (U + 4) k1 k2 k3 k4) wk_b3.1 wk_b3.2.1 ((0, 1) : C)
  rw [wk_u] at cu
  dsimp only at cu
  obtain ⟨y0, y1, y2, y3, y4, y5, _⟩ := nu.cells
  have nu2 : Six ((wu.alloc (.cells #[.int .i64 3, .int .i64 0, .string ⟨#[]⟩, .slice none 0 0, .slice none 0 0, .slice none 0 0, .int .i64 3, .int .i64 0, .string ⟨#[]⟩, .slice none 0 0, .slice none 0 0, .slice none 0 0] 26)).alloc (.cells #[.int .u32 1, .int .u32 0] 43)) U (.int .i64 3) (.int .i64 0) (.string ⟨#[]⟩) (.slice none 0 0) (.slice none 0 0) (.slice none 0 0) := nu.blw (bchain (belowA _ _) (belowA _ _))
  obtain ⟨z0, z1, z2, z3, z4, z5, _⟩ := nu2.cells
  have Hv : Hid (_ = _) := hwv
  have Hsu : Hid (wu.heap.size = U + 1) := su
  clear hwv k1 k2 k3 k4 su
  go_wp2_with fail
  simp only [Hsu.out, Nat.add_assoc, Nat.reduceAdd]
  rw [← Hv.out]
  refine cu.mono ?_
  rintro e wx ⟨vx, rfl, hvx, bx⟩
  clear cu y0 y1 y2 y3 y4 y5 z0 z1 z2 z3 z4 z5 nu2 Hv
  obtain ⟨rax, rcx, kax, kcx, sax, scx, rfl, htx⟩ := hvx.form
  obtain ⟨wy, hwy⟩ : ∃ W, W = wx.alloc (.cells #[.int .i64 15, .int .i64 0, .string ⟨#[]⟩, .slice rax 0 rcx, .slice kax 2 kcx, .slice sax 0 scx] 26) := ⟨_, rfl⟩
  obtain ⟨E, hE⟩ : ∃ A, A = wx.heap.size := ⟨_, rfl⟩
  have by_ : Below wx.heap.size wx wy := by rw [hwy]; exact belowA _ _
  have ny : Six wy E (.int .i64 15) (.int .i64 0) (.string ⟨#[]⟩) (.slice rax 0 rcx) (.slice kax 2 kcx) (.slice sax 0 scx) := ⟨by rw [hwy, hE]; exact heapNew _ _⟩
  have b9y := bchain (bchain (bchain bu bv) bx) by_
  have b5y := bchain b59 b9y
  have By : Below X w wy := B5.trans (b5y.mono (by have := B5.size; have := HX.out; omega))
  have na := n5.blw b5y
  have nb := n9.blw b9y
  have ra := (HRa.out.blw b5y).row
  have rb := (HRb.out.blw b9y).row
  have Hy : Hid (_ = _) := hwy
  have HEe : Hid (E = wx.heap.size) := hE
  clear hwy hE hvx htx bx by_ b9y b5y bu bv b59 n5 n9 B1 B3 B5 nu
  simp only [wH2, List.length_cons, List.length_nil, Nat.zero_add, Nat.reduceAdd]
  go_upto_region 5 with fail
  simp only [← HEe.out]
  rw [← Hy.out]
  clear Hy
  -- the comparison
  obtain ⟨w10, hw10⟩ : ∃ W, W = wy.alloc (.cells #[.int .u32 2, .int .u32 0] 43) := ⟨_, rfl⟩
  have b10 : Below wy.heap.size wy w10 := by rw [hw10]; exact belowA _ _
  have m10 : w10.heap[wy.heap.size]? = some (.cells #[.int .u32 2, .int .u32 0] 43 (0, 0)) := by rw [hw10]; exact heapNew _ _
  have c10 := same_any [cP 2] [cP 2] _ _ w10 (ra.below b10) (wrow1_in w10 wy.heap.size 2 m10).row (by simp)
  rw [decide_eq_true rfl] at c10
  obtain ⟨a0, a1, a2, a3, a4, a5, _⟩ := na.cells
  have H10 : Hid (_ = _) := hw10
  clear hw10 m10
  go_wp2_with fail
  rw [← H10.out]
  refine c10.mono ?_
  rintro e w11 ⟨rfl, b11⟩
  clear c10 a0 a1 a2 a3 a4 a5 H10
  have by11 := bchain b10 b11
  obtain ⟨w12, hw12⟩ : ∃ W, W = w11.alloc (.cells #[.int .u32 1, .int .u32 0] 43) := ⟨_, rfl⟩
  have b12 : Below w11.heap.size w11 w12 := by rw [hw12]; exact belowA _ _
  have m12 : w12.heap[w11.heap.size]? = some (.cells #[.int .u32 1, .int .u32 0] 43 (0, 0)) := by rw [hw12]; exact heapNew _ _
  have c12 := same_any [cP 1] [cP 1] _ _ w12 ((rb.below by11).below b12) (wrow1_in w12 w11.heap.size 1 m12).row (by simp)
  rw [decide_eq_true rfl] at c12
  obtain ⟨a0, a1, a2, a3, a4, a5, _⟩ := (nb.blw by11).cells
  have H12 : Hid (_ = _) := hw12
  clear hw12 m12
  go_wp2_with fail
  rw [← H12.out]
  refine c12.mono ?_
  rintro e w13 ⟨rfl, b13'⟩
  clear c12 a0 a1 a2 a3 a4 a5 H12
  have by13 := bchain by11 (bchain b12 b13')
  obtain ⟨a0, a1, a2, a3, a4, a5, _⟩ := (ny.blw by13).cells
  have Bf : Below X w w13 := By.trans (by13.mono (by have := By.size; have := HX.out; omega))
  go_wp2_with fail
  go_ret
  exact ⟨rfl, Bf⟩
end Go.Proofs.YtjimednocmdpnaaGreat

namespace Go.Proofs.YtjimednocmdpnaaGreat
open Go.RowKit
set_option linter.unusedVariables false
set_option linter.unusedSimpArgs false

set_option maxRecDepth 100000 in
set_option maxHeartbeats 4000000 in
theorem great13r_any (t : Tm) (v : Value) (w : World) (hv : TmIn Tt w t v) (a : Option Addr) (n c : Nat) : Calls Tryz.prog 5 #[v, .slice a n c] w fun e w' => ∃ b, e = .returned (.bool b) ∧ (b = false → blk t ≤ 200 ∧ n ≤ 12) ∧ Below w.heap.size w w' := by
  obtain ⟨ra, rc, ka, kc, sa, sc, rfl, ht⟩ := hv.form
  obtain ⟨w1, hw1⟩ : ∃ w1, w1 = w.alloc (.cells #[.int .i64 t.kind, .int .i64 t.n, .string t.name, .slice ra t.r.length rc, .slice ka t.kids.length kc, .slice sa t.sys.length sc] 26) := ⟨_, rfl⟩
  have b1 : Below w.heap.size w w1 := by rw [hw1]; exact belowA _ _
  have c6 : Cs6 w1 w.heap.size 0 t ra rc ka kc sa sc := by rw [hw1]; exact cs6_new w t ra rc ka kc sa sc
  have cc := bulk_any (blk t) 200 200 t _ w1 rfl (by omega) (Nat.le_refl _) (ht.blw b1).value
  obtain ⟨_, y0, y1, y2, y3, y4, y5⟩ := c6
  simp only [Nat.zero_add] at y1 y2 y3 y4 y5
  have H1 : Hid (_ = _) := hw1
  clear hw1 hv ht
  go_enter Tryz.func5, Tryz.ntmps5
  go_upto_region 1 with fail
  rw [← H1.out]
  go_wp2_with fail
  refine cc.mono ?_
  rintro e w3 ⟨⟨r, rfl, r1, r2, r3, r4⟩, hb3⟩
  clear cc y0 y1 y2 y3 y4 y5
  have bF := bchain b1 hb3
  by_cases h : 200 < blk t
  · have hq : (200 : Int) < (r : Int) := by have := r2 h; omega
    have hqb : decide ((200 : Int) < (r : Int)) = true := decide_eq_true hq
    clear r1 r2 h
    go_wp2_with fail
    go_ret
    exact ⟨true, rfl, (fun h => by cases h), bF⟩
  · have hq : ¬ (200 : Int) < (r : Int) := by have := r1 (by omega); omega
    have hqb : decide ((200 : Int) < (r : Int)) = false := decide_eq_false hq
    have HB : Hid (blk t ≤ 200) := (by omega : blk t ≤ 200)
    clear r1 r2 h
    go_wp2_with fail
    go_ret
    exact ⟨decide ((12 : Int) < (n : Int)), rfl, (fun h => ⟨HB.out, by have := of_decide_eq_false h; omega⟩), bF⟩
/-! ### never -/
def NvC (N : Nat) : Prop := ∀ (t : Tm) (v : Value) (w : World), TmIn Tt w t v → blk t ≤ N → blk t ≤ 100000 → Calls Tryz.prog 7 #[v] w fun e w' => ∃ b, e = .returned (.bool b) ∧ (b = false → neT t) ∧ Below w.heap.size w w'
set_option maxRecDepth 100000 in
set_option maxHeartbeats 8000000 in
theorem nv_step (N : Nat) (IH : NvC N) : NvC (N + 1) := by
  intro t v w hv hN hb
  obtain ⟨hl1, hl2, hl3, hl4⟩ := blk_lens t
  obtain ⟨ra, rc, ka, kc, sa, sc, rfl, ht⟩ := hv.form
  obtain ⟨w1, hw1⟩ : ∃ W, W = w.alloc (.cells #[.int .i64 t.kind, .int .i64 t.n, .string t.name, .slice ra t.r.length rc, .slice ka t.kids.length kc, .slice sa t.sys.length sc] 26) := ⟨_, rfl⟩
  have b1 : Below w.heap.size w w1 := by rw [hw1]; exact belowA _ _
  obtain ⟨X, hX⟩ : ∃ X, X = w.heap.size := ⟨_, rfl⟩
  have x1 : Six w1 X (.int .i64 t.kind) (.int .i64 t.n) (.string t.name) (.slice ra t.r.length rc) (.slice ka t.kids.length kc) (.slice sa t.sys.length sc) := ⟨by rw [hw1, hX]; exact heapNew _ _⟩
  obtain ⟨L, hL⟩ : ∃ L, L = t.kids.length := ⟨_, rfl⟩
  obtain ⟨M, hM⟩ : ∃ L, L = t.sys.length := ⟨_, rfl⟩
  have HC : Hid (∀ W, Below w1.heap.size w1 W → W.cell? ⟨X, 4, none⟩ = some (.slice ka L kc) ∧ W.cell? ⟨X, 5, none⟩ = some (.slice sa M sc)) := fun W q => by
    rw [hL, hM]; exact ⟨(x1.blw q).cells.2.2.2.2.1, (x1.blw q).cells.2.2.2.2.2.1⟩
  have HT : Hid (∀ W, Below w1.heap.size w1 W → TmTop Tt W t ra rc ka kc sa sc) := fun W q => (ht.blw b1).blw q
  have HB : Hid (∀ W, Below w1.heap.size w1 W → Below X w W) := fun W q => by rw [hX]; exact bchain b1 q
  have HI : Hid (NvC N) := IH
  have HN : Hid (blk t ≤ N + 1 ∧ blk t ≤ 100000) := ⟨hN, hb⟩
  have HL : Hid (L = t.kids.length ∧ M = t.sys.length) := ⟨hL, hM⟩
  have HX : Hid (X = w.heap.size) := hX
  have hLb : L ≤ 100000 := by omega
  have hMb : M ≤ 100000 := by omega
  have HW : Hid (_ = _) := hw1
  rw [← hX, ← hL, ← hM]
  have HW2 : Hid (w1 = w.alloc (.cells #[.int .i64 t.kind, .int .i64 t.n, .string t.name, .slice ra t.r.length rc, .slice ka L kc, .slice sa M sc] 26)) := (by rw [hw1, hL, hM] : _ = _)
  obtain ⟨y0, y1⟩ := HC.out w1 (Below.refl _ _)
  clear hw1 hX hL hM x1 hv ht b1 IH hN hb hl1 hl2 hl3 hl4 HW
  go_enter Tryz.func7, Tryz.ntmps7
  go_upto_region 1 with fail
  rw [← HW2.out]
  simp only [← HX.out]
  clear HW2
  go_wp2_with fail
  clear y0 y1
  go_loopw [12] (fun u wr => ∃ k : Nat, k ≤ L ∧ u = .int .i64 k ∧ Below w1.heap.size w1 wr ∧ Hid (∀ (j : Nat) (x : Tm), j < k → t.kids[j]? = some x → neT x)) (fun u _ => L - (intOf u).toNat)
  case atStart => exact ⟨0, Nat.zero_le _, rfl, Below.refl _ _, fun j x hj => absurd hj (Nat.not_lt_zero _)⟩
  case round =>
    obtain ⟨wo, hwo⟩ : ∃ wo, wo = wr := ⟨_, rfl⟩
    subst hwo
    obtain ⟨k, hk, rfl, hSo, HA⟩ := hrel
    by_cases hlt : k < L
    · have hkI : (k : Int) < (L : Int) := by omega
      obtain ⟨x, hx⟩ := someL (l := t.kids) (k := k) (by rw [← HL.out.1]; exact hlt)
      have hbk := blk_kid (List.mem_of_getElem? hx)
      obtain ⟨g1, off1, ra1, rc1, ka1, kc1, sa1, sc1, hka, _, h61, hty⟩ := (HT.out wo hSo).kids.at hx
      subst hka
      obtain ⟨wb, hwb⟩ : ∃ W, W = wo.alloc (.cells #[.int .i64 x.kind, .int .i64 x.n, .string x.name, .slice ra1 x.r.length rc1, .slice ka1 x.kids.length kc1, .slice sa1 x.sys.length sc1] 26) := ⟨_, rfl⟩
      have bb : Below wo.heap.size wo wb := by rw [hwb]; exact belowA _ _
      have nb : Six wb wo.heap.size (.int .i64 x.kind) (.int .i64 x.n) (.string x.name) (.slice ra1 x.r.length rc1) (.slice ka1 x.kids.length kc1) (.slice sa1 x.sys.length sc1) := ⟨by rw [hwb]; exact heapNew _ _⟩
      have hSb : Below w1.heap.size w1 wb := hSo.trans (bb.mono hSo.size)
      have cc := HI.out x _ wb (hty.blw bb).value (by have := HN.out.1; omega) (by have := HN.out.2; omega)
      obtain ⟨_, c0, c1, c2, c3, c4, c5⟩ := h61
      obtain ⟨z0, z1, z2, z3, z4, z5, _⟩ := nb.cells
      have Hwb : Hid (_ = _) := hwb
      have Hx : Hid (t.kids[k]? = some x) := hx
      clear hwb hty hbk nb hx
      go_upto_region 4 with fail
      rw [← Hwb.out]
      clear c0 c1 c2 c3 c4 c5
      go_wp2_with fail
      refine cc.mono ?_
      rintro e w2 ⟨b, rfl, hb, b2⟩
      clear cc z0 z1 z2 z3 z4 z5
      have hS2 : Below w1.heap.size w1 w2 := hSb.trans (b2.mono hSb.size)
      cases b
      · have Hb : Hid (neT x) := hb rfl
        go_wp2_with fail
        go_roundw
        case rel =>
          refine ⟨k + 1, by omega, by go_num, hS2, fun j y hj hy => ?_⟩
          rcases Nat.lt_or_ge j k with h | h
          · exact HA.out j y h hy
          · obtain rfl : j = k := by omega
            rw [Hx.out] at hy
            cases hy
            exact Hb.out
        case measure => simp [intOf]; omega
      · have hF := HB.out w2 hS2
        go_wp2_with fail
        go_ret
        exact ⟨true, rfl, (fun h => by cases h), hF⟩
    · have hkI : ¬ (k : Int) < (L : Int) := by omega
      have HK : Hid (∀ x ∈ t.kids, neT x) := fun x hx => by
        obtain ⟨j, hj⟩ := List.mem_iff_getElem?.1 hx
        exact HA.out j x (by have := some_lt hj; have := HL.out.1; omega) hj
      obtain ⟨y0, y1⟩ := HC.out wo hSo
      clear HA
      go_wp2_with fail
      clear y0 y1
      go_loopw [22] (fun u wr => ∃ k : Nat, k ≤ M ∧ u = .int .i64 k ∧ Below w1.heap.size w1 wr ∧ Hid (∀ (j : Nat) (b : List C × List Tm), j < k → t.sys[j]? = some b → b.1 ≠ [] ∧ ∀ x ∈ b.2, neT x)) (fun u _ => M - (intOf u).toNat)
      case atStart => exact ⟨0, Nat.zero_le _, rfl, hSo, fun j x hj => absurd hj (Nat.not_lt_zero _)⟩
      case round =>
        obtain ⟨wq, hwq⟩ : ∃ wq, wq = wr := ⟨_, rfl⟩
        subst hwq
        clear hkI hSo hlt hk
        obtain ⟨m, hm, rfl, hSq, HA⟩ := hrel
        by_cases hlt : m < M
        · have hkI : (m : Int) < (M : Int) := by omega
          obtain ⟨b, hb⟩ := someL (l := t.sys) (k := m) (by rw [← HL.out.2]; exact hlt)
          have hbr := blk_br (List.mem_of_getElem? hb)
          have hbl := blkL_len b.2
          obtain ⟨gs, offs, fa1, fc1, kb1, kbc1, hsa, _, h21, hF1, hK1⟩ := (HT.out wq hSq).sys.at hb
          subst hsa
          obtain ⟨F, hF⟩ : ∃ F, F = b.1.length := ⟨_, rfl⟩
          obtain ⟨K, hK⟩ : ∃ F, F = b.2.length := ⟨_, rfl⟩
          have HFK : Hid (F = b.1.length ∧ K = b.2.length) := ⟨hF, hK⟩
          have hKb : K ≤ 100000 := by have := HN.out.2; omega
          obtain ⟨wb, hwb⟩ : ∃ W, W = wq.alloc (.cells #[.slice fa1 F fc1, .slice kb1 K kbc1] 46) := ⟨_, rfl⟩
          obtain ⟨Y, hY⟩ : ∃ Y, Y = wq.heap.size := ⟨_, rfl⟩
          have bb : Below wq.heap.size wq wb := by rw [hwb]; exact belowA _ _
          have tb : Two wb Y (.slice fa1 F fc1) (.slice kb1 K kbc1) := ⟨by rw [hwb, hY]; exact heapNew _ _⟩
          have hSb : Below w1.heap.size w1 wb := hSq.trans (bb.mono hSq.size)
          have HTb : Hid (∀ W, Below wb.heap.size wb W → Two W Y (.slice fa1 F fc1) (.slice kb1 K kbc1)) := fun W q => tb.blw q
          have HKd : Hid (∀ W, Below wb.heap.size wb W → KdT Tt W (TmIn Tt W) b.2 (.slice kb1 K kbc1)) := fun W q => by rw [hK]; exact (hK1.blw bb).blw q
          have Hbs : Hid (t.sys[m]? = some b) := hb
          have c0 := h21.c0
          have c1 := h21.c1
          rw [← hF] at c0
          rw [← hK] at c1
          obtain ⟨t0, t1, _⟩ := tb.cells
          have Hwb : Hid (_ = _) := hwb
          have HY : Hid (Y = wq.heap.size) := hY
          clear hwb hY h21 hF1 hK1 hb hF hK tb hbl
          go_upto_region 10 with fail
          rw [← Hwb.out]
          simp only [← HY.out]
          clear c0 c1
          by_cases hz : F = 0
          · subst hz
            have hFin := HB.out wb hSb
            go_wp2_with fail
            go_ret
            exact ⟨true, rfl, (fun h => by cases h), hFin⟩
          · have hz1 : ((F : Int) == 0) = false := by simp; omega
            go_wp2_with fail
            clear t0 t1
            go_loopw [33] (fun u wr => ∃ k : Nat, k ≤ K ∧ u = .int .i64 k ∧ Below wb.heap.size wb wr ∧ Hid (∀ (j : Nat) (x : Tm), j < k → b.2[j]? = some x → neT x)) (fun u _ => K - (intOf u).toNat)
            case atStart => exact ⟨0, Nat.zero_le _, rfl, Below.refl _ _, fun j x hj => absurd hj (Nat.not_lt_zero _)⟩
            case round =>
              obtain ⟨wo, hwo⟩ : ∃ wo, wo = wr := ⟨_, rfl⟩
              subst hwo
              obtain ⟨k, hk, rfl, hSo, HA2⟩ := hrel
              by_cases hlk : k < K
              · have hkI2 : (k : Int) < (K : Int) := by omega
                obtain ⟨x, hx⟩ := someL (l := b.2) (k := k) (by rw [← HFK.out.2]; exact hlk)
                have hbk := blk_sub (List.mem_of_getElem? Hbs.out) (List.mem_of_getElem? hx)
                obtain ⟨g1, off1, ra1, rc1, ka1, kc1, sa1, sc1, hka, _, h61, hty⟩ := (HKd.out wo hSo).at hx
                subst hka
                obtain ⟨wc, hwc⟩ : ∃ W, W = wo.alloc (.cells #[.int .i64 x.kind, .int .i64 x.n, .string x.name, .slice ra1 x.r.length rc1, .slice ka1 x.kids.length kc1, .slice sa1 x.sys.length sc1] 26) := ⟨_, rfl⟩
                have bc : Below wo.heap.size wo wc := by rw [hwc]; exact belowA _ _
                have nc : Six wc wo.heap.size (.int .i64 x.kind) (.int .i64 x.n) (.string x.name) (.slice ra1 x.r.length rc1) (.slice ka1 x.kids.length kc1) (.slice sa1 x.sys.length sc1) := ⟨by rw [hwc]; exact heapNew _ _⟩
                have hSc : Below wb.heap.size wb wc := hSo.trans (bc.mono hSo.size)
                have cc := HI.out x _ wc (hty.blw bc).value (by have := HN.out.1; omega) (by have := HN.out.2; omega)
                obtain ⟨_, c0, c1, c2, c3, c4, c5⟩ := h61
                obtain ⟨z0, z1, z2, z3, z4, z5, _⟩ := nc.cells
                have Hwc : Hid (_ = _) := hwc
                have Hx : Hid (b.2[k]? = some x) := hx
                clear hwc hty hbk nc hx
                go_upto_region 15 with fail
                rw [← Hwc.out]
                clear c0 c1 c2 c3 c4 c5
                go_wp2_with fail
                refine cc.mono ?_
                rintro e w2 ⟨bo, rfl, hbo, b2⟩
                clear cc z0 z1 z2 z3 z4 z5
                have hS2 : Below wb.heap.size wb w2 := hSc.trans (b2.mono hSc.size)
                cases bo
                · have Hb : Hid (neT x) := hbo rfl
                  go_wp2_with fail
                  go_roundw
                  case rel =>
                    refine ⟨k + 1, by omega, by go_num, hS2, fun j y hj hy => ?_⟩
                    rcases Nat.lt_or_ge j k with h | h
                    · exact HA2.out j y h hy
                    · obtain rfl : j = k := by omega
                      rw [Hx.out] at hy
                      cases hy
                      exact Hb.out
                  case measure => simp [intOf]; omega
                · have hFin := HB.out w2 (hSb.trans (hS2.mono hSb.size))
                  go_wp2_with fail
                  go_ret
                  exact ⟨true, rfl, (fun h => by cases h), hFin⟩
              · have hkI2 : ¬ (k : Int) < (K : Int) := by omega
                have hS2 : Below w1.heap.size w1 wo := hSb.trans (hSo.mono hSb.size)
                have HK2 : Hid (b.1 ≠ [] ∧ ∀ x ∈ b.2, neT x) := ⟨fun e => hz (by rw [HFK.out.1, e]; rfl), fun x hx => by
                  obtain ⟨j, hj⟩ := List.mem_iff_getElem?.1 hx
                  exact HA2.out j x (by have := some_lt hj; have := HFK.out.2; omega) hj⟩
                go_wp2_with fail
                go_roundw
                case rel =>
                  refine ⟨m + 1, by omega, by go_num, hS2, fun j y hj hy => ?_⟩
                  rcases Nat.lt_or_ge j m with h | h
                  · exact HA.out j y h hy
                  · obtain rfl : j = m := by omega
                    rw [Hbs.out] at hy
                    cases hy
                    exact HK2.out
                case measure => simp [intOf]; omega
        · have hkI : ¬ (m : Int) < (M : Int) := by omega
          have HE : Hid (neT t) := (ne_eq t).2 ⟨HK.out, fun b hb => by
            obtain ⟨j, hj⟩ := List.mem_iff_getElem?.1 hb
            exact HA.out j b (by have := some_lt hj; have := HL.out.2; omega) hj⟩
          have hFin := HB.out wq hSq
          go_wp2_with fail
          go_ret
          first | exact ⟨false, rfl, (fun _ => HE.out), hFin⟩ | exact .inl ⟨rfl, HE.out, hFin⟩
theorem never_any : ∀ N : Nat, NvC N
  | 0 => fun t v w _ hN => by have := blk_pos t; omega
  | N + 1 => nv_step N (never_any N)
end Go.Proofs.YtjimednocmdpnaaGreat

namespace Go.Proofs.YtjimednocmdpnaaGreat
open Go.RowKit
set_option linter.unusedVariables false
set_option linter.unusedSimpArgs false

def RSmC (N : Nat) : Prop := ∀ (t u : Tm) (b : Bool) (v v' : Value) (w : World), TmIn Tt w t v → TmIn Tt w u v' → blk t ≤ N → blk t ≤ 40000 → (b = true ↔ t = u) →
  Calls Tryz.prog 10 #[v, v'] w fun e w' => e = .returned (.bool b) ∧ Below w.heap.size w w'
def RLsC (N : Nat) : Prop := ∀ (l m : List Tm) (b : Bool) (v v' : Value) (w : World), KdT Tt w (TmIn Tt w) l v → KdT Tt w (TmIn Tt w) m v' → blkL l ≤ N → blkL l ≤ 40000 → (b = true ↔ l = m) →
  Calls Tryz.prog 24 #[v, v'] w fun e w' => e = .returned (.bool b) ∧ Below w.heap.size w w'
set_option maxRecDepth 100000 in
set_option maxHeartbeats 4000000 in
theorem rlists_of (N : Nat) (IH : RSmC N) : RLsC N := by
  intro l m b v v' w h1 h2 hN hbb hb
  obtain ⟨la, lc, rfl, _⟩ := id h1
  obtain ⟨ma, mc, rfl, _⟩ := id h2
  have HF : Hid (¬ l = m → b = false) := fun h => Bool.eq_false_iff.2 fun h2 => h (hb.1 h2)
  have HTr : Hid (l = m → b = true) := fun h => hb.2 h
  have H1 : Hid (KdT Tt w (TmIn Tt w) l (.slice la l.length lc)) := h1
  have H2 : Hid (KdT Tt w (TmIn Tt w) m (.slice ma m.length mc)) := h2
  have hll := blkL_len l
  obtain ⟨L, hL⟩ : ∃ L, L = l.length := ⟨_, rfl⟩
  have HL : Hid (L = l.length) := hL
  obtain ⟨M, hM⟩ : ∃ L, L = m.length := ⟨_, rfl⟩
  have HM : Hid (M = m.length) := hM
  rw [← hL, ← hM]
  rw [← hL] at hll
  clear hb h1 h2 hL hM
  by_cases hLM : L = M
  · subst hLM
    go_enter Tryz.func24, Tryz.ntmps24
    go_wp2_with fail
    go_loopw [5] (fun i wr => ∃ k : Nat, k ≤ L ∧ i = .int .i64 k ∧ Hid (∀ j, j < k → l[j]? = m[j]?) ∧ Below w.heap.size w wr) (fun i _ => L - (intOf i).toNat)
    case atStart => exact ⟨0, Nat.zero_le _, rfl, fun j hj => by omega, Below.refl _ _⟩
    case round =>
      obtain ⟨wo, hwo⟩ : ∃ wo, wo = wr := ⟨_, rfl⟩
      subst hwo
      obtain ⟨k, hk, rfl, HS, hBr⟩ := hrel
      by_cases hlt : k < L
      · have hkI : (k : Int) < (L : Int) := by omega
        obtain ⟨x, hx⟩ := someL (l := l) (k := k) (by rw [← HL.out]; exact hlt)
        obtain ⟨y, hy⟩ := someL (l := m) (k := k) (by rw [← HM.out]; exact hlt)
        have hbx : blk x ≤ blkL l := sumN_mem (List.mem_map_of_mem (List.mem_of_getElem? hx))
        have HX : Hid (l[k]? = some x ∧ m[k]? = some y) := ⟨hx, hy⟩
        obtain ⟨g, off, ra1, rc1, ka1, kc1, sa1, sc1, rfl, hg, q6, qt⟩ := (H1.out.blw hBr).at hx
        obtain ⟨g2, off2, ra2, rc2, ka2, kc2, sa2, sc2, rfl, hg2, p6, pt⟩ := (H2.out.blw hBr).at hy
        have HQ : Hid (Cs6 wo g (off + k * 6) x ra1 rc1 ka1 kc1 sa1 sc1) := q6
        have HP : Hid (Cs6 wo g2 (off2 + k * 6) y ra2 rc2 ka2 kc2 sa2 sc2) := p6
        obtain ⟨eb, heb⟩ := bool_of (x = y)
        have HEb : Hid (eb = true ↔ x = y) := heb
        have rC : Hid (∀ z : Cw wo, Calls Tryz.prog 10 #[.agg #[.int .i64 x.kind, .int .i64 x.n, .string x.name, .slice ra1 x.r.length rc1, .slice ka1 x.kids.length kc1, .slice sa1 x.sys.length sc1], .agg #[.int .i64 y.kind, .int .i64 y.n, .string y.name, .slice ra2 y.r.length rc2, .slice ka2 y.kids.length kc2, .slice sa2 y.sys.length sc2]] z.1 fun e w' => e = .returned (.bool eb) ∧ ∃ z' : Cw wo, w' = z'.1) := fun z => cw_call z (IH x y eb _ _ z.1 (qt.blw z.2).value (pt.blw z.2).value (by omega) (by omega) heb)
        clear hx hy q6 p6 heb
        have c0 : ∀ z : Cw wo, z.1.cell? ⟨g, off + k * 6, none⟩ = some (.int .i64 x.kind) := fun z => (HQ.out.blw z.2).c0
        have c1 : ∀ z : Cw wo, z.1.cell? ⟨g, off + k * 6 + 1, none⟩ = some (.int .i64 x.n) := fun z => (HQ.out.blw z.2).c1
        have c2 : ∀ z : Cw wo, z.1.cell? ⟨g, off + k * 6 + 2, none⟩ = some (.string x.name) := fun z => (HQ.out.blw z.2).c2
        have c3 : ∀ z : Cw wo, z.1.cell? ⟨g, off + k * 6 + 3, none⟩ = some (.slice ra1 x.r.length rc1) := fun z => (HQ.out.blw z.2).c3
        have c4 : ∀ z : Cw wo, z.1.cell? ⟨g, off + k * 6 + 4, none⟩ = some (.slice ka1 x.kids.length kc1) := fun z => (HQ.out.blw z.2).c4
        have c5 : ∀ z : Cw wo, z.1.cell? ⟨g, off + k * 6 + 5, none⟩ = some (.slice sa1 x.sys.length sc1) := fun z => (HQ.out.blw z.2).c5
        have d0 : ∀ z : Cw wo, z.1.cell? ⟨g2, off2 + k * 6, none⟩ = some (.int .i64 y.kind) := fun z => (HP.out.blw z.2).c0
        have d1 : ∀ z : Cw wo, z.1.cell? ⟨g2, off2 + k * 6 + 1, none⟩ = some (.int .i64 y.n) := fun z => (HP.out.blw z.2).c1
        have d2 : ∀ z : Cw wo, z.1.cell? ⟨g2, off2 + k * 6 + 2, none⟩ = some (.string y.name) := fun z => (HP.out.blw z.2).c2
        have d3 : ∀ z : Cw wo, z.1.cell? ⟨g2, off2 + k * 6 + 3, none⟩ = some (.slice ra2 y.r.length rc2) := fun z => (HP.out.blw z.2).c3
        have d4 : ∀ z : Cw wo, z.1.cell? ⟨g2, off2 + k * 6 + 4, none⟩ = some (.slice ka2 y.kids.length kc2) := fun z => (HP.out.blw z.2).c4
        have d5 : ∀ z : Cw wo, z.1.cell? ⟨g2, off2 + k * 6 + 5, none⟩ = some (.slice sa2 y.sys.length sc2) := fun z => (HP.out.blw z.2).c5
        clear qt pt
        have hne := cw_any wo
        go_upto_region 6 with fail
        cases eb with
        | false =>
          refine wp_region_cw (by kernel_rfl) (by kernel_rfl) ?_
          repeat (first | go_big_quiet_step (fail) | quiet_step (fail))
          first | go_big_quiet_step (exact rC.out _) | quiet_step (exact rC.out _)
          repeat (first | go_big_quiet_step (fail) | quiet_step (fail))
          refine wpQuiet_nil ?_
          rintro _ ⟨z, rfl⟩
          obtain ⟨w6, b6⟩ := z
          dsimp only
          clear rC hne c0 c1 c2 c3 c4 c5 d0 d1 d2 d3 d4 d5
          have HB : Hid (b = false) := HF.out (fun h => by
            have e := HX.out.1
            rw [h, HX.out.2] at e
            cases e
            have := HEb.out.2 rfl
            cases this)
          go_wp2_with fail
          go_ret
          exact ⟨ret_bool HB.out.symm, bchain hBr b6⟩
        | true =>
          refine wp_region_cw (by kernel_rfl) (by kernel_rfl) ?_
          repeat (first | go_big_quiet_step (fail) | quiet_step (fail))
          first | go_big_quiet_step (exact rC.out _) | quiet_step (exact rC.out _)
          repeat (first | go_big_quiet_step (fail) | quiet_step (fail))
          refine wpQuiet_nil ?_
          rintro _ ⟨z, rfl⟩
          obtain ⟨w6, b6⟩ := z
          dsimp only
          clear rC hne c0 c1 c2 c3 c4 c5 d0 d1 d2 d3 d4 d5
          have HS' : Hid (∀ j, j < k + 1 → l[j]? = m[j]?) := fun j hj => by
            rcases Nat.lt_or_ge j k with h | h
            · exact HS.out j h
            · have ej : j = k := by omega
              rw [ej, HX.out.1, HX.out.2, HEb.out.1 (by first | rfl | trivial)]
          clear HS HX HEb
          go_wp2_with fail
          go_roundw
          case rel => exact ⟨k + 1, by omega, by go_num, HS', bchain hBr b6⟩
          case measure => simp [intOf]; omega
      · have hkI : ¬ (k : Int) < (L : Int) := by omega
        have HB : Hid (b = true) := HTr.out (by
          apply List.ext_getElem?
          intro j
          rcases Nat.lt_or_ge j k with h | h
          · exact HS.out j h
          · rw [List.getElem?_eq_none (by rw [← HL.out]; omega), List.getElem?_eq_none (by rw [← HM.out]; omega)])
        clear HS
        go_wp2_with fail
        go_ret
        exact ⟨ret_bool HB.out.symm, hBr⟩
  · have HB : Hid (b = false) := HF.out (fun h => hLM (by rw [HL.out, HM.out, h]))
    have q1 : ¬ (L : Int) = (M : Int) := by omega
    have q2 : ((L : Int) == (M : Int)) = false := by simp; omega
    have q3 : ¬ L = M := hLM
    go_enter Tryz.func24, Tryz.ntmps24
    go_wp2_with fail
    go_ret
    exact ⟨ret_bool HB.out.symm, Below.refl _ _⟩
end Go.Proofs.YtjimednocmdpnaaGreat

namespace Go.Proofs.YtjimednocmdpnaaGreat
open Go.RowKit
set_option linter.unusedVariables false
set_option linter.unusedSimpArgs false

set_option maxRecDepth 100000 in
set_option maxHeartbeats 8000000 in
theorem rsame_step (N : Nat) (IH : RLsC N) : RSmC (N + 1) := by
  intro t u b v v' w hv hv' hN hbb hb
  rw [Tm.eq_iff] at hb
  have hbs := blk_eq t
  have hlen := blk_lens t
  obtain ⟨ra, rc, ka, kc, sa, sc, rfl, ht⟩ := hv.form
  obtain ⟨ra', rc', ka', kc', sa', sc', rfl, ht'⟩ := hv'.form
  obtain ⟨W, hW, bW, c6, c6'⟩ := boxT2 w t u ra rc ka kc sa sc ra' rc' ka' kc' sa' sc'
  have HT : Hid (TmTop Tt W t ra rc ka kc sa sc) := ht.blw bW
  have HU : Hid (TmTop Tt W u ra' rc' ka' kc' sa' sc') := ht'.blw bW
  have HC : Hid (Cs6 W w.heap.size 0 t ra rc ka kc sa sc) := c6
  have HC' : Hid (Cs6 W (w.heap.size + 1) 0 u ra' rc' ka' kc' sa' sc') := c6'
  have HLk : Hid (blkL t.kids ≤ N ∧ blkL t.kids ≤ 40000 ∧ t.r.length ≤ 40000) := ⟨by omega, by omega, by omega⟩
  have HLs : Hid (∀ c ∈ t.sys, blkL c.2 ≤ N ∧ blkL c.2 ≤ 40000 ∧ c.1.length ≤ 40000) := fun c hc => by have := blk_br hc; omega
  obtain ⟨c1, hc1⟩ := bool_of (t.kind = u.kind ∧ t.n = u.n ∧ t.name = u.name ∧ t.r = u.r ∧ t.kids = u.kids ∧ t.sys.length = u.sys.length)
  have HF1 : Hid (c1 = false → b = false) := fun h => Bool.eq_false_iff.2 fun h2 => by
    obtain ⟨e1, e2, e3, e4, e5, e6⟩ := hb.1 h2
    have := hc1.2 ⟨e1, e2, e3, e4, e5, by rw [e6]⟩
    rw [h] at this; cases this
  have HF2 : Hid (¬ t.sys = u.sys → b = false) := fun h => Bool.eq_false_iff.2 fun h2 => h (hb.1 h2).2.2.2.2.2
  have HTr : Hid (c1 = true → t.sys = u.sys → b = true) := fun h h2 => hb.2 ⟨(hc1.1 h).1, (hc1.1 h).2.1, (hc1.1 h).2.2.1, (hc1.1 h).2.2.2.1, (hc1.1 h).2.2.2.2.1, h2⟩
  have HML : Hid (c1 = true → t.sys.length = u.sys.length) := fun h => (hc1.1 h).2.2.2.2.2
  have H1 : Hid (_ = _) := hW
  have HK : Hid (∀ b2 : Bool, (b2 = true ↔ t.kids = u.kids) → ∀ w2, Below W.heap.size W w2 → Calls Tryz.prog 24 #[.slice ka t.kids.length kc, .slice ka' u.kids.length kc'] w2 fun e w' => e = .returned (.bool b2) ∧ Below w2.heap.size w2 w') := fun b2 h2 w2 q => IH _ _ b2 _ _ w2 (HT.out.blw q).kids (HU.out.blw q).kids HLk.out.1 HLk.out.2.1 h2
  have HRr : Hid (∀ w2, Below W.heap.size W w2 → Calls Tryz.prog 16 #[.slice ra t.r.length rc, .slice ra' u.r.length rc'] w2 fun e w' => e = .returned (.bool (decide (t.r = u.r))) ∧ Below w2.heap.size w2 w') := fun w2 q => same_any t.r u.r _ _ w2 (HT.out.blw q).row.row (HU.out.blw q).row.row (by have := HLk.out.2.2; omega)
  obtain ⟨_, y0, y1, y2, y3, y4, y5⟩ := c6
  obtain ⟨_, z0, z1, z2, z3, z4, z5⟩ := c6'
  simp only [Nat.zero_add] at y1 y2 y3 y4 y5 z1 z2 z3 z4 z5
  obtain ⟨a0, ha0⟩ : ∃ a, a = t.kind := ⟨_, rfl⟩
  obtain ⟨b0, hb0⟩ : ∃ a, a = u.kind := ⟨_, rfl⟩
  obtain ⟨a1, ha1⟩ : ∃ a, a = t.n := ⟨_, rfl⟩
  obtain ⟨b1, hb1⟩ : ∃ a, a = u.n := ⟨_, rfl⟩
  obtain ⟨a2, ha2⟩ : ∃ a, a = t.name := ⟨_, rfl⟩
  obtain ⟨b2, hb2⟩ : ∃ a, a = u.name := ⟨_, rfl⟩
  obtain ⟨M, hM⟩ : ∃ a, a = t.sys.length := ⟨_, rfl⟩
  obtain ⟨M', hM'⟩ : ∃ a, a = u.sys.length := ⟨_, rfl⟩
  have HM : Hid (M = t.sys.length) := hM
  have HM' : Hid (M' = u.sys.length) := hM'
  obtain ⟨rb, hrb⟩ : ∃ r, r = decide (t.r = u.r) := ⟨_, rfl⟩
  obtain ⟨kb, hkb⟩ := bool_of (t.kids = u.kids)
  have cR0 := HRr.out
  have cK0 := HK.out kb hkb
  rw [← hrb] at cR0
  have HcR : Hid (_) := cR0
  have HcK : Hid (_) := cK0
  rw [← ha0, ← hb0, ← ha1, ← hb1, ← ha2, ← hb2, ← hM, ← hM'] at hc1
  have hr2 : (rb = true ↔ t.r = u.r) := by rw [hrb]; simp
  rw [← hr2, ← hkb] at hc1
  rw [← ha0] at y0
  rw [← hb0] at z0
  rw [← ha1] at y1
  rw [← hb1] at z1
  rw [← ha2] at y2
  rw [← hb2] at z2
  rw [← hM] at y5
  rw [← hM'] at z5
  rw [← hM] at hlen
  clear hW hv hv' ht ht' ha0 hb0 ha1 hb1 ha2 hb2 hM hM' hrb hkb cR0 cK0 hr2 hb hbs
  have hMb : M ≤ 100000 := by omega
  clear hlen
  go_enter Tryz.func10, Tryz.ntmps10
  go_upto_region 1 with fail
  rw [← H1.out]
  clear H1
  go_cut [49] (fun s wx => s = .bool (!c1) ∧ Below W.heap.size W wx)
  case first => as_aux_lemma =>
    by_cases q0 : a0 = b0
    · subst q0
      by_cases q1 : a1 = b1
      · subst q1
        by_cases q2 : a2 = b2
        · subst q2
          have cR := HcR.out W (Below.refl _ _)
          cases rb with
          | false =>
            have e : c1 = false := by rw [Bool.eq_false_iff]; intro h; have := (hc1.1 h).2.2.2.1; cases this
            clear hc1
            go_wp2_with fail
            refine cR.mono ?_
            rintro e9 w2 ⟨rfl, b2⟩
            clear cR y0 y1 y2 y3 y4 y5 z0 z1 z2 z3 z4 z5
            go_wp2_with fail
            go_meet
            exact ⟨by rw [e]; rfl, b2⟩
          | true =>
            cases kb with
            | false =>
              have e : c1 = false := by rw [Bool.eq_false_iff]; intro h; have := (hc1.1 h).2.2.2.2.1; cases this
              clear hc1
              go_wp2_with fail
              refine cR.mono ?_
              rintro e9 w2 ⟨rfl, b2⟩
              clear cR
              clear y0 y1 y2 y3 y4 y5 z0 z1 z2 z3 z4 z5
              obtain ⟨_, y0, y1, y2, y3, y4, y5⟩ := HC.out.blw (b2)
              obtain ⟨_, z0, z1, z2, z3, z4, z5⟩ := HC'.out.blw (b2)
              simp only [Nat.zero_add] at y1 y2 y3 y4 y5 z1 z2 z3 z4 z5
              rw [← HM.out] at y5
              rw [← HM'.out] at z5
              have cK := HcK.out w2 b2
              go_wp2_with fail
              refine cK.mono ?_
              rintro e9 w3 ⟨rfl, b3⟩
              clear cK y0 y1 y2 y3 y4 y5 z0 z1 z2 z3 z4 z5
              go_wp2_with fail
              go_meet
              exact ⟨by rw [e]; rfl, bchain b2 b3⟩
            | true =>
              by_cases q5 : M = M'
              · have e : c1 = true := hc1.2 ⟨rfl, rfl, rfl, rfl, rfl, q5⟩
                clear hc1
                go_wp2_with fail
                refine cR.mono ?_
                rintro e9 w2 ⟨rfl, b2⟩
                clear cR
                clear y0 y1 y2 y3 y4 y5 z0 z1 z2 z3 z4 z5
                obtain ⟨_, y0, y1, y2, y3, y4, y5⟩ := HC.out.blw (b2)
                obtain ⟨_, z0, z1, z2, z3, z4, z5⟩ := HC'.out.blw (b2)
                simp only [Nat.zero_add] at y1 y2 y3 y4 y5 z1 z2 z3 z4 z5
                rw [← HM.out] at y5
                rw [← HM'.out] at z5
                have cK := HcK.out w2 b2
                go_wp2_with fail
                refine cK.mono ?_
                rintro e9 w3 ⟨rfl, b3⟩
                clear cK
                clear y0 y1 y2 y3 y4 y5 z0 z1 z2 z3 z4 z5
                obtain ⟨_, y0, y1, y2, y3, y4, y5⟩ := HC.out.blw (bchain b2 b3)
                obtain ⟨_, z0, z1, z2, z3, z4, z5⟩ := HC'.out.blw (bchain b2 b3)
                simp only [Nat.zero_add] at y1 y2 y3 y4 y5 z1 z2 z3 z4 z5
                rw [← HM.out] at y5
                rw [← HM'.out] at z5
                subst q5
                go_wp2_with fail
                go_meet
                exact ⟨by rw [e]; rfl, bchain b2 b3⟩
              · have e : c1 = false := by rw [Bool.eq_false_iff]; intro h; exact q5 (hc1.1 h).2.2.2.2.2
                have p1 : ((M : Int) == (M' : Int)) = false := by simp; omega
                have p2 : ¬ (M : Int) = (M' : Int) := by omega
                have p3 : ((M : Int) != (M' : Int)) = true := by simp; omega
                clear hc1
                go_wp2_with fail
                refine cR.mono ?_
                rintro e9 w2 ⟨rfl, b2⟩
                clear cR
                clear y0 y1 y2 y3 y4 y5 z0 z1 z2 z3 z4 z5
                obtain ⟨_, y0, y1, y2, y3, y4, y5⟩ := HC.out.blw (b2)
                obtain ⟨_, z0, z1, z2, z3, z4, z5⟩ := HC'.out.blw (b2)
                simp only [Nat.zero_add] at y1 y2 y3 y4 y5 z1 z2 z3 z4 z5
                rw [← HM.out] at y5
                rw [← HM'.out] at z5
                have cK := HcK.out w2 b2
                go_wp2_with fail
                refine cK.mono ?_
                rintro e9 w3 ⟨rfl, b3⟩
                clear cK
                clear y0 y1 y2 y3 y4 y5 z0 z1 z2 z3 z4 z5
                obtain ⟨_, y0, y1, y2, y3, y4, y5⟩ := HC.out.blw (bchain b2 b3)
                obtain ⟨_, z0, z1, z2, z3, z4, z5⟩ := HC'.out.blw (bchain b2 b3)
                simp only [Nat.zero_add] at y1 y2 y3 y4 y5 z1 z2 z3 z4 z5
                rw [← HM.out] at y5
                rw [← HM'.out] at z5
                go_wp2_with fail
                go_meet
                exact ⟨by rw [e]; rfl, bchain b2 b3⟩
        · have e : c1 = false := by rw [Bool.eq_false_iff]; intro h; exact q2 ((hc1.1 h).2.2.1)
          have p1 := strNe q2
          clear hc1
          go_wp2_with fail
          go_meet
          exact ⟨by rw [e]; rfl, Below.refl _ _⟩
      · have e : c1 = false := by rw [Bool.eq_false_iff]; intro h; exact q1 ((hc1.1 h).2.1)
        have p1 : (a1 == b1) = false := by simpa using q1
        have p2 : (a1 != b1) = true := by simpa using q1
        clear hc1
        go_wp2_with fail
        go_meet
        exact ⟨by rw [e]; rfl, Below.refl _ _⟩
    · have e : c1 = false := by rw [Bool.eq_false_iff]; intro h; exact q0 ((hc1.1 h).1)
      have p1 : (a0 == b0) = false := by simpa using q0
      have p2 : (a0 != b0) = true := by simpa using q0
      clear hc1
      go_wp2_with fail
      go_meet
      exact ⟨by rw [e]; rfl, Below.refl _ _⟩
  case rest =>
  obtain ⟨rfl, hB2⟩ := hcut
  clear hc1 y0 y1 y2 y3 y4 y5 z0 z1 z2 z3 z4 z5
  obtain ⟨w2, hw2e⟩ : ∃ w2, w2 = wc := ⟨_, rfl⟩
  subst hw2e
  cases c1 with
  | false =>
    have HB : Hid (b = false) := HF1.out rfl
    go_wp2_with fail
    go_ret
    exact ⟨ret_bool HB.out.symm, bchain bW hB2⟩
  | true =>
    have hMM : M = M' := by rw [HM.out, HM'.out]; exact HML.out rfl
    subst hMM
    go_wp2_with fail
    go_loopw [5] (fun i wr => ∃ k : Nat, k ≤ M ∧ i = .int .i64 k ∧ Hid (∀ j, j < k → t.sys[j]? = u.sys[j]?) ∧ Below W.heap.size W wr) (fun i _ => M - (intOf i).toNat)
    case atStart => exact ⟨0, Nat.zero_le _, rfl, fun j hj => by omega, hB2⟩
    case round =>
      obtain ⟨wo, hwo⟩ : ∃ wo, wo = wr := ⟨_, rfl⟩
      subst hwo
      obtain ⟨k, hk, rfl, HS, hBr⟩ := hrel
      obtain ⟨_, y0, y1, y2, y3, y4, y5⟩ := HC.out.blw hBr
      simp only [Nat.zero_add] at y1 y2 y3 y4 y5
      rw [← HM.out] at y5
      by_cases hlt : k < M
      · have hkI : (k : Int) < (M : Int) := by omega
        obtain ⟨c, hc⟩ := someL (l := t.sys) (k := k) (by rw [← HM.out]; exact hlt)
        obtain ⟨d, hd⟩ := someL (l := u.sys) (k := k) (by rw [← HM'.out]; exact hlt)
        have hcl := HLs.out c (List.mem_of_getElem? hc)
        have HX : Hid (t.sys[k]? = some c ∧ u.sys[k]? = some d) := ⟨hc, hd⟩
        obtain ⟨g, off, fa, fc, ka1, kc1, rfl, hg, q2, qf, qk⟩ := (HT.out.blw hBr).sys.at hc
        obtain ⟨g2, off2, fa2, fc2, ka2, kc2, rfl, hg2, p2, pf, pk⟩ := (HU.out.blw hBr).sys.at hd
        have HQ : Hid (Cs2 wo g (off + k * 2) c fa fc ka1 kc1) := q2
        have HP : Hid (Cs2 wo g2 (off2 + k * 2) d fa2 fc2 ka2 kc2) := p2
        obtain ⟨fb, hfb⟩ : ∃ x, x = decide (c.1 = d.1) := ⟨_, rfl⟩
        obtain ⟨gb, hgb⟩ := bool_of (c.2 = d.2)
        have HG : Hid ((fb = true ↔ c.1 = d.1) ∧ (gb = true ↔ c.2 = d.2)) := ⟨by rw [hfb]; simp, hgb⟩
        have rF : Hid (∀ z : Cw wo, Calls Tryz.prog 16 #[.slice fa c.1.length fc, .slice fa2 d.1.length fc2] z.1 fun e w' => e = .returned (.bool fb) ∧ ∃ z' : Cw wo, w' = z'.1) := fun z => cw_call z (by rw [hfb]; exact same_any c.1 d.1 _ _ z.1 (qf.blw z.2).row (pf.blw z.2).row (by omega))
        have rK : Hid (∀ z : Cw wo, Calls Tryz.prog 24 #[.slice ka1 c.2.length kc1, .slice ka2 d.2.length kc2] z.1 fun e w' => e = .returned (.bool gb) ∧ ∃ z' : Cw wo, w' = z'.1) := fun z => cw_call z (IH c.2 d.2 gb _ _ z.1 (qk.blw z.2) (pk.blw z.2) hcl.1 hcl.2.1 hgb)
        have e0 : ∀ z : Cw wo, z.1.cell? ⟨g, off + k * 2, none⟩ = some (.slice fa c.1.length fc) := fun z => (HQ.out.blw z.2).c0
        have e1 : ∀ z : Cw wo, z.1.cell? ⟨g, off + k * 2 + 1, none⟩ = some (.slice ka1 c.2.length kc1) := fun z => (HQ.out.blw z.2).c1
        have f0 : ∀ z : Cw wo, z.1.cell? ⟨g2, off2 + k * 2, none⟩ = some (.slice fa2 d.1.length fc2) := fun z => (HP.out.blw z.2).c0
        have f1 : ∀ z : Cw wo, z.1.cell? ⟨g2, off2 + k * 2 + 1, none⟩ = some (.slice ka2 d.2.length kc2) := fun z => (HP.out.blw z.2).c1
        have y5a : ∀ z : Cw wo, z.1.cell? ⟨w.heap.size, 5, none⟩ = some (.slice (some ⟨g, off, none⟩) M sc) := fun z => by have := (HC.out.blw (bchain hBr z.2)).c5; rw [← HM.out] at this; simpa only [Nat.zero_add] using this
        have z5a : ∀ z : Cw wo, z.1.cell? ⟨w.heap.size + 1, 5, none⟩ = some (.slice (some ⟨g2, off2, none⟩) M sc') := fun z => by have := (HC'.out.blw (bchain hBr z.2)).c5; rw [← HM'.out] at this; simpa only [Nat.zero_add] using this
        clear hc hd q2 p2 qf qk pf pk hfb hgb hcl
        have hne := cw_any wo
        go_upto_region 6 with fail
        clear y0 y1 y2 y3 y4 y5
        cases fb with
        | false =>
          refine wp_region_cw (by kernel_rfl) (by kernel_rfl) ?_
          repeat (first | go_big_quiet_step (fail) | quiet_step (fail))
          first | go_big_quiet_step (exact rF.out _) | quiet_step (exact rF.out _)
          repeat (first | go_big_quiet_step (fail) | quiet_step (fail))
          refine wpQuiet_nil ?_
          rintro _ ⟨z, rfl⟩
          obtain ⟨w6, b6⟩ := z
          dsimp only
          clear rF rK hne e0 e1 f0 f1 y5a z5a
          have HB : Hid (b = false) := HF2.out (fun h => by
            have e := HX.out.1
            rw [h, HX.out.2] at e
            cases e
            have := HG.out.1.2 rfl
            cases this)
          go_wp2_with fail
          go_ret
          exact ⟨ret_bool HB.out.symm, bchain bW (bchain hBr b6)⟩
        | true =>
          cases gb with
          | false =>
            refine wp_region_cw (by kernel_rfl) (by kernel_rfl) ?_
            repeat (first | go_big_quiet_step (fail) | quiet_step (fail))
            first | go_big_quiet_step (exact rF.out _) | quiet_step (exact rF.out _)
            repeat (first | go_big_quiet_step (fail) | quiet_step (fail))
            first | go_big_quiet_step (exact rK.out _) | quiet_step (exact rK.out _)
            repeat (first | go_big_quiet_step (fail) | quiet_step (fail))
            refine wpQuiet_nil ?_
            rintro _ ⟨z, rfl⟩
            obtain ⟨w6, b6⟩ := z
            dsimp only
            clear rF rK hne e0 e1 f0 f1 y5a z5a
            have HB : Hid (b = false) := HF2.out (fun h => by
              have e := HX.out.1
              rw [h, HX.out.2] at e
              cases e
              have := HG.out.2.2 rfl
              cases this)
            go_wp2_with fail
            go_ret
            exact ⟨ret_bool HB.out.symm, bchain bW (bchain hBr b6)⟩
          | true =>
            refine wp_region_cw (by kernel_rfl) (by kernel_rfl) ?_
            repeat (first | go_big_quiet_step (fail) | quiet_step (fail))
            first | go_big_quiet_step (exact rF.out _) | quiet_step (exact rF.out _)
            repeat (first | go_big_quiet_step (fail) | quiet_step (fail))
            first | go_big_quiet_step (exact rK.out _) | quiet_step (exact rK.out _)
            repeat (first | go_big_quiet_step (fail) | quiet_step (fail))
            refine wpQuiet_nil ?_
            rintro _ ⟨z, rfl⟩
            obtain ⟨w6, b6⟩ := z
            dsimp only
            clear rF rK hne e0 e1 f0 f1 y5a z5a
            have HS' : Hid (∀ j, j < k + 1 → t.sys[j]? = u.sys[j]?) := fun j hj => by
              rcases Nat.lt_or_ge j k with h | h
              · exact HS.out j h
              · have ej : j = k := by omega
                rw [ej, HX.out.1, HX.out.2]
                exact congrArg some (Prod.ext (HG.out.1.1 (by first | rfl | trivial)) (HG.out.2.1 (by first | rfl | trivial)))
            clear HS HX HG
            go_wp2_with fail
            go_roundw
            case rel => exact ⟨k + 1, by omega, by go_num, HS', bchain hBr b6⟩
            case measure => simp [intOf]; omega
      · have hkI : ¬ (k : Int) < (M : Int) := by omega
        have HB : Hid (b = true) := HTr.out (by first | rfl | trivial) (by
          apply List.ext_getElem?
          intro j
          rcases Nat.lt_or_ge j k with h | h
          · exact HS.out j h
          · rw [List.getElem?_eq_none (by rw [← HM.out]; omega), List.getElem?_eq_none (by rw [← HM'.out]; omega)])
        clear HS
        go_wp2_with fail
        go_ret
        exact ⟨ret_bool HB.out.symm, bchain bW hBr⟩
theorem rsame_any (N : Nat) : RSmC N := by
  induction N with
  | zero => intro t u b v v' w _ _ hb; have := blk_pos t; omega
  | succ N ih => exact rsame_step N (rlists_of N ih)
end Go.Proofs.YtjimednocmdpnaaGreat

namespace Go.Proofs.YtjimednocmdpnaaGreat
open Go.ChangeShapes Go.WideShapes Go.ChangeAt Go.RowKit
set_option linter.unusedVariables false
set_option linter.unusedSimpArgs false

section
variable {H : Type} {enc : TypeId × Value → H}
theorem wf_I64 {n : Int} (h : (Lit.int .i64 n).wf = true) : I64 n := by
  simp [Lit.wf, IntKind.min, IntKind.max, IntKind.bits, IntKind.signed] at h
  exact ⟨by omega, by omega⟩
set_option maxRecDepth 100000 in
theorem cells_term : Tryz.prog.cellsOf 26 = 6 := by kernel_rfl
set_option maxRecDepth 100000 in
theorem cells_branch : Tryz.prog.cellsOf 46 = 2 := by kernel_rfl
set_option maxRecDepth 100000 in
theorem cells_terms : Tryz.prog.cellsOf 23 = 1 := by kernel_rfl
set_option maxRecDepth 100000 in
theorem cells_branches : Tryz.prog.cellsOf 24 = 1 := by kernel_rfl
set_option maxRecDepth 100000 in
theorem cells_cls : Tryz.prog.cellsOf 22 = 1 := by kernel_rfl
set_option maxRecDepth 100000 in
theorem ycells_int : Tryz.prog.cellsOf 3 = 1 := by kernel_rfl
set_option maxRecDepth 100000 in
theorem ycells_str : Tryz.prog.cellsOf 9 = 1 := by kernel_rfl
/-- A slice that came in, element by element. -/
theorem open_any {W : World} {fuel : Nat} {cs : List Value} {x : DataW H × List MemPlace} {ts te : TypeId} {k : Nat} (hu : Tryz.prog.underlying ts = some (.slice te)) (hk : Tryz.prog.cellsOf te = k) (hk0 : 0 < k) {T : Type} [Inhabited T] (p : T → List Value → Prop)
    (ih : ∀ m, m < fuel → ∀ cs x, DataW.trod enc Tryz.prog W 0 (fun _ => true) true m te cs = some x → ∃ t, p t cs) (h : DataW.trod enc Tryz.prog W 0 (fun _ => true) true fuel ts cs = some x) :
    ∃ (l : List T) (a : Option Addr) (cap : Nat), cs = [.slice a l.length cap] ∧ l.length ≤ cap ∧ ∀ j t, l[j]? = some t → ∃ g off cs', a = some ⟨g, off, none⟩ ∧ g < W.heap.size ∧ p t cs' ∧ ∀ i, i < k → W.cell? ⟨g, off + j * k + i, none⟩ = cs'[i]? := by
  rcases DataW.trod_slice hu h with ⟨rfl, _⟩ | ⟨a, len, cap, elems, rest, m, rfl, rfl, _, hba, hlc, hcm, hel, hcell, _, _⟩
  · exact ⟨[], none, 0, rfl, Nat.le_refl _, fun j t ht => by simp at ht⟩
  · have each : ∀ i, i < len → ∃ (t : T), ∃ cs', p t cs' ∧ cs'.length = k ∧ ∀ j, j < k → W.cell? (a.add (i * k + j)) = cs'[j]? := fun i hi => by
      have h1 := hcell i hi
      rw [List.getElem?_eq_getElem (by omega), hk] at h1
      obtain ⟨cs', h2, h3⟩ := Option.bind_eq_some_iff.1 h1
      obtain ⟨t, hp⟩ := ih m (by omega) _ _ h3
      obtain ⟨h5, h6, h4⟩ := World.cells?_some h2
      refine ⟨t, cs', hp, by first | exact h5 | exact h6 | omega, fun j hj => ?_⟩
      have := h4 j hj
      rw [Go.Deep.add_add] at this
      exact this
    obtain ⟨f, hf⟩ := Go.Deep.choose_lt (p := fun i t => ∃ cs', p t cs' ∧ cs'.length = k ∧ ∀ j, j < k → W.cell? (a.add (i * k + j)) = cs'[j]?) each
    refine ⟨(List.range len).map f, some a, cap, by simp, by simpa using hlc, fun j x hx => ?_⟩
    have hj : j < len := by
      rcases Nat.lt_or_ge j len with h1 | h1
      · exact h1
      · rw [List.getElem?_eq_none (by simpa using h1)] at hx; cases hx
    rw [List.getElem?_map, List.getElem?_range hj] at hx
    simp at hx
    subst hx
    obtain ⟨cs', hs, hl', hc⟩ := hf j hj
    obtain ⟨cs0, _, hl0, hc0⟩ := hf 0 (by omega)
    obtain ⟨b, off, spot⟩ := a
    have h0 : W.cell? ⟨b, off, spot⟩ = some (cs0[0]'(by omega)) := by
      have := hc0 0 hk0
      rw [List.getElem?_eq_getElem (by omega)] at this
      simpa [Addr.add] using this
    have hspot : spot = none := World.cell?_spot h0
    subst hspot
    have hb : b < W.heap.size := World.block_lt_of_cell? _ _ h0
    have e : ∀ j', Addr.add ⟨b, off, none⟩ (j * k + j') = ⟨b, off + j * k + j', none⟩ := fun j' => by
      unfold Addr.add
      split
      · next h9 =>
        have h1 : j * k = 0 := by omega
        have h2 : j' = 0 := by omega
        rw [h1, h2]; rfl
      · rw [Nat.add_assoc]
    exact ⟨b, off, cs', rfl, hb, hs, fun i hi => by have := hc i hi; rw [e] at this; exact this⟩
set_option maxRecDepth 100000 in
theorem open_clause1 {W : World} (m : Nat) (cs : List Value) (x : DataW H × List MemPlace) (h : DataW.trod enc Tryz.prog W 0 (fun _ => true) true m 43 cs = some x) : ∃ c : C, cs = [.int .u32 (c.1.val : Int), .int .u32 (c.2.val : Int)] := by
  obtain ⟨xs, n, rfl, _, hl, hlen, hf⟩ := DataW.trod_struct Tryz.underlying43 h
  rw [Tryz.cellsC] at hl
  match cs, hl with
  | [u0, u1], _ =>
    match xs, hlen with
    | [y0, y1], _ =>
      have e0 : DataW.trod enc Tryz.prog W 0 (fun _ => true) true n 41 (([u0, u1].drop 0).take (Tryz.prog.cellsOf 41)) = some y0 := hf 0 _ rfl
      have e1 : DataW.trod enc Tryz.prog W 0 (fun _ => true) true n 41 (([u0, u1].drop 1).take (Tryz.prog.cellsOf 41)) = some y1 := hf 1 _ rfl
      rw [Tryz.cellsU] at e0 e1
      obtain ⟨a, i0, _, w0⟩ := DataW.trod_int Tryz.underlying41 e0
      obtain ⟨b, i1, _, w1⟩ := DataW.trod_int Tryz.underlying41 e1
      obtain ⟨a, rfl⟩ := bounds_wf w0
      obtain ⟨b, rfl⟩ := bounds_wf w1
      simp at i0 i1
      subst i0 i1
      exact ⟨(a, b), rfl⟩
theorem open_cls {W : World} {fuel : Nat} {cs : List Value} {x : DataW H × List MemPlace} (h : DataW.trod enc Tryz.prog W 0 (fun _ => true) true fuel 22 cs = some x) : ∃ (l : List C) (v : Value), cs = [v] ∧ ClRow Tt W l v := by
  haveI : Inhabited C := ⟨(0, 0)⟩
  obtain ⟨l, a, cap, rfl, hl, hx⟩ := open_any Tryz.underlying22 Tryz.cellsC (by omega) (fun (c : C) cs => cs = [.int .u32 (c.1.val : Int), .int .u32 (c.2.val : Int)]) (fun m _ => open_clause1 m) h
  refine ⟨l, _, rfl, a, cap, rfl, hl, fun j c hj => ?_⟩
  obtain ⟨g, off, cs', ha, hg, rfl, hc⟩ := hx j c hj
  exact ⟨g, off, ha, trivial, hg, hc 0 (by omega), hc 1 (by omega)⟩
def TmOf (W : World) (t : Tm) (cs : List Value) : Prop := ∃ u0 u1 u2 u3 u4 u5, cs = [u0, u1, u2, u3, u4, u5] ∧ TmIn Tt W t (.agg #[u0, u1, u2, u3, u4, u5])
instance : Inhabited Tm := ⟨.mk 0 0 ByteArray.empty [] [] []⟩
theorem open_kidsT {W : World} {fuel : Nat} {cs : List Value} {x : DataW H × List MemPlace} (ih : ∀ m, m < fuel → ∀ cs x, DataW.trod enc Tryz.prog W 0 (fun _ => true) true m 26 cs = some x → ∃ t, TmOf W t cs) (h : DataW.trod enc Tryz.prog W 0 (fun _ => true) true fuel 23 cs = some x) :
    ∃ (l : List Tm) (v : Value), cs = [v] ∧ KdT Tt W (TmIn Tt W) l v := by
  obtain ⟨l, a, cap, rfl, hl, hx⟩ := open_any Tryz.underlying23 cells_term (by omega) (TmOf W) ih h
  refine ⟨l, _, rfl, a, cap, rfl, hl, fun j c hj => ?_⟩
  obtain ⟨g, off, cs', ha, hg, ⟨u0, u1, u2, u3, u4, u5, rfl, ht⟩, hc⟩ := hx j c hj
  exact ⟨g, off, u0, u1, u2, u3, u4, u5, ha, trivial, hg, ht, hc 0 (by omega), hc 1 (by omega), hc 2 (by omega), hc 3 (by omega), hc 4 (by omega), hc 5 (by omega)⟩
def BrOf (W : World) (b : List C × List Tm) (cs : List Value) : Prop := ∃ vf vk, cs = [vf, vk] ∧ ClRow Tt W b.1 vf ∧ KdT Tt W (TmIn Tt W) b.2 vk
set_option maxRecDepth 100000 in
theorem open_branch {W : World} {fuel : Nat} (ih : ∀ m, m < fuel → ∀ cs x, DataW.trod enc Tryz.prog W 0 (fun _ => true) true m 26 cs = some x → ∃ t, TmOf W t cs) (cs : List Value) (x : DataW H × List MemPlace) (h : DataW.trod enc Tryz.prog W 0 (fun _ => true) true fuel 46 cs = some x) : ∃ b, BrOf W b cs := by
  obtain ⟨xs, n, rfl, _, hl, hlen, hf⟩ := DataW.trod_struct Tryz.underlying46 h
  rw [cells_branch] at hl
  match cs, hl with
  | [u0, u1], _ =>
    match xs, hlen with
    | [y0, y1], _ =>
      have e0 : DataW.trod enc Tryz.prog W 0 (fun _ => true) true n 22 (([u0, u1].drop 0).take (Tryz.prog.cellsOf 22)) = some y0 := hf 0 _ rfl
      have e1 : DataW.trod enc Tryz.prog W 0 (fun _ => true) true n 23 (([u0, u1].drop 1).take (Tryz.prog.cellsOf 23)) = some y1 := hf 1 _ rfl
      rw [cells_cls] at e0
      rw [cells_terms] at e1
      obtain ⟨r, vr, i0, hr⟩ := open_cls e0
      obtain ⟨l, vl, i1, hK⟩ := open_kidsT (fun m hm => ih m (by omega)) e1
      simp at i0 i1
      subst i0 i1
      exact ⟨(r, l), _, _, rfl, hr, hK⟩
theorem open_sysT {W : World} {fuel : Nat} {cs : List Value} {x : DataW H × List MemPlace} (ih : ∀ m, m < fuel → ∀ cs x, DataW.trod enc Tryz.prog W 0 (fun _ => true) true m 26 cs = some x → ∃ t, TmOf W t cs) (h : DataW.trod enc Tryz.prog W 0 (fun _ => true) true fuel 24 cs = some x) :
    ∃ (l : List (List C × List Tm)) (v : Value), cs = [v] ∧ SyT Tt W (TmIn Tt W) l v := by
  haveI : Inhabited (List C × List Tm) := ⟨([], [])⟩
  obtain ⟨l, a, cap, rfl, hl, hx⟩ := open_any Tryz.underlying24 cells_branch (by omega) (BrOf W) (fun m hm => open_branch fun m' hm' => ih m' (by omega)) h
  refine ⟨l, _, rfl, a, cap, rfl, hl, fun j c hj => ?_⟩
  obtain ⟨g, off, cs', ha, hg, ⟨vf, vk, rfl, hf, hk⟩, hc⟩ := hx j c hj
  exact ⟨g, off, vf, vk, ha, trivial, hg, hf, hk, hc 0 (by omega), hc 1 (by omega)⟩
set_option maxRecDepth 100000 in
theorem open_tm {W : World} : ∀ (fuel : Nat) (cs : List Value) (x : DataW H × List MemPlace), DataW.trod enc Tryz.prog W 0 (fun _ => true) true fuel 26 cs = some x → ∃ t, TmOf W t cs := by
  intro fuel
  induction fuel using Nat.strongRecOn with
  | _ fuel ih =>
    intro cs x h
    obtain ⟨xs, n, rfl, _, hl, hlen, hf⟩ := DataW.trod_struct Tryz.underlying26 h
    rw [cells_term] at hl
    match cs, hl with
    | [u0, u1, u2, u3, u4, u5], _ =>
      match xs, hlen with
      | [y0, y1, y2, y3, y4, y5], _ =>
        have e0 : DataW.trod enc Tryz.prog W 0 (fun _ => true) true n 3 (([u0, u1, u2, u3, u4, u5].drop 0).take (Tryz.prog.cellsOf 3)) = some y0 := hf 0 _ rfl
        have e1 : DataW.trod enc Tryz.prog W 0 (fun _ => true) true n 3 (([u0, u1, u2, u3, u4, u5].drop 1).take (Tryz.prog.cellsOf 3)) = some y1 := hf 1 _ rfl
        have e2 : DataW.trod enc Tryz.prog W 0 (fun _ => true) true n 9 (([u0, u1, u2, u3, u4, u5].drop 2).take (Tryz.prog.cellsOf 9)) = some y2 := hf 2 _ rfl
        have e3 : DataW.trod enc Tryz.prog W 0 (fun _ => true) true n 22 (([u0, u1, u2, u3, u4, u5].drop 3).take (Tryz.prog.cellsOf 22)) = some y3 := hf 3 _ rfl
        have e4 : DataW.trod enc Tryz.prog W 0 (fun _ => true) true n 23 (([u0, u1, u2, u3, u4, u5].drop 4).take (Tryz.prog.cellsOf 23)) = some y4 := hf 4 _ rfl
        have e5 : DataW.trod enc Tryz.prog W 0 (fun _ => true) true n 24 (([u0, u1, u2, u3, u4, u5].drop 5).take (Tryz.prog.cellsOf 24)) = some y5 := hf 5 _ rfl
        rw [ycells_int] at e0 e1
        rw [ycells_str] at e2
        rw [cells_cls] at e3
        rw [cells_terms] at e4
        rw [cells_branches] at e5
        obtain ⟨k, i0, _, w0⟩ := DataW.trod_int Tryz.underlying3 e0
        obtain ⟨nn, i1, _, w1⟩ := DataW.trod_int Tryz.underlying3 e1
        obtain ⟨s, i2, _, _⟩ := DataW.trod_string Tryz.underlying9 e2
        obtain ⟨r, vr, i3, hr⟩ := open_cls e3
        obtain ⟨l, vl, i4, hK⟩ := open_kidsT (fun m hm => ih m (by omega)) e4
        obtain ⟨sy, vs, i5, hS⟩ := open_sysT (fun m hm => ih m (by omega)) e5
        simp at i0 i1 i2 i3 i4 i5
        subst i0 i1 i2 i3 i4 i5
        exact ⟨.mk k nn s r l sy, _, _, _, _, _, _, rfl, .mk _ _ _ _ _ _ _ _ _ (wf_I64 w0) (wf_I64 w1) hr hK hS⟩
set_option maxRecDepth 100000 in
theorem open_term1 {W : World} {base : Nat} {v : Value} {d : DataW H} {p : List MemPlace} (hv : Value.okWide Tryz.prog W .any base 26 v) (h : DataW.Trod enc Tryz.prog W 0 (fun _ => true) true 26 v d p) : ∃ t : Tm, TmIn Tt W t v := by
  obtain ⟨cs, rfl, hsz⟩ := okWide_struct Tryz.underlying26 hv
  obtain ⟨fuel, hf⟩ := h
  obtain ⟨t, u0, u1, u2, u3, u4, u5, e, hs⟩ := open_tm _ _ _ hf
  have ec : cs = #[u0, u1, u2, u3, u4, u5] := by
    simp [Value.cells] at e
    rw [← e]
  rw [ec]
  exact ⟨t, hs⟩
end
end Go.Proofs.YtjimednocmdpnaaGreat

namespace Go.Proofs.YtjimednocmdpnaaGreat
open Go.RowKit
set_option linter.unusedVariables false
set_option linter.unusedSimpArgs false

theorem lAll : LAll := fun s hs N => lf_any hs N
section
open Go.ChangeShapes Go.WideShapes Go.ChangeAt
variable {H : Type} {enc : TypeId × Value → H}
set_option maxRecDepth 100000 in
theorem open_row {W : World} {base : Nat} {v : Value} {d : DataW H} {p : List MemPlace} (hv : Value.okWide Tryz.prog W .any base 22 v) (h : DataW.Trod enc Tryz.prog W 0 (fun _ => true) true 22 v d p) : ∃ l : List C, ClRow Tt W l v := by
  obtain ⟨a0, len, cap, rfl⟩ := okWide_slice Tryz.underlying22 hv
  obtain ⟨fuel, hf⟩ := h
  obtain ⟨l, v', e, hs⟩ := open_cls hf
  have ec : Value.slice a0 len cap = v' := by
    simp [Value.cells] at e
    first | exact e | exact e.symm
  rw [ec]
  exact ⟨l, hs⟩
end
theorem dimsE_self {i : Nat} {t : Tm} (h : dimsE (i : Int) 1 t = 0) : erT (sd (i : Int)) t 0 0 = 0 ∧ dimsT (i : Int) 1 t = liT (sd (i : Int)) t 0 0 := by
  unfold dimsE apE at h
  unfold dimsT apT
  by_cases hw : wrL (i : Int) 1 t = 0
  · rw [if_pos hw] at h
    refine ⟨h, ?_⟩
    rw [if_pos hw]
    unfold ansL
    rw [if_pos h]
    rfl
  · rw [if_neg hw] at h
    exact absurd h hw
set_option maxRecDepth 100000 in
set_option maxHeartbeats 16000000 in
theorem walk_DimsSelf (t : Tm) (v0 : Value) (i : Int) (hwi : (Lit.int .i64 i).wf = true) (r : List C) (v2 : Value) (w : World) (hv0 : TmIn Tt w t v0) (hr : ClRow Tt w r v2) :
    Calls Tryz.prog 3 #[v0, .int .i64 i, v2] w fun e w' => e = .returned (.bool true) ∧ Below w.heap.size w w' := by
  have hiI := wf_I64 hwi
  obtain ⟨ar, cr, e2, _⟩ := id hr
  subst e2
  obtain ⟨LR, hLR⟩ : ∃ L, L = r.length := ⟨_, rfl⟩
  obtain ⟨ra, rc, ka, kc, sa, sc, rfl, ht⟩ := hv0.form
  obtain ⟨w1, hw1⟩ : ∃ W, W = w.alloc (.cells #[.int .i64 t.kind, .int .i64 t.n, .string t.name, .slice ra t.r.length rc, .slice ka t.kids.length kc, .slice sa t.sys.length sc] 26) := ⟨_, rfl⟩
  have b1 : Below w.heap.size w w1 := by rw [hw1]; exact belowA _ _
  obtain ⟨X, hX⟩ : ∃ X, X = w.heap.size := ⟨_, rfl⟩
  have n0 : Six w1 X (.int .i64 t.kind) (.int .i64 t.n) (.string t.name) (.slice ra t.r.length rc) (.slice ka t.kids.length kc) (.slice sa t.sys.length sc) := ⟨by rw [hw1, hX]; exact heapNew _ _⟩
  have HC : Hid (∀ W, Below w1.heap.size w1 W → Six W X (.int .i64 t.kind) (.int .i64 t.n) (.string t.name) (.slice ra t.r.length rc) (.slice ka t.kids.length kc) (.slice sa t.sys.length sc)) := fun W q => n0.blw q
  have HT : Hid (∀ W, Below w1.heap.size w1 W → TmIn Tt W t (.agg #[.int .i64 t.kind, .int .i64 t.n, .string t.name, .slice ra t.r.length rc, .slice ka t.kids.length kc, .slice sa t.sys.length sc])) := fun W q => ((ht.blw b1).blw q).value
  have HR : Hid (∀ W, Below w1.heap.size w1 W → ClRow Tt W r (.slice ar LR cr)) := fun W q => by rw [hLR]; exact (hr.blw b1).blw q
  have HB : Hid (∀ W, Below w1.heap.size w1 W → Below X w W) := fun W q => by rw [hX]; exact bchain b1 q
  have HXx : Hid (X = w.heap.size) := hX
  have HLR : Hid (LR = r.length) := hLR
  have HW : Hid (_ = _) := hw1
  have HiI : Hid (I64 i) := hiI
  rw [← hX, ← hLR]
  clear hw1 hX n0 ht hv0 b1 hr hLR hwi hiI
  go_enter Tryz.func3, Tryz.ntmps3
  go_upto_region 1 with fail
  rw [← HW.out]
  simp only [← HXx.out]
  clear HW
  have cw := works13_any w1
  go_wp2_with fail
  refine cw.mono ?_
  rintro e w2 ⟨rfl, b2⟩
  clear cw
  have cg := great13r_any t _ w2 (HT.out w2 b2) ar LR cr
  obtain ⟨y0, y1, y2, y3, y4, y5, _⟩ := (HC.out w2 b2).cells
  go_wp2_with fail
  refine cg.mono ?_
  rintro e w3 ⟨bg, rfl, hbg, b3⟩
  clear cg y0 y1 y2 y3 y4 y5
  have b13 : Below w1.heap.size w1 w3 := b2.trans (b3.mono b2.size)
  clear b2 b3
  cases bg
  rotate_left
  · have hF := HB.out w3 b13
    go_wp2_with fail
    go_ret
    exact ⟨rfl, hF⟩
  have HG : Hid (blk t ≤ 200 ∧ LR ≤ 12) := hbg rfl
  have cf := formed_any t _ w3 (HT.out w3 b13) (by have := HG.out.1; omega)
  obtain ⟨y0, y1, y2, y3, y4, y5, _⟩ := (HC.out w3 b13).cells
  obtain ⟨f, hf⟩ : ∃ f, f = wrongN true 0 0 t := ⟨_, rfl⟩
  have Hf : Hid (f = wrongN true 0 0 t) := hf
  rw [← hf] at cf
  clear hf hbg
  go_wp2_with fail
  refine cf.mono ?_
  rintro e w4 ⟨rfl, b4⟩
  clear cf y0 y1 y2 y3 y4 y5
  have b14 : Below w1.heap.size w1 w4 := b13.trans (b4.mono b13.size)
  clear b4 b13
  by_cases hz : f = 0
  rotate_left
  · have hz1 : ((f : Int) == 0) = false := by simp; omega
    have hF := HB.out w4 b14
    go_wp2_with fail
    go_ret
    exact ⟨rfl, hF⟩
  subst hz
  have cn := never_any _ t _ w4 (HT.out w4 b14) (Nat.le_refl _) (by have := HG.out.1; omega)
  obtain ⟨y0, y1, y2, y3, y4, y5, _⟩ := (HC.out w4 b14).cells
  go_wp2_with fail
  refine cn.mono ?_
  rintro e w5 ⟨bn, rfl, hbn, b5⟩
  clear cn y0 y1 y2 y3 y4 y5
  have b15 : Below w1.heap.size w1 w5 := b14.trans (b5.mono b14.size)
  clear b5 b14
  cases bn
  rotate_left
  · have hF := HB.out w5 b15
    go_wp2_with fail
    go_ret
    exact ⟨rfl, hF⟩
  have HN : Hid (neT t) := hbn rfl
  clear hbn
  -- Dim
  have cd := dim_any i w5
  by_cases hi : isDimB i = true
  rotate_left
  · have e1 : dimF i = ([], 2) := by unfold dimF; rw [if_neg hi]
    rw [e1] at cd
    dsimp only at cd
    go_wp2_with fail
    refine cd.mono ?_
    rintro e w6 ⟨v6, rfl, hO6, b6⟩
    clear cd
    obtain ⟨a6, c6, hv6⟩ := OwnsC.len hO6
    subst hv6
    have hF := HB.out w6 (b15.trans (b6.mono b15.size))
    go_wp2_with fail
    go_ret
    exact ⟨rfl, hF⟩
  obtain ⟨j, hj, rfl⟩ : ∃ j : Nat, j < 24 ∧ i = (j : Int) := by
    unfold isDimB at hi
    simp only [Bool.and_eq_true, decide_eq_true_eq] at hi
    exact ⟨i.toNat, by omega, by omega⟩
  have e1 : dimF (j : Int) = ([posB j], 0) := by unfold dimF; rw [if_pos hi]; simp
  rw [e1] at cd
  dsimp only at cd
  clear e1 hi
  go_wp2_with fail
  refine cd.mono ?_
  rintro e w6 ⟨v6, rfl, hO6, b6⟩
  clear cd
  have b16 : Below w1.heap.size w1 w6 := b15.trans (b6.mono b15.size)
  have hR6 : ClRow Tt w6 [posB j] v6 := (OwnsC.okn hO6).keep (Nat.le_refl _) (fun _ _ => trivial) (fun _ _ _ => rfl)
  obtain ⟨a6, c6, hv6⟩ := OwnsC.len hO6
  subst hv6
  have cp := dput_any t _ w6 (HT.out w6 b16) (by have := HG.out.1; omega) (j : Int) [posB j] _ hR6 (by simp)
  obtain ⟨o1, o2⟩ := put_own hj Hf.out.symm HN.out
  rw [o1, o2] at cp
  simp only [List.length_cons, List.length_nil, Nat.zero_add] at cp ⊢
  obtain ⟨y0, y1, y2, y3, y4, y5, _⟩ := (HC.out w6 b16).cells
  clear hO6 b6 b15 hR6 o1 o2
  go_wp2_with fail
  refine cp.mono ?_
  rintro e w7 ⟨v7, rfl, hv7, b7⟩
  clear cp y0 y1 y2 y3 y4 y5
  have b17 : Below w1.heap.size w1 w7 := b16.trans (b7.mono b16.size)
  obtain ⟨ra7, rc7, ka7, kc7, sa7, sc7, rfl, ht7⟩ := hv7.form
  obtain ⟨w8, hw8⟩ : ∃ W, W = w7.alloc (.cells #[.int .i64 t.kind, .int .i64 t.n, .string t.name, .slice ra7 t.r.length rc7, .slice ka7 t.kids.length kc7, .slice sa7 t.sys.length sc7] 26) := ⟨_, rfl⟩
  obtain ⟨B7, hB7⟩ : ∃ V, V = w7.heap.size := ⟨_, rfl⟩
  have bw8 : Below w7.heap.size w7 w8 := by rw [hw8]; exact belowA _ _
  have nw8 : Six w8 B7 (.int .i64 t.kind) (.int .i64 t.n) (.string t.name) (.slice ra7 t.r.length rc7) (.slice ka7 t.kids.length kc7) (.slice sa7 t.sys.length sc7) := ⟨by rw [hw8, hB7]; exact heapNew _ _⟩
  have b1w8 : Below w1.heap.size w1 w8 := b17.trans (bw8.mono b17.size)
  have HA7 : Hid (∀ W, Below w8.heap.size w8 W → Six W B7 (.int .i64 t.kind) (.int .i64 t.n) (.string t.name) (.slice ra7 t.r.length rc7) (.slice ka7 t.kids.length kc7) (.slice sa7 t.sys.length sc7) ∧ TmIn Tt W t (.agg #[.int .i64 t.kind, .int .i64 t.n, .string t.name, .slice ra7 t.r.length rc7, .slice ka7 t.kids.length kc7, .slice sa7 t.sys.length sc7])) := fun W q => ⟨nw8.blw q, (((ht7.blw bw8).blw q).value.up fun _ _ => trivial)⟩
  have Hw8 : Hid (_ = _) := hw8
  have HBB7 : Hid (B7 = w7.heap.size) := hB7
  clear hw8 hB7 nw8 ht7 hv7
  go_upto_region 9 with fail
  simp only [← HBB7.out]
  rw [← Hw8.out]
  clear Hw8
  have cs := rsame_any _ t t true _ _ w8 (HA7.out w8 (Below.refl _ _)).2 (HT.out w8 b1w8) (Nat.le_refl _) (by have := HG.out.1; omega) (by simp)
  obtain ⟨y0, y1, y2, y3, y4, y5, _⟩ := (HA7.out w8 (Below.refl _ _)).1.cells
  obtain ⟨x0, x1, x2, x3, x4, x5, _⟩ := (HC.out w8 b1w8).cells
  go_wp2_with fail
  refine cs.mono ?_
  rintro e w9 ⟨rfl, b9⟩
  clear cs y0 y1 y2 y3 y4 y5 x0 x1 x2 x3 x4 x5
  have b19 : Below w1.heap.size w1 w9 := b1w8.trans (b9.mono b1w8.size)
  clear b17 b1w8 b9 bw8 HA7
  -- Dims
  have cl := ldims_any lAll t _ w9 (HT.out w9 b19) (by have := HG.out.1; omega) (j : Int) 1 HiI.out
  have HDs : Hid (dimsE (j : Int) 1 t = 0 → erT (sd (j : Int)) t 0 0 = 0 ∧ dimsT (j : Int) 1 t = liT (sd (j : Int)) t 0 0) := dimsE_self
  obtain ⟨g, hg⟩ : ∃ g, g = dimsE (j : Int) 1 t := ⟨_, rfl⟩
  obtain ⟨Xt, hXt⟩ : ∃ g, g = dimsT (j : Int) 1 t := ⟨_, rfl⟩
  rw [← hg, ← hXt] at cl HDs
  obtain ⟨y0, y1, y2, y3, y4, y5, _⟩ := (HC.out w9 b19).cells
  clear hg hXt
  go_wp2_with fail
  refine cl.mono ?_
  rintro e w10 ⟨v10, rfl, hv10, b10⟩
  clear cl y0 y1 y2 y3 y4 y5
  have b110 : Below w1.heap.size w1 w10 := b19.trans (b10.mono b19.size)
  obtain ⟨rax, rcx, kax, kcx, sax, scx, rfl, htx⟩ := hv10.form
  obtain ⟨w11, hw11⟩ : ∃ W, W = w10.alloc (.cells #[.int .i64 Xt.kind, .int .i64 Xt.n, .string Xt.name, .slice rax Xt.r.length rcx, .slice kax Xt.kids.length kcx, .slice sax Xt.sys.length scx] 26) := ⟨_, rfl⟩
  obtain ⟨Bx, hBx⟩ : ∃ V, V = w10.heap.size := ⟨_, rfl⟩
  have bw11 : Below w10.heap.size w10 w11 := by rw [hw11]; exact belowA _ _
  have nw11 : Six w11 Bx (.int .i64 Xt.kind) (.int .i64 Xt.n) (.string Xt.name) (.slice rax Xt.r.length rcx) (.slice kax Xt.kids.length kcx) (.slice sax Xt.sys.length scx) := ⟨by rw [hw11, hBx]; exact heapNew _ _⟩
  have b1w11 : Below w1.heap.size w1 w11 := b110.trans (bw11.mono b110.size)
  have HAx : Hid (∀ W, Below w11.heap.size w11 W → Six W Bx (.int .i64 Xt.kind) (.int .i64 Xt.n) (.string Xt.name) (.slice rax Xt.r.length rcx) (.slice kax Xt.kids.length kcx) (.slice sax Xt.sys.length scx) ∧ TmIn Tt W Xt (.agg #[.int .i64 Xt.kind, .int .i64 Xt.n, .string Xt.name, .slice rax Xt.r.length rcx, .slice kax Xt.kids.length kcx, .slice sax Xt.sys.length scx])) := fun W q => ⟨nw11.blw q, (((htx.blw bw11).blw q).value.up fun _ _ => trivial)⟩
  have Hw11 : Hid (_ = _) := hw11
  have HBBx : Hid (Bx = w10.heap.size) := hBx
  clear hw11 hBx nw11 htx hv10
  go_upto_region 12 with fail
  simp only [← HBBx.out]
  rw [← Hw11.out]
  clear Hw11
  have cL := Lift_any r (j : Int) 1 _ w11 (HR.out w11 b1w11).frow (by have := HG.out.2; have := HLR.out; omega)
  have HLf : Hid ((liftFF r (j : Int) 1).2 = 0 → g = 0 → takE (j : Int) r Xt = 0 ∧ takT (j : Int) r Xt = t ∧ blk Xt ≤ 200) := fun h1 h2 => by
    obtain ⟨q1, q2⟩ := HDs.out h2
    rw [q2]
    obtain ⟨q3, q4⟩ := take_li hj Hf.out.symm HN.out q1 h1
    exact ⟨q3, q4, by have := blk_li (s := sd (j : Int)) _ t 0 0 (Nat.le_refl _); have := HG.out.1; omega⟩
  obtain ⟨lf, hlf⟩ : ∃ l, l = liftFF r (j : Int) 1 := ⟨_, rfl⟩
  rw [← hlf] at cL HLf
  obtain ⟨Rl, el⟩ := lf
  dsimp only at cL HLf
  clear hlf HDs
  go_wp2_with fail
  refine cL.mono ?_
  rintro e w12 ⟨v12, rfl, hO12, b12⟩
  clear cL
  have b112 : Below w1.heap.size w1 w12 := b1w11.trans (b12.mono b1w11.size)
  obtain ⟨a12, c12, hv12⟩ := OwnsC.len hO12
  subst hv12
  clear hO12
  by_cases hz : g = 0
  rotate_left
  · have hz1 : (g == 0) = false := by simpa using hz
    have hF := HB.out w12 b112
    go_wp2_with fail
    go_ret
    exact ⟨rfl, hF⟩
  subst hz
  by_cases hz : el = 0
  rotate_left
  · have hz1 : (el == 0) = false := by simpa using hz
    have hF := HB.out w12 b112
    go_wp2_with fail
    go_ret
    exact ⟨rfl, hF⟩
  subst hz
  obtain ⟨q1, q2, q3⟩ := HLf.out rfl rfl
  have ct := dtake_any Xt _ w12 (HAx.out w12 b12).2 (by omega) (j : Int) r _ (HR.out w12 b112) (by have := HG.out.2; have := HLR.out; omega) (by
    have h1 := (cap_ge (ansD (putOp (j : Int) (liftFF r (j : Int) 1).1) Xt)).1
    have h2 := cap_ans (putOp_len (j : Int) (liftFF r (j : Int) 1).1) Xt
    have h3 := (cap_ge Xt).2
    omega)
  rw [q1, q2] at ct
  obtain ⟨y0, y1, y2, y3, y4, y5, _⟩ := (HAx.out w12 b12).1.cells
  clear HLf q1 q2 q3
  go_wp2_with fail
  refine ct.mono ?_
  rintro e w13 ⟨v13, rfl, hv13, b13⟩
  clear ct y0 y1 y2 y3 y4 y5
  have b113 : Below w1.heap.size w1 w13 := b112.trans (b13.mono b112.size)
  obtain ⟨raz, rcz, kaz, kcz, saz, scz, rfl, htz⟩ := hv13.form
  obtain ⟨w14, hw14⟩ : ∃ W, W = w13.alloc (.cells #[.int .i64 t.kind, .int .i64 t.n, .string t.name, .slice raz t.r.length rcz, .slice kaz t.kids.length kcz, .slice saz t.sys.length scz] 26) := ⟨_, rfl⟩
  obtain ⟨Bz, hBz⟩ : ∃ V, V = w13.heap.size := ⟨_, rfl⟩
  have bw14 : Below w13.heap.size w13 w14 := by rw [hw14]; exact belowA _ _
  have nw14 : Six w14 Bz (.int .i64 t.kind) (.int .i64 t.n) (.string t.name) (.slice raz t.r.length rcz) (.slice kaz t.kids.length kcz) (.slice saz t.sys.length scz) := ⟨by rw [hw14, hBz]; exact heapNew _ _⟩
  have b1w14 : Below w1.heap.size w1 w14 := b113.trans (bw14.mono b113.size)
  have HAz : Hid (∀ W, Below w14.heap.size w14 W → Six W Bz (.int .i64 t.kind) (.int .i64 t.n) (.string t.name) (.slice raz t.r.length rcz) (.slice kaz t.kids.length kcz) (.slice saz t.sys.length scz) ∧ TmIn Tt W t (.agg #[.int .i64 t.kind, .int .i64 t.n, .string t.name, .slice raz t.r.length rcz, .slice kaz t.kids.length kcz, .slice saz t.sys.length scz])) := fun W q => ⟨nw14.blw q, (((htz.blw bw14).blw q).value.up fun _ _ => trivial)⟩
  have Hw14 : Hid (_ = _) := hw14
  have HBBz : Hid (Bz = w13.heap.size) := hBz
  clear hw14 hBz nw14 htz hv13
  go_upto_region 16 with fail
  simp only [← HBBz.out]
  rw [← Hw14.out]
  clear Hw14
  have cs := rsame_any _ t t true _ _ w14 (HAz.out w14 (Below.refl _ _)).2 (HT.out w14 b1w14) (Nat.le_refl _) (by have := HG.out.1; omega) (by simp)
  obtain ⟨y0, y1, y2, y3, y4, y5, _⟩ := (HAz.out w14 (Below.refl _ _)).1.cells
  obtain ⟨x0, x1, x2, x3, x4, x5, _⟩ := (HC.out w14 b1w14).cells
  go_wp2_with fail
  refine cs.mono ?_
  rintro e w15 ⟨rfl, b15⟩
  clear cs y0 y1 y2 y3 y4 y5 x0 x1 x2 x3 x4 x5
  have hF := HB.out w15 (b1w14.trans (b15.mono b1w14.size))
  go_wp2_with fail
  go_ret
  exact ⟨rfl, hF⟩
end Go.Proofs.YtjimednocmdpnaaGreat

