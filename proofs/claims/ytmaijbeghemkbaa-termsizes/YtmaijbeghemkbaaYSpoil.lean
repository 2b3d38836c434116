/- What is written over a term's memory. -/
import Derived.Test.YtmaijbeghemkbaaYSpM
namespace Go.Proofs.Ytmaijbeghemkbaa
open Go.RowKit
set_option linter.unusedVariables false
set_option linter.unusedSimpArgs false

def SpC (d : Nat) : Prop := ∀ (base : Nat) (v : Value) (w : World), Sh (OkN base w) w d v → base ≤ w.heap.size → Calls Try.prog 16 #[v] w fun e w' => (∃ r, e = .returned r) ∧ Sp base w w'
theorem spoil_eg : ∀ args w, (callFunc 16 args).run Try.prog w = .ok (.enter 16 args) w := enters_of Try.func16 (by kernel_rfl) rfl
set_option maxRecDepth 100000 in
set_option maxHeartbeats 8000000 in
theorem spoil_step (d : Nat) (IH : SpC d) : SpC (d + 1) := by
  intro base v w h hbase
  obtain ⟨k0, m0, nm, ra, rl, rc, ka, kl, kc, sa, sl, sc, rfl, l1, l2, l3, hR, hK, hS⟩ := h
  obtain ⟨w1, hw1⟩ : ∃ w1, w1 = w.alloc (.cells #[.int .i64 k0, .int .i64 m0, .string nm, .slice ra rl rc, .slice ka kl kc, .slice sa sl sc] 26) := ⟨_, rfl⟩
  have b1 : Sp base w w1 := by rw [hw1]; exact Sp.of_below (belowA _ _)
  obtain ⟨X, hX⟩ : ∃ X, X = w.heap.size := ⟨_, rfl⟩
  have hn := heapNew w (.cells #[.int .i64 k0, .int .i64 m0, .string nm, .slice ra rl rc, .slice ka kl kc, .slice sa sl sc] 26)
  rw [← hw1, ← hX] at hn
  have H3 : Hid (w1.cell? ⟨X, 3, none⟩ = some (.slice ra rl rc)) := (by simp [World.cell?, hn] : w1.cell? ⟨X, 3, none⟩ = some (.slice ra rl rc))
  have H4 : Hid (w1.cell? ⟨X, 4, none⟩ = some (.slice ka kl kc)) := (by simp [World.cell?, hn] : w1.cell? ⟨X, 4, none⟩ = some (.slice ka kl kc))
  have H5 : Hid (w1.cell? ⟨X, 5, none⟩ = some (.slice sa sl sc)) := (by simp [World.cell?, hn] : w1.cell? ⟨X, 5, none⟩ = some (.slice sa sl sc))
  have HR : Hid (ClN (OkN base w1) w1 ra rl) := hR.sp b1
  have HK : Hid (KdN (OkN base w1) w1 (Sh (OkN base w1) w1 d) ka kl) := hK.sp b1 (fun _ _ _ _ _ _ _ _ _ _ _ _ _ _ hp => (Sh.sp b1 d _ hp).any)
  have HS : Hid (SyN (OkN base w1) w1 sa sl) := hS.sp b1
  have hb1 : base ≤ w1.heap.size := Nat.le_trans hbase b1.size
  have eg := spoil_eg
  have HW : Hid (_ = _) := hw1
  have HX : Hid (_ = _) := hX
  clear hw1 hn hR hK hS hX
  go_enter Try.func16, Try.ntmps16
  go_upto_region 1 with fail
  rw [← HW.out]
  simp only [← HX.out]
  clear HW HX
  have x3 := H3.out
  go_wp2_with fail
  clear x3
  go_loopw [10] (fun i wr => ∃ k : Nat, k ≤ rl ∧ i = .int .i64 k ∧ Sp base w1 wr) (fun i _ => rl - (intOf i).toNat)
  case atStart => exact ⟨0, Nat.zero_le _, rfl, Sp.refl _ _⟩
  case round =>
    obtain ⟨wo, hwo⟩ : ∃ wo, wo = wr := ⟨_, rfl⟩
    subst hwo
    obtain ⟨k, hk, rfl, hs⟩ := hrel
    by_cases hlt : k < rl
    · have hkI : (k : Int) < (rl : Int) := by omega
      have x3 := hs.sl H3.out
      obtain ⟨g, off, x, y, rfl, hg, hgl, c0, c1⟩ := (HR.out.sp hs) k hlt
      have f0 := hg.soft (off + k * 2)
      have hp := fun m => hs.put hg.1 c0 m
      clear hg c1
      go_wp2_with fail
      go_roundw
      case rel => exact ⟨k + 1, by omega, by go_num, hp _⟩
      case measure => simp [intOf]; omega
    · have hkI : ¬ (k : Int) < (rl : Int) := by omega
      have x4 := hs.sl H4.out
      go_wp2_with fail
      clear x4
      go_loopw [26] (fun i wr => ∃ k : Nat, k ≤ kl ∧ i = .int .i64 k ∧ Sp base w1 wr) (fun i _ => kl - (intOf i).toNat)
      case atStart => exact ⟨0, Nat.zero_le _, rfl, hs⟩
      case round =>
        obtain ⟨wp, hwp⟩ : ∃ wp, wp = wr := ⟨_, rfl⟩
        subst hwp
        clear hkI hs hlt hk
        obtain ⟨k, hk, rfl, hs⟩ := hrel
        by_cases hlt : k < kl
        · have hkI : (k : Int) < (kl : Int) := by omega
          have x4 := hs.sl H4.out
          have hKs := HK.out.sp hs (fun _ _ _ _ _ _ _ _ _ _ _ _ _ _ hp => (Sh.sp hs d _ hp).any)
          obtain ⟨g, off, k1, m1, nm1, ra1, rl1, rc1, ka1, kl1, kc1, sa1, sl1, sc1, rfl, hg, hgl, hsh, c0, c1, c2, c3, c4, c5⟩ := hKs k hlt
          have cc := IH base _ wp hsh (Nat.le_trans hb1 hs.size)
          have HG : Hid (_ ∧ _) := (⟨hg, c0⟩ : OkN base wp g ∧ _)
          clear hKs hsh hg
          go_wp2_with fail
          refine cc.mono ?_
          rintro e w2 ⟨⟨r, rfl⟩, s2⟩
          clear cc c0 c1 c2 c3 c4 c5
          have hs2 := hs.trans s2
          have x4 := hs2.sl H4.out
          obtain ⟨kk, c0⟩ := s2.int HG.out.2
          have hg := HG.out.1.sp s2
          have f0 := hg.soft (off + k * 6)
          have hp := fun m => hs2.put hg.1 c0 m
          clear hg HG
          go_wp2_with fail
          go_roundw
          case rel => exact ⟨k + 1, by omega, by go_num, hp _⟩
          case measure => simp [intOf]; omega
        · have hkI : ¬ (k : Int) < (kl : Int) := by omega
          have x5 := hs.sl H5.out
          go_wp2_with fail
          clear x5
          go_loopw [44] (fun i wr => ∃ k : Nat, k ≤ sl ∧ i = .int .i64 k ∧ Sp base w1 wr) (fun i _ => sl - (intOf i).toNat)
          case atStart => exact ⟨0, Nat.zero_le _, rfl, hs⟩
          case round =>
            obtain ⟨wq, hwq⟩ : ∃ wq, wq = wr := ⟨_, rfl⟩
            subst hwq
            clear hkI hs hlt hk
            obtain ⟨k, hk, rfl, hs⟩ := hrel
            by_cases hlt : k < sl
            · have hkI : (k : Int) < (sl : Int) := by omega
              have x5 := hs.sl H5.out
              obtain ⟨g, off, fa, fl, fc, ka1, kl1, kc1, rfl, hg, hgl, c0, c1, lf, lk, hcf, hck⟩ := (HS.out.sp hs) k hlt
              have HC0 : Hid (_ = _) := c0
              have HC1 : Hid (_ = _) := c1
              have HF : Hid (ClN (OkN base wq) wq fa fl) := hcf
              have HKK : Hid (KdN (OkN base wq) wq (fun _ => True) ka1 kl1) := hck
              clear hg hcf hck c1
              go_wp2_with fail
              clear c0 x5
              go_loopw [54] (fun i wr => ∃ j : Nat, j ≤ fl ∧ i = .int .i64 j ∧ Sp base wq wr) (fun i _ => fl - (intOf i).toNat)
              case atStart => exact ⟨0, Nat.zero_le _, rfl, Sp.refl _ _⟩
              case round =>
                obtain ⟨wt, hwt⟩ : ∃ wt, wt = wr := ⟨_, rfl⟩
                subst hwt
                obtain ⟨j, hj, rfl, hs2⟩ := hrel
                have hs3 := hs.trans hs2
                have x5 := hs3.sl H5.out
                by_cases hlt2 : j < fl
                · have hjI : (j : Int) < (fl : Int) := by omega
                  have c0 := hs2.sl HC0.out
                  obtain ⟨g2, off2, x, y, rfl, hg2, hgl2, d0, d1⟩ := (HF.out.sp hs2) j hlt2
                  have f0 := hg2.soft (off2 + j * 2 + 1)
                  have hp := fun m => hs2.put hg2.1 d1 m
                  clear hg2 d0
                  go_wp2_with fail
                  go_roundw
                  case rel => exact ⟨j + 1, by omega, by go_num, hp _⟩
                  case measure => simp [intOf]; omega
                · have hjI : ¬ (j : Int) < (fl : Int) := by omega
                  have c1 := hs2.sl HC1.out
                  go_wp2_with fail
                  clear c1 x5
                  go_loopw [78] (fun i wr => ∃ j : Nat, j ≤ kl1 ∧ i = .int .i64 j ∧ Sp base wq wr) (fun i _ => kl1 - (intOf i).toNat)
                  case atStart => exact ⟨0, Nat.zero_le _, rfl, hs2⟩
                  case round =>
                    obtain ⟨wu, hwu⟩ : ∃ wu, wu = wr := ⟨_, rfl⟩
                    subst hwu
                    clear hjI hs2 hs3 hlt2 hj
                    obtain ⟨j, hj, rfl, hs2⟩ := hrel
                    have hs3 := hs.trans hs2
                    by_cases hlt2 : j < kl1
                    · have hjI : (j : Int) < (kl1 : Int) := by omega
                      have x5 := hs3.sl H5.out
                      have c1 := hs2.sl HC1.out
                      obtain ⟨g2, off2, k1, m1, nm1, ra1, rl1, rc1, ka2, kl2, kc2, sa1, sl1, sc1, rfl, hg2, hgl2, _, d0, d1, d2, d3, d4, d5⟩ := (HKK.out.sp (Q := fun _ => True) hs2 (fun _ _ _ _ _ _ _ _ _ _ _ _ _ _ _ => trivial)) j hlt2
                      have f0 := hg2.soft (off2 + j * 6)
                      have hp := fun m => hs2.put hg2.1 d0 m
                      clear hg2 d1 d2 d3 d4 d5
                      go_wp2_with fail
                      go_roundw
                      case rel => exact ⟨j + 1, by omega, by go_num, hp _⟩
                      case measure => simp [intOf]; omega
                    · have hjI : ¬ (j : Int) < (kl1 : Int) := by omega
                      go_wp2_with fail
                      go_roundw
                      case rel => exact ⟨k + 1, by omega, by go_num, hs3⟩
                      case measure => simp [intOf]; omega
            · have hkI : ¬ (k : Int) < (sl : Int) := by omega
              go_wp2_with fail
              exact bodyPost_end (v := .tuple #[]) (by simp [results, Try.results16, go_sem]) rfl ⟨⟨_, rfl⟩, b1.trans hs⟩
theorem spoil_any : ∀ d : Nat, SpC d
  | 0 => fun base v w h _ => False.elim h
  | d + 1 => spoil_step d (spoil_any d)
end Go.Proofs.Ytmaijbeghemkbaa
