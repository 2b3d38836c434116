/- Where a system has a branch: the document's. Which branch of a system is total, and where it has branches: as the document has it. -/
import Derived.Test.YtpmmbfngogpinaaGreatSyA
import Derived.Test.YtpmmbfngogpinaaGreatFH
namespace Go.Proofs.YtpmmbfngogpinaaGreat
open Go.RowKit
set_option linter.unusedVariables false
set_option linter.unusedSimpArgs false

set_option maxRecDepth 100000 in
set_option maxHeartbeats 4000000 in
theorem rsface_any (l : List (List C × List Tm)) (v : Value) (w : World) (hS : SyT Tt w (TmIn Tt w) l v) (hb : blk (tS l) ≤ 20000) : Calls Tryz.prog 21 #[v] w fun e w' => ∃ v', e = .returned (.tuple #[v', .int .i64 (sysF (l.map Prod.fst)).2]) ∧ OwnsC w' w.heap.size v' (sysF (l.map Prod.fst)).1 ∧ Below w.heap.size w w' := by
  obtain ⟨hl1, hl2⟩ := sys_lens hb
  obtain ⟨sa, sc, rfl⟩ := hS.len
  obtain ⟨fs, hfs⟩ : ∃ fs, fs = l.map Prod.fst := ⟨_, rfl⟩
  obtain ⟨M, hM⟩ : ∃ M, M = l.length := ⟨_, rfl⟩
  have HS : Hid (∀ W, Below w.heap.size w W → SyT Tt W (TmIn Tt W) l (.slice sa M sc)) := fun W q => by rw [hM]; exact hS.blw q
  have HM : Hid (M = l.length ∧ fs = l.map Prod.fst) := ⟨hM, hfs⟩
  have HL : Hid (∀ b ∈ l, b.1.length ≤ 20000) := hl2
  have hMl : M ≤ 20000 := by omega
  rw [← hM, ← hfs]
  clear hM hfs hS hb hl1 hl2
  go_enter Tryz.func21, Tryz.ntmps21
  go_wp2_with fail
  go_loopw [4, 5, 6] (fun a e i wr => ∃ (k : Nat) (er : Int), k ≤ M ∧ i = .int .i64 k ∧ e = .int .i64 er ∧ OwnsC wr w.heap.size a (sysF (fs.take k)).1 ∧ er = (sysF (fs.take k)).2 ∧ Below w.heap.size w wr) (fun _ _ i _ => M - (intOf i).toNat)
  case atStart => exact ⟨0, 0, Nat.zero_le _, rfl, rfl, ownsC_nil _ _, rfl, Below.refl _ _⟩
  case round =>
    obtain ⟨wo, hwo⟩ : ∃ wo, wo = wr := ⟨_, rfl⟩
    subst hwo
    obtain ⟨k, er, hk, rfl, rfl, hO, hz, hSo⟩ := hrel
    obtain ⟨a4, c4, hv4⟩ := OwnsC.len hO
    subst hv4
    obtain ⟨L4, hL4⟩ : ∃ L, L = (sysF (fs.take k)).1.length := ⟨_, rfl⟩
    have h64 := sysF_len (fs.take k)
    by_cases hlt : k < M
    · have hkI : (k : Int) < (M : Int) := by omega
      by_cases hez : er = 0
      rotate_left
      · have hz1 : (er == 0) = false := by simpa using hez
        have HR : Hid (sysF fs = sysF (fs.take k)) := sysF_stuck k (by rw [← hz]; exact hez)
        have HO : Hid (OwnsC wo w.heap.size (.slice a4 L4 c4) (sysF (fs.take k)).1) := by rw [hL4]; exact hO
        have HZ : Hid (er = (sysF (fs.take k)).2) := hz
        rw [← hL4]
        clear hO hz hL4 h64
        go_wp2_with fail
        go_ret2
        exact ⟨_, by rw [HR.out, ← HZ.out]; rfl, by rw [HR.out]; exact HO.out, hSo⟩
      subst hez
      obtain ⟨b, hb⟩ := someL (l := l) (k := k) (by rw [← HM.out.1]; exact hlt)
      have hbl := HL.out b (List.mem_of_getElem? hb)
      obtain ⟨gs, offs, fa1, fc1, kb1, kbc1, hsa, _, h21, hF1, hK1⟩ := (HS.out wo hSo).at hb
      subst hsa
      have hff : fs[k]? = some b.1 := by rw [HM.out.2, List.getElem?_map, hb]; rfl
      have eJ : jnA (sysF (fs.take k)).1 b.1 = sysF (fs.take (k + 1)) := by rw [sysF_step hff]; unfold sysS; rw [if_pos hz.symm]
      have cJ := rAJoin_any (sysF (fs.take k)).1 b.1 _ _ wo (OwnsC.row hO) hF1.row (by omega) (by omega)
      rw [eJ] at cJ
      obtain ⟨J, hJ⟩ : ∃ J, J = sysF (fs.take (k + 1)) := ⟨_, rfl⟩
      have HJ : Hid (J = sysF (fs.take (k + 1))) := hJ
      rw [← hJ] at cJ
      obtain ⟨R, er⟩ := J
      dsimp only at cJ
      rw [← hL4] at cJ ⊢
      have c0 := h21.c0
      obtain ⟨F, hF⟩ : ∃ F, F = b.1.length := ⟨_, rfl⟩
      rw [← hF] at c0 cJ
      clear h21 hK1 hF1 hb hff hO hJ eJ hL4 hF hbl h64 hz
      go_wp2_with fail
      refine cJ.mono ?_
      rintro e w9 ⟨v9, rfl, hO9, b9⟩
      clear cJ c0
      have hS9 : Below w.heap.size w w9 := hSo.trans (b9.mono hSo.size)
      have HO : Hid (OwnsC w9 w.heap.size v9 R) := OwnsC.mono hO9 hSo.size
      obtain ⟨a9, c9, hv9⟩ := OwnsC.len hO9
      clear hO9
      subst hv9
      go_wp2_with fail
      go_roundw
      case rel => exact ⟨k + 1, er, by omega, by go_num, rfl, by rw [← HJ.out]; exact HO.out, by rw [← HJ.out], hS9⟩
      case measure => simp [intOf]; omega
    · have hkI : ¬ (k : Int) < (M : Int) := by omega
      obtain rfl : k = M := by omega
      have he : fs.take k = fs := List.take_of_length_le (by rw [HM.out.2, List.length_map, ← HM.out.1]; exact Nat.le_refl _)
      rw [he] at hO hz hL4 h64 ⊢
      have HO : Hid (OwnsC wo w.heap.size (.slice a4 (sysF fs).1.length c4) (sysF fs).1) := hO
      have HZ : Hid (er = (sysF fs).2) := hz
      clear hO hz hL4 he
      go_wp2_with fail
      go_ret2
      exact ⟨_, by rw [← HZ.out]; rfl, HO.out, hSo⟩
end Go.Proofs.YtpmmbfngogpinaaGreat

namespace Go.Proofs.YtpmmbfngogpinaaGreat
open Go.RowKit
set_option linter.unusedVariables false
set_option linter.unusedSimpArgs false

set_option maxRecDepth 100000 in
set_option maxHeartbeats 8000000 in
theorem walk_SystemFaces (l : List (List C × List Tm)) (v0 : Value) (w : World) (hv0 : SyT Tt w (TmIn Tt w) l v0) :
    Calls Tryz.prog 5 #[v0] w fun e w' => e = .returned (.bool true) ∧ Below w.heap.size w w' := by
  have cg := great14_any l _ w hv0
  obtain ⟨sa, sc, rfl⟩ := hv0.len
  obtain ⟨M, hM⟩ : ∃ M, M = l.length := ⟨_, rfl⟩
  have HS : Hid (∀ W, Below w.heap.size w W → SyT Tt W (TmIn Tt W) l (.slice sa M sc)) := fun W q => by rw [hM]; exact hv0.blw q
  have HM : Hid (M = l.length) := hM
  rw [← hM] at cg ⊢
  clear hM hv0
  go_enter Tryz.func5, Tryz.ntmps5
  go_wp2_with fail
  refine cg.mono ?_
  rintro e w1 ⟨rfl, b1⟩
  clear cg
  by_cases hg : 200 < blk (tS l)
  · have e1 : decide (200 < blk (tS l)) = true := decide_eq_true hg
    rw [e1]
    have cw := works14_any w1
    clear hg e1
    go_wp2_with fail
    refine cw.mono ?_
    rintro e w2 ⟨rfl, b2⟩
    clear cw
    have bF := bchain b1 b2
    go_wp2_with fail
    go_ret
    exact ⟨rfl, bF⟩
  have e1 : decide (200 < blk (tS l)) = false := decide_eq_false hg
  rw [e1]
  have HG : Hid (blk (tS l) ≤ 20000) := (by omega : blk (tS l) ≤ 20000)
  have hln := (sys_lens HG.out).1
  rw [← HM.out] at hln
  have HMb : Hid (l.length ≤ 100000) := (by have := (sys_lens HG.out).1; omega : l.length ≤ 100000)
  have cf := sface_any l _ w1 (HS.out w1 b1) HG.out
  have cr : Hid (∀ W, Below w.heap.size w W → Calls Tryz.prog 21 #[.slice sa M sc] W fun e w' => ∃ v', e = .returned (.tuple #[v', .int .i64 (sysF (l.map Prod.fst)).2]) ∧ OwnsC w' W.heap.size v' (sysF (l.map Prod.fst)).1 ∧ Below W.heap.size W w') := fun W q => rsface_any l _ W (HS.out W q) HG.out
  have ct : Hid (∀ W, Below w.heap.size w W → Calls Tryz.prog 22 #[.slice sa M sc] W fun e w' => e = .returned (.int .i64 (totF (l.map Prod.fst))) ∧ Below W.heap.size W w') := fun W q => total_any l _ W (HS.out W q) HMb.out
  have cq : Hid (∀ W, Below w.heap.size w W → Calls Tryz.prog 23 #[.slice sa M sc] W fun e w' => e = .returned (.int .i64 (totF (l.map Prod.fst))) ∧ w' = W) := fun W q => rtotal_any l _ W (HS.out W q) HMb.out
  have h64 := sysF_len (l.map Prod.fst)
  obtain ⟨F, hF⟩ : ∃ F, F = sysF (l.map Prod.fst) := ⟨_, rfl⟩
  obtain ⟨T, hT⟩ : ∃ F, F = totF (l.map Prod.fst) := ⟨_, rfl⟩
  rw [← hF] at cf cr h64
  rw [← hT] at ct cq
  obtain ⟨R, er⟩ := F
  dsimp only at cf cr h64
  clear hF hT hg e1
  go_wp2_with fail
  refine cf.mono ?_
  rintro e w2 ⟨v2, rfl, hO2, b2⟩
  clear cf
  have B2 := bchain b1 b2
  obtain ⟨a2, k2, hv2⟩ := OwnsC.len hO2
  subst hv2
  obtain ⟨L, hL⟩ : ∃ L, L = R.length := ⟨_, rfl⟩
  rw [← hL] at hO2 ⊢
  have HLn : Hid (L = R.length) := hL
  clear hL
  have HR : Hid (∀ V, Below w2.heap.size w2 V → CRow V (.slice a2 L k2) R) := fun V q => (OwnsC.row hO2).below q
  have cc := cr.out w2 B2
  clear hO2 b2
  go_wp2_with fail
  refine cc.mono ?_
  rintro e w3 ⟨v3, rfl, hO3, b3⟩
  clear cc cr
  have B3 := bchain B2 b3
  obtain ⟨a3, k3, hv3⟩ := OwnsC.len hO3
  subst hv3
  rw [← HLn.out] at hO3 ⊢
  have HR3 : Hid (∀ V, Below w3.heap.size w3 V → CRow V (.slice a3 L k3) R) := fun V q => (OwnsC.row hO3).below q
  have cc := ct.out w3 B3
  clear hO3
  go_wp2_with fail
  refine cc.mono ?_
  rintro e w4 ⟨rfl, b4⟩
  clear cc ct
  have B4 := bchain B3 b4
  have cc := cq.out w4 B4
  go_wp2_with fail
  refine cc.mono ?_
  rintro e w5 ⟨rfl, hw5⟩
  replace hw5 := hw5.symm
  subst hw5
  clear cc cq
  have cc := same_any R R _ _ w4 (HR.out w4 (bchain b3 b4)) (HR3.out w4 b4) (by omega)
  rw [decide_eq_true rfl] at cc
  go_wp2_with fail
  refine cc.mono ?_
  rintro e w6 ⟨rfl, b6⟩
  clear cc
  have B6 := bchain B4 b6
  have cw := works14_any w6
  go_wp2_with fail
  refine cw.mono ?_
  rintro e w7 ⟨rfl, b7⟩
  clear cw
  have bF := bchain B6 b7
  go_wp2_with fail
  go_ret
  exact ⟨rfl, bF⟩
end Go.Proofs.YtpmmbfngogpinaaGreat

