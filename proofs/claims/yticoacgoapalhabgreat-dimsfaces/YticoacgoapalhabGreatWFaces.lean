/- Where a clause is so, a composition's faces are those that Restrict tells. -/
import Derived.ProofKit
import Derived.OpenShut
import Derived.Lib.SmallJoins
import Derived.Deep.SlicePairs
import Derived.Deep.DeepCutAuto
import Derived.Deep.CutBlock
import Derived.Test.YticoacgoapalhabGreatYDmW
import Derived.Test.YticoacgoapalhabGreatYOpen
namespace Go.Proofs.YticoacgoapalhabGreat
open Go.RowKit
set_option linter.unusedVariables false
set_option linter.unusedSimpArgs false

theorem und_at {c : C} {t A : Tm} (hF : facesT A = FSc c (facesT t)) {j : Nat} {b : List C × List Tm} (hb : t.sys[j]? = some b) (hk : keepP c (Rf c b.1) = true) : ∃ b', A.sys[kN c (facesT t) j]? = some b' ∧ b'.1 = Rf c b.1 := by
  have h1 : (facesT t)[j]? = some b.1 := by unfold facesT; rw [List.getElem?_map, hb]; rfl
  have h2 := FSc_at (c := c) h1 hk
  rw [← hF] at h2
  unfold facesT at h2
  rw [List.getElem?_map] at h2
  cases hA : A.sys[kN c (List.map Prod.fst t.sys) j]? with
  | none => rw [hA] at h2; cases h2
  | some b' => rw [hA] at h2; exact ⟨b', hA, by simpa using h2⟩
set_option maxRecDepth 100000 in
set_option maxHeartbeats 8000000 in
theorem walk_DimsFaces (t : Tm) (v0 : Value) (c : C) (w : World) (hv0 : TmIn Tt w t v0) :
    Calls Tryz.prog 4 #[v0, clV c] w fun e w' => e = .returned (.bool true) ∧ Below w.heap.size w w' := by
  obtain ⟨ra, rc, ka, kc, sa, sc, rfl, ht⟩ := hv0.form
  obtain ⟨w1, hw1⟩ : ∃ W, W = (w.alloc (.cells #[.int .i64 t.kind, .int .i64 t.n, .string t.name, .slice ra t.r.length rc, .slice ka t.kids.length kc, .slice sa t.sys.length sc] 26)).alloc (.cells #[.int .u32 (c.1.val : Int), .int .u32 (c.2.val : Int)] 29) := ⟨_, rfl⟩
  have b1 : Below w.heap.size w w1 := by rw [hw1]; exact bchain (belowA _ _) (belowA _ _)
  obtain ⟨X, hX⟩ : ∃ X, X = w.heap.size := ⟨_, rfl⟩
  have s1 : w1.heap.size = X + 2 := by rw [hw1, hX]; simp
  have n0 : Six w1 X (.int .i64 t.kind) (.int .i64 t.n) (.string t.name) (.slice ra t.r.length rc) (.slice ka t.kids.length kc) (.slice sa t.sys.length sc) := ⟨by rw [hw1, hX]; exact (Below.heap_alloc _ _ _ (by simp)).trans (heapNew w _)⟩
  have n1 : w1.heap[X + 1]? = some (.cells #[.int .u32 (c.1.val : Int), .int .u32 (c.2.val : Int)] 29 (0, 0)) := by
    rw [hw1, hX]; have := heapNew (w.alloc (.cells #[.int .i64 t.kind, .int .i64 t.n, .string t.name, .slice ra t.r.length rc, .slice ka t.kids.length kc, .slice sa t.sys.length sc] 26)) (.cells #[.int .u32 (c.1.val : Int), .int .u32 (c.2.val : Int)] 29); rwa [World.size_alloc] at this
  have HC : Hid (∀ W, Below w1.heap.size w1 W → Six W X (.int .i64 t.kind) (.int .i64 t.n) (.string t.name) (.slice ra t.r.length rc) (.slice ka t.kids.length kc) (.slice sa t.sys.length sc)) := fun W q => n0.blw q
  have HCc : Hid (∀ W, Below w1.heap.size w1 W → W.cell? ⟨X + 1, 0, none⟩ = some (.int .u32 (c.1.val : Int)) ∧ W.cell? ⟨X + 1, 1, none⟩ = some (.int .u32 (c.2.val : Int))) := fun W q => by
    have h := (q.block (X + 1) (by omega)).trans n1
    exact ⟨by simp [World.cell?, h], by simp [World.cell?, h]⟩
  have HT : Hid (∀ W, Below w1.heap.size w1 W → TmTop Tt W t ra rc ka kc sa sc) := fun W q => (ht.blw b1).blw q
  have HB : Hid (∀ W, Below w1.heap.size w1 W → Below X w W) := fun W q => by rw [hX]; exact bchain b1 q
  have HXx : Hid (X = w.heap.size) := hX
  have HW : Hid (_ = _) := hw1
  have hc1 := c.1.isLt
  have hc2 := c.2.isLt
  rw [← hX]
  clear hw1 hX n0 n1 ht hv0 b1 s1
  show Calls Tryz.prog 4 #[.agg #[.int .i64 t.kind, .int .i64 t.n, .string t.name, .slice ra t.r.length rc, .slice ka t.kids.length kc, .slice sa t.sys.length sc], .agg #[.int .u32 (c.1.val : Int), .int .u32 (c.2.val : Int)]] w _
  go_enter Tryz.func4, Tryz.ntmps4
  go_upto_region 1 with fail
  rw [← HW.out]
  simp only [← HXx.out]
  clear HW
  generalize (Value.agg #[Value.int .u32 (c.1.val : Int), Value.int .u32 (c.2.val : Int)]) = cv
  have cw := works13_any w1
  go_wp2_with fail
  refine cw.mono ?_
  rintro e w2 ⟨rfl, b2⟩
  clear cw
  have cg := great13_any t _ w2 (HT.out w2 b2).value
  obtain ⟨y0, y1, y2, y3, y4, y5, _⟩ := (HC.out w2 b2).cells
  go_wp2_with fail
  refine cg.mono ?_
  rintro e w3 ⟨rfl, b3⟩
  clear cg y0 y1 y2 y3 y4 y5
  have b13 : Below w1.heap.size w1 w3 := b2.trans (b3.mono b2.size)
  clear b3
  by_cases hg : 200 < blk t
  · have e1 : decide (200 < blk t) = true := decide_eq_true hg
    rw [e1]
    have hF := HB.out w3 b13
    go_wp2_with fail
    go_ret
    exact ⟨rfl, hF⟩
  have e1 : decide (200 < blk t) = false := decide_eq_false hg
  rw [e1]
  have cf := formed_any t _ w3 (HT.out w3 b13).value (by omega)
  obtain ⟨y0, y1, y2, y3, y4, y5, _⟩ := (HC.out w3 b13).cells
  obtain ⟨f, hf⟩ : ∃ f, f = wrongN true 0 0 t := ⟨_, rfl⟩
  have Hf : Hid (f = wrongN true 0 0 t) := hf
  rw [← hf] at cf
  clear hf
  go_wp2_with fail
  refine cf.mono ?_
  rintro e w4 ⟨rfl, b4⟩
  clear cf y0 y1 y2 y3 y4 y5
  have b14 : Below w1.heap.size w1 w4 := b13.trans (b4.mono b13.size)
  clear b4
  by_cases hz : f = 0
  rotate_left
  · have hz1 : ((f : Int) == 0) = false := by simp; omega
    have hF := HB.out w4 b14
    go_wp2_with fail
    go_ret
    exact ⟨rfl, hF⟩
  subst hz
  have cr := cright_any c w4
  obtain ⟨y0, y1⟩ := HCc.out w4 b14
  go_wp2_with fail
  refine cr.mono ?_
  rintro e w5 ⟨rfl, g5⟩
  clear cr y0 y1
  have b15 : Below w1.heap.size w1 w5 := b14.trans (g5.below.mono b14.size)
  clear g5
  cases hr : rightC c
  · have hF := HB.out w5 b15
    go_wp2_with fail
    go_ret
    exact ⟨rfl, hF⟩
  have cl := clash_any c w5
  obtain ⟨y0, y1⟩ := HCc.out w5 b15
  go_wp2_with fail
  refine cl.mono ?_
  rintro e w6 ⟨rfl, g6⟩
  clear cl y0 y1
  have b16 : Below w1.heap.size w1 w6 := b15.trans (g6.below.mono b15.size)
  clear g6
  cases hl : clashC c
  rotate_left
  · have hF := HB.out w6 b16
    go_wp2_with fail
    go_ret
    exact ⟨rfl, hF⟩
  have hcp : capT t ≤ 40000 := by have := (cap_ge t).2; omega
  have hrA : rightA [c] = true := rightA_one hr (by unfold okC; rw [hl]; rfl)
  have cu := under_any t _ w6 (HT.out w6 b16).value (by omega) hcp c
  have HU : Hid ((undA c t).2 = 0 → facesT (undA c t).1 = FSc c (facesT t)) := fun h => faces_undA hrA Hf.out.symm h
  have HFr : Hid (∀ f ∈ facesT t, rightA f = true) := faces_right Hf.out.symm
  have hsc : singleC c = true := singleC_iff.2 ⟨hr, by unfold okC; rw [hl]; rfl⟩
  have Hsc : Hid (singleC c = true) := hsc
  obtain ⟨Q, hQ⟩ : ∃ Q, Q = undA c t := ⟨_, rfl⟩
  rw [← hQ] at cu HU
  obtain ⟨A, er⟩ := Q
  dsimp only at cu HU
  obtain ⟨y0, y1, y2, y3, y4, y5, _⟩ := (HC.out w6 b16).cells
  obtain ⟨z0, z1⟩ := HCc.out w6 b16
  clear hQ hrA hsc
  go_wp2_with fail
  refine cu.mono ?_
  rintro e w7 ⟨v7, rfl, hv7, b7⟩
  clear cu y0 y1 y2 y3 y4 y5 z0 z1
  have b17 : Below w1.heap.size w1 w7 := b16.trans (b7.mono b16.size)
  obtain ⟨ra7, rc7, ka7, kc7, sa7, sc7, rfl, ht7⟩ := hv7.form
  obtain ⟨w8, hw8⟩ : ∃ W, W = w7.alloc (.cells #[.int .i64 A.kind, .int .i64 A.n, .string A.name, .slice ra7 A.r.length rc7, .slice ka7 A.kids.length kc7, .slice sa7 A.sys.length sc7] 26) := ⟨_, rfl⟩
  obtain ⟨V, hV⟩ : ∃ V, V = w7.heap.size := ⟨_, rfl⟩
  have b8 : Below w7.heap.size w7 w8 := by rw [hw8]; exact belowA _ _
  have n8 : Six w8 V (.int .i64 A.kind) (.int .i64 A.n) (.string A.name) (.slice ra7 A.r.length rc7) (.slice ka7 A.kids.length kc7) (.slice sa7 A.sys.length sc7) := ⟨by rw [hw8, hV]; exact heapNew _ _⟩
  have b18 : Below w1.heap.size w1 w8 := b17.trans (b8.mono b17.size)
  have HA : Hid (∀ W, Below w8.heap.size w8 W → Six W V (.int .i64 A.kind) (.int .i64 A.n) (.string A.name) (.slice ra7 A.r.length rc7) (.slice ka7 A.kids.length kc7) (.slice sa7 A.sys.length sc7) ∧ TmTop Tt W A ra7 rc7 ka7 kc7 sa7 sc7) := fun W q => ⟨n8.blw q, (ht7.blw b8).blw q⟩
  have H8 : Hid (_ = _) := hw8
  have HV : Hid (V = w7.heap.size) := hV
  clear hw8 hV n8 ht7 hv7 b7 b8 b17
  go_upto_region 6 with fail
  simp only [← HV.out]
  rw [← H8.out]
  clear H8
  by_cases hz : er = 0
  rotate_left
  · have hz1 : (er == 0) = false := by simpa using hz
    have hF := HB.out w8 b18
    go_wp2_with fail
    go_ret
    exact ⟨rfl, hF⟩
  subst hz
  have HU2 : Hid (facesT A = FSc c (facesT t)) := HU.out rfl
  clear HU
  obtain ⟨M, hM⟩ : ∃ M, M = t.sys.length := ⟨_, rfl⟩
  have HM : Hid (M = t.sys.length) := hM
  have hMb : M ≤ 200 := by have := (blk_lens t).2.2.2; omega
  obtain ⟨S, hSS⟩ : ∃ S, S = A.sys.length := ⟨_, rfl⟩
  have HS : Hid (S = A.sys.length) := hSS
  have x5 := (HC.out w8 b18).cells.2.2.2.2.2.1
  rw [← hM] at x5
  have HC5 : Hid (∀ W, Below w8.heap.size w8 W → W.cell? ⟨X, 5, none⟩ = some (.slice sa M sc)) := fun W q => by rw [hM]; exact (HC.out W (b18.trans (q.mono b18.size))).cells.2.2.2.2.2.1
  have HA5 : Hid (∀ W, Below w8.heap.size w8 W → W.cell? ⟨V, 5, none⟩ = some (.slice sa7 S sc7)) := fun W q => by rw [hSS]; exact (HA.out W q).1.cells.2.2.2.2.2.1
  have Hlen : Hid (S = kN c (facesT t) M) := (by
    rw [hSS, hM]
    have e1 : (facesT A).length = A.sys.length := by simp [facesT]
    have e2 : (facesT t).length = t.sys.length := by simp [facesT]
    rw [← e1, HU2.out, ← e2, kN_end] : _ = _)
  have HBl : Hid (blk t ≤ 200) := (by omega : blk t ≤ 200)
  clear hM hSS hg
  go_wp2_with fail
  clear x5
  go_loopw [7, 41] (fun a i wr => ∃ k : Nat, k ≤ M ∧ i = .int .i64 k ∧ a = .int .i64 (kN c (facesT t) k : Nat) ∧ Below w8.heap.size w8 wr) (fun _ i _ => M - (intOf i).toNat)
  case atStart => exact ⟨0, Nat.zero_le _, rfl, by rw [kN_zero]; rfl, Below.refl _ _⟩
  case round =>
    obtain ⟨wo, hwo⟩ : ∃ wo, wo = wr := ⟨_, rfl⟩
    subst hwo
    obtain ⟨k, hk, rfl, rfl, hSo⟩ := hrel
    have b1o : Below w1.heap.size w1 wo := b18.trans (hSo.mono b18.size)
    have hkl := kN_le c (facesT t) k
    by_cases hlt : k < M
    · have hkI : (k : Int) < (M : Int) := by omega
      obtain ⟨b, hb⟩ := someL (l := t.sys) (k := k) (by rw [← HM.out]; exact hlt)
      have hbb := blk_br (List.mem_of_getElem? hb)
      obtain ⟨gs, offs, fa1, fc1, kb1, kbc1, hsa, _, h21, hF1, hK1⟩ := (HT.out wo b1o).sys.at hb
      subst hsa
      have hfR : rightA b.1 = true := HFr.out b.1 (List.mem_map_of_mem (List.mem_of_getElem? hb))
      have hff : (facesT t)[k]? = some b.1 := by unfold facesT; rw [List.getElem?_map, hb]; rfl
      have HKy : Hid (keepP c (Rf c b.1) = true → kN c (facesT t) (k + 1) = kN c (facesT t) k + 1 ∧ ∃ b', A.sys[kN c (facesT t) k]? = some b' ∧ b'.1 = Rf c b.1) := fun h => ⟨kN_yes hff h, und_at HU2.out hb h⟩
      have HKn : Hid (keepP c (Rf c b.1) = false → kN c (facesT t) (k + 1) = kN c (facesT t) k) := fun h => kN_no hff h
      obtain ⟨c0, c1'⟩ := (⟨h21.c0, h21.c1⟩ : _ ∧ _)
      obtain ⟨wb, hwb⟩ : ∃ W, W = wo.alloc (.cells #[.slice fa1 b.1.length fc1, .slice kb1 b.2.length kbc1] 42) := ⟨_, rfl⟩
      have bb : Below wo.heap.size wo wb := by rw [hwb]; exact belowA _ _
      have tb : Two wb wo.heap.size (.slice fa1 b.1.length fc1) (.slice kb1 b.2.length kbc1) := ⟨by rw [hwb]; exact heapNew _ _⟩
      have hSb : Below w8.heap.size w8 wb := hSo.trans (bb.mono hSo.size)
      have b1b : Below w1.heap.size w1 wb := b18.trans (hSb.mono b18.size)
      have cR := Restrict_any b.1 _ c wb (hF1.blw bb).frow (by have := HBl.out; omega)
      have eR : rstA b.1 c = (Rf c b.1, 0) := by
        have h1 := rstA_told hfR Hsc.out
        unfold Rf; rw [← h1]
      rw [eR] at cR
      dsimp only at cR
      obtain ⟨t0, t1, _⟩ := tb.cells
      obtain ⟨z0, z1⟩ := HCc.out wb b1b
      have Hwb : Hid (_ = _) := hwb
      clear hwb tb h21 hK1 hF1 hb hff hfR eR
      go_upto_region 12 with fail
      rw [← Hwb.out]
      clear c0 c1'
      go_wp2_with fail
      refine cR.mono ?_
      rintro e w9 ⟨v9, rfl, hO9, b9⟩
      clear cR t0 t1 z0 z1
      have hS9 : Below w8.heap.size w8 w9 := hSb.trans (b9.mono hSb.size)
      have b19 : Below w1.heap.size w1 w9 := b18.trans (hS9.mono b18.size)
      obtain ⟨a9, c9, rfl⟩ := OwnsC.len hO9
      obtain ⟨z0, z1⟩ := HCc.out w9 b19
      obtain ⟨L9, hL9⟩ : ∃ L, L = (Rf c b.1).length := ⟨_, rfl⟩
      have HL9 : Hid (L9 = (Rf c b.1).length) := hL9
      rw [← hL9] at hO9 ⊢
      have HO9 : Hid (∀ W, Below w9.heap.size w9 W → CRow W (.slice a9 L9 c9) (Rf c b.1)) := fun W q => (OwnsC.row hO9).below q
      clear hL9 hO9
      -- is it kept?
      go_upto_region 15 with fail
      go_cut [61] (fun s wx => s = .bool (!keepP c (Rf c b.1)) ∧ wx = w9)
      case first => as_aux_lemma =>
        by_cases hL0 : L9 = 0
        · subst hL0
          have hnil : Rf c b.1 = [] := List.length_eq_zero_iff.1 HL9.out.symm
          have hkq : keepP c (Rf c b.1) = decide (c.1 = 0 ∧ c.2 = 0) := by
            unfold keepP
            rw [hnil]
            have e : neF [] = false := rfl
            rw [e, Bool.or_false, decide_eq_decide]
            constructor
            · intro h; subst h; exact ⟨rfl, rfl⟩
            · rintro ⟨h1, h2⟩; exact Prod.ext h1 h2
          clear hnil
          by_cases h1 : c.1 = 0
          · by_cases h2 : c.2 = 0
            · have HK : Hid (keepP c (Rf c b.1) = true) := (by rw [hkq]; exact decide_eq_true ⟨h1, h2⟩ : _ = _)
              clear hkq
              go_wp2_with fail
              go_meet
              exact ⟨by rw [HK.out]; rfl, rfl⟩
            · have HK : Hid (keepP c (Rf c b.1) = false) := (by rw [hkq]; exact decide_eq_false (fun h => h2 h.2) : _ = _)
              clear hkq
              go_wp2_with fail
              go_meet
              exact ⟨by rw [HK.out]; rfl, rfl⟩
          · have HK : Hid (keepP c (Rf c b.1) = false) := (by rw [hkq]; exact decide_eq_false (fun h => h1 h.1) : _ = _)
            clear hkq
            go_wp2_with fail
            go_meet
            exact ⟨by rw [HK.out]; rfl, rfl⟩
        · have hL1 : ((L9 : Int) == 0) = false := by simp; omega
          have HK : Hid (keepP c (Rf c b.1) = true) := (by
            unfold keepP neF
            cases hg : Rf c b.1 with
            | nil => have := HL9.out; rw [hg] at this; exact absurd this hL0
            | cons _ _ => simp : _ = _)
          go_wp2_with fail
          go_meet
          exact ⟨by rw [HK.out]; rfl, rfl⟩
      case rest =>
      obtain ⟨rfl, hwc⟩ := hcut
      replace hwc := hwc.symm
      subst hwc
      clear z0 z1
      cases hkp : keepP c (Rf c b.1)
      · have hkn := HKn.out hkp
        rw [← hkn]
        go_wp2_with fail
        go_roundw
        case rel => exact ⟨k + 1, by omega, by go_num, rfl, hS9⟩
        case measure => simp [intOf]; omega
      · obtain ⟨hky, b', hb', hbe⟩ := HKy.out hkp
        have hlt2 := some_lt hb'
        rw [← HS.out] at hlt2
        obtain ⟨at_, hat⟩ : ∃ a, a = kN c (facesT t) k := ⟨_, rfl⟩
        rw [← hat] at hlt2 hb' hky hkl ⊢
        have hge : ¬ (S : Int) ≤ (at_ : Int) := by omega
        have hge2 : decide ((S : Int) ≤ (at_ : Int)) = false := decide_eq_false hge
        have x5 := HA5.out w9 hS9
        obtain ⟨ga, offa, fa2, fc2, kb2, kbc2, hsa, _, h22, hF2, hK2⟩ := (HA.out w9 hS9).2.sys.at hb'
        subst hsa
        have cS := same_any b'.1 (Rf c b.1) _ _ w9 hF2.row (HO9.out w9 (Below.refl _ _)) (by have := rightA_len (Rf_right c b.1); rw [hbe]; omega)
        rw [hbe, decide_eq_true rfl] at cS
        have c2 := h22.c0
        rw [hbe] at c2
        have Hky : Hid (_ = _) := hky
        have Hat : Hid (_ = _) := hat
        clear h22 hF2 hK2 hb' hky hat
        go_wp2_with fail
        refine cS.mono ?_
        rintro e w10 ⟨rfl, b10⟩
        clear cS x5 c2
        have hS10 : Below w8.heap.size w8 w10 := hS9.trans (b10.mono hS9.size)
        go_wp2_with fail
        go_roundw
        case rel => exact ⟨k + 1, by omega, by go_num, by rw [Hky.out]; go_num, hS10⟩
        case measure => simp [intOf]; omega
    · have hkI : ¬ (k : Int) < (M : Int) := by omega
      obtain rfl : k = M := by omega
      have x5 := HA5.out wo hSo
      have hF := HB.out wo b1o
      obtain ⟨at_, hat⟩ : ∃ a, a = kN c (facesT t) k := ⟨_, rfl⟩
      rw [← hat] at Hlen ⊢
      have hSe := Hlen.out
      subst hSe
      clear hat hkl
      go_wp2_with fail
      go_ret
      exact ⟨rfl, hF⟩
section
open Go.ChangeShapes Go.WideShapes Go.ChangeAt

variable {H : Type} {enc : TypeId × Value → H}
set_option maxRecDepth 100000 in
theorem open_clause {W : World} {base : Nat} {v : Value} {d : DataW H} {p : List MemPlace} (hv : Value.okWide Tryz.prog W .any base 29 v) (h : DataW.Trod enc Tryz.prog W 0 (fun _ => true) true 29 v d p) : ∃ c : C, v = clV c := by
  obtain ⟨v0, v1, y0, y1, n, rfl, _, _, h0, h1⟩ := Go.Joins.open_agg2 Tryz.underlying29 (by kernel_rfl) Tryz.cellsC hv h
  obtain ⟨a, e0, _, w0⟩ := DataW.trod_int Tryz.underlying27 h0
  obtain ⟨b, e1, _, w1⟩ := DataW.trod_int Tryz.underlying27 h1
  obtain ⟨x, rfl⟩ := bounds_wf w0
  obtain ⟨y, rfl⟩ := bounds_wf w1
  simp at e0 e1
  subst e0 e1
  exact ⟨(x, y), rfl⟩
end
end Go.Proofs.YticoacgoapalhabGreat
