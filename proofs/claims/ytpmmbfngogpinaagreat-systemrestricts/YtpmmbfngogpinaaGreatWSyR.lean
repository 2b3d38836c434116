/- Where a clause is so: what a system's faces make there, and which branch is total. The face of a system where a clause is so is what Restrict tells of its face; a branch is total just if the clause is below one of it. -/
import Derived.Test.YtpmmbfngogpinaaGreatSyA
namespace Go.Proofs.YtpmmbfngogpinaaGreat
open Go.RowKit
set_option linter.unusedVariables false
set_option linter.unusedSimpArgs false

/-! ### where a clause is so -/
theorem rst_mono {l m : List C} {c : C} (hl : ∀ y ∈ l, dn m y) (x : C) (h : dn (rstL l c) x) : dn (rstL m c) x := by
  obtain ⟨d, hd, hb⟩ := h
  obtain ⟨y, hy, hw, rfl⟩ := mem_rst.1 hd
  obtain ⟨z, hz, hyz⟩ := hl y hy
  have hyz2 := belC_iff.1 hyz
  have hb2 := belC_iff.1 hb
  refine ⟨_, mem_rst.2 ⟨z, hz, ?_, rfl⟩, ?_⟩
  · unfold withC at hw ⊢
    rw [meet_ok] at hw ⊢
    intro k hk h1
    refine hw k hk ⟨?_, ?_⟩
    · rcases h1.1 with h | h
      · first | exact Or.inl (hyz2.1 k hk h) | exact Or.inl h
      · first | exact Or.inr (hyz2.1 k hk h) | exact Or.inr h
    · rcases h1.2 with h | h
      · first | exact Or.inl (hyz2.2 k hk h) | exact Or.inl h
      · first | exact Or.inr (hyz2.2 k hk h) | exact Or.inr h
  · refine belC_iff.2 ⟨fun k hk h => hb2.1 k hk ?_, fun k hk h => hb2.2 k hk ?_⟩
    · rw [(cut_bits c _ k).1] at h ⊢
      simp only [Bool.and_eq_true] at h ⊢
      first
        | exact ⟨hyz2.1 k hk h.1, h.2⟩
        | exact ⟨⟨hyz2.1 k hk h.1.1, h.1.2⟩, h.2⟩
    · rw [(cut_bits c _ k).2] at h ⊢
      simp only [Bool.and_eq_true] at h ⊢
      first
        | exact ⟨hyz2.2 k hk h.1, h.2⟩
        | exact ⟨⟨hyz2.2 k hk h.1.1, h.1.2⟩, h.2⟩
theorem dn_self {l : List C} {x : C} (h : x ∈ l) : dn l x := ⟨x, h, belC_refl _⟩
theorem jn_rst {c : C} {F f : List C} (hF : rightA F = true) (hf : rightA f = true) (hc : singleC c = true) (h : (jnA F f).2 = 0) : jnA (Rf c F) (Rf c f) = (Rf c (jnA F f).1, 0) := by
  have hJ := jnA_rt (f := F) (g := f)
  have e0 : leastF (rstL (jnA F f).1 c) = (Rf c (jnA F f).1, 0) := by
    rw [Rf_eq hJ hc]; exact leastF_pair (Rf_told hJ hc)
  rw [← e0]
  have e1 : jnA (Rf c F) (Rf c f) = leastF (Rf c F ++ Rf c f) := by
    unfold jnA; rw [Rf_right, Rf_right]; rfl
  rw [e1]
  refine leastF_ext (by rw [List.all_append, rightF_all (rightA_right (Rf_right c F)), rightF_all (rightA_right (Rf_right c f))]; rfl) (rst_right hJ c) (fun x _ => ?_)
  rw [dn_append, Rf_eq hF hc, Rf_eq hf hc, leastF_dn (Rf_told hF hc), leastF_dn (Rf_told hf hc)]
  have hJd := jnA_dn h
  constructor
  · rintro (h1 | h1)
    · exact rst_mono (fun y hy => (hJd y).2 (Or.inl (dn_self hy))) x h1
    · exact rst_mono (fun y hy => (hJd y).2 (Or.inr (dn_self hy))) x h1
  · intro h1
    rw [← dn_append, ← rst_app]
    exact rst_mono (fun y hy => dn_append.2 ((hJd y).1 (dn_self hy))) x h1
theorem jnA_nil {F : List C} (hF : rightA F = true) : jnA F [] = (F, 0) := by
  unfold jnA
  rw [hF, rightA_nil, List.append_nil]
  exact rightF_eq (rightA_right hF)
theorem FSc_snoc (c : C) (fs : List (List C)) (f : List C) : FSc c (fs ++ [f]) = FSc c fs ++ (if keepP c (Rf c f) = true then [Rf c f] else []) := by
  unfold FSc
  rw [List.map_append, List.filter_append]
  congr 1
  simp only [List.map_cons, List.map_nil, List.filter_cons, List.filter_nil]
theorem sys_under {c : C} (hc : singleC c = true) (fs : List (List C)) : (∀ f ∈ fs, rightA f = true) → (sysF fs).2 = 0 → sysF (FSc c fs) = (Rf c (sysF fs).1, 0) := by
  induction fs using snoc_ind with
  | nil => intro _ _; show sysF [] = (Rf c [], 0); rw [Rf_nil hc]; rfl
  | snoc fs f ih =>
    intro hf h
    have hf1 : ∀ g ∈ fs, rightA g = true := fun g hg => hf g (List.mem_append_left _ hg)
    have hf2 : rightA f = true := hf f (by simp)
    rw [sysF_snoc] at h ⊢
    unfold sysS at h ⊢
    split at h
    · rename_i h0
      have hI := ih hf1 h0
      have hJ := jn_rst (sysF_facts fs).1 hf2 hc h
      rw [if_pos h0, FSc_snoc]
      split
      · rw [sysF_snoc, hI]
        unfold sysS
        rw [if_pos rfl]
        exact hJ
      · rename_i hk
        have hn : Rf c f = [] := by
          unfold keepP neF at hk
          cases hR : Rf c f with
          | nil => rfl
          | cons _ _ => rw [hR] at hk; simp at hk
        rw [List.append_nil, hI]
        rw [hn, jnA_nil (Rf_right c _)] at hJ
        exact hJ
    · rename_i h0; exact absurd h h0
theorem und_rf {f : List C} {c : C} (hf : rightA f = true) (hc : singleC c = true) : dn f c ↔ Rf c f = [top0] := by
  have hr := (singleC_iff.1 hc).1
  have hk := (singleC_iff.1 hc).2
  have e : meetC c top0 = c := by
    have h1 := fright_bits hr
    refine c_bits (fun k => ?_) (fun k => ?_)
    · rw [(meet_bits c top0 k).1]; rw [← (h1 k).1]; simp [top0]
    · rw [(meet_bits c top0 k).2]; rw [← (h1 k).2]; simp [top0]
  have h2 : dn f c ↔ dn (Rf c f) top0 := by
    rw [Rf_eq hf hc, leastF_dn (Rf_told hf hc)]
    have := rst_dn (f := f) (c := c) (d := top0) hf (by rw [e]; exact hk)
    rw [e] at this
    exact this
  rw [h2]
  constructor
  · intro h
    have ht : rightA [top0] = true := by decide
    exact face_ext (Rf_right c f) ht (fun x _ => dn_top x) (fun x hx => by rw [List.mem_singleton.1 hx]; exact h)
  · intro h; rw [h]; exact dn_top _
theorem tot_under {c : C} (hc : singleC c = true) {fs : List (List C)} (hf : ∀ f ∈ fs, rightA f = true) (h : (sysF fs).2 = 0) : hldA (sysF fs).1 c = (decide (0 ≤ totF (FSc c fs)), 0) := by
  unfold hldA
  rw [(sysF_facts fs).1, hc]
  simp only [Bool.and_self, if_true, Prod.mk.injEq, and_true]
  rw [Bool.eq_iff_iff, decide_eq_true_iff, totF_ge]
  have h1 : undB (sysF fs).1 c = true ↔ dn (sysF fs).1 c := by
    unfold undB dn
    rw [List.any_eq_true]
  rw [h1, sysF_dn fs h]
  constructor
  · rintro ⟨f, hff, hd⟩
    have e := (und_rf (hf f hff) hc).1 hd
    unfold FSc
    refine List.mem_filter.2 ⟨?_, by unfold keepP neF; simp⟩
    rw [← e]
    exact List.mem_map_of_mem hff
  · intro hm
    obtain ⟨hm1, _⟩ := List.mem_filter.1 (by unfold FSc at hm; exact hm)
    obtain ⟨f, hff, he⟩ := List.mem_map.1 hm1
    exact ⟨f, hff, (und_rf (hf f hff) hc).2 he⟩
end Go.Proofs.YtpmmbfngogpinaaGreat

namespace Go.Proofs.YtpmmbfngogpinaaGreat
open Go.RowKit
set_option linter.unusedVariables false
set_option linter.unusedSimpArgs false

theorem cap_undA (c : C) (t : Tm) : capT (undA c t).1 ≤ max (capT t) 65 := by
  have h0 := noT_cap
  unfold undA
  split
  · split
    · unfold undR pall
      have h1 := cap_pall (r := [top0]) (dimsOf c.1.val) (t, 0)
      split
      · have h2 := cap_pall (r := []) (dimsOf c.2.val) ((List.foldl (pallS [top0]) (t, 0) (dimsOf c.1.val)).1, 0)
        dsimp only at h1 h2 ⊢
        omega
      · dsimp only; omega
    · dsimp only; omega
  · dsimp only; omega
theorem blk_it15 (l : List (List C × List Tm)) : blk (itT 15 l) = blk (tS l) + 2 := by
  rw [blk_tS, blk_eq]
  have e1 : (itT 15 l).kids = [wU, wU] := rfl
  have e2 : (itT 15 l).r = [] := rfl
  have e3 : (itT 15 l).name = ⟨#[]⟩ := rfl
  have e4 : (itT 15 l).sys = l := rfl
  have e5 : blk wU = 1 := by decide +kernel
  rw [e1, e2, e3, e4]
  have e6 : blkL [wU, wU] = 2 := by unfold blkL; simp [e5]
  rw [e6]
  have e7 : (⟨#[]⟩ : ByteArray).size = 0 := rfl
  rw [e7]
  simp
  omega
theorem und15_lens {c : C} {l : List (List C × List Tm)} (h : blk (tS l) ≤ 200) : blk (itT 15 l) ≤ 20000 ∧ capT (itT 15 l) ≤ 40000 ∧ blk (tS (undS 15 c l)) ≤ 20000 := by
  have h1 := blk_it15 l
  have h2 := (cap_ge (itT 15 l)).2
  have h3 := cap_undA c (itT 15 l)
  have h4 := (cap_ge (undA c (itT 15 l)).1).1
  refine ⟨by omega, by omega, ?_⟩
  unfold undS itS
  rw [if_neg (by decide)]
  split
  · rw [blk_tS]
    have := blk_eq (undA c (itT 15 l)).1
    omega
  · have : blk (tS []) = 1 := by rw [blk_tS]; rfl
    omega
theorem restr_facts {c : C} {l : List (List C × List Tm)} (hr : rightC c = true) (hl : clashC c = false) (hE : undE 15 c l = 0) (hF : (sysF (l.map Prod.fst)).2 = 0) :
    sysF ((undS 15 c l).map Prod.fst) = (Rf c (sysF (l.map Prod.fst)).1, 0) ∧ rstA (sysF (l.map Prod.fst)).1 c = (Rf c (sysF (l.map Prod.fst)).1, 0) ∧ hldA (sysF (l.map Prod.fst)).1 c = (decide (0 ≤ totF ((undS 15 c l).map Prod.fst)), 0) := by
  have hok : okC c = true := by unfold okC; rw [hl]; rfl
  have hs : singleC c = true := singleC_iff.2 ⟨hr, hok⟩
  have hA : rightA [c] = true := rightA_one hr hok
  have h0 : (undA c (itT 15 l)).2 = 0 := by
    unfold undE itE at hE
    rw [if_neg (by decide)] at hE
    exact hE
  have hw : wrongN true 0 0 (itT 15 l) = 0 := by
    by_cases h : wrongN true 0 0 (itT 15 l) = 0
    · exact h
    · unfold undA at h0
      rw [if_neg h] at h0
      dsimp only at h0
      omega
  have eS : undS 15 c l = (undA c (itT 15 l)).1.sys := by
    unfold undS itS
    rw [if_neg (by decide), if_pos h0]
  have hf := faces_undA hA hw h0
  have hfr := faces_right hw
  have e1 : facesT (itT 15 l) = l.map Prod.fst := rfl
  have e2 : facesT (undA c (itT 15 l)).1 = (undS 15 c l).map Prod.fst := by rw [eS]; rfl
  rw [e1] at hf hfr
  rw [e2] at hf
  rw [hf]
  refine ⟨sys_under hs _ hfr hF, ?_, tot_under hs hfr hF⟩
  have h1 := rstA_told (sysF_facts (l.map Prod.fst)).1 hs
  unfold Rf
  rw [← h1]
set_option maxRecDepth 100000 in
set_option maxHeartbeats 8000000 in
theorem walk_SystemRestricts (l : List (List C × List Tm)) (v0 : Value) (c : C) (w : World) (hv0 : SyT Tt w (TmIn Tt w) l v0) :
    Calls Tryz.prog 6 #[v0, clV c] w fun e w' => e = .returned (.bool true) ∧ Below w.heap.size w w' := by
  obtain ⟨sa, sc, rfl⟩ := hv0.len
  obtain ⟨M, hM⟩ : ∃ M, M = l.length := ⟨_, rfl⟩
  have HS : Hid (∀ W, Below w.heap.size w W → SyT Tt W (TmIn Tt W) l (.slice sa M sc)) := fun W q => by rw [hM]; exact hv0.blw q
  rw [← hM]
  obtain ⟨w1, hw1⟩ : ∃ V, V = w.alloc (.cells #[.int .u32 (c.1.val : Int), .int .u32 (c.2.val : Int)] 38) := ⟨_, rfl⟩
  have hA : At w1 w.heap.size c := by rw [hw1]; exact At.made w c _
  have b1 : Below w.heap.size w w1 := by rw [hw1]; exact belowA _ _
  have HC : Hid (∀ W, Below w1.heap.size w1 W → W.cell? ⟨w.heap.size, 0, none⟩ = some (.int .u32 (c.1.val : Int)) ∧ W.cell? ⟨w.heap.size, 1, none⟩ = some (.int .u32 (c.2.val : Int))) := fun W q => ⟨(hA.below q).1, (hA.below q).2.1⟩
  have HB : Hid (∀ W, Below w1.heap.size w1 W → Below w.heap.size w W) := fun W q => bchain b1 q
  have hc1 := c.1.isLt
  have hc2 := c.2.isLt
  have cw := works14_any w1
  have H1 : Hid (_ = _) := hw1
  clear hw1 hA hM hv0 b1
  show Calls Tryz.prog 6 #[.slice sa M sc, .agg #[.int .u32 (c.1.val : Int), .int .u32 (c.2.val : Int)]] w _
  go_enter Tryz.func6, Tryz.ntmps6
  go_upto_region 1 with fail
  rw [← H1.out]
  clear H1
  generalize (Value.agg #[Value.int .u32 (c.1.val : Int), Value.int .u32 (c.2.val : Int)]) = cv
  go_wp2_with fail
  refine cw.mono ?_
  rintro e w2 ⟨rfl, b2⟩
  clear cw
  have cg := great14_any l _ w2 (HS.out w2 (HB.out w2 b2))
  go_wp2_with fail
  refine cg.mono ?_
  rintro e w3 ⟨rfl, b3⟩
  clear cg
  have b13 : Below w1.heap.size w1 w3 := b2.trans (b3.mono b2.size)
  clear b3
  by_cases hg : 200 < blk (tS l)
  · have e1 : decide (200 < blk (tS l)) = true := decide_eq_true hg
    rw [e1]
    have hF := HB.out w3 b13
    go_wp2_with fail
    go_ret
    exact ⟨rfl, hF⟩
  have e1 : decide (200 < blk (tS l)) = false := decide_eq_false hg
  rw [e1]
  have cr := cright_any c w3
  obtain ⟨y0, y1⟩ := HC.out w3 b13
  go_wp2_with fail
  refine cr.mono ?_
  rintro e w5 ⟨rfl, g5⟩
  clear cr y0 y1
  have b15 : Below w1.heap.size w1 w5 := b13.trans (g5.below.mono b13.size)
  clear g5
  cases hr : rightC c
  · have hF := HB.out w5 b15
    go_wp2_with fail
    go_ret
    exact ⟨rfl, hF⟩
  have cl := clash_any c w5
  obtain ⟨y0, y1⟩ := HC.out w5 b15
  go_wp2_with fail
  refine cl.mono ?_
  rintro e w6 ⟨rfl, g6⟩
  clear cl y0 y1
  have b16 : Below w1.heap.size w1 w6 := b15.trans (g6.below.mono b15.size)
  clear g6
  cases hl : clashC c
  rotate_left
  · have hF := HB.out w6 b16
    go_wp2_with fail
    go_ret
    exact ⟨rfl, hF⟩
  obtain ⟨q1, q2, q3⟩ := und15_lens (c := c) (l := l) (by omega)
  have q0 : blk (tS l) ≤ 20000 := by omega
  have HK : Hid (undE 15 c l = 0 → (sysF (l.map Prod.fst)).2 = 0 → sysF ((undS 15 c l).map Prod.fst) = (Rf c (sysF (l.map Prod.fst)).1, 0) ∧ rstA (sysF (l.map Prod.fst)).1 c = (Rf c (sysF (l.map Prod.fst)).1, 0) ∧ hldA (sysF (l.map Prod.fst)).1 c = (decide (0 ≤ totF ((undS 15 c l).map Prod.fst)), 0)) := fun h1 h2 => restr_facts hr hl h1 h2
  have cf := sface_any l _ w6 (HS.out w6 (HB.out w6 b16)) q0
  have cu : Hid (∀ W, Below w1.heap.size w1 W → Calls Tryz.prog 27 #[.int .i64 15, .slice sa M sc, .agg #[.int .u32 (c.1.val : Int), .int .u32 (c.2.val : Int)]] W fun e w' => ∃ v', e = .returned (.tuple #[v', .int .i64 (undE 15 c l)]) ∧ SyT Tt w' (TmIn Tt w') (undS 15 c l) v' ∧ Below W.heap.size W w') := fun W q => sunder_any 15 ⟨by decide, by decide⟩ l _ W (HS.out W (HB.out W q)) c q1 q2
  have h64 := sysF_len (l.map Prod.fst)
  have HQ3 : Hid (blk (tS (undS 15 c l)) ≤ 20000) := q3
  obtain ⟨F, hF⟩ : ∃ F, F = sysF (l.map Prod.fst) := ⟨_, rfl⟩
  rw [← hF] at cf HK h64
  obtain ⟨S, hSS⟩ : ∃ S, S = undS 15 c l := ⟨_, rfl⟩
  obtain ⟨E, hE⟩ : ∃ S, S = undE 15 c l := ⟨_, rfl⟩
  rw [← hSS] at cu HK HQ3
  rw [← hE] at cu HK
  obtain ⟨R, er⟩ := F
  dsimp only at cf HK h64
  clear hF hSS hE hg q0 q1 q2 q3 e1 hl hr
  go_wp2_with fail
  refine cf.mono ?_
  rintro e w7 ⟨v7, rfl, hO7, b7⟩
  clear cf
  have b17 : Below w1.heap.size w1 w7 := b16.trans (b7.mono b16.size)
  clear b7
  obtain ⟨a7, k7, hv7⟩ := OwnsC.len hO7
  subst hv7
  obtain ⟨L, hL⟩ : ∃ L, L = R.length := ⟨_, rfl⟩
  rw [← hL] at hO7 ⊢
  clear hL
  have HR : Hid (∀ V, Below w7.heap.size w7 V → FRow V (.slice a7 L k7) R) := fun V q => (OwnsC.frow hO7).below q
  have hRl : R.length ≤ 64 := h64
  have cc := cu.out w7 b17
  obtain ⟨y0, y1⟩ := HC.out w7 b17
  clear hO7 cu h64
  go_wp2_with fail
  refine cc.mono ?_
  rintro e w8 ⟨v8, rfl, hv8, b8⟩
  clear cc y0 y1
  have b18 : Below w1.heap.size w1 w8 := b17.trans (b8.mono b17.size)
  obtain ⟨a8, k8, hvv⟩ := hv8.len
  subst hvv
  obtain ⟨N8, hN8⟩ : ∃ L, L = S.length := ⟨_, rfl⟩
  rw [← hN8] at hv8 ⊢
  clear hN8
  have HS8 : Hid (∀ V, Below w8.heap.size w8 V → SyT Tt V (TmIn Tt V) S (.slice a8 N8 k8)) := fun V q => hv8.blw q
  clear hv8
  by_cases hz : er = 0
  rotate_left
  · have hz1 : (er == 0) = false := by simpa using hz
    have hF := HB.out w8 b18
    go_wp2_with fail
    go_ret
    exact ⟨rfl, hF⟩
  subst hz
  by_cases hz : E = 0
  rotate_left
  · have hz1 : (E == 0) = false := by simpa using hz
    have hF := HB.out w8 b18
    go_wp2_with fail
    go_ret
    exact ⟨rfl, hF⟩
  subst hz
  obtain ⟨j1, j2, j3⟩ := HK.out rfl rfl
  clear HK
  have cf := sface_any S _ w8 (HS8.out w8 (Below.refl _ _)) HQ3.out
  rw [j1] at cf
  have hgl := rightA_len (Rf_right c R)
  have cR : Hid (∀ W, Below w7.heap.size w7 W → Calls Tryz.prog 28 #[.slice a7 L k7, .agg #[.int .u32 (c.1.val : Int), .int .u32 (c.2.val : Int)]] W fun e w' => ∃ v', e = .returned (.tuple #[v', .int .i64 0]) ∧ OwnsC w' W.heap.size v' (Rf c R) ∧ Below W.heap.size W w') := fun W q => by
    have := Restrict_any R _ c W (HR.out W q) (by omega)
    rw [j2] at this
    exact this
  obtain ⟨T, hT⟩ : ∃ T, T = totF (S.map Prod.fst) := ⟨_, rfl⟩
  rw [← hT] at j3
  have cH : Hid (∀ W, Below w7.heap.size w7 W → Calls Tryz.prog 29 #[.slice a7 L k7, .agg #[.int .u32 (c.1.val : Int), .int .u32 (c.2.val : Int)]] W fun e w' => e = .returned (.tuple #[.bool (decide (0 ≤ T)), .int .i64 0]) ∧ Below W.heap.size W w') := fun W q => by
    have := Holds_any R _ c W (HR.out W q) (by omega)
    rw [j3] at this
    exact this
  have cT : Hid (∀ W, Below w8.heap.size w8 W → Calls Tryz.prog 22 #[.slice a8 N8 k8] W fun e w' => e = .returned (.int .i64 T) ∧ Below W.heap.size W w') := fun W q => by
    rw [hT]
    exact total_any S _ W (HS8.out W q) (by have := (sys_lens HQ3.out).1; omega)
  obtain ⟨G, hG⟩ : ∃ G, G = Rf c R := ⟨_, rfl⟩
  rw [← hG] at cf cR hgl
  dsimp only at cf
  clear j1 j2 j3 hT hG
  go_wp2_with fail
  refine cf.mono ?_
  rintro e w9 ⟨v9, rfl, hO9, b9⟩
  clear cf
  have b89 := b9
  have b19 : Below w1.heap.size w1 w9 := b18.trans (b9.mono b18.size)
  have b79 := bchain b8 b9
  obtain ⟨a9, k9, hv9⟩ := OwnsC.len hO9
  subst hv9
  obtain ⟨L9, hL9⟩ : ∃ L, L = G.length := ⟨_, rfl⟩
  rw [← hL9] at hO9 ⊢
  have HL9 : Hid (L9 = G.length) := hL9
  clear hL9
  have HR9 : Hid (∀ V, Below w9.heap.size w9 V → CRow V (.slice a9 L9 k9) G) := fun V q => (OwnsC.row hO9).below q
  have cc := cR.out w9 b79
  obtain ⟨y0, y1⟩ := HC.out w9 b19
  clear hO9 b9 cR
  go_wp2_with fail
  refine cc.mono ?_
  rintro e w10 ⟨v10, rfl, hO10, b10⟩
  clear cc y0 y1
  have b110 : Below w1.heap.size w1 w10 := b19.trans (b10.mono b19.size)
  have b710 := bchain b79 b10
  have b810 := bchain b89 b10
  obtain ⟨a10, k10, hv10⟩ := OwnsC.len hO10
  subst hv10
  rw [← HL9.out] at hO10 ⊢
  have cc := same_any G G _ _ w10 (HR9.out w10 b10) (OwnsC.row hO10) (by omega)
  rw [decide_eq_true rfl] at cc
  clear hO10
  go_wp2_with fail
  refine cc.mono ?_
  rintro e w11 ⟨rfl, b11⟩
  clear cc
  have b111 : Below w1.heap.size w1 w11 := b110.trans (b11.mono b110.size)
  have b711 := bchain b710 b11
  have b811 := bchain b810 b11
  have cc := cH.out w11 b711
  obtain ⟨y0, y1⟩ := HC.out w11 b111
  clear cH
  go_wp2_with fail
  refine cc.mono ?_
  rintro e w12 ⟨rfl, b12⟩
  clear cc y0 y1
  have b112 : Below w1.heap.size w1 w12 := b111.trans (b12.mono b111.size)
  have b812 := bchain b811 b12
  have cc := cT.out w12 b812
  go_wp2_with fail
  refine cc.mono ?_
  rintro e w13 ⟨rfl, b13'⟩
  clear cc cT
  have b113 : Below w1.heap.size w1 w13 := b112.trans (b13'.mono b112.size)
  have hF := HB.out w13 b113
  by_cases hT : 0 ≤ T
  · have e1 : decide (0 ≤ T) = true := decide_eq_true hT
    rw [e1]
    go_wp2_with fail
    go_ret
    exact ⟨rfl, hF⟩
  · have e1 : decide (0 ≤ T) = false := decide_eq_false hT
    rw [e1]
    go_wp2_with fail
    go_ret
    exact ⟨rfl, hF⟩
end Go.Proofs.YtpmmbfngogpinaaGreat

