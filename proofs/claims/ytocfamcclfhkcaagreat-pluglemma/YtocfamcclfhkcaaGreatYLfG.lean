/- Both. -/
import Derived.Test.YtocfamcclfhkcaaGreatYLfF
import Derived.Test.YtocfamcclfhkcaaGreatYLfN
namespace Go.Proofs.YtocfamcclfhkcaaGreat
open Go.RowKit
set_option linter.unusedVariables false
set_option linter.unusedSimpArgs false

/-- What Both tells, and why not. -/
def bothE (vs ds : Int) (t : Tm) : Int := if wrL ds vs t = 0 then (if erT ⟨0, vs, 0, 0⟩ t 0 0 = 0 then (if 1000000 < ds then 2 else erT ⟨0, 0, 0, ds⟩ (liT ⟨0, vs, 0, 0⟩ t 0 0) 0 0) else erT ⟨0, vs, 0, 0⟩ t 0 0) else wrL ds vs t
def bothT (vs ds : Int) (t : Tm) : Tm := if bothE vs ds t = 0 then liT ⟨0, 0, 0, ds⟩ (liT ⟨0, vs, 0, 0⟩ t 0 0) 0 0 else zeroT
set_option maxRecDepth 100000 in
set_option maxHeartbeats 4000000 in
theorem lboth_any (hLA : LAll) (t : Tm) (v : Value) (w : World) (hv : TmIn Tt w t v) (hb : blk t ≤ 20000) (vs ds : Int) :
    Calls Tryz.prog 74 #[v, .int .i64 vs, .int .i64 ds] w fun e w' => ∃ v', e = .returned (.tuple #[v', .int .i64 (bothE vs ds t)]) ∧ TmIn (OkN w.heap.size w') w' (bothT vs ds t) v' ∧ Below w.heap.size w w' := by
  obtain ⟨ra, rc, ka, kc, sa, sc, rfl, ht⟩ := hv.form
  obtain ⟨w1, hw1⟩ : ∃ W, W = (w.alloc (.cells #[.int .i64 t.kind, .int .i64 t.n, .string t.name, .slice ra t.r.length rc, .slice ka t.kids.length kc, .slice sa t.sys.length sc] 26)).alloc (.cells #[.int .i64 0, .int .i64 0, .string ⟨#[]⟩, .slice none 0 0, .slice none 0 0, .slice none 0 0] 26) := ⟨_, rfl⟩
  have b1 : Below w.heap.size w w1 := by rw [hw1]; exact bchain (belowA _ _) (belowA _ _)
  obtain ⟨X, hX⟩ : ∃ X, X = w.heap.size := ⟨_, rfl⟩
  have s1 : w1.heap.size = X + 2 := by rw [hw1, hX]; simp
  have x1 : Six w1 X (.int .i64 t.kind) (.int .i64 t.n) (.string t.name) (.slice ra t.r.length rc) (.slice ka t.kids.length kc) (.slice sa t.sys.length sc) := ⟨by rw [hX, hw1]; exact (Below.heap_alloc _ _ _ (by simp)).trans (heapNew w _)⟩
  have x2 : Six w1 (X + 1) (.int .i64 0) (.int .i64 0) (.string ⟨#[]⟩) (.slice none 0 0) (.slice none 0 0) (.slice none 0 0) := ⟨by
    rw [hX, hw1]; have := heapNew (w.alloc (.cells #[.int .i64 t.kind, .int .i64 t.n, .string t.name, .slice ra t.r.length rc, .slice ka t.kids.length kc, .slice sa t.sys.length sc] 26)) (.cells #[.int .i64 0, .int .i64 0, .string ⟨#[]⟩, .slice none 0 0, .slice none 0 0, .slice none 0 0] 26); rwa [World.size_alloc] at this⟩
  have HC : Hid (∀ W, Below w1.heap.size w1 W → Six W X (.int .i64 t.kind) (.int .i64 t.n) (.string t.name) (.slice ra t.r.length rc) (.slice ka t.kids.length kc) (.slice sa t.sys.length sc)) := fun W q => x1.blw q
  have HZ : Hid (∀ W, Below w1.heap.size w1 W → Six W (X + 1) (.int .i64 0) (.int .i64 0) (.string ⟨#[]⟩) (.slice none 0 0) (.slice none 0 0) (.slice none 0 0)) := fun W q => x2.blw q
  have HT : Hid (∀ W, Below w1.heap.size w1 W → TmIn Tt W t (.agg #[.int .i64 t.kind, .int .i64 t.n, .string t.name, .slice ra t.r.length rc, .slice ka t.kids.length kc, .slice sa t.sys.length sc])) := fun W q => ((ht.blw b1).blw q).value
  have HB : Hid (∀ W, Below w1.heap.size w1 W → Below X w W) := fun W q => by rw [hX]; exact bchain b1 q
  have HXs : Hid (X = w.heap.size) := hX
  have Hs1 : Hid (w1.heap.size = X + 2) := s1
  have HW : Hid (_ = _) := hw1
  have cw := lwrong_any t _ w1 (HT.out w1 (Below.refl _ _)) hb ds vs
  have HE : Hid (bothE vs ds t = if wrL ds vs t = 0 then (if erT ⟨0, vs, 0, 0⟩ t 0 0 = 0 then (if 1000000 < ds then 2 else erT ⟨0, 0, 0, ds⟩ (liT ⟨0, vs, 0, 0⟩ t 0 0) 0 0) else erT ⟨0, vs, 0, 0⟩ t 0 0) else wrL ds vs t) := (rfl : _ = _)
  have HTt : Hid (bothT vs ds t = if bothE vs ds t = 0 then liT ⟨0, 0, 0, ds⟩ (liT ⟨0, vs, 0, 0⟩ t 0 0) 0 0 else zeroT) := (rfl : _ = _)
  have HOk : Hid (wrL ds vs t = 0 → (Sf.mk 0 vs 0 0).ok ∧ Fm t ∧ 0 ≤ ds ∧ 0 ≤ vs) := fun h => by
    unfold wrL at h
    split at h
    · rename_i h1
      split at h
      · cases h
      · rename_i h2
        exact ⟨by refine ⟨?_, ?_, ?_, ?_, ?_, ?_, ?_, ?_⟩ <;> dsimp only <;> omega, fm_of_wrong h1, by omega, by omega⟩
    · omega
  obtain ⟨e0, he0⟩ : ∃ e, e = wrL ds vs t := ⟨_, rfl⟩
  rw [← he0] at cw HE HOk
  clear he0
  rw [← hX]
  clear hw1 hX s1 x1 x2 hv ht b1
  go_enter Tryz.func74, Tryz.ntmps74
  go_upto_region 1 with fail
  rw [← HW.out]
  simp only [← HXs.out]
  clear HW
  obtain ⟨y0, y1, y2, y3, y4, y5, _⟩ := (HC.out w1 (Below.refl _ _)).cells
  go_wp2_with fail
  refine cw.mono ?_
  rintro e w2 ⟨rfl, b2⟩
  clear cw y0 y1 y2 y3 y4 y5
  by_cases hz : e0 = 0
  · subst hz
    obtain ⟨hok, hfm, hds, hvs⟩ := HOk.out rfl
    rw [if_pos rfl] at HE
    have ct := lterm_any (hLA _ hok) t _ w2 (HT.out w2 b2) hfm (by omega)
    obtain ⟨y0, y1, y2, y3, y4, y5, _⟩ := (HC.out w2 b2).cells
    have hfL : Fm (liT ⟨0, vs, 0, 0⟩ t 0 0) := fm_li (s := ⟨0, vs, 0, 0⟩) hvs _ t 0 0 (Nat.le_refl _) hfm
    have hbL : blk (liT ⟨0, vs, 0, 0⟩ t 0 0) ≤ 20000 := Nat.le_trans (blk_li (s := ⟨0, vs, 0, 0⟩) _ t 0 0 (Nat.le_refl _)) hb
    have HAn : Hid (ansL ⟨0, vs, 0, 0⟩ t = if erT ⟨0, vs, 0, 0⟩ t 0 0 = 0 then liT ⟨0, vs, 0, 0⟩ t 0 0 else zeroT) := (rfl : _ = _)
    obtain ⟨er, her⟩ : ∃ e, e = erT ⟨0, vs, 0, 0⟩ t 0 0 := ⟨_, rfl⟩
    obtain ⟨LT, hLT⟩ : ∃ T, T = liT ⟨0, vs, 0, 0⟩ t 0 0 := ⟨_, rfl⟩
    rw [← her, ← hLT] at HE HAn
    rw [← hLT] at HTt hfL hbL
    obtain ⟨T, hT⟩ : ∃ T, T = ansL ⟨0, vs, 0, 0⟩ t := ⟨_, rfl⟩
    rw [← hT] at ct HAn
    rw [← her] at ct
    dsimp only at ct
    clear her hLT hT HOk hok hfm
    go_wp2_with fail
    refine ct.mono ?_
    rintro e w3 ⟨v3, rfl, hv3, b3⟩
    clear ct y0 y1 y2 y3 y4 y5
    have b23 := bchain b2 b3
    have hsz := Hs1.out
    have hs2 := b2.size
    have hs3 := b3.size
    obtain ⟨ra2, rc2, ka2, kc2, sa2, sc2, rfl, ht2⟩ := hv3.form
    by_cases hr : er = 0
    · subst hr
      rw [if_pos rfl] at HE
      have hTL : T = LT := by rw [HAn.out, if_pos rfl]
      subst hTL
      obtain ⟨x9, hx9⟩ : ∃ x, x = w3.heap.size := ⟨_, rfl⟩
      obtain ⟨w4, hw4⟩ : ∃ W, W = w3.alloc (.cells #[.int .i64 T.kind, .int .i64 T.n, .string T.name, .slice ra2 T.r.length rc2, .slice ka2 T.kids.length kc2, .slice sa2 T.sys.length sc2] 26) := ⟨_, rfl⟩
      have b4 : Below w3.heap.size w3 w4 := by rw [hw4]; exact belowA _ _
      have n4 : Six w4 x9 (.int .i64 T.kind) (.int .i64 T.n) (.string T.name) (.slice ra2 T.r.length rc2) (.slice ka2 T.kids.length kc2) (.slice sa2 T.sys.length sc2) := ⟨by rw [hw4, hx9]; exact heapNew _ _⟩
      have b24 := bchain b23 b4
      have hv4 : TmIn Tt w4 T (.agg #[.int .i64 T.kind, .int .i64 T.n, .string T.name, .slice ra2 T.r.length rc2, .slice ka2 T.kids.length kc2, .slice sa2 T.sys.length sc2]) := ((ht2.blw b4).up fun _ _ => trivial).value
      have H4 : Hid (_ = _) := hw4
      have H9 : Hid (x9 = w3.heap.size) := hx9
      have hs4 := b4.size
      clear hw4 hx9 ht2 hv3
      go_upto_region 5 with fail
      rw [← H4.out]
      simp only [← H9.out]
      clear H4
      by_cases hd : 1000000 < ds
      · have hd1 : decide (1000000 < ds) = true := by simpa using hd
        rw [if_pos hd] at HE
        have Hf : Hid (bothE vs ds t = 2 ∧ bothT vs ds t = zeroT) := ⟨HE.out, by rw [HTt.out, if_neg (by rw [HE.out]; omega)]⟩
        clear HE HTt HAn hLA
        have zz := HZ.out w4 b24
        have zz2 := zz.set6 (.int .i64 0) (.int .i64 0) (.string ⟨#[]⟩) (.slice none 0 0) (.slice none 0 0) (.slice none 0 0)
        obtain ⟨o0, o1, o2, o3, o4, o5, ff⟩ := zz.cells
        have f0 := ff 0
        have f1 := ff 1
        have f2 := ff 2
        have f3 := ff 3
        have f4 := ff 4
        have f5 := ff 5
        obtain ⟨h0, h1, h2, h3, h4, h5, _⟩ := zz2.cells
        obtain ⟨wz, hwz⟩ : ∃ W, W = (((((w4.setCell ⟨X + 1, 0, none⟩ (.int .i64 0)).setCell ⟨X + 1, 1, none⟩ (.int .i64 0)).setCell ⟨X + 1, 2, none⟩ (.string ⟨#[]⟩)).setCell ⟨X + 1, 3, none⟩ (.slice none 0 0)).setCell ⟨X + 1, 4, none⟩ (.slice none 0 0)).setCell ⟨X + 1, 5, none⟩ (.slice none 0 0) := ⟨_, rfl⟩
        rw [← hwz] at h0 h1 h2 h3 h4 h5
        have kz : Kn (fun q => q ≠ X + 1) w4 wz := by rw [hwz]; exact (((((kn_set _ _ _ _).trans (kn_set _ _ _ _)).trans (kn_set _ _ _ _)).trans (kn_set _ _ _ _)).trans (kn_set _ _ _ _)).trans (kn_set _ _ _ _)
        have bz : Below X w wz := (HB.out w4 b24).trans (kz.below (fun q hq => by omega) (by have := (HB.out w4 b24).size; have := HXs.out; omega))
        have Hwz : Hid (_ = _) := hwz
        clear hwz ff zz zz2 kz
        go_wp2_with fail
        rw [← Hwz.out]
        exact bodyPost_ret (v := .tuple #[.agg #[.int .i64 0, .int .i64 0, .string ⟨#[]⟩, .slice none 0 0, .slice none 0 0, .slice none 0 0], .int .i64 (2)]) (by simp only [results, Tryz.results74]; simp [go_sem, h0, h1, h2, h3, h4, h5]) rfl ⟨_, by rw [Hf.out.1], by rw [Hf.out.2]; exact zeroT_in _ _, bz⟩
      · have hd1 : decide (1000000 < ds) = false := by simpa using hd
        rw [if_neg hd] at HE
        have c5 := lterm_any (hLA ⟨0, 0, 0, ds⟩ (by refine ⟨?_, ?_, ?_, ?_, ?_, ?_, ?_, ?_⟩ <;> dsimp only <;> omega)) T _ w4 hv4 hfL (by omega)
        have HAn2 : Hid (ansL ⟨0, 0, 0, ds⟩ T = if erT ⟨0, 0, 0, ds⟩ T 0 0 = 0 then liT ⟨0, 0, 0, ds⟩ T 0 0 else zeroT) := (rfl : _ = _)
        have Hf0 : Hid (bothT vs ds t = ansL ⟨0, 0, 0, ds⟩ T) := (by rw [HTt.out, HE.out, HAn2.out] : _ = _)
        obtain ⟨e5, he5⟩ : ∃ e, e = erT ⟨0, 0, 0, ds⟩ T 0 0 := ⟨_, rfl⟩
        obtain ⟨U, hU⟩ : ∃ U, U = ansL ⟨0, 0, 0, ds⟩ T := ⟨_, rfl⟩
        rw [← he5, ← hU] at c5
        rw [← he5] at HE
        rw [← hU] at Hf0
        dsimp only at c5
        have Hf : Hid (bothE vs ds t = e5 ∧ bothT vs ds t = U) := ⟨HE.out, Hf0.out⟩
        clear HE HTt HAn HAn2 Hf0 hLA he5 hU hv4
        obtain ⟨y0, y1, y2, y3, y4, y5, _⟩ := n4.cells
        go_wp2_with fail
        refine c5.mono ?_
        rintro e w5 ⟨v5, rfl, hv5, b5⟩
        clear c5 y0 y1 y2 y3 y4 y5
        obtain ⟨ra5, rc5, ka5, kc5, sa5, sc5, rfl, ht5⟩ := hv5.form
        have htv := ht5.value
        have b25 := bchain b24 b5
        clear ht5 hv5
        have zz := HZ.out w5 b25
        have zz2 := zz.set6 (.int .i64 U.kind) (.int .i64 U.n) (.string U.name) (.slice ra5 U.r.length rc5) (.slice ka5 U.kids.length kc5) (.slice sa5 U.sys.length sc5)
        obtain ⟨o0, o1, o2, o3, o4, o5, ff⟩ := zz.cells
        have f0 := ff 0
        have f1 := ff 1
        have f2 := ff 2
        have f3 := ff 3
        have f4 := ff 4
        have f5 := ff 5
        obtain ⟨h0, h1, h2, h3, h4, h5, _⟩ := zz2.cells
        obtain ⟨wz, hwz⟩ : ∃ W, W = (((((w5.setCell ⟨X + 1, 0, none⟩ (.int .i64 U.kind)).setCell ⟨X + 1, 1, none⟩ (.int .i64 U.n)).setCell ⟨X + 1, 2, none⟩ (.string U.name)).setCell ⟨X + 1, 3, none⟩ (.slice ra5 U.r.length rc5)).setCell ⟨X + 1, 4, none⟩ (.slice ka5 U.kids.length kc5)).setCell ⟨X + 1, 5, none⟩ (.slice sa5 U.sys.length sc5) := ⟨_, rfl⟩
        rw [← hwz] at h0 h1 h2 h3 h4 h5
        have kz : Kn (fun q => q ≠ X + 1) w5 wz := by rw [hwz]; exact (((((kn_set _ _ _ _).trans (kn_set _ _ _ _)).trans (kn_set _ _ _ _)).trans (kn_set _ _ _ _)).trans (kn_set _ _ _ _)).trans (kn_set _ _ _ _)
        have bz : Below X w wz := (HB.out w5 b25).trans (kz.below (fun q hq => by omega) (by have := (HB.out w5 b25).size; have := HXs.out; omega))
        have HTm : Hid (TmIn (OkN X wz) wz U (.agg #[.int .i64 U.kind, .int .i64 U.n, .string U.name, .slice ra5 U.r.length rc5, .slice ka5 U.kids.length kc5, .slice sa5 U.sys.length sc5])) := htv.keep kz.size (fun q hq => (hq.same (kz.block q (by have := hq.1; omega) hq.lt)).mono (by omega)) (fun q hq hs => kz.block q (by have := hq.1; omega) hs)
        have Hwz : Hid (_ = _) := hwz
        clear hwz ff zz zz2 kz htv
        go_wp2_with fail
        rw [← Hwz.out]
        exact bodyPost_ret (v := .tuple #[.agg #[.int .i64 U.kind, .int .i64 U.n, .string U.name, .slice ra5 U.r.length rc5, .slice ka5 U.kids.length kc5, .slice sa5 U.sys.length sc5], .int .i64 (e5)]) (by simp only [results, Tryz.results74]; simp [go_sem, h0, h1, h2, h3, h4, h5]) rfl ⟨_, by rw [Hf.out.1], by rw [Hf.out.2]; exact HTm.out, bz⟩
    · rw [if_neg hr] at HE
      have hr1 : (er == 0) = false := by simpa using hr
      have Hf : Hid (bothE vs ds t = er ∧ bothT vs ds t = zeroT) := ⟨HE.out, by rw [HTt.out, if_neg (by rw [HE.out]; exact hr)]⟩
      obtain ⟨w4, hw4⟩ : ∃ W, W = w3.alloc (.cells #[.int .i64 T.kind, .int .i64 T.n, .string T.name, .slice ra2 T.r.length rc2, .slice ka2 T.kids.length kc2, .slice sa2 T.sys.length sc2] 26) := ⟨_, rfl⟩
      have b4 : Below w3.heap.size w3 w4 := by rw [hw4]; exact belowA _ _
      have b24 := bchain b23 b4
      have H4 : Hid (_ = _) := hw4
      clear hw4 ht2 hv3 HE HTt HAn hLA
      go_upto_region 5 with fail
      rw [← H4.out]
      clear H4
      have zz := HZ.out w4 b24
      have zz2 := zz.set6 (.int .i64 0) (.int .i64 0) (.string ⟨#[]⟩) (.slice none 0 0) (.slice none 0 0) (.slice none 0 0)
      obtain ⟨o0, o1, o2, o3, o4, o5, ff⟩ := zz.cells
      have f0 := ff 0
      have f1 := ff 1
      have f2 := ff 2
      have f3 := ff 3
      have f4 := ff 4
      have f5 := ff 5
      obtain ⟨h0, h1, h2, h3, h4, h5, _⟩ := zz2.cells
      obtain ⟨wz, hwz⟩ : ∃ W, W = (((((w4.setCell ⟨X + 1, 0, none⟩ (.int .i64 0)).setCell ⟨X + 1, 1, none⟩ (.int .i64 0)).setCell ⟨X + 1, 2, none⟩ (.string ⟨#[]⟩)).setCell ⟨X + 1, 3, none⟩ (.slice none 0 0)).setCell ⟨X + 1, 4, none⟩ (.slice none 0 0)).setCell ⟨X + 1, 5, none⟩ (.slice none 0 0) := ⟨_, rfl⟩
      rw [← hwz] at h0 h1 h2 h3 h4 h5
      have kz : Kn (fun q => q ≠ X + 1) w4 wz := by rw [hwz]; exact (((((kn_set _ _ _ _).trans (kn_set _ _ _ _)).trans (kn_set _ _ _ _)).trans (kn_set _ _ _ _)).trans (kn_set _ _ _ _)).trans (kn_set _ _ _ _)
      have bz : Below X w wz := (HB.out w4 b24).trans (kz.below (fun q hq => by omega) (by have := (HB.out w4 b24).size; have := HXs.out; omega))
      have Hwz : Hid (_ = _) := hwz
      clear hwz ff zz zz2 kz
      go_wp2_with fail
      rw [← Hwz.out]
      exact bodyPost_ret (v := .tuple #[.agg #[.int .i64 0, .int .i64 0, .string ⟨#[]⟩, .slice none 0 0, .slice none 0 0, .slice none 0 0], .int .i64 (er)]) (by simp only [results, Tryz.results74]; simp [go_sem, h0, h1, h2, h3, h4, h5]) rfl ⟨_, by rw [Hf.out.1], by rw [Hf.out.2]; exact zeroT_in _ _, bz⟩
  · rw [if_neg hz] at HE
    have hz1 : (e0 == 0) = false := by simpa using hz
    have hsz := Hs1.out
    have Hf : Hid (bothE vs ds t = e0 ∧ bothT vs ds t = zeroT) := ⟨HE.out, by rw [HTt.out, if_neg (by rw [HE.out]; exact hz)]⟩
    clear HE HTt HOk hLA
    have zz := HZ.out w2 b2
    have zz2 := zz.set6 (.int .i64 0) (.int .i64 0) (.string ⟨#[]⟩) (.slice none 0 0) (.slice none 0 0) (.slice none 0 0)
    obtain ⟨o0, o1, o2, o3, o4, o5, ff⟩ := zz.cells
    have f0 := ff 0
    have f1 := ff 1
    have f2 := ff 2
    have f3 := ff 3
    have f4 := ff 4
    have f5 := ff 5
    obtain ⟨h0, h1, h2, h3, h4, h5, _⟩ := zz2.cells
    obtain ⟨wz, hwz⟩ : ∃ W, W = (((((w2.setCell ⟨X + 1, 0, none⟩ (.int .i64 0)).setCell ⟨X + 1, 1, none⟩ (.int .i64 0)).setCell ⟨X + 1, 2, none⟩ (.string ⟨#[]⟩)).setCell ⟨X + 1, 3, none⟩ (.slice none 0 0)).setCell ⟨X + 1, 4, none⟩ (.slice none 0 0)).setCell ⟨X + 1, 5, none⟩ (.slice none 0 0) := ⟨_, rfl⟩
    rw [← hwz] at h0 h1 h2 h3 h4 h5
    have kz : Kn (fun q => q ≠ X + 1) w2 wz := by rw [hwz]; exact (((((kn_set _ _ _ _).trans (kn_set _ _ _ _)).trans (kn_set _ _ _ _)).trans (kn_set _ _ _ _)).trans (kn_set _ _ _ _)).trans (kn_set _ _ _ _)
    have bz : Below X w wz := (HB.out w2 b2).trans (kz.below (fun q hq => by omega) (by have := (HB.out w2 b2).size; have := HXs.out; omega))
    have Hwz : Hid (_ = _) := hwz
    clear hwz ff zz zz2 kz
    go_wp2_with fail
    rw [← Hwz.out]
    exact bodyPost_ret (v := .tuple #[.agg #[.int .i64 0, .int .i64 0, .string ⟨#[]⟩, .slice none 0 0, .slice none 0 0, .slice none 0 0], .int .i64 (e0)]) (by simp only [results, Tryz.results74]; simp [go_sem, h0, h1, h2, h3, h4, h5]) rfl ⟨_, by rw [Hf.out.1], by rw [Hf.out.2]; exact zeroT_in _ _, bz⟩
end Go.Proofs.YtocfamcclfhkcaaGreat
