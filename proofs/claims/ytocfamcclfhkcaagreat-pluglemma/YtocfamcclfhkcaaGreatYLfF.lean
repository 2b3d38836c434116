/- Vars, Dims, Both. -/
import Derived.Test.YtocfamcclfhkcaaGreatYLfE
import Derived.Test.YtocfamcclfhkcaaGreatYRight
namespace Go.Proofs.YtocfamcclfhkcaaGreat
open Go.RowKit
set_option linter.unusedVariables false
set_option linter.unusedSimpArgs false

/-- A term that may be may be lifted. -/
theorem fm_of_ok {o : Bool} {V : Int} {D : Nat} : ∀ (n : Nat) (t : Tm) (bv bd : Nat), blk t ≤ n → okT o V D t bv bd = true → Fm t
  | 0, t, bv, bd, hn, h => by have := blk_pos t; omega
  | n + 1, t, bv, bd, hn, h => by
    rw [ok_eq, Bool.and_eq_true] at h
    obtain ⟨h1, h2⟩ := h
    rw [List.all_eq_true] at h2
    unfold Tm.node nodeB at h1
    simp only [Bool.and_eq_true] at h1
    obtain ⟨⟨⟨⟨⟨_, _⟩, hnum⟩, _⟩, hrow⟩, _⟩ := h1
    rw [fm_eq]
    refine ⟨?_, fun hk => ?_, fun x hx => ?_, fun b hb x hx => ?_⟩
    · unfold numB at hnum
      split at hnum
      · simp only [Bool.and_eq_true, decide_eq_true_eq] at hnum; exact hnum.1
      · simp only [decide_eq_true_eq] at hnum; omega
    · unfold rowB at hrow
      rw [hk, if_neg (by omega), if_neg (by omega)] at hrow
      exact List.length_eq_zero_iff.1 (by simpa using hrow)
    · obtain ⟨i, hi⟩ := List.mem_iff_getElem?.1 hx
      exact fm_of_ok n x _ _ (by have := blk_kid hx; omega) (h2 _ (pts_kid hi))
    · exact fm_of_ok n x _ _ (by have := blk_sub hb hx; omega) (h2 _ (pts_sys hb hx))
theorem fm_of_wrong {t : Tm} (h : wrongN true 0 0 t = 0) : Fm t := by
  unfold wrongN at h
  split at h
  · cases h
  · split at h
    · rename_i h2; exact fm_of_ok _ t 0 0 (Nat.le_refl _) h2
    · cases h
/-- What is refused ahead of all lifting. -/
def wrL (ot by_ : Int) (t : Tm) : Int := if wrongN true 0 0 t = 0 then (if ot < 0 ∨ by_ < 0 ∨ 1000000 < by_ then 2 else 0) else ((wrongN true 0 0 t : Nat) : Int)
set_option maxRecDepth 100000 in
set_option maxHeartbeats 2000000 in
theorem lwrong_any (t : Tm) (v : Value) (w : World) (hv : TmIn Tt w t v) (hb : blk t ≤ 20000) (ot by_ : Int) : Calls Tryz.prog 25 #[v, .int .i64 ot, .int .i64 by_] w fun e w' => e = .returned (.int .i64 (wrL ot by_ t)) ∧ Below w.heap.size w w' := by
  obtain ⟨ra, rc, ka, kc, sa, sc, rfl, ht⟩ := hv.form
  obtain ⟨w1, hw1⟩ : ∃ W, W = w.alloc (.cells #[.int .i64 t.kind, .int .i64 t.n, .string t.name, .slice ra t.r.length rc, .slice ka t.kids.length kc, .slice sa t.sys.length sc] 26) := ⟨_, rfl⟩
  have b1 : Below w.heap.size w w1 := by rw [hw1]; exact belowA _ _
  obtain ⟨_, y0, y1, y2, y3, y4, y5⟩ : Cs6 w1 w.heap.size 0 t ra rc ka kc sa sc := by rw [hw1]; exact cs6_new w t ra rc ka kc sa sc
  simp only [Nat.zero_add] at y1 y2 y3 y4 y5
  have cc := formed_any t _ w1 (ht.blw b1).value hb
  have HA : Hid (wrL ot by_ t = if wrongN true 0 0 t = 0 then (if ot < 0 ∨ by_ < 0 ∨ 1000000 < by_ then 2 else 0) else ((wrongN true 0 0 t : Nat) : Int)) := (rfl : _ = _)
  obtain ⟨f, hf⟩ : ∃ f, f = wrongN true 0 0 t := ⟨_, rfl⟩
  rw [← hf] at cc HA
  have HW : Hid (_ = _) := hw1
  clear hw1 hf hv ht
  go_enter Tryz.func25, Tryz.ntmps25
  go_upto_region 1 with fail
  rw [← HW.out]
  clear HW
  go_wp2_with fail
  refine cc.mono ?_
  rintro e w2 ⟨rfl, b2⟩
  have b12 := bchain b1 b2
  clear cc y0 y1 y2 y3 y4 y5
  by_cases h0 : f = 0
  · subst h0
    rw [if_pos rfl] at HA
    by_cases h1 : ot < 0
    · have HR : Hid (wrL ot by_ t = 2) := (by rw [HA.out, if_pos (.inl h1)] : _ = _)
      go_wp2_with fail
      go_ret
      exact ⟨by rw [HR.out]; rfl, b12⟩
    · by_cases h2 : by_ < 0
      · have HR : Hid (wrL ot by_ t = 2) := (by rw [HA.out, if_pos (.inr (.inl h2))] : _ = _)
        go_wp2_with fail
        go_ret
        exact ⟨by rw [HR.out]; rfl, b12⟩
      · by_cases h3 : 1000000 < by_
        · have HR : Hid (wrL ot by_ t = 2) := (by rw [HA.out, if_pos (.inr (.inr h3))] : _ = _)
          go_wp2_with fail
          go_ret
          exact ⟨by rw [HR.out]; rfl, b12⟩
        · have HR : Hid (wrL ot by_ t = 0) := (by rw [HA.out, if_neg (by omega)] : _ = _)
          go_wp2_with fail
          go_ret
          exact ⟨by rw [HR.out]; rfl, b12⟩
  · have HR : Hid (wrL ot by_ t = (f : Int)) := (by rw [HA.out, if_neg h0] : _ = _)
    have h01 : ((f : Int) == 0) = false := by simp; omega
    have h02 : ¬ (f : Int) = 0 := by omega
    go_wp2_with fail
    go_ret
    exact ⟨by rw [HR.out]; rfl, b12⟩
/-- What is told, and why not. -/
def apE (e0 : Int) (s : Sf) (t : Tm) : Int := if e0 = 0 then erT s t 0 0 else e0
def apT (e0 : Int) (s : Sf) (t : Tm) : Tm := if e0 = 0 then ansL s t else zeroT
def varsE (fr by_ : Int) (t : Tm) : Int := apE (wrL fr by_ t) ⟨fr, by_, 0, 0⟩ t
def varsT (fr by_ : Int) (t : Tm) : Tm := apT (wrL fr by_ t) ⟨fr, by_, 0, 0⟩ t
def dimsE (fr by_ : Int) (t : Tm) : Int := apE (wrL fr by_ t) ⟨0, 0, fr, by_⟩ t
def dimsT (fr by_ : Int) (t : Tm) : Tm := apT (wrL fr by_ t) ⟨0, 0, fr, by_⟩ t
def LAll : Prop := ∀ s : Sf, s.ok → ∀ N, LfC s N
set_option maxRecDepth 100000 in
set_option maxHeartbeats 4000000 in
theorem lvars_any (hLA : LAll) (t : Tm) (v : Value) (w : World) (hv : TmIn Tt w t v) (hb : blk t ≤ 20000) (fr by_ : Int) (hfr : I64 fr) :
    Calls Tryz.prog 9 #[v, .int .i64 fr, .int .i64 by_] w fun e w' => ∃ v', e = .returned (.tuple #[v', .int .i64 (varsE fr by_ t)]) ∧ TmIn (OkN w.heap.size w') w' (varsT fr by_ t) v' ∧ Below w.heap.size w w' := by
  obtain ⟨ra, rc, ka, kc, sa, sc, rfl, ht⟩ := hv.form
  obtain ⟨w1, hw1⟩ : ∃ W, W = (w.alloc (.cells #[.int .i64 t.kind, .int .i64 t.n, .string t.name, .slice ra t.r.length rc, .slice ka t.kids.length kc, .slice sa t.sys.length sc] 26)).alloc (.cells #[.int .i64 0, .int .i64 0, .string ⟨#[]⟩, .slice none 0 0, .slice none 0 0, .slice none 0 0] 26) := ⟨_, rfl⟩
  have b1 : Below w.heap.size w w1 := by rw [hw1]; exact bchain (belowA _ _) (belowA _ _)
  obtain ⟨X, hX⟩ : ∃ X, X = w.heap.size := ⟨_, rfl⟩
  have s1 : w1.heap.size = X + 2 := by rw [hw1, hX]; simp
  have x1 : Six w1 X (.int .i64 t.kind) (.int .i64 t.n) (.string t.name) (.slice ra t.r.length rc) (.slice ka t.kids.length kc) (.slice sa t.sys.length sc) := ⟨by rw [hX, hw1]; exact (Below.heap_alloc _ _ _ (by simp)).trans (heapNew w _)⟩
  have x2 : Six w1 (X + 1) (.int .i64 0) (.int .i64 0) (.string ⟨#[]⟩) (.slice none 0 0) (.slice none 0 0) (.slice none 0 0) := ⟨by
    rw [hX, hw1]; have := heapNew (w.alloc (.cells #[.int .i64 t.kind, .int .i64 t.n, .string t.name, .slice ra t.r.length rc, .slice ka t.kids.length kc, .slice sa t.sys.length sc] 26)) (.cells #[.int .i64 0, .int .i64 0, .string ⟨#[]⟩, .slice none 0 0, .slice none 0 0, .slice none 0 0] 26); rwa [World.size_alloc] at this⟩
  have HC : Hid (∀ W, Below w1.heap.size w1 W → Six W X (.int .i64 t.kind) (.int .i64 t.n) (.string t.name) (.slice ra t.r.length rc) (.slice ka t.kids.length kc) (.slice sa t.sys.length sc)) := fun W q => x1.blw q
  have HZ : Hid (∀ W, Below w1.heap.size w1 W → Six W (X + 1) (.int .i64 0) (.int .i64 0) (.string ⟨#[]⟩) (.slice none 0 0) (.slice none 0 0) (.slice none 0 0)) := fun W q => x2.blw q
  have HT : Hid (∀ W, Below w1.heap.size w1 W → TmIn Tt W t (.agg #[.int .i64 t.kind, .int .i64 t.n, .string t.name, .slice ra t.r.length rc, .slice ka t.kids.length kc, .slice sa t.sys.length sc])) := fun W q => ((ht.blw b1).blw q).value
  have HB : Hid (∀ W, Below w1.heap.size w1 W → Below X w W) := fun W q => by rw [hX]; exact bchain b1 q
  have HXs : Hid (X = w.heap.size) := hX
  have Hs1 : Hid (w1.heap.size = X + 2) := s1
  have HW : Hid (_ = _) := hw1
  have cw := lwrong_any t _ w1 (HT.out w1 (Below.refl _ _)) hb fr by_
  have HE : Hid (varsE fr by_ t = apE (wrL fr by_ t) ⟨fr, by_, 0, 0⟩ t ∧ varsT fr by_ t = apT (wrL fr by_ t) ⟨fr, by_, 0, 0⟩ t) := ⟨rfl, rfl⟩
  have HOk : Hid (wrL fr by_ t = 0 → (Sf.mk fr by_ 0 0).ok ∧ Fm t) := fun h => by
    unfold wrL at h
    split at h
    · rename_i h1
      split at h
      · cases h
      · rename_i h2
        exact ⟨by unfold I64 at hfr; refine ⟨?_, ?_, ?_, ?_, ?_, ?_, ?_, ?_⟩ <;> dsimp only <;> omega, fm_of_wrong h1⟩
    · omega
  obtain ⟨e0, he0⟩ : ∃ e, e = wrL fr by_ t := ⟨_, rfl⟩
  rw [← he0] at cw HE HOk
  rw [HE.out.1, HE.out.2]
  clear he0
  have HA : Hid (apE e0 ⟨fr, by_, 0, 0⟩ t = (if e0 = 0 then erT ⟨fr, by_, 0, 0⟩ t 0 0 else e0) ∧ apT e0 ⟨fr, by_, 0, 0⟩ t = (if e0 = 0 then ansL ⟨fr, by_, 0, 0⟩ t else zeroT)) := ⟨rfl, rfl⟩
  rw [← hX]
  clear hw1 hX s1 x1 x2 hv ht b1
  go_enter Tryz.func9, Tryz.ntmps9
  go_upto_region 1 with fail
  rw [← HW.out]
  simp only [← HXs.out]
  clear HW
  obtain ⟨y0, y1, y2, y3, y4, y5, _⟩ := (HC.out w1 (Below.refl _ _)).cells
  go_wp2_with fail
  refine cw.mono ?_
  rintro e w2 ⟨rfl, b2⟩
  clear cw y0 y1 y2 y3 y4 y5
  by_cases hz : e0 = 0
  · subst hz
    obtain ⟨hok, hfm⟩ := HOk.out rfl
    have ct := lterm_any (hLA _ hok) t _ w2 (HT.out w2 b2) hfm (by omega)
    obtain ⟨y0, y1, y2, y3, y4, y5, _⟩ := (HC.out w2 b2).cells
    obtain ⟨er, her⟩ : ∃ e, e = erT ⟨fr, by_, 0, 0⟩ t 0 0 := ⟨_, rfl⟩
    obtain ⟨T, hT⟩ : ∃ T, T = ansL ⟨fr, by_, 0, 0⟩ t := ⟨_, rfl⟩
    rw [← her, ← hT] at ct
    dsimp only at ct
    have Hf : Hid (apE 0 ⟨fr, by_, 0, 0⟩ t = er ∧ apT 0 ⟨fr, by_, 0, 0⟩ t = T) := ⟨by rw [HA.out.1, if_pos rfl, her], by rw [HA.out.2, if_pos rfl, hT]⟩
    clear her hT HA HE HOk hok hfm hLA
    go_wp2_with fail
    refine ct.mono ?_
    rintro e w3 ⟨v3, rfl, hv3, b3⟩
    clear ct y0 y1 y2 y3 y4 y5
    obtain ⟨ra2, rc2, ka2, kc2, sa2, sc2, rfl, ht2⟩ := hv3.form
    have htv := ht2.value
    have hsz := Hs1.out
    have hs2 := b2.size
    have b23 := bchain b2 b3
    clear ht2 hv3
    have zz := HZ.out w3 b23
    have zz2 := zz.set6 (.int .i64 T.kind) (.int .i64 T.n) (.string T.name) (.slice ra2 T.r.length rc2) (.slice ka2 T.kids.length kc2) (.slice sa2 T.sys.length sc2)
    obtain ⟨o0, o1, o2, o3, o4, o5, ff⟩ := zz.cells
    have f0 := ff 0
    have f1 := ff 1
    have f2 := ff 2
    have f3 := ff 3
    have f4 := ff 4
    have f5 := ff 5
    obtain ⟨h0, h1, h2, h3, h4, h5, _⟩ := zz2.cells
    obtain ⟨wz, hwz⟩ : ∃ W, W = (((((w3.setCell ⟨X + 1, 0, none⟩ (.int .i64 T.kind)).setCell ⟨X + 1, 1, none⟩ (.int .i64 T.n)).setCell ⟨X + 1, 2, none⟩ (.string T.name)).setCell ⟨X + 1, 3, none⟩ (.slice ra2 T.r.length rc2)).setCell ⟨X + 1, 4, none⟩ (.slice ka2 T.kids.length kc2)).setCell ⟨X + 1, 5, none⟩ (.slice sa2 T.sys.length sc2) := ⟨_, rfl⟩
    rw [← hwz] at h0 h1 h2 h3 h4 h5
    have kz : Kn (fun q => q ≠ X + 1) w3 wz := by rw [hwz]; exact (((((kn_set _ _ _ _).trans (kn_set _ _ _ _)).trans (kn_set _ _ _ _)).trans (kn_set _ _ _ _)).trans (kn_set _ _ _ _)).trans (kn_set _ _ _ _)
    have bz : Below X w wz := (HB.out w3 b23).trans (kz.below (fun q hq => by omega) (by have := (HB.out w3 b23).size; have := HXs.out; omega))
    have HTm : Hid (TmIn (OkN X wz) wz T (.agg #[.int .i64 T.kind, .int .i64 T.n, .string T.name, .slice ra2 T.r.length rc2, .slice ka2 T.kids.length kc2, .slice sa2 T.sys.length sc2])) := htv.keep kz.size (fun q hq => (hq.same (kz.block q (by have := hq.1; omega) hq.lt)).mono (by omega)) (fun q hq hs => kz.block q (by have := hq.1; omega) hs)
    have Hwz : Hid (_ = _) := hwz
    clear hwz ff zz zz2 kz htv
    go_wp2_with fail
    rw [← Hwz.out]
    exact bodyPost_ret (v := .tuple #[.agg #[.int .i64 T.kind, .int .i64 T.n, .string T.name, .slice ra2 T.r.length rc2, .slice ka2 T.kids.length kc2, .slice sa2 T.sys.length sc2], .int .i64 (er)]) (by simp only [results, Tryz.results9]; simp [go_sem, h0, h1, h2, h3, h4, h5]) rfl ⟨_, by rw [Hf.out.1], by rw [Hf.out.2]; exact HTm.out, bz⟩
  · have Hf : Hid (apE e0 ⟨fr, by_, 0, 0⟩ t = e0 ∧ apT e0 ⟨fr, by_, 0, 0⟩ t = zeroT) := ⟨by rw [HA.out.1, if_neg hz], by rw [HA.out.2, if_neg hz]⟩
    have hz1 : (e0 == 0) = false := by simpa using hz
    have hsz := Hs1.out
    clear HA HE HOk hLA
    have zz := HZ.out w2 b2
    have zz2 := zz.set6 (.int .i64 0) (.int .i64 0) (.string ⟨#[]⟩) (.slice none 0 0) (.slice none 0 0) (.slice none 0 0)
    obtain ⟨o0, o1, o2, o3, o4, o5, ff⟩ := zz.cells
    have f0 := ff 0
    have f1 := ff 1
    have f2 := ff 2
    have f3 := ff 3
    have f4 := ff 4
    have f5 := ff 5
    obtain ⟨h0, h1, h2, h3, h4, h5, _⟩ := zz2.cells
    obtain ⟨wz, hwz⟩ : ∃ W, W = (((((w2.setCell ⟨X + 1, 0, none⟩ (.int .i64 0)).setCell ⟨X + 1, 1, none⟩ (.int .i64 0)).setCell ⟨X + 1, 2, none⟩ (.string ⟨#[]⟩)).setCell ⟨X + 1, 3, none⟩ (.slice none 0 0)).setCell ⟨X + 1, 4, none⟩ (.slice none 0 0)).setCell ⟨X + 1, 5, none⟩ (.slice none 0 0) := ⟨_, rfl⟩
    rw [← hwz] at h0 h1 h2 h3 h4 h5
    have kz : Kn (fun q => q ≠ X + 1) w2 wz := by rw [hwz]; exact (((((kn_set _ _ _ _).trans (kn_set _ _ _ _)).trans (kn_set _ _ _ _)).trans (kn_set _ _ _ _)).trans (kn_set _ _ _ _)).trans (kn_set _ _ _ _)
    have bz : Below X w wz := (HB.out w2 b2).trans (kz.below (fun q hq => by omega) (by have := (HB.out w2 b2).size; have := HXs.out; omega))
    have Hwz : Hid (_ = _) := hwz
    clear hwz ff zz zz2 kz
    go_wp2_with fail
    rw [← Hwz.out]
    exact bodyPost_ret (v := .tuple #[.agg #[.int .i64 0, .int .i64 0, .string ⟨#[]⟩, .slice none 0 0, .slice none 0 0, .slice none 0 0], .int .i64 (e0)]) (by simp only [results, Tryz.results9]; simp [go_sem, h0, h1, h2, h3, h4, h5]) rfl ⟨_, by rw [Hf.out.1], by rw [Hf.out.2]; exact zeroT_in _ _, bz⟩
set_option maxRecDepth 100000 in
set_option maxHeartbeats 4000000 in
theorem ldims_any (hLA : LAll) (t : Tm) (v : Value) (w : World) (hv : TmIn Tt w t v) (hb : blk t ≤ 20000) (fr by_ : Int) (hfr : I64 fr) :
    Calls Tryz.prog 124 #[v, .int .i64 fr, .int .i64 by_] w fun e w' => ∃ v', e = .returned (.tuple #[v', .int .i64 (dimsE fr by_ t)]) ∧ TmIn (OkN w.heap.size w') w' (dimsT fr by_ t) v' ∧ Below w.heap.size w w' := by
  obtain ⟨ra, rc, ka, kc, sa, sc, rfl, ht⟩ := hv.form
  obtain ⟨w1, hw1⟩ : ∃ W, W = (w.alloc (.cells #[.int .i64 t.kind, .int .i64 t.n, .string t.name, .slice ra t.r.length rc, .slice ka t.kids.length kc, .slice sa t.sys.length sc] 26)).alloc (.cells #[.int .i64 0, .int .i64 0, .string ⟨#[]⟩, .slice none 0 0, .slice none 0 0, .slice none 0 0] 26) := ⟨_, rfl⟩
  have b1 : Below w.heap.size w w1 := by rw [hw1]; exact bchain (belowA _ _) (belowA _ _)
  obtain ⟨X, hX⟩ : ∃ X, X = w.heap.size := ⟨_, rfl⟩
  have s1 : w1.heap.size = X + 2 := by rw [hw1, hX]; simp
  have x1 : Six w1 X (.int .i64 t.kind) (.int .i64 t.n) (.string t.name) (.slice ra t.r.length rc) (.slice ka t.kids.length kc) (.slice sa t.sys.length sc) := ⟨by rw [hX, hw1]; exact (Below.heap_alloc _ _ _ (by simp)).trans (heapNew w _)⟩
  have x2 : Six w1 (X + 1) (.int .i64 0) (.int .i64 0) (.string ⟨#[]⟩) (.slice none 0 0) (.slice none 0 0) (.slice none 0 0) := ⟨by
    rw [hX, hw1]; have := heapNew (w.alloc (.cells #[.int .i64 t.kind, .int .i64 t.n, .string t.name, .slice ra t.r.length rc, .slice ka t.kids.length kc, .slice sa t.sys.length sc] 26)) (.cells #[.int .i64 0, .int .i64 0, .string ⟨#[]⟩, .slice none 0 0, .slice none 0 0, .slice none 0 0] 26); rwa [World.size_alloc] at this⟩
  have HC : Hid (∀ W, Below w1.heap.size w1 W → Six W X (.int .i64 t.kind) (.int .i64 t.n) (.string t.name) (.slice ra t.r.length rc) (.slice ka t.kids.length kc) (.slice sa t.sys.length sc)) := fun W q => x1.blw q
  have HZ : Hid (∀ W, Below w1.heap.size w1 W → Six W (X + 1) (.int .i64 0) (.int .i64 0) (.string ⟨#[]⟩) (.slice none 0 0) (.slice none 0 0) (.slice none 0 0)) := fun W q => x2.blw q
  have HT : Hid (∀ W, Below w1.heap.size w1 W → TmIn Tt W t (.agg #[.int .i64 t.kind, .int .i64 t.n, .string t.name, .slice ra t.r.length rc, .slice ka t.kids.length kc, .slice sa t.sys.length sc])) := fun W q => ((ht.blw b1).blw q).value
  have HB : Hid (∀ W, Below w1.heap.size w1 W → Below X w W) := fun W q => by rw [hX]; exact bchain b1 q
  have HXs : Hid (X = w.heap.size) := hX
  have Hs1 : Hid (w1.heap.size = X + 2) := s1
  have HW : Hid (_ = _) := hw1
  have cw := lwrong_any t _ w1 (HT.out w1 (Below.refl _ _)) hb fr by_
  have HE : Hid (dimsE fr by_ t = apE (wrL fr by_ t) ⟨0, 0, fr, by_⟩ t ∧ dimsT fr by_ t = apT (wrL fr by_ t) ⟨0, 0, fr, by_⟩ t) := ⟨rfl, rfl⟩
  have HOk : Hid (wrL fr by_ t = 0 → (Sf.mk 0 0 fr by_).ok ∧ Fm t) := fun h => by
    unfold wrL at h
    split at h
    · rename_i h1
      split at h
      · cases h
      · rename_i h2
        exact ⟨by unfold I64 at hfr; refine ⟨?_, ?_, ?_, ?_, ?_, ?_, ?_, ?_⟩ <;> dsimp only <;> omega, fm_of_wrong h1⟩
    · omega
  obtain ⟨e0, he0⟩ : ∃ e, e = wrL fr by_ t := ⟨_, rfl⟩
  rw [← he0] at cw HE HOk
  rw [HE.out.1, HE.out.2]
  clear he0
  have HA : Hid (apE e0 ⟨0, 0, fr, by_⟩ t = (if e0 = 0 then erT ⟨0, 0, fr, by_⟩ t 0 0 else e0) ∧ apT e0 ⟨0, 0, fr, by_⟩ t = (if e0 = 0 then ansL ⟨0, 0, fr, by_⟩ t else zeroT)) := ⟨rfl, rfl⟩
  rw [← hX]
  clear hw1 hX s1 x1 x2 hv ht b1
  go_enter Tryz.func124, Tryz.ntmps124
  go_upto_region 1 with fail
  rw [← HW.out]
  simp only [← HXs.out]
  clear HW
  obtain ⟨y0, y1, y2, y3, y4, y5, _⟩ := (HC.out w1 (Below.refl _ _)).cells
  go_wp2_with fail
  refine cw.mono ?_
  rintro e w2 ⟨rfl, b2⟩
  clear cw y0 y1 y2 y3 y4 y5
  by_cases hz : e0 = 0
  · subst hz
    obtain ⟨hok, hfm⟩ := HOk.out rfl
    have ct := lterm_any (hLA _ hok) t _ w2 (HT.out w2 b2) hfm (by omega)
    obtain ⟨y0, y1, y2, y3, y4, y5, _⟩ := (HC.out w2 b2).cells
    obtain ⟨er, her⟩ : ∃ e, e = erT ⟨0, 0, fr, by_⟩ t 0 0 := ⟨_, rfl⟩
    obtain ⟨T, hT⟩ : ∃ T, T = ansL ⟨0, 0, fr, by_⟩ t := ⟨_, rfl⟩
    rw [← her, ← hT] at ct
    dsimp only at ct
    have Hf : Hid (apE 0 ⟨0, 0, fr, by_⟩ t = er ∧ apT 0 ⟨0, 0, fr, by_⟩ t = T) := ⟨by rw [HA.out.1, if_pos rfl, her], by rw [HA.out.2, if_pos rfl, hT]⟩
    clear her hT HA HE HOk hok hfm hLA
    go_wp2_with fail
    refine ct.mono ?_
    rintro e w3 ⟨v3, rfl, hv3, b3⟩
    clear ct y0 y1 y2 y3 y4 y5
    obtain ⟨ra2, rc2, ka2, kc2, sa2, sc2, rfl, ht2⟩ := hv3.form
    have htv := ht2.value
    have hsz := Hs1.out
    have hs2 := b2.size
    have b23 := bchain b2 b3
    clear ht2 hv3
    have zz := HZ.out w3 b23
    have zz2 := zz.set6 (.int .i64 T.kind) (.int .i64 T.n) (.string T.name) (.slice ra2 T.r.length rc2) (.slice ka2 T.kids.length kc2) (.slice sa2 T.sys.length sc2)
    obtain ⟨o0, o1, o2, o3, o4, o5, ff⟩ := zz.cells
    have f0 := ff 0
    have f1 := ff 1
    have f2 := ff 2
    have f3 := ff 3
    have f4 := ff 4
    have f5 := ff 5
    obtain ⟨h0, h1, h2, h3, h4, h5, _⟩ := zz2.cells
    obtain ⟨wz, hwz⟩ : ∃ W, W = (((((w3.setCell ⟨X + 1, 0, none⟩ (.int .i64 T.kind)).setCell ⟨X + 1, 1, none⟩ (.int .i64 T.n)).setCell ⟨X + 1, 2, none⟩ (.string T.name)).setCell ⟨X + 1, 3, none⟩ (.slice ra2 T.r.length rc2)).setCell ⟨X + 1, 4, none⟩ (.slice ka2 T.kids.length kc2)).setCell ⟨X + 1, 5, none⟩ (.slice sa2 T.sys.length sc2) := ⟨_, rfl⟩
    rw [← hwz] at h0 h1 h2 h3 h4 h5
    have kz : Kn (fun q => q ≠ X + 1) w3 wz := by rw [hwz]; exact (((((kn_set _ _ _ _).trans (kn_set _ _ _ _)).trans (kn_set _ _ _ _)).trans (kn_set _ _ _ _)).trans (kn_set _ _ _ _)).trans (kn_set _ _ _ _)
    have bz : Below X w wz := (HB.out w3 b23).trans (kz.below (fun q hq => by omega) (by have := (HB.out w3 b23).size; have := HXs.out; omega))
    have HTm : Hid (TmIn (OkN X wz) wz T (.agg #[.int .i64 T.kind, .int .i64 T.n, .string T.name, .slice ra2 T.r.length rc2, .slice ka2 T.kids.length kc2, .slice sa2 T.sys.length sc2])) := htv.keep kz.size (fun q hq => (hq.same (kz.block q (by have := hq.1; omega) hq.lt)).mono (by omega)) (fun q hq hs => kz.block q (by have := hq.1; omega) hs)
    have Hwz : Hid (_ = _) := hwz
    clear hwz ff zz zz2 kz htv
    go_wp2_with fail
    rw [← Hwz.out]
    exact bodyPost_ret (v := .tuple #[.agg #[.int .i64 T.kind, .int .i64 T.n, .string T.name, .slice ra2 T.r.length rc2, .slice ka2 T.kids.length kc2, .slice sa2 T.sys.length sc2], .int .i64 (er)]) (by simp only [results, Tryz.results124]; simp [go_sem, h0, h1, h2, h3, h4, h5]) rfl ⟨_, by rw [Hf.out.1], by rw [Hf.out.2]; exact HTm.out, bz⟩
  · have Hf : Hid (apE e0 ⟨0, 0, fr, by_⟩ t = e0 ∧ apT e0 ⟨0, 0, fr, by_⟩ t = zeroT) := ⟨by rw [HA.out.1, if_neg hz], by rw [HA.out.2, if_neg hz]⟩
    have hz1 : (e0 == 0) = false := by simpa using hz
    have hsz := Hs1.out
    clear HA HE HOk hLA
    have zz := HZ.out w2 b2
    have zz2 := zz.set6 (.int .i64 0) (.int .i64 0) (.string ⟨#[]⟩) (.slice none 0 0) (.slice none 0 0) (.slice none 0 0)
    obtain ⟨o0, o1, o2, o3, o4, o5, ff⟩ := zz.cells
    have f0 := ff 0
    have f1 := ff 1
    have f2 := ff 2
    have f3 := ff 3
    have f4 := ff 4
    have f5 := ff 5
    obtain ⟨h0, h1, h2, h3, h4, h5, _⟩ := zz2.cells
    obtain ⟨wz, hwz⟩ : ∃ W, W = (((((w2.setCell ⟨X + 1, 0, none⟩ (.int .i64 0)).setCell ⟨X + 1, 1, none⟩ (.int .i64 0)).setCell ⟨X + 1, 2, none⟩ (.string ⟨#[]⟩)).setCell ⟨X + 1, 3, none⟩ (.slice none 0 0)).setCell ⟨X + 1, 4, none⟩ (.slice none 0 0)).setCell ⟨X + 1, 5, none⟩ (.slice none 0 0) := ⟨_, rfl⟩
    rw [← hwz] at h0 h1 h2 h3 h4 h5
    have kz : Kn (fun q => q ≠ X + 1) w2 wz := by rw [hwz]; exact (((((kn_set _ _ _ _).trans (kn_set _ _ _ _)).trans (kn_set _ _ _ _)).trans (kn_set _ _ _ _)).trans (kn_set _ _ _ _)).trans (kn_set _ _ _ _)
    have bz : Below X w wz := (HB.out w2 b2).trans (kz.below (fun q hq => by omega) (by have := (HB.out w2 b2).size; have := HXs.out; omega))
    have Hwz : Hid (_ = _) := hwz
    clear hwz ff zz zz2 kz
    go_wp2_with fail
    rw [← Hwz.out]
    exact bodyPost_ret (v := .tuple #[.agg #[.int .i64 0, .int .i64 0, .string ⟨#[]⟩, .slice none 0 0, .slice none 0 0, .slice none 0 0], .int .i64 (e0)]) (by simp only [results, Tryz.results124]; simp [go_sem, h0, h1, h2, h3, h4, h5]) rfl ⟨_, by rw [Hf.out.1], by rw [Hf.out.2]; exact zeroT_in _ _, bz⟩
end Go.Proofs.YtocfamcclfhkcaaGreat
