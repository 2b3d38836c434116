/- What may be may be in more, and in no fewer than it uses. Lifts: what is kept of a term. Lifts: a whole term; what gives up is caught. Vars, Dims, Both. Lifts add up. What is lifted is formed. What was lifted from a place on by 1 does not use that, and may be in one more. What was lifted in its dimensions from a place on by 1. A row that was lifted by 1 from a dimension on, and the dimension dropped again: the row itself. Where a clause is so: the faces of a term's branches are those that Restrict tells. Where a clause is so once more: nothing is refused, it may be as before, none of the clause's dimensions is left, and once more changes nothing. Formulas in the places of dimensions: Take. A dimension's own formula in its place, and what was lifted with the dimension taken out again: terms. -/
import Derived.Test.YtjimednocmdpnaaGreatYRight
import Derived.Test.YtjimednocmdpnaaGreatYLfM
import Derived.Defers
import Derived.Recover
import Derived.RegionTactic
import Derived.Test.YtjimednocmdpnaaGreatYLfC
import Derived.Test.YtjimednocmdpnaaGreatYDmD
import Derived.Test.YtjimednocmdpnaaGreatYDmV
import Derived.Deep.DeepCutAuto
import Derived.Test.YtjimednocmdpnaaGreatYDmF
namespace Go.Proofs.YtjimednocmdpnaaGreat
open Go.RowKit
set_option linter.unusedVariables false
set_option linter.unusedSimpArgs false

/-! ### of the whole -/
end Go.Proofs.YtjimednocmdpnaaGreat

namespace Go.Proofs.YtjimednocmdpnaaGreat
open Go.RowKit
set_option linter.unusedVariables false
set_option linter.unusedSimpArgs false

theorem rowP_nil1 (s : Sf) (bd : Nat) : (rowP s bd []).1 = [] := by
  unfold rowP
  split
  · rfl
  · have e1 : rightF [] = true := by decide
    have e2 : leastF [] = ([], 0) := by decide
    simp [liftFF, liftS, e1, e2]
/-! ### how great it is -/
theorem keepAll_len (l : List C) : (lstN l).length ≤ l.length := by
  have h1 : ∀ (c : C) (l : List C), (insC c l).length ≤ l.length + 1 := by
    intro c l
    induction l with
    | nil => simp [insC]
    | cons d l ih =>
      unfold insC
      split
      · simp
      · split
        · simp
        · simp; omega
  have h2 : ∀ l : List C, (ordC l).length ≤ l.length := by
    intro l
    induction l with
    | nil => simp [ordC]
    | cons c l ih => have := h1 c (ordC l); show (insC c (ordC l)).length ≤ _; simp; omega
  have h3 : ∀ l : List C, (keepAll l).length ≤ l.length := fun l => by
    have : ∀ (l a : List C), (l.foldl keep a).length ≤ a.length + l.length := by
      intro l
      induction l with
      | nil => intro a; simp
      | cons c l ih =>
        intro a
        have h1 := ih (keep a c)
        have h2 : (keep a c).length ≤ a.length + 1 := by unfold keep; split <;> simp
        show ((l.foldl keep (keep a c))).length ≤ _
        simp only [List.length_cons]
        omega
    have := this l []
    unfold keepAll
    simpa using this
  exact Nat.le_trans (h3 _) (h2 l)
theorem leastF_le (l : List C) : (leastF l).1.length ≤ l.length := by
  unfold leastF
  split
  · split
    · exact keepAll_len l
    · simp
  · simp
theorem rowP_len (s : Sf) (bd : Nat) (r : List C) : (rowP s bd r).1.length ≤ r.length := by
  unfold rowP
  split
  · exact Nat.le_refl _
  · unfold liftFF
    split
    · split
      · exact Nat.le_trans (leastF_le _) (liftS_len r _ _)
      · simp
    · simp
theorem sum_zip {f : Tm → Nat} : ∀ (l : List Tm) (g : Tm × Nat → Tm) (i : Nat), (∀ p ∈ l.zipIdx i, f (g p) ≤ f p.1) → ((l.zipIdx i).map fun p => f (g p)).sum ≤ (l.map f).sum
  | [], g, i, h => by simp
  | x :: l, g, i, h => by
    have h1 := h (x, i) (by simp)
    have h2 := sum_zip l g (i + 1) (fun p hp => h p (by simp [hp]))
    simp only [List.zipIdx_cons, List.map_cons, List.sum_cons]
    have h1 : f (g (x, i)) ≤ f x := h1
    omega
theorem blk_li {s : Sf} : ∀ (n : Nat) (t : Tm) (bv bd : Nat), blk t ≤ n → blk (liT s t bv bd) ≤ blk t
  | 0, t, bv, bd, hn => by have := blk_pos t; omega
  | n + 1, t, bv, bd, hn => by
    have e := blk_eq (liT s t bv bd)
    rw [li_eq] at e
    rw [li_eq, e, blk_eq t]
    have h1 := rowP_len s bd t.r
    have h2 : blkL (liK s t.kind t.kids bv bd) ≤ blkL t.kids := by
      unfold blkL liK
      rw [List.map_map]
      refine sum_zip t.kids (fun p => liT s p.1 (bv + bvK t.kind p.2) (bd + bdK t.kind p.2)) 0 (fun p hp => ?_)
      have hm := List.mem_of_getElem? (List.mem_zipIdx_iff_getElem?.1 hp)
      exact blk_li n p.1 _ _ (by have := blk_kid hm; omega)
    have h3 : blkS (t.sys.map fun b => liB s t.kind b bv bd) ≤ blkS t.sys := by
      unfold blkS
      rw [List.map_map]
      refine sumN_le fun b hb => ?_
      have h4 := rowP_len s bd b.1
      have h5 : blkL (b.2.map fun x => liT s x bv (bd + moreK t.kind)) ≤ blkL b.2 := by
        unfold blkL
        rw [List.map_map]
        exact sumN_le fun x hx => blk_li n x _ _ (by have := blk_sub hb hx; omega)
      show 1 + (rowP s bd b.1).1.length + blkL (b.2.map fun x => liT s x bv (bd + moreK t.kind)) ≤ _
      omega
    dsimp only at *
    omega
end Go.Proofs.YtjimednocmdpnaaGreat

namespace Go.Proofs.YtjimednocmdpnaaGreat
open Go.RowKit
set_option linter.unusedVariables false
set_option linter.unusedSimpArgs false

theorem assert_errno (v : Value) (w : World) : (Instr.typeAssert (.iface 29 v) 20 29 false).run Tryz.prog w = .ok v w := by
  simp [Instr.typeAssert, run_underlying Tryz.underlying29]
set_option maxRecDepth 100000 in
set_option maxHeartbeats 1000000 in
theorem lcatch_panicking (q : Nat) (a x : Int) (older : List PanicEntry) (w : World) (hq : q < w.heap.size) (c0 : w.cell? ⟨q, 0, none⟩ = some (.int .i64 a)) (z0 : w.frozen? ⟨q, 0, none⟩ = false) :
    CallsD Tryz.prog 52 #[.pointer (some ⟨q, 0, none⟩)] (.panicking ({ v := .iface 29 (.int .i64 x), recovered := false } :: older)) w fun e u' w' =>
      e = .returned (.tuple #[]) ∧ u' = .panicking ({ v := .iface 29 (.int .i64 x), recovered := true } :: older) ∧ w' = w.setCell ⟨q, 0, none⟩ (.int .i64 x) := by
  refine callsD_of_wpS Tryz.func52 rfl fun c₀ cs hu => ?_
  apply wpS_seq
  apply wpS_region
  simp [wpOpsS, go_sem, recoverD, hu, Tryz.ntmps52, Exit.thenS]
  refine wpS_of_wp ?_
  change Code.wp Tryz.prog _ _ { tmps := #[.pointer (some ⟨q, 0, none⟩), .iface 29 (.int .i64 x), .iface 29 (.int .i64 x), undef, undef, undef, undef], defers := [] } w
  have hta := fun w => assert_errno (.int .i64 x) w
  go_wp2_with fail
  simp +zetaDelta [bodyPostS, results, Tryz.results52]
theorem lcatch_idle (q : Nat) (w : World) :
    CallsD Tryz.prog 52 #[.pointer (some ⟨q, 0, none⟩)] .returning w fun e u' w' => e = .returned (.tuple #[]) ∧ u' = .returning ∧ w' = w := by
  refine callsD_of_wpS Tryz.func52 rfl fun c₀ cs hu => ?_
  apply wpS_seq
  apply wpS_region
  simp [wpOpsS, go_sem, recoverD, hu, Tryz.ntmps52, Exit.thenS]
  refine wpS_of_wp ?_
  change Code.wp Tryz.prog _ _ { tmps := #[.pointer (some ⟨q, 0, none⟩), .nilIface, .nilIface, undef, undef, undef, undef], defers := [] } w
  go_wp2_with fail
  cases c₀
  simp_all +zetaDelta [bodyPostS, results, Tryz.results52]
/-- The term that is told with a refusal. -/
def zeroT : Tm := .mk 0 0 ⟨#[]⟩ [] [] []
theorem zeroT_in (ok : Nat → Prop) (w : World) : TmIn ok w zeroT (.agg #[.int .i64 0, .int .i64 0, .string ⟨#[]⟩, .slice none 0 0, .slice none 0 0, .slice none 0 0]) :=
  TmIn.mk 0 0 ⟨#[]⟩ [] [] [] _ _ _ (by unfold I64; omega) (by unfold I64; omega) (cl_nil _ _) (kt_nil _ _ _) (sy_nil _ _ _)
/-- What a lift tells of a whole term. -/
def ansL (s : Sf) (t : Tm) : Tm := if erT s t 0 0 = 0 then liT s t 0 0 else zeroT
set_option maxRecDepth 100000 in
set_option maxHeartbeats 4000000 in
theorem lterm_any {s : Sf} (hL : ∀ N, LfC s N) (t : Tm) (v : Value) (w : World) (hv : TmIn Tt w t v) (hf : Fm t) (hb : blk t ≤ 40000) :
    Calls Tryz.prog 26 #[.agg #[.int .i64 s.vf, .int .i64 s.vb, .int .i64 s.df, .int .i64 s.db], v] w fun e w' => ∃ v', e = .returned (.tuple #[v', .int .i64 (erT s t 0 0)]) ∧ TmIn (OkN w.heap.size w') w' (ansL s t) v' ∧ Below w.heap.size w w' := by
  obtain ⟨ra, rc, ka, kc, sa, sc, rfl, ht⟩ := hv.form
  obtain ⟨wa, hwa⟩ : ∃ W, W = ((w.alloc (.cells #[.int .i64 s.vf, .int .i64 s.vb, .int .i64 s.df, .int .i64 s.db] 62)).alloc (.cells #[.int .i64 t.kind, .int .i64 t.n, .string t.name, .slice ra t.r.length rc, .slice ka t.kids.length kc, .slice sa t.sys.length sc] 26)) := ⟨_, rfl⟩
  have sa' : wa.heap.size = w.heap.size + 2 := by rw [hwa]; simp
  have ba : Below w.heap.size w wa := by rw [hwa]; exact bchain (belowA _ _) (belowA _ _)
  obtain ⟨wb, hwb⟩ : ∃ W, W = (wa.alloc (.cells #[.int .i64 0, .int .i64 0, .string ⟨#[]⟩, .slice none 0 0, .slice none 0 0, .slice none 0 0] 26)).alloc (.cells #[.int .i64 0] 29) := ⟨_, rfl⟩
  have sb' : wb.heap.size = w.heap.size + 4 := by rw [hwb]; simp; omega
  have bb : Below wa.heap.size wa wb := by rw [hwb]; exact bchain (belowA _ _) (belowA _ _)
  obtain ⟨X, hX⟩ : ∃ X, X = w.heap.size := ⟨_, rfl⟩
  obtain ⟨w2, hw2⟩ : ∃ W, W = wb.alloc (.cells #[.func (.func 53) #[] #[.pointer (some ⟨X, 0, none⟩), .pointer (some ⟨X + 4, 0, none⟩)]] 88) := ⟨_, rfl⟩
  have b2 : Below wb.heap.size wb w2 := by rw [hw2]; exact belowA _ _
  have s2 : w2.heap.size = X + 5 := by rw [hw2]; simp; omega
  have bw2 := bchain (bchain ba bb) b2
  have ma : wa.heap[X]? = some (.cells #[.int .i64 s.vf, .int .i64 s.vb, .int .i64 s.df, .int .i64 s.db] 62 (0, 0)) := by rw [hwa, hX]; exact (Below.heap_alloc _ _ _ (by simp)).trans (heapNew w _)
  have mt : wa.heap[X + 1]? = some (.cells #[.int .i64 t.kind, .int .i64 t.n, .string t.name, .slice ra t.r.length rc, .slice ka t.kids.length kc, .slice sa t.sys.length sc] 26 (0, 0)) := by
    rw [hwa, hX]; have := heapNew (w.alloc (.cells #[.int .i64 s.vf, .int .i64 s.vb, .int .i64 s.df, .int .i64 s.db] 62)) (.cells #[.int .i64 t.kind, .int .i64 t.n, .string t.name, .slice ra t.r.length rc, .slice ka t.kids.length kc, .slice sa t.sys.length sc] 26); rwa [World.size_alloc] at this
  have mr : Six wb (X + 2) (.int .i64 0) (.int .i64 0) (.string ⟨#[]⟩) (.slice none 0 0) (.slice none 0 0) (.slice none 0 0) := ⟨by
    rw [hwb]; refine (Below.heap_alloc _ _ _ (by simp; omega)).trans ?_
    have := heapNew wa (.cells #[.int .i64 0, .int .i64 0, .string ⟨#[]⟩, .slice none 0 0, .slice none 0 0, .slice none 0 0] 26); rwa [sa', ← hX] at this⟩
  have me : wb.heap[X + 3]? = some (.cells #[.int .i64 0] 29 (0, 0)) := by
    rw [hwb]; have := heapNew (wa.alloc (.cells #[.int .i64 0, .int .i64 0, .string ⟨#[]⟩, .slice none 0 0, .slice none 0 0, .slice none 0 0] 26)) (.cells #[.int .i64 0] 29); rwa [World.size_alloc, sa', ← hX] at this
  have mf : w2.heap[X + 4]? = some (.cells #[.func (.func 53) #[] #[.pointer (some ⟨X, 0, none⟩), .pointer (some ⟨X + 4, 0, none⟩)]] 88 (0, 0)) := by
    rw [hw2]; have := heapNew wb (.cells #[.func (.func 53) #[] #[.pointer (some ⟨X, 0, none⟩), .pointer (some ⟨X + 4, 0, none⟩)]] 88); rwa [sb', ← hX] at this
  have bab := bchain bb b2
  have hE : LEnv w2 s X (X + 4) := ⟨(bab.block X (by omega)).trans ma, mf⟩
  have h6 : Cs6 w2 (X + 1) 0 t ra rc ka kc sa sc := cs6_of ((bab.block (X + 1) (by omega)).trans mt)
  have cc : Calls Tryz.prog 53 #[.pointer (some ⟨X + 1, 0, none⟩), .agg #[.int .i64 0, .int .i64 0], .pointer (some ⟨X, 0, none⟩), .pointer (some ⟨X + 4, 0, none⟩)] w2 fun e w' => LOut (erT s t 0 0) (TmIn (OkN w2.heap.size w') w' (liT s t 0 0)) e ∧ Below w2.heap.size w2 w' :=
    hL _ t 0 0 (X + 1) 0 X (X + 4) ra rc ka kc sa sc w2 hE h6 (ht.blw bw2) hf (Nat.le_refl _) (by omega) (by omega) hb
  have HZ2 : Hid (∀ W, Below w2.heap.size w2 W → Six W (X + 2) (.int .i64 0) (.int .i64 0) (.string ⟨#[]⟩) (.slice none 0 0) (.slice none 0 0) (.slice none 0 0) ∧ W.heap[X + 3]? = some (.cells #[.int .i64 0] 29 (0, 0))) := fun W q => by
    have q2 := bchain b2 q
    exact ⟨mr.blw q2, (q2.block (X + 3) (by omega)).trans me⟩
  have HB : Hid (∀ W, Below w2.heap.size w2 W → Below X w W) := fun W q => by rw [hX]; exact bchain bw2 q
  have HA : Hid (ansL s t = if erT s t 0 0 = 0 then liT s t 0 0 else zeroT) := (rfl : _ = _)
  obtain ⟨er, her⟩ : ∃ e, e = erT s t 0 0 := ⟨_, rfl⟩
  obtain ⟨T, hT⟩ : ∃ T, T = liT s t 0 0 := ⟨_, rfl⟩
  rw [← her, ← hT] at cc HA
  rw [← her, ← hX]
  have cf := hE.fn
  have hmk := mkfn
  have eg := lf_eg
  have HW : Hid (w2 = ((((w.alloc (.cells #[.int .i64 s.vf, .int .i64 s.vb, .int .i64 s.df, .int .i64 s.db] 62)).alloc (.cells #[.int .i64 t.kind, .int .i64 t.n, .string t.name, .slice ra t.r.length rc, .slice ka t.kids.length kc, .slice sa t.sys.length sc] 26)).alloc (.cells #[.int .i64 0, .int .i64 0, .string ⟨#[]⟩, .slice none 0 0, .slice none 0 0, .slice none 0 0] 26)).alloc (.cells #[.int .i64 0] 29)).alloc (.cells #[.func (.func 53) #[] #[.pointer (some ⟨w.heap.size, 0, none⟩), .pointer (some ⟨w.heap.size + 4, 0, none⟩)]] 88)) := (by rw [hw2, hwb, hwa, hX] : _ = _)
  have HX : Hid (X = w.heap.size) := hX
  have Hs2 : Hid (w2.heap.size = X + 5) := s2
  clear hwa hwb hw2 ba bb b2 bw2 sa' sb' ma mt mr me mf bab hE h6 ht hv hf her hT hX s2 hL hb
  go_enter_defers Tryz.func26, Tryz.ntmps26
  go_upto_region 4 with fail
  rw [← HW.out]
  simp only [← HX.out]
  clear HW
  go_wp2_with fail
  refine cc.mono ?_
  rintro e w3 ⟨⟨h0, v3, rfl, hv3⟩ | ⟨hne, rfl⟩, hb3⟩
  · clear cc cf
    obtain ⟨ra2, rc2, ka2, kc2, sa2, sc2, rfl, ht2⟩ := hv3.form
    obtain ⟨z3, e3⟩ := HZ2.out w3 hb3
    have hs2 := Hs2.out
    have hs3 := hb3.size
    obtain ⟨w4, hw4⟩ : ∃ W, W = (((((w3.setCell ⟨X + 2, 0, none⟩ (.int .i64 T.kind)).setCell ⟨X + 2, 1, none⟩ (.int .i64 T.n)).setCell ⟨X + 2, 2, none⟩ (.string T.name)).setCell ⟨X + 2, 3, none⟩ (.slice ra2 T.r.length rc2)).setCell ⟨X + 2, 4, none⟩ (.slice ka2 T.kids.length kc2)).setCell ⟨X + 2, 5, none⟩ (.slice sa2 T.sys.length sc2) := ⟨_, rfl⟩
    have k4 : Kn (fun q => q ≠ X + 2) w3 w4 := by rw [hw4]; exact (((((kn_set _ _ _ _).trans (kn_set _ _ _ _)).trans (kn_set _ _ _ _)).trans (kn_set _ _ _ _)).trans (kn_set _ _ _ _)).trans (kn_set _ _ _ _)
    have z4 := z3.set6 (.int .i64 T.kind) (.int .i64 T.n) (.string T.name) (.slice ra2 T.r.length rc2) (.slice ka2 T.kids.length kc2) (.slice sa2 T.sys.length sc2)
    rw [← hw4] at z4
    have e4 := (k4.block (X + 3) (by omega) (by omega)).trans e3
    have c40 : w4.cell? ⟨X + 3, 0, none⟩ = some (.int .i64 0) := by simp [World.cell?, e4]
    have c4f : w4.frozen? ⟨X + 3, 0, none⟩ = false := by simp [World.frozen?, e4]
    obtain ⟨w5, hw5⟩ : ∃ W, W = w4.setCell ⟨X + 3, 0, none⟩ (.int .i64 0) := ⟨_, rfl⟩
    have k5 : Kn (fun q => q ≠ X + 3) w4 w5 := by rw [hw5]; exact kn_set _ _ _ _
    have z5 := z4.kn k5 (by omega)
    have c5 : w5.cell? ⟨X + 3, 0, none⟩ = some (.int .i64 0) := by rw [hw5]; exact World.cell?_setCell_same' _ _ _ (by rw [c40]; rfl)
    have HTm : Hid (TmIn (OkN X w5) w5 T (.agg #[.int .i64 T.kind, .int .i64 T.n, .string T.name, .slice ra2 T.r.length rc2, .slice ka2 T.kids.length kc2, .slice sa2 T.sys.length sc2])) := by
      have hA : ∀ q, OkN w2.heap.size w3 q → w5.heap[q]? = w3.heap[q]? := fun q hq => (k5.block q (by have := hq.1; omega) (by have := hq.lt; have := k4.size; omega)).trans (k4.block q (by have := hq.1; omega) hq.lt)
      exact ht2.value.keep (Nat.le_trans k4.size k5.size) (fun q hq => (hq.same (hA q hq)).mono (by omega)) (fun q hq _ => hA q hq)
    have b5 : Below X w w5 := ((HB.out w3 hb3).trans (k4.below (fun q hq => by omega) (by omega))).trans (k5.below (fun q hq => by omega) (by have := k4.size; omega))
    obtain ⟨o0, o1, o2, o3, o4, o5, ff⟩ := z3.cells
    have f0 := ff 0
    have f1 := ff 1
    have f2 := ff 2
    have f3 := ff 3
    have f4 := ff 4
    have f5 := ff 5
    obtain ⟨d0, d1, d2, d3, d4, d5, _⟩ := z5.cells
    have H4 : Hid (_ = _) := hw4
    have H5 : Hid (_ = _) := hw5
    have Hc4 : Hid (_ ∧ _) := (⟨c40, c4f⟩ : w4.cell? ⟨X + 3, 0, none⟩ = some (.int .i64 0) ∧ w4.frozen? ⟨X + 3, 0, none⟩ = false)
    have p40 : (((((((w3.setCell ⟨X + 2, 0, none⟩ (.int .i64 T.kind)).setCell ⟨X + 2, 1, none⟩ (.int .i64 T.n)).setCell ⟨X + 2, 2, none⟩ (.string T.name)).setCell ⟨X + 2, 3, none⟩ (.slice ra2 T.r.length rc2)).setCell ⟨X + 2, 4, none⟩ (.slice ka2 T.kids.length kc2)).setCell ⟨X + 2, 5, none⟩ (.slice sa2 T.sys.length sc2)).cell? ⟨X + 3, 0, none⟩ = some (.int .i64 0)) := by rw [← hw4]; exact c40
    have p4f : (((((((w3.setCell ⟨X + 2, 0, none⟩ (.int .i64 T.kind)).setCell ⟨X + 2, 1, none⟩ (.int .i64 T.n)).setCell ⟨X + 2, 2, none⟩ (.string T.name)).setCell ⟨X + 2, 3, none⟩ (.slice ra2 T.r.length rc2)).setCell ⟨X + 2, 4, none⟩ (.slice ka2 T.kids.length kc2)).setCell ⟨X + 2, 5, none⟩ (.slice sa2 T.sys.length sc2)).frozen? ⟨X + 3, 0, none⟩ = false) := by rw [← hw4]; exact c4f
    clear hw4 hw5 z3 z4 z5 k4 k5 ff e3 e4 ht2 hv3 c40 c4f hs2 hs3
    go_wp2_with fail
    rw [← H4.out, ← H5.out]
    refine leaves_cons (f := 52) (args := #[.pointer (some ⟨X + 3, 0, none⟩)]) (by simp) (by simp [go_sem]) ?_
    refine (lcatch_idle _ _).mono ?_
    rintro e u' w'' ⟨rfl, rfl, rfl⟩
    refine ⟨.tuple #[.agg #[.int .i64 T.kind, .int .i64 T.n, .string T.name, .slice ra2 T.r.length rc2, .slice ka2 T.kids.length kc2, .slice sa2 T.sys.length sc2], .int .i64 0], by simp only [results, Tryz.results26]; simp [go_sem, d0, d1, d2, d3, d4, d5, c5], _, by rw [h0], by rw [HA.out, if_pos h0]; exact HTm.out, b5⟩
  · clear cc cf
    obtain ⟨z3, e3⟩ := HZ2.out w3 hb3
    have hs2 := Hs2.out
    have hs3 := hb3.size
    have c30 : w3.cell? ⟨X + 3, 0, none⟩ = some (.int .i64 0) := by simp [World.cell?, e3]
    have c3f : w3.frozen? ⟨X + 3, 0, none⟩ = false := by simp [World.frozen?, e3]
    refine leaves_cons (f := 52) (args := #[.pointer (some ⟨X + 3, 0, none⟩)]) (by simp) (by simp [go_sem]) ?_
    refine (lcatch_panicking (X + 3) 0 er [] w3 (by omega) c30 c3f).mono ?_
    rintro e u' w5 ⟨rfl, rfl, hw5⟩
    have k5 : Kn (fun q => q ≠ X + 3) w3 w5 := by rw [hw5]; exact kn_set _ _ _ _
    have z5 := z3.kn k5 (by omega)
    have c5 : w5.cell? ⟨X + 3, 0, none⟩ = some (.int .i64 er) := by rw [hw5]; exact World.cell?_setCell_same' _ _ _ (by rw [c30]; rfl)
    have b5 : Below X w w5 := (HB.out w3 hb3).trans (k5.below (fun q hq => by omega) (by omega))
    obtain ⟨d0, d1, d2, d3, d4, d5, _⟩ := z5.cells
    refine ⟨.tuple #[.agg #[.int .i64 0, .int .i64 0, .string ⟨#[]⟩, .slice none 0 0, .slice none 0 0, .slice none 0 0], .int .i64 er], by simp only [results, Tryz.results26]; simp [go_sem, d0, d1, d2, d3, d4, d5, c5], _, rfl, by rw [HA.out, if_neg hne]; exact zeroT_in _ _, b5⟩
end Go.Proofs.YtjimednocmdpnaaGreat

namespace Go.Proofs.YtjimednocmdpnaaGreat
open Go.RowKit
set_option linter.unusedVariables false
set_option linter.unusedSimpArgs false

/-- A term that may be may be lifted. -/
theorem fm_of_ok {o : Bool} {V : Int} {D : Nat} : ∀ (n : Nat) (t : Tm) (bv bd : Nat), blk t ≤ n → okT o V D t bv bd = true → Fm t
  | 0, t, bv, bd, hn, h => by have := blk_pos t; omega
  | n + 1, t, bv, bd, hn, h => by
    rw [ok_eq, Bool.and_eq_true] at h
    obtain ⟨h1, h2⟩ := h
    rw [List.all_eq_true] at h2
    unfold Tm.node nodeB at h1
    simp only [Bool.and_eq_true] at h1
    obtain ⟨⟨⟨⟨⟨_, _⟩, hnum⟩, _⟩, hrow⟩, _⟩ := h1
    rw [fm_eq]
    refine ⟨?_, fun hk => ?_, fun x hx => ?_, fun b hb x hx => ?_⟩
    · unfold numB at hnum
      split at hnum
      · simp only [Bool.and_eq_true, decide_eq_true_eq] at hnum; exact hnum.1
      · simp only [decide_eq_true_eq] at hnum; omega
    · unfold rowB at hrow
      rw [hk, if_neg (by omega), if_neg (by omega)] at hrow
      exact List.length_eq_zero_iff.1 (by simpa using hrow)
    · obtain ⟨i, hi⟩ := List.mem_iff_getElem?.1 hx
      exact fm_of_ok n x _ _ (by have := blk_kid hx; omega) (h2 _ (pts_kid hi))
    · exact fm_of_ok n x _ _ (by have := blk_sub hb hx; omega) (h2 _ (pts_sys hb hx))
theorem fm_of_wrong {t : Tm} (h : wrongN true 0 0 t = 0) : Fm t := by
  unfold wrongN at h
  split at h
  · cases h
  · split at h
    · rename_i h2; exact fm_of_ok _ t 0 0 (Nat.le_refl _) h2
    · cases h
/-- What is refused ahead of all lifting. -/
def wrL (ot by_ : Int) (t : Tm) : Int := if wrongN true 0 0 t = 0 then (if ot < 0 ∨ by_ < 0 ∨ 1000000 < by_ then 2 else 0) else ((wrongN true 0 0 t : Nat) : Int)
set_option maxRecDepth 100000 in
set_option maxHeartbeats 2000000 in
theorem lwrong_any (t : Tm) (v : Value) (w : World) (hv : TmIn Tt w t v) (hb : blk t ≤ 20000) (ot by_ : Int) : Calls Tryz.prog 25 #[v, .int .i64 ot, .int .i64 by_] w fun e w' => e = .returned (.int .i64 (wrL ot by_ t)) ∧ Below w.heap.size w w' := by
  obtain ⟨ra, rc, ka, kc, sa, sc, rfl, ht⟩ := hv.form
  obtain ⟨w1, hw1⟩ : ∃ W, W = w.alloc (.cells #[.int .i64 t.kind, .int .i64 t.n, .string t.name, .slice ra t.r.length rc, .slice ka t.kids.length kc, .slice sa t.sys.length sc] 26) := ⟨_, rfl⟩
  have b1 : Below w.heap.size w w1 := by rw [hw1]; exact belowA _ _
  obtain ⟨_, y0, y1, y2, y3, y4, y5⟩ : Cs6 w1 w.heap.size 0 t ra rc ka kc sa sc := by rw [hw1]; exact cs6_new w t ra rc ka kc sa sc
  simp only [Nat.zero_add] at y1 y2 y3 y4 y5
  have cc := formed_any t _ w1 (ht.blw b1).value hb
  have HA : Hid (wrL ot by_ t = if wrongN true 0 0 t = 0 then (if ot < 0 ∨ by_ < 0 ∨ 1000000 < by_ then 2 else 0) else ((wrongN true 0 0 t : Nat) : Int)) := (rfl : _ = _)
  obtain ⟨f, hf⟩ : ∃ f, f = wrongN true 0 0 t := ⟨_, rfl⟩
  rw [← hf] at cc HA
  have HW : Hid (_ = _) := hw1
  clear hw1 hf hv ht
  go_enter Tryz.func25, Tryz.ntmps25
  go_upto_region 1 with fail
  rw [← HW.out]
  clear HW
  go_wp2_with fail
  refine cc.mono ?_
  rintro e w2 ⟨rfl, b2⟩
  have b12 := bchain b1 b2
  clear cc y0 y1 y2 y3 y4 y5
  by_cases h0 : f = 0
  · subst h0
    rw [if_pos rfl] at HA
    by_cases h1 : ot < 0
    · have HR : Hid (wrL ot by_ t = 2) := (by rw [HA.out, if_pos (.inl h1)] : _ = _)
      go_wp2_with fail
      go_ret
      exact ⟨by rw [HR.out]; rfl, b12⟩
    · by_cases h2 : by_ < 0
      · have HR : Hid (wrL ot by_ t = 2) := (by rw [HA.out, if_pos (.inr (.inl h2))] : _ = _)
        go_wp2_with fail
        go_ret
        exact ⟨by rw [HR.out]; rfl, b12⟩
      · by_cases h3 : 1000000 < by_
        · have HR : Hid (wrL ot by_ t = 2) := (by rw [HA.out, if_pos (.inr (.inr h3))] : _ = _)
          go_wp2_with fail
          go_ret
          exact ⟨by rw [HR.out]; rfl, b12⟩
        · have HR : Hid (wrL ot by_ t = 0) := (by rw [HA.out, if_neg (by omega)] : _ = _)
          go_wp2_with fail
          go_ret
          exact ⟨by rw [HR.out]; rfl, b12⟩
  · have HR : Hid (wrL ot by_ t = (f : Int)) := (by rw [HA.out, if_neg h0] : _ = _)
    have h01 : ((f : Int) == 0) = false := by simp; omega
    have h02 : ¬ (f : Int) = 0 := by omega
    go_wp2_with fail
    go_ret
    exact ⟨by rw [HR.out]; rfl, b12⟩
/-- What is told, and why not. -/
def apE (e0 : Int) (s : Sf) (t : Tm) : Int := if e0 = 0 then erT s t 0 0 else e0
def apT (e0 : Int) (s : Sf) (t : Tm) : Tm := if e0 = 0 then ansL s t else zeroT
def dimsE (fr by_ : Int) (t : Tm) : Int := apE (wrL fr by_ t) ⟨0, 0, fr, by_⟩ t
def dimsT (fr by_ : Int) (t : Tm) : Tm := apT (wrL fr by_ t) ⟨0, 0, fr, by_⟩ t
def LAll : Prop := ∀ s : Sf, s.ok → ∀ N, LfC s N
set_option maxRecDepth 100000 in
set_option maxHeartbeats 4000000 in
theorem ldims_any (hLA : LAll) (t : Tm) (v : Value) (w : World) (hv : TmIn Tt w t v) (hb : blk t ≤ 20000) (fr by_ : Int) (hfr : I64 fr) :
    Calls Tryz.prog 11 #[v, .int .i64 fr, .int .i64 by_] w fun e w' => ∃ v', e = .returned (.tuple #[v', .int .i64 (dimsE fr by_ t)]) ∧ TmIn (OkN w.heap.size w') w' (dimsT fr by_ t) v' ∧ Below w.heap.size w w' := by
  obtain ⟨ra, rc, ka, kc, sa, sc, rfl, ht⟩ := hv.form
  obtain ⟨w1, hw1⟩ : ∃ W, W = (w.alloc (.cells #[.int .i64 t.kind, .int .i64 t.n, .string t.name, .slice ra t.r.length rc, .slice ka t.kids.length kc, .slice sa t.sys.length sc] 26)).alloc (.cells #[.int .i64 0, .int .i64 0, .string ⟨#[]⟩, .slice none 0 0, .slice none 0 0, .slice none 0 0] 26) := ⟨_, rfl⟩
  have b1 : Below w.heap.size w w1 := by rw [hw1]; exact bchain (belowA _ _) (belowA _ _)
  obtain ⟨X, hX⟩ : ∃ X, X = w.heap.size := ⟨_, rfl⟩
  have s1 : w1.heap.size = X + 2 := by rw [hw1, hX]; simp
  have x1 : Six w1 X (.int .i64 t.kind) (.int .i64 t.n) (.string t.name) (.slice ra t.r.length rc) (.slice ka t.kids.length kc) (.slice sa t.sys.length sc) := ⟨by rw [hX, hw1]; exact (Below.heap_alloc _ _ _ (by simp)).trans (heapNew w _)⟩
  have x2 : Six w1 (X + 1) (.int .i64 0) (.int .i64 0) (.string ⟨#[]⟩) (.slice none 0 0) (.slice none 0 0) (.slice none 0 0) := ⟨by
    rw [hX, hw1]; have := heapNew (w.alloc (.cells #[.int .i64 t.kind, .int .i64 t.n, .string t.name, .slice ra t.r.length rc, .slice ka t.kids.length kc, .slice sa t.sys.length sc] 26)) (.cells #[.int .i64 0, .int .i64 0, .string ⟨#[]⟩, .slice none 0 0, .slice none 0 0, .slice none 0 0] 26); rwa [World.size_alloc] at this⟩
  have HC : Hid (∀ W, Below w1.heap.size w1 W → Six W X (.int .i64 t.kind) (.int .i64 t.n) (.string t.name) (.slice ra t.r.length rc) (.slice ka t.kids.length kc) (.slice sa t.sys.length sc)) := fun W q => x1.blw q
  have HZ : Hid (∀ W, Below w1.heap.size w1 W → Six W (X + 1) (.int .i64 0) (.int .i64 0) (.string ⟨#[]⟩) (.slice none 0 0) (.slice none 0 0) (.slice none 0 0)) := fun W q => x2.blw q
  have HT : Hid (∀ W, Below w1.heap.size w1 W → TmIn Tt W t (.agg #[.int .i64 t.kind, .int .i64 t.n, .string t.name, .slice ra t.r.length rc, .slice ka t.kids.length kc, .slice sa t.sys.length sc])) := fun W q => ((ht.blw b1).blw q).value
  have HB : Hid (∀ W, Below w1.heap.size w1 W → Below X w W) := fun W q => by rw [hX]; exact bchain b1 q
  have HXs : Hid (X = w.heap.size) := hX
  have Hs1 : Hid (w1.heap.size = X + 2) := s1
  have HW : Hid (_ = _) := hw1
  have cw := lwrong_any t _ w1 (HT.out w1 (Below.refl _ _)) hb fr by_
  have HE : Hid (dimsE fr by_ t = apE (wrL fr by_ t) ⟨0, 0, fr, by_⟩ t ∧ dimsT fr by_ t = apT (wrL fr by_ t) ⟨0, 0, fr, by_⟩ t) := ⟨rfl, rfl⟩
  have HOk : Hid (wrL fr by_ t = 0 → (Sf.mk 0 0 fr by_).ok ∧ Fm t) := fun h => by
    unfold wrL at h
    split at h
    · rename_i h1
      split at h
      · cases h
      · rename_i h2
        exact ⟨by unfold I64 at hfr; refine ⟨?_, ?_, ?_, ?_, ?_, ?_, ?_, ?_⟩ <;> dsimp only <;> omega, fm_of_wrong h1⟩
    · omega
  obtain ⟨e0, he0⟩ : ∃ e, e = wrL fr by_ t := ⟨_, rfl⟩
  rw [← he0] at cw HE HOk
  rw [HE.out.1, HE.out.2]
  clear he0
  have HA : Hid (apE e0 ⟨0, 0, fr, by_⟩ t = (if e0 = 0 then erT ⟨0, 0, fr, by_⟩ t 0 0 else e0) ∧ apT e0 ⟨0, 0, fr, by_⟩ t = (if e0 = 0 then ansL ⟨0, 0, fr, by_⟩ t else zeroT)) := ⟨rfl, rfl⟩
  rw [← hX]
  clear hw1 hX s1 x1 x2 hv ht b1
  go_enter Tryz.func11, Tryz.ntmps11
  go_upto_region 1 with fail
  rw [← HW.out]
  simp only [← HXs.out]
  clear HW
  obtain ⟨y0, y1, y2, y3, y4, y5, _⟩ := (HC.out w1 (Below.refl _ _)).cells
  go_wp2_with fail
  refine cw.mono ?_
  rintro e w2 ⟨rfl, b2⟩
  clear cw y0 y1 y2 y3 y4 y5
  by_cases hz : e0 = 0
  · subst hz
    obtain ⟨hok, hfm⟩ := HOk.out rfl
    have ct := lterm_any (hLA _ hok) t _ w2 (HT.out w2 b2) hfm (by omega)
    obtain ⟨y0, y1, y2, y3, y4, y5, _⟩ := (HC.out w2 b2).cells
    obtain ⟨er, her⟩ : ∃ e, e = erT ⟨0, 0, fr, by_⟩ t 0 0 := ⟨_, rfl⟩
    obtain ⟨T, hT⟩ : ∃ T, T = ansL ⟨0, 0, fr, by_⟩ t := ⟨_, rfl⟩
    rw [← her, ← hT] at ct
    dsimp only at ct
    have Hf : Hid (apE 0 ⟨0, 0, fr, by_⟩ t = er ∧ apT 0 ⟨0, 0, fr, by_⟩ t = T) := ⟨by rw [HA.out.1, if_pos rfl, her], by rw [HA.out.2, if_pos rfl, hT]⟩
    clear her hT HA HE HOk hok hfm hLA
    go_wp2_with fail
    refine ct.mono ?_
    rintro e w3 ⟨v3, rfl, hv3, b3⟩
    clear ct y0 y1 y2 y3 y4 y5
    obtain ⟨ra2, rc2, ka2, kc2, sa2, sc2, rfl, ht2⟩ := hv3.form
    have htv := ht2.value
    have hsz := Hs1.out
    have hs2 := b2.size
    have b23 := bchain b2 b3
    clear ht2 hv3
    have zz := HZ.out w3 b23
    have zz2 := zz.set6 (.int .i64 T.kind) (.int .i64 T.n) (.string T.name) (.slice ra2 T.r.length rc2) (.slice ka2 T.kids.length kc2) (.slice sa2 T.sys.length sc2)
    obtain ⟨o0, o1, o2, o3, o4, o5, ff⟩ := zz.cells
    have f0 := ff 0
    have f1 := ff 1
    have f2 := ff 2
    have f3 := ff 3
    have f4 := ff 4
    have f5 := ff 5
    obtain ⟨h0, h1, h2, h3, h4, h5, _⟩ := zz2.cells
    obtain ⟨wz, hwz⟩ : ∃ W, W = (((((w3.setCell ⟨X + 1, 0, none⟩ (.int .i64 T.kind)).setCell ⟨X + 1, 1, none⟩ (.int .i64 T.n)).setCell ⟨X + 1, 2, none⟩ (.string T.name)).setCell ⟨X + 1, 3, none⟩ (.slice ra2 T.r.length rc2)).setCell ⟨X + 1, 4, none⟩ (.slice ka2 T.kids.length kc2)).setCell ⟨X + 1, 5, none⟩ (.slice sa2 T.sys.length sc2) := ⟨_, rfl⟩
    rw [← hwz] at h0 h1 h2 h3 h4 h5
    have kz : Kn (fun q => q ≠ X + 1) w3 wz := by rw [hwz]; exact (((((kn_set _ _ _ _).trans (kn_set _ _ _ _)).trans (kn_set _ _ _ _)).trans (kn_set _ _ _ _)).trans (kn_set _ _ _ _)).trans (kn_set _ _ _ _)
    have bz : Below X w wz := (HB.out w3 b23).trans (kz.below (fun q hq => by omega) (by have := (HB.out w3 b23).size; have := HXs.out; omega))
    have HTm : Hid (TmIn (OkN X wz) wz T (.agg #[.int .i64 T.kind, .int .i64 T.n, .string T.name, .slice ra2 T.r.length rc2, .slice ka2 T.kids.length kc2, .slice sa2 T.sys.length sc2])) := htv.keep kz.size (fun q hq => (hq.same (kz.block q (by have := hq.1; omega) hq.lt)).mono (by omega)) (fun q hq hs => kz.block q (by have := hq.1; omega) hs)
    have Hwz : Hid (_ = _) := hwz
    clear hwz ff zz zz2 kz htv
    go_wp2_with fail
    rw [← Hwz.out]
    exact bodyPost_ret (v := .tuple #[.agg #[.int .i64 T.kind, .int .i64 T.n, .string T.name, .slice ra2 T.r.length rc2, .slice ka2 T.kids.length kc2, .slice sa2 T.sys.length sc2], .int .i64 (er)]) (by simp only [results, Tryz.results11]; simp [go_sem, h0, h1, h2, h3, h4, h5]) rfl ⟨_, by rw [Hf.out.1], by rw [Hf.out.2]; exact HTm.out, bz⟩
  · have Hf : Hid (apE e0 ⟨0, 0, fr, by_⟩ t = e0 ∧ apT e0 ⟨0, 0, fr, by_⟩ t = zeroT) := ⟨by rw [HA.out.1, if_neg hz], by rw [HA.out.2, if_neg hz]⟩
    have hz1 : (e0 == 0) = false := by simpa using hz
    have hsz := Hs1.out
    clear HA HE HOk hLA
    have zz := HZ.out w2 b2
    have zz2 := zz.set6 (.int .i64 0) (.int .i64 0) (.string ⟨#[]⟩) (.slice none 0 0) (.slice none 0 0) (.slice none 0 0)
    obtain ⟨o0, o1, o2, o3, o4, o5, ff⟩ := zz.cells
    have f0 := ff 0
    have f1 := ff 1
    have f2 := ff 2
    have f3 := ff 3
    have f4 := ff 4
    have f5 := ff 5
    obtain ⟨h0, h1, h2, h3, h4, h5, _⟩ := zz2.cells
    obtain ⟨wz, hwz⟩ : ∃ W, W = (((((w2.setCell ⟨X + 1, 0, none⟩ (.int .i64 0)).setCell ⟨X + 1, 1, none⟩ (.int .i64 0)).setCell ⟨X + 1, 2, none⟩ (.string ⟨#[]⟩)).setCell ⟨X + 1, 3, none⟩ (.slice none 0 0)).setCell ⟨X + 1, 4, none⟩ (.slice none 0 0)).setCell ⟨X + 1, 5, none⟩ (.slice none 0 0) := ⟨_, rfl⟩
    rw [← hwz] at h0 h1 h2 h3 h4 h5
    have kz : Kn (fun q => q ≠ X + 1) w2 wz := by rw [hwz]; exact (((((kn_set _ _ _ _).trans (kn_set _ _ _ _)).trans (kn_set _ _ _ _)).trans (kn_set _ _ _ _)).trans (kn_set _ _ _ _)).trans (kn_set _ _ _ _)
    have bz : Below X w wz := (HB.out w2 b2).trans (kz.below (fun q hq => by omega) (by have := (HB.out w2 b2).size; have := HXs.out; omega))
    have Hwz : Hid (_ = _) := hwz
    clear hwz ff zz zz2 kz
    go_wp2_with fail
    rw [← Hwz.out]
    exact bodyPost_ret (v := .tuple #[.agg #[.int .i64 0, .int .i64 0, .string ⟨#[]⟩, .slice none 0 0, .slice none 0 0, .slice none 0 0], .int .i64 (e0)]) (by simp only [results, Tryz.results11]; simp [go_sem, h0, h1, h2, h3, h4, h5]) rfl ⟨_, by rw [Hf.out.1], by rw [Hf.out.2]; exact zeroT_in _ _, bz⟩
end Go.Proofs.YtjimednocmdpnaaGreat

namespace Go.Proofs.YtjimednocmdpnaaGreat
open Go.RowKit
set_option linter.unusedVariables false
set_option linter.unusedSimpArgs false

theorem map_congr_mem {α β : Type} {f g : α → β} {l : List α} (h : ∀ x ∈ l, f x = g x) : l.map f = l.map g := List.map_congr_left h
theorem zip_mem {l : List Tm} {p : Tm × Nat} (h : p ∈ l.zipIdx) : p.1 ∈ l := List.mem_of_getElem? (List.mem_zipIdx_iff_getElem?.1 h)
end Go.Proofs.YtjimednocmdpnaaGreat

namespace Go.Proofs.YtjimednocmdpnaaGreat
open Go.RowKit
set_option linter.unusedVariables false
set_option linter.unusedSimpArgs false

theorem up_inj {fr by_ : Int} (hb : 0 ≤ by_) {a b : Nat} (h : upK fr by_ a = upK fr by_ b) : a = b := by
  rcases Nat.lt_trichotomy a b with h1 | h1 | h1
  · have := upK_lt (from_ := fr) hb h1; omega
  · exact h1
  · have := upK_lt (from_ := fr) hb h1; omega
theorem liftN_bit {s : Nat} {fr by_ : Int} (h : liftE s fr by_ = 0) (k : Nat) : (liftN s fr by_).testBit k = true → ∃ j ∈ dimsOf s, upK fr by_ j = k := by
  intro hk
  cases ha : argB fr by_ with
  | true => rw [(lift_arg ha).1] at hk; simp at hk
  | false =>
    cases hb : liftBad fr by_ (dimsOf s) with
    | true => rw [(lift_bad ha hb).1] at hk; simp at hk
    | false =>
      rw [(lift_ok ha hb).1] at hk
      have : k ∈ (dimsOf s).map (upK fr by_) := by rw [testBit_orAll] at hk; simpa using hk
      obtain ⟨j, hj, e⟩ := List.mem_map.1 this
      exact ⟨j, hj, e⟩
theorem okC_lift {c : C} {fr by_ : Int} (hb : 0 ≤ by_) (h : okC c = true) : okC (liftC c fr by_) = true := by
  unfold okC at *
  rw [Bool.not_eq_true', Bool.eq_false_iff] at *
  intro hc
  apply h
  rw [clashC_iff] at hc ⊢
  obtain ⟨k, hk, h1, h2⟩ := hc
  unfold liftC at h1 h2
  by_cases hr : rightC c = true ∧ liftE c.1.val fr by_ = 0 ∧ liftE c.2.val fr by_ = 0
  · rw [if_pos hr] at h1 h2
    obtain ⟨j1, m1, e1⟩ := liftN_bit hr.2.1 k h1
    obtain ⟨j2, m2, e2⟩ := liftN_bit hr.2.2 k h2
    obtain rfl := up_inj hb (e1.trans e2.symm)
    rw [mem_dimsOf] at m1 m2
    exact ⟨j1, m1.1, m1.2, m2.2⟩
  · rw [if_neg hr] at h1
    simp [cl00] at h1
theorem liftS_mem {fr by_ : Int} : ∀ (l : List C) (c : C), c ∈ (liftS l fr by_).1 → ∃ d ∈ l, c = liftC d fr by_ := by
  intro l
  induction l using snoc_ind with
  | nil => intro c hc; simp [liftS] at hc
  | snoc l d ih =>
    intro c hc
    rw [liftS_snoc] at hc
    unfold stepL at hc
    split at hc
    · split at hc
      · rcases List.mem_append.1 hc with hc | hc
        · obtain ⟨x, hx, e⟩ := ih c hc
          exact ⟨x, by simp [hx], e⟩
        · exact ⟨d, by simp, by simpa using hc⟩
      · simp at hc
    · obtain ⟨x, hx, e⟩ := ih c hc
      exact ⟨x, by simp [hx], e⟩
theorem rowP_right (s : Sf) (bd : Nat) {r : List C} (h : rightF r = true) : rightF (rowP s bd r).1 = true := by
  unfold rowP
  split
  · exact h
  · unfold liftFF
    rw [if_pos h]
    split
    · exact leastF_right _
    · exact rightF_nil
theorem rowP_rightA {s : Sf} (hs : 0 ≤ s.db) (bd : Nat) {r : List C} (h : rightA r = true) : rightA (rowP s bd r).1 = true := by
  unfold rowP
  split
  · exact h
  · unfold liftFF
    rw [if_pos (rightA_right h)]
    split
    · refine rightA_least fun c hc => ?_
      obtain ⟨d, hd, rfl⟩ := liftS_mem r c hc
      exact okC_lift hs ((rightA_iff.1 h).2 d hd)
    · exact rightA_nil
theorem depth_li {s : Sf} : ∀ (n : Nat) (t : Tm) (bv bd : Nat), blk t ≤ n → depthT (liT s t bv bd) = depthT t
  | 0, t, bv, bd, hn => by have := blk_pos t; omega
  | n + 1, t, bv, bd, hn => by
    have e := depth_eq (liT s t bv bd)
    rw [li_eq] at e
    rw [li_eq, e, depth_eq t]
    dsimp only
    have h2 : dpL (liK s t.kind t.kids bv bd) = dpL t.kids := by
      unfold dpL liK
      rw [List.map_map]
      have : t.kids.zipIdx.map (depthT ∘ fun p => liT s p.1 (bv + bvK t.kind p.2) (bd + bdK t.kind p.2)) = t.kids.zipIdx.map (fun p => depthT p.1) := map_congr_mem fun p hp => depth_li n p.1 _ _ (by have := blk_kid (zip_mem hp); omega)
      rw [this]
      congr 1
      refine List.ext_getElem? fun i => ?_
      simp only [List.getElem?_map, List.getElem?_zipIdx]
      cases t.kids[i]? <;> simp
    have h3 : dpS (t.sys.map fun b => liB s t.kind b bv bd) = dpS t.sys := by
      unfold dpS
      rw [List.map_map]
      congr 1
      refine map_congr_mem fun b hb => ?_
      show dpL (b.2.map fun x => liT s x bv (bd + moreK t.kind)) = dpL b.2
      unfold dpL
      rw [List.map_map]
      congr 1
      exact map_congr_mem fun x hx => depth_li n x _ _ (by have := blk_sub hb hx; omega)
    rw [h2, h3]
theorem ok_li {s : Sf} (hv : 0 ≤ s.vb) (hd : 0 ≤ s.db) : ∀ (n : Nat) (t : Tm) (bv bd bv' bd' : Nat), blk t ≤ n → okT true 0 0 t bv bd = true → okT true 0 0 (liT s t bv' bd') bv bd = true
  | 0, t, bv, bd, bv', bd', hn, h => by have := blk_pos t; omega
  | n + 1, t, bv, bd, bv', bd', hn, h => by
    have hc := li_eq s t bv' bd'
    rw [ok_eq, Bool.and_eq_true, List.all_eq_true] at h ⊢
    obtain ⟨h1, h2⟩ := h
    unfold Tm.node nodeB at h1 ⊢
    simp only [Bool.and_eq_true] at h1 ⊢
    obtain ⟨⟨⟨⟨⟨a1, a2⟩, a3⟩, a4⟩, a5⟩, a6⟩ := h1
    refine ⟨⟨⟨⟨⟨⟨a1, ?_⟩, ?_⟩, ?_⟩, ?_⟩, ?_⟩, ?_⟩
    · rw [hc]; dsimp only; rw [liK_len]; exact a2
    · rw [hc]; dsimp only
      unfold numB at a3 ⊢
      split
      · rename_i hk
        rw [if_pos hk] at a3
        simp only [Bool.and_eq_true, decide_eq_true_eq] at a3 ⊢
        refine ⟨?_, by simp⟩
        have : t.n ≤ numV s bv' t.kind t.n := by unfold numV; split <;> omega
        omega
      · rename_i hk
        rw [if_neg hk] at a3
        have : numV s bv' t.kind t.n = t.n := by
          unfold numV
          rw [if_neg (fun h => hk h.1)]
        rw [this]; exact a3
    · rw [hc]; exact a4
    · rw [hc]; dsimp only
      unfold rowB at a5 ⊢
      split
      · rename_i hk
        rw [if_pos hk] at a5
        simp only [Bool.and_eq_true] at a5 ⊢
        exact ⟨rowP_right s bd' a5.1, rfl⟩
      · rename_i hk
        rw [if_neg hk] at a5
        split
        · rename_i hk2
          rw [if_pos hk2] at a5
          simp only [Bool.and_eq_true] at a5 ⊢
          exact ⟨rowP_rightA hd bd' a5.1, rfl⟩
        · rename_i hk2
          rw [if_neg hk2] at a5
          simp only [decide_eq_true_eq] at a5 ⊢
          rw [List.length_eq_zero_iff.1 a5, rowP_nil1]; rfl
    · rw [hc]; dsimp only
      rw [List.all_eq_true] at a6 ⊢
      intro p hp
      rw [List.map_map] at hp
      obtain ⟨b, hb, rfl⟩ := List.mem_map.1 hp
      have := a6 (b.1, b.2.length) (List.mem_map.2 ⟨b, hb, rfl⟩)
      unfold brB at this ⊢
      simp only [Bool.and_eq_true] at this ⊢
      obtain ⟨⟨⟨c1, c2⟩, c3⟩, c4⟩ := this
      refine ⟨⟨⟨c1, ?_⟩, rowP_rightA hd bd' c3⟩, rfl⟩
      show decide (((b.2.map fun x => liT s x bv' (bd' + moreK t.kind)).length : Int) = partsK t.kind) = true
      rw [List.length_map]; exact c2
    · intro p hp
      rcases mem_pts hp with ⟨i, hi, e⟩ | ⟨b, hb, hx, e⟩
      · rw [hc] at hi e
        dsimp only at hi e
        obtain ⟨x, hx⟩ := someL (l := t.kids) (k := i) (by have := some_lt hi; rwa [liK_len] at this)
        rw [liK_get hx] at hi
        injection hi with hi
        rw [← hi, e]
        have := h2 _ (pts_kid hx)
        exact ok_li hv hd n x _ _ _ _ (by have := blk_kid (List.mem_of_getElem? hx); omega) this
      · rw [hc] at hb e
        dsimp only at hb e
        obtain ⟨c, hcm, rfl⟩ := List.mem_map.1 hb
        obtain ⟨x, hxm, e2⟩ := List.mem_map.1 hx
        rw [← e2, e]
        exact ok_li hv hd n x _ _ _ _ (by have := blk_sub hcm hxm; omega) (h2 _ (pts_sys hcm hxm))
theorem formed_li {s : Sf} (hv : 0 ≤ s.vb) (hd : 0 ≤ s.db) {t : Tm} (bv bd : Nat) (h : wrongN true 0 0 t = 0) : wrongN true 0 0 (liT s t bv bd) = 0 := by
  unfold wrongN at h ⊢
  rw [depth_li _ t bv bd (Nat.le_refl _)]
  split at h
  · cases h
  · rename_i h1
    rw [if_neg h1]
    split at h
    · rename_i h2; rw [if_pos (ok_li hv hd _ t 0 0 bv bd (Nat.le_refl _) h2)]
    · cases h
end Go.Proofs.YtjimednocmdpnaaGreat

namespace Go.Proofs.YtjimednocmdpnaaGreat
open Go.RowKit
set_option linter.unusedVariables false
set_option linter.unusedSimpArgs false

def sd (p : Int) : Sf := ⟨0, 0, p, 1⟩
/-- The parts of what was lifted. -/
theorem pts_li {s : Sf} {t : Tm} {bv bd : Nat} {q : Tm × Nat × Nat} (h : q ∈ (liT s t bv bd).pts) : (∃ i x, t.kids[i]? = some x ∧ q = (liT s x (bv + bvK t.kind i) (bd + bdK t.kind i), bvK t.kind i, bdK t.kind i)) ∨ ∃ b ∈ t.sys, ∃ x ∈ b.2, q = (liT s x bv (bd + moreK t.kind), 0, moreK t.kind) := by
  have hc := li_eq s t bv bd
  rcases mem_pts h with ⟨i, hi, e⟩ | ⟨b, hb, hx, e⟩
  · rw [hc] at hi e
    dsimp only at hi e
    obtain ⟨x, hx⟩ := someL (l := t.kids) (k := i) (by have := some_lt hi; rwa [liK_len] at this)
    rw [liK_get hx] at hi
    injection hi with hi
    exact .inl ⟨i, x, hx, by rw [hi, ← e]⟩
  · rw [hc] at hb e
    dsimp only at hb e
    obtain ⟨c, hcm, rfl⟩ := List.mem_map.1 hb
    obtain ⟨x, hxm, e2⟩ := List.mem_map.1 hx
    exact .inr ⟨c, hcm, x, hxm, by rw [e2, ← e]⟩
end Go.Proofs.YtjimednocmdpnaaGreat

namespace Go.Proofs.YtjimednocmdpnaaGreat
open Go.RowKit
set_option linter.unusedVariables false
set_option linter.unusedSimpArgs false

/-- The dimensions of a row that was lifted. -/
theorem row_in {p : Int} (bd : Nat) {r : List C} {k : Nat} (hk : inF (rowP (sd p) bd r).1 k = true) : ∃ j, j < 24 ∧ inF r j = true ∧ k = upK (min p 24 + bd) 1 j := by
  have e : rowP (sd p) bd r = liftFF r (min p 24 + bd) 1 := by unfold rowP; rw [if_neg (show ¬ (sd p).db = 0 from (by decide : ¬ (1 : Int) = 0))]; rfl
  rw [e] at hk
  unfold inF at hk
  obtain ⟨c, hc, hb⟩ := List.any_eq_true.1 hk
  have hm : ∃ d ∈ r, c = liftC d (min p 24 + bd) 1 := by
    unfold liftFF at hc
    by_cases h1 : rightF r = true
    · rw [if_pos h1] at hc
      by_cases h2 : (liftS r (min p 24 + ↑bd) 1).2 = 0
      · rw [if_pos h2] at hc
        exact liftS_mem r c (leastF_sub c hc)
      · rw [if_neg h2] at hc; simp at hc
    · rw [if_neg h1] at hc; simp at hc
  obtain ⟨d, hd, rfl⟩ := hm
  unfold liftC at hb
  by_cases hr : rightC d = true ∧ liftE d.1.val (min p 24 + bd) 1 = 0 ∧ liftE d.2.val (min p 24 + bd) 1 = 0
  · rw [if_pos hr] at hb
    rw [Bool.or_eq_true] at hb
    rcases hb with hb | hb
    · obtain ⟨j, hj, e⟩ := liftN_bit hr.2.1 k hb
      rw [mem_dimsOf] at hj
      exact ⟨j, hj.1, List.any_eq_true.2 ⟨d, hd, by rw [hj.2]; rfl⟩, e.symm⟩
    · obtain ⟨j, hj, e⟩ := liftN_bit hr.2.2 k hb
      rw [mem_dimsOf] at hj
      exact ⟨j, hj.1, List.any_eq_true.2 ⟨d, hd, by rw [hj.2]; simp⟩, e.symm⟩
  · rw [if_neg hr] at hb
    simp [cl00] at hb
theorem row_free {p : Int} (hp : 0 ≤ p) (hp2 : p < 24) (bd : Nat) (r : List C) : (dimsN (rowP (sd p) bd r).1).testBit (p.toNat + bd) = false := by
  rw [dimsN_bit, Bool.eq_false_iff]
  intro h
  rw [Bool.and_eq_true] at h
  obtain ⟨j, _, _, e⟩ := row_in bd h.2
  unfold upK at e
  split at e <;> omega
theorem ok_row {o : Bool} {V : Int} {D : Nat} {t : Tm} {bv bd : Nat} (h : okT o V D t bv bd = true) : rightF t.r = true := by
  rw [ok_eq, Bool.and_eq_true] at h
  have h1 := h.1
  unfold Tm.node nodeB at h1
  simp only [Bool.and_eq_true] at h1
  have h2 := h1.1.2
  unfold rowB at h2
  split at h2
  · simp only [Bool.and_eq_true] at h2; exact h2.1
  · split at h2
    · simp only [Bool.and_eq_true] at h2; exact rightA_right h2.1
    · have h3 : t.r = [] := List.length_eq_zero_iff.1 (by simpa using h2)
      rw [h3]; exact rightF_nil
theorem ok_face {o : Bool} {V : Int} {D : Nat} {t : Tm} {bv bd : Nat} {b : List C × List Tm} (h : okT o V D t bv bd = true) (hb : b ∈ t.sys) : rightA b.1 = true := by
  rw [ok_eq, Bool.and_eq_true] at h
  have h1 := h.1
  unfold Tm.node nodeB at h1
  simp only [Bool.and_eq_true] at h1
  have h2 := List.all_eq_true.1 h1.2 (b.1, b.2.length) (List.mem_map.2 ⟨b, hb, rfl⟩)
  unfold brB at h2
  simp only [Bool.and_eq_true] at h2
  exact h2.1.2
theorem hs_sd {p : Int} (hp : 0 ≤ p) (hp2 : p < 24) : ∀ (n : Nat) (t : Tm) (bv bd : Nat), blk t ≤ n → hsT (liT (sd p) t bv bd) (p.toNat + bd) = false
  | 0, t, bv, bd, hn => by have := blk_pos t; omega
  | n + 1, t, bv, bd, hn => by
    have hc := li_eq (sd p) t bv bd
    rw [hs_eq, Bool.or_eq_false_iff, Bool.or_eq_false_iff]
    refine ⟨⟨?_, ?_⟩, ?_⟩
    · rw [hc]; exact row_free hp hp2 bd t.r
    · rw [hc]; dsimp only
      rw [Bool.eq_false_iff, ne_eq, List.any_eq_true]
      rintro ⟨b, hb, hu⟩
      obtain ⟨c, hcm, rfl⟩ := List.mem_map.1 hb
      have : (dimsN (rowP (sd p) bd c.1).1).testBit (p.toNat + bd) = true := hu
      rw [row_free hp hp2] at this
      cases this
    · rw [Bool.eq_false_iff, ne_eq, List.any_eq_true]
      rintro ⟨q, hq, hu⟩
      rcases pts_li hq with ⟨i, x, hx, rfl⟩ | ⟨b, hb, x, hx, rfl⟩
      · dsimp only at hu
        rw [Nat.add_assoc, hs_sd hp hp2 n x _ _ (by have := blk_kid (List.mem_of_getElem? hx); omega)] at hu
        cases hu
      · dsimp only at hu
        rw [Nat.add_assoc, hs_sd hp hp2 n x _ _ (by have := blk_sub hb hx; omega)] at hu
        cases hu
end Go.Proofs.YtjimednocmdpnaaGreat

namespace Go.Proofs.YtjimednocmdpnaaGreat
open Go.RowKit
set_option linter.unusedVariables false
set_option linter.unusedSimpArgs false

theorem lift_bits {s j : Nat} (h : liftE s (j : Int) 1 = 0) (hs : s < 16777216) (k : Nat) : (liftN s (j : Int) 1).testBit k = if k < j then s.testBit k else if k = j then false else s.testBit (k - 1) := by
  have ha : argB (j : Int) 1 = false := by cases ha : argB (j : Int) 1 with | false => rfl | true => rw [(lift_arg ha).2] at h; cases h
  have hb : liftBad (j : Int) 1 (dimsOf s) = false := by cases hb : liftBad (j : Int) 1 (dimsOf s) with | false => rfl | true => rw [(lift_bad ha hb).2] at h; cases h
  have h24 : ∀ d, s.testBit d = true → d < 24 := fun d hd => by
    rcases Nat.lt_or_ge d 24 with h | h
    · exact h
    · rw [Nat.testBit_lt_two_pow (Nat.lt_of_lt_of_le hs (Nat.pow_le_pow_right (n := 2) (by omega) h))] at hd; cases hd
  rw [(lift_ok ha hb).1, testBit_orAll, Bool.eq_iff_iff, decide_eq_true_iff, List.mem_map]
  constructor
  · rintro ⟨d, hd, e⟩
    rw [mem_dimsOf] at hd
    unfold upK at e
    split at e
    · rename_i hdj
      subst e
      rw [if_pos (by omega)]; exact hd.2
    · rename_i hdj
      have e : d + 1 = k := by simpa using e
      subst e
      rw [if_neg (by omega), if_neg (by omega)]
      exact hd.2
  · intro hk
    split at hk
    · rename_i hkj
      exact ⟨k, by rw [mem_dimsOf]; exact ⟨h24 k hk, hk⟩, by unfold upK; rw [if_pos (by omega)]⟩
    · split at hk
      · cases hk
      · rename_i h1 h2
        exact ⟨k - 1, by rw [mem_dimsOf]; exact ⟨h24 _ hk, hk⟩, by unfold upK; rw [if_neg (by omega)]; show k - 1 + 1 = k; omega⟩
theorem drop_bits {s j : Nat} (hj : j < 24) (hs : s < 16777216) (k : Nat) : (dropN s (j : Int)).testBit k = if k < j then s.testBit k else s.testBit (k + 1) := by
  have h24 : ∀ d, s.testBit d = true → d < 24 := fun d hd => by
    rcases Nat.lt_or_ge d 24 with h | h
    · exact h
    · rw [Nat.testBit_lt_two_pow (Nat.lt_of_lt_of_le hs (Nat.pow_le_pow_right (n := 2) (by omega) h))] at hd; cases hd
  unfold dropN
  rw [if_pos (isDimB_nat hj), testBit_orAll, Bool.eq_iff_iff, decide_eq_true_iff, List.mem_map]
  have ej : (j : Int).toNat = j := by simp
  rw [ej]
  constructor
  · rintro ⟨d, hd, e⟩
    rw [List.mem_filter, mem_dimsOf] at hd
    have hne : (j : Int) ≠ (d : Int) := by have := hd.2; unfold notI at this; exact of_decide_eq_true this
    unfold downK at e
    split at e
    · subst e
      rw [if_pos (by omega)]; exact hd.1.2
    · subst e
      rw [if_neg (by omega)]
      have : d - 1 + 1 = d := by omega
      rw [this]; exact hd.1.2
  · intro hk
    split at hk
    · rename_i hkj
      exact ⟨k, by rw [List.mem_filter, mem_dimsOf]; exact ⟨⟨h24 k hk, hk⟩, decide_eq_true (by omega)⟩, by unfold downK; rw [if_pos hkj]⟩
    · rename_i hkj
      exact ⟨k + 1, by rw [List.mem_filter, mem_dimsOf]; exact ⟨⟨h24 _ hk, hk⟩, decide_eq_true (by omega)⟩, by unfold downK; rw [if_neg (by omega)]; omega⟩
theorem drop_lift {s j : Nat} (h : liftE s (j : Int) 1 = 0) (hs : s < 16777216) : dropN (liftN s (j : Int) 1) (j : Int) = s := by
  have hb := lift_bits h hs
  have hl := liftN_lt s (j : Int) 1
  rcases Nat.lt_or_ge j 24 with hj | hj
  · refine Nat.eq_of_testBit_eq fun k => ?_
    rw [drop_bits hj hl]
    split
    · rename_i hk; rw [hb, if_pos hk]
    · rename_i hk; rw [hb, if_neg (by omega), if_neg (by omega)]; rfl
  · have e : liftN s (j : Int) 1 = s := by
      refine Nat.eq_of_testBit_eq fun k => ?_
      rw [hb]
      split
      · rfl
      · rename_i hk
        have e1 : ∀ m, 24 ≤ m → s.testBit m = false := fun m hm => Nat.testBit_lt_two_pow (Nat.lt_of_lt_of_le hs (Nat.pow_le_pow_right (n := 2) (by omega) hm))
        rw [e1 k (by omega)]
        split
        · rfl
        · have hz : (liftN s (j : Int) 1).testBit k = false := Nat.testBit_lt_two_pow (Nat.lt_of_lt_of_le hl (Nat.pow_le_pow_right (n := 2) (by omega) (by omega : 24 ≤ k)))
          rw [hb, if_neg (by omega), if_neg (by omega)] at hz
          exact hz
    rw [e]
    unfold dropN
    rw [if_neg (by unfold isDimB; simp; omega)]
    have := Nat.and_two_pow_sub_one_of_lt_two_pow (n := 24) hs
    exact this
/-! ### the order -/
theorem top_diff {x y : Nat} : ∀ n, (∀ k, n ≤ k → x.testBit k = y.testBit k) → x ≠ y → ∃ k, x.testBit k ≠ y.testBit k ∧ ∀ m, k < m → x.testBit m = y.testBit m
  | 0, h, hne => absurd (Nat.eq_of_testBit_eq fun k => h k (Nat.zero_le _)) hne
  | n + 1, h, hne => by
    by_cases hn : x.testBit n = y.testBit n
    · exact top_diff n (fun k hk => by
        rcases Nat.eq_or_lt_of_le hk with e | e
        · rw [← e]; exact hn
        · exact h k e) hne
    · exact ⟨n, hn, fun m hm => h m hm⟩
theorem lt_bits {x y : Nat} (k : Nat) (hx : x.testBit k = false) (hy : y.testBit k = true) (h : ∀ m, k < m → x.testBit m = y.testBit m) : x < y := by
  rw [Nat.testBit_eq_decide_div_mod_eq, decide_eq_false_iff_not] at hx
  rw [Nat.testBit_eq_decide_div_mod_eq, decide_eq_true_iff] at hy
  have e : x / 2 ^ k / 2 = y / 2 ^ k / 2 := by
    rw [Nat.div_div_eq_div_mul, Nat.div_div_eq_div_mul, ← Nat.pow_succ]
    refine Nat.eq_of_testBit_eq fun m => ?_
    rw [Nat.testBit_div_two_pow, Nat.testBit_div_two_pow]
    exact h _ (by omega)
  rcases Nat.lt_or_ge x y with h1 | h1
  · exact h1
  · have := Nat.div_le_div_right (c := 2 ^ k) h1
    omega
theorem lt_top {x y : Nat} (hx : x < 16777216) (hy : y < 16777216) (h : x < y) : ∃ k, x.testBit k = false ∧ y.testBit k = true ∧ ∀ m, k < m → x.testBit m = y.testBit m := by
  have e1 : ∀ z, z < 16777216 → ∀ m, 24 ≤ m → z.testBit m = false := fun z hz m hm => Nat.testBit_lt_two_pow (Nat.lt_of_lt_of_le hz (Nat.pow_le_pow_right (n := 2) (by omega) hm))
  obtain ⟨k, hk, hm⟩ := top_diff 24 (fun m hm => by rw [e1 x hx m hm, e1 y hy m hm]) (by omega : x ≠ y)
  cases ha : x.testBit k <;> cases hb : y.testBit k
  · rw [ha, hb] at hk; exact absurd rfl hk
  · exact ⟨k, ha, hb, hm⟩
  · have := lt_bits k hb ha (fun m hm' => (hm m hm').symm)
    omega
  · rw [ha, hb] at hk; exact absurd rfl hk
theorem lift_lt' {x y j : Nat} (hx : x < 16777216) (hy : y < 16777216) (ex : liftE x (j : Int) 1 = 0) (ey : liftE y (j : Int) 1 = 0) (h : x < y) : liftN x (j : Int) 1 < liftN y (j : Int) 1 := by
  obtain ⟨k, h1, h2, h3⟩ := lt_top hx hy h
  have bx := lift_bits ex hx
  have by_ := lift_bits ey hy
  by_cases hk : k < j
  · refine lt_bits k (by rw [bx, if_pos hk, h1]) (by rw [by_, if_pos hk, h2]) (fun m hm => ?_)
    rw [bx, by_]
    split
    · exact h3 m hm
    · split
      · rfl
      · exact h3 (m - 1) (by omega)
  · refine lt_bits (k + 1) (by rw [bx, if_neg (by omega), if_neg (by omega)]; exact h1) (by rw [by_, if_neg (by omega), if_neg (by omega)]; exact h2) (fun m hm => ?_)
    rw [bx, by_]
    split
    · exact h3 m (by omega)
    · split
      · rfl
      · exact h3 (m - 1) (by omega)
/-! ### clauses, rows -/
theorem liftC_ok {c : C} {j : Nat} (h : liftCE c (j : Int) 1 = 0) : rightC c = true ∧ liftE c.1.val (j : Int) 1 = 0 ∧ liftE c.2.val (j : Int) 1 = 0 := by
  unfold liftCE at h
  split at h
  · split at h
    · exact ⟨‹_›, ‹_›, h⟩
    · exact absurd h ‹_›
  · cases h
theorem right_lts {c : C} (h : rightC c = true) : c.1.val < 16777216 ∧ c.2.val < 16777216 := by
  have := rightC_iff.1 h
  exact ⟨by first | exact this.1 | (have := this.1; omega), by first | exact this.2 | (have := this.2; omega)⟩
theorem liftC_eq {c : C} {j : Nat} (h : liftCE c (j : Int) 1 = 0) : (liftC c (j : Int) 1).1.val = liftN c.1.val (j : Int) 1 ∧ (liftC c (j : Int) 1).2.val = liftN c.2.val (j : Int) 1 := by
  unfold liftC
  rw [if_pos (liftC_ok h)]
  exact ⟨rfl, rfl⟩
theorem drC_lift {c : C} {j : Nat} (h : liftCE c (j : Int) 1 = 0) : drC (j : Int) (liftC c (j : Int) 1) = c := by
  obtain ⟨hr, h1, h2⟩ := liftC_ok h
  obtain ⟨l1, l2⟩ := right_lts hr
  obtain ⟨e1, e2⟩ := liftC_eq h
  refine Prod.ext (Fin.ext ?_) (Fin.ext ?_)
  · show dropN (liftC c (j : Int) 1).1.val (j : Int) = _; rw [e1]; exact drop_lift h1 l1
  · show dropN (liftC c (j : Int) 1).2.val (j : Int) = _; rw [e2]; exact drop_lift h2 l2
theorem ltC_lift {a b : C} {j : Nat} (ha : liftCE a (j : Int) 1 = 0) (hb : liftCE b (j : Int) 1 = 0) (h : ltC a b = true) : ltC (liftC a (j : Int) 1) (liftC b (j : Int) 1) = true := by
  obtain ⟨ra, a1, a2⟩ := liftC_ok ha
  obtain ⟨rb, b1, b2⟩ := liftC_ok hb
  obtain ⟨la1, la2⟩ := right_lts ra
  obtain ⟨lb1, lb2⟩ := right_lts rb
  unfold ltC at h ⊢
  rw [(liftC_eq ha).1, (liftC_eq ha).2, (liftC_eq hb).1, (liftC_eq hb).2]
  simp only [Bool.or_eq_true, Bool.and_eq_true, decide_eq_true_eq] at h ⊢
  rcases h with h | ⟨h, h'⟩
  · exact .inl (lift_lt' la1 lb1 a1 b1 h)
  · exact .inr ⟨by rw [h], lift_lt' la2 lb2 a2 b2 h'⟩
theorem belC_lift {a b : C} {j : Nat} (ha : liftCE a (j : Int) 1 = 0) (hb : liftCE b (j : Int) 1 = 0) (h : belC (liftC a (j : Int) 1) (liftC b (j : Int) 1) = true) : belC a b = true := by
  obtain ⟨ra, a1, a2⟩ := liftC_ok ha
  obtain ⟨rb, b1, b2⟩ := liftC_ok hb
  obtain ⟨la1, la2⟩ := right_lts ra
  obtain ⟨lb1, lb2⟩ := right_lts rb
  have h' := belC_iff.1 h
  rw [(liftC_eq ha).1, (liftC_eq ha).2, (liftC_eq hb).1, (liftC_eq hb).2] at h'
  have gen : ∀ (x y : Nat), x < 16777216 → y < 16777216 → liftE x (j : Int) 1 = 0 → liftE y (j : Int) 1 = 0 → (∀ k, k < 24 → (liftN y (j : Int) 1).testBit k = true → (liftN x (j : Int) 1).testBit k = true) → ∀ k, k < 24 → y.testBit k = true → x.testBit k = true := by
    intro x y hx hy ex ey hh k hk hyk
    have bx := lift_bits ex hx
    have by_ := lift_bits ey hy
    have h24 : ∀ d, (liftN y (j : Int) 1).testBit d = true → d < 24 := fun d hd => by
      rcases Nat.lt_or_ge d 24 with h | h
      · exact h
      · rw [Nat.testBit_lt_two_pow (Nat.lt_of_lt_of_le (liftN_lt y (j : Int) 1) (Nat.pow_le_pow_right (n := 2) (by omega) h))] at hd; cases hd
    by_cases hkj : k < j
    · have e : (liftN y (j : Int) 1).testBit k = true := by rw [by_, if_pos hkj]; exact hyk
      have := hh k (h24 k e) e
      rw [bx, if_pos hkj] at this
      exact this
    · have e : (liftN y (j : Int) 1).testBit (k + 1) = true := by rw [by_, if_neg (by omega), if_neg (by omega)]; exact hyk
      have := hh (k + 1) (h24 _ e) e
      rw [bx, if_neg (by omega), if_neg (by omega)] at this
      exact this
  exact belC_iff.2 ⟨gen _ _ la1 lb1 a1 b1 h'.1, gen _ _ la2 lb2 a2 b2 h'.2⟩
theorem liftS_map {j : Nat} (l : List C) : (liftS l (j : Int) 1).2 = 0 → (liftS l (j : Int) 1).1 = l.map (fun c => liftC c (j : Int) 1) ∧ ∀ c ∈ l, liftCE c (j : Int) 1 = 0 := by
  induction l using snoc_ind with
  | nil => intro _; exact ⟨rfl, fun c hc => by cases hc⟩
  | snoc l c ih =>
    intro h
    rw [liftS_snoc] at h ⊢
    unfold stepL at h ⊢
    by_cases h0 : (liftS l (j : Int) 1).2 = 0
    · rw [if_pos h0] at h ⊢
      by_cases h1 : liftCE c (j : Int) 1 = 0
      · rw [if_pos h1]
        obtain ⟨e, hall⟩ := ih h0
        refine ⟨by rw [List.map_append, ← e]; rfl, fun d hd => ?_⟩
        rcases List.mem_append.1 hd with hd | hd
        · exact hall d hd
        · rw [List.mem_singleton.1 hd]; exact h1
      · rw [if_neg h1] at h; exact absurd h h1
    · rw [if_neg h0] at h; exact absurd h h0
theorem lift_row {f : List C} {j : Nat} (h : (liftFF f (j : Int) 1).2 = 0) : (liftFF f (j : Int) 1).1 = f.map (fun c => liftC c (j : Int) 1) ∧ (∀ c ∈ f, liftCE c (j : Int) 1 = 0) := by
  unfold liftFF at h ⊢
  by_cases hr : rightF f = true
  · rw [if_pos hr] at h ⊢
    by_cases h0 : (liftS f (j : Int) 1).2 = 0
    · rw [if_pos h0] at h ⊢
      obtain ⟨e, hall⟩ := liftS_map f h0
      rw [e] at h ⊢
      obtain ⟨hp, hlen⟩ := rightF_iff.1 hr
      have hP : PreOk (f.map fun c => liftC c (j : Int) 1) := by
        refine ⟨?_, ?_, ?_⟩
        · rw [List.all_eq_true]
          intro x hx
          obtain ⟨c, hc, rfl⟩ := List.mem_map.1 hx
          rw [rightC_iff, (liftC_eq (hall c hc)).1, (liftC_eq (hall c hc)).2]
          exact ⟨liftN_lt _ _ _, liftN_lt _ _ _⟩
        · exact List.pairwise_map.2 (List.Pairwise.imp_of_mem (fun ha hb h => ltC_lift (hall _ ha) (hall _ hb) h) hp.rises)
        · intro x hx
          obtain ⟨c, hc, rfl⟩ := List.mem_map.1 hx
          rw [needed_iff]
          intro y hy hb
          obtain ⟨d, hd, rfl⟩ := List.mem_map.1 hy
          rw [needed_iff.1 (hp.need c hc) d hd (belC_lift (hall c hc) (hall d hd) hb)]
      have hR : rightF (f.map fun c => liftC c (j : Int) 1) = true := rightF_iff.2 ⟨hP, by simpa using hlen⟩
      rw [rightF_eq hR]
      exact ⟨rfl, hall⟩
    · rw [if_neg h0] at h; exact absurd h h0
  · rw [if_neg hr] at h; cases h
theorem drop_row {f : List C} {j : Nat} (h : (liftFF f (j : Int) 1).2 = 0) : (liftFF f (j : Int) 1).1.map (drC (j : Int)) = f := by
  obtain ⟨e, hall⟩ := lift_row h
  rw [e, List.map_map]
  conv => rhs; rw [← List.map_id f]
  exact List.map_congr_left (fun c hc => drC_lift (hall c hc))
end Go.Proofs.YtjimednocmdpnaaGreat

namespace Go.Proofs.YtjimednocmdpnaaGreat
open Go.RowKit
set_option linter.unusedVariables false
set_option linter.unusedSimpArgs false

theorem mt_top' {c : C} (h : rightC c = true) (hk : okC c = true) : mtR [c] [top0] = ([c], 0) := by
  have e : meetC c top0 = c := by
    have h1 := fright_bits h
    refine c_bits (fun k => ?_) (fun k => ?_)
    · rw [(meet_bits c top0 k).1]; rw [← (h1 k).1]; simp [top0]
    · rw [(meet_bits c top0 k).2]; rw [← (h1 k).2]; simp [top0]
  have e2 : calmC (pairsC [c] [top0]) = [c] := by simp [pairsC, calmC, e, hk]
  unfold mtR; rw [e2]; exact leastF_one h
theorem mt_nil' (l : List C) : mtR l [] = ([], 0) := by
  have e2 : calmC (pairsC l []) = [] := by simp [pairsC, calmC]
  unfold mtR; rw [e2]; decide
/-- Least of least and more. -/
theorem least_more {A B : List C} (hA : A.all rightC = true) (hB : B.all rightC = true) (h0 : (leastF A).2 = 0) : leastF ((leastF A).1 ++ B) = leastF (A ++ B) := by
  refine leastF_ext (by rw [List.all_append, leastF_all, hB]; rfl) (by rw [List.all_append, hA, hB]; rfl) (fun c _ => ?_)
  rw [dn_append, dn_append, leastF_dn h0]
theorem all_mem {l : List C} (h : ∀ c ∈ l, rightC c = true) : l.all rightC = true := List.all_eq_true.2 h
theorem rst_app (f g : List C) (p : C) : rstL (f ++ g) p = rstL f p ++ rstL g p := by simp [rstL]
theorem rst_right' {f : List C} (h : ∀ c ∈ f, rightC c = true) (p : C) : ∀ c ∈ rstL f p, rightC c = true := fun x hx => by
  obtain ⟨a, ha, _, rfl⟩ := mem_rst.1 hx
  exact cut_right (h a ha)

/-! ### one -/
theorem cut_one {c : C} {i : Nat} (hi : i < 24) (hr : rightC c = true) (hk : okC c = true) (h : c.2.val.testBit i = false) : cutC (posB i) c = outC c (i : Int) := by
  have h1 := fright_bits hr
  refine c_bits (fun k => ?_) (fun k => ?_)
  · rw [(cut_bits _ c k).1, (out_bits c i k hi).1, (posB_bits i k hi).1]
    have := (h1 k).1
    by_cases hik : i = k
    · subst hik; simp_all
    · simp_all
  · rw [(cut_bits _ c k).2, (out_bits c i k hi).2, (posB_bits i k hi).2]
    have := (h1 k).2
    by_cases hik : i = k
    · subst hik; simp_all
    · simp_all
theorem with_one {c : C} {i : Nat} (hi : i < 24) (hk : okC c = true) : withC (posB i) c = !c.2.val.testBit i := by
  unfold withC
  rw [Bool.eq_iff_iff, meet_ok, Bool.not_eq_true']
  constructor
  · intro h
    have := h i hi
    rw [(posB_bits i i hi).1, (posB_bits i i hi).2] at this
    simpa using this
  · intro h k hk24
    have h2 := okC_iff.1 hk k hk24
    rw [(posB_bits i k hi).1, (posB_bits i k hi).2]
    by_cases hik : i = k
    · subst hik; simp [h]
    · simp [hik]; simpa using h2
theorem rst1_one {c : C} {i : Nat} (hi : i < 24) (hr : rightC c = true) (hk : okC c = true) : rstL [c] (posB i) = if c.2.val.testBit i then [] else [outC c (i : Int)] := by
  unfold rstL
  rw [List.filter_cons, with_one hi hk]
  cases h : c.2.val.testBit i
  · simp [cut_one hi hr hk h]
  · simp
theorem prt_one {c : C} {i : Nat} (hi : i < 24) (hk : okC c = true) : prtA c (i : Int) [top0] ([], 0) = (if c.2.val.testBit i then [] else [outC c (i : Int)], 0) := by
  have h0 := okC_iff.1 hk i hi
  have hB1 : hasB c.1.val (i : Int) = c.1.val.testBit i := hasB_nat hi
  have hB2 : hasB c.2.val (i : Int) = c.2.val.testBit i := hasB_nat hi
  unfold prtA
  rw [hB1, hB2]
  cases h1 : c.1.val.testBit i <;> cases h2 : c.2.val.testBit i
  · simp
  · simp [mt_nil']
  · simp [mt_top' (out_right c i) (out_ok hk)]
  · exact absurd ⟨h1, h2⟩ h0
theorem pts_one {i : Nat} (hi : i < 24) (f : List C) : (∀ c ∈ f, rightC c = true ∧ okC c = true) → f.length ≤ 64 → ptS f (i : Int) [top0] ([], 0) = leastF (rstL f (posB i)) := by
  induction f using snoc_ind with
  | nil => intro _ _; simp only [ptS, List.foldl_nil, rstL, List.filter_nil, List.map_nil]; decide
  | snoc f c ih =>
    intro h hl
    have hf : ∀ x ∈ f, rightC x = true ∧ okC x = true := fun x hx => h x (List.mem_append_left _ hx)
    obtain ⟨hr, hk⟩ := h c (by simp)
    have hl2 : f.length ≤ 64 := by simp at hl; omega
    have hA : (rstL f (posB i)).all rightC = true := all_mem (rst_right' (fun x hx => (hf x hx).1) _)
    have h0 : (leastF (rstL f (posB i))).2 = 0 := least_small hA (Nat.le_trans (rst_len f _) hl2)
    rw [ptS_snoc, ih hf hl2]
    have e := leastF_pair h0
    rw [e, stpA_some, prt_one hi hk, if_pos rfl, rst_app, rst1_one hi hr hk, least_more hA (all_mem (fun x hx => ?_)) h0]
    split at hx
    · cases hx
    · rw [List.mem_singleton.1 hx]; exact out_right c i
theorem put_one {i : Nat} (hi : i < 24) {f : List C} (hf : rightA f = true) : putRow ptA (i : Int) [top0] f 0 = rstA f (posB i) := by
  have hs : singleC (posB i) = true := singleC_iff.2 ⟨posB_right i, okC_iff.2 (fun k _ h => by rw [(posB_bits i k hi).1, (posB_bits i k hi).2] at h; simp at h)⟩
  have hR : rstA f (posB i) = leastF (rstL f (posB i)) := by unfold rstA; rw [hf, hs]; rfl
  have hall : ∀ c ∈ f, rightC c = true ∧ okC c = true := fun c hc => ⟨List.all_eq_true.1 (rightF_all (rightA_right hf)) c hc, rightA_ok hf c hc⟩
  have e0 : ((i : Int) + ((0 : Nat) : Int)) = (i : Int) := by omega
  unfold putRow
  rw [e0]
  cases hh : hasB (dimsN f) (i : Int)
  · rw [if_neg (by simp), hR]
    rw [hasB_nat hi, dimsN_bit] at hh
    have hno : ∀ c ∈ f, c.1.val.testBit i = false ∧ c.2.val.testBit i = false := fun c hc => by
      simp only [hi, decide_true, Bool.true_and] at hh
      have := List.any_eq_false.1 hh c hc
      simpa using this
    have e : rstL f (posB i) = f := by
      unfold rstL
      rw [List.filter_eq_self.2 (fun c hc => by rw [with_one hi (hall c hc).2, (hno c hc).2]; rfl)]
      conv => rhs; rw [← List.map_id f]
      refine List.map_congr_left (fun c hc => ?_)
      rw [cut_one hi (hall c hc).1 (hall c hc).2 (hno c hc).2]
      have h1 := fright_bits (hall c hc).1
      refine c_bits (fun k => ?_) (fun k => ?_)
      · rw [(out_bits c i k hi).1]
        have := (h1 k).1
        by_cases hik : i = k
        · subst hik; simp [(hno c hc).1]
        · simp_all
      · rw [(out_bits c i k hi).2]
        have := (h1 k).2
        by_cases hik : i = k
        · subst hik; simp [(hno c hc).2]
        · simp_all
    rw [e, rightF_eq (rightA_right hf)]
  · rw [if_pos rfl]
    have eL : liftFF [top0] 0 ((0 : Nat) : Int) = ([top0], 0) := by decide
    rw [eL, if_pos rfl]
    show ptA f (i : Int) [top0] = _
    have hd : isDimB (i : Int) = true := isDimB_nat hi
    have hq : rightF [top0] = true := by decide
    unfold ptA
    rw [hf, hd, hq]
    have e1 : (ofF [top0]).1 = [top0] := by decide
    have e2 : ofZ [top0] = ([], 0) := by decide
    rw [e1, e2, hR]
    exact pts_one hi f hall (rightA_len hf)

/-! ### nil -/
theorem cut_nil {c : C} {i : Nat} (hi : i < 24) (hr : rightC c = true) (hk : okC c = true) (h : c.1.val.testBit i = false) : cutC (negB i) c = outC c (i : Int) := by
  have h1 := fright_bits hr
  refine c_bits (fun k => ?_) (fun k => ?_)
  · rw [(cut_bits _ c k).1, (out_bits c i k hi).1, (negB_bits i k hi).1]
    have := (h1 k).1
    by_cases hik : i = k
    · subst hik; simp_all
    · simp_all
  · rw [(cut_bits _ c k).2, (out_bits c i k hi).2, (negB_bits i k hi).2]
    have := (h1 k).2
    by_cases hik : i = k
    · subst hik; simp_all
    · simp_all
theorem with_nil {c : C} {i : Nat} (hi : i < 24) (hk : okC c = true) : withC (negB i) c = !c.1.val.testBit i := by
  unfold withC
  rw [Bool.eq_iff_iff, meet_ok, Bool.not_eq_true']
  constructor
  · intro h
    have := h i hi
    rw [(negB_bits i i hi).1, (negB_bits i i hi).2] at this
    simpa using this
  · intro h k hk24
    have h2 := okC_iff.1 hk k hk24
    rw [(negB_bits i k hi).1, (negB_bits i k hi).2]
    by_cases hik : i = k
    · subst hik; simp [h]
    · simp [hik]; simpa using h2
theorem rst1_nil {c : C} {i : Nat} (hi : i < 24) (hr : rightC c = true) (hk : okC c = true) : rstL [c] (negB i) = if c.1.val.testBit i then [] else [outC c (i : Int)] := by
  unfold rstL
  rw [List.filter_cons, with_nil hi hk]
  cases h : c.1.val.testBit i
  · simp [cut_nil hi hr hk h]
  · simp
theorem prt_nil {c : C} {i : Nat} (hi : i < 24) (hk : okC c = true) : prtA c (i : Int) [] ([top0], 0) = (if c.1.val.testBit i then [] else [outC c (i : Int)], 0) := by
  have h0 := okC_iff.1 hk i hi
  have hB1 : hasB c.1.val (i : Int) = c.1.val.testBit i := hasB_nat hi
  have hB2 : hasB c.2.val (i : Int) = c.2.val.testBit i := hasB_nat hi
  unfold prtA
  rw [hB1, hB2]
  cases h1 : c.1.val.testBit i <;> cases h2 : c.2.val.testBit i
  · simp
  · simp [mt_top' (out_right c i) (out_ok hk)]
  · simp [mt_nil']
  · exact absurd ⟨h1, h2⟩ h0
theorem pts_nil {i : Nat} (hi : i < 24) (f : List C) : (∀ c ∈ f, rightC c = true ∧ okC c = true) → f.length ≤ 64 → ptS f (i : Int) [] ([top0], 0) = leastF (rstL f (negB i)) := by
  induction f using snoc_ind with
  | nil => intro _ _; simp only [ptS, List.foldl_nil, rstL, List.filter_nil, List.map_nil]; decide
  | snoc f c ih =>
    intro h hl
    have hf : ∀ x ∈ f, rightC x = true ∧ okC x = true := fun x hx => h x (List.mem_append_left _ hx)
    obtain ⟨hr, hk⟩ := h c (by simp)
    have hl2 : f.length ≤ 64 := by simp at hl; omega
    have hA : (rstL f (negB i)).all rightC = true := all_mem (rst_right' (fun x hx => (hf x hx).1) _)
    have h0 : (leastF (rstL f (negB i))).2 = 0 := least_small hA (Nat.le_trans (rst_len f _) hl2)
    rw [ptS_snoc, ih hf hl2]
    have e := leastF_pair h0
    rw [e, stpA_some, prt_nil hi hk, if_pos rfl, rst_app, rst1_nil hi hr hk, least_more hA (all_mem (fun x hx => ?_)) h0]
    split at hx
    · cases hx
    · rw [List.mem_singleton.1 hx]; exact out_right c i
theorem put_nil {i : Nat} (hi : i < 24) {f : List C} (hf : rightA f = true) : putRow ptA (i : Int) [] f 0 = rstA f (negB i) := by
  have hs : singleC (negB i) = true := singleC_iff.2 ⟨negB_right i, okC_iff.2 (fun k _ h => by rw [(negB_bits i k hi).1, (negB_bits i k hi).2] at h; simp at h)⟩
  have hR : rstA f (negB i) = leastF (rstL f (negB i)) := by unfold rstA; rw [hf, hs]; rfl
  have hall : ∀ c ∈ f, rightC c = true ∧ okC c = true := fun c hc => ⟨List.all_eq_true.1 (rightF_all (rightA_right hf)) c hc, rightA_ok hf c hc⟩
  have e0 : ((i : Int) + ((0 : Nat) : Int)) = (i : Int) := by omega
  unfold putRow
  rw [e0]
  cases hh : hasB (dimsN f) (i : Int)
  · rw [if_neg (by simp), hR]
    rw [hasB_nat hi, dimsN_bit] at hh
    have hno : ∀ c ∈ f, c.1.val.testBit i = false ∧ c.2.val.testBit i = false := fun c hc => by
      simp only [hi, decide_true, Bool.true_and] at hh
      have := List.any_eq_false.1 hh c hc
      simpa using this
    have e : rstL f (negB i) = f := by
      unfold rstL
      rw [List.filter_eq_self.2 (fun c hc => by rw [with_nil hi (hall c hc).2, (hno c hc).1]; rfl)]
      conv => rhs; rw [← List.map_id f]
      refine List.map_congr_left (fun c hc => ?_)
      rw [cut_nil hi (hall c hc).1 (hall c hc).2 (hno c hc).1]
      have h1 := fright_bits (hall c hc).1
      refine c_bits (fun k => ?_) (fun k => ?_)
      · rw [(out_bits c i k hi).1]
        have := (h1 k).1
        by_cases hik : i = k
        · subst hik; simp [(hno c hc).1]
        · simp_all
      · rw [(out_bits c i k hi).2]
        have := (h1 k).2
        by_cases hik : i = k
        · subst hik; simp [(hno c hc).2]
        · simp_all
    rw [e, rightF_eq (rightA_right hf)]
  · rw [if_pos rfl]
    have eL : liftFF [] 0 ((0 : Nat) : Int) = ([], 0) := by decide
    rw [eL, if_pos rfl]
    show ptA f (i : Int) [] = _
    have hd : isDimB (i : Int) = true := isDimB_nat hi
    have hq : rightF [] = true := by decide
    unfold ptA
    rw [hf, hd, hq]
    have e1 : (ofF []).1 = [] := by decide
    have e2 : ofZ [] = ([top0], 0) := by decide
    rw [e1, e2, hR]
    exact pts_nil hi f hall (rightA_len hf)

/-! ### one after another -/
def Rf (c : C) (f : List C) : List C := (rstA f c).1
/-! ### the faces of a term -/
/-- A step: 1 at a dimension, or 0. -/
structure DStp where
  i : Nat
  r : List C
  p : C
def DStp.ok (s : DStp) : Prop := s.i < 24 ∧ ((s.r = [top0] ∧ s.p = posB s.i) ∨ (s.r = [] ∧ s.p = negB s.i))
theorem DStp.put {s : DStp} (h : s.ok) {f : List C} (hf : rightA f = true) : (putRow ptA (s.i : Int) s.r f 0).1 = Rf s.p f := by
  obtain ⟨hi, ⟨hr, hp⟩ | ⟨hr, hp⟩⟩ := h
  · rw [hr, hp, put_one hi hf]; rfl
  · rw [hr, hp, put_nil hi hf]; rfl
/-! ### Under -/
/-! ### those that are kept -/
end Go.Proofs.YtjimednocmdpnaaGreat

namespace Go.Proofs.YtjimednocmdpnaaGreat
open Go.RowKit
set_option linter.unusedVariables false
set_option linter.unusedSimpArgs false

/-! ### one -/
/-! ### nil -/
/-! ### a row -/
theorem put_no {PF : List C → Int → List C → List C × Int} {i bd : Nat} {r l : List C} (h : i + bd < 24 → inF l (i + bd) = false) : putRow PF (i : Int) r l bd = (l, 0) := by
  unfold putRow
  have e : hasB (dimsN l) ((i : Int) + (bd : Int)) = false := by
    have e1 : ((i : Int) + (bd : Int)) = ((i + bd : Nat) : Int) := by omega
    rw [e1]
    by_cases h24 : i + bd < 24
    · rw [hasB_nat h24, dimsN_bit, h h24]; simp
    · exact hasB_no (by simp [isDimB]; omega)
  rw [e]; rfl
theorem bit_in {l : List C} {k : Nat} : (dimsN l).testBit k = true ↔ k < 24 ∧ inF l k = true := by rw [dimsN_bit, Bool.and_eq_true, decide_eq_true_eq]
/-! ### a term -/
/-- No branch whose face is never. -/
def neT : Tm → Prop := Tm.fold fun _ _ _ _ ks sys => (∀ p ∈ ks, p) ∧ ∀ b ∈ sys, b.1 ≠ [] ∧ ∀ p ∈ b.2, p
theorem ne_eq (t : Tm) : neT t ↔ (∀ x ∈ t.kids, neT x) ∧ ∀ b ∈ t.sys, b.1 ≠ [] ∧ ∀ x ∈ b.2, neT x := by
  unfold neT
  rw [fold_mk]
  simp only [List.mem_map, forall_exists_index, and_imp, forall_apply_eq_imp_iff₂]
/-- Where it has no such dimension nothing is changed. -/
theorem d_same {s : DStp} : ∀ (n : Nat) (t : Tm) (bd : Nat), blk t ≤ n → neT t → hsT t (s.i + bd) = false → dT (putOp s.i s.r) t bd = t
  | 0, t, bd, hn, _, _ => by have := blk_pos t; omega
  | n + 1, t, bd, hn, hne, hh => by
    rw [ne_eq] at hne
    rw [hs_eq, Bool.or_eq_false_iff, Bool.or_eq_false_iff] at hh
    obtain ⟨⟨hr, hs⟩, hp⟩ := hh
    rw [List.any_eq_false] at hs hp
    have no : ∀ l : List C, (dimsN l).testBit (s.i + bd) = false → (s.i + bd < 24 → inF l (s.i + bd) = false) := fun l h h24 => by
      cases hi : inF l (s.i + bd)
      · rfl
      · rw [bit_in.2 ⟨h24, hi⟩] at h; cases h
    have e1 : (ownP (putOp s.i s.r) t.kind t.r bd).1 = t.r := by
      unfold ownP
      split
      · have := put_no (PF := ptA) (r := s.r) (no t.r hr); exact congrArg Prod.fst this
      · have := put_no (PF := putF) (r := s.r) (no t.r hr); exact congrArg Prod.fst this
    have e2 : dK (putOp s.i s.r) t.kind t.kids bd = t.kids := by
      refine List.ext_getElem? fun i => ?_
      cases hx : t.kids[i]? with
      | none =>
        rw [List.getElem?_eq_none_iff] at hx ⊢
        rw [dK_len]; exact hx
      | some x =>
        rw [dK_get hx]
        have hm := List.mem_of_getElem? hx
        have := hp _ (pts_kid hx)
        have h2 : hsT x (s.i + (bd + bdK t.kind i)) = false := by
          have : hsT x (s.i + bd + bdK t.kind i) = false := by simpa using this
          rw [← Nat.add_assoc]; exact this
        rw [d_same n x _ (by have := blk_kid hm; omega) (hne.1 x hm) h2]
    have e3 : dS (putOp s.i s.r) t.kind t.sys bd = t.sys := by
      have fc : ∀ b ∈ t.sys, (putOp s.i s.r).fc b.1 bd = (b.1, 0) := fun b hb => put_no (PF := ptA) (r := s.r) (no b.1 (by simpa using hs b hb))
      unfold dS
      rw [List.filter_eq_self.2 (fun b hb => by
        unfold stayB
        rw [fc b hb]
        have := (hne.2 b hb).1
        cases hb1 : b.1 with
        | nil => exact absurd hb1 this
        | cons _ _ => rfl)]
      conv => rhs; rw [← List.map_id t.sys]
      refine List.map_congr_left fun b hb => ?_
      unfold dB
      rw [fc b hb]
      refine Prod.ext rfl ?_
      show (b.2.map fun x => dT (putOp s.i s.r) x (bd + moreK t.kind)) = b.2
      conv => rhs; rw [← List.map_id b.2]
      refine List.map_congr_left fun x hx => ?_
      have := hp _ (pts_sys hb hx)
      have h2 : hsT x (s.i + (bd + moreK t.kind)) = false := by
        have : hsT x (s.i + bd + moreK t.kind) = false := by simpa using this
        rw [← Nat.add_assoc]; exact this
      exact d_same n x _ (by have := blk_sub hb hx; omega) ((hne.2 b hb).2 x hx) h2
    rw [d_eq, e1, e2, e3]
    cases t
    rfl
/-! ### one after another -/
end Go.Proofs.YtjimednocmdpnaaGreat

namespace Go.Proofs.YtjimednocmdpnaaGreat
open Go.RowKit
set_option linter.unusedVariables false
set_option linter.unusedSimpArgs false

/-- What Take tells: refused ahead, by the lifting, by the putting; else r is put, and i taken out. -/
def takE (i : Int) (r : List C) (t : Tm) : Int := if wrD i r t = 0 then (if (liftFF r i 1).2 = 0 then (if eT (putOp i (liftFF r i 1).1) t 0 = 0 then eT (dropOp i) (ansD (putOp i (liftFF r i 1).1) t) 0 else eT (putOp i (liftFF r i 1).1) t 0) else (liftFF r i 1).2) else wrD i r t
def takT (i : Int) (r : List C) (t : Tm) : Tm := if wrD i r t = 0 then (if (liftFF r i 1).2 = 0 then (if eT (putOp i (liftFF r i 1).1) t 0 = 0 then ansD (dropOp i) (ansD (putOp i (liftFF r i 1).1) t) else noT) else noT) else noT
set_option maxRecDepth 100000 in
set_option maxHeartbeats 8000000 in
theorem dtake_any (t : Tm) (v : Value) (w : World) (hv : TmIn Tt w t v) (hb : blk t ≤ 20000) (i : Int) (r : List C) (vr : Value) (hr : ClRow Tt w r vr) (hrl : r.length ≤ 40000) (hsm : blk (ansD (putOp i (liftFF r i 1).1) t) ≤ 40000) : Calls Tryz.prog 13 #[v, .int .i64 i, vr] w fun e w' => ∃ v', e = .returned (.tuple #[v', .int .i64 (takE i r t)]) ∧ TmIn (OkN w.heap.size w') w' (takT i r t) v' ∧ Below w.heap.size w w' := by
  obtain ⟨ra, rc, ka, kc, sa, sc, rfl, ht⟩ := hv.form
  obtain ⟨w1, hw1⟩ : ∃ W, W = (w.alloc (.cells #[.int .i64 t.kind, .int .i64 t.n, .string t.name, .slice ra t.r.length rc, .slice ka t.kids.length kc, .slice sa t.sys.length sc] 26)).alloc (.cells #[.int .i64 0, .int .i64 0, .string ⟨#[]⟩, .slice none 0 0, .slice none 0 0, .slice none 0 0] 26) := ⟨_, rfl⟩
  have b1 : Below w.heap.size w w1 := by rw [hw1]; exact bchain (belowA _ _) (belowA _ _)
  obtain ⟨X, hX⟩ : ∃ X, X = w.heap.size := ⟨_, rfl⟩
  have s1 : w1.heap.size = X + 2 := by rw [hw1, hX]; simp
  have x1 : Six w1 X (.int .i64 t.kind) (.int .i64 t.n) (.string t.name) (.slice ra t.r.length rc) (.slice ka t.kids.length kc) (.slice sa t.sys.length sc) := ⟨by rw [hX, hw1]; exact (Below.heap_alloc _ _ _ (by simp)).trans (heapNew w _)⟩
  have x2 : Six w1 (X + 1) (.int .i64 0) (.int .i64 0) (.string ⟨#[]⟩) (.slice none 0 0) (.slice none 0 0) (.slice none 0 0) := ⟨by
    rw [hX, hw1]; have := heapNew (w.alloc (.cells #[.int .i64 t.kind, .int .i64 t.n, .string t.name, .slice ra t.r.length rc, .slice ka t.kids.length kc, .slice sa t.sys.length sc] 26)) (.cells #[.int .i64 0, .int .i64 0, .string ⟨#[]⟩, .slice none 0 0, .slice none 0 0, .slice none 0 0] 26); rwa [World.size_alloc] at this⟩
  have HC : Hid (∀ W, Below w1.heap.size w1 W → Six W X (.int .i64 t.kind) (.int .i64 t.n) (.string t.name) (.slice ra t.r.length rc) (.slice ka t.kids.length kc) (.slice sa t.sys.length sc)) := fun W q => x1.blw q
  have HZ : Hid (∀ W, Below w1.heap.size w1 W → Six W (X + 1) (.int .i64 0) (.int .i64 0) (.string ⟨#[]⟩) (.slice none 0 0) (.slice none 0 0) (.slice none 0 0)) := fun W q => x2.blw q
  have HT : Hid (∀ W, Below w1.heap.size w1 W → TmIn Tt W t (.agg #[.int .i64 t.kind, .int .i64 t.n, .string t.name, .slice ra t.r.length rc, .slice ka t.kids.length kc, .slice sa t.sys.length sc])) := fun W q => ((ht.blw b1).blw q).value
  have HB : Hid (∀ W, Below w1.heap.size w1 W → Below X w W) := fun W q => by rw [hX]; exact bchain b1 q
  have HXs : Hid (X = w.heap.size) := hX
  have Hs1 : Hid (w1.heap.size = X + 2) := s1
  have HW : Hid (_ = _) := hw1
  have HR : Hid (∀ W, Below w1.heap.size w1 W → ClRow Tt W r vr) := fun W q => (hr.blw b1).blw q
  have cw := dwrong_any t _ w1 (HT.out w1 (Below.refl _ _)) hb i r vr (HR.out w1 (Below.refl _ _)) hrl
  have cl : Hid (∀ V, Below w1.heap.size w1 V → Calls Tryz.prog 12 #[vr, .int .i64 i, .int .i64 1] V fun e w' => ∃ v, e = .returned (.tuple #[v, .int .i64 (liftFF r i 1).2]) ∧ OwnsC w' V.heap.size v (liftFF r i 1).1 ∧ Below V.heap.size V w') := fun V q => Lift_any r i 1 vr V (HR.out V q).frow hrl
  have HE : Hid (takE i r t = (if wrD i r t = 0 then (if (liftFF r i 1).2 = 0 then (if eT (putOp i (liftFF r i 1).1) t 0 = 0 then eT (dropOp i) (ansD (putOp i (liftFF r i 1).1) t) 0 else eT (putOp i (liftFF r i 1).1) t 0) else (liftFF r i 1).2) else wrD i r t) ∧ takT i r t = (if wrD i r t = 0 then (if (liftFF r i 1).2 = 0 then (if eT (putOp i (liftFF r i 1).1) t 0 = 0 then ansD (dropOp i) (ansD (putOp i (liftFF r i 1).1) t) else noT) else noT) else noT)) := ⟨rfl, rfl⟩
  have HOk : Hid (wrD i r t = 0 → 0 ≤ i ∧ i ≤ 1000000) := fun h => by have := (wrD_ok h).1; omega
  have hll := liftFF_len r i 1
  obtain ⟨e0, he0⟩ : ∃ e, e = wrD i r t := ⟨_, rfl⟩
  rw [← he0] at cw HE HOk
  obtain ⟨Pl, hPl⟩ : ∃ P, P = liftFF r i 1 := ⟨_, rfl⟩
  rw [← hPl] at cl HE hsm hll
  obtain ⟨rl, el⟩ := Pl
  dsimp only at cl HE hsm hll
  obtain ⟨va, vc, rfl, _⟩ := id hr
  obtain ⟨LR, hLR⟩ : ∃ L, L = r.length := ⟨_, rfl⟩
  rw [← hLR] at cw HR cl
  simp only [← hLR]
  rw [← hX]
  have Hbt : Hid (blk t ≤ 40000) := (by omega : blk t ≤ 40000)
  clear he0 hw1 hX s1 x1 x2 hv ht b1 hr hLR hPl
  go_enter Tryz.func13, Tryz.ntmps13
  go_upto_region 1 with fail
  rw [← HW.out]
  simp only [← HXs.out]
  clear HW
  obtain ⟨y0, y1, y2, y3, y4, y5, _⟩ := (HC.out w1 (Below.refl _ _)).cells
  go_wp2_with fail
  refine cw.mono ?_
  rintro e w2 ⟨rfl, b2⟩
  clear cw y0 y1 y2 y3 y4 y5
  have hsz := Hs1.out
  by_cases hz : e0 = 0
  rotate_left
  · have Hf : Hid (takE i r t = e0 ∧ takT i r t = noT) := ⟨by rw [HE.out.1, if_neg hz], by rw [HE.out.2, if_neg hz]⟩
    have hz1 : (e0 == 0) = false := by simpa using hz
    clear HE HOk cl
    have zz := HZ.out w2 b2
    have zz2 := zz.set6 (.int .i64 0) (.int .i64 0) (.string ⟨#[]⟩) (.slice none 0 0) (.slice none 0 0) (.slice none 0 0)
    obtain ⟨o0, o1, o2, o3, o4, o5, ff⟩ := zz.cells
    have f0 := ff 0
    have f1 := ff 1
    have f2 := ff 2
    have f3 := ff 3
    have f4 := ff 4
    have f5 := ff 5
    obtain ⟨h0, h1, h2, h3, h4, h5, _⟩ := zz2.cells
    obtain ⟨wz, hwz⟩ : ∃ W, W = (((((w2.setCell ⟨X + 1, 0, none⟩ (.int .i64 0)).setCell ⟨X + 1, 1, none⟩ (.int .i64 0)).setCell ⟨X + 1, 2, none⟩ (.string ⟨#[]⟩)).setCell ⟨X + 1, 3, none⟩ (.slice none 0 0)).setCell ⟨X + 1, 4, none⟩ (.slice none 0 0)).setCell ⟨X + 1, 5, none⟩ (.slice none 0 0) := ⟨_, rfl⟩
    rw [← hwz] at h0 h1 h2 h3 h4 h5
    have kz : Kn (fun q => q ≠ X + 1) w2 wz := by rw [hwz]; exact kn_set6 _ _ _ _ _ _ _ _
    have bz : Below X w wz := (HB.out w2 b2).trans (kz.below (fun q hq => by omega) (by have := (HB.out w2 b2).size; have := HXs.out; omega))
    have Hwz : Hid (_ = _) := hwz
    clear hwz ff zz zz2 kz
    go_wp2_with fail
    rw [← Hwz.out]
    exact bodyPost_ret (v := .tuple #[.agg #[.int .i64 0, .int .i64 0, .string ⟨#[]⟩, .slice none 0 0, .slice none 0 0, .slice none 0 0], .int .i64 (e0)]) (by simp only [results, Tryz.results13]; simp [go_sem, h0, h1, h2, h3, h4, h5]) rfl ⟨_, by rw [Hf.out.1], by rw [Hf.out.2]; exact noT_in _ _, bz⟩
  subst hz
  have hok := HOk.out rfl
  rw [if_pos rfl, if_pos rfl] at HE
  have cc := cl.out w2 b2
  go_wp2_with fail
  refine cc.mono ?_
  rintro e w3 ⟨v3, rfl, hO3, b3⟩
  clear cc cl
  have b13 : Below w1.heap.size w1 w3 := b2.trans (b3.mono b2.size)
  obtain ⟨va3, vc3, rfl⟩ := OwnsC.len hO3
  obtain ⟨L3, hL3⟩ : ∃ L, L = rl.length := ⟨_, rfl⟩
  have HR3 : Hid (∀ W, Below w3.heap.size w3 W → ClRow Tt W rl (.slice va3 L3 vc3)) := fun W q => by
    rw [hL3]; exact ((OwnsC.okn hO3).keep (Nat.le_refl _) (fun _ _ => trivial) (fun _ _ _ => rfl)).blw q
  rw [← hL3]
  clear hO3 hL3
  by_cases hz : el = 0
  rotate_left
  · have Hf : Hid (takE i r t = el ∧ takT i r t = noT) := ⟨by rw [HE.out.1, if_neg hz], by rw [HE.out.2, if_neg hz]⟩
    have hz1 : (el == 0) = false := by simpa using hz
    clear HE HOk
    have zz := HZ.out w3 b13
    have zz2 := zz.set6 (.int .i64 0) (.int .i64 0) (.string ⟨#[]⟩) (.slice none 0 0) (.slice none 0 0) (.slice none 0 0)
    obtain ⟨o0, o1, o2, o3, o4, o5, ff⟩ := zz.cells
    have f0 := ff 0
    have f1 := ff 1
    have f2 := ff 2
    have f3 := ff 3
    have f4 := ff 4
    have f5 := ff 5
    obtain ⟨h0, h1, h2, h3, h4, h5, _⟩ := zz2.cells
    obtain ⟨wz, hwz⟩ : ∃ W, W = (((((w3.setCell ⟨X + 1, 0, none⟩ (.int .i64 0)).setCell ⟨X + 1, 1, none⟩ (.int .i64 0)).setCell ⟨X + 1, 2, none⟩ (.string ⟨#[]⟩)).setCell ⟨X + 1, 3, none⟩ (.slice none 0 0)).setCell ⟨X + 1, 4, none⟩ (.slice none 0 0)).setCell ⟨X + 1, 5, none⟩ (.slice none 0 0) := ⟨_, rfl⟩
    rw [← hwz] at h0 h1 h2 h3 h4 h5
    have kz : Kn (fun q => q ≠ X + 1) w3 wz := by rw [hwz]; exact kn_set6 _ _ _ _ _ _ _ _
    have bz : Below X w wz := (HB.out w3 b13).trans (kz.below (fun q hq => by omega) (by have := (HB.out w3 b13).size; have := HXs.out; omega))
    have Hwz : Hid (_ = _) := hwz
    clear hwz ff zz zz2 kz
    go_wp2_with fail
    rw [← Hwz.out]
    exact bodyPost_ret (v := .tuple #[.agg #[.int .i64 0, .int .i64 0, .string ⟨#[]⟩, .slice none 0 0, .slice none 0 0, .slice none 0 0], .int .i64 (el)]) (by simp only [results, Tryz.results13]; simp [go_sem, h0, h1, h2, h3, h4, h5]) rfl ⟨_, by rw [Hf.out.1], by rw [Hf.out.2]; exact noT_in _ _, bz⟩
  subst hz
  rw [if_pos rfl, if_pos rfl] at HE
  have cP : Hid (∀ V, Below w3.heap.size w3 V → Calls Tryz.prog 22 #[.int .i64 i, .slice va3 L3 vc3] V fun e w' => ∃ fV cV, e = .returned (.agg #[fV, cV]) ∧ RowC (putOp i rl).fn fV w' ∧ RowC (putOp i rl).fc cV w' ∧ Below V.heap.size V w') := fun V q => putting_any i rl _ V (HR3.out V q) (by omega) hok
  have HT3 : Hid (∀ V, Below w3.heap.size w3 V → TmIn Tt V t (.agg #[.int .i64 t.kind, .int .i64 t.n, .string t.name, .slice ra t.r.length rc, .slice ka t.kids.length kc, .slice sa t.sys.length sc])) := fun V q => HT.out V (b13.trans (q.mono b13.size))
  have cT : Hid (∀ V fV cV, Below w3.heap.size w3 V → RowC (putOp i rl).fn fV V → RowC (putOp i rl).fc cV V → Calls Tryz.prog 23 #[.agg #[fV, cV], .agg #[.int .i64 t.kind, .int .i64 t.n, .string t.name, .slice ra t.r.length rc, .slice ka t.kids.length kc, .slice sa t.sys.length sc]] V fun e w' => ∃ v', e = .returned (.tuple #[v', .int .i64 (eT (putOp i rl) t 0)]) ∧ TmIn (OkN V.heap.size w') w' (ansD (putOp i rl) t) v' ∧ Below V.heap.size V w') := fun V fV cV q h1 h2 => dterm_any t _ V (HT3.out V q) h1 h2 Hbt.out
  obtain ⟨er, her⟩ : ∃ e, e = eT (putOp i rl) t 0 := ⟨_, rfl⟩
  obtain ⟨T, hT⟩ : ∃ T, T = ansD (putOp i rl) t := ⟨_, rfl⟩
  rw [← her, ← hT] at cT HE
  rw [← hT] at hsm
  have HC3 : Hid (∀ V, Below w3.heap.size w3 V → Six V X (.int .i64 t.kind) (.int .i64 t.n) (.string t.name) (.slice ra t.r.length rc) (.slice ka t.kids.length kc) (.slice sa t.sys.length sc)) := fun V q => HC.out V (b13.trans (q.mono b13.size))
  clear her hT HOk
  go_upto_region 7 with fail
  have hS1 : Below w3.heap.size w3 w3 := Below.refl _ _
  go_cut [11, 10] (fun s se wx => ∃ o ra2 rc2 ka2 kc2 sa2 sc2, s = .pointer (some ⟨o, 0, none⟩) ∧ se = .int .i64 er ∧ Six wx o (.int .i64 T.kind) (.int .i64 T.n) (.string T.name) (.slice ra2 T.r.length rc2) (.slice ka2 T.kids.length kc2) (.slice sa2 T.sys.length sc2) ∧ TmIn Tt wx T (.agg #[.int .i64 T.kind, .int .i64 T.n, .string T.name, .slice ra2 T.r.length rc2, .slice ka2 T.kids.length kc2, .slice sa2 T.sys.length sc2]) ∧ Below w3.heap.size w3 wx ∧ w3.heap.size ≤ o)
  case first => as_aux_lemma =>
    refine wp_region_held_drew (S := fun V => Below w3.heap.size w3 V) (by kernel_rfl) (hS1.drew) (fun hS => ?_)
    obtain ⟨wd, hwd⟩ : ∃ V, V = w3.drew := ⟨_, rfl⟩
    have hbd : Below w3.heap.size w3 wd := by rw [hwd]; exact (Below.refl _ _).drew
    rw [← hwd] at hS ⊢
    clear hwd
    refine wpAnyH_take (i := 0) (v := .int .i64 i) rfl (by kernel_rfl) (by kernel_rfl) (by kernel_rfl) (fun _ _ _ h => h) (Or.inl ⟨by rfl, fun w hS => by go_simp⟩) hS ?_
    try simp only [Act.put, List.getElem_toArray, List.getElem_cons_zero, List.getElem_cons_succ, List.setIfInBounds_toArray, List.set_cons_zero, List.set_cons_succ]
    refine wpAnyH_take (i := 1) (v := .slice va3 L3 vc3) rfl (by kernel_rfl) (by kernel_rfl) (by kernel_rfl) (fun _ _ _ h => h) (Or.inl ⟨by rfl, fun w hS => by go_simp⟩) hS ?_
    try simp only [Act.put, List.getElem_toArray, List.getElem_cons_zero, List.getElem_cons_succ, List.setIfInBounds_toArray, List.set_cons_zero, List.set_cons_succ]
    refine wpAnyH_take (i := 3) (v := .agg #[.int .i64 t.kind, .int .i64 t.n, .string t.name, .slice ra t.r.length rc, .slice ka t.kids.length kc, .slice sa t.sys.length sc]) rfl (by kernel_rfl) (by kernel_rfl) (by kernel_rfl) (fun _ _ _ h => h) (Or.inl ⟨by rfl, fun w hS => by obtain ⟨y0, y1, y2, y3, y4, y5, _⟩ := (HC3.out w hS).cells; go_simp⟩) hS ?_
    try simp only [Act.put, List.getElem_toArray, List.getElem_cons_zero, List.getElem_cons_succ, List.setIfInBounds_toArray, List.set_cons_zero, List.set_cons_succ]
    refine wpAnyH_ready (rs := [2, 8]) (by kernel_rfl) (by simp) ?_
    refine ready_cons rfl (fun KK hKK => ?_) (ready_cons rfl (fun KK hKK => ?_) AllReadyH.nil)
    · skip
      refine ⟨?_⟩
      have cc := cP.out wd hS
      go_simp
      refine cc.mono ?_
      rintro e w4 ⟨fV, cV, rfl, hF, hC, hbP⟩
      have hSw4 : Below w3.heap.size w3 w4 := hS.trans (hbP.mono hS.size)
      clear cc
      refine hKK.out _ _ hSw4 (fun hS => ?_)
      clear hKK KK
      try simp only [Act.put, List.getElem_toArray, List.getElem_cons_zero, List.getElem_cons_succ, List.setIfInBounds_toArray, List.set_cons_zero, List.set_cons_succ]
      refine wpAnyH_ready (rs := [4, 8]) (by kernel_rfl) (by simp) ?_
      refine ready_cons rfl (fun KK hKK => ?_) (ready_cons rfl (fun KK hKK => ?_) AllReadyH.nil)
      · skip
        refine ⟨?_⟩
        have cc := cT.out w4 fV cV hS hF hC
        go_simp
        refine cc.mono ?_
        rintro e w5 ⟨v3, rfl, hv3, hbT⟩
        obtain ⟨ra2, rc2, ka2, kc2, sa2, sc2, rfl, ht2⟩ := hv3.form
        have htv := ht2.value
        have hSw5 : Below w3.heap.size w3 w5 := hS.trans (hbT.mono hS.size)
        clear cc ht2 hv3
        refine hKK.out _ _ hSw5 (fun hS => ?_)
        clear hKK KK
        try simp only [Act.put, List.getElem_toArray, List.getElem_cons_zero, List.getElem_cons_succ, List.setIfInBounds_toArray, List.set_cons_zero, List.set_cons_succ]
        refine wpAnyH_take (i := 5) (v := .tuple #[.agg #[.int .i64 T.kind, .int .i64 T.n, .string T.name, .slice ra2 T.r.length rc2, .slice ka2 T.kids.length kc2, .slice sa2 T.sys.length sc2], .int .i64 er]) rfl (by kernel_rfl) (by kernel_rfl) (by kernel_rfl) (fun _ _ _ h => h) (Or.inl ⟨by rfl, fun w hS => by go_simp⟩) hS ?_
        try simp only [Act.put, List.getElem_toArray, List.getElem_cons_zero, List.getElem_cons_succ, List.setIfInBounds_toArray, List.set_cons_zero, List.set_cons_succ]
        refine wpAnyH_take (i := 6) (v := .agg #[.int .i64 T.kind, .int .i64 T.n, .string T.name, .slice ra2 T.r.length rc2, .slice ka2 T.kids.length kc2, .slice sa2 T.sys.length sc2]) rfl (by kernel_rfl) (by kernel_rfl) (by kernel_rfl) (fun _ _ _ h => h) (Or.inl ⟨by rfl, fun w hS => by go_simp⟩) hS ?_
        try simp only [Act.put, List.getElem_toArray, List.getElem_cons_zero, List.getElem_cons_succ, List.setIfInBounds_toArray, List.set_cons_zero, List.set_cons_succ]
        refine wpAnyH_take (i := 7) (v := .int .i64 er) rfl (by kernel_rfl) (by kernel_rfl) (by kernel_rfl) (fun _ _ _ h => h) (Or.inl ⟨by rfl, fun w hS => by go_simp⟩) hS ?_
        try simp only [Act.put, List.getElem_toArray, List.getElem_cons_zero, List.getElem_cons_succ, List.setIfInBounds_toArray, List.set_cons_zero, List.set_cons_succ]
        refine wpAnyH_ready (rs := [8]) (by kernel_rfl) (by simp) ?_
        refine ready_cons rfl (fun KK hKK => ?_) AllReadyH.nil
        obtain ⟨w6, hw6⟩ : ∃ W, W = w5.alloc (.cells #[.int .i64 0, .int .i64 0, .string ⟨#[]⟩, .slice none 0 0, .slice none 0 0, .slice none 0 0] 26) := ⟨_, rfl⟩
        have bw6 : Below w5.heap.size w5 w6 := by rw [hw6]; exact belowA _ _
        have sw6 : w6.heap.size = w5.heap.size + 1 := by rw [hw6]; simp
        have hZ : Six w6 w5.heap.size (.int .i64 0) (.int .i64 0) (.string ⟨#[]⟩) (.slice none 0 0) (.slice none 0 0) (.slice none 0 0) := ⟨by rw [hw6]; exact heapNew _ _⟩
        have hSw6 : Below w3.heap.size w3 w6 := hS.trans (bw6.mono hS.size)
        have Hw6 : Hid (_ = _) := hw6
        clear hw6
        refine ⟨?_⟩
        go_simp
        rw [← Hw6.out]
        refine hKK.out _ _ hSw6 (fun hS => ?_)
        clear hKK KK
        try simp only [Act.put, List.getElem_toArray, List.getElem_cons_zero, List.getElem_cons_succ, List.setIfInBounds_toArray, List.set_cons_zero, List.set_cons_succ]
        have hge : w3.heap.size ≤ w5.heap.size := hSw5.size
        have zz2 := hZ.set6 (.int .i64 T.kind) (.int .i64 T.n) (.string T.name) (.slice ra2 T.r.length rc2) (.slice ka2 T.kids.length kc2) (.slice sa2 T.sys.length sc2)
        obtain ⟨o0, o1, o2, o3, o4, o5, ff⟩ := hZ.cells
        have f0 := ff 0
        have f1 := ff 1
        have f2 := ff 2
        have f3 := ff 3
        have f4 := ff 4
        have f5 := ff 5
        obtain ⟨w9, hwz⟩ : ∃ W, W = (((((w6.setCell ⟨w5.heap.size, 0, none⟩ (.int .i64 T.kind)).setCell ⟨w5.heap.size, 1, none⟩ (.int .i64 T.n)).setCell ⟨w5.heap.size, 2, none⟩ (.string T.name)).setCell ⟨w5.heap.size, 3, none⟩ (.slice ra2 T.r.length rc2)).setCell ⟨w5.heap.size, 4, none⟩ (.slice ka2 T.kids.length kc2)).setCell ⟨w5.heap.size, 5, none⟩ (.slice sa2 T.sys.length sc2) := ⟨_, rfl⟩
        rw [← hwz] at zz2
        have kz : Kn (fun q => q ≠ w5.heap.size) w6 w9 := by rw [hwz]; exact kn_set6 _ _ _ _ _ _ _ _
        have HTm : Hid (TmIn Tt w9 T (.agg #[.int .i64 T.kind, .int .i64 T.n, .string T.name, .slice ra2 T.r.length rc2, .slice ka2 T.kids.length kc2, .slice sa2 T.sys.length sc2])) := htv.keep (Nat.le_trans bw6.size kz.size) (fun _ _ => trivial) (fun q hq hs => (kz.block q (by have := hq.lt; omega) (by have := bw6.size; omega)).trans (bw6.block q hs))
        have hS5 : Below w3.heap.size w3 w9 := hS.trans (kz.below (fun q hq => by omega) hS.size)
        have Hwz : Hid (_ = _) := hwz
        clear hwz ff kz htv
        refine wpAnyH_ready (rs := [9]) (by kernel_rfl) (by simp) ?_
        refine ready_cons rfl (fun KK hKK => ?_) AllReadyH.nil
        refine ⟨?_⟩
        go_simp
        rw [← Hwz.out]
        refine hKK.out _ _ hS5 (fun hS => ?_)
        clear hKK KK
        try simp only [Act.put, List.getElem_toArray, List.getElem_cons_zero, List.getElem_cons_succ, List.setIfInBounds_toArray, List.set_cons_zero, List.set_cons_succ]
        refine wpAnyH_take (i := 10) (v := .int .i64 er) rfl (by kernel_rfl) (by kernel_rfl) (by kernel_rfl) (fun _ _ _ h => h) (Or.inl ⟨by rfl, fun w hS => by go_simp⟩) hS ?_
        try simp only [Act.put, List.getElem_toArray, List.getElem_cons_zero, List.getElem_cons_succ, List.setIfInBounds_toArray, List.set_cons_zero, List.set_cons_succ]
        refine wpAnyH_done (by kernel_rfl) ?_ _
        go_wp2_with fail
        go_meet
        exact ⟨_, _, _, _, _, _, _, rfl, rfl, zz2, HTm.out, hS, hge⟩
      · skip
        obtain ⟨w5, hw5⟩ : ∃ W, W = w4.alloc (.cells #[.int .i64 0, .int .i64 0, .string ⟨#[]⟩, .slice none 0 0, .slice none 0 0, .slice none 0 0] 26) := ⟨_, rfl⟩
        have bw5 : Below w4.heap.size w4 w5 := by rw [hw5]; exact belowA _ _
        have sw5 : w5.heap.size = w4.heap.size + 1 := by rw [hw5]; simp
        have hZ : Six w5 w4.heap.size (.int .i64 0) (.int .i64 0) (.string ⟨#[]⟩) (.slice none 0 0) (.slice none 0 0) (.slice none 0 0) := ⟨by rw [hw5]; exact heapNew _ _⟩
        have hSw5 : Below w3.heap.size w3 w5 := hS.trans (bw5.mono hS.size)
        have Hw5 : Hid (_ = _) := hw5
        clear hw5
        refine ⟨?_⟩
        go_simp
        rw [← Hw5.out]
        refine hKK.out _ _ hSw5 (fun hS => ?_)
        clear hKK KK
        try simp only [Act.put, List.getElem_toArray, List.getElem_cons_zero, List.getElem_cons_succ, List.setIfInBounds_toArray, List.set_cons_zero, List.set_cons_succ]
        have hF := hF.blw bw5
        have hC := hC.blw bw5
        refine wpAnyH_ready (rs := [4]) (by kernel_rfl) (by simp) ?_
        refine ready_cons rfl (fun KK hKK => ?_) AllReadyH.nil
        refine ⟨?_⟩
        have cc := cT.out w5 fV cV hS hF hC
        go_simp
        refine cc.mono ?_
        rintro e w6 ⟨v3, rfl, hv3, hbT⟩
        obtain ⟨ra2, rc2, ka2, kc2, sa2, sc2, rfl, ht2⟩ := hv3.form
        have htv := ht2.value
        have hSw6 : Below w3.heap.size w3 w6 := hS.trans (hbT.mono hS.size)
        clear cc ht2 hv3
        refine hKK.out _ _ hSw6 (fun hS => ?_)
        clear hKK KK
        try simp only [Act.put, List.getElem_toArray, List.getElem_cons_zero, List.getElem_cons_succ, List.setIfInBounds_toArray, List.set_cons_zero, List.set_cons_succ]
        refine wpAnyH_take (i := 5) (v := .tuple #[.agg #[.int .i64 T.kind, .int .i64 T.n, .string T.name, .slice ra2 T.r.length rc2, .slice ka2 T.kids.length kc2, .slice sa2 T.sys.length sc2], .int .i64 er]) rfl (by kernel_rfl) (by kernel_rfl) (by kernel_rfl) (fun _ _ _ h => h) (Or.inl ⟨by rfl, fun w hS => by go_simp⟩) hS ?_
        try simp only [Act.put, List.getElem_toArray, List.getElem_cons_zero, List.getElem_cons_succ, List.setIfInBounds_toArray, List.set_cons_zero, List.set_cons_succ]
        refine wpAnyH_take (i := 6) (v := .agg #[.int .i64 T.kind, .int .i64 T.n, .string T.name, .slice ra2 T.r.length rc2, .slice ka2 T.kids.length kc2, .slice sa2 T.sys.length sc2]) rfl (by kernel_rfl) (by kernel_rfl) (by kernel_rfl) (fun _ _ _ h => h) (Or.inl ⟨by rfl, fun w hS => by go_simp⟩) hS ?_
        try simp only [Act.put, List.getElem_toArray, List.getElem_cons_zero, List.getElem_cons_succ, List.setIfInBounds_toArray, List.set_cons_zero, List.set_cons_succ]
        refine wpAnyH_take (i := 7) (v := .int .i64 er) rfl (by kernel_rfl) (by kernel_rfl) (by kernel_rfl) (fun _ _ _ h => h) (Or.inl ⟨by rfl, fun w hS => by go_simp⟩) hS ?_
        try simp only [Act.put, List.getElem_toArray, List.getElem_cons_zero, List.getElem_cons_succ, List.setIfInBounds_toArray, List.set_cons_zero, List.set_cons_succ]
        have hZ := hZ.blw hbT
        have hge : w3.heap.size ≤ w4.heap.size := hSw4.size
        have zz2 := hZ.set6 (.int .i64 T.kind) (.int .i64 T.n) (.string T.name) (.slice ra2 T.r.length rc2) (.slice ka2 T.kids.length kc2) (.slice sa2 T.sys.length sc2)
        obtain ⟨o0, o1, o2, o3, o4, o5, ff⟩ := hZ.cells
        have f0 := ff 0
        have f1 := ff 1
        have f2 := ff 2
        have f3 := ff 3
        have f4 := ff 4
        have f5 := ff 5
        obtain ⟨w9, hwz⟩ : ∃ W, W = (((((w6.setCell ⟨w4.heap.size, 0, none⟩ (.int .i64 T.kind)).setCell ⟨w4.heap.size, 1, none⟩ (.int .i64 T.n)).setCell ⟨w4.heap.size, 2, none⟩ (.string T.name)).setCell ⟨w4.heap.size, 3, none⟩ (.slice ra2 T.r.length rc2)).setCell ⟨w4.heap.size, 4, none⟩ (.slice ka2 T.kids.length kc2)).setCell ⟨w4.heap.size, 5, none⟩ (.slice sa2 T.sys.length sc2) := ⟨_, rfl⟩
        rw [← hwz] at zz2
        have kz : Kn (fun q => q ≠ w4.heap.size) w6 w9 := by rw [hwz]; exact kn_set6 _ _ _ _ _ _ _ _
        have HTm : Hid (TmIn Tt w9 T (.agg #[.int .i64 T.kind, .int .i64 T.n, .string T.name, .slice ra2 T.r.length rc2, .slice ka2 T.kids.length kc2, .slice sa2 T.sys.length sc2])) := htv.keep kz.size (fun _ _ => trivial) (fun q hq hs => kz.block q (by have := hq.1; omega) hs)
        have hS5 : Below w3.heap.size w3 w9 := hS.trans (kz.below (fun q hq => by omega) hS.size)
        have Hwz : Hid (_ = _) := hwz
        clear hwz ff kz htv
        refine wpAnyH_ready (rs := [9]) (by kernel_rfl) (by simp) ?_
        refine ready_cons rfl (fun KK hKK => ?_) AllReadyH.nil
        refine ⟨?_⟩
        go_simp
        rw [← Hwz.out]
        refine hKK.out _ _ hS5 (fun hS => ?_)
        clear hKK KK
        try simp only [Act.put, List.getElem_toArray, List.getElem_cons_zero, List.getElem_cons_succ, List.setIfInBounds_toArray, List.set_cons_zero, List.set_cons_succ]
        refine wpAnyH_take (i := 10) (v := .int .i64 er) rfl (by kernel_rfl) (by kernel_rfl) (by kernel_rfl) (fun _ _ _ h => h) (Or.inl ⟨by rfl, fun w hS => by go_simp⟩) hS ?_
        try simp only [Act.put, List.getElem_toArray, List.getElem_cons_zero, List.getElem_cons_succ, List.setIfInBounds_toArray, List.set_cons_zero, List.set_cons_succ]
        refine wpAnyH_done (by kernel_rfl) ?_ _
        go_wp2_with fail
        go_meet
        exact ⟨_, _, _, _, _, _, _, rfl, rfl, zz2, HTm.out, hS, hge⟩
    · skip
      obtain ⟨w4, hw4⟩ : ∃ W, W = wd.alloc (.cells #[.int .i64 0, .int .i64 0, .string ⟨#[]⟩, .slice none 0 0, .slice none 0 0, .slice none 0 0] 26) := ⟨_, rfl⟩
      have bw4 : Below wd.heap.size wd w4 := by rw [hw4]; exact belowA _ _
      have sw4 : w4.heap.size = wd.heap.size + 1 := by rw [hw4]; simp
      have hZ : Six w4 wd.heap.size (.int .i64 0) (.int .i64 0) (.string ⟨#[]⟩) (.slice none 0 0) (.slice none 0 0) (.slice none 0 0) := ⟨by rw [hw4]; exact heapNew _ _⟩
      have hSw4 : Below w3.heap.size w3 w4 := hS.trans (bw4.mono hS.size)
      have Hw4 : Hid (_ = _) := hw4
      clear hw4
      refine ⟨?_⟩
      go_simp
      rw [← Hw4.out]
      refine hKK.out _ _ hSw4 (fun hS => ?_)
      clear hKK KK
      try simp only [Act.put, List.getElem_toArray, List.getElem_cons_zero, List.getElem_cons_succ, List.setIfInBounds_toArray, List.set_cons_zero, List.set_cons_succ]
      refine wpAnyH_ready (rs := [2]) (by kernel_rfl) (by simp) ?_
      refine ready_cons rfl (fun KK hKK => ?_) AllReadyH.nil
      refine ⟨?_⟩
      have cc := cP.out w4 hS
      go_simp
      refine cc.mono ?_
      rintro e w5 ⟨fV, cV, rfl, hF, hC, hbP⟩
      have hSw5 : Below w3.heap.size w3 w5 := hS.trans (hbP.mono hS.size)
      clear cc
      refine hKK.out _ _ hSw5 (fun hS => ?_)
      clear hKK KK
      try simp only [Act.put, List.getElem_toArray, List.getElem_cons_zero, List.getElem_cons_succ, List.setIfInBounds_toArray, List.set_cons_zero, List.set_cons_succ]
      have hZ := hZ.blw hbP
      refine wpAnyH_ready (rs := [4]) (by kernel_rfl) (by simp) ?_
      refine ready_cons rfl (fun KK hKK => ?_) AllReadyH.nil
      refine ⟨?_⟩
      have cc := cT.out w5 fV cV hS hF hC
      go_simp
      refine cc.mono ?_
      rintro e w6 ⟨v3, rfl, hv3, hbT⟩
      obtain ⟨ra2, rc2, ka2, kc2, sa2, sc2, rfl, ht2⟩ := hv3.form
      have htv := ht2.value
      have hSw6 : Below w3.heap.size w3 w6 := hS.trans (hbT.mono hS.size)
      clear cc ht2 hv3
      refine hKK.out _ _ hSw6 (fun hS => ?_)
      clear hKK KK
      try simp only [Act.put, List.getElem_toArray, List.getElem_cons_zero, List.getElem_cons_succ, List.setIfInBounds_toArray, List.set_cons_zero, List.set_cons_succ]
      refine wpAnyH_take (i := 5) (v := .tuple #[.agg #[.int .i64 T.kind, .int .i64 T.n, .string T.name, .slice ra2 T.r.length rc2, .slice ka2 T.kids.length kc2, .slice sa2 T.sys.length sc2], .int .i64 er]) rfl (by kernel_rfl) (by kernel_rfl) (by kernel_rfl) (fun _ _ _ h => h) (Or.inl ⟨by rfl, fun w hS => by go_simp⟩) hS ?_
      try simp only [Act.put, List.getElem_toArray, List.getElem_cons_zero, List.getElem_cons_succ, List.setIfInBounds_toArray, List.set_cons_zero, List.set_cons_succ]
      refine wpAnyH_take (i := 6) (v := .agg #[.int .i64 T.kind, .int .i64 T.n, .string T.name, .slice ra2 T.r.length rc2, .slice ka2 T.kids.length kc2, .slice sa2 T.sys.length sc2]) rfl (by kernel_rfl) (by kernel_rfl) (by kernel_rfl) (fun _ _ _ h => h) (Or.inl ⟨by rfl, fun w hS => by go_simp⟩) hS ?_
      try simp only [Act.put, List.getElem_toArray, List.getElem_cons_zero, List.getElem_cons_succ, List.setIfInBounds_toArray, List.set_cons_zero, List.set_cons_succ]
      refine wpAnyH_take (i := 7) (v := .int .i64 er) rfl (by kernel_rfl) (by kernel_rfl) (by kernel_rfl) (fun _ _ _ h => h) (Or.inl ⟨by rfl, fun w hS => by go_simp⟩) hS ?_
      try simp only [Act.put, List.getElem_toArray, List.getElem_cons_zero, List.getElem_cons_succ, List.setIfInBounds_toArray, List.set_cons_zero, List.set_cons_succ]
      have hZ := hZ.blw hbT
      have hge : w3.heap.size ≤ wd.heap.size := hbd.size
      have zz2 := hZ.set6 (.int .i64 T.kind) (.int .i64 T.n) (.string T.name) (.slice ra2 T.r.length rc2) (.slice ka2 T.kids.length kc2) (.slice sa2 T.sys.length sc2)
      obtain ⟨o0, o1, o2, o3, o4, o5, ff⟩ := hZ.cells
      have f0 := ff 0
      have f1 := ff 1
      have f2 := ff 2
      have f3 := ff 3
      have f4 := ff 4
      have f5 := ff 5
      obtain ⟨w9, hwz⟩ : ∃ W, W = (((((w6.setCell ⟨wd.heap.size, 0, none⟩ (.int .i64 T.kind)).setCell ⟨wd.heap.size, 1, none⟩ (.int .i64 T.n)).setCell ⟨wd.heap.size, 2, none⟩ (.string T.name)).setCell ⟨wd.heap.size, 3, none⟩ (.slice ra2 T.r.length rc2)).setCell ⟨wd.heap.size, 4, none⟩ (.slice ka2 T.kids.length kc2)).setCell ⟨wd.heap.size, 5, none⟩ (.slice sa2 T.sys.length sc2) := ⟨_, rfl⟩
      rw [← hwz] at zz2
      have kz : Kn (fun q => q ≠ wd.heap.size) w6 w9 := by rw [hwz]; exact kn_set6 _ _ _ _ _ _ _ _
      have HTm : Hid (TmIn Tt w9 T (.agg #[.int .i64 T.kind, .int .i64 T.n, .string T.name, .slice ra2 T.r.length rc2, .slice ka2 T.kids.length kc2, .slice sa2 T.sys.length sc2])) := htv.keep kz.size (fun _ _ => trivial) (fun q hq hs => kz.block q (by have := hq.1; have := hbP.size; omega) hs)
      have hS5 : Below w3.heap.size w3 w9 := hS.trans (kz.below (fun q hq => by omega) hS.size)
      have Hwz : Hid (_ = _) := hwz
      clear hwz ff kz htv
      refine wpAnyH_ready (rs := [9]) (by kernel_rfl) (by simp) ?_
      refine ready_cons rfl (fun KK hKK => ?_) AllReadyH.nil
      refine ⟨?_⟩
      go_simp
      rw [← Hwz.out]
      refine hKK.out _ _ hS5 (fun hS => ?_)
      clear hKK KK
      try simp only [Act.put, List.getElem_toArray, List.getElem_cons_zero, List.getElem_cons_succ, List.setIfInBounds_toArray, List.set_cons_zero, List.set_cons_succ]
      refine wpAnyH_take (i := 10) (v := .int .i64 er) rfl (by kernel_rfl) (by kernel_rfl) (by kernel_rfl) (fun _ _ _ h => h) (Or.inl ⟨by rfl, fun w hS => by go_simp⟩) hS ?_
      try simp only [Act.put, List.getElem_toArray, List.getElem_cons_zero, List.getElem_cons_succ, List.setIfInBounds_toArray, List.set_cons_zero, List.set_cons_succ]
      refine wpAnyH_done (by kernel_rfl) ?_ _
      go_wp2_with fail
      go_meet
      exact ⟨_, _, _, _, _, _, _, rfl, rfl, zz2, HTm.out, hS, hge⟩
  case rest =>
  obtain ⟨ob, ra2, rc2, ka2, kc2, sa2, sc2, rfl, rfl, hO, hTv, hS4, hge⟩ := hcut
  obtain ⟨w4, hw4⟩ : ∃ V, V = wc := ⟨_, rfl⟩
  subst hw4
  have b14 : Below w1.heap.size w1 w4 := b13.trans (hS4.mono b13.size)
  clear cP cT HR3 HC3 HT3 hS1
  by_cases hz : er = 0
  rotate_left
  · have Hf : Hid (takE i r t = er ∧ takT i r t = noT) := ⟨by rw [HE.out.1, if_neg hz], by rw [HE.out.2, if_neg hz]⟩
    have hz1 : (er == 0) = false := by simpa using hz
    clear HE
    have zz := HZ.out w4 b14
    have zz2 := zz.set6 (.int .i64 0) (.int .i64 0) (.string ⟨#[]⟩) (.slice none 0 0) (.slice none 0 0) (.slice none 0 0)
    obtain ⟨o0, o1, o2, o3, o4, o5, ff⟩ := zz.cells
    have f0 := ff 0
    have f1 := ff 1
    have f2 := ff 2
    have f3 := ff 3
    have f4 := ff 4
    have f5 := ff 5
    obtain ⟨h0, h1, h2, h3, h4, h5, _⟩ := zz2.cells
    obtain ⟨wz, hwz⟩ : ∃ W, W = (((((w4.setCell ⟨X + 1, 0, none⟩ (.int .i64 0)).setCell ⟨X + 1, 1, none⟩ (.int .i64 0)).setCell ⟨X + 1, 2, none⟩ (.string ⟨#[]⟩)).setCell ⟨X + 1, 3, none⟩ (.slice none 0 0)).setCell ⟨X + 1, 4, none⟩ (.slice none 0 0)).setCell ⟨X + 1, 5, none⟩ (.slice none 0 0) := ⟨_, rfl⟩
    rw [← hwz] at h0 h1 h2 h3 h4 h5
    have kz : Kn (fun q => q ≠ X + 1) w4 wz := by rw [hwz]; exact kn_set6 _ _ _ _ _ _ _ _
    have bz : Below X w wz := (HB.out w4 b14).trans (kz.below (fun q hq => by omega) (by have := (HB.out w4 b14).size; have := HXs.out; omega))
    have Hwz : Hid (_ = _) := hwz
    clear hwz ff zz zz2 kz
    go_wp2_with fail
    rw [← Hwz.out]
    exact bodyPost_ret (v := .tuple #[.agg #[.int .i64 0, .int .i64 0, .string ⟨#[]⟩, .slice none 0 0, .slice none 0 0, .slice none 0 0], .int .i64 (er)]) (by simp only [results, Tryz.results13]; simp [go_sem, h0, h1, h2, h3, h4, h5]) rfl ⟨_, by rw [Hf.out.1], by rw [Hf.out.2]; exact noT_in _ _, bz⟩
  subst hz
  rw [if_pos rfl, if_pos rfl] at HE
  have cP : Hid (∀ V, Below w4.heap.size w4 V → Calls Tryz.prog 32 #[.int .i64 i] V fun e w' => ∃ fV cV, e = .returned (.agg #[fV, cV]) ∧ RowC (dropOp i).fn fV w' ∧ RowC (dropOp i).fc cV w' ∧ Below V.heap.size V w') := fun V q => dropping_any i V hok
  have cT : Hid (∀ V fV cV, Below w4.heap.size w4 V → RowC (dropOp i).fn fV V → RowC (dropOp i).fc cV V → Calls Tryz.prog 23 #[.agg #[fV, cV], .agg #[.int .i64 T.kind, .int .i64 T.n, .string T.name, .slice ra2 T.r.length rc2, .slice ka2 T.kids.length kc2, .slice sa2 T.sys.length sc2]] V fun e w' => ∃ v', e = .returned (.tuple #[v', .int .i64 (eT (dropOp i) T 0)]) ∧ TmIn (OkN V.heap.size w') w' (ansD (dropOp i) T) v' ∧ Below V.heap.size V w') := fun V fV cV q h1 h2 => dterm_any T _ V (hTv.blw q) h1 h2 hsm
  obtain ⟨er2, her⟩ : ∃ e, e = eT (dropOp i) T 0 := ⟨_, rfl⟩
  obtain ⟨T2, hT⟩ : ∃ T2, T2 = ansD (dropOp i) T := ⟨_, rfl⟩
  rw [← her, ← hT] at cT HE
  have HO : Hid (∀ V, Below w4.heap.size w4 V → Six V ob (.int .i64 T.kind) (.int .i64 T.n) (.string T.name) (.slice ra2 T.r.length rc2) (.slice ka2 T.kids.length kc2) (.slice sa2 T.sys.length sc2)) := fun V q => hO.blw q
  have hob := hO.lt
  have hobX : ob ≠ X + 1 := by have := b13.size; omega
  clear her hT
  go_upto_region 10 with fail
  refine wp_region_held_drew (S := fun V => Below X w V ∧ Six V ob (.int .i64 T.kind) (.int .i64 T.n) (.string T.name) (.slice ra2 T.r.length rc2) (.slice ka2 T.kids.length kc2) (.slice sa2 T.sys.length sc2)) (by kernel_rfl) ⟨(HB.out w4 b14).drew, ⟨hO.blk⟩⟩ (fun hS => ?_)
  obtain ⟨wd, hwd⟩ : ∃ V, V = w4.drew := ⟨_, rfl⟩
  have hbd : Below w4.heap.size w4 wd := by rw [hwd]; exact (Below.refl _ _).drew
  rw [← hwd] at hS ⊢
  clear hwd hO
  refine wpAnyH_take (i := 0) (v := .int .i64 i) rfl (by kernel_rfl) (by kernel_rfl) (by kernel_rfl) (fun _ _ _ h => h) (Or.inl ⟨by rfl, fun w hS => by go_simp⟩) hS ?_
  try simp only [Act.put, List.getElem_toArray, List.getElem_cons_zero, List.getElem_cons_succ, List.setIfInBounds_toArray, List.set_cons_zero, List.set_cons_succ]
  refine wpAnyH_take (i := 2) (v := .agg #[.int .i64 T.kind, .int .i64 T.n, .string T.name, .slice ra2 T.r.length rc2, .slice ka2 T.kids.length kc2, .slice sa2 T.sys.length sc2]) rfl (by kernel_rfl) (by kernel_rfl) (by kernel_rfl) (fun _ _ _ h => h) (Or.inl ⟨by rfl, fun w hS => by obtain ⟨y0, y1, y2, y3, y4, y5, _⟩ := hS.2.cells; go_simp⟩) hS ?_
  try simp only [Act.put, List.getElem_toArray, List.getElem_cons_zero, List.getElem_cons_succ, List.setIfInBounds_toArray, List.set_cons_zero, List.set_cons_succ]
  refine wpAnyH_ready (rs := [1]) (by kernel_rfl) (by simp) ?_
  refine ready_cons rfl (fun KK hKK => ?_) AllReadyH.nil
  refine ⟨?_⟩
  have cc := cP.out wd hbd
  go_simp
  refine cc.mono ?_
  rintro e w5 ⟨fV, cV, rfl, hF, hC, hbq⟩
  have hbd : Below w4.heap.size w4 w5 := hbd.trans (hbq.mono hbd.size)
  clear cc hbq
  refine hKK.out _ _ ⟨HB.out w5 (b14.trans (hbd.mono b14.size)), HO.out w5 hbd⟩ (fun hS => ?_)
  clear hKK KK
  try simp only [Act.put, List.getElem_toArray, List.getElem_cons_zero, List.getElem_cons_succ, List.setIfInBounds_toArray, List.set_cons_zero, List.set_cons_succ]
  refine wpAnyH_ready (rs := [3]) (by kernel_rfl) (by simp) ?_
  refine ready_cons rfl (fun KK hKK => ?_) AllReadyH.nil
  refine ⟨?_⟩
  have cc := cT.out w5 fV cV hbd hF hC
  go_simp
  refine cc.mono ?_
  rintro e w6 ⟨v3, rfl, hv3, hb3⟩
  obtain ⟨ra2b, rc2b, ka2b, kc2b, sa2b, sc2b, rfl, ht2⟩ := hv3.form
  have htv := ht2.value
  have hn3 := hbd.size
  have hn4 := b14.size
  have hbd : Below w4.heap.size w4 w6 := hbd.trans (hb3.mono hbd.size)
  clear cc ht2 hv3
  refine hKK.out _ _ ⟨HB.out w6 (b14.trans (hbd.mono b14.size)), HO.out w6 hbd⟩ (fun hS => ?_)
  clear hKK KK
  try simp only [Act.put, List.getElem_toArray, List.getElem_cons_zero, List.getElem_cons_succ, List.setIfInBounds_toArray, List.set_cons_zero, List.set_cons_succ]
  refine wpAnyH_take (i := 4) (v := .agg #[.int .i64 T2.kind, .int .i64 T2.n, .string T2.name, .slice ra2b T2.r.length rc2b, .slice ka2b T2.kids.length kc2b, .slice sa2b T2.sys.length sc2b]) rfl (by kernel_rfl) (by kernel_rfl) (by kernel_rfl) (fun _ _ _ h => h) (Or.inl ⟨by rfl, fun w hS => by go_simp⟩) hS ?_
  try simp only [Act.put, List.getElem_toArray, List.getElem_cons_zero, List.getElem_cons_succ, List.setIfInBounds_toArray, List.set_cons_zero, List.set_cons_succ]
  refine wpAnyH_take (i := 5) (v := .int .i64 er2) rfl (by kernel_rfl) (by kernel_rfl) (by kernel_rfl) (fun _ _ _ h => h) (Or.inl ⟨by rfl, fun w hS => by go_simp⟩) hS ?_
  try simp only [Act.put, List.getElem_toArray, List.getElem_cons_zero, List.getElem_cons_succ, List.setIfInBounds_toArray, List.set_cons_zero, List.set_cons_succ]
  have zz := HZ.out w6 (b14.trans (hbd.mono b14.size))
  have zz2 := zz.set6 (.int .i64 T2.kind) (.int .i64 T2.n) (.string T2.name) (.slice ra2b T2.r.length rc2b) (.slice ka2b T2.kids.length kc2b) (.slice sa2b T2.sys.length sc2b)
  obtain ⟨o0, o1, o2, o3, o4, o5, ff⟩ := zz.cells
  have f0 := ff 0
  have f1 := ff 1
  have f2 := ff 2
  have f3 := ff 3
  have f4 := ff 4
  have f5 := ff 5
  obtain ⟨w7, hwz⟩ : ∃ W, W = (((((w6.setCell ⟨X + 1, 0, none⟩ (.int .i64 T2.kind)).setCell ⟨X + 1, 1, none⟩ (.int .i64 T2.n)).setCell ⟨X + 1, 2, none⟩ (.string T2.name)).setCell ⟨X + 1, 3, none⟩ (.slice ra2b T2.r.length rc2b)).setCell ⟨X + 1, 4, none⟩ (.slice ka2b T2.kids.length kc2b)).setCell ⟨X + 1, 5, none⟩ (.slice sa2b T2.sys.length sc2b) := ⟨_, rfl⟩
  rw [← hwz] at zz2
  have kz : Kn (fun q => q ≠ X + 1) w6 w7 := by rw [hwz]; exact kn_set6 _ _ _ _ _ _ _ _
  have HTm : Hid (TmIn (OkN X w7) w7 T2 (.agg #[.int .i64 T2.kind, .int .i64 T2.n, .string T2.name, .slice ra2b T2.r.length rc2b, .slice ka2b T2.kids.length kc2b, .slice sa2b T2.sys.length sc2b])) := keepD htv kz (by omega) (by omega)
  have hS5 : Below X w w7 ∧ Six w7 ob (.int .i64 T.kind) (.int .i64 T.n) (.string T.name) (.slice ra2 T.r.length rc2) (.slice ka2 T.kids.length kc2) (.slice sa2 T.sys.length sc2) := ⟨(HB.out w6 (b14.trans (hbd.mono b14.size))).trans (kz.below (fun q hq => by omega) (by have := (HB.out w6 (b14.trans (hbd.mono b14.size))).size; have := HXs.out; omega)), (HO.out w6 hbd).kn kz hobX⟩
  have Hwz : Hid (_ = _) := hwz
  clear hwz ff zz kz htv
  refine wpAnyH_ready (rs := [6]) (by kernel_rfl) (by simp) ?_
  refine ready_cons rfl (fun KK hKK => ?_) AllReadyH.nil
  refine ⟨?_⟩
  go_simp
  rw [← Hwz.out]
  refine hKK.out _ _ hS5 (fun hS => ?_)
  clear hKK KK
  try simp only [Act.put, List.getElem_toArray, List.getElem_cons_zero, List.getElem_cons_succ, List.setIfInBounds_toArray, List.set_cons_zero, List.set_cons_succ]
  refine wpAnyH_take (i := 7) (v := .int .i64 er2) rfl (by kernel_rfl) (by kernel_rfl) (by kernel_rfl) (fun _ _ _ h => h) (Or.inl ⟨by rfl, fun w hS => by go_simp⟩) hS ?_
  try simp only [Act.put, List.getElem_toArray, List.getElem_cons_zero, List.getElem_cons_succ, List.setIfInBounds_toArray, List.set_cons_zero, List.set_cons_succ]
  obtain ⟨h0, h1, h2, h3, h4, h5, _⟩ := zz2.cells
  refine wpAnyH_done (by kernel_rfl) ?_ _
  go_wp2_with fail
  exact bodyPost_ret (v := .tuple #[.agg #[.int .i64 T2.kind, .int .i64 T2.n, .string T2.name, .slice ra2b T2.r.length rc2b, .slice ka2b T2.kids.length kc2b, .slice sa2b T2.sys.length sc2b], .int .i64 (er2)]) (by simp only [results, Tryz.results13]; simp [go_sem, h0, h1, h2, h3, h4, h5]) rfl ⟨_, by rw [HE.out.1], by rw [HE.out.2]; exact HTm.out, hS.1⟩
end Go.Proofs.YtjimednocmdpnaaGreat

namespace Go.Proofs.YtjimednocmdpnaaGreat
open Go.RowKit
set_option linter.unusedVariables false
set_option linter.unusedSimpArgs false

/-! ### rows -/
theorem mt_two {c d e : C} (he : meetC c d = e) (hr : rightC e = true) (hk : okC e = true) : mtR [c] [d] = ([e], 0) := by
  have e2 : calmC (pairsC [c] [d]) = [e] := by simp [pairsC, calmC, he, hk]
  unfold mtR; rw [e2]; exact leastF_one hr
theorem prt_self {c : C} {i : Nat} (hi : i < 24) (hr : rightC c = true) (hk : okC c = true) : prtA c (i : Int) [posB i] ([negB i], 0) = ([c], 0) := by
  have h0 := okC_iff.1 hk i hi
  have hb := fright_bits hr
  have hB1 : hasB c.1.val (i : Int) = c.1.val.testBit i := hasB_nat hi
  have hB2 : hasB c.2.val (i : Int) = c.2.val.testBit i := hasB_nat hi
  unfold prtA
  rw [hB1, hB2]
  have eP : c.1.val.testBit i = true → c.2.val.testBit i = false → meetC (outC c (i : Int)) (posB i) = c := fun h1 h2 => by
    refine c_bits (fun k => ?_) (fun k => ?_)
    · rw [(meet_bits _ _ k).1, (out_bits c i k hi).1, (posB_bits i k hi).1]
      have := (hb k).1
      by_cases hik : i = k
      · subst hik; simp_all
      · simp_all
    · rw [(meet_bits _ _ k).2, (out_bits c i k hi).2, (posB_bits i k hi).2]
      have := (hb k).2
      by_cases hik : i = k
      · subst hik; simp_all
      · simp_all
  have eN : c.1.val.testBit i = false → c.2.val.testBit i = true → meetC (outC c (i : Int)) (negB i) = c := fun h1 h2 => by
    refine c_bits (fun k => ?_) (fun k => ?_)
    · rw [(meet_bits _ _ k).1, (out_bits c i k hi).1, (negB_bits i k hi).1]
      have := (hb k).1
      by_cases hik : i = k
      · subst hik; simp_all
      · simp_all
    · rw [(meet_bits _ _ k).2, (out_bits c i k hi).2, (negB_bits i k hi).2]
      have := (hb k).2
      by_cases hik : i = k
      · subst hik; simp_all
      · simp_all
  have e0 : c.1.val.testBit i = false → c.2.val.testBit i = false → outC c (i : Int) = c := fun h1 h2 => by
    refine c_bits (fun k => ?_) (fun k => ?_)
    · rw [(out_bits c i k hi).1]
      have := (hb k).1
      by_cases hik : i = k
      · subst hik; simp_all
      · simp_all
    · rw [(out_bits c i k hi).2]
      have := (hb k).2
      by_cases hik : i = k
      · subst hik; simp_all
      · simp_all
  cases h1 : c.1.val.testBit i <;> cases h2 : c.2.val.testBit i
  · simp [e0 h1 h2]
  · simp [mt_two (eN h1 h2) hr hk]
  · simp [mt_two (eP h1 h2) hr hk]
  · exact absurd ⟨h1, h2⟩ h0
theorem pts_self {i : Nat} (hi : i < 24) (f : List C) : (∀ c ∈ f, rightC c = true ∧ okC c = true) → f.length ≤ 64 → ptS f (i : Int) [posB i] ([negB i], 0) = leastF f := by
  induction f using snoc_ind with
  | nil => intro _ _; simp only [ptS, List.foldl_nil]; decide
  | snoc f c ih =>
    intro h hl
    have hf : ∀ x ∈ f, rightC x = true ∧ okC x = true := fun x hx => h x (List.mem_append_left _ hx)
    obtain ⟨hr, hk⟩ := h c (by simp)
    have hl2 : f.length ≤ 64 := by simp at hl; omega
    have hA : f.all rightC = true := all_mem (fun x hx => (hf x hx).1)
    have h0 : (leastF f).2 = 0 := least_small hA hl2
    rw [ptS_snoc, ih hf hl2]
    have e := leastF_pair h0
    rw [e, stpA_some, prt_self hi hr hk, if_pos rfl, least_more hA (by simp [hr]) h0]
theorem ofP {i : Nat} (hi : i < 24) : (ofF [posB i]).1 = [posB i] ∧ ofZ [posB i] = ([negB i], 0) ∧ rightF [posB i] = true := by
  have key : ∀ i : Fin 24, (ofF [posB i.val]).1 = [posB i.val] ∧ ofZ [posB i.val] = ([negB i.val], 0) ∧ rightF [posB i.val] = true := by decide +kernel
  exact key ⟨i, hi⟩
theorem ptA_self {f : List C} {i : Nat} (hi : i < 24) (hf : rightA f = true) : ptA f (i : Int) [posB i] = (f, 0) := by
  obtain ⟨e1, e2, e3⟩ := ofP hi
  unfold ptA
  rw [hf, isDimB_nat hi, e3, e1, e2]
  have hall : ∀ c ∈ f, rightC c = true ∧ okC c = true := fun c hc => ⟨List.all_eq_true.1 (rightF_all (rightA_right hf)) c hc, rightA_ok hf c hc⟩
  rw [pts_self hi f hall (rightA_len hf)]
  exact rightF_eq (rightA_right hf)
theorem lift_pos {i bd : Nat} (h : i + bd < 24) : liftFF [posB i] 0 (bd : Int) = ([posB (i + bd)], 0) := by
  have key : ∀ i bd : Fin 24, i.val + bd.val < 24 → liftFF [posB i.val] 0 (bd.val : Int) = ([posB (i.val + bd.val)], 0) := by decide +kernel
  exact key ⟨i, by omega⟩ ⟨bd, by omega⟩ h
theorem row_self {PF : List C → Int → List C → List C × Int} {i : Nat} (l : List C) (bd : Nat) (h : ∀ j : Nat, j < 24 → PF l (j : Int) [posB j] = (l, 0)) : putRow PF (i : Int) [posB i] l bd = (l, 0) := by
  unfold putRow
  cases hh : hasB (dimsN l) ((i : Int) + (bd : Int)) with
  | false => rfl
  | true =>
    have h24 : i + bd < 24 := by
      unfold hasB isDimB at hh
      simp only [Bool.and_eq_true, decide_eq_true_eq] at hh
      omega
    rw [if_pos rfl, lift_pos h24, if_pos rfl]
    have e : ((i : Int) + (bd : Int)) = ((i + bd : Nat) : Int) := by omega
    rw [e]
    exact h _ h24
/-! ### nothing is refused, nothing changes -/
theorem e_zero {o : DOp} (Q : Tm → Nat → Prop) (hQ : ∀ t bd, Q t bd → (ownP o t.kind t.r bd).2 = 0 ∧ (∀ k x, t.kids[k]? = some x → Q x (bd + bdK t.kind k)) ∧ ∀ b ∈ t.sys, (o.fc b.1 bd).2 = 0 ∧ ∀ x ∈ b.2, Q x (bd + moreK t.kind)) : ∀ (n : Nat) (t : Tm) (bd : Nat), blk t ≤ n → Q t bd → eT o t bd = 0
  | 0, t, bd, hn, _ => by have := blk_pos t; omega
  | n + 1, t, bd, hn, h => by
    obtain ⟨h1, h2, h3⟩ := hQ t bd h
    refine e_none h1 (firstE_zero.2 fun x hx => ?_) (firstE_zero.2 fun x hx => ?_)
    · obtain ⟨i, hi⟩ := List.mem_iff_getElem?.1 hx
      obtain ⟨y, hy⟩ := someL (l := t.kids) (k := i) (by rw [← eK_len o t.kind t.kids bd]; exact some_lt hi)
      rw [eK_get hy] at hi
      injection hi with hi
      rw [← hi]
      exact e_zero Q hQ n y _ (by have := blk_kid (List.mem_of_getElem? hy); omega) (h2 _ _ hy)
    · unfold eS at hx
      obtain ⟨b, hb, rfl⟩ := List.mem_map.1 hx
      obtain ⟨hf, hk⟩ := h3 b hb
      cases hst : stayB o bd b.1
      · exact b_gone hf hst
      · refine b_none hf hst (firstE_zero.2 fun x hx => ?_)
        unfold eBk at hx
        obtain ⟨y, hy, rfl⟩ := List.mem_map.1 hx
        exact e_zero Q hQ n y _ (by have := blk_sub hb hy; omega) (hk y hy)
theorem d_id {o : DOp} (Q : Tm → Nat → Prop) (hQ : ∀ t bd, Q t bd → (ownP o t.kind t.r bd).1 = t.r ∧ (∀ k x, t.kids[k]? = some x → Q x (bd + bdK t.kind k)) ∧ ∀ b ∈ t.sys, (o.fc b.1 bd).1 = b.1 ∧ b.1 ≠ [] ∧ ∀ x ∈ b.2, Q x (bd + moreK t.kind)) : ∀ (n : Nat) (t : Tm) (bd : Nat), blk t ≤ n → Q t bd → dT o t bd = t
  | 0, t, bd, hn, _ => by have := blk_pos t; omega
  | n + 1, t, bd, hn, h => by
    obtain ⟨e1, h2, h3⟩ := hQ t bd h
    have e2 : dK o t.kind t.kids bd = t.kids := by
      refine List.ext_getElem? fun i => ?_
      cases hx : t.kids[i]? with
      | none => rw [List.getElem?_eq_none_iff] at hx ⊢; rw [dK_len]; exact hx
      | some x => rw [dK_get hx, d_id Q hQ n x _ (by have := blk_kid (List.mem_of_getElem? hx); omega) (h2 i x hx)]
    have e3 : dS o t.kind t.sys bd = t.sys := by
      unfold dS
      rw [List.filter_eq_self.2 (fun b hb => by
        unfold stayB
        rw [(h3 b hb).1]
        have := (h3 b hb).2.1
        cases hb1 : b.1 with
        | nil => exact absurd hb1 this
        | cons _ _ => rfl)]
      conv => rhs; rw [← List.map_id t.sys]
      refine List.map_congr_left fun b hb => ?_
      unfold dB
      rw [(h3 b hb).1]
      refine Prod.ext rfl ?_
      show (b.2.map fun x => dT o x (bd + moreK t.kind)) = b.2
      conv => rhs; rw [← List.map_id b.2]
      exact List.map_congr_left fun x hx => d_id Q hQ n x _ (by have := blk_sub hb hx; omega) ((h3 b hb).2.2 x hx)
    rw [d_eq, e1, e2, e3]
    cases t; rfl
theorem self_all {i : Nat} {t : Tm} (hw : wrongN true 0 0 t = 0) (hne : neT t) : eT (putOp (i : Int) [posB i]) t 0 = 0 ∧ dT (putOp (i : Int) [posB i]) t 0 = t := by
  have hok : okT true 0 0 t 0 0 = true := by
    unfold wrongN at hw
    split at hw
    · cases hw
    · split at hw
      · assumption
      · cases hw
  have fn : ∀ l bd, rightF l = true → (putOp (i : Int) [posB i]).fn l bd = (l, 0) := fun l bd h => row_self l bd (fun j hj => put_self hj h)
  have fc : ∀ l bd, rightA l = true → (putOp (i : Int) [posB i]).fc l bd = (l, 0) := fun l bd h => row_self l bd (fun j hj => ptA_self hj h)
  have own : ∀ (x : Tm) bv b2 bd, okT true 0 0 x bv b2 = true → ownP (putOp (i : Int) [posB i]) x.kind x.r bd = (x.r, 0) := fun x bv b2 bd h => by
    unfold ownP
    split
    · rename_i h14
      rw [ok_eq, Bool.and_eq_true] at h
      have h1 := h.1
      unfold Tm.node nodeB at h1
      simp only [Bool.and_eq_true] at h1
      have h2 := h1.1.2
      refine fc _ _ ?_
      unfold rowB at h2
      rw [h14] at h2
      first
        | (simp at h2; exact h2.1)
        | (simp at h2; exact h2)
    · exact fn _ _ (ok_row h)
  have sub : ∀ (x : Tm) bv b2, okT true 0 0 x bv b2 = true → (∀ k y, x.kids[k]? = some y → ∃ bv b2, okT true 0 0 y bv b2 = true) ∧ ∀ b ∈ x.sys, rightA b.1 = true ∧ ∀ y ∈ b.2, ∃ bv b2, okT true 0 0 y bv b2 = true := fun x bv b2 h => by
    refine ⟨fun k y hy => ?_, fun b hb => ⟨ok_face h hb, fun y hy => ?_⟩⟩
    · rw [ok_eq, Bool.and_eq_true] at h
      exact ⟨_, _, List.all_eq_true.1 h.2 _ (pts_kid hy)⟩
    · rw [ok_eq, Bool.and_eq_true] at h
      exact ⟨_, _, List.all_eq_true.1 h.2 _ (pts_sys hb hy)⟩
  refine ⟨e_zero (fun t _ => ∃ bv b2, okT true 0 0 t bv b2 = true) (fun t bd ⟨bv, b2, h⟩ => ⟨by rw [own t bv b2 bd h], (sub t bv b2 h).1, fun b hb => ⟨by rw [fc _ _ ((sub t bv b2 h).2 b hb).1], ((sub t bv b2 h).2 b hb).2⟩⟩) _ t 0 (Nat.le_refl _) ⟨0, 0, hok⟩, ?_⟩
  exact d_id (fun t _ => (∃ bv b2, okT true 0 0 t bv b2 = true) ∧ neT t) (fun t bd ⟨⟨bv, b2, h⟩, hn⟩ => ⟨by rw [own t bv b2 bd h], fun k x hx => ⟨(sub t bv b2 h).1 k x hx, ((ne_eq t).1 hn).1 x (List.mem_of_getElem? hx)⟩, fun b hb => ⟨by rw [fc _ _ ((sub t bv b2 h).2 b hb).1], (((ne_eq t).1 hn).2 b hb).1, fun x hx => ⟨((sub t bv b2 h).2 b hb).2 x hx, (((ne_eq t).1 hn).2 b hb).2 x hx⟩⟩⟩) _ t 0 (Nat.le_refl _) ⟨⟨0, 0, hok⟩, hne⟩
/-! ### lifted, and taken out -/
theorem rowP_sd {i : Nat} (hi : i < 24) (bd : Nat) (r : List C) : rowP (sd (i : Int)) bd r = liftFF r ((i + bd : Nat) : Int) 1 := by
  unfold rowP sd
  rw [if_neg (by show ¬ (1 : Int) = 0; decide)]
  have e : min (i : Int) 24 + (bd : Int) = ((i + bd : Nat) : Int) := by omega
  show liftFF r (min (i : Int) 24 + (bd : Int)) 1 = _
  rw [e]
theorem er_parts {s : Sf} {t : Tm} {bv bd : Nat} (h : erT s t bv bd = 0) : (rowP s bd t.r).2 = 0 ∧ (∀ k x, t.kids[k]? = some x → erT s x (bv + bvK t.kind k) (bd + bdK t.kind k) = 0) ∧ ∀ b ∈ t.sys, (rowP s bd b.1).2 = 0 ∧ ∀ x ∈ b.2, erT s x bv (bd + moreK t.kind) = 0 := by
  rw [er_eq] at h
  have hz := firstE_zero.1 h
  refine ⟨hz _ (by simp), fun k x hx => ?_, fun b hb => ?_⟩
  · exact hz _ (by
      refine List.mem_cons_of_mem _ (List.mem_cons_of_mem _ (List.mem_append_left _ ?_))
      exact List.mem_of_getElem? (erK_get hx))
  · have hB := hz (erB s t.kind b bv bd) (List.mem_cons_of_mem _ (List.mem_cons_of_mem _ (List.mem_append_right _ (List.mem_map_of_mem hb))))
    unfold erB at hB
    have hz2 := firstE_zero.1 hB
    exact ⟨hz2 _ (by simp), fun x hx => hz2 _ (List.mem_cons_of_mem _ (List.mem_map_of_mem hx))⟩
theorem ne_li {i : Nat} (hi : i < 24) : ∀ (n : Nat) (t : Tm) (bv bd : Nat), blk t ≤ n → neT t → erT (sd (i : Int)) t bv bd = 0 → neT (liT (sd (i : Int)) t bv bd)
  | 0, t, bv, bd, hn, _, _ => by have := blk_pos t; omega
  | n + 1, t, bv, bd, hn, hne, he => by
    rw [ne_eq] at hne
    obtain ⟨h1, h2, h3⟩ := er_parts he
    rw [li_eq, ne_eq]
    refine ⟨fun x hx => ?_, fun b hb => ?_⟩
    · obtain ⟨k, hk⟩ := List.mem_iff_getElem?.1 (show x ∈ liK (sd (i : Int)) t.kind t.kids bv bd from hx)
      obtain ⟨y, hy⟩ := someL (l := t.kids) (k := k) (by rw [← liK_len (sd (i : Int)) t.kind t.kids bv bd]; exact some_lt hk)
      rw [liK_get hy] at hk
      injection hk with hk
      rw [← hk]
      exact ne_li hi n y _ _ (by have := blk_kid (List.mem_of_getElem? hy); omega) (hne.1 y (List.mem_of_getElem? hy)) (h2 k y hy)
    · obtain ⟨b', hb', rfl⟩ := List.mem_map.1 (show b ∈ t.sys.map fun b => liB (sd (i : Int)) t.kind b bv bd from hb)
      obtain ⟨g1, g2⟩ := h3 b' hb'
      obtain ⟨m1, m2⟩ := hne.2 b' hb'
      refine ⟨?_, fun x hx => ?_⟩
      · show (rowP (sd (i : Int)) bd b'.1).1 ≠ []
        rw [rowP_sd hi] at g1 ⊢
        rw [(lift_row g1).1]
        intro e
        exact m1 (List.map_eq_nil_iff.1 e)
      · obtain ⟨y, hy, rfl⟩ := List.mem_map.1 (show x ∈ b'.2.map fun x => liT (sd (i : Int)) x bv (bd + moreK t.kind) from hx)
        exact ne_li hi n y _ _ (by have := blk_sub hb' hy; omega) (m2 y hy) (g2 y hy)
theorem numV_sd2 (i : Int) (bv : Nat) (k n : Int) : numV (sd i) bv k n = n := by
  unfold numV sd
  split <;> simp
theorem drop_li {i : Nat} (hi : i < 24) : ∀ (n : Nat) (t : Tm) (bv bd : Nat), blk t ≤ n → neT t → erT (sd (i : Int)) t bv bd = 0 → dT (dropOp (i : Int)) (liT (sd (i : Int)) t bv bd) bd = t
  | 0, t, bv, bd, hn, _, _ => by have := blk_pos t; omega
  | n + 1, t, bv, bd, hn, hne, he => by
    rw [ne_eq] at hne
    obtain ⟨h1, h2, h3⟩ := er_parts he
    have row : ∀ r : List C, (rowP (sd (i : Int)) bd r).2 = 0 → dropRow (i : Int) (rowP (sd (i : Int)) bd r).1 bd = (r, 0) := fun r h => by
      rw [rowP_sd hi] at h ⊢
      unfold dropRow
      have e : ((i : Int) + (bd : Int)) = ((i + bd : Nat) : Int) := by omega
      rw [e, drop_row h]
    have e1 : (ownP (dropOp (i : Int)) t.kind (rowP (sd (i : Int)) bd t.r).1 bd).1 = t.r := by
      unfold ownP
      have : ∀ k : Prop, ∀ [Decidable k], (if k then (dropOp (i : Int)).fc (rowP (sd (i : Int)) bd t.r).1 bd else (dropOp (i : Int)).fn (rowP (sd (i : Int)) bd t.r).1 bd) = dropRow (i : Int) (rowP (sd (i : Int)) bd t.r).1 bd := fun k _ => by split <;> rfl
      rw [this, row _ h1]
    have e2 : dK (dropOp (i : Int)) t.kind (liK (sd (i : Int)) t.kind t.kids bv bd) bd = t.kids := by
      refine List.ext_getElem? fun k => ?_
      cases hx : t.kids[k]? with
      | none => rw [List.getElem?_eq_none_iff] at hx ⊢; rw [dK_len, liK_len]; exact hx
      | some x => rw [dK_get (liK_get hx), drop_li hi n x _ _ (by have := blk_kid (List.mem_of_getElem? hx); omega) (hne.1 x (List.mem_of_getElem? hx)) (h2 k x hx)]
    have e3 : dS (dropOp (i : Int)) t.kind (t.sys.map fun b => liB (sd (i : Int)) t.kind b bv bd) bd = t.sys := by
      unfold dS
      have fc : ∀ b ∈ t.sys, (dropOp (i : Int)).fc (liB (sd (i : Int)) t.kind b bv bd).1 bd = (b.1, 0) := fun b hb => row _ (h3 b hb).1
      rw [List.filter_eq_self.2 (fun b hb => by
        obtain ⟨b', hb', rfl⟩ := List.mem_map.1 hb
        unfold stayB
        rw [fc b' hb']
        have := (hne.2 b' hb').1
        cases hb1 : b'.1 with
        | nil => exact absurd hb1 this
        | cons _ _ => rfl), List.map_map]
      conv => rhs; rw [← List.map_id t.sys]
      refine List.map_congr_left fun b hb => ?_
      show dB (dropOp (i : Int)) t.kind (liB (sd (i : Int)) t.kind b bv bd) bd = b
      unfold dB
      rw [fc b hb]
      refine Prod.ext rfl ?_
      show ((b.2.map fun x => liT (sd (i : Int)) x bv (bd + moreK t.kind)).map fun x => dT (dropOp (i : Int)) x (bd + moreK t.kind)) = b.2
      rw [List.map_map]
      conv => rhs; rw [← List.map_id b.2]
      exact List.map_congr_left fun x hx => drop_li hi n x _ _ (by have := blk_sub hb hx; omega) ((hne.2 b hb).2 x hx) ((h3 b hb).2 x hx)
    rw [li_eq, d_eq]
    show Tm.mk t.kind (numV (sd (i : Int)) bv t.kind t.n) t.name (ownP (dropOp (i : Int)) t.kind (rowP (sd (i : Int)) bd t.r).1 bd).1 (dK (dropOp (i : Int)) t.kind (liK (sd (i : Int)) t.kind t.kids bv bd) bd) (dS (dropOp (i : Int)) t.kind (t.sys.map fun b => liB (sd (i : Int)) t.kind b bv bd) bd) = t
    rw [e1, e2, e3, numV_sd2]
    cases t; rfl
theorem e_same {i : Nat} {r : List C} {t : Tm} (h : hsT t i = false) : eT (putOp (i : Int) r) t 0 = 0 := by
  have no : ∀ (l : List C) (bd : Nat), (dimsN l).testBit (i + bd) = false → (i + bd < 24 → inF l (i + bd) = false) := fun l bd h h24 => by
    cases hi : inF l (i + bd)
    · rfl
    · rw [bit_in.2 ⟨h24, hi⟩] at h; cases h
  refine e_zero (fun t bd => hsT t (i + bd) = false) (fun t bd hh => ?_) _ t 0 (Nat.le_refl _) h
  rw [hs_eq, Bool.or_eq_false_iff, Bool.or_eq_false_iff] at hh
  obtain ⟨⟨hr, hs⟩, hp⟩ := hh
  rw [List.any_eq_false] at hs hp
  refine ⟨?_, fun k x hx => ?_, fun b hb => ⟨?_, fun x hx => ?_⟩⟩
  · unfold ownP
    split
    · have := put_no (PF := ptA) (r := r) (no t.r bd hr); exact congrArg Prod.snd this
    · have := put_no (PF := putF) (r := r) (no t.r bd hr); exact congrArg Prod.snd this
  · have := hp _ (pts_kid hx)
    have : hsT x (i + bd + bdK t.kind k) = false := by simpa using this
    rw [← Nat.add_assoc]; exact this
  · have := put_no (PF := ptA) (r := r) (no b.1 bd (by simpa using hs b hb)); exact congrArg Prod.snd this
  · have := hp _ (pts_sys hb hx)
    have : hsT x (i + bd + moreK t.kind) = false := by simpa using this
    rw [← Nat.add_assoc]; exact this
theorem e_drop {i : Int} (t : Tm) : eT (dropOp i) t 0 = 0 := by
  refine e_zero (fun _ _ => True) (fun t bd _ => ⟨?_, fun _ _ _ => trivial, fun _ _ => ⟨rfl, fun _ _ => trivial⟩⟩) _ t 0 (Nat.le_refl _) trivial
  unfold ownP
  split <;> rfl
/-- What was lifted is as it was, when that is taken out, whatever is put there. -/
theorem take_li {i : Nat} (hi : i < 24) {r : List C} {t : Tm} (hw : wrongN true 0 0 t = 0) (hne : neT t) (hg : erT (sd (i : Int)) t 0 0 = 0) (hr : (liftFF r (i : Int) 1).2 = 0) :
    takE (i : Int) r (liT (sd (i : Int)) t 0 0) = 0 ∧ takT (i : Int) r (liT (sd (i : Int)) t 0 0) = t := by
  have hx := formed_li (s := sd (i : Int)) (by show (0 : Int) ≤ 0; decide) (by show (0 : Int) ≤ 1; decide) 0 0 hw
  have hrr : rightF r = true := by
    unfold liftFF at hr
    by_cases h : rightF r = true
    · exact h
    · rw [if_neg h] at hr; cases hr
  have hwr : wrD (i : Int) r (liT (sd (i : Int)) t 0 0) = 0 := by
    unfold wrD
    rw [if_pos hx, if_pos ⟨isDimB_nat hi, hrr⟩]
  have hhs : hsT (liT (sd (i : Int)) t 0 0) i = false := by
    have := hs_sd (p := (i : Int)) (by omega) (by omega) _ t 0 0 (Nat.le_refl _)
    simpa using this
  have hn := ne_li hi _ t 0 0 (Nat.le_refl _) hne hg
  have e1 := e_same (r := (liftFF r (i : Int) 1).1) hhs
  have d1 := d_same (s := ⟨i, (liftFF r (i : Int) 1).1, top0⟩) _ (liT (sd (i : Int)) t 0 0) 0 (Nat.le_refl _) hn (by simpa using hhs)
  have d1 : dT (putOp (i : Int) (liftFF r (i : Int) 1).1) (liT (sd (i : Int)) t 0 0) 0 = liT (sd (i : Int)) t 0 0 := d1
  have a1 : ansD (putOp (i : Int) (liftFF r (i : Int) 1).1) (liT (sd (i : Int)) t 0 0) = liT (sd (i : Int)) t 0 0 := by
    unfold ansD; rw [if_pos e1, d1]
  have d2 := drop_li hi _ t 0 0 (Nat.le_refl _) hne hg
  constructor
  · unfold takE
    rw [if_pos hwr, if_pos hr, if_pos e1, a1]
    exact e_drop _
  · unfold takT
    rw [if_pos hwr, if_pos hr, if_pos e1, a1]
    unfold ansD
    rw [if_pos (e_drop _)]
    exact d2
/-- A dimension's own formula in its place. -/
theorem put_own {i : Nat} (hi : i < 24) {t : Tm} (hw : wrongN true 0 0 t = 0) (hne : neT t) : putE (i : Int) [posB i] t = 0 ∧ putT' (i : Int) [posB i] t = t := by
  obtain ⟨e, d⟩ := self_all (i := i) hw hne
  have hwr : wrD (i : Int) [posB i] t = 0 := by
    unfold wrD
    rw [if_pos hw, if_pos ⟨isDimB_nat hi, (ofP hi).2.2⟩]
  constructor
  · unfold putE; rw [if_pos hwr]; exact e
  · unfold putT'; rw [if_pos hwr]; unfold ansD; rw [if_pos e]; exact d
end Go.Proofs.YtjimednocmdpnaaGreat

