/- Whether a variable is used. -/
import Derived.Test.YtmaijbeghemkbaaYAll
namespace Go.Proofs.Ytmaijbeghemkbaa
open Go.RowKit
attribute [local go_sem] Oper.semAt_some
set_option linter.unusedVariables false
set_option linter.unusedSimpArgs false

def UsC (n : Int) (N : Nat) : Prop := ∀ (t : Tm) (bv bd g off : Nat) (ra : Option Addr) (rc : Nat) (ka : Option Addr) (kc : Nat) (sa : Option Addr) (sc : Nat) (w : World),
  Cs6 w g off t ra rc ka kc sa sc → TmTop Tt w t ra rc ka kc sa sc → blk t ≤ N → bv + blk t ≤ 100000 → bd + blk t ≤ 100000 →
  Calls Try.prog 40 #[.pointer (some ⟨g, off, none⟩), .int .i64 n, .agg #[.int .i64 (bv : Int), .int .i64 (bd : Int)]] w fun e w' => e = .returned (.bool (usT n t bv)) ∧ Below w.heap.size w w'
theorem box_use (w : World) (n bv bd : Int) : ∃ w2, w2 = ((w.alloc (.cells #[.int .i64 n] 3)).alloc (.cells #[.int .i64 bv, .int .i64 bd] 65)).alloc (.cells #[.bool false] 4) ∧ Below w.heap.size w w2 ∧ w2.heap.size = w.heap.size + 3 ∧
    w2.heap[w.heap.size]? = some (.cells #[.int .i64 n] 3 (0, 0)) ∧ w2.heap[w.heap.size + 1]? = some (.cells #[.int .i64 bv, .int .i64 bd] 65 (0, 0)) ∧ w2.heap[w.heap.size + 2]? = some (.cells #[.bool false] 4 (0, 0)) := by
  refine ⟨_, rfl, bchain (bchain (belowA _ _) (belowA _ _)) (belowA _ _), by simp, ?_, ?_, ?_⟩
  · exact (Below.heap_alloc _ _ _ (by simp; omega)).trans ((Below.heap_alloc _ _ _ (by simp)).trans (heapNew w _))
  · have := heapNew (w.alloc (.cells #[.int .i64 n] 3)) (.cells #[.int .i64 bv, .int .i64 bd] 65)
    rw [World.size_alloc] at this
    exact (Below.heap_alloc _ _ _ (by simp)).trans this
  · have := heapNew ((w.alloc (.cells #[.int .i64 n] 3)).alloc (.cells #[.int .i64 bv, .int .i64 bd] 65)) (.cells #[.bool false] 4)
    rwa [World.size_alloc, World.size_alloc] at this
/-- How it stands between two parts. -/
def UsI (n : Int) (t : Tm) (bv : Nat) (w4 : World) (s s3 : Nat) (k : Nat) (W : World) : Prop :=
  (∀ j p, j < k → t.pts[j]? = some p → usT n p.1 (bv + p.2.1) = false) ∧ Kn (fun q => q < w4.heap.size ∧ q ≠ s3 ∧ q ≠ s + 2) w4 W ∧ W.heap[s + 2]? = some (.cells #[.bool false] 4 (0, 0))
def UsX (n : Int) (t : Tm) (bv : Nat) (w4 : World) (s s3 : Nat) (W : World) : Prop :=
  Kn (fun q => q < w4.heap.size ∧ q ≠ s3 ∧ q ≠ s + 2) w4 W ∧ W.heap[s + 2]? = some (.cells #[.bool true] 4 (0, 0)) ∧ usT n t bv = true
theorem UsI.keep {n : Int} {t : Tm} {bv : Nat} {w4 : World} {s s3 : Nat} (hs : s + 2 < w4.heap.size ∧ s + 2 ≠ s3) : ∀ k W1 W2, UsI n t bv w4 s s3 k W1 → Kn (fun g => g < w4.heap.size ∧ g ≠ s3) W1 W2 → UsI n t bv w4 s s3 k W2 :=
  fun k W1 W2 ⟨a, b, c⟩ h => ⟨a, b.trans (h.sub fun q hq => ⟨hq.1, hq.2.1⟩), (h.block (s + 2) hs (Array.getElem?_eq_some_iff.1 c).1).trans c⟩
theorem UsX.keep {n : Int} {t : Tm} {bv : Nat} {w4 : World} {s s3 : Nat} (hs : s + 2 < w4.heap.size ∧ s + 2 ≠ s3) : ∀ W1 W2, UsX n t bv w4 s s3 W1 → Kn (fun g => g < w4.heap.size ∧ g ≠ s3) W1 W2 → UsX n t bv w4 s s3 W2 :=
  fun W1 W2 ⟨b, c, a⟩ h => ⟨b.trans (h.sub fun q hq => ⟨hq.1, hq.2.1⟩), (h.block (s + 2) hs (Array.getElem?_eq_some_iff.1 c).1).trans c, a⟩
set_option maxRecDepth 100000 in
set_option maxHeartbeats 8000000 in
theorem uses_step (n : Int) (N : Nat) (IH : UsC n N) : UsC n (N + 1) := by
  intro t bv bd g off ra rc ka kc sa sc w h6 ht hN hbv hbd
  have hpos := blk_pos t
  obtain ⟨w2, hw2, hb2, s2, m1, m2, m3⟩ := box_use w n bv bd
  have HO : Hid (_ = _) := us_eq n t bv
  have c6 := h6.blw hb2
  have k0 := c6.c0
  have k1 := c6.c1
  obtain ⟨i1, i2⟩ := ht.inn
  have x0 := (cells1 m1).1
  obtain ⟨y0, y1⟩ := cells2 m2
  obtain ⟨z1, z2⟩ := cells1 m3
  have HW : Hid (_ = _) := hw2
  clear hw2
  by_cases hk : t.kind = 1
  · rw [hk] at k0
    by_cases hm : (bv : Int) ≤ t.n
    · have wr1 : IntKind.i64.wrap (t.n - (bv : Int)) = t.n - (bv : Int) := by simp [IntKind.wrap, IntKind.bits, IntKind.signed]; omega
      by_cases he : t.n - (bv : Int) = n
      · have Hf : Hid (usT n t bv = true) := by
          show _ = _
          rw [HO.out, decide_eq_true hk, decide_eq_true (show 0 ≤ n by omega), decide_eq_true (show t.n = n + bv by omega)]; rfl
        have qm : decide ((bv : Int) ≤ t.n) = true := by simpa using hm
        have qe : decide (t.n - (bv : Int) = n) = true := by simpa using he
        have qe' : (t.n - (bv : Int) == n) = true := by simpa using he
        clear hk hm he HO
        have sb : ∀ k, Below w.heap.size w2 ((w2.drewN k).setCell ⟨w.heap.size + 2, 0, none⟩ (.bool true)) := fun k => (bdrewN (Below.refl _ _) k).setCell (p := ⟨w.heap.size + 2, 0, none⟩) (by show _ ≤ w.heap.size + 2; omega) _
        have z9 : ∀ k, ((w2.drewN k).setCell ⟨w.heap.size + 2, 0, none⟩ (.bool true)).cell? ⟨w.heap.size + 2, 0, none⟩ = some (.bool true) := fun k => (cells1 (Boxed.set (W := w2.drewN k) (t := 4) _ m3)).1
        go_enter Try.func40, Try.ntmps40
        go_upto_region 1 with fail
        rw [← HW.out]
        simp only [Nat.add_assoc, Nat.reduceAdd]
        go_quiet (fail)
        go_wp2
        exact bodyPost_ret (v := .bool true) (by simp [results, Try.results40, go_sem, z9]) rfl ⟨ret_bool Hf.out.symm, hb2.trans (sb _)⟩
      · have HA : Hid (usT n t bv = t.pts.any fun p => usT n p.1 (bv + p.2.1)) := by
          show _ = _
          rw [HO.out, decide_eq_false (show ¬ t.n = n + bv by omega)]; simp
        have qm : decide ((bv : Int) ≤ t.n) = true := by simpa using hm
        have qe : decide (t.n - (bv : Int) = n) = false := by simpa using he
        have qe' : (t.n - (bv : Int) == n) = false := by simpa using he
        clear hk hm he HO
        refine (callsIn_wide (n := 4)).1 ?_
        refine callsIn_of_wp_marks Try.func40 rfl trivial ?_ rfl
        simp only [Try.ntmps40, List.size_toArray, List.length_cons, List.length_nil, Nat.reduceAdd, Nat.reduceSub, Array.replicate_succ, Array.replicate_zero, List.push_toArray, List.append_toArray, List.nil_append, List.cons_append]
        refine wpIn_wide.2 ?_
        go_upto_region 1 with fail
        rw [← HW.out]
        simp only [Nat.add_assoc, Nat.reduceAdd]
        go_quiet (fail)
        obtain ⟨w3, hw3⟩ : ∃ w3, w3 = w2.drewN nq := ⟨_, rfl⟩
        obtain ⟨hb3, hs3, n1, n2, n3⟩ : Below w.heap.size w w3 ∧ w.heap.size + 3 ≤ w3.heap.size ∧ w3.heap[w.heap.size]? = some (.cells #[.int .i64 n] 3 (0, 0)) ∧ w3.heap[w.heap.size + 1]? = some (.cells #[.int .i64 bv, .int .i64 bd] 65 (0, 0)) ∧ w3.heap[w.heap.size + 2]? = some (.cells #[.bool false] 4 (0, 0)) := by rw [hw3]; exact ⟨bdrewN hb2 _, Nat.le_of_eq s2.symm, m1, m2, m3⟩
        have HD : Hid (_ = _) := hw3
        clear k0 k1 x0 y0 y1 z1 z2 m1 m2 m3 hb2 hw3 HW c6 s2
        rw [← HD.out]
        have x0 := (cells1 n1).1
        obtain ⟨y0, y1⟩ := cells2 n2
        obtain ⟨z1, z2⟩ := cells1 n3
        have cP := parts_any (bv : Int) (bd : Int) (some ⟨g, off, none⟩) w3
        go_wp2_with fail
        refine cP.mono ?_
        rintro e w4 ⟨rfl, hw4⟩
        clear cP
        obtain ⟨b4, sz4, p1, p3, pb, pp⟩ := allW hw4 n1 n3
        have hb4 := bchain hb3 b4
        have H4 : Hid (_ = _) := hw4
        clear hw4 z1 z2 y0 y1 x0
        go_wp2_with fail
        obtain ⟨s3, hs3e⟩ : ∃ s3, s3 = w3.heap.size := ⟨_, rfl⟩
        simp only [← hs3e] at pb pp sz4 hs3 ⊢
        obtain ⟨s, hse⟩ : ∃ s, s = w.heap.size := ⟨_, rfl⟩
        have ht4 : TmTop (fun q => q < s) w4 t ra rc ka kc sa sc := by rw [hse]; exact ht.lo.keep hb4.size (fun _ h => h) (fun q _ hs => hb4.block q hs)
        have hg4 : g < s := by rw [hse]; exact h6.lt
        have h64 := h6.blw hb4
        simp only [← hse] at p1 p3 hs3 ⊢
        have HB : Hid (Below s w w4) := by rw [hse]; exact hb4
        have Hse : Hid (s = w.heap.size) := hse
        clear hs3e hse hb4 b4 hb3 n1 n2 n3 HD
        refine (wpIn_wide (n := 4)).1 ?_
        refine range_own (n := 4) (by omega) rfl (enters_of Try.func64 (by kernel_rfl) rfl) (PartA (fun q => q < s) w4 t bv bd) t.pts.length s3 (s + 2) (by omega) (by omega)
          (parts_iter 3 (by omega) (fun q => q < s) t bv bd (s3 + 1) s3 (s + 2) g off ra rc ka kc sa sc w4 h64 ht4 (fun q hq => ⟨by omega, by omega⟩) hg4 pp pb (by omega) (by omega) (by omega) (by omega) (by omega) (by omega) (by omega))
          (fun k args hA => by obtain ⟨_, _, _, _, _, _, _, _, _, _, rfl, _⟩ := hA; rfl)
          (UsI n t bv w4 s s3) (UsX n t bv w4 s s3) (UsI.keep (by omega)) (UsX.keep (by omega)) ⟨fun j p hj => by omega, Kn.refl _ _, p3⟩ ?round ?done ?stop
        case round =>
          intro l k args W hk hA hI hl1 hl2
          obtain ⟨p, pg, poff, ra1, rc1, ka1, kc1, sa1, sc1, hp, rfl, hpg, p6, pt⟩ := hA
          have hmem := List.mem_of_getElem? hp
          have hbp := blk_pts hmem
          have hpl := pts_le hmem
          gi_wp2
          refine ⟨(Kn.refl _ _).alloc _, fun W2 hK2 => ?_⟩
          obtain ⟨hI1, hKw, hres⟩ := hI
          have hWs : w4.heap.size ≤ W.heap.size := hKw.size
          have kk2 : Kn (fun q => q < w4.heap.size ∧ q ≠ s3 ∧ q ≠ s + 2) w4 W2 := hKw.trans (((Kn.refl (fun q => q < w4.heap.size ∧ q ≠ s3 ∧ q ≠ s + 2) W).alloc _).trans (hK2.sub fun q h => by omega))
          have r2 : W2.heap[s + 2]? = some (.cells #[.bool false] 4 (0, 0)) := (hK2.block (s + 2) (by omega) (by simp; omega)).trans ((Below.heap_alloc _ _ _ (by omega)).trans hres)
          have o2 : W2.heap[s]? = some (.cells #[.int .i64 n] 3 (0, 0)) := (kk2.block s ⟨by omega, by omega, by omega⟩ (by omega)).trans p1
          have x2 : W2.heap[W.heap.size]? = some (.cells #[.int .i64 ((bv + p.2.1 : Nat) : Int), .int .i64 ((bd + p.2.2 : Nat) : Int)] 65 (0, 0)) := (hK2.block W.heap.size (by omega) (by simp)).trans (heapNew W _)
          have o20 := (cells1 o2).1
          obtain ⟨x20, x21⟩ := cells2 x2
          obtain ⟨r20, r21⟩ := cells1 r2
          have cI := IH p.1 (bv + p.2.1) (bd + p.2.2) pg poff ra1 rc1 ka1 kc1 sa1 sc1 W2 (p6.kn kk2 ⟨by omega, by omega, by omega⟩) ((pt.kn kk2 (fun q hq => ⟨by omega, by omega, by omega⟩)).tt) (by omega) (by omega) (by omega)
          have hW2s : w4.heap.size ≤ W2.heap.size := kk2.size
          clear o2 x2 p6 pt hK2
          obtain ⟨y1, hy1⟩ : ∃ y, y = bv + p.2.1 := ⟨_, rfl⟩
          obtain ⟨y2, hy2⟩ : ∃ y, y = bd + p.2.2 := ⟨_, rfl⟩
          rw [← hy1, ← hy2] at cI
          rw [← hy1] at x20
          rw [← hy2] at x21
          have HP : Hid (∀ b : Bool, usT n p.1 y1 = b → usT n p.1 (bv + p.2.1) = b) := fun b h => by rw [← hy1]; exact h
          clear hy1 hy2
          cases hok : usT n p.1 y1 with
          | false =>
            rw [hok] at cI
            have hok2 := HP.out false hok
            clear HP hok
            gi_wp2_with (refine ⟨trivial, ?_⟩; gi_at_call 40; refine (CallsIn.inRound l (callsIn_wide.2 cI)).mono ?_; rintro e w' ⟨rfl, hbb⟩)
            refine ⟨Kn.of_below hbb, fun j q hj hq => ?_, kk2.trans (Kn.of_below hbb), (hbb.block (s + 2) (by omega)).trans r2⟩
            rcases Nat.lt_or_ge j k with h | h
            · exact hI1 j q h hq
            · obtain rfl : j = k := by omega
              rw [hp] at hq; cases hq; exact hok2
          | true =>
            rw [hok] at cI
            have hok2 := HP.out true hok
            clear HP hok
            gi_wp2_with (refine ⟨trivial, ?_⟩; gi_at_call 40; refine (CallsIn.inRound l (callsIn_wide.2 cI)).mono ?_; rintro e w' ⟨rfl, hbb⟩; have r30 := (cells1 ((hbb.block (s + 2) (by omega)).trans r2)).1; have r31 := (cells1 ((hbb.block (s + 2) (by omega)).trans r2)).2; have hb3 := (hbb.block (s + 2) (by omega)).trans r2)
            refine ⟨(Kn.of_below hbb).setCell (p := ⟨s + 2, 0, none⟩) (.inl fun h => h rfl) _, (kk2.trans (Kn.of_below hbb)).trans ((Kn.refl _ _).setCell (p := ⟨s + 2, 0, none⟩) (.inl fun h => h.2.2 rfl) _), Boxed.set (t := 4) _ hb3, ?_⟩
            rw [HA.out, List.any_eq_true]
            exact ⟨p, hmem, hok2⟩
        case done =>
          intro D' W hD' hI hK
          obtain ⟨hI1, hKw, hres⟩ := hI
          obtain ⟨r20, r21⟩ := cells1 hres
          have hok : usT n t bv = false := by
            rw [HA.out, List.any_eq_false]
            intro p hp
            obtain ⟨j, hj⟩ := List.mem_iff_getElem?.1 hp
            rw [hI1 j p (some_lt hj) hj]; simp
          have hDl : D' < W.heap.size := (Array.getElem?_eq_some_iff.1 hK).1
          have hws := hKw.size
          have HBW : Hid (Below s w W) := HB.out.trans (hKw.below (fun q hq => ⟨by omega, by omega, by omega⟩) (by omega))
          go_wp2
          have hK5 := (Below.heap_setCell W ⟨s + 2, 0, none⟩ (.bool false) D' (by show D' ≠ s + 2; omega)).trans hK
          refine ⟨by simp, .inl ⟨_, _, rfl, run_takeDeferred hK5, ?_⟩⟩
          have c9 : ((W.setCell ⟨s + 2, 0, none⟩ (.bool false)).putObj D' (.deferred none)).cell? ⟨s + 2, 0, none⟩ = some (.bool false) := (cells1 (((kn_put _).block (s + 2) (by omega) (by simp [World.setCell]; omega)).trans (Boxed.set (t := 4) (.bool false) hres))).1
          refine ⟨.bool false, by simp only [results, Try.results40]; simp [go_sem, c9], ret_bool hok.symm, ?_⟩
          rw [← Hse.out]
          exact (HBW.out.setCell (p := ⟨s + 2, 0, none⟩) (by show s ≤ s + 2; omega) _).trans ((kn_put (W := W.setCell ⟨s + 2, 0, none⟩ (.bool false)) (l := D') (.deferred none)).below (fun q hq => by omega) (by simp [World.setCell]; omega))
        case stop =>
          intro D' W hD' hX hK
          obtain ⟨hKw, hres, hok⟩ := hX
          have hDl : D' < W.heap.size := (Array.getElem?_eq_some_iff.1 hK).1
          have hws := hKw.size
          have HBW : Hid (Below s w W) := HB.out.trans (hKw.below (fun q hq => ⟨by omega, by omega, by omega⟩) (by omega))
          gi_wp2
          refine ⟨by simp, .inl ⟨_, _, rfl, run_takeDeferred hK, ?_⟩⟩
          have c9 : (W.putObj D' (.deferred none)).cell? ⟨s + 2, 0, none⟩ = some (.bool true) := (cells1 (((kn_put _).block (s + 2) (by omega) (by omega)).trans hres)).1
          refine ⟨.bool true, by simp only [results, Try.results40]; simp [go_sem, c9], ret_bool hok.symm, ?_⟩
          rw [← Hse.out]
          exact HBW.out.trans ((kn_put (W := W) (l := D') (.deferred none)).below (fun q hq => by omega) (by omega))
    · have HA : Hid (usT n t bv = t.pts.any fun p => usT n p.1 (bv + p.2.1)) := by
        show _ = _
        rw [HO.out]
        by_cases h0 : 0 ≤ n
        · rw [decide_eq_false (show ¬ t.n = n + bv by omega)]; simp
        · rw [decide_eq_false h0]; simp
      have qm : decide ((bv : Int) ≤ t.n) = false := by simpa using hm
      clear hk hm HO
      refine (callsIn_wide (n := 4)).1 ?_
      refine callsIn_of_wp_marks Try.func40 rfl trivial ?_ rfl
      simp only [Try.ntmps40, List.size_toArray, List.length_cons, List.length_nil, Nat.reduceAdd, Nat.reduceSub, Array.replicate_succ, Array.replicate_zero, List.push_toArray, List.append_toArray, List.nil_append, List.cons_append]
      refine wpIn_wide.2 ?_
      go_upto_region 1 with fail
      rw [← HW.out]
      simp only [Nat.add_assoc, Nat.reduceAdd]
      go_quiet (fail)
      obtain ⟨w3, hw3⟩ : ∃ w3, w3 = w2.drewN nq := ⟨_, rfl⟩
      obtain ⟨hb3, hs3, n1, n2, n3⟩ : Below w.heap.size w w3 ∧ w.heap.size + 3 ≤ w3.heap.size ∧ w3.heap[w.heap.size]? = some (.cells #[.int .i64 n] 3 (0, 0)) ∧ w3.heap[w.heap.size + 1]? = some (.cells #[.int .i64 bv, .int .i64 bd] 65 (0, 0)) ∧ w3.heap[w.heap.size + 2]? = some (.cells #[.bool false] 4 (0, 0)) := by rw [hw3]; exact ⟨bdrewN hb2 _, Nat.le_of_eq s2.symm, m1, m2, m3⟩
      have HD : Hid (_ = _) := hw3
      clear k0 k1 x0 y0 y1 z1 z2 m1 m2 m3 hb2 hw3 HW c6 s2
      rw [← HD.out]
      have x0 := (cells1 n1).1
      obtain ⟨y0, y1⟩ := cells2 n2
      obtain ⟨z1, z2⟩ := cells1 n3
      have cP := parts_any (bv : Int) (bd : Int) (some ⟨g, off, none⟩) w3
      go_wp2_with fail
      refine cP.mono ?_
      rintro e w4 ⟨rfl, hw4⟩
      clear cP
      obtain ⟨b4, sz4, p1, p3, pb, pp⟩ := allW hw4 n1 n3
      have hb4 := bchain hb3 b4
      have H4 : Hid (_ = _) := hw4
      clear hw4 z1 z2 y0 y1 x0
      go_wp2_with fail
      obtain ⟨s3, hs3e⟩ : ∃ s3, s3 = w3.heap.size := ⟨_, rfl⟩
      simp only [← hs3e] at pb pp sz4 hs3 ⊢
      obtain ⟨s, hse⟩ : ∃ s, s = w.heap.size := ⟨_, rfl⟩
      have ht4 : TmTop (fun q => q < s) w4 t ra rc ka kc sa sc := by rw [hse]; exact ht.lo.keep hb4.size (fun _ h => h) (fun q _ hs => hb4.block q hs)
      have hg4 : g < s := by rw [hse]; exact h6.lt
      have h64 := h6.blw hb4
      simp only [← hse] at p1 p3 hs3 ⊢
      have HB : Hid (Below s w w4) := by rw [hse]; exact hb4
      have Hse : Hid (s = w.heap.size) := hse
      clear hs3e hse hb4 b4 hb3 n1 n2 n3 HD
      refine (wpIn_wide (n := 4)).1 ?_
      refine range_own (n := 4) (by omega) rfl (enters_of Try.func64 (by kernel_rfl) rfl) (PartA (fun q => q < s) w4 t bv bd) t.pts.length s3 (s + 2) (by omega) (by omega)
        (parts_iter 3 (by omega) (fun q => q < s) t bv bd (s3 + 1) s3 (s + 2) g off ra rc ka kc sa sc w4 h64 ht4 (fun q hq => ⟨by omega, by omega⟩) hg4 pp pb (by omega) (by omega) (by omega) (by omega) (by omega) (by omega) (by omega))
        (fun k args hA => by obtain ⟨_, _, _, _, _, _, _, _, _, _, rfl, _⟩ := hA; rfl)
        (UsI n t bv w4 s s3) (UsX n t bv w4 s s3) (UsI.keep (by omega)) (UsX.keep (by omega)) ⟨fun j p hj => by omega, Kn.refl _ _, p3⟩ ?round ?done ?stop
      case round =>
        intro l k args W hk hA hI hl1 hl2
        obtain ⟨p, pg, poff, ra1, rc1, ka1, kc1, sa1, sc1, hp, rfl, hpg, p6, pt⟩ := hA
        have hmem := List.mem_of_getElem? hp
        have hbp := blk_pts hmem
        have hpl := pts_le hmem
        gi_wp2
        refine ⟨(Kn.refl _ _).alloc _, fun W2 hK2 => ?_⟩
        obtain ⟨hI1, hKw, hres⟩ := hI
        have hWs : w4.heap.size ≤ W.heap.size := hKw.size
        have kk2 : Kn (fun q => q < w4.heap.size ∧ q ≠ s3 ∧ q ≠ s + 2) w4 W2 := hKw.trans (((Kn.refl (fun q => q < w4.heap.size ∧ q ≠ s3 ∧ q ≠ s + 2) W).alloc _).trans (hK2.sub fun q h => by omega))
        have r2 : W2.heap[s + 2]? = some (.cells #[.bool false] 4 (0, 0)) := (hK2.block (s + 2) (by omega) (by simp; omega)).trans ((Below.heap_alloc _ _ _ (by omega)).trans hres)
        have o2 : W2.heap[s]? = some (.cells #[.int .i64 n] 3 (0, 0)) := (kk2.block s ⟨by omega, by omega, by omega⟩ (by omega)).trans p1
        have x2 : W2.heap[W.heap.size]? = some (.cells #[.int .i64 ((bv + p.2.1 : Nat) : Int), .int .i64 ((bd + p.2.2 : Nat) : Int)] 65 (0, 0)) := (hK2.block W.heap.size (by omega) (by simp)).trans (heapNew W _)
        have o20 := (cells1 o2).1
        obtain ⟨x20, x21⟩ := cells2 x2
        obtain ⟨r20, r21⟩ := cells1 r2
        have cI := IH p.1 (bv + p.2.1) (bd + p.2.2) pg poff ra1 rc1 ka1 kc1 sa1 sc1 W2 (p6.kn kk2 ⟨by omega, by omega, by omega⟩) ((pt.kn kk2 (fun q hq => ⟨by omega, by omega, by omega⟩)).tt) (by omega) (by omega) (by omega)
        have hW2s : w4.heap.size ≤ W2.heap.size := kk2.size
        clear o2 x2 p6 pt hK2
        obtain ⟨y1, hy1⟩ : ∃ y, y = bv + p.2.1 := ⟨_, rfl⟩
        obtain ⟨y2, hy2⟩ : ∃ y, y = bd + p.2.2 := ⟨_, rfl⟩
        rw [← hy1, ← hy2] at cI
        rw [← hy1] at x20
        rw [← hy2] at x21
        have HP : Hid (∀ b : Bool, usT n p.1 y1 = b → usT n p.1 (bv + p.2.1) = b) := fun b h => by rw [← hy1]; exact h
        clear hy1 hy2
        cases hok : usT n p.1 y1 with
        | false =>
          rw [hok] at cI
          have hok2 := HP.out false hok
          clear HP hok
          gi_wp2_with (refine ⟨trivial, ?_⟩; gi_at_call 40; refine (CallsIn.inRound l (callsIn_wide.2 cI)).mono ?_; rintro e w' ⟨rfl, hbb⟩)
          refine ⟨Kn.of_below hbb, fun j q hj hq => ?_, kk2.trans (Kn.of_below hbb), (hbb.block (s + 2) (by omega)).trans r2⟩
          rcases Nat.lt_or_ge j k with h | h
          · exact hI1 j q h hq
          · obtain rfl : j = k := by omega
            rw [hp] at hq; cases hq; exact hok2
        | true =>
          rw [hok] at cI
          have hok2 := HP.out true hok
          clear HP hok
          gi_wp2_with (refine ⟨trivial, ?_⟩; gi_at_call 40; refine (CallsIn.inRound l (callsIn_wide.2 cI)).mono ?_; rintro e w' ⟨rfl, hbb⟩; have r30 := (cells1 ((hbb.block (s + 2) (by omega)).trans r2)).1; have r31 := (cells1 ((hbb.block (s + 2) (by omega)).trans r2)).2; have hb3 := (hbb.block (s + 2) (by omega)).trans r2)
          refine ⟨(Kn.of_below hbb).setCell (p := ⟨s + 2, 0, none⟩) (.inl fun h => h rfl) _, (kk2.trans (Kn.of_below hbb)).trans ((Kn.refl _ _).setCell (p := ⟨s + 2, 0, none⟩) (.inl fun h => h.2.2 rfl) _), Boxed.set (t := 4) _ hb3, ?_⟩
          rw [HA.out, List.any_eq_true]
          exact ⟨p, hmem, hok2⟩
      case done =>
        intro D' W hD' hI hK
        obtain ⟨hI1, hKw, hres⟩ := hI
        obtain ⟨r20, r21⟩ := cells1 hres
        have hok : usT n t bv = false := by
          rw [HA.out, List.any_eq_false]
          intro p hp
          obtain ⟨j, hj⟩ := List.mem_iff_getElem?.1 hp
          rw [hI1 j p (some_lt hj) hj]; simp
        have hDl : D' < W.heap.size := (Array.getElem?_eq_some_iff.1 hK).1
        have hws := hKw.size
        have HBW : Hid (Below s w W) := HB.out.trans (hKw.below (fun q hq => ⟨by omega, by omega, by omega⟩) (by omega))
        go_wp2
        have hK5 := (Below.heap_setCell W ⟨s + 2, 0, none⟩ (.bool false) D' (by show D' ≠ s + 2; omega)).trans hK
        refine ⟨by simp, .inl ⟨_, _, rfl, run_takeDeferred hK5, ?_⟩⟩
        have c9 : ((W.setCell ⟨s + 2, 0, none⟩ (.bool false)).putObj D' (.deferred none)).cell? ⟨s + 2, 0, none⟩ = some (.bool false) := (cells1 (((kn_put _).block (s + 2) (by omega) (by simp [World.setCell]; omega)).trans (Boxed.set (t := 4) (.bool false) hres))).1
        refine ⟨.bool false, by simp only [results, Try.results40]; simp [go_sem, c9], ret_bool hok.symm, ?_⟩
        rw [← Hse.out]
        exact (HBW.out.setCell (p := ⟨s + 2, 0, none⟩) (by show s ≤ s + 2; omega) _).trans ((kn_put (W := W.setCell ⟨s + 2, 0, none⟩ (.bool false)) (l := D') (.deferred none)).below (fun q hq => by omega) (by simp [World.setCell]; omega))
      case stop =>
        intro D' W hD' hX hK
        obtain ⟨hKw, hres, hok⟩ := hX
        have hDl : D' < W.heap.size := (Array.getElem?_eq_some_iff.1 hK).1
        have hws := hKw.size
        have HBW : Hid (Below s w W) := HB.out.trans (hKw.below (fun q hq => ⟨by omega, by omega, by omega⟩) (by omega))
        gi_wp2
        refine ⟨by simp, .inl ⟨_, _, rfl, run_takeDeferred hK, ?_⟩⟩
        have c9 : (W.putObj D' (.deferred none)).cell? ⟨s + 2, 0, none⟩ = some (.bool true) := (cells1 (((kn_put _).block (s + 2) (by omega) (by omega)).trans hres)).1
        refine ⟨.bool true, by simp only [results, Try.results40]; simp [go_sem, c9], ret_bool hok.symm, ?_⟩
        rw [← Hse.out]
        exact HBW.out.trans ((kn_put (W := W) (l := D') (.deferred none)).below (fun q hq => by omega) (by omega))
  · have HA : Hid (usT n t bv = t.pts.any fun p => usT n p.1 (bv + p.2.1)) := by
      show _ = _
      rw [HO.out, decide_eq_false hk]; simp
    have qk : decide (t.kind = 1) = false := by simpa using hk
    have qk' : (t.kind == 1) = false := by simpa using hk
    clear hk HO
    refine (callsIn_wide (n := 4)).1 ?_
    refine callsIn_of_wp_marks Try.func40 rfl trivial ?_ rfl
    simp only [Try.ntmps40, List.size_toArray, List.length_cons, List.length_nil, Nat.reduceAdd, Nat.reduceSub, Array.replicate_succ, Array.replicate_zero, List.push_toArray, List.append_toArray, List.nil_append, List.cons_append]
    refine wpIn_wide.2 ?_
    go_upto_region 1 with fail
    rw [← HW.out]
    simp only [Nat.add_assoc, Nat.reduceAdd]
    go_quiet (fail)
    obtain ⟨w3, hw3⟩ : ∃ w3, w3 = w2.drewN nq := ⟨_, rfl⟩
    obtain ⟨hb3, hs3, n1, n2, n3⟩ : Below w.heap.size w w3 ∧ w.heap.size + 3 ≤ w3.heap.size ∧ w3.heap[w.heap.size]? = some (.cells #[.int .i64 n] 3 (0, 0)) ∧ w3.heap[w.heap.size + 1]? = some (.cells #[.int .i64 bv, .int .i64 bd] 65 (0, 0)) ∧ w3.heap[w.heap.size + 2]? = some (.cells #[.bool false] 4 (0, 0)) := by rw [hw3]; exact ⟨bdrewN hb2 _, Nat.le_of_eq s2.symm, m1, m2, m3⟩
    have HD : Hid (_ = _) := hw3
    clear k0 k1 x0 y0 y1 z1 z2 m1 m2 m3 hb2 hw3 HW c6 s2
    rw [← HD.out]
    have x0 := (cells1 n1).1
    obtain ⟨y0, y1⟩ := cells2 n2
    obtain ⟨z1, z2⟩ := cells1 n3
    have cP := parts_any (bv : Int) (bd : Int) (some ⟨g, off, none⟩) w3
    go_wp2_with fail
    refine cP.mono ?_
    rintro e w4 ⟨rfl, hw4⟩
    clear cP
    obtain ⟨b4, sz4, p1, p3, pb, pp⟩ := allW hw4 n1 n3
    have hb4 := bchain hb3 b4
    have H4 : Hid (_ = _) := hw4
    clear hw4 z1 z2 y0 y1 x0
    go_wp2_with fail
    obtain ⟨s3, hs3e⟩ : ∃ s3, s3 = w3.heap.size := ⟨_, rfl⟩
    simp only [← hs3e] at pb pp sz4 hs3 ⊢
    obtain ⟨s, hse⟩ : ∃ s, s = w.heap.size := ⟨_, rfl⟩
    have ht4 : TmTop (fun q => q < s) w4 t ra rc ka kc sa sc := by rw [hse]; exact ht.lo.keep hb4.size (fun _ h => h) (fun q _ hs => hb4.block q hs)
    have hg4 : g < s := by rw [hse]; exact h6.lt
    have h64 := h6.blw hb4
    simp only [← hse] at p1 p3 hs3 ⊢
    have HB : Hid (Below s w w4) := by rw [hse]; exact hb4
    have Hse : Hid (s = w.heap.size) := hse
    clear hs3e hse hb4 b4 hb3 n1 n2 n3 HD
    refine (wpIn_wide (n := 4)).1 ?_
    refine range_own (n := 4) (by omega) rfl (enters_of Try.func64 (by kernel_rfl) rfl) (PartA (fun q => q < s) w4 t bv bd) t.pts.length s3 (s + 2) (by omega) (by omega)
      (parts_iter 3 (by omega) (fun q => q < s) t bv bd (s3 + 1) s3 (s + 2) g off ra rc ka kc sa sc w4 h64 ht4 (fun q hq => ⟨by omega, by omega⟩) hg4 pp pb (by omega) (by omega) (by omega) (by omega) (by omega) (by omega) (by omega))
      (fun k args hA => by obtain ⟨_, _, _, _, _, _, _, _, _, _, rfl, _⟩ := hA; rfl)
      (UsI n t bv w4 s s3) (UsX n t bv w4 s s3) (UsI.keep (by omega)) (UsX.keep (by omega)) ⟨fun j p hj => by omega, Kn.refl _ _, p3⟩ ?round ?done ?stop
    case round =>
      intro l k args W hk hA hI hl1 hl2
      obtain ⟨p, pg, poff, ra1, rc1, ka1, kc1, sa1, sc1, hp, rfl, hpg, p6, pt⟩ := hA
      have hmem := List.mem_of_getElem? hp
      have hbp := blk_pts hmem
      have hpl := pts_le hmem
      gi_wp2
      refine ⟨(Kn.refl _ _).alloc _, fun W2 hK2 => ?_⟩
      obtain ⟨hI1, hKw, hres⟩ := hI
      have hWs : w4.heap.size ≤ W.heap.size := hKw.size
      have kk2 : Kn (fun q => q < w4.heap.size ∧ q ≠ s3 ∧ q ≠ s + 2) w4 W2 := hKw.trans (((Kn.refl (fun q => q < w4.heap.size ∧ q ≠ s3 ∧ q ≠ s + 2) W).alloc _).trans (hK2.sub fun q h => by omega))
      have r2 : W2.heap[s + 2]? = some (.cells #[.bool false] 4 (0, 0)) := (hK2.block (s + 2) (by omega) (by simp; omega)).trans ((Below.heap_alloc _ _ _ (by omega)).trans hres)
      have o2 : W2.heap[s]? = some (.cells #[.int .i64 n] 3 (0, 0)) := (kk2.block s ⟨by omega, by omega, by omega⟩ (by omega)).trans p1
      have x2 : W2.heap[W.heap.size]? = some (.cells #[.int .i64 ((bv + p.2.1 : Nat) : Int), .int .i64 ((bd + p.2.2 : Nat) : Int)] 65 (0, 0)) := (hK2.block W.heap.size (by omega) (by simp)).trans (heapNew W _)
      have o20 := (cells1 o2).1
      obtain ⟨x20, x21⟩ := cells2 x2
      obtain ⟨r20, r21⟩ := cells1 r2
      have cI := IH p.1 (bv + p.2.1) (bd + p.2.2) pg poff ra1 rc1 ka1 kc1 sa1 sc1 W2 (p6.kn kk2 ⟨by omega, by omega, by omega⟩) ((pt.kn kk2 (fun q hq => ⟨by omega, by omega, by omega⟩)).tt) (by omega) (by omega) (by omega)
      have hW2s : w4.heap.size ≤ W2.heap.size := kk2.size
      clear o2 x2 p6 pt hK2
      obtain ⟨y1, hy1⟩ : ∃ y, y = bv + p.2.1 := ⟨_, rfl⟩
      obtain ⟨y2, hy2⟩ : ∃ y, y = bd + p.2.2 := ⟨_, rfl⟩
      rw [← hy1, ← hy2] at cI
      rw [← hy1] at x20
      rw [← hy2] at x21
      have HP : Hid (∀ b : Bool, usT n p.1 y1 = b → usT n p.1 (bv + p.2.1) = b) := fun b h => by rw [← hy1]; exact h
      clear hy1 hy2
      cases hok : usT n p.1 y1 with
      | false =>
        rw [hok] at cI
        have hok2 := HP.out false hok
        clear HP hok
        gi_wp2_with (refine ⟨trivial, ?_⟩; gi_at_call 40; refine (CallsIn.inRound l (callsIn_wide.2 cI)).mono ?_; rintro e w' ⟨rfl, hbb⟩)
        refine ⟨Kn.of_below hbb, fun j q hj hq => ?_, kk2.trans (Kn.of_below hbb), (hbb.block (s + 2) (by omega)).trans r2⟩
        rcases Nat.lt_or_ge j k with h | h
        · exact hI1 j q h hq
        · obtain rfl : j = k := by omega
          rw [hp] at hq; cases hq; exact hok2
      | true =>
        rw [hok] at cI
        have hok2 := HP.out true hok
        clear HP hok
        gi_wp2_with (refine ⟨trivial, ?_⟩; gi_at_call 40; refine (CallsIn.inRound l (callsIn_wide.2 cI)).mono ?_; rintro e w' ⟨rfl, hbb⟩; have r30 := (cells1 ((hbb.block (s + 2) (by omega)).trans r2)).1; have r31 := (cells1 ((hbb.block (s + 2) (by omega)).trans r2)).2; have hb3 := (hbb.block (s + 2) (by omega)).trans r2)
        refine ⟨(Kn.of_below hbb).setCell (p := ⟨s + 2, 0, none⟩) (.inl fun h => h rfl) _, (kk2.trans (Kn.of_below hbb)).trans ((Kn.refl _ _).setCell (p := ⟨s + 2, 0, none⟩) (.inl fun h => h.2.2 rfl) _), Boxed.set (t := 4) _ hb3, ?_⟩
        rw [HA.out, List.any_eq_true]
        exact ⟨p, hmem, hok2⟩
    case done =>
      intro D' W hD' hI hK
      obtain ⟨hI1, hKw, hres⟩ := hI
      obtain ⟨r20, r21⟩ := cells1 hres
      have hok : usT n t bv = false := by
        rw [HA.out, List.any_eq_false]
        intro p hp
        obtain ⟨j, hj⟩ := List.mem_iff_getElem?.1 hp
        rw [hI1 j p (some_lt hj) hj]; simp
      have hDl : D' < W.heap.size := (Array.getElem?_eq_some_iff.1 hK).1
      have hws := hKw.size
      have HBW : Hid (Below s w W) := HB.out.trans (hKw.below (fun q hq => ⟨by omega, by omega, by omega⟩) (by omega))
      go_wp2
      have hK5 := (Below.heap_setCell W ⟨s + 2, 0, none⟩ (.bool false) D' (by show D' ≠ s + 2; omega)).trans hK
      refine ⟨by simp, .inl ⟨_, _, rfl, run_takeDeferred hK5, ?_⟩⟩
      have c9 : ((W.setCell ⟨s + 2, 0, none⟩ (.bool false)).putObj D' (.deferred none)).cell? ⟨s + 2, 0, none⟩ = some (.bool false) := (cells1 (((kn_put _).block (s + 2) (by omega) (by simp [World.setCell]; omega)).trans (Boxed.set (t := 4) (.bool false) hres))).1
      refine ⟨.bool false, by simp only [results, Try.results40]; simp [go_sem, c9], ret_bool hok.symm, ?_⟩
      rw [← Hse.out]
      exact (HBW.out.setCell (p := ⟨s + 2, 0, none⟩) (by show s ≤ s + 2; omega) _).trans ((kn_put (W := W.setCell ⟨s + 2, 0, none⟩ (.bool false)) (l := D') (.deferred none)).below (fun q hq => by omega) (by simp [World.setCell]; omega))
    case stop =>
      intro D' W hD' hX hK
      obtain ⟨hKw, hres, hok⟩ := hX
      have hDl : D' < W.heap.size := (Array.getElem?_eq_some_iff.1 hK).1
      have hws := hKw.size
      have HBW : Hid (Below s w W) := HB.out.trans (hKw.below (fun q hq => ⟨by omega, by omega, by omega⟩) (by omega))
      gi_wp2
      refine ⟨by simp, .inl ⟨_, _, rfl, run_takeDeferred hK, ?_⟩⟩
      have c9 : (W.putObj D' (.deferred none)).cell? ⟨s + 2, 0, none⟩ = some (.bool true) := (cells1 (((kn_put _).block (s + 2) (by omega) (by omega)).trans hres)).1
      refine ⟨.bool true, by simp only [results, Try.results40]; simp [go_sem, c9], ret_bool hok.symm, ?_⟩
      rw [← Hse.out]
      exact HBW.out.trans ((kn_put (W := W) (l := D') (.deferred none)).below (fun q hq => by omega) (by omega))
theorem uses_any (n : Int) (N : Nat) : UsC n N := by
  induction N with
  | zero => intro t bv bd g off ra rc ka kc sa sc w _ _ h; have := blk_pos t; omega
  | succ N ih => exact uses_step n N ih
end Go.Proofs.Ytmaijbeghemkbaa
