/- mask.Lift and mask.Drop: what they hand back; nothing that lay before the call turns. -/
import Derived.Test.YtkklmioejgpknaaLoopsB
namespace Go.Proofs.Ytkklmioejgpknaa
open Go.RowKit Go.Shelf
attribute [local go_sem] Oper.semAt_some

theorem up_hit {fr by_ : Int} {s : Nat} {pre : List Dim} {x : Dim} (h : s.testBit x.1 = true) : (inS s (pre ++ [x])).map (upK fr by_) = (inS s pre).map (upK fr by_) ++ [upK fr by_ x.1] := by rw [inS_hit h]; simp
theorem bad_hit {fr by_ : Int} {s : Nat} {pre : List Dim} {x : Dim} (h : s.testBit x.1 = true) : liftBad fr by_ (inS s (pre ++ [x])) = (liftBad fr by_ (inS s pre) || badK fr by_ x.1) := by rw [inS_hit h]; simp [liftBad]
/-- What has been gathered when the dimensions 'pre' are over. -/
def upN (s : Nat) (fr by_ : Int) (pre : List Dim) : Nat := orAll ((inS s pre).map (upK fr by_))

set_option maxRecDepth 100000 in
set_option maxHeartbeats 2000000 in
theorem lift_loop (s : Nat) (fr by_ : Int) (w : World) (hs : s < 4294967296) (h0 : 0 ≤ fr) (h1 : 0 ≤ by_) :
    Calls Try.prog 76 #[.int .u32 s, .int .i64 fr, .int .i64 by_] w fun e W' => e = .returned (.tuple #[.int .u32 (liftN s fr by_ : Nat), .int .i64 (liftE s fr by_)]) ∧ Below w.heap.size w W' := by
  have ha : argB fr by_ = false := argB_no h0 h1
  have HBad : Hid (liftBad fr by_ (dimsOf s) = true → liftN s fr by_ = 0 ∧ liftE s fr by_ = 10) := fun h => lift_bad ha h
  have HOk : Hid (liftBad fr by_ (dimsOf s) = false → liftN s fr by_ = orAll ((dimsOf s).map (upK fr by_)) ∧ liftE s fr by_ = 0) := fun h => lift_ok ha h
  clear ha
  refine (callsIn_wide (n := 4)).1 ?_
  refine callsIn_of_wp_marks Try.func76 rfl trivial ?_ rfl
  simp only [Try.ntmps76, List.size_toArray, List.length_cons, List.length_nil, Nat.reduceAdd, Nat.reduceSub, Array.replicate_succ, Array.replicate_zero, List.push_toArray, List.append_toArray, List.nil_append, List.cons_append]
  gi_wp2
  have b0 := Boxed.new w 42 (.int .u32 s)
  have b1 := Boxed.new (w.alloc (.cells #[.int .u32 s] 42)) 3 (.int .i64 fr)
  have b2 := Boxed.new ((w.alloc (.cells #[.int .u32 s] 42)).alloc (.cells #[.int .i64 fr] 3)) 3 (.int .i64 by_)
  have b3 := Boxed.new (((w.alloc (.cells #[.int .u32 s] 42)).alloc (.cells #[.int .i64 fr] 3)).alloc (.cells #[.int .i64 by_] 3)) 42 (.int .u32 0)
  have b4 := Boxed.new ((((w.alloc (.cells #[.int .u32 s] 42)).alloc (.cells #[.int .i64 fr] 3)).alloc (.cells #[.int .i64 by_] 3)).alloc (.cells #[.int .u32 0] 42)) 25 (.int .i64 0)
  have b5 := Boxed.new (((((w.alloc (.cells #[.int .u32 s] 42)).alloc (.cells #[.int .i64 fr] 3)).alloc (.cells #[.int .i64 by_] 3)).alloc (.cells #[.int .u32 0] 42)).alloc (.cells #[.int .i64 0] 25)) 42 (.int .u32 0)
  have hB0 : Below w.heap.size w ((((((w.alloc (.cells #[.int .u32 s] 42)).alloc (.cells #[.int .i64 fr] 3)).alloc (.cells #[.int .i64 by_] 3)).alloc (.cells #[.int .u32 0] 42)).alloc (.cells #[.int .i64 0] 25)).alloc (.cells #[.int .u32 0] 42)) := ((((((Below.refl _ w).alloc (Nat.le_refl _) _).alloc (by simp) _).alloc (by simp; omega) _).alloc (by simp; omega) _).alloc (by simp; omega) _).alloc (by simp; omega) _
  simp only [World.size_alloc] at b1 b2 b3 b4 b5
  refine wpIn_rangeFunc_ownG rfl (by omega) (gf := 86) (lb := #[]) rfl trivial (enters_of Try.func86 (by kernel_rfl) rfl)
    (dims_stops 3 (by omega) w.heap.size _) belowK_t (belowK_b (by simp; omega)) (Below.refl _ _) (fun _ => rfl)
    (fun pre W => (Hid (liftBad fr by_ (inS s pre) = false) ∧ Boxed W w.heap.size 42 (.int .u32 s) ∧ Boxed W (w.heap.size + 1) 3 (.int .i64 fr) ∧ Boxed W (w.heap.size + 1 + 1) 3 (.int .i64 by_) ∧ Boxed W (w.heap.size + 1 + 1 + 1) 42 (.int .u32 0) ∧ Boxed W (w.heap.size + 1 + 1 + 1 + 1) 25 (.int .i64 0) ∧ Boxed W (w.heap.size + 1 + 1 + 1 + 1 + 1) 42 (.int .u32 (upN s fr by_ pre : Nat))) ∧ Below w.heap.size w W)
    (fun c pre W => ((c = .ret ∧ liftBad fr by_ (inS s pre) = true) ∧ Boxed W (w.heap.size + 1 + 1 + 1) 42 (.int .u32 0) ∧ Boxed W (w.heap.size + 1 + 1 + 1 + 1) 25 (.int .i64 10)) ∧ Below w.heap.size w W)
    (OwnFrom.and (OwnFrom.and (ownFrom_pure _ _) (OwnFrom.and (Own.from (boxed_own _ _ _) _) (OwnFrom.and (Own.from (boxed_own _ _ _) _) (OwnFrom.and (Own.from (boxed_own _ _ _) _) (OwnFrom.and (Own.from (boxed_own _ _ _) _) (OwnFrom.and (Own.from (boxed_own _ _ _) _) (Own.from (boxed_own _ _ (fun pre => .int .u32 (upN s fr by_ pre : Nat))) _))))))) (ownFrom_below (Nat.le_refl _) (by simp; omega)))
    (fun c => OwnFrom.and (OwnFrom.and (ownFrom_pure _ _) (OwnFrom.and (Own.from (boxed_own _ _ _) _) (Own.from (boxed_own _ _ _) _))) (ownFrom_below (Nat.le_refl _) (by simp; omega)))
    ⟨⟨rfl, ((((b0.alloc _).alloc _).alloc _).alloc _).alloc _, (((b1.alloc _).alloc _).alloc _).alloc _, ((b2.alloc _).alloc _).alloc _, (b3.alloc _).alloc _, b4.alloc _, b5⟩, hB0⟩
    (fun x => { tmps := #[.int .u32 s, .int .i64 fr, .int .i64 by_, .pointer (some ⟨w.heap.size, 0, none⟩), .pointer (some ⟨w.heap.size + 1, 0, none⟩), .pointer (some ⟨w.heap.size + 1 + 1, 0, none⟩), .pointer (some ⟨w.heap.size + 1 + 1 + 1, 0, none⟩), .pointer (some ⟨w.heap.size + 1 + 1 + 1 + 1, 0, none⟩), .pointer (some ⟨w.heap.size + 1 + 1 + 1 + 1 + 1, 0, none⟩), .int .i64 ((x.1 : Nat) : Int), .int .i64 fr, .bool (decide (fr < 0)), .bool (decide (fr < 0)), .int .i64 by_, .bool (decide (by_ < 0)), .bool (decide (fr < 0) || decide (by_ < 0)), .int .i64 ((x.1 : Nat) : Int), undef, undef, undef, undef, undef, undef, undef, undef, undef, undef, undef, undef, undef, undef, undef, undef, undef, undef, undef, undef, undef, undef, undef], defers := [] }) ?assign ?body ?done ?stop
  case assign =>
    intro l x W K hK
    gi_wp2
    exact hK
  case body =>
    rintro l pre x W ⟨⟨HA, hb0, hb1, hb2, hb3, hb4, hb5⟩, hB⟩ hlt
    have hc0 := hb0.cell
    have hc1 := hb1.cell
    have hc2 := hb2.cell
    have hc3 := hb3.cell
    have hf3 := hb3.frozen
    have hc4 := hb4.cell
    have hf4 := hb4.frozen
    have hc5 := hb5.cell
    have hf5 := hb5.frozen
    have hx := x.2
    have hup24 : ∀ k ∈ (inS s pre).map (upK fr by_), k < 24 := up_bd h1 (inS_lt s pre) HA.out
    have hy : upN s fr by_ pre < 16777216 := orAll_lt hup24
    have hy' : upN s fr by_ pre < 4294967296 := by omega
    have HUP : Hid (∀ k ∈ (inS s pre).map (upK fr by_), k < 24) := hup24
    clear hup24
    by_cases hb : s.testBit x.1 = true
    · have hh : hasB s ((x.1 : Nat) : Int) = true := by rw [hasB_nat hx]; exact hb
      by_cases hlo : ((x.1 : Nat) : Int) < fr
      · have hnb : badK fr by_ x.1 = false := by simp [badK]; omega
        have HU : Hid (liftBad fr by_ (inS s (pre ++ [x])) = false) := by show liftBad fr by_ _ = false; rw [bad_hit hb, HA.out, hnb]; rfl
        have HW : Hid (withN (upN s fr by_ pre) ((x.1 : Nat) : Int) = upN s fr by_ (pre ++ [x])) := by
          show withN (upN s fr by_ pre) _ = _
          unfold upN
          have e : upK fr by_ x.1 = x.1 := by simp [upK, hlo]
          rw [up_hit hb, e]
          exact withN_orAll HUP.out hx
        clear hb hnb
        gi_wp2_with (first
          | (refine ⟨trivial, ?_⟩; gi_at_call 36; refine (CallsIn.inRound l (callsIn_wide.2 (has_any _ _ _ hs))).mono ?_; rintro e w' ⟨rfl, rfl⟩; rw [hh])
          | (refine ⟨trivial, ?_⟩; gi_at_call 37; refine (CallsIn.inRound l (callsIn_wide.2 (with_any _ _ _ hy'))).mono ?_; rintro e w' ⟨rfl, rfl⟩))
        refine ⟨(KeepsOthers.setCell _ _ _).from _, (Below.refl _ _).setCell (p := ⟨w.heap.size + 1 + 1 + 1 + 1 + 1, 0, none⟩) (by simp; omega) _, ⟨HU, hb0.other (by omega) _, hb1.other (by omega) _, hb2.other (by omega) _, hb3.other (by omega) _, hb4.other (by omega) _, ?_⟩, hB.setCell (p := ⟨w.heap.size + 1 + 1 + 1 + 1 + 1, 0, none⟩) (by simp; omega) _⟩
        rw [← HW.out]; exact hb5.set _
      · by_cases hbig : 24 - ((x.1 : Nat) : Int) ≤ by_
        · have hnb : badK fr by_ x.1 = true := by simp [badK]; omega
          have HU : Hid (liftBad fr by_ (inS s (pre ++ [x])) = true) := by show liftBad fr by_ _ = true; rw [bad_hit hb, hnb]; simp
          clear hb hnb
          gi_wp2_with (refine ⟨trivial, ?_⟩; gi_at_call 36; refine (CallsIn.inRound l (callsIn_wide.2 (has_any _ _ _ hs))).mono ?_; rintro e w' ⟨rfl, rfl⟩; rw [hh])
          refine ⟨((KeepsOthers.setCell _ _ _).trans (KeepsOthers.setCell _ _ _)).from _, ⟨⟨rfl, HU.out⟩, (hb3.set _).other (by omega) _, (hb4.other (by omega) _).set _⟩, (hB.setCell (p := ⟨w.heap.size + 1 + 1 + 1, 0, none⟩) (by simp; omega) _).setCell (p := ⟨w.heap.size + 1 + 1 + 1 + 1, 0, none⟩) (by simp; omega) _⟩
        · have hnb : badK fr by_ x.1 = false := by simp [badK]; omega
          have HU : Hid (liftBad fr by_ (inS s (pre ++ [x])) = false) := by show liftBad fr by_ _ = false; rw [bad_hit hb, HA.out, hnb]; rfl
          have HW : Hid (withN (upN s fr by_ pre) (((x.1 : Nat) : Int) + by_) = upN s fr by_ (pre ++ [x])) := by
            show withN (upN s fr by_ pre) _ = _
            unfold upN
            have e : upK fr by_ x.1 = x.1 + by_.toNat := by simp [upK, hlo]
            have e2 : ((x.1 : Nat) : Int) + by_ = ((x.1 + by_.toNat : Nat) : Int) := by omega
            rw [up_hit hb, e, e2]
            exact withN_orAll HUP.out (by omega)
          clear hb hnb
          gi_wp2_with (first
            | (refine ⟨trivial, ?_⟩; gi_at_call 36; refine (CallsIn.inRound l (callsIn_wide.2 (has_any _ _ _ hs))).mono ?_; rintro e w' ⟨rfl, rfl⟩; rw [hh])
            | (refine ⟨trivial, ?_⟩; gi_at_call 37; refine (CallsIn.inRound l (callsIn_wide.2 (with_any _ _ _ hy'))).mono ?_; rintro e w' ⟨rfl, rfl⟩))
          refine ⟨(KeepsOthers.setCell _ _ _).from _, (Below.refl _ _).setCell (p := ⟨w.heap.size + 1 + 1 + 1 + 1 + 1, 0, none⟩) (by simp; omega) _, ⟨HU, hb0.other (by omega) _, hb1.other (by omega) _, hb2.other (by omega) _, hb3.other (by omega) _, hb4.other (by omega) _, ?_⟩, hB.setCell (p := ⟨w.heap.size + 1 + 1 + 1 + 1 + 1, 0, none⟩) (by simp; omega) _⟩
          rw [← HW.out]; exact hb5.set _
    · have hb : s.testBit x.1 = false := by simpa using hb
      have hh : hasB s ((x.1 : Nat) : Int) = false := by rw [hasB_nat hx]; exact hb
      have HI : Hid (inS s (pre ++ [x]) = inS s pre) := inS_miss hb
      clear hb
      gi_wp2_with (refine ⟨trivial, ?_⟩; gi_at_call 36; refine (CallsIn.inRound l (callsIn_wide.2 (has_any _ _ _ hs))).mono ?_; rintro e w' ⟨rfl, rfl⟩; rw [hh])
      exact ⟨KeepsFrom.refl _ _, Below.refl _ _, ⟨by rw [HI.out]; exact HA, hb0, hb1, hb2, hb3, hb4, by unfold upN; rw [HI.out]; exact hb5⟩, hB⟩
  case done =>
    rintro D ys W hD hys ⟨⟨HA, hb0, hb1, hb2, hb3, hb4, hb5⟩, hB⟩ hK
    rw [inS_all hys] at HA
    have hE := HOk.out HA.out
    have HN : Hid (liftN s fr by_ = upN s fr by_ ys) := by show liftN s fr by_ = _; unfold upN; rw [inS_all hys]; exact hE.1
    have HE : Hid (liftE s fr by_ = 0) := hE.2
    clear hE
    have hc3 := hb3.cell
    have hf3 := hb3.frozen
    have hc4 := hb4.cell
    have hf4 := hb4.frozen
    have hc5 := hb5.cell
    gi_wp2
    have hK1 := (KeepsOthers.setCell W ⟨w.heap.size + 1 + 1 + 1, 0, none⟩ (.int .u32 (upN s fr by_ ys : Nat))).same D _ hK rfl
    have hK' := (KeepsOthers.setCell (W.setCell ⟨w.heap.size + 1 + 1 + 1, 0, none⟩ (.int .u32 (upN s fr by_ ys : Nat))) ⟨w.heap.size + 1 + 1 + 1 + 1, 0, none⟩ (.int .i64 0)).same D _ hK1 rfl
    refine ⟨by simp, .inl ⟨_, _, rfl, run_takeDeferred hK', ?_⟩⟩
    have hr3 := cell_kept ((hb3.set (.int .u32 (upN s fr by_ ys : Nat))).other (B' := w.heap.size + 1 + 1 + 1 + 1) (by omega) (.int .i64 0)).cell (grownBy_putObj' _ D (.deferred none)) (fun r e => by cases e; exact ⟨_, hK', rfl⟩)
    have hr4 := cell_kept ((hb4.other (B' := w.heap.size + 1 + 1 + 1) (by omega) (.int .u32 (upN s fr by_ ys : Nat))).set (.int .i64 0)).cell (grownBy_putObj' _ D (.deferred none)) (fun r e => by cases e; exact ⟨_, hK', rfl⟩)
    refine ⟨.tuple #[.int .u32 (upN s fr by_ ys : Nat), .int .i64 0], ?_, by rw [HN.out, HE.out], ((hB.setCell (p := ⟨w.heap.size + 1 + 1 + 1, 0, none⟩) (by simp; omega) _).setCell (p := ⟨w.heap.size + 1 + 1 + 1 + 1, 0, none⟩) (by simp; omega) _).trans (belowK_b (w := w) (Nat.le_refl _) _ D _ _ (by simp at hD; omega) hK' rfl rfl)⟩
    simp [results, Try.f76, go_sem, hr3, hr4]
  case stop =>
    rintro D c pre W hD _ ⟨⟨⟨rfl, hbad⟩, hb3, hb4⟩, hB⟩ hK
    have hbd : liftBad fr by_ (dimsOf s) = true := by
      simp only [liftBad, List.any_eq_true] at hbad
      obtain ⟨k, hk, hkb⟩ := hbad
      exact liftBad_mem (inS_mem hk) hkb
    have hE := HBad.out hbd
    have HN : Hid (liftN s fr by_ = 0) := hE.1
    have HE : Hid (liftE s fr by_ = 10) := hE.2
    clear hE hbad hbd
    gi_wp2
    refine ⟨by simp, .inl ⟨_, _, rfl, run_takeDeferred hK, ?_⟩⟩
    have hr3 := cell_kept hb3.cell (grownBy_putObj' _ D (.deferred none)) (fun r e => by cases e; exact ⟨_, hK, rfl⟩)
    have hr4 := cell_kept hb4.cell (grownBy_putObj' _ D (.deferred none)) (fun r e => by cases e; exact ⟨_, hK, rfl⟩)
    refine ⟨.tuple #[.int .u32 0, .int .i64 10], ?_, by rw [HN.out, HE.out]; rfl, hB.trans (belowK_b (w := w) (Nat.le_refl _) W D _ _ (by simp at hD; omega) hK rfl rfl)⟩
    simp [results, Try.f76, go_sem, hr3, hr4]

set_option maxRecDepth 100000 in
set_option maxHeartbeats 2000000 in
theorem lift_any (s : Nat) (fr by_ : Int) (w : World) (hs : s < 4294967296) :
    Calls Try.prog 76 #[.int .u32 s, .int .i64 fr, .int .i64 by_] w fun e W' => e = .returned (.tuple #[.int .u32 (liftN s fr by_ : Nat), .int .i64 (liftE s fr by_)]) ∧ Below w.heap.size w W' := by
  by_cases h0 : 0 ≤ fr
  · by_cases h1 : 0 ≤ by_
    · exact lift_loop s fr by_ w hs h0 h1
    · have HE := lift_arg (s := s) (argB_by (from_ := fr) (by_ := by_) (by omega))
      have HN : Hid (liftN s fr by_ = 0) := HE.1
      have HE2 : Hid (liftE s fr by_ = 2) := HE.2
      clear HE
      go_enter Try.func76, Try.ntmps76
      go_wp2
      refine bodyPost_ret (v := .tuple #[.int .u32 0, .int .i64 2]) (by simp [results, Try.results76, go_sem]) rfl ⟨by rw [HN.out, HE2.out]; rfl, ?_⟩
      exact (((((Below.refl _ w).alloc (Nat.le_refl _) _).alloc (by simp) _).alloc (by simp; omega) _).alloc (by simp; omega) _).alloc (by simp; omega) _
  · have HE := lift_arg (s := s) (argB_from (from_ := fr) (by_ := by_) (by omega))
    have HN : Hid (liftN s fr by_ = 0) := HE.1
    have HE2 : Hid (liftE s fr by_ = 2) := HE.2
    clear HE
    go_enter Try.func76, Try.ntmps76
    go_wp2
    refine bodyPost_ret (v := .tuple #[.int .u32 0, .int .i64 2]) (by simp [results, Try.results76, go_sem]) rfl ⟨by rw [HN.out, HE2.out]; rfl, ?_⟩
    exact (((((Below.refl _ w).alloc (Nat.le_refl _) _).alloc (by simp) _).alloc (by simp; omega) _).alloc (by simp; omega) _).alloc (by simp; omega) _
end Go.Proofs.Ytkklmioejgpknaa
