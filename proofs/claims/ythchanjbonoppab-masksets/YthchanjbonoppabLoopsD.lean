/- mask.Drop: what it hands back; nothing that lay before the call turns. -/
import Derived.Test.YthchanjbonoppabLoopsC
namespace Go.Proofs.Ythchanjbonoppab
open Go.RowKit Go.Shelf
attribute [local go_sem] Oper.semAt_some

/-- What has been gathered when the dimensions 'pre' are over. -/
def dnL (s j : Nat) (pre : List Dim) : List Nat := ((inS s pre).filter (notI (j : Int))).map (downK j)
def dnN (s j : Nat) (pre : List Dim) : Nat := orAll (dnL s j pre)
theorem dnL_miss {s j : Nat} {pre : List Dim} {x : Dim} (h : s.testBit x.1 = false) : dnL s j (pre ++ [x]) = dnL s j pre := by rw [dnL, inS_miss h]; rfl
theorem dnL_self {s j : Nat} {pre : List Dim} {x : Dim} (h : s.testBit x.1 = true) (e : x.1 = j) : dnL s j (pre ++ [x]) = dnL s j pre := by
  rw [dnL, inS_hit h, List.filter_append]
  have : notI (j : Int) x.1 = false := by simp [notI, e]
  simp [this, dnL]
theorem dnL_hit {s j : Nat} {pre : List Dim} {x : Dim} (h : s.testBit x.1 = true) (e : x.1 ≠ j) : dnL s j (pre ++ [x]) = dnL s j pre ++ [downK j x.1] := by
  rw [dnL, inS_hit h, List.filter_append]
  have : notI (j : Int) x.1 = true := by simp [notI]; omega
  simp [this, dnL]
theorem dnL_lt (s j : Nat) (pre : List Dim) : ∀ k ∈ dnL s j pre, k < 24 := by
  intro k hk
  obtain ⟨x, hx, rfl⟩ := List.mem_map.1 hk
  have := inS_lt s pre x (List.mem_filter.1 hx).1
  unfold downK; split <;> omega
theorem dnN_all {s j : Nat} {ys : List Dim} (hj : j < 24) (h : ys.map Fin.val = List.range 24) : dnN s j ys = dropN s (j : Int) := by
  rw [dnN, dnL, inS_all h, dropN, isDimB_nat hj]; simp

set_option maxRecDepth 100000 in
set_option maxHeartbeats 2000000 in
theorem drop_loop (s j : Nat) (w : World) (hs : s < 4294967296) (hj : j < 24) :
    Calls Try.prog 13 #[.int .u32 s, .int .i64 j] w fun e W' => e = .returned (.int .u32 (dropN s (j : Int) : Nat)) ∧ Below w.heap.size w W' := by
  have h0 : isDimB (j : Int) = true := isDimB_nat hj
  refine (callsIn_wide (n := 4)).1 ?_
  refine callsIn_of_wp_marks Try.func13 rfl trivial ?_ rfl
  simp only [Try.ntmps13, List.size_toArray, List.length_cons, List.length_nil, Nat.reduceAdd, Nat.reduceSub, Array.replicate_succ, Array.replicate_zero, List.push_toArray, List.append_toArray, List.nil_append, List.cons_append]
  gi_wp2_with (refine ⟨trivial, ?_⟩; gi_at_call 14; refine (callsIn_wide.2 (isDim_any _ _)).mono ?_; rintro e w' ⟨rfl, rfl⟩; rw [h0])
  have b0 := Boxed.new w 22 (.int .u32 s)
  have b1 := Boxed.new (w.alloc (.cells #[.int .u32 s] 22)) 3 (.int .i64 j)
  have b2 := Boxed.new ((w.alloc (.cells #[.int .u32 s] 22)).alloc (.cells #[.int .i64 j] 3)) 22 (.int .u32 0)
  have hB0 : Below w.heap.size w (((w.alloc (.cells #[.int .u32 s] 22)).alloc (.cells #[.int .i64 j] 3)).alloc (.cells #[.int .u32 0] 22)) := (((Below.refl _ w).alloc (Nat.le_refl _) _).alloc (by simp) _).alloc (by simp; omega) _
  simp only [World.size_alloc] at b1 b2
  refine wpIn_rangeFunc_ownG rfl (by omega) (gf := 15) (lb := #[]) rfl trivial (enters_of Try.func15 (by kernel_rfl) rfl)
    (dims_stops 3 (by omega) w.heap.size _) belowK_t (belowK_b (by simp; omega)) (Below.refl _ _) (fun _ => rfl)
    (fun pre W => (Boxed W w.heap.size 22 (.int .u32 s) ∧ Boxed W (w.heap.size + 1) 3 (.int .i64 j) ∧ Boxed W (w.heap.size + 1 + 1) 22 (.int .u32 (dnN s j pre : Nat))) ∧ Below w.heap.size w W)
    (fun _ _ _ => False)
    (OwnFrom.and (OwnFrom.and (Own.from (boxed_own _ _ _) _) (OwnFrom.and (Own.from (boxed_own _ _ _) _) (Own.from (boxed_own _ _ (fun pre => .int .u32 (dnN s j pre : Nat))) _))) (ownFrom_below (Nat.le_refl _) (by simp; omega)))
    (fun _ _ _ _ _ hs _ _ => hs)
    ⟨⟨(b0.alloc _).alloc _, b1.alloc _, b2⟩, hB0⟩
    (fun x => { tmps := #[.int .u32 s, .int .i64 j, .pointer (some ⟨w.heap.size, 0, none⟩), .pointer (some ⟨w.heap.size + 1, 0, none⟩), .int .u32 0, .pointer (some ⟨w.heap.size + 1 + 1, 0, none⟩), .int .i64 ((x.1 : Nat) : Int), .int .i64 j, .bool true, .bool false, undef, undef, .int .i64 ((x.1 : Nat) : Int), undef, undef, undef, undef, undef, undef, undef, undef, undef, undef, undef, undef, undef, undef, undef, undef, undef, undef, undef, undef, undef, undef], defers := [] }) ?assign ?body ?done ?stop
  case assign =>
    intro l x W K hK
    gi_wp2
    exact hK
  case body =>
    rintro l pre x W ⟨⟨hb0, hb1, hb2⟩, hB⟩ hlt
    have hc0 := hb0.cell
    have hc1 := hb1.cell
    have hc2 := hb2.cell
    have hf2 := hb2.frozen
    have hx := x.2
    have hy : dnN s j pre < 16777216 := orAll_lt (dnL_lt s j pre)
    have hy' : dnN s j pre < 4294967296 := by omega
    clear h0
    by_cases hb : s.testBit x.1 = true
    · have hh : hasB s ((x.1 : Nat) : Int) = true := by rw [hasB_nat hx]; exact hb
      by_cases he : x.1 = j
      · have HU : Hid (dnL s j (pre ++ [x]) = dnL s j pre) := dnL_self hb he
        have hq : (((x.1 : Nat) : Int) == (j : Int)) = true := by simp [he]
        have HQ : Hid (x.1 = j) := he
        clear hb he
        gi_wp2_with (refine ⟨trivial, ?_⟩; gi_at_call 7; refine (CallsIn.inRound l (callsIn_wide.2 (has_any _ _ _ hs))).mono ?_; rintro e w' ⟨rfl, rfl⟩; rw [hh])
        exact ⟨KeepsFrom.refl _ _, Below.refl _ _, ⟨hb0, hb1, by unfold dnN; rw [HU.out]; exact hb2⟩, hB⟩
      · have hq : (((x.1 : Nat) : Int) == (j : Int)) = false := by simp; omega
        have HU : Hid (dnL s j (pre ++ [x]) = dnL s j pre ++ [downK j x.1]) := dnL_hit hb he
        have HQ : Hid (x.1 ≠ j) := he
        clear hb he
        by_cases hlo : ((x.1 : Nat) : Int) < (j : Int)
        · have HW : Hid (withN (dnN s j pre) ((x.1 : Nat) : Int) = dnN s j (pre ++ [x])) := by
            show withN (dnN s j pre) _ = _
            unfold dnN
            have e : downK j x.1 = x.1 := by simp [downK]; omega
            rw [HU.out, e]
            exact withN_orAll (dnL_lt s j pre) hx
          gi_wp2_with (first
            | (refine ⟨trivial, ?_⟩; gi_at_call 7; refine (CallsIn.inRound l (callsIn_wide.2 (has_any _ _ _ hs))).mono ?_; rintro e w' ⟨rfl, rfl⟩; rw [hh])
            | (refine ⟨trivial, ?_⟩; gi_at_call 5; refine (CallsIn.inRound l (callsIn_wide.2 (with_any _ _ _ hy'))).mono ?_; rintro e w' ⟨rfl, rfl⟩))
          refine ⟨(KeepsOthers.setCell _ _ _).from _, (Below.refl _ _).setCell (p := ⟨w.heap.size + 1 + 1, 0, none⟩) (by simp; omega) _, ⟨hb0.other (by omega) _, hb1.other (by omega) _, ?_⟩, hB.setCell (p := ⟨w.heap.size + 1 + 1, 0, none⟩) (by simp; omega) _⟩
          rw [← HW.out]; exact hb2.set _
        · have hpos : 1 ≤ ((x.1 : Nat) : Int) := by have := HQ.out; omega
          have HW : Hid (withN (dnN s j pre) (((x.1 : Nat) : Int) - 1) = dnN s j (pre ++ [x])) := by
            show withN (dnN s j pre) _ = _
            unfold dnN
            have e : downK j x.1 = x.1 - 1 := by simp [downK]; omega
            have e2 : ((x.1 : Nat) : Int) - 1 = ((x.1 - 1 : Nat) : Int) := by omega
            rw [HU.out, e, e2]
            exact withN_orAll (dnL_lt s j pre) (by omega)
          gi_wp2_with (first
            | (refine ⟨trivial, ?_⟩; gi_at_call 7; refine (CallsIn.inRound l (callsIn_wide.2 (has_any _ _ _ hs))).mono ?_; rintro e w' ⟨rfl, rfl⟩; rw [hh])
            | (refine ⟨trivial, ?_⟩; gi_at_call 5; refine (CallsIn.inRound l (callsIn_wide.2 (with_any _ _ _ hy'))).mono ?_; rintro e w' ⟨rfl, rfl⟩))
          refine ⟨(KeepsOthers.setCell _ _ _).from _, (Below.refl _ _).setCell (p := ⟨w.heap.size + 1 + 1, 0, none⟩) (by simp; omega) _, ⟨hb0.other (by omega) _, hb1.other (by omega) _, ?_⟩, hB.setCell (p := ⟨w.heap.size + 1 + 1, 0, none⟩) (by simp; omega) _⟩
          rw [← HW.out]; exact hb2.set _
    · have hb : s.testBit x.1 = false := by simpa using hb
      have hh : hasB s ((x.1 : Nat) : Int) = false := by rw [hasB_nat hx]; exact hb
      have HU : Hid (dnL s j (pre ++ [x]) = dnL s j pre) := dnL_miss hb
      clear hb
      gi_wp2_with (refine ⟨trivial, ?_⟩; gi_at_call 7; refine (CallsIn.inRound l (callsIn_wide.2 (has_any _ _ _ hs))).mono ?_; rintro e w' ⟨rfl, rfl⟩; rw [hh])
      exact ⟨KeepsFrom.refl _ _, Below.refl _ _, ⟨hb0, hb1, by unfold dnN; rw [HU.out]; exact hb2⟩, hB⟩
  case done =>
    rintro D ys W hD hys ⟨⟨hb0, hb1, hb2⟩, hB⟩ hK
    rw [dnN_all hj hys] at hb2
    have hc2 := hb2.cell
    gi_wp2
    refine ⟨by simp, .inl ⟨_, _, rfl, run_takeDeferred hK, ?_⟩⟩
    exact ⟨_, results_tmp rfl _ _ _, rfl, hB.trans (belowK_b (w := w) (Nat.le_refl _) W D _ _ (by simp at hD; omega) hK rfl rfl)⟩
  case stop =>
    rintro D c pre W _ _ h _
    exact h.elim

set_option maxRecDepth 100000 in
set_option maxHeartbeats 2000000 in
theorem drop_any (s : Nat) (i : Int) (w : World) (hs : s < 4294967296) :
    Calls Try.prog 13 #[.int .u32 s, .int .i64 i] w fun e W' => e = .returned (.int .u32 (dropN s i : Nat)) ∧ Below w.heap.size w W' := by
  by_cases hd : isDimB i = true
  · have h' : 0 ≤ i ∧ i < 24 := by simpa [isDimB] using hd
    obtain ⟨j, rfl⟩ := Int.eq_ofNat_of_zero_le h'.1
    exact drop_loop s j w hs (by omega)
  · have hd : isDimB i = false := by simpa using hd
    have H : Hid (bits BinOp.and IntKind.u32 (s : Int) 16777215 = ((dropN s i : Nat) : Int)) := (and_low s hs).trans (by simp [dropN, hd])
    go_enter Try.func13, Try.ntmps13
    go_wp2_with (go_at_call 14; refine (isDim_any _ _).mono ?_; rintro e w' ⟨rfl, rfl⟩; rw [hd])
    go_ret
    exact ⟨ret_int H.out, ((Below.refl _ _).alloc (Nat.le_refl _) _).alloc (by simp) _⟩
end Go.Proofs.Ythchanjbonoppab
