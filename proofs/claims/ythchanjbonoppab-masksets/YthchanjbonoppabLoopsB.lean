/- mask.Free, Lift and Drop: what they hand back; nothing that lay before the call turns. -/
import Derived.Test.YthchanjbonoppabLoops
namespace Go.Proofs.Ythchanjbonoppab
open Go.RowKit Go.Shelf
attribute [local go_sem] Oper.semAt_some

theorem inS_mem {s : Nat} {pre : List Dim} {k : Nat} (h : k ∈ inS s pre) : k ∈ dimsOf s :=
  mem_dimsOf.2 ⟨inS_lt s pre k h, by simpa using (List.mem_filter.1 h).2⟩
theorem free_stop {s k : Nat} {p : List Dim} {x : Dim} (hk : k ≤ 24) (hv : (p ++ [x]).map Fin.val = List.range k) (hp : ∀ y ∈ p, s.testBit y.1 = true) (hx : s.testBit x.1 = false) : freeI s = ((x.1 : Nat) : Int) := by
  have hk0 : k ≠ 0 := by rintro rfl; simp at hv
  obtain ⟨j, rfl⟩ : ∃ j, k = j + 1 := ⟨k - 1, by omega⟩
  rw [List.range_succ, List.map_append] at hv
  have h2 := List.append_inj' hv rfl
  have hxj : x.1 = j := by simpa using h2.2
  refine freeI_at (fun i hi => ?_) x.2 hx
  have hm : i ∈ p.map Fin.val := by rw [h2.1]; simp; omega
  obtain ⟨y, hy, rfl⟩ := List.mem_map.1 hm
  exact hp y hy

set_option maxRecDepth 100000 in
set_option maxHeartbeats 2000000 in
theorem free_any (s : Nat) (w : World) (hs : s < 4294967296) :
    Calls Try.prog 12 #[.int .u32 s] w fun e W' => e = .returned (.int .i64 (freeI s)) ∧ Below w.heap.size w W' := by
  refine (callsIn_wide (n := 4)).1 ?_
  refine callsIn_of_wp_marks Try.func12 rfl trivial ?_ rfl
  simp only [Try.ntmps12, List.size_toArray, List.length_cons, List.length_nil, Nat.reduceAdd, Nat.reduceSub, Array.replicate_succ, Array.replicate_zero, List.push_toArray, List.append_toArray, List.nil_append, List.cons_append]
  gi_wp2
  have b0 := Boxed.new w 22 (.int .u32 s)
  have b1 := Boxed.new (w.alloc (.cells #[.int .u32 s] 22)) 3 (.int .i64 0)
  rw [World.size_alloc] at b1
  have hB0 : Below w.heap.size w ((w.alloc (.cells #[.int .u32 s] 22)).alloc (.cells #[.int .i64 0] 3)) := ((Below.refl _ w).alloc (Nat.le_refl _) _).alloc (by simp) _
  refine wpIn_rangeFunc_ownG rfl (by omega) (gf := 15) (lb := #[]) rfl trivial (enters_of Try.func15 (by kernel_rfl) rfl)
    (dims_stops 3 (by omega) w.heap.size _) belowK_t (belowK_b (by simp; omega)) (Below.refl _ _) (fun _ => rfl)
    (fun pre W => (Hid (∀ y ∈ pre, s.testBit y.1 = true) ∧ Boxed W w.heap.size 22 (.int .u32 s) ∧ Boxed W (w.heap.size + 1) 3 (.int .i64 0)) ∧ Below w.heap.size w W)
    (fun c pre W => ((c = .ret ∧ ∃ p x, pre = p ++ [x] ∧ (∀ y ∈ p, s.testBit y.1 = true) ∧ s.testBit x.1 = false) ∧ Boxed W (w.heap.size + 1) 3 (.int .i64 (((pre.getLast?.getD 0).1 : Nat) : Int))) ∧ Below w.heap.size w W)
    (OwnFrom.and (OwnFrom.and (ownFrom_pure _ _) (OwnFrom.and (Own.from (boxed_own _ _ _) _) (Own.from (boxed_own _ _ _) _))) (ownFrom_below (Nat.le_refl _) (by simp; omega)))
    (fun c => OwnFrom.and (OwnFrom.and (ownFrom_pure _ _) (Own.from (boxed_own _ _ (fun pre : List Dim => .int .i64 (((pre.getLast?.getD 0).1 : Nat) : Int))) _)) (ownFrom_below (Nat.le_refl _) (by simp; omega)))
    ⟨⟨by show ∀ y ∈ [], _; simp, b0.alloc _, b1⟩, hB0⟩
    (fun x => { tmps := #[.int .u32 s, .pointer (some ⟨w.heap.size, 0, none⟩), .pointer (some ⟨w.heap.size + 1, 0, none⟩), .int .i64 ((x.1 : Nat) : Int), .int .i64 ((x.1 : Nat) : Int), undef, undef, undef, undef, undef], defers := [] }) ?assign ?body ?done ?stop
  case assign =>
    intro l x W K hK
    gi_wp2
    exact hK
  case body =>
    rintro l pre x W ⟨⟨HA, hb0, hb1⟩, hB⟩ hlt
    have hc0 := hb0.cell
    have hc1 := hb1.cell
    have hf1 := hb1.frozen
    have hx := x.2
    by_cases hb : s.testBit x.1 = true
    · have hh : hasB s ((x.1 : Nat) : Int) = true := by rw [hasB_nat hx]; exact hb
      have HB : Hid (∀ y ∈ pre ++ [x], s.testBit y.1 = true) := fun y hy => by
        rcases List.mem_append.1 hy with h | h
        · exact HA.out y h
        · simp at h; rw [h]; exact hb
      clear hb
      gi_wp2_with (refine ⟨trivial, ?_⟩; gi_at_call 7; refine (CallsIn.inRound l (callsIn_wide.2 (has_any _ _ _ hs))).mono ?_; rintro e w' ⟨rfl, rfl⟩; rw [hh])
      exact ⟨KeepsFrom.refl _ _, Below.refl _ _, ⟨HB, hb0, hb1⟩, hB⟩
    · have hb : s.testBit x.1 = false := by simpa using hb
      have hh : hasB s ((x.1 : Nat) : Int) = false := by rw [hasB_nat hx]; exact hb
      have HB : Hid (s.testBit x.1 = false) := hb
      clear hb
      gi_wp2_with (refine ⟨trivial, ?_⟩; gi_at_call 7; refine (CallsIn.inRound l (callsIn_wide.2 (has_any _ _ _ hs))).mono ?_; rintro e w' ⟨rfl, rfl⟩; rw [hh])
      refine ⟨(KeepsOthers.setCell _ _ _).from _, ⟨⟨rfl, pre, x, rfl, HA.out, HB.out⟩, ?_⟩, hB.setCell (p := ⟨w.heap.size + 1, 0, none⟩) (by simp) _⟩
      simpa using hb1.set _
  case done =>
    rintro D ys W hD hys ⟨⟨HA, hb0, hb1⟩, hB⟩ hK
    have HF : Hid (freeI s = -1) := freeI_none (fun j hj => by
      have hm : j ∈ ys.map Fin.val := by rw [hys]; simpa using hj
      obtain ⟨y, hy, rfl⟩ := List.mem_map.1 hm
      exact HA.out y hy)
    have hc1 := hb1.cell
    have hf1 := hb1.frozen
    gi_wp2
    have hK' := (KeepsOthers.setCell W ⟨w.heap.size + 1, 0, none⟩ (.int .i64 (-1))).same D _ hK rfl
    refine ⟨by simp, .inl ⟨_, _, rfl, run_takeDeferred hK', ?_⟩⟩
    have hc5 := cell_kept (hb1.set (.int .i64 (-1))).cell (grownBy_putObj' _ D (.deferred none)) (fun r e => by cases e; exact ⟨_, hK', rfl⟩)
    refine ⟨.int .i64 (-1), ?_, by rw [HF.out], (hB.setCell (p := ⟨w.heap.size + 1, 0, none⟩) (by simp) _).trans (belowK_b (w := w) (Nat.le_refl _) _ D _ _ (by simp at hD; omega) hK' rfl rfl)⟩
    simp [results, Try.f12, go_sem, hc5]
  case stop =>
    rintro D c pre W hD ⟨k, hk, hpre⟩ ⟨⟨⟨rfl, p, x, rfl, hp, hx⟩, hb1⟩, hB⟩ hK
    have HF : Hid (freeI s = ((x.1 : Nat) : Int)) := free_stop hk hpre hp hx
    have hb2 : Boxed W (w.heap.size + 1) 3 (.int .i64 ((x.1 : Nat) : Int)) := by simpa using hb1
    clear hp hx hpre hb1
    gi_wp2
    refine ⟨by simp, .inl ⟨_, _, rfl, run_takeDeferred hK, ?_⟩⟩
    have hc5 := cell_kept hb2.cell (grownBy_putObj' _ D (.deferred none)) (fun r e => by cases e; exact ⟨_, hK, rfl⟩)
    refine ⟨.int .i64 ((x.1 : Nat) : Int), ?_, by rw [HF.out], hB.trans (belowK_b (w := w) (Nat.le_refl _) W D _ _ (by simp at hD; omega) hK rfl rfl)⟩
    simp [results, Try.f12, go_sem, hc5]
end Go.Proofs.Ythchanjbonoppab
