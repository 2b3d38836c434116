/- Lift of a clause, by the code and by the document's answer; nothing that lay before the call turns. -/
import Derived.Test.YtkklmioejgpknaaRefC
import Derived.Test.YtkklmioejgpknaaLoopsC
import Derived.Test.YtkklmioejgpknaaCBox
namespace Go.Proofs.Ytkklmioejgpknaa
open Go.RowKit
set_option linter.unusedVariables false
set_option linter.unusedSimpArgs false

theorem liftN_lt32 (s : Nat) (fr by_ : Int) : liftN s fr by_ < 4294967296 := Nat.lt_trans (liftN_lt s fr by_) (by decide)
def liftC (c : C) (fr by_ : Int) : C := if rightC c = true ∧ liftE c.1.val fr by_ = 0 ∧ liftE c.2.val fr by_ = 0 then (⟨liftN c.1.val fr by_, liftN_lt32 _ _ _⟩, ⟨liftN c.2.val fr by_, liftN_lt32 _ _ _⟩) else cl00
def liftCE (c : C) (fr by_ : Int) : Int := if rightC c = true then (if liftE c.1.val fr by_ = 0 then liftE c.2.val fr by_ else liftE c.1.val fr by_) else 2

/-- What a later world keeps of the clause's box and of the result's. -/
structure Kept (w W : World) (c : C) : Prop where
  below : Below w.heap.size w W
  size : w.heap.size + 2 ≤ W.heap.size
  c0 : W.cell? ⟨w.heap.size, 0, none⟩ = some (.int .u32 (c.1.val : Int))
  c1 : W.cell? ⟨w.heap.size, 1, none⟩ = some (.int .u32 (c.2.val : Int))
  y0 : W.cell? ⟨w.heap.size + 1, 0, none⟩ = some (.int .u32 0)
  y1 : W.cell? ⟨w.heap.size + 1, 1, none⟩ = some (.int .u32 0)
  z0 : W.frozen? ⟨w.heap.size + 1, 0, none⟩ = false
  z1 : W.frozen? ⟨w.heap.size + 1, 1, none⟩ = false
theorem Kept.next {w W W' : World} {c : C} (h : Kept w W c) (hb : Below W.heap.size W W') : Kept w W' c := by
  have hs := h.size
  exact ⟨chain h.below hb, Nat.le_trans h.size hb.size, (hb.cell (p := ⟨w.heap.size, 0, none⟩) (by show w.heap.size < _; omega)).trans h.c0, (hb.cell (p := ⟨w.heap.size, 1, none⟩) (by show w.heap.size < _; omega)).trans h.c1,
    (hb.cell (p := ⟨w.heap.size + 1, 0, none⟩) (by show w.heap.size + 1 < _; omega)).trans h.y0, (hb.cell (p := ⟨w.heap.size + 1, 1, none⟩) (by show w.heap.size + 1 < _; omega)).trans h.y1,
    (hb.frozen (p := ⟨w.heap.size + 1, 0, none⟩) (by show w.heap.size + 1 < _; omega)).trans h.z0, (hb.frozen (p := ⟨w.heap.size + 1, 1, none⟩) (by show w.heap.size + 1 < _; omega)).trans h.z1⟩
theorem Kept.start (w : World) (c : C) : Kept w ((w.alloc (.cells #[.int .u32 (c.1.val : Int), .int .u32 (c.2.val : Int)] 52)).alloc (.cells #[.int .u32 0, .int .u32 0] 52)) c :=
  ⟨(below_alloc w _).alloc (by simp) _, by simp, by simp [go_sem], by simp [go_sem], by simp [go_sem], by simp [go_sem], by simp [go_sem], by simp [go_sem]⟩
theorem ret_lift {a b : C} {x y : Int} (h1 : a = b) (h2 : x = y) : Ending.returned (.tuple #[clV a, .int .i64 x]) = .returned (.tuple #[clV b, .int .i64 y]) := by rw [h1, h2]

set_option maxRecDepth 100000 in
set_option maxHeartbeats 2000000 in
theorem clift_any (c : C) (fr by_ : Int) (w : World) :
    Calls Try.prog 52 #[clV c, .int .i64 fr, .int .i64 by_] w fun e w' => e = .returned (.tuple #[clV (liftC c fr by_), .int .i64 (liftCE c fr by_)]) ∧ Below w.heap.size w w' := by
  have h1 := c.1.isLt
  have h2 := c.2.isLt
  have hK := Kept.start w c
  have hK0 : ∀ {W : World}, Kept w W c → Kept w W c := fun h => h
  cases hr : rightC c
  · have H1 : Hid (liftC c fr by_ = cl00) := if_neg (by simp [hr])
    have H2 : Hid (liftCE c fr by_ = 2) := if_neg (by simp [hr])
    go_enter Try.func52, Try.ntmps52
    go_wp2_with (first
      | (go_at_call 39; refine (cright_any _ _).mono ?_; rintro e w2 ⟨rfl, hG⟩; replace hK := hK.next hG.below; obtain ⟨hB, hs, c0, c1, y0, y1, z0, z1⟩ := hK0 hK)
      | (go_at_call 76; refine (lift_any _ _ _ _ (by assumption)).mono ?_; rintro e w3 ⟨rfl, hB3⟩; replace hK := hK.next hB3; obtain ⟨hB, hs, c0, c1, y0, y1, z0, z1⟩ := hK0 hK))
    exact bodyPost_ret (v := .tuple #[.agg #[.int .u32 0, .int .u32 0], .int .i64 2]) (by simp [results, Try.results52, go_sem, *]) rfl ⟨ret_lift H1.out.symm H2.out.symm, (hK.below.setCell (by simp) _).setCell (by simp) _⟩
  · by_cases g1 : liftE c.1.val fr by_ = 0
    · by_cases g2 : liftE c.2.val fr by_ = 0
      · have H1 : Hid (liftC c fr by_ = (⟨liftN c.1.val fr by_, liftN_lt32 _ _ _⟩, ⟨liftN c.2.val fr by_, liftN_lt32 _ _ _⟩)) := if_pos ⟨hr, g1, g2⟩
        have H2 : Hid (liftCE c fr by_ = 0) := (if_pos hr).trans ((if_pos g1).trans g2)
        go_enter Try.func52, Try.ntmps52
        go_wp2_with (first
      | (go_at_call 39; refine (cright_any _ _).mono ?_; rintro e w2 ⟨rfl, hG⟩; replace hK := hK.next hG.below; obtain ⟨hB, hs, c0, c1, y0, y1, z0, z1⟩ := hK0 hK)
      | (go_at_call 76; refine (lift_any _ _ _ _ (by assumption)).mono ?_; rintro e w3 ⟨rfl, hB3⟩; replace hK := hK.next hB3; obtain ⟨hB, hs, c0, c1, y0, y1, z0, z1⟩ := hK0 hK))
        exact bodyPost_ret (v := .tuple #[.agg #[.int .u32 (liftN c.1.val fr by_ : Nat), .int .u32 (liftN c.2.val fr by_ : Nat)], .int .i64 0]) (by simp [results, Try.results52, go_sem, *]) rfl ⟨ret_lift H1.out.symm H2.out.symm, (hK.below.setCell (by simp) _).setCell (by simp) _⟩
      · have H1 : Hid (liftC c fr by_ = cl00) := if_neg (fun h => g2 h.2.2)
        have H2 : Hid (liftCE c fr by_ = liftE c.2.val fr by_) := (if_pos hr).trans (if_pos g1)
        go_enter Try.func52, Try.ntmps52
        go_wp2_with (first
      | (go_at_call 39; refine (cright_any _ _).mono ?_; rintro e w2 ⟨rfl, hG⟩; replace hK := hK.next hG.below; obtain ⟨hB, hs, c0, c1, y0, y1, z0, z1⟩ := hK0 hK)
      | (go_at_call 76; refine (lift_any _ _ _ _ (by assumption)).mono ?_; rintro e w3 ⟨rfl, hB3⟩; replace hK := hK.next hB3; obtain ⟨hB, hs, c0, c1, y0, y1, z0, z1⟩ := hK0 hK))
        exact bodyPost_ret (v := .tuple #[.agg #[.int .u32 0, .int .u32 0], .int .i64 (liftE c.2.val fr by_)]) (by simp [results, Try.results52, go_sem, *]) rfl ⟨ret_lift H1.out.symm H2.out.symm, (hK.below.setCell (by simp) _).setCell (by simp) _⟩
    · have H1 : Hid (liftC c fr by_ = cl00) := if_neg (fun h => g1 h.2.1)
      have H2 : Hid (liftCE c fr by_ = liftE c.1.val fr by_) := (if_pos hr).trans (if_neg g1)
      go_enter Try.func52, Try.ntmps52
      go_wp2_with (first
      | (go_at_call 39; refine (cright_any _ _).mono ?_; rintro e w2 ⟨rfl, hG⟩; replace hK := hK.next hG.below; obtain ⟨hB, hs, c0, c1, y0, y1, z0, z1⟩ := hK0 hK)
      | (go_at_call 76; refine (lift_any _ _ _ _ (by assumption)).mono ?_; rintro e w3 ⟨rfl, hB3⟩; replace hK := hK.next hB3; obtain ⟨hB, hs, c0, c1, y0, y1, z0, z1⟩ := hK0 hK))
      exact bodyPost_ret (v := .tuple #[.agg #[.int .u32 0, .int .u32 0], .int .i64 (liftE c.1.val fr by_)]) (by simp [results, Try.results52, go_sem, *]) rfl ⟨ret_lift H1.out.symm H2.out.symm, (hK.below.setCell (by simp) _).setCell (by simp) _⟩

set_option maxRecDepth 100000 in
set_option maxHeartbeats 2000000 in
theorem refclift_any (c : C) (fr by_ : Int) (w : World) :
    Calls Try.prog 54 #[clV c, .int .i64 fr, .int .i64 by_] w fun e w' => e = .returned (.tuple #[clV (liftC c fr by_), .int .i64 (liftCE c fr by_)]) ∧ Below w.heap.size w w' := by
  have h1 := c.1.isLt
  have h2 := c.2.isLt
  have hK := Kept.start w c
  have hK0 : ∀ {W : World}, Kept w W c → Kept w W c := fun h => h
  cases hr : rightC c
  · have H1 : Hid (liftC c fr by_ = cl00) := if_neg (by simp [hr])
    have H2 : Hid (liftCE c fr by_ = 2) := if_neg (by simp [hr])
    go_enter Try.func54, Try.ntmps54
    go_wp2_with (first
      | (go_at_call 58; refine (refcright_any _ _).mono ?_; rintro e w2 ⟨rfl, hG⟩; replace hK := hK.next hG.below; obtain ⟨hB, hs, c0, c1, y0, y1, z0, z1⟩ := hK0 hK)
      | (go_at_call 79; refine (refLift_any _ _ _ _ (by assumption)).mono ?_; rintro e w3 ⟨rfl, hB3⟩; replace hK := hK.next hB3; obtain ⟨hB, hs, c0, c1, y0, y1, z0, z1⟩ := hK0 hK))
    exact bodyPost_ret (v := .tuple #[.agg #[.int .u32 0, .int .u32 0], .int .i64 2]) (by simp [results, Try.results54, go_sem, *]) rfl ⟨ret_lift H1.out.symm H2.out.symm, (hK.below.setCell (by simp) _).setCell (by simp) _⟩
  · by_cases g1 : liftE c.1.val fr by_ = 0
    · by_cases g2 : liftE c.2.val fr by_ = 0
      · have H1 : Hid (liftC c fr by_ = (⟨liftN c.1.val fr by_, liftN_lt32 _ _ _⟩, ⟨liftN c.2.val fr by_, liftN_lt32 _ _ _⟩)) := if_pos ⟨hr, g1, g2⟩
        have H2 : Hid (liftCE c fr by_ = 0) := (if_pos hr).trans ((if_pos g1).trans g2)
        go_enter Try.func54, Try.ntmps54
        go_wp2_with (first
      | (go_at_call 58; refine (refcright_any _ _).mono ?_; rintro e w2 ⟨rfl, hG⟩; replace hK := hK.next hG.below; obtain ⟨hB, hs, c0, c1, y0, y1, z0, z1⟩ := hK0 hK)
      | (go_at_call 79; refine (refLift_any _ _ _ _ (by assumption)).mono ?_; rintro e w3 ⟨rfl, hB3⟩; replace hK := hK.next hB3; obtain ⟨hB, hs, c0, c1, y0, y1, z0, z1⟩ := hK0 hK))
        exact bodyPost_ret (v := .tuple #[.agg #[.int .u32 (liftN c.1.val fr by_ : Nat), .int .u32 (liftN c.2.val fr by_ : Nat)], .int .i64 0]) (by simp [results, Try.results54, go_sem, *]) rfl ⟨ret_lift H1.out.symm H2.out.symm, (hK.below.setCell (by simp) _).setCell (by simp) _⟩
      · have H1 : Hid (liftC c fr by_ = cl00) := if_neg (fun h => g2 h.2.2)
        have H2 : Hid (liftCE c fr by_ = liftE c.2.val fr by_) := (if_pos hr).trans (if_pos g1)
        go_enter Try.func54, Try.ntmps54
        go_wp2_with (first
      | (go_at_call 58; refine (refcright_any _ _).mono ?_; rintro e w2 ⟨rfl, hG⟩; replace hK := hK.next hG.below; obtain ⟨hB, hs, c0, c1, y0, y1, z0, z1⟩ := hK0 hK)
      | (go_at_call 79; refine (refLift_any _ _ _ _ (by assumption)).mono ?_; rintro e w3 ⟨rfl, hB3⟩; replace hK := hK.next hB3; obtain ⟨hB, hs, c0, c1, y0, y1, z0, z1⟩ := hK0 hK))
        exact bodyPost_ret (v := .tuple #[.agg #[.int .u32 0, .int .u32 0], .int .i64 (liftE c.2.val fr by_)]) (by simp [results, Try.results54, go_sem, *]) rfl ⟨ret_lift H1.out.symm H2.out.symm, (hK.below.setCell (by simp) _).setCell (by simp) _⟩
    · have H1 : Hid (liftC c fr by_ = cl00) := if_neg (fun h => g1 h.2.1)
      have H2 : Hid (liftCE c fr by_ = liftE c.1.val fr by_) := (if_pos hr).trans (if_neg g1)
      go_enter Try.func54, Try.ntmps54
      go_wp2_with (first
      | (go_at_call 58; refine (refcright_any _ _).mono ?_; rintro e w2 ⟨rfl, hG⟩; replace hK := hK.next hG.below; obtain ⟨hB, hs, c0, c1, y0, y1, z0, z1⟩ := hK0 hK)
      | (go_at_call 79; refine (refLift_any _ _ _ _ (by assumption)).mono ?_; rintro e w3 ⟨rfl, hB3⟩; replace hK := hK.next hB3; obtain ⟨hB, hs, c0, c1, y0, y1, z0, z1⟩ := hK0 hK))
      exact bodyPost_ret (v := .tuple #[.agg #[.int .u32 0, .int .u32 0], .int .i64 (liftE c.1.val fr by_)]) (by simp [results, Try.results54, go_sem, *]) rfl ⟨ret_lift H1.out.symm H2.out.symm, (hK.below.setCell (by simp) _).setCell (by simp) _⟩
end Go.Proofs.Ytkklmioejgpknaa
