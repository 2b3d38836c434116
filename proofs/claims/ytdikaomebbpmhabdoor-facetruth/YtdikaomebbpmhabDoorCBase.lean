/- What the small functions of the layer clause hand back; each lays blocks of its own at most. -/
import Derived.WalkKit
import Derived.Sort.Grow
import Derived.Deep.Draws
import Derived.Deep.RegionHeld3
import Derived.Lib.QuietBelow
import Derived.Test.YtdikaomebbpmhabDoorBaseA
import Derived.Test.YtdikaomebbpmhabDoorMathAll
namespace Go.Proofs.YtdikaomebbpmhabDoor
open Go.RowKit Go.Sort
set_option linter.unusedVariables false
set_option linter.unusedSimpArgs false

/-- w' is w behind some draws, with some blocks laid behind it. -/
def Grew (w w' : World) : Prop := ∃ q os, w' = grow (w.drewN q) os
theorem Grew.refl (w : World) : Grew w w := ⟨0, #[], by rw [grow_empty]; rfl⟩
theorem Grew.alloc {w w' : World} (h : Grew w w') (o : Obj) : Grew w (w'.alloc o) := by
  obtain ⟨q, os, rfl⟩ := h
  exact ⟨q, os ++ #[o], by rw [alloc_eq_grow, grow_grow]⟩
theorem Grew.below {w w' : World} (h : Grew w w') : Below w.heap.size w w' := by
  obtain ⟨q, os, rfl⟩ := h
  exact ⟨rfl, rfl, rfl, by simp [grow], fun k hk => by simp [grow, Array.getElem?_append, hk]⟩
theorem Grew.trans {a b c : World} (h1 : Grew a b) (h2 : Grew b c) : Grew a c := by
  obtain ⟨q, os, rfl⟩ := h1
  obtain ⟨r, os', rfl⟩ := h2
  exact ⟨q + r, os ++ os', by show grow (grow ((a.drewN q).drewN r) os) os' = _; rw [grow_grow, World.drewN_drewN]⟩
theorem Grew.drew {a b : World} (h1 : Grew a b) : Grew a b.drew := h1.trans ⟨1, #[], by rw [grow_empty]; rfl⟩

set_option maxHeartbeats 400000 in
theorem cright_nat (p n : Nat) (w : World) (hp : p < 4294967296) (hn : n < 4294967296) :
    Calls Tryd.prog 6 #[.agg #[.int .u32 p, .int .u32 n]] w fun e w' => e = .returned (.bool (rightB p && rightB n)) ∧ Grew w w' := by
  cases h : rightB p
  all_goals
    go_enter Tryd.func6, Tryd.ntmps6
    go_wp2_with (go_at_call 15; refine (right_any _ _ (by assumption)).mono ?_; rintro e w' ⟨rfl, rfl⟩; try rw [h])
    go_ret
    exact ⟨rfl, (Grew.refl w).alloc _⟩
/-- A clause as a value of Go's. -/
abbrev clV (c : C) : Value := .agg #[.int .u32 (c.1.val : Int), .int .u32 (c.2.val : Int)]
theorem cright_any (c : C) (w : World) : Calls Tryd.prog 6 #[clV c] w fun e w' => e = .returned (.bool (rightC c)) ∧ Grew w w' :=
  cright_nat c.1.val c.2.val w c.1.isLt c.2.isLt

theorem low32 (s : Nat) (hs : s < 4294967296) : bits BinOp.and IntKind.u32 (s : Int) 16777215 = ((s &&& 16777215 : Nat) : Int) := bits_and32 s 16777215 hs (by decide)
theorem and_lt32 {a b : Nat} (ha : a < 4294967296) : a &&& b < 4294967296 := Nat.lt_of_le_of_lt Nat.and_le_left ha
theorem or_lt32 {a b : Nat} (ha : a < 4294967296) (hb : b < 4294967296) : a ||| b < 4294967296 := Nat.or_lt_two_pow (n := 32) ha hb
theorem clash_bits (p n : Nat) (hp : p < 4294967296) (hn : n < 4294967296) : (bits BinOp.and IntKind.u32 (bits BinOp.and IntKind.u32 (p : Int) (n : Int)) 16777215 != 0) = decide (p &&& n &&& 16777215 ≠ 0) := by
  rw [bits_and32 p n hp hn, low32 _ (and_lt32 hp), Bool.eq_iff_iff]
  simp

set_option maxHeartbeats 400000 in
theorem clash_nat (p n : Nat) (w : World) (hp : p < 4294967296) (hn : n < 4294967296) :
    Calls Tryd.prog 7 #[.agg #[.int .u32 p, .int .u32 n]] w fun e w' => e = .returned (.bool (decide (p &&& n &&& 16777215 ≠ 0))) ∧ Grew w w' := by
  have H : Hid ((bits BinOp.and IntKind.u32 (bits BinOp.and IntKind.u32 (p : Int) (n : Int)) 16777215 != 0) = decide (p &&& n &&& 16777215 ≠ 0)) := clash_bits p n hp hn
  go_enter Tryd.func7, Tryd.ntmps7
  go_wp2
  go_ret
  exact ⟨ret_bool H.out, (Grew.refl w).alloc _⟩
theorem clash_any (c : C) (w : World) : Calls Tryd.prog 7 #[clV c] w fun e w' => e = .returned (.bool (clashC c)) ∧ Grew w w' :=
  clash_nat c.1.val c.2.val w c.1.isLt c.2.isLt

theorem or_low (a b : Nat) (ha : a < 4294967296) (hb : b < 4294967296) : bits BinOp.and IntKind.u32 (bits BinOp.or IntKind.u32 (a : Int) (b : Int)) 16777215 = (((a ||| b) &&& 16777215 : Nat) : Int) := by
  rw [bits_or32 a b ha hb, low32 _ (or_lt32 ha hb)]
set_option maxHeartbeats 400000 in
theorem meet_nat (p n q m : Nat) (w : World) (hp : p < 4294967296) (hn : n < 4294967296) (hq : q < 4294967296) (hm : m < 4294967296) :
    Calls Tryd.prog 28 #[.agg #[.int .u32 p, .int .u32 n], .agg #[.int .u32 q, .int .u32 m]] w fun e w' => e = .returned (.agg #[.int .u32 ((p ||| q) &&& 16777215 : Nat), .int .u32 ((n ||| m) &&& 16777215 : Nat)]) ∧ Grew w w' := by
  have h1 : Hid (_ = _) := or_low p q hp hq
  have h2 : Hid (_ = _) := or_low n m hn hm
  go_enter Tryd.func28, Tryd.ntmps28
  go_wp2
  exact bodyPost_ret (v := .agg #[.int .u32 (bits BinOp.and IntKind.u32 (bits BinOp.or IntKind.u32 (p : Int) (q : Int)) 16777215), .int .u32 (bits BinOp.and IntKind.u32 (bits BinOp.or IntKind.u32 (n : Int) (m : Int)) 16777215)]) (by simp [results, Tryd.results28, go_sem]) rfl ⟨by rw [h1.out, h2.out], (((Grew.refl w).alloc _).alloc _).alloc _⟩
theorem meet_any (a b : C) (w : World) : Calls Tryd.prog 28 #[clV a, clV b] w fun e w' => e = .returned (clV (meetC a b)) ∧ Grew w w' :=
  meet_nat a.1.val a.2.val b.1.val b.2.val w a.1.isLt a.2.isLt b.1.isLt b.2.isLt

theorem sub_bits (y x : Nat) (hy : y < 4294967296) : (bits BinOp.and IntKind.u32 (bits BinOp.andNot IntKind.u32 (y : Int) (x : Int)) 16777215 == 0) = sub24 y x := by
  rw [bits_andNot32, low32 _ (andNot32_lt _ _), Bool.eq_iff_iff, sub24]
  simp
set_option maxHeartbeats 400000 in
theorem bel_nat (p n q m : Nat) (w : World) (hq : q < 4294967296) (hm : m < 4294967296) :
    Calls Tryd.prog 43 #[.agg #[.int .u32 p, .int .u32 n], .agg #[.int .u32 q, .int .u32 m]] w fun e w' => e = .returned (.bool (sub24 q p && sub24 m n)) ∧ Grew w w' := by
  have h1 := sub_bits q p hq
  have h2 := sub_bits m n hm
  cases h : sub24 q p
  all_goals
    rw [h] at h1
    go_enter Tryd.func43, Tryd.ntmps43
    go_wp2
    go_ret
    exact ⟨by simp [h2], ((Grew.refl w).alloc _).alloc _⟩
theorem bel_any (a b : C) (w : World) : Calls Tryd.prog 43 #[clV a, clV b] w fun e w' => e = .returned (.bool (belC a b)) ∧ Grew w w' :=
  bel_nat a.1.val a.2.val b.1.val b.2.val w b.1.isLt b.2.isLt

theorem or_bits (a b : Nat) (ha : a < 4294967296) (hb : b < 4294967296) : (bits BinOp.or IntKind.u32 (a : Int) (b : Int) == (a : Int)) = decide (a ||| b = a) := by
  rw [bits_or32 a b ha hb, Bool.eq_iff_iff]
  simp
  omega
set_option maxHeartbeats 400000 in
theorem compare_any (x y : Nat) (w : World) :
    Calls Tryd.prog 48 #[.int .u32 x, .int .u32 y] w fun e w' => e = .returned (.int .i64 (cmpN x y)) ∧ w' = w := by
  rcases cmpN_cases x y with ⟨h, e⟩ | ⟨h, e⟩ | ⟨h, e⟩
  · rw [e]
    clear e
    go_enter Tryd.func48, Tryd.ntmps48
    go_wp2
    go_ret
    exact ⟨rfl, rfl⟩
  · rw [e]
    clear e
    have h' : ¬ x < y := by omega
    go_enter Tryd.func48, Tryd.ntmps48
    go_wp2
    go_ret
    exact ⟨rfl, rfl⟩
  · rw [e]
    clear e
    subst h
    go_enter Tryd.func48, Tryd.ntmps48
    go_wp2
    go_ret
    exact ⟨rfl, rfl⟩
end Go.Proofs.YtdikaomebbpmhabDoor
