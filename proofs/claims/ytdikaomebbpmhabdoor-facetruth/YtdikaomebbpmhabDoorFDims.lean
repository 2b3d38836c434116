/- Dims: the dimensions of a formula's clauses. Nothing that lay before the call turns. -/
import Derived.Test.YtdikaomebbpmhabDoorFNot
namespace Go.Proofs.YtdikaomebbpmhabDoor
open Go.RowKit
set_option linter.unusedVariables false
set_option linter.unusedSimpArgs false

theorem stepD_lt {s : Nat} {c : C} (hs : s < 4294967296) : stepD s c < 4294967296 := or_lt32 hs (Nat.lt_trans (low_lt _) (by decide))
set_option maxHeartbeats 1000000 in
theorem dims1_nat (s p n : Nat) (w : World) (hs : s < 4294967296) (hp : p < 4294967296) (hn : n < 4294967296) :
    Calls Tryd.prog 38 #[.int .u32 s, .agg #[.int .u32 p, .int .u32 n]] w fun e w' => e = .returned (.tuple #[.int .u32 ((s ||| ((p ||| n) &&& 16777215) : Nat) : Int), .int .i64 0]) ∧ Below w.heap.size w w' := by
  have h1 : Hid (bits BinOp.or IntKind.u32 (s : Int) (bits BinOp.and IntKind.u32 (bits BinOp.or IntKind.u32 (p : Int) (n : Int)) 16777215) = ((s ||| ((p ||| n) &&& 16777215) : Nat) : Int)) := by
    show _ = _
    rw [or_low p n hp hn, bits_or32 _ _ hs (Nat.lt_trans (low_lt _) (by decide))]
  go_enter Tryd.func38, Tryd.ntmps38
  go_wp2
  go_ret2
  exact ⟨by rw [h1.out]; rfl, below_alloc _ _⟩
theorem dims1_any (s : Nat) (c : C) (w : World) (hs : s < 4294967296) :
    Calls Tryd.prog 38 #[.int .u32 s, clV c] w fun e w' => e = .returned (.tuple #[.int .u32 ((stepD s c : Nat) : Int), .int .i64 0]) ∧ Below w.heap.size w w' :=
  dims1_nat s c.1.val c.2.val w hs c.1.isLt c.2.isLt
theorem dimsN_take_step {l : List C} {k : Nat} {c : C} (h : l[k]? = some c) : dimsN (l.take (k + 1)) = stepD (dimsN (l.take k)) c := by
  have e : l.take (k + 1) = l.take k ++ [c] := by rw [List.take_add_one, h]; rfl
  rw [e, dimsN_snoc]
theorem dimsN_lt32 (f : List C) : dimsN f < 4294967296 := Nat.lt_trans (dimsN_lt f) (by decide)

set_option maxRecDepth 100000 in
set_option maxHeartbeats 2000000 in
theorem foldD_any (l : List C) (vs : Value) (w : World) (hv : CRow w vs l) (hl : l.length ≤ 100000) :
    Calls Tryd.prog 37 #[vs, .int .u32 0, .func (.func 38) #[] #[]] w fun e w' => e = .returned (.tuple #[.int .u32 ((dimsN l : Nat) : Int), .int .i64 0]) ∧ Below w.heap.size w w' := by
  obtain ⟨pa, ca, rfl⟩ := hv.len
  have Ha : Hid (CRow w (.slice pa l.length ca) l) := hv
  clear hv
  obtain ⟨n, hn1⟩ : ∃ n, n = l.length := ⟨_, rfl⟩
  have Hn : Hid (n = l.length) := hn1
  rw [← hn1] at hl Ha ⊢
  clear hn1
  go_enter Tryd.func37, Tryd.ntmps37
  go_wp2
  go_loopw [8, 16] (fun v i wr => ∃ k : Nat, k ≤ n ∧ i = .int .i64 k ∧ v = .int .u32 ((dimsN (l.take k) : Nat) : Int) ∧ Below w.heap.size w wr) (fun _ i _ => n - (intOf i).toNat)
  case atStart => exact ⟨0, Nat.zero_le _, rfl, rfl, Below.refl _ _⟩
  case round =>
    obtain ⟨k, hk, rfl, rfl, hny⟩ := hrel
    by_cases hlt : k < n
    · obtain ⟨c, hck⟩ := get_some (l := l) (k := k) (by rw [← Hn.out]; exact hlt)
      obtain ⟨g, off, rfl, hg, x0, x1⟩ := (Ha.out.below hny).at hck
      have HS : Hid (dimsN (l.take (k + 1)) = stepD (dimsN (l.take k)) c) := dimsN_take_step hck
      have cD := dims1_any (dimsN (l.take k)) c (wr.alloc (.cells #[.int .u32 (c.1.val : Int), .int .u32 (c.2.val : Int)] 25)) (dimsN_lt32 _)
      clear hck
      have hb := below_alloc wr (.cells #[.int .u32 (c.1.val : Int), .int .u32 (c.2.val : Int)] 25)
      generalize dimsN (l.take k) = s at cD HS ⊢
      go_wp2_with fail
      refine cD.mono ?_
      rintro e w2 ⟨rfl, hB2⟩
      clear cD
      go_wp2
      go_roundw
      case rel => exact ⟨k + 1, by omega, by go_num, by rw [HS.out], chain (chain hny hb) hB2⟩
      case measure => simp [intOf]; omega
    · obtain rfl : k = n := by omega
      have e : l.take k = l := List.take_of_length_le (by rw [← Hn.out]; exact Nat.le_refl _)
      rw [e]
      go_wp2
      go_ret2
      exact ⟨rfl, hny⟩
theorem Dims_any (l : List C) (v : Value) (w : World) (hv : CRow w v l) (hl : l.length ≤ 100000) :
    Calls Tryd.prog 19 #[v] w fun e w' => e = .returned (.int .u32 ((dimsN l : Nat) : Int)) ∧ Below w.heap.size w w' := by
  have c1 := foldD_any l v w hv hl
  obtain ⟨pa, ca, rfl⟩ := hv.len
  clear hv
  go_enter Tryd.func19, Tryd.ntmps19
  go_wp2_with fail
  refine c1.mono ?_
  rintro e w1 ⟨rfl, hB1⟩
  clear c1
  go_wp2
  go_ret
  exact ⟨rfl, hB1⟩
end Go.Proofs.YtdikaomebbpmhabDoor
