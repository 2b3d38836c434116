/- join: what two formulas make, joined, in new memory. Nothing that lay before the call turns. -/
import Derived.Test.YtdikaomebbpmhaaGreatFApp
namespace Go.Proofs.YtdikaomebbpmhaaGreat
open Go.RowKit
set_option linter.unusedVariables false
set_option linter.unusedSimpArgs false

theorem zeroCells_size (z : Value) (k : Nat) (hz : z.cells.size = 2) : (Builtin.zeroCells z.cells k).size = k * 2 := by
  rw [size_zeroCells, hz]
theorem wpList_append_zeros {w : World} {ops : Array Oper} {rest : List Oper} {o : Oper} {a : Act} {Q : Exit → Act → World → Prop} (hgd : o.guard = none) (s x : Operand)
    (ho : o.op = .call { callee := .builtin .append, args := #[s, x], argTypes := #[22, 3] }) (vs vx v' : Value) (w' : World) (hs : a.eval s = vs) (hx : a.eval x = vx)
    (hrun : ∀ ty, (Builtin.append_ #[22, 3] ty #[vs, vx]).run Tryz.prog w = .ok v' w') (h : wpList Tryz.prog ops Q rest (a.put o.dst v') w') : wpList Tryz.prog ops Q (o :: rest) a w := by
  refine wpList_plain hgd fun K hK' => ?_
  unfold Oper.wp
  simp [execOp, ho, resolve, invoke, builtin, hs, hx, hrun, Result.andThen]
  exact hK' _ _ h
set_option maxRecDepth 100000 in
set_option maxHeartbeats 1000000 in
theorem grow_none (n : Nat) (w : World) (hn : n ≤ 200000) :
    Calls Tryz.prog 74 #[.slice none 0 0, .int .i64 n] w fun e w' => ∃ v, e = .returned v ∧ OwnsC w' w.heap.size v [] ∧ Below w.heap.size w w' := by
  obtain ⟨i0, hi, hz0, hz1, hz2⟩ := info_parts Tryz.infoC
  have h1 : ¬ ((n : Int) < 0) := by omega
  have h2 : wrap64 ((n : Int) - 0) = (n : Int) := by unfold wrap64; omega
  rcases Nat.eq_zero_or_pos n with rfl | h0
  · go_enter Tryz.func74, Tryz.ntmps74
    go_wp2
    go_ret
    exact ⟨_, rfl, World.ownsRow_nil _ _ _ _, Below.refl _ _⟩
  · have h3 : (n : Int) > 0 := by omega
    have hrz := fun ty => Lib.run_append_nil_zeros (P := Tryz.prog) w 22 3 ty 25 i0 _ .i64 .i64 Tryz.underlying22 Tryz.underlying3 hi hz0 n h0 (by omega) (by omega) (by rw [hz2]; omega)
    have hGn : n ≤ grownCap w n 0 25 := grownCap_ge w _ _ _
    have hG63 := grownCap_le_maxLen w n 0 25 (by unfold maxLen; omega)
    obtain ⟨G, hG⟩ : ∃ G, G = grownCap w n 0 25 := ⟨_, rfl⟩
    rw [← hG] at hrz hGn hG63
    clear hG
    have hG0 : G ≠ 0 := by omega
    have hO : OwnsC (w.drew.alloc (.cells (Builtin.zeroCells (Value.agg #[.int .u32 0, .int .u32 0]).cells n ++ Builtin.zeroCells (Value.agg #[.int .u32 0, .int .u32 0]).cells (G - n)) 25)) w.heap.size (.slice (some ⟨w.heap.size, 0, none⟩) 0 G) [] := by
      refine ⟨rfl, .inr ⟨w.heap.size, G, _, rfl, Nat.le_refl _, (MapKept.heap_alloc w.drew _).1, Nat.zero_le _, hG63, ?_, rfl⟩⟩
      rw [Array.size_append, zeroCells_size _ _ rfl, zeroCells_size _ _ rfl, ← Nat.add_mul]
      congr 1
      omega
    have hB : Below w.heap.size w (w.drew.alloc (.cells (Builtin.zeroCells (Value.agg #[.int .u32 0, .int .u32 0]).cells n ++ Builtin.zeroCells (Value.agg #[.int .u32 0, .int .u32 0]).cells (G - n)) 25)) :=
      (below_drewN (Below.refl w.heap.size w) 1).alloc (by simp) _
    have hG63' : G ≤ 9223372036854775807 := by unfold maxLen at hG63; omega
    generalize hW : w.drew.alloc (.cells (Builtin.zeroCells (Value.agg #[.int .u32 0, .int .u32 0]).cells n ++ Builtin.zeroCells (Value.agg #[.int .u32 0, .int .u32 0]).cells (G - n)) 25) = W at hrz hO hB
    go_enter Tryz.func74, Tryz.ntmps74
    go_wp2_with (at_builtin; refine wpList_append_zeros rfl _ _ rfl _ _ _ _ rfl rfl hrz ?_)
    go_ret
    exact ⟨_, rfl, hO, hB⟩

set_option maxRecDepth 100000 in
set_option maxHeartbeats 4000000 in
theorem concat_any (l m : List C) (a b : Value) (g : Nat) (w : World) (ha : CRow w a l) (hb : CRow w b m) (h0 : w.cell? ⟨g, 0, none⟩ = some a) (h1 : w.cell? ⟨g, 1, none⟩ = some b) (hg : g < w.heap.size) (hl : l.length ≤ 40000) (hm : m.length ≤ 40000) :
    Calls Tryz.prog 60 #[.slice (some ⟨g, 0, none⟩) 2 2] w fun e w' => ∃ v, e = .returned v ∧ OwnsC w' w.heap.size v (l ++ m) ∧ Below w.heap.size w w' := by
  obtain ⟨pa, ca, rfl⟩ := ha.len
  obtain ⟨pb, cb, rfl⟩ := hb.len
  have Ha : Hid (CRow w (.slice pa l.length ca) l) := ha
  have Hb : Hid (CRow w (.slice pb m.length cb) m) := hb
  clear ha hb
  obtain ⟨n1, hn1⟩ : ∃ n1, n1 = l.length := ⟨_, rfl⟩
  obtain ⟨n2, hn2⟩ : ∃ n2, n2 = m.length := ⟨_, rfl⟩
  have Hn1 : Hid (n1 = l.length) := hn1
  have Hn2 : Hid (n2 = m.length) := hn2
  rw [← hn1] at hl h0 Ha
  rw [← hn2] at hm h1 Hb
  clear hn1 hn2
  have e1 : wrap64 (0 + (n1 : Int)) = (n1 : Int) := by unfold wrap64; omega
  have e2 : wrap64 ((n1 : Int) + (n2 : Int)) = ((n1 + n2 : Nat) : Int) := by unfold wrap64; omega
  have l1 : ¬ ((n1 : Int) < 0) := by omega
  have l2 : ¬ (((n1 + n2 : Nat) : Int) < 0) := by omega
  go_enter Tryz.func60, Tryz.ntmps60
  go_wp2
  go_loop [3, 11] (fun s i => (i = .int .i64 0 ∧ s = .int .i64 0) ∨ (i = .int .i64 1 ∧ s = .int .i64 (n1 : Int)) ∨ (i = .int .i64 2 ∧ s = .int .i64 ((n1 + n2 : Nat) : Int))) (fun _ i => 2 - (intOf i).toNat)
  case atStart => exact .inl ⟨rfl, rfl⟩
  case round =>
    rcases hrel with ⟨rfl, rfl⟩ | ⟨rfl, rfl⟩ | ⟨rfl, rfl⟩
    · go_wp2
      go_round
      case rel => exact .inr (.inl ⟨rfl, rfl⟩)
      case measure => simp [intOf]
    · go_wp2
      go_round
      case rel => exact .inr (.inr ⟨rfl, rfl⟩)
      case measure => simp [intOf]
    · go_wp2_with (go_at_call 74; refine (grow_none (n1 + n2) _ (by omega)).mono ?_; rintro e w1 ⟨v1, rfl, hO1, hB1⟩)
      go_loopw [6, 27] (fun v i wr => Below w.heap.size w wr ∧ ((i = .int .i64 0 ∧ OwnsC wr w.heap.size v []) ∨ (i = .int .i64 1 ∧ OwnsC wr w.heap.size v l) ∨ (i = .int .i64 2 ∧ OwnsC wr w.heap.size v (l ++ m)))) (fun _ i _ => 2 - (intOf i).toNat)
      case atStart => exact ⟨hB1, .inl ⟨rfl, hO1⟩⟩
      case round =>
        obtain ⟨hny, ⟨rfl, hO⟩ | ⟨rfl, hO⟩ | ⟨rfl, hO⟩⟩ := hrel
        · have y0 := (hny.cell (p := ⟨g, 0, none⟩) hg).trans h0
          have hr := Ha.out.below hny
          go_wp2_with (at_builtin; refine wpList_append_row rfl _ _ rfl w.heap.size _ _ [] l rfl rfl hO hr (by rw [← Hn1.out]; simp; omega) hny.size ?_; intro v2 w2 hO2 hg2 hv2)
          have hB2 := hny.trans (own_grown hO hg2 hny.size)
          go_roundw
          case rel => exact ⟨hB2, .inr (.inl ⟨rfl, hO2⟩)⟩
          case measure => simp [intOf]
        · have y1 := (hny.cell (p := ⟨g, 1, none⟩) hg).trans h1
          have hr := Hb.out.below hny
          go_wp2_with (at_builtin; refine wpList_append_row rfl _ _ rfl w.heap.size _ _ l m rfl rfl hO hr (by rw [← Hn1.out, ← Hn2.out]; omega) hny.size ?_; intro v2 w2 hO2 hg2 hv2)
          have hB2 := hny.trans (own_grown hO hg2 hny.size)
          go_roundw
          case rel => exact ⟨hB2, .inr (.inr ⟨rfl, hO2⟩)⟩
          case measure => simp [intOf]
        · go_wp2
          go_ret
          exact ⟨_, rfl, hO, hny⟩
end Go.Proofs.YtdikaomebbpmhaaGreat
