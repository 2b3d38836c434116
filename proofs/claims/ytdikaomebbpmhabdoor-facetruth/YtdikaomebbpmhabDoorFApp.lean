/- append of a row of clauses onto a row of the call's own; Least as a function of the row. -/
import Derived.Lib.AppendZeros
import Derived.Maps.AppendAt
import Derived.Test.YtdikaomebbpmhabDoorFRow
namespace Go.Proofs.YtdikaomebbpmhabDoor
open Go.RowKit
set_option linter.unusedVariables false
set_option linter.unusedSimpArgs false

theorem run_append_none (n : Nat) (ty : TypeId) (c : Nat) (w : World) : (Builtin.append_ #[22, 22] ty #[.slice none 0 0, .slice none 0 c]).run Tryd.prog w = .ok (.slice none 0 0) w := by
  simp [Builtin.append_, run_underlying Tryd.underlying22, Result.andThen, Builtin.lenOf, Builtin.firstCells, storeCells]
theorem run_append_nilc (n cap c : Nat) (hn : n ≤ cap) (ad : Addr) (ty : TypeId) (w : World) : (Builtin.append_ #[22, 22] ty #[.slice (some ad) n cap, .slice none 0 c]).run Tryd.prog w = .ok (.slice (some ad) n cap) w := by
  simp [Builtin.append_, run_underlying Tryd.underlying22, Result.andThen, Builtin.lenOf, Builtin.firstCells, storeCells, hn]
theorem grownBy_refl (w : World) (row : Option Nat) : w.grownBy w row := World.grownBy.refl w row
/-- append of a row onto one that is owned. -/
theorem append_row {W : World} {base : Nat} {v s : Value} {u l : List C} (ty : TypeId) (hO : OwnsC W base v u) (hs : CRow W s l) (hn : u.length + l.length ≤ 200000) (hb : base ≤ W.heap.size) :
    ∃ v' W', (Builtin.append_ #[22, 22] ty #[v, s]).run Tryd.prog W = .ok v' W' ∧ OwnsC W' base v' (u ++ l) ∧ W.grownBy W' v.ownBlock ∧ (v'.ownBlock = v.ownBlock ∨ v'.ownBlock = some W.heap.size) := by
  obtain ⟨i0, hi, hz0, hz1, hz2⟩ := info_parts Tryd.infoC
  have big : ∀ (ad : Addr) (c : Nat), s = .slice (some ad) l.length c → (∀ j x, (flat l)[j]? = some x → W.cell? (ad.add j) = some x) → ∃ v' W', (Builtin.append_ #[22, 22] ty #[v, s]).run Tryd.prog W = .ok v' W' ∧ OwnsC W' base v' (u ++ l) ∧ W.grownBy W' v.ownBlock ∧ (v'.ownBlock = v.ownBlock ∨ v'.ownBlock = some W.heap.size) := by
    intro ad c hs hc
    obtain ⟨v', W', hrun, r1, r2, _, r4⟩ := run_append_own_at (P := Tryd.prog) W base 22 ty 25 i0 _ 2 8 Tryd.underlying22 hi hz0 hz1 hz2 rfl (by decide) v u.length (flat u) hO ad l.length c (flat l) (flat_length l) hc (flat_oneCell l) (by unfold maxLen; omega) (by omega) hb
    refine ⟨v', W', by rw [hs]; exact hrun, ?_, r2, r4⟩
    unfold OwnsC
    rw [flat_append, List.length_append]
    exact r1
  rcases hs with ⟨a, c, rfl, rfl⟩ | ⟨g, off, c, rfl, hg, hc⟩
  · cases a with
    | some ad => exact big ad c rfl (fun j x hj => by simp [flat] at hj)
    | none =>
      rcases hO.2 with ⟨rfl, hz⟩ | ⟨g, cap, cur, rfl, _, _, hle, _⟩
      · exact ⟨_, _, run_append_none 0 ty c W, by rw [List.append_nil]; exact hO, grownBy_refl _ _, .inl rfl⟩
      · exact ⟨_, _, run_append_nilc _ _ c hle _ ty W, by rw [List.append_nil]; exact hO, grownBy_refl _ _, .inl rfl⟩
  · exact big _ c rfl (news_cells hc)
theorem wpList_append_row {w : World} {ops : Array Oper} {rest : List Oper} {o : Oper} {a : Act} {Q : Exit → Act → World → Prop} (hgd : o.guard = none) (s x : Operand)
    (ho : o.op = .call { callee := .builtin .append, args := #[s, x], argTypes := #[22, 22] }) (base : Nat) (v sv : Value) (u l : List C) (hs : a.eval s = v) (hx : a.eval x = sv)
    (hO : OwnsC w base v u) (hr : CRow w sv l) (hn : u.length + l.length ≤ 200000) (hb : base ≤ w.heap.size)
    (h : ∀ v' w', OwnsC w' base v' (u ++ l) → w.grownBy w' v.ownBlock → (v'.ownBlock = v.ownBlock ∨ v'.ownBlock = some w.heap.size) → wpList Tryd.prog ops Q rest (a.put o.dst v') w') : wpList Tryd.prog ops Q (o :: rest) a w := by
  refine wpList_plain hgd fun K hK' => ?_
  obtain ⟨v', w', hrun, r1, r2, r3⟩ := append_row o.type hO hr hn hb
  unfold Oper.wp
  simp [execOp, ho, resolve, invoke, builtin, hs, hx, hrun, Result.andThen]
  exact hK' _ _ (h v' w' r1 r2 r3)
theorem own_grown {W W' : World} {base : Nat} {v : Value} {u : List C} (hO : OwnsC W base v u) (hg : W.grownBy W' v.ownBlock) (hb : base ≤ W.heap.size) : Below base W W' :=
  (Below.refl base W).grown hg hb (fun k hk => (World.ownsRow.lt hO k hk).1)
theorem OwnsC.len {w : World} {base : Nat} {v : Value} {l : List C} (h : OwnsC w base v l) : ∃ a cap, v = .slice a l.length cap := (OwnsC.row h).len
theorem At.far {W W' : World} {g : Nat} {c : C} {row : Option Nat} (h : At W g c) (hg : W.grownBy W' row) (hne : some g ≠ row) : At W' g c :=
  ⟨(hg.cell_far ⟨g, 0, none⟩ h.2.2 hne).trans h.1, (hg.cell_far ⟨g, 1, none⟩ h.2.2 hne).trans h.2.1, Nat.lt_of_lt_of_le h.2.2 hg.size⟩

theorem leastC (l : List C) (v : Value) (w : World) (hv : CRow w v l) (hl : l.length ≤ 100000) :
    Calls Tryd.prog 20 #[v] w fun e w' => ∃ v', e = .returned (.tuple #[v', .int .i64 (leastF l).2]) ∧ OwnsC w' w.heap.size v' (leastF l).1 ∧ Below w.heap.size w w' :=
  (least_any l v w hv hl).mono fun e w' => by
    rintro ⟨v', M, er, rfl, hL, hO, hB⟩
    rw [leastF_of hL]
    exact ⟨v', rfl, hO, hB⟩
/-- A row that a literal lays. -/
theorem row_one (w : World) (c : C) : CRow (w.alloc (.cells #[.int .u32 (c.1.val : Int), .int .u32 (c.2.val : Int)] 25)) (.slice (some ⟨w.heap.size, 0, none⟩) 1 1) [c] :=
  row_lit w [c] _ 1 rfl rfl (by omega)
theorem own_one1 (w : World) (c : C) (base : Nat) (hb : base ≤ w.heap.size) : OwnsC (w.alloc (.cells #[.int .u32 (c.1.val : Int), .int .u32 (c.2.val : Int)] 25)) base (.slice (some ⟨w.heap.size, 0, none⟩) 1 1) [c] :=
  World.ownsRow_lit (base := base) (e := 25) (size := 2) w #[.int .u32 (c.1.val : Int), .int .u32 (c.2.val : Int)] 1 hb (by unfold maxLen; omega) rfl
theorem own_ne {W : World} {base : Nat} {v : Value} {u : List C} (hO : OwnsC W base v u) : v.ownBlock ≠ some W.heap.size := fun h => by have := (World.ownsRow.lt hO _ h).2; omega
theorem own_next {v v' : Value} {n g : Nat} (h : v'.ownBlock = v.ownBlock ∨ v'.ownBlock = some n) (hne : v.ownBlock ≠ some g) (hlt : g < n) : v'.ownBlock ≠ some g := by
  rcases h with h | h
  · rw [h]; exact hne
  · rw [h]; intro e; injection e with e; omega
/-- append of a row, in a statement whose order is open. -/
theorem step_append_row {ops : Array Oper} {o : Oper} {a : Act} {w : World} {K : Act → World → Prop} {Q : Exit → Act → World → Prop} {E : Prop}
    (hgd : o.guard = none) (s x : Operand) (ho : o.op = .call { callee := .builtin .append, args := #[s, x], argTypes := #[22, 22] }) (base : Nat) (v sv : Value) (u l : List C) (hs : a.eval s = v) (hx : a.eval x = sv)
    (hO : OwnsC w base v u) (hr : CRow w sv l) (hn : u.length + l.length ≤ 200000) (hb : base ≤ w.heap.size)
    (h : ∀ v' w', OwnsC w' base v' (u ++ l) → w.grownBy w' v.ownBlock → (v'.ownBlock = v.ownBlock ∨ v'.ownBlock = some w.heap.size) → K (a.put o.dst v') w') :
    if Region.wanted o (yielded ops a.tmps) = true then Oper.wp Tryd.prog o a w K Q else E := by
  have hw : Region.wanted o (yielded ops a.tmps) = true := by simp [Region.wanted, hgd]
  rw [if_pos hw]
  obtain ⟨v', w', hrun, r1, r2, r3⟩ := append_row o.type hO hr hn hb
  unfold Oper.wp
  simp [execOp, ho, resolve, invoke, builtin, hs, hx, hrun, Result.andThen]
  exact h v' w' r1 r2 r3
end Go.Proofs.YtdikaomebbpmhabDoor
