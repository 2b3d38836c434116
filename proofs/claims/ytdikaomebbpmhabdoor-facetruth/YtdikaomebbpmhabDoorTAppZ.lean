/- Rows of numbers that are owned: append of one. -/
import Derived.Maps.AppendAt
import Derived.Test.YtdikaomebbpmhabDoorTEval
import Derived.Test.YtdikaomebbpmhabDoorFApp
namespace Go.Proofs.YtdikaomebbpmhabDoor
open Go.RowKit
set_option linter.unusedVariables false
set_option linter.unusedSimpArgs false

def encZ (z : Int) : Value := .int .i64 z
/-- A row of numbers that is owned. -/
def OwnsZ (w : World) (base : Nat) (v : Value) (l : List Int) : Prop := w.ownsRow base 3 1 v l.length (l.map encZ)
theorem OwnsZ.form {w : World} {base : Nat} {v : Value} {l : List Int} (h : OwnsZ w base v l) : (v = .slice none 0 0 ∧ l = []) ∨ ∃ g cap, v = .slice (some ⟨g, 0, none⟩) l.length cap ∧ base ≤ g ∧ g < w.heap.size := by
  have h0 := h
  obtain ⟨h1, h2 | ⟨g, cap, cur, rfl, hg, _⟩⟩ := h
  · exact .inl ⟨h2.1, List.length_eq_zero_iff.1 h2.2⟩
  · exact .inr ⟨g, cap, rfl, hg, (World.ownsRow.lt h0 g rfl).2⟩
theorem OwnsZ.len {w : World} {base : Nat} {v : Value} {l : List Int} (h : OwnsZ w base v l) : ∃ a cap, v = .slice a l.length cap := by
  rcases h.form with ⟨rfl, rfl⟩ | ⟨g, cap, rfl, _⟩
  · exact ⟨_, _, rfl⟩
  · exact ⟨_, _, rfl⟩
theorem OwnsZ.rowZ {w : World} {base : Nat} {v : Value} {l : List Int} (h : OwnsZ w base v l) : RowZ w v l := by
  rcases h.form with ⟨rfl, rfl⟩ | ⟨g, cap, rfl, _, hg⟩
  · exact .inl ⟨_, _, rfl, rfl⟩
  · refine .inr ⟨g, 0, cap, rfl, hg, fun j z hj => ?_⟩
    have hlt := (List.getElem?_eq_some_iff.1 hj).1
    rw [Nat.zero_add, World.ownsRow.cellAt h j (by omega), List.getElem?_map, hj]
    rfl
theorem OwnsZ.below {w w' : World} {base : Nat} {v : Value} {l : List Int} (h : OwnsZ w base v l) (hb : Below w.heap.size w w') : OwnsZ w' base v l :=
  World.ownsRow.kept h (row := none) ⟨hb.os, hb.tape, hb.output, hb.size, fun k hk _ => hb.block k hk⟩ (by
    cases e : v.ownBlock with
    | none => exact .inl rfl
    | some g => exact .inr (by simp))
theorem runz_append_none (ty : TypeId) (c : Nat) (w : World) : (Builtin.append_ #[29, 29] ty #[.slice none 0 0, .slice none 0 c]).run Tryd.prog w = .ok (.slice none 0 0) w := by
  simp [Builtin.append_, run_underlying Tryd.underlying29, Result.andThen, Builtin.lenOf, Builtin.firstCells, storeCells]
theorem runz_append_nilc (n cap c : Nat) (hn : n ≤ cap) (ad : Addr) (ty : TypeId) (w : World) : (Builtin.append_ #[29, 29] ty #[.slice (some ad) n cap, .slice none 0 c]).run Tryd.prog w = .ok (.slice (some ad) n cap) w := by
  simp [Builtin.append_, run_underlying Tryd.underlying29, Result.andThen, Builtin.lenOf, Builtin.firstCells, storeCells, hn]
/-- append of a row of numbers onto one that is owned. -/
theorem append_rowZ {W : World} {base : Nat} {v s : Value} {u l : List Int} (ty : TypeId) (hO : OwnsZ W base v u) (hs : RowZ W s l) (hn : u.length + l.length ≤ 200000) (hb : base ≤ W.heap.size) :
    ∃ v' W', (Builtin.append_ #[29, 29] ty #[v, s]).run Tryd.prog W = .ok v' W' ∧ OwnsZ W' base v' (u ++ l) ∧ W.grownBy W' v.ownBlock := by
  obtain ⟨i0, hi, hz0, hz1, hz2⟩ := info_parts Tryd.infoInt
  have big : ∀ (ad : Addr) (c : Nat), s = .slice (some ad) l.length c → (∀ j x, (l.map encZ)[j]? = some x → W.cell? (ad.add j) = some x) → ∃ v' W', (Builtin.append_ #[29, 29] ty #[v, s]).run Tryd.prog W = .ok v' W' ∧ OwnsZ W' base v' (u ++ l) ∧ W.grownBy W' v.ownBlock := by
    intro ad c hs hc
    obtain ⟨v', W', hrun, r1, r2, _, r4⟩ := run_append_own_at (P := Tryd.prog) W base 29 ty 3 i0 _ 1 8 Tryd.underlying29 hi hz0 hz1 hz2 rfl (by decide) v u.length (u.map encZ) hO ad l.length c (l.map encZ) (by simp) hc (fun x hx => by
      obtain ⟨z, _, rfl⟩ := List.mem_map.1 hx
      rfl) (by unfold maxLen; omega) (by omega) hb
    refine ⟨v', W', by rw [hs]; exact hrun, ?_, r2⟩
    unfold OwnsZ
    rw [List.map_append, List.length_append]
    exact r1
  rcases hs with ⟨a, c, rfl, rfl⟩ | ⟨g, off, c, rfl, hg, hc⟩
  · cases a with
    | some ad => exact big ad c rfl (fun j x hj => by simp at hj)
    | none =>
      rcases hO.2 with ⟨rfl, hz⟩ | ⟨g, cap, cur, rfl, _, _, hle, _⟩
      · exact ⟨_, _, runz_append_none ty c W, by rw [List.append_nil]; exact hO, World.grownBy.refl _ _⟩
      · exact ⟨_, _, runz_append_nilc _ _ c hle _ ty W, by rw [List.append_nil]; exact hO, World.grownBy.refl _ _⟩
  · refine big _ c rfl (fun j x hj => ?_)
    rw [List.getElem?_map] at hj
    obtain ⟨z, hz, rfl⟩ := Option.map_eq_some_iff.1 hj
    rw [Addr.add_lit]
    exact hc j z hz
theorem wpList_append_rowZ {w : World} {ops : Array Oper} {rest : List Oper} {o : Oper} {a : Act} {Q : Exit → Act → World → Prop} (hgd : o.guard = none) (s x : Operand)
    (ho : o.op = .call { callee := .builtin .append, args := #[s, x], argTypes := #[29, 29] }) (base : Nat) (v sv : Value) (u l : List Int) (hs : a.eval s = v) (hx : a.eval x = sv)
    (hO : OwnsZ w base v u) (hr : RowZ w sv l) (hn : u.length + l.length ≤ 200000) (hb : base ≤ w.heap.size)
    (h : ∀ v' w', OwnsZ w' base v' (u ++ l) → w.grownBy w' v.ownBlock → wpList Tryd.prog ops Q rest (a.put o.dst v') w') : wpList Tryd.prog ops Q (o :: rest) a w := by
  refine wpList_plain hgd fun K hK' => ?_
  obtain ⟨v', w', hrun, r1, r2⟩ := append_rowZ o.type hO hr hn hb
  unfold Oper.wp
  simp [execOp, ho, resolve, invoke, builtin, hs, hx, hrun, Result.andThen]
  exact hK' _ _ (h v' w' r1 r2)
theorem ownZ_grown {W W' : World} {base : Nat} {v : Value} {u : List Int} (hO : OwnsZ W base v u) (hg : W.grownBy W' v.ownBlock) (hb : base ≤ W.heap.size) : Below base W W' :=
  (Below.refl base W).grown hg hb (fun k hk => (World.ownsRow.lt hO k hk).1)
theorem rowZ_one (w : World) (z : Int) : RowZ (w.alloc (.cells #[.int .i64 z] 3)) (.slice (some ⟨w.heap.size, 0, none⟩) 1 1) [z] :=
  .inr ⟨w.heap.size, 0, 1, rfl, by simp, fun j x hj => by
    match j, hj with
    | 0, hj => simp at hj; subst hj; simp [go_sem]
    | j + 1, hj => simp at hj⟩
end Go.Proofs.YtdikaomebbpmhabDoor
