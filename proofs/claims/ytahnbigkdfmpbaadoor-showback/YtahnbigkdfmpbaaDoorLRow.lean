/- Rows of tokens in memory: owned, read, and appended to. -/
import Derived.Lib.AppendZeros
import Derived.Maps.AppendAt
import Derived.Laws.OwnMore
import Derived.OwnWalk
import Derived.Deep.Onto
import Derived.Test.YtahnbigkdfmpbaaDoorLFirst
namespace Go.Proofs.YtahnbigkdfmpbaaDoor
open Go.RowKit
set_option linter.unusedVariables false
set_option linter.unusedSimpArgs false

theorem Tryd.infoT : (Tryd.prog.info? 68).map (fun i => (i.zero, i.size, i.bytes)) = some (some (.agg #[.int .i64 0, .string ByteArray.empty, .int .i64 0]), 3, 32) := by kernel_rfl
/-- A token's three cells. -/
def encT (t : Tok) : List Value := [.int .i64 (t.kind : Nat), .string (bs t.text), .int .i64 (t.at_ : Nat)]
def flatT (l : List Tok) : List Value := l.flatMap encT
theorem flatT_append (l m : List Tok) : flatT (l ++ m) = flatT l ++ flatT m := by simp [flatT]
theorem flatT_length (l : List Tok) : (flatT l).length = l.length * 3 := by
  induction l with
  | nil => rfl
  | cons c l ih =>
    have e : flatT (c :: l) = encT c ++ flatT l := rfl
    rw [e, List.length_append, ih]
    simp [encT]
    omega
theorem flatT_get (l : List Tok) (j i : Nat) (hi : i < 3) : (flatT l)[j * 3 + i]? = l[j]?.bind (fun t => (encT t)[i]?) := by
  induction l generalizing j with
  | nil => simp [flatT]
  | cons c l ih =>
    have e : flatT (c :: l) = encT c ++ flatT l := rfl
    have e3 : (encT c).length = 3 := rfl
    rw [e]
    cases j with
    | zero => rw [Nat.zero_mul, Nat.zero_add, List.getElem?_append_left (by omega)]; rfl
    | succ j =>
      rw [List.getElem?_append_right (by omega), e3]
      have : (j + 1) * 3 + i - 3 = j * 3 + i := by omega
      rw [this, ih, List.getElem?_cons_succ]
theorem flatT_oneCell (l : List Tok) : ∀ u ∈ flatT l, u.oneCell' = true := by
  intro u hu
  obtain ⟨c, _, hc⟩ := List.mem_flatMap.1 hu
  simp [encT] at hc
  rcases hc with rfl | rfl | rfl <;> rfl

/-- The slice value v owns the tokens l, in a block from 'base' on (e: the type of one). -/
def OwnsT (e : TypeId) (w : World) (base : Nat) (v : Value) (l : List Tok) : Prop := w.ownsRow base e 3 v l.length (flatT l)
/-- The cells from a place on hold the tokens l. -/
def CellsT (w : World) (g off : Nat) (l : List Tok) : Prop :=
  ∀ j t, l[j]? = some t → w.cell? ⟨g, off + j * 3, none⟩ = some (.int .i64 (t.kind : Nat)) ∧ w.cell? ⟨g, off + j * 3 + 1, none⟩ = some (.string (bs t.text)) ∧ w.cell? ⟨g, off + j * 3 + 2, none⟩ = some (.int .i64 (t.at_ : Nat))
/-- The slice value v can be read as the tokens l. -/
def TRow (w : World) (v : Value) (l : List Tok) : Prop :=
  (∃ a cap, v = .slice a 0 cap ∧ l = []) ∨ ∃ g off cap, v = .slice (some ⟨g, off, none⟩) l.length cap ∧ g < w.heap.size ∧ CellsT w g off l
theorem CellsT.below {w w' : World} {B g off : Nat} {l : List Tok} (h : CellsT w g off l) (hb : Below B w w') (hg : g < B) : CellsT w' g off l :=
  fun j c hj => ⟨(hb.cell (p := ⟨g, off + j * 3, none⟩) hg).trans (h j c hj).1, (hb.cell (p := ⟨g, off + j * 3 + 1, none⟩) hg).trans (h j c hj).2.1, (hb.cell (p := ⟨g, off + j * 3 + 2, none⟩) hg).trans (h j c hj).2.2⟩
theorem OwnsT.cells {e : TypeId} {w : World} {base g cap : Nat} {l : List Tok} (h : OwnsT e w base (.slice (some ⟨g, 0, none⟩) l.length cap) l) : CellsT w g 0 l := by
  intro j c hj
  have hlt : j < l.length := by
    rcases Nat.lt_or_ge j l.length with h1 | h1
    · exact h1
    · rw [List.getElem?_eq_none h1] at hj; exact absurd hj (by simp)
  have e0 := World.ownsRow.cellAt h (j * 3) (by omega)
  have e1 := World.ownsRow.cellAt h (j * 3 + 1) (by omega)
  have e2 := World.ownsRow.cellAt h (j * 3 + 2) (by omega)
  have f0 := flatT_get l j 0 (by omega)
  have f1 := flatT_get l j 1 (by omega)
  have f2 := flatT_get l j 2 (by omega)
  rw [hj] at f0 f1 f2
  rw [Nat.add_zero] at f0
  rw [f0] at e0
  rw [f1] at e1
  rw [f2] at e2
  rw [Nat.zero_add]
  exact ⟨e0, e1, e2⟩
theorem OwnsT.form {e : TypeId} {w : World} {base : Nat} {v : Value} {l : List Tok} (h : OwnsT e w base v l) : (v = .slice none 0 0 ∧ l = []) ∨ ∃ g cap, v = .slice (some ⟨g, 0, none⟩) l.length cap ∧ base ≤ g ∧ g < w.heap.size ∧ CellsT w g 0 l := by
  have h0 := h
  obtain ⟨h1, h2 | ⟨g, cap, cur, rfl, hg, hh, hn, hc, hs, ht⟩⟩ := h
  · exact .inl ⟨h2.1, List.length_eq_zero_iff.1 h2.2⟩
  · exact .inr ⟨g, cap, rfl, hg, (World.ownsRow.lt h0 g rfl).2, OwnsT.cells h0⟩
theorem OwnsT.row {e : TypeId} {w : World} {base : Nat} {v : Value} {l : List Tok} (h : OwnsT e w base v l) : TRow w v l := by
  rcases h.form with ⟨rfl, rfl⟩ | ⟨g, cap, rfl, hb, hg, hc⟩
  · exact .inl ⟨_, _, rfl, rfl⟩
  · exact .inr ⟨g, 0, cap, rfl, hg, hc⟩
theorem TRow.below {w w' : World} {v : Value} {l : List Tok} (h : TRow w v l) (hb : Below w.heap.size w w') : TRow w' v l := by
  rcases h with h | ⟨g, off, cap, rfl, hg, hc⟩
  · exact .inl h
  · exact .inr ⟨g, off, cap, rfl, Nat.lt_of_lt_of_le hg hb.size, hc.below hb hg⟩
theorem TRow.len {w : World} {v : Value} {l : List Tok} (h : TRow w v l) : ∃ a cap, v = .slice a l.length cap := by
  rcases h with ⟨a, cap, rfl, rfl⟩ | ⟨g, off, cap, rfl, _, _⟩
  · exact ⟨_, _, rfl⟩
  · exact ⟨_, _, rfl⟩
theorem TRow.cons {w : World} {v : Value} {l : List Tok} (h : TRow w v l) (hl : l ≠ []) : ∃ g off cap, v = .slice (some ⟨g, off, none⟩) l.length cap ∧ g < w.heap.size ∧ CellsT w g off l := by
  rcases h with ⟨a, cap, rfl, rfl⟩ | h
  · exact absurd rfl hl
  · exact h
theorem OwnsT.below {e : TypeId} {w w' : World} {base : Nat} {v : Value} {l : List Tok} (h : OwnsT e w base v l) (hb : Below w.heap.size w w') : OwnsT e w' base v l := by
  have hlt := World.ownsRow.lt h
  obtain ⟨h1, h2⟩ := h
  refine ⟨h1, ?_⟩
  rcases h2 with h2 | ⟨g, cap, cur, rfl, hg, hh, r⟩
  · exact .inl h2
  · exact .inr ⟨g, cap, cur, rfl, hg, (hb.block g (hlt g rfl).2).trans hh, r⟩
/-- append of one token onto a row that is owned, in a plain statement. -/
theorem wpList_append_tok {w : World} {ops : Array Oper} {rest : List Oper} {o : Oper} {a : Act} {Q : Exit → Act → World → Prop} (st e : TypeId) (hu : Tryd.prog.underlying st = some (.slice e))
    (hi : (Tryd.prog.info? e).map (fun i => (i.zero, i.size, i.bytes)) = some (some (.agg #[.int .i64 0, .string ByteArray.empty, .int .i64 0]), 3, 32))
    (hgd : o.guard = none) (s x : Operand)
    (ho : o.op = .call { callee := .builtin .append, args := #[s, x], argTypes := #[st, st] }) (base : Nat) (v : Value) (ad : Addr) (u : List Tok) (t : Tok) (hs : a.eval s = v) (hx : a.eval x = .slice (some ad) 1 1)
    (hO : OwnsT e w base v u) (hr : ∀ j x, (encT t)[j]? = some x → w.cell? (ad.add j) = some x) (hn : u.length ≤ 200000) (hb : base ≤ w.heap.size)
    (h : ∀ v' w', OwnsT e w' base v' (u ++ [t]) → w.grownBy w' v.ownBlock → wpList Tryd.prog ops Q rest (a.put o.dst v') w') : wpList Tryd.prog ops Q (o :: rest) a w := by
  refine wpList_plain hgd fun K hK' => ?_
  obtain ⟨i0, hi, hz0, hz1, hz2⟩ := info_parts hi
  obtain ⟨v', w', hrun, r1, r2, _, r4⟩ := run_append_own_at (P := Tryd.prog) w base st o.type e i0 _ 3 32 hu hi hz0 hz1 hz2 rfl (by decide) v u.length (flatT u) hO ad 1 1 (encT t) rfl hr (by
    intro u hu
    simp [encT] at hu
    rcases hu with rfl | rfl | rfl <;> rfl) (by unfold maxLen; omega) (by omega) hb
  have r1' : OwnsT e w' base v' (u ++ [t]) := by
    unfold OwnsT
    rw [flatT_append, List.length_append]
    have : flatT [t] = encT t := by simp [flatT]
    rw [this]
    exact r1
  unfold Oper.wp
  simp [execOp, ho, resolve, invoke, builtin, hs, hx, hrun, Result.andThen]
  exact hK' _ _ (h v' w' r1' r2)
theorem own_grown {e : TypeId} {W W' : World} {base : Nat} {v : Value} {u : List Tok} (hO : OwnsT e W base v u) (hg : W.grownBy W' v.ownBlock) (hb : base ≤ W.heap.size) : Below base W W' :=
  (Below.refl base W).grown hg hb (fun k hk => (World.ownsRow.lt hO k hk).1)
theorem cells_lit (w : World) (t : Tok) (ty : TypeId) (X : ByteArray) (hX : X = bs t.text) (k a : Int) (hk : k = (t.kind : Nat)) (ha : a = (t.at_ : Nat)) :
    ∀ j x, (encT t)[j]? = some x → (w.alloc (.cells #[.int .i64 k, .string X, .int .i64 a] ty)).cell? ((⟨w.heap.size, 0, none⟩ : Addr).add j) = some x := by
  subst hX hk ha
  intro j x hj
  rw [Addr.add_lit]
  match j, hj with
  | 0, hj => simp [encT] at hj; subst hj; simp [go_sem]
  | 1, hj => simp [encT] at hj; subst hj; simp [go_sem]
  | 2, hj => simp [encT] at hj; subst hj; simp [go_sem]
  | j + 3, hj => simp [encT] at hj
end Go.Proofs.YtahnbigkdfmpbaaDoor
