/- A term that is built part by part: how it stands in memory. -/
import Derived.Test.YtocfamcclfhkcaaGreatYOwnM
import Derived.Test.YtocfamcclfhkcaaGreatYCopyD
namespace Go.Proofs.YtocfamcclfhkcaaGreat
open Go.RowKit
set_option linter.unusedVariables false
set_option linter.unusedSimpArgs false

theorem step_append {ops : Array Oper} {o : Oper} {a : Act} {w : World} {K : Act → World → Prop} {Q : Exit → Act → World → Prop} {E : Prop} (hgd : o.guard = none) (s x : Operand) (ty : TypeId)
    (ho : o.op = .call { callee := .builtin .append, args := #[s, x], argTypes := #[ty, ty] }) (v sv v' : Value) (w' : World) (hs : a.eval s = v) (hx : a.eval x = sv) (hrun : (Builtin.append_ #[ty, ty] o.type #[v, sv]).run Tryz.prog w = .ok v' w') (h : K (a.put o.dst v') w') :
    if Region.wanted o (yielded ops a.tmps) = true then Oper.wp Tryz.prog o a w K Q else E := by
  have hw : Region.wanted o (yielded ops a.tmps) = true := by simp [Region.wanted, hgd]
  rw [if_pos hw]
  unfold Oper.wp
  simp [execOp, ho, resolve, invoke, builtin, hs, hx, hrun, Result.andThen]
  exact h
theorem wpList_append_run {w : World} {ops : Array Oper} {rest : List Oper} {o : Oper} {a : Act} {Q : Exit → Act → World → Prop} (hgd : o.guard = none) (s x : Operand) (ty : TypeId)
    (ho : o.op = .call { callee := .builtin .append, args := #[s, x], argTypes := #[ty, ty] }) (v sv v' : Value) (w' : World) (hs : a.eval s = v) (hx : a.eval x = sv) (hrun : (Builtin.append_ #[ty, ty] o.type #[v, sv]).run Tryz.prog w = .ok v' w') (h : wpList Tryz.prog ops Q rest (a.put o.dst v') w') : wpList Tryz.prog ops Q (o :: rest) a w := by
  refine wpList_plain hgd fun K hK' => ?_
  unfold Oper.wp
  simp [execOp, ho, resolve, invoke, builtin, hs, hx, hrun, Result.andThen]
  exact hK' _ _ h
/-- A variable of two cells. -/
structure Two (w : World) (s : Nat) (v0 v1 : Value) : Prop where
  blk : w.heap[s]? = some (.cells #[v0, v1] 61 (0, 0))
theorem Two.lt {w : World} {s : Nat} {v0 v1 : Value} (h : Two w s v0 v1) : s < w.heap.size := (Array.getElem?_eq_some_iff.1 h.blk).1
theorem Two.cells {w : World} {s : Nat} {v0 v1 : Value} (h : Two w s v0 v1) : w.cell? ⟨s, 0, none⟩ = some v0 ∧ w.cell? ⟨s, 1, none⟩ = some v1 ∧ ∀ i, w.frozen? ⟨s, i, none⟩ = false := by
  have h := h.blk
  refine ⟨?_, ?_, fun i => ?_⟩ <;> simp [World.cell?, World.frozen?, h]
theorem Two.set1 {w : World} {s : Nat} {v0 v1 : Value} (h : Two w s v0 v1) (u : Value) : Two (w.setCell ⟨s, 1, none⟩ u) s v0 u := ⟨set_blk h.blk u⟩
theorem Two.set2 {w : World} {s : Nat} {v0 v1 : Value} (h : Two w s v0 v1) (u0 u1 : Value) : Two ((w.setCell ⟨s, 0, none⟩ u0).setCell ⟨s, 1, none⟩ u1) s u0 u1 := ⟨set_blk (set_blk h.blk u0) u1⟩
theorem Two.blw {w w' : World} {s : Nat} {v0 v1 : Value} (h : Two w s v0 v1) (hb : Below w.heap.size w w') : Two w' s v0 v1 := ⟨(hb.block s h.lt).trans h.blk⟩
theorem Six.grown {w w' : World} {s : Nat} {v0 v1 v2 v3 v4 v5 : Value} {r : Option Nat} (h : Six w s v0 v1 v2 v3 v4 v5) (hg : w.grownBy w' r) (hr : r ≠ some s) : Six w' s v0 v1 v2 v3 v4 v5 := ⟨(hg.block s h.lt (fun e => hr e.symm)).trans h.blk⟩
theorem Two.grown {w w' : World} {s : Nat} {v0 v1 : Value} {r : Option Nat} (h : Two w s v0 v1) (hg : w.grownBy w' r) (hr : r ≠ some s) : Two w' s v0 v1 := ⟨(hg.block s h.lt (fun e => hr e.symm)).trans h.blk⟩
theorem OwnsC.but {w : World} {base : Nat} {v : Value} {l : List C} {o : Nat} (h : OwnsC w base v l) (ho : v.ownBlock ≠ some o) : ClRow (fun q => OkN base w q ∧ q ≠ o) w l v := by
  rcases h.2 with ⟨rfl, hz⟩ | ⟨g, cap, cur, rfl, hb, hh, hn, _⟩
  · obtain rfl : l = [] := List.length_eq_zero_iff.1 hz
    exact cl_nil _ _
  · rcases h.form with ⟨e, _⟩ | ⟨g', cap', e, _, hg, hc⟩
    · cases e
    · cases e
      exact ⟨_, _, rfl, hn, fun j c hj => ⟨g, 0, rfl, ⟨⟨hb, cur, _, hh⟩, fun e => ho (by rw [← e]; rfl)⟩, hg, hc j c hj⟩⟩
/-- A row of clauses, and the first parts, of what is built; o is where it stands. -/
structure Half (n o : Nat) (r : List C) (l : List Tm) (W : World) (va vk : Value) : Prop where
  row : ClRow (OkR n (fun q => q ≠ o) W vk) W r va
  kids : KOwn n (fun q => q ≠ o) W vk l
  ge : n ≤ o
theorem Half.keep {n o : Nat} {r : List C} {l : List Tm} {W W' : World} {va vk : Value} (h : Half n o r l W va vk) (hk : Kn (fun q => n ≤ q → q ≠ o → q < W.heap.size) W W') : Half n o r l W' va vk := by
  refine ⟨h.row.keep hk.size (fun q hq => ⟨hq.1.same (hk.block q (fun _ _ => hq.1.lt) hq.1.lt), hq.2⟩) (fun q hq hs => hk.block q (fun _ _ => hs) hs), ?_, h.ge⟩
  obtain ⟨us, h1, h2, h3, h4⟩ := h.kids
  refine ⟨us, h1, owns_keep h2 (fun k hk' => hk.block k (fun _ _ => (World.ownsRow.lt h2 k hk').2) (World.ownsRow.lt h2 k hk').2), h3, fun j x u hx hu => (h4 j x u hx hu).keep hk.size (fun q hq => ⟨hq.1.same (hk.block q (fun _ _ => hq.1.lt) hq.1.lt), hq.2⟩) (fun q hq hs => hk.block q (fun _ _ => hs) hs)⟩
theorem Half.blw {n o : Nat} {r : List C} {l : List Tm} {W W' : World} {va vk : Value} (h : Half n o r l W va vk) (hb : Below W.heap.size W W') : Half n o r l W' va vk := h.keep (Kn.of_below hb)
/-- What was written at o. -/
theorem Half.set {n o : Nat} {r : List C} {l : List Tm} {W W' : World} {va vk : Value} (h : Half n o r l W va vk) (hk : Kn (fun q => q ≠ o) W W') : Half n o r l W' va vk := by
  refine ⟨h.row.keep hk.size (fun q hq => ⟨hq.1.same (hk.block q hq.2.2 hq.1.lt), hq.2⟩) (fun q hq hs => hk.block q hq.2.2 hs), h.kids.keep hk (fun q _ h => h), h.ge⟩
/-- One part more. -/
theorem Half.next {n o : Nat} {r : List C} {l : List Tm} {W W2 : World} {va vk : Value} {x : Tm} {u : V6} (ty : TypeId) (h : Half n o r l W va vk) (hnW : n ≤ W.heap.size) (ho : o < W.heap.size) (hb : Below W.heap.size W W2) (hx : TmIn (OkN W.heap.size W2) W2 x (agg6 u)) (hl : l.length + 1 ≤ 200000) :
    ∃ vk' W4, (Builtin.append_ #[23, 23] ty #[vk, .slice (some ⟨W2.heap.size, 0, none⟩) 1 1]).run Tryz.prog (W2.alloc (.cells #[u.1, u.2.1, u.2.2.1, u.2.2.2.1, u.2.2.2.2.1, u.2.2.2.2.2] 26)) = .ok vk' W4 ∧ Half n o r (l ++ [x]) W4 va vk' ∧ Below n W W4 ∧ W4.heap[o]? = W.heap[o]? := by
  obtain ⟨W3, hW3⟩ : ∃ W3, W3 = W2.alloc (.cells #[u.1, u.2.1, u.2.2.1, u.2.2.2.1, u.2.2.2.2.1, u.2.2.2.2.2] 26) := ⟨_, rfl⟩
  have b3 : Below W2.heap.size W2 W3 := by rw [hW3]; exact belowA _ _
  have hn := heapNew W2 (.cells #[u.1, u.2.1, u.2.2.1, u.2.2.2.1, u.2.2.2.2.1, u.2.2.2.2.2] 26)
  rw [← hW3] at hn ⊢
  have bb := bchain hb b3
  have h3 := h.blw bb
  have hs3 : W3.heap.size = W2.heap.size + 1 := by rw [hW3]; simp
  have hlt : ∀ k, vk.ownBlock = some k → n ≤ k ∧ k < W.heap.size ∧ k ≠ o := fun k hk => by
    obtain ⟨us, h1, h2, h4, _⟩ := h.kids
    exact ⟨(World.ownsRow.lt h2 k hk).1, (World.ownsRow.lt h2 k hk).2, h4 k hk⟩
  have hs2 := hb.size
  have hx3 : TmIn (OkR n (fun q => q ≠ o) W3 vk) W3 x (agg6 u) := hx.keep b3.size (fun q hq => ⟨(hq.mono hnW).blw b3, fun e => by have := (hlt q e.symm).2.1; have := hq.1; omega, by have := hq.1; omega⟩) (fun q _ hs => b3.block q hs)
  obtain ⟨vk', W4, hrun, hO, hg, hv⟩ := append_T ty h3.kids ⟨W2.heap.size, 0, none⟩ 1 (fun j y hy => by
    rw [Addr.add_lit]
    match j with
    | 0 => simp [flat6] at hy; subst hy; simp [World.cell?, hn]
    | 1 => simp [flat6] at hy; subst hy; simp [World.cell?, hn]
    | 2 => simp [flat6] at hy; subst hy; simp [World.cell?, hn]
    | 3 => simp [flat6] at hy; subst hy; simp [World.cell?, hn]
    | 4 => simp [flat6] at hy; subst hy; simp [World.cell?, hn]
    | 5 => simp [flat6] at hy; subst hy; simp [World.cell?, hn]
    | j + 6 => simp [flat6] at hy) hx3 hl (by omega) (by omega)
  refine ⟨vk', W4, hrun, ⟨h3.row.keep hg.size (okr_grown hg hv) (fun q hq hs => hg.block q hs hq.2.1), hO, h.ge⟩, ?_, ?_⟩
  · exact (bb.mono hnW).trans ((Below.refl n W3).grown hg (by omega) (fun k hk => (hlt k hk).1))
  · have ho3 : W3.heap[o]? = W.heap[o]? := bb.block o ho
    rw [← ho3]
    exact hg.block o (by omega) (fun e => (hlt o e.symm).2.2 rfl)
/-- The row, the parts and the first branches of what is built. -/
structure Whole (n o : Nat) (t : Tm) (k : Nat) (W : World) (va vk vs : Value) : Prop where
  row : ClRow (OkR n (fun q => q ≠ o) W vs) W t.r va
  kids : KdT (OkR n (fun q => q ≠ o) W vs) W (TmIn (OkR n (fun q => q ≠ o) W vs) W) t.kids vk
  sys : BOwn n (fun q => q ≠ o) W vs (t.sys.take k)
  ge : n ≤ o
theorem Half.all {n o : Nat} {t : Tm} {W : World} {va vk : Value} (h : Half n o t.r t.kids W va vk) : Whole n o t 0 W va vk (.slice none 0 0) := by
  refine ⟨h.row.keep (Nat.le_refl _) (fun q hq => ⟨hq.1, (fun e => by cases e), hq.2.2⟩) (fun _ _ _ => rfl), h.kids.row.all (Nat.le_refl _) (fun q hq => ⟨hq.1, (fun e => by cases e), hq.2⟩) (fun _ _ _ => rfl), BOwn.nil _ _ _, h.ge⟩
theorem Whole.blw {n o : Nat} {t : Tm} {k : Nat} {W W' : World} {va vk vs : Value} (h : Whole n o t k W va vk vs) (hb : Below W.heap.size W W') : Whole n o t k W' va vk vs := by
  have ho : ∀ q, OkR n (fun q => q ≠ o) W vs q → OkR n (fun q => q ≠ o) W' vs q := fun q hq => ⟨hq.1.blw hb, hq.2⟩
  exact ⟨h.row.keep hb.size ho (fun q _ hs => hb.block q hs), h.kids.all hb.size ho (fun q _ hs => hb.block q hs), h.sys.keep (Kn.of_below (No := fun _ => True) hb) (fun _ _ _ => trivial), h.ge⟩
theorem Whole.set {n o : Nat} {t : Tm} {k : Nat} {W W' : World} {va vk vs : Value} (h : Whole n o t k W va vk vs) (hk : Kn (fun q => q ≠ o) W W') : Whole n o t k W' va vk vs := by
  have ho : ∀ q, OkR n (fun q => q ≠ o) W vs q → OkR n (fun q => q ≠ o) W' vs q := fun q hq => ⟨hq.1.same (hk.block q hq.2.2 hq.1.lt), hq.2⟩
  have hb : ∀ q, OkR n (fun q => q ≠ o) W vs q → q < W.heap.size → W'.heap[q]? = W.heap[q]? := fun q hq hs => hk.block q hq.2.2 hs
  exact ⟨h.row.keep hk.size ho hb, h.kids.all hk.size ho hb, h.sys.keep hk (fun _ _ h => h), h.ge⟩
/-- One branch more. -/
theorem Whole.next {n o p : Nat} {t : Tm} {k : Nat} {W W2 : World} {va vk vs vf vl : Value} {b : List C × List Tm} (ty : TypeId) (h : Whole n o t k W va vk vs) (hx : t.sys[k]? = some b) (hnW : n ≤ W.heap.size) (ho : o < W.heap.size) (hb : Below W.heap.size W W2) (hh : Half W.heap.size p b.1 b.2 W2 vf vl) (hl : k + 1 ≤ 200000) :
    ∃ vs' W4, (Builtin.append_ #[24, 24] ty #[vs, .slice (some ⟨W2.heap.size, 0, none⟩) 1 1]).run Tryz.prog (W2.alloc (.cells #[vf, vl] 61)) = .ok vs' W4 ∧ Whole n o t (k + 1) W4 va vk vs' ∧ Below n W W4 ∧ W4.heap[o]? = W.heap[o]? := by
  obtain ⟨W3, hW3⟩ : ∃ W3, W3 = W2.alloc (.cells #[vf, vl] 61) := ⟨_, rfl⟩
  have b3 : Below W2.heap.size W2 W3 := by rw [hW3]; exact belowA _ _
  have hn := heapNew W2 (.cells #[vf, vl] 61)
  rw [← hW3] at hn ⊢
  have bb := bchain hb b3
  have h3 := h.blw bb
  have hs3 : W3.heap.size = W2.heap.size + 1 := by rw [hW3]; simp
  have hlt : ∀ k, vs.ownBlock = some k → n ≤ k ∧ k < W.heap.size ∧ k ≠ o := fun k hk => by
    obtain ⟨us, h1, h2, h4, _⟩ := h.sys
    exact ⟨(World.ownsRow.lt h2 k hk).1, (World.ownsRow.lt h2 k hk).2, h4 k hk⟩
  have hs2 := hb.size
  have up : ∀ q, OkN W.heap.size W2 q → OkR n (fun q => q ≠ o) W3 vs q := fun q hq => ⟨(hq.mono hnW).blw b3, fun e => by have := (hlt q e.symm).2.1; have := hq.1; omega, by have := hq.1; omega⟩
  have hx3 : ClRow (OkR n (fun q => q ≠ o) W3 vs) W3 b.1 vf ∧ KdT (OkR n (fun q => q ≠ o) W3 vs) W3 (TmIn (OkR n (fun q => q ≠ o) W3 vs) W3) b.2 vl :=
    ⟨hh.row.keep b3.size (fun q hq => up q hq.1) (fun q _ hs => b3.block q hs), hh.kids.row.all b3.size (fun q hq => up q hq.1) (fun q _ hs => b3.block q hs)⟩
  have hkl : (t.sys.take k).length = k := by rw [List.length_take]; have := some_lt hx; omega
  obtain ⟨vs', W4, hrun, hO, hg, hv⟩ := append_B (x := b) (u := (vf, vl)) ty h3.sys ⟨W2.heap.size, 0, none⟩ 1 (fun j y hy => by
    rw [Addr.add_lit]
    match j with
    | 0 => simp [flat2] at hy; subst hy; simp [World.cell?, hn]
    | 1 => simp [flat2] at hy; subst hy; simp [World.cell?, hn]
    | j + 2 => simp [flat2] at hy) hx3 (by rw [hkl]; exact hl) (by omega) (by omega)
  rw [show t.sys.take k ++ [b] = t.sys.take (k + 1) by rw [List.take_add_one, hx]; rfl] at hO
  refine ⟨vs', W4, hrun, ⟨h3.row.keep hg.size (okr_grown hg hv) (fun q hq hs => hg.block q hs hq.2.1), h3.kids.all hg.size (okr_grown hg hv) (fun q hq hs => hg.block q hs hq.2.1), hO, h.ge⟩, ?_, ?_⟩
  · exact (bb.mono hnW).trans ((Below.refl n W3).grown hg (by omega) (fun k hk => (hlt k hk).1))
  · have ho3 : W3.heap[o]? = W.heap[o]? := bb.block o ho
    rw [← ho3]
    exact hg.block o (by omega) (fun e => (hlt o e.symm).2.2 rfl)
/-- What was built, as a term. -/
theorem Whole.term {n o : Nat} {t : Tm} {W : World} {va vk vs : Value} (h : Whole n o t t.sys.length W va vk vs) (hk : I64 t.kind) (hn : I64 t.n) : TmIn (OkN n W) W t (.agg #[.int .i64 t.kind, .int .i64 t.n, .string t.name, va, vk, vs]) := by
  have h3 := h.sys
  rw [List.take_of_length_le (Nat.le_refl _)] at h3
  obtain ⟨k0, n0, s0, r0, l0, y0⟩ := t
  exact TmIn.mk k0 n0 s0 r0 l0 y0 va vk vs hk hn (h.row.keep (Nat.le_refl _) (fun q hq => hq.1) (fun _ _ _ => rfl)) (h.kids.all (Nat.le_refl _) (fun q hq => hq.1) (fun _ _ _ => rfl)) (h3.row.all (Nat.le_refl _) (fun q hq => hq.1) (fun _ _ _ => rfl))
end Go.Proofs.YtocfamcclfhkcaaGreat
