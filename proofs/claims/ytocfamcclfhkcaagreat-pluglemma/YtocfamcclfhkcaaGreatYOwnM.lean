/- Rows of terms, and of branches, of one's own memory, that grow. -/
import Derived.Test.YtocfamcclfhkcaaGreatYCopyB
namespace Go.Proofs.YtocfamcclfhkcaaGreat
open Go.RowKit
set_option linter.unusedVariables false
set_option linter.unusedSimpArgs false

/-! ### six values a term, two a branch -/
abbrev V6 := Value × Value × Value × Value × Value × Value
def flat6 : List V6 → List Value
  | [] => []
  | u :: l => u.1 :: u.2.1 :: u.2.2.1 :: u.2.2.2.1 :: u.2.2.2.2.1 :: u.2.2.2.2.2 :: flat6 l
def agg6 (u : V6) : Value := .agg #[u.1, u.2.1, u.2.2.1, u.2.2.2.1, u.2.2.2.2.1, u.2.2.2.2.2]
theorem flat6_length : ∀ l : List V6, (flat6 l).length = l.length * 6
  | [] => rfl
  | u :: l => by simp only [flat6, List.length_cons, flat6_length l]; omega
theorem flat6_append : ∀ l m : List V6, flat6 (l ++ m) = flat6 l ++ flat6 m
  | [], m => rfl
  | u :: l, m => by simp only [List.cons_append, flat6, flat6_append l m]
theorem flat6_get : ∀ (l : List V6) (j : Nat) (u : V6), l[j]? = some u → (flat6 l)[j * 6]? = some u.1 ∧ (flat6 l)[j * 6 + 1]? = some u.2.1 ∧ (flat6 l)[j * 6 + 2]? = some u.2.2.1 ∧ (flat6 l)[j * 6 + 3]? = some u.2.2.2.1 ∧ (flat6 l)[j * 6 + 4]? = some u.2.2.2.2.1 ∧ (flat6 l)[j * 6 + 5]? = some u.2.2.2.2.2
  | [], j, u, h => by simp at h
  | x :: l, 0, u, h => by
    simp only [List.getElem?_cons_zero, Option.some.injEq] at h
    subst h
    simp [flat6]
  | x :: l, j + 1, u, h => by
    have h' := flat6_get l j u (by simpa using h)
    have e : ∀ i, (j + 1) * 6 + i = (j * 6 + i) + 6 := fun i => by omega
    have e0 : (j + 1) * 6 = j * 6 + 6 := by omega
    simp only [flat6, e, e0, List.getElem?_cons_succ]
    exact h'
def flat2 : List (Value × Value) → List Value
  | [] => []
  | u :: l => u.1 :: u.2 :: flat2 l
theorem flat2_length : ∀ l : List (Value × Value), (flat2 l).length = l.length * 2
  | [] => rfl
  | u :: l => by simp only [flat2, List.length_cons, flat2_length l]; omega
theorem flat2_append : ∀ l m : List (Value × Value), flat2 (l ++ m) = flat2 l ++ flat2 m
  | [], m => rfl
  | u :: l, m => by simp only [List.cons_append, flat2, flat2_append l m]
theorem flat2_get : ∀ (l : List (Value × Value)) (j : Nat) (u : Value × Value), l[j]? = some u → (flat2 l)[j * 2]? = some u.1 ∧ (flat2 l)[j * 2 + 1]? = some u.2
  | [], j, u, h => by simp at h
  | x :: l, 0, u, h => by
    simp only [List.getElem?_cons_zero, Option.some.injEq] at h
    subst h
    simp [flat2]
  | x :: l, j + 1, u, h => by
    have h' := flat2_get l j u (by simpa using h)
    have e : ∀ i, (j + 1) * 2 + i = (j * 2 + i) + 2 := fun i => by omega
    have e0 : (j + 1) * 2 = j * 2 + 2 := by omega
    simp only [flat2, e, e0, List.getElem?_cons_succ]
    exact h'
/-! ### the blocks that a growing row's elements have -/
/-- A block that may be written, is not the row's own, and of which No holds. -/
def OkR (base : Nat) (No : Nat → Prop) (w : World) (v : Value) (q : Nat) : Prop := OkN base w q ∧ some q ≠ v.ownBlock ∧ No q
theorem OkN.lt {base : Nat} {w : World} {q : Nat} (h : OkN base w q) : q < w.heap.size := by obtain ⟨_, cs, ty, h2⟩ := h; exact (Array.getElem?_eq_some_iff.1 h2).1
theorem OkN.same {base : Nat} {w w' : World} {q : Nat} (h : OkN base w q) (hb : w'.heap[q]? = w.heap[q]?) : OkN base w' q := by obtain ⟨h1, cs, ty, h2⟩ := h; exact ⟨h1, cs, ty, hb.trans h2⟩
/-- A row of terms. -/
def KOwn (base : Nat) (No : Nat → Prop) (w : World) (v : Value) (l : List Tm) : Prop :=
  ∃ us : List V6, us.length = l.length ∧ w.ownsRow base 26 6 v l.length (flat6 us) ∧ (∀ k, v.ownBlock = some k → No k) ∧ ∀ (j : Nat) (x : Tm) (u : V6), l[j]? = some x → us[j]? = some u → TmIn (OkR base No w v) w x (agg6 u)
/-- A row of branches. -/
def BOwn (base : Nat) (No : Nat → Prop) (w : World) (v : Value) (l : List (List C × List Tm)) : Prop :=
  ∃ us : List (Value × Value), us.length = l.length ∧ w.ownsRow base 61 2 v l.length (flat2 us) ∧ (∀ k, v.ownBlock = some k → No k) ∧ ∀ (j : Nat) (x : List C × List Tm) (u : Value × Value), l[j]? = some x → us[j]? = some u → ClRow (OkR base No w v) w x.1 u.1 ∧ KdT (OkR base No w v) w (TmIn (OkR base No w v) w) x.2 u.2
theorem KOwn.nil (base : Nat) (No : Nat → Prop) (w : World) : KOwn base No w (.slice none 0 0) [] := ⟨[], rfl, World.ownsRow_nil _ _ _ _, fun k h => (by cases h), fun j x u h => by simp at h⟩
theorem BOwn.nil (base : Nat) (No : Nat → Prop) (w : World) : BOwn base No w (.slice none 0 0) [] := ⟨[], rfl, World.ownsRow_nil _ _ _ _, fun k h => (by cases h), fun j x u h => by simp at h⟩
theorem owns_keep {w w' : World} {base : Nat} {e : TypeId} {size : Nat} {v : Value} {n : Nat} {xs : List Value} (h : w.ownsRow base e size v n xs) (hb : ∀ k, v.ownBlock = some k → w'.heap[k]? = w.heap[k]?) : w'.ownsRow base e size v n xs := by
  refine ⟨h.1, ?_⟩
  rcases h.2 with h | ⟨g, cap, cur, rfl, h1, h2, h3⟩
  · exact .inl h
  · exact .inr ⟨g, cap, cur, rfl, h1, (hb g rfl).trans h2, h3⟩
/-- What is kept of the blocks of which No holds keeps the row. -/
theorem KOwn.keep {base : Nat} {No No2 : Nat → Prop} {w w' : World} {v : Value} {l : List Tm} (h : KOwn base No w v l) (hk : Kn No2 w w') (hn : ∀ q, base ≤ q → No q → No2 q) : KOwn base No w' v l := by
  obtain ⟨us, h1, h2, h3, h4⟩ := h
  refine ⟨us, h1, owns_keep h2 (fun k hk' => hk.block k (hn k (World.ownsRow.lt h2 k hk').1 (h3 k hk')) (World.ownsRow.lt h2 k hk').2), h3, fun j x u hx hu => (h4 j x u hx hu).keep hk.size (fun q hq => ?_) (fun q hq hs => hk.block q (hn q hq.1.1 hq.2.2) hs)⟩
  exact ⟨hq.1.same (hk.block q (hn q hq.1.1 hq.2.2) hq.1.lt), hq.2⟩
theorem BOwn.keep {base : Nat} {No No2 : Nat → Prop} {w w' : World} {v : Value} {l : List (List C × List Tm)} (h : BOwn base No w v l) (hk : Kn No2 w w') (hn : ∀ q, base ≤ q → No q → No2 q) : BOwn base No w' v l := by
  obtain ⟨us, h1, h2, h3, h4⟩ := h
  have ho : ∀ q, OkR base No w v q → OkR base No w' v q := fun q hq => ⟨hq.1.same (hk.block q (hn q hq.1.1 hq.2.2) hq.1.lt), hq.2⟩
  have hb : ∀ q, OkR base No w v q → q < w.heap.size → w'.heap[q]? = w.heap[q]? := fun q hq hs => hk.block q (hn q hq.1.1 hq.2.2) hs
  refine ⟨us, h1, owns_keep h2 (fun k hk' => hk.block k (hn k (World.ownsRow.lt h2 k hk').1 (h3 k hk')) (World.ownsRow.lt h2 k hk').2), h3, fun j x u hx hu => ⟨(h4 j x u hx hu).1.keep hk.size ho hb, (h4 j x u hx hu).2.all hk.size ho hb⟩⟩
/-- The row, as a row of terms that may be read. -/
theorem KOwn.row {base : Nat} {No : Nat → Prop} {w : World} {v : Value} {l : List Tm} (h : KOwn base No w v l) : KdT (fun q => OkN base w q ∧ No q) w (TmIn (fun q => OkN base w q ∧ No q) w) l v := by
  obtain ⟨us, h1, h2, h3, h4⟩ := h
  rcases h2.2 with ⟨rfl, hz⟩ | ⟨g, cap, cur, rfl, hb, hh, hn, _, _, hc⟩
  · obtain rfl : l = [] := List.length_eq_zero_iff.1 hz
    exact kt_nil _ _ _
  · refine ⟨_, _, rfl, hn, fun j x hx => ?_⟩
    obtain ⟨u, hu⟩ := someL (l := us) (k := j) (by have := some_lt hx; omega)
    have hcell := h2.cells (g := g) rfl
    obtain ⟨f0, f1, f2, f3, f4, f5⟩ := flat6_get us j u hu
    refine ⟨g, 0, u.1, u.2.1, u.2.2.1, u.2.2.2.1, u.2.2.2.2.1, u.2.2.2.2.2, rfl, ⟨⟨hb, cur, _, hh⟩, h3 g rfl⟩, (Array.getElem?_eq_some_iff.1 hh).1, (h4 j x u hx hu).up fun q hq => ⟨hq.1, hq.2.2⟩, ?_, ?_, ?_, ?_, ?_, ?_⟩
    · have := hcell _ _ f0; rw [Addr.add_lit] at this; simpa using this
    · have := hcell _ _ f1; rw [Addr.add_lit] at this; simpa using this
    · have := hcell _ _ f2; rw [Addr.add_lit] at this; simpa using this
    · have := hcell _ _ f3; rw [Addr.add_lit] at this; simpa using this
    · have := hcell _ _ f4; rw [Addr.add_lit] at this; simpa using this
    · have := hcell _ _ f5; rw [Addr.add_lit] at this; simpa using this
theorem BOwn.row {base : Nat} {No : Nat → Prop} {w : World} {v : Value} {l : List (List C × List Tm)} (h : BOwn base No w v l) : SyT (fun q => OkN base w q ∧ No q) w (TmIn (fun q => OkN base w q ∧ No q) w) l v := by
  obtain ⟨us, h1, h2, h3, h4⟩ := h
  rcases h2.2 with ⟨rfl, hz⟩ | ⟨g, cap, cur, rfl, hb, hh, hn, _, _, hc⟩
  · obtain rfl : l = [] := List.length_eq_zero_iff.1 hz
    exact sy_nil _ _ _
  · refine ⟨_, _, rfl, hn, fun j x hx => ?_⟩
    obtain ⟨u, hu⟩ := someL (l := us) (k := j) (by have := some_lt hx; omega)
    have hcell := h2.cells (g := g) rfl
    obtain ⟨f0, f1⟩ := flat2_get us j u hu
    obtain ⟨p1, p2⟩ := h4 j x u hx hu
    refine ⟨g, 0, u.1, u.2, rfl, ⟨⟨hb, cur, _, hh⟩, h3 g rfl⟩, (Array.getElem?_eq_some_iff.1 hh).1, p1.keep (Nat.le_refl _) (fun q hq => ⟨hq.1, hq.2.2⟩) (fun _ _ _ => rfl), p2.all (Nat.le_refl _) (fun q hq => ⟨hq.1, hq.2.2⟩) (fun _ _ _ => rfl), ?_, ?_⟩
    · have := hcell _ _ f0; rw [Addr.add_lit] at this; simpa using this
    · have := hcell _ _ f1; rw [Addr.add_lit] at this; simpa using this
theorem one_int (k : IntKind) (n : Int) : (Value.int k n).oneCell' = true := rfl
theorem one_str (s : ByteArray) : (Value.string s).oneCell' = true := rfl
theorem one_sl (a : Option Addr) (n c : Nat) : (Value.slice a n c).oneCell' = true := rfl
/-- What is kept by an append. -/
theorem okr_grown {base : Nat} {No : Nat → Prop} {W W' : World} {v v' : Value} (hg : W.grownBy W' v.ownBlock) (hv : v'.ownBlock = v.ownBlock ∨ v'.ownBlock = some W.heap.size) (q : Nat) (hq : OkR base No W v q) : OkR base No W' v' q := by
  have hlt := hq.1.lt
  refine ⟨hq.1.same (hg.block q hlt hq.2.1), ?_, hq.2.2⟩
  rcases hv with h | h
  · rw [h]; exact hq.2.1
  · rw [h]; intro e; injection e with e; omega
theorem append_T {base : Nat} {No : Nat → Prop} {W : World} {v : Value} {l : List Tm} {x : Tm} {u : V6} (ty : TypeId) (hO : KOwn base No W v l) (ad : Addr) (c : Nat) (hc : ∀ (j : Nat) (y : Value), (flat6 [u])[j]? = some y → W.cell? (ad.add j) = some y) (hx : TmIn (OkR base No W v) W x (agg6 u)) (hn : l.length + 1 ≤ 200000) (hb : base ≤ W.heap.size) (hN : No W.heap.size) :
    ∃ v' W', (Builtin.append_ #[23, 23] ty #[v, .slice (some ad) 1 c]).run Tryz.prog W = .ok v' W' ∧ KOwn base No W' v' (l ++ [x]) ∧ W.grownBy W' v.ownBlock ∧ (v'.ownBlock = v.ownBlock ∨ v'.ownBlock = some W.heap.size) := by
  obtain ⟨i0, hi, hz0, hz1, hz2⟩ := info_parts infoT
  obtain ⟨us, h1, h2, h3, h4⟩ := hO
  obtain ⟨ra, rc, ka, kc, sa, sc, e, ht⟩ := hx.form
  have hone : ∀ y ∈ flat6 [u], y.oneCell' = true := by
    unfold agg6 at e
    injection e with e
    simp only [Array.mk.injEq, List.cons.injEq, and_true] at e
    obtain ⟨e0, e1, e2, e3, e4, e5⟩ := e
    intro y hy
    simp only [flat6, List.mem_cons, List.not_mem_nil, or_false] at hy
    rcases hy with rfl | rfl | rfl | rfl | rfl | rfl
    · rw [e0]; rfl
    · rw [e1]; rfl
    · rw [e2]; rfl
    · rw [e3]; rfl
    · rw [e4]; rfl
    · rw [e5]; rfl
  obtain ⟨v', W', hrun, r1, r2, _, r4⟩ := run_append_own_at (P := Tryz.prog) W base 23 ty 26 i0 _ 6 104 Tryz.underlying23 hi hz0 hz1 hz2 rfl (by decide) v l.length (flat6 us) h2 ad 1 c (flat6 [u]) (flat6_length _) hc hone (by unfold maxLen; omega) (by omega) hb
  refine ⟨v', W', hrun, ⟨us ++ [u], by simp [h1], by rw [List.length_append, flat6_append]; exact r1, fun k hk => ?_, fun j y z hy hz => ?_⟩, r2, r4⟩
  · rcases r4 with h | h
    · rw [h] at hk; exact h3 k hk
    · rw [h] at hk; injection hk with hk; rw [← hk]; exact hN
  · have hkeep : ∀ t z, TmIn (OkR base No W v) W t z → TmIn (OkR base No W' v') W' t z := fun t z h => h.keep r2.size (okr_grown r2 r4) (fun q hq hs => r2.block q hs hq.2.1)
    rcases Nat.lt_or_ge j l.length with hj | hj
    · rw [List.getElem?_append_left hj] at hy
      rw [List.getElem?_append_left (by omega)] at hz
      exact hkeep _ _ (h4 j y z hy hz)
    · rw [List.getElem?_append_right hj] at hy
      rw [List.getElem?_append_right (by omega), h1] at hz
      obtain ⟨e1, e2⟩ : x = y ∧ u = z := by
        cases hd : j - l.length with
        | zero => rw [hd] at hy hz; simp at hy hz; exact ⟨hy, hz⟩
        | succ d => rw [hd] at hy; simp at hy
      subst e1 e2
      exact hkeep _ _ hx
theorem append_B {base : Nat} {No : Nat → Prop} {W : World} {v : Value} {l : List (List C × List Tm)} {x : List C × List Tm} {u : Value × Value} (ty : TypeId) (hO : BOwn base No W v l) (ad : Addr) (c : Nat) (hc : ∀ (j : Nat) (y : Value), (flat2 [u])[j]? = some y → W.cell? (ad.add j) = some y) (hx : ClRow (OkR base No W v) W x.1 u.1 ∧ KdT (OkR base No W v) W (TmIn (OkR base No W v) W) x.2 u.2) (hn : l.length + 1 ≤ 200000) (hb : base ≤ W.heap.size) (hN : No W.heap.size) :
    ∃ v' W', (Builtin.append_ #[24, 24] ty #[v, .slice (some ad) 1 c]).run Tryz.prog W = .ok v' W' ∧ BOwn base No W' v' (l ++ [x]) ∧ W.grownBy W' v.ownBlock ∧ (v'.ownBlock = v.ownBlock ∨ v'.ownBlock = some W.heap.size) := by
  obtain ⟨i0, hi, hz0, hz1, hz2⟩ := info_parts infoB
  obtain ⟨us, h1, h2, h3, h4⟩ := hO
  have hone : ∀ y ∈ flat2 [u], y.oneCell' = true := by
    obtain ⟨⟨a1, c1, e1, _⟩, ⟨a2, c2, e2, _⟩⟩ := hx
    intro y hy
    simp only [flat2, List.mem_cons, List.not_mem_nil, or_false] at hy
    rcases hy with rfl | rfl
    · rw [e1]; rfl
    · rw [e2]; rfl
  obtain ⟨v', W', hrun, r1, r2, _, r4⟩ := run_append_own_at (P := Tryz.prog) W base 24 ty 61 i0 _ 2 48 Tryz.underlying24 hi hz0 hz1 hz2 rfl (by decide) v l.length (flat2 us) h2 ad 1 c (flat2 [u]) (flat2_length _) hc hone (by unfold maxLen; omega) (by omega) hb
  refine ⟨v', W', hrun, ⟨us ++ [u], by simp [h1], by rw [List.length_append, flat2_append]; exact r1, fun k hk => ?_, fun j y z hy hz => ?_⟩, r2, r4⟩
  · rcases r4 with h | h
    · rw [h] at hk; exact h3 k hk
    · rw [h] at hk; injection hk with hk; rw [← hk]; exact hN
  · have hkeep : ∀ (y : List C × List Tm) (z : Value × Value), ClRow (OkR base No W v) W y.1 z.1 ∧ KdT (OkR base No W v) W (TmIn (OkR base No W v) W) y.2 z.2 → ClRow (OkR base No W' v') W' y.1 z.1 ∧ KdT (OkR base No W' v') W' (TmIn (OkR base No W' v') W') y.2 z.2 := fun y z h =>
      ⟨h.1.keep r2.size (okr_grown r2 r4) (fun q hq hs => r2.block q hs hq.2.1), h.2.all r2.size (okr_grown r2 r4) (fun q hq hs => r2.block q hs hq.2.1)⟩
    rcases Nat.lt_or_ge j l.length with hj | hj
    · rw [List.getElem?_append_left hj] at hy
      rw [List.getElem?_append_left (by omega)] at hz
      exact hkeep _ _ (h4 j y z hy hz)
    · rw [List.getElem?_append_right hj] at hy
      rw [List.getElem?_append_right (by omega), h1] at hz
      obtain ⟨e1, e2⟩ : x = y ∧ u = z := by
        cases hd : j - l.length with
        | zero => rw [hd] at hy hz; simp at hy hz; exact ⟨hy, hz⟩
        | succ d => rw [hd] at hy; simp at hy
      subst e1 e2
      exact hkeep _ _ hx
theorem owns_len {w : World} {base : Nat} {e : TypeId} {size : Nat} {v : Value} {n : Nat} {xs : List Value} (h : w.ownsRow base e size v n xs) : ∃ a c, v = .slice a n c := by
  rcases h.2 with ⟨rfl, rfl⟩ | ⟨g, cap, cur, rfl, _⟩
  · exact ⟨_, _, rfl⟩
  · exact ⟨_, _, rfl⟩
theorem KOwn.len {base : Nat} {No : Nat → Prop} {w : World} {v : Value} {l : List Tm} (h : KOwn base No w v l) : ∃ a c, v = .slice a l.length c := by obtain ⟨us, _, h2, _⟩ := h; exact owns_len h2
theorem BOwn.len {base : Nat} {No : Nat → Prop} {w : World} {v : Value} {l : List (List C × List Tm)} (h : BOwn base No w v l) : ∃ a c, v = .slice a l.length c := by obtain ⟨us, _, h2, _⟩ := h; exact owns_len h2
end Go.Proofs.YtocfamcclfhkcaaGreat
