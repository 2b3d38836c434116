/- Worlds in which numbers may have become others; the shape of a term in memory. -/
import Derived.Test.YtmaijbeghemkbaaYCopyB
namespace Go.Proofs.Ytmaijbeghemkbaa
open Go.RowKit
set_option linter.unusedVariables false
set_option linter.unusedSimpArgs false

/-- Numbers in blocks from base on may have become others; all else is as it was. -/
structure Sp (base : Nat) (w w' : World) : Prop where
  os : w'.os = w.os
  tape : w'.tape = w.tape
  output : w'.output = w.output
  size : w.heap.size ≤ w'.heap.size
  low : ∀ k : Nat, k < base → k < w.heap.size → w'.heap[k]? = w.heap[k]?
  blk : ∀ (k : Nat) (cs : Array Value) (ty : TypeId), w.heap[k]? = some (Obj.cells cs ty (0, 0)) → ∃ cs' : Array Value, w'.heap[k]? = some (Obj.cells cs' ty (0, 0))
  cell : ∀ (p : Addr) (v : Value), w.cell? p = some v → w'.cell? p = some v ∨ ∃ (k : IntKind) (n n' : Int), v = .int k n ∧ w'.cell? p = some (.int k n')
theorem Sp.refl (base : Nat) (w : World) : Sp base w w := ⟨rfl, rfl, rfl, Nat.le_refl _, fun _ _ _ => rfl, fun _ cs _ h => ⟨cs, h⟩, fun _ _ h => .inl h⟩
theorem Sp.trans {base : Nat} {w1 w2 w3 : World} (h : Sp base w1 w2) (k : Sp base w2 w3) : Sp base w1 w3 := by
  refine ⟨k.os.trans h.os, k.tape.trans h.tape, k.output.trans h.output, Nat.le_trans h.size k.size, fun i hi hb => (k.low i hi (Nat.lt_of_lt_of_le hb h.size)).trans (h.low i hi hb), fun i cs ty hi => ?_, fun p v hp => ?_⟩
  · obtain ⟨c1, h1⟩ := h.blk i cs ty hi
    exact k.blk i c1 ty h1
  · rcases h.cell p v hp with h1 | ⟨kk, n, n', rfl, h1⟩
    · exact k.cell p v h1
    · rcases k.cell p _ h1 with h2 | ⟨k2, m, m', e, h2⟩
      · exact .inr ⟨kk, n, n', rfl, h2⟩
      · cases e
        exact .inr ⟨kk, n, m', rfl, h2⟩
theorem Sp.of_below {base : Nat} {w w' : World} (h : Below w.heap.size w w') : Sp base w w' := by
  refine ⟨h.os, h.tape, h.output, h.size, fun k _ hk => h.block k hk, fun k cs ty hk => ⟨cs, (h.block k (Array.getElem?_eq_some_iff.1 hk).1).trans hk⟩, fun p v hp => .inl ?_⟩
  exact (World.cell?_of_block (h.block p.block (World.block_lt_of_cell? w p hp))).trans hp
theorem Sp.drew {base : Nat} {w w' : World} (h : Sp base w w') : Sp base w w'.drew := ⟨h.os, h.tape, h.output, h.size, h.low, h.blk, h.cell⟩
theorem Sp.below {base : Nat} {w w' : World} (h : Sp base w w') (hb : base ≤ w.heap.size) : Below base w w' := ⟨h.os, h.tape, h.output, h.size, fun k hk => h.low k hk (Nat.lt_of_lt_of_le hk hb)⟩
/-- A number is put in the place of a number. -/
theorem Sp.put {base : Nat} {w w' : World} (h : Sp base w w') {g i : Nat} {k : IntKind} {n : Int} (hg : base ≤ g) (hc : w'.cell? ⟨g, i, none⟩ = some (.int k n)) (m : Int) : Sp base w (w'.setCell ⟨g, i, none⟩ (.int k m)) := by
  refine h.trans ⟨rfl, rfl, rfl, by simp [World.setCell], fun j hj hb => Below.heap_setCell _ _ _ _ (by show j ≠ g; omega), fun j cs ty hj => ?_, fun p v hp => ?_⟩
  · by_cases e : j = g
    · subst e
      obtain ⟨hlt, hk⟩ := Array.getElem?_eq_some_iff.1 hj
      refine ⟨cs.setIfInBounds i (.int k m), ?_⟩
      show (w'.heap.modify j _)[j]? = _
      rw [Array.getElem?_eq_getElem (by rw [Array.size_modify]; exact hlt), Array.getElem_modify_self, hk]
      rfl
    · exact ⟨cs, (Below.heap_setCell _ _ _ _ e).trans hj⟩
  · by_cases e : p = ⟨g, i, none⟩
    · subst e
      rw [hc] at hp
      cases hp
      exact .inr ⟨k, n, m, rfl, World.cell?_setCell_same' _ _ _ (by rw [hc]; rfl)⟩
    · exact .inl ((World.cell?_setCell_other _ _ _ _ (fun h => e h.symm)).trans hp)
theorem OkN.sp {base : Nat} {w w' : World} {q : Nat} (h : OkN base w q) (hs : Sp base w w') : OkN base w' q := by
  obtain ⟨h1, cs, ty, h2⟩ := h
  obtain ⟨c, h3⟩ := hs.blk q cs ty h2
  exact ⟨h1, c, ty, h3⟩
theorem OkN.soft {base : Nat} {w : World} {q : Nat} (h : OkN base w q) (i : Nat) : w.frozen? ⟨q, i, none⟩ = false := by
  obtain ⟨_, cs, ty, h2⟩ := h
  unfold World.frozen?; simp [h2]
theorem Sp.int {base : Nat} {w w' : World} (h : Sp base w w') {p : Addr} {k : IntKind} {n : Int} (hp : w.cell? p = some (.int k n)) : ∃ m, w'.cell? p = some (.int k m) := by
  rcases h.cell p _ hp with h1 | ⟨kk, a, b, e, h1⟩
  · exact ⟨n, h1⟩
  · cases e; exact ⟨b, h1⟩
theorem Sp.str {base : Nat} {w w' : World} (h : Sp base w w') {p : Addr} {s : ByteArray} (hp : w.cell? p = some (.string s)) : w'.cell? p = some (.string s) := by
  rcases h.cell p _ hp with h1 | ⟨kk, a, b, e, h1⟩
  · exact h1
  · cases e
theorem Sp.sl {base : Nat} {w w' : World} (h : Sp base w w') {p : Addr} {a : Option Addr} {n c : Nat} (hp : w.cell? p = some (.slice a n c)) : w'.cell? p = some (.slice a n c) := by
  rcases h.cell p _ hp with h1 | ⟨kk, a, b, e, h1⟩
  · exact h1
  · cases e
/-- So many clauses, whatever they say. -/
def ClN (ok : Nat → Prop) (w : World) (a : Option Addr) (n : Nat) : Prop := ∀ j, j < n → ∃ g off x y, a = some ⟨g, off, none⟩ ∧ ok g ∧ g < w.heap.size ∧ w.cell? ⟨g, off + j * 2, none⟩ = some (.int .u32 x) ∧ w.cell? ⟨g, off + j * 2 + 1, none⟩ = some (.int .u32 y)
/-- So many terms, of which P holds. -/
def KdN (ok : Nat → Prop) (w : World) (P : Value → Prop) (a : Option Addr) (n : Nat) : Prop := ∀ j, j < n → ∃ g off k m nm ra rl rc ka kl kc sa sl sc, a = some ⟨g, off, none⟩ ∧ ok g ∧ g < w.heap.size ∧ P (.agg #[.int .i64 k, .int .i64 m, .string nm, .slice ra rl rc, .slice ka kl kc, .slice sa sl sc]) ∧
  w.cell? ⟨g, off + j * 6, none⟩ = some (.int .i64 k) ∧ w.cell? ⟨g, off + j * 6 + 1, none⟩ = some (.int .i64 m) ∧ w.cell? ⟨g, off + j * 6 + 2, none⟩ = some (.string nm) ∧ w.cell? ⟨g, off + j * 6 + 3, none⟩ = some (.slice ra rl rc) ∧ w.cell? ⟨g, off + j * 6 + 4, none⟩ = some (.slice ka kl kc) ∧ w.cell? ⟨g, off + j * 6 + 5, none⟩ = some (.slice sa sl sc)
/-- So many branches. -/
def SyN (ok : Nat → Prop) (w : World) (a : Option Addr) (n : Nat) : Prop := ∀ j, j < n → ∃ g off fa fl fc ka kl kc, a = some ⟨g, off, none⟩ ∧ ok g ∧ g < w.heap.size ∧ w.cell? ⟨g, off + j * 2, none⟩ = some (.slice fa fl fc) ∧ w.cell? ⟨g, off + j * 2 + 1, none⟩ = some (.slice ka kl kc) ∧ fl ≤ 100000 ∧ kl ≤ 100000 ∧ ClN ok w fa fl ∧ KdN ok w (fun _ => True) ka kl
/-- The shape of a term that is so deep at most. -/
def Sh (ok : Nat → Prop) (w : World) : Nat → Value → Prop
  | 0, _ => False
  | d + 1, v => ∃ k m nm ra rl rc ka kl kc sa sl sc, v = .agg #[.int .i64 k, .int .i64 m, .string nm, .slice ra rl rc, .slice ka kl kc, .slice sa sl sc] ∧ rl ≤ 100000 ∧ kl ≤ 100000 ∧ sl ≤ 100000 ∧ ClN ok w ra rl ∧ KdN ok w (Sh ok w d) ka kl ∧ SyN ok w sa sl
theorem Sh.any {ok : Nat → Prop} {w : World} {d : Nat} {k m k' m' : Int} {nm ra rl rc ka kl kc sa sl sc} (h : Sh ok w d (.agg #[.int .i64 k, .int .i64 m, .string nm, .slice ra rl rc, .slice ka kl kc, .slice sa sl sc])) : Sh ok w d (.agg #[.int .i64 k', .int .i64 m', .string nm, .slice ra rl rc, .slice ka kl kc, .slice sa sl sc]) := by
  cases d with
  | zero => exact h
  | succ d =>
    obtain ⟨k1, m1, nm1, ra1, rl1, rc1, ka1, kl1, kc1, sa1, sl1, sc1, e, h⟩ := h
    injection e with e
    simp only [Array.mk.injEq, List.cons.injEq, and_true, Value.string.injEq, Value.slice.injEq, Value.int.injEq, true_and] at e
    obtain ⟨rfl, rfl, rfl, ⟨rfl, rfl, rfl⟩, ⟨rfl, rfl, rfl⟩, ⟨rfl, rfl, rfl⟩⟩ := e
    exact ⟨k', m', _, _, _, _, _, _, _, _, _, _, rfl, h⟩
theorem ClN.sp {base : Nat} {w w' : World} {a : Option Addr} {n : Nat} (h : ClN (OkN base w) w a n) (hs : Sp base w w') : ClN (OkN base w') w' a n := fun j hj => by
  obtain ⟨g, off, x, y, e, hg, hl, c0, c1⟩ := h j hj
  obtain ⟨x', d0⟩ := hs.int c0
  obtain ⟨y', d1⟩ := hs.int c1
  exact ⟨g, off, x', y', e, hg.sp hs, Nat.lt_of_lt_of_le hl hs.size, d0, d1⟩
theorem KdN.sp {base : Nat} {w w' : World} {P Q : Value → Prop} {a : Option Addr} {n : Nat} (h : KdN (OkN base w) w P a n) (hs : Sp base w w') (hq : ∀ k m k' m' nm ra rl rc ka kl kc sa sl sc, P (.agg #[.int .i64 k, .int .i64 m, .string nm, .slice ra rl rc, .slice ka kl kc, .slice sa sl sc]) → Q (.agg #[.int .i64 k', .int .i64 m', .string nm, .slice ra rl rc, .slice ka kl kc, .slice sa sl sc])) : KdN (OkN base w') w' Q a n := fun j hj => by
  obtain ⟨g, off, k, m, nm, ra, rl, rc, ka, kl, kc, sa, sl, sc, e, hg, hl, hp, c0, c1, c2, c3, c4, c5⟩ := h j hj
  obtain ⟨k', d0⟩ := hs.int c0
  obtain ⟨m', d1⟩ := hs.int c1
  exact ⟨g, off, k', m', nm, ra, rl, rc, ka, kl, kc, sa, sl, sc, e, hg.sp hs, Nat.lt_of_lt_of_le hl hs.size, hq _ _ _ _ _ _ _ _ _ _ _ _ _ _ hp, d0, d1, hs.str c2, hs.sl c3, hs.sl c4, hs.sl c5⟩
theorem SyN.sp {base : Nat} {w w' : World} {a : Option Addr} {n : Nat} (h : SyN (OkN base w) w a n) (hs : Sp base w w') : SyN (OkN base w') w' a n := fun j hj => by
  obtain ⟨g, off, fa, fl, fc, ka, kl, kc, e, hg, hl, c0, c1, l1, l2, hc, hk⟩ := h j hj
  exact ⟨g, off, fa, fl, fc, ka, kl, kc, e, hg.sp hs, Nat.lt_of_lt_of_le hl hs.size, hs.sl c0, hs.sl c1, l1, l2, hc.sp hs, hk.sp hs (fun _ _ _ _ _ _ _ _ _ _ _ _ _ _ _ => trivial)⟩
theorem Sh.sp {base : Nat} {w w' : World} (hs : Sp base w w') : ∀ (d : Nat) (v : Value), Sh (OkN base w) w d v → Sh (OkN base w') w' d v
  | 0, _, h => h
  | d + 1, v, h => by
    obtain ⟨k1, m1, nm1, ra1, rl1, rc1, ka1, kl1, kc1, sa1, sl1, sc1, e, l1, l2, l3, h1, h2, h3⟩ := h
    exact ⟨k1, m1, nm1, ra1, rl1, rc1, ka1, kl1, kc1, sa1, sl1, sc1, e, l1, l2, l3, h1.sp hs, h2.sp hs (fun _ _ _ _ _ _ _ _ _ _ _ _ _ _ hp => (Sh.sp hs d _ hp).any), h3.sp hs⟩
theorem ClRow.cln {ok : Nat → Prop} {w : World} {l : List C} {a : Option Addr} {n c : Nat} (h : ClRow ok w l (.slice a n c)) : ClN ok w a n := by
  obtain ⟨a', c', e, _, h⟩ := h
  cases e
  intro j hj
  obtain ⟨x, hx⟩ := someL hj
  obtain ⟨g, off, e, hg, hl, c0, c1⟩ := h j x hx
  exact ⟨g, off, _, _, e, hg, hl, c0, c1⟩
theorem KdT.kdn {ok : Nat → Prop} {w : World} {P : Value → Prop} {l : List Tm} {a : Option Addr} {n c : Nat} (h : KdT ok w (TmIn ok w) l (.slice a n c)) (hp : ∀ x ∈ l, ∀ v, TmIn ok w x v → P v) : KdN ok w P a n := by
  have e : n = l.length := by obtain ⟨a', c', e, _, h⟩ := h; cases e; rfl
  intro j hj
  obtain ⟨x, hx⟩ := someL (l := l) (k := j) (by omega)
  obtain ⟨g, off, ra, rc, ka, kc, sa, sc, e, hg, h6, ht⟩ := h.at hx
  exact ⟨g, off, _, _, _, ra, _, rc, ka, _, kc, sa, _, sc, e, hg, h6.lt, hp x (List.mem_of_getElem? hx) _ ht.value, h6.c0, h6.c1, h6.c2, h6.c3, h6.c4, h6.c5⟩
theorem sh_of {ok : Nat → Prop} {w : World} : ∀ (d : Nat) (t : Tm) (v : Value), TmIn ok w t v → blk t ≤ d → d ≤ 100000 → Sh ok w d v
  | 0, t, v, _, hd, _ => by have := blk_pos t; omega
  | d + 1, t, v, h, hd, hm => by
    obtain ⟨ra, rc, ka, kc, sa, sc, rfl, ht⟩ := h.form
    obtain ⟨l1, l2, l3, l4⟩ := blk_lens t
    refine ⟨_, _, _, ra, _, rc, ka, _, kc, sa, _, sc, rfl, by omega, by omega, by omega, ht.row.cln, ht.kids.kdn fun x hx v hv => sh_of d x v hv ?_ (by omega), ?_⟩
    · have := blk_kid hx; omega
    · intro j hj
      obtain ⟨b, hb⟩ := someL hj
      obtain ⟨g, off, fa, fc, ka1, kc1, e, hg, h2, hf, hk⟩ := ht.sys.at hb
      have := blk_br (List.mem_of_getElem? hb)
      have := blkL_len b.2
      refine ⟨g, off, fa, _, fc, ka1, _, kc1, e, hg, h2.lt, h2.c0, h2.c1, ?_, ?_, hf.cln, hk.kdn fun _ _ _ _ => trivial⟩
      · omega
      · omega
end Go.Proofs.Ytmaijbeghemkbaa
