/- Trees of any kind in memory: what they are, and what keeps them. -/
import Derived.Test.YtahnbigkdfmpbaaDoorLBase
import Derived.Test.YtahnbigkdfmpbaaDoorMMath
namespace Go.Proofs.YtahnbigkdfmpbaaDoor
open Go.RowKit
set_option linter.unusedVariables false
set_option linter.unusedSimpArgs false

/-- A row of names, in blocks ahead of n. -/
def NmS (n : Nat) (w : World) (ns : List Bs) (v : Value) : Prop :=
  ∃ a cap, v = .slice a ns.length cap ∧ ns.length ≤ cap ∧ ∀ (j : Nat) (x : Bs), ns[j]? = some x → ∃ g off, a = some ⟨g, off, none⟩ ∧ g < n ∧ w.cell? ⟨g, off + j, none⟩ = some (.string (bs x))
/-- A row of parts, of which P holds. -/
def KdP (n : Nat) (w : World) (P : Sx → Value → Prop) (kids : List Sx) (a : Option Addr) : Prop :=
  ∀ (j : Nat) (x : Sx), kids[j]? = some x → ∃ g off u0 u1 u2 u3 u4, a = some ⟨g, off, none⟩ ∧ g < n ∧ P x (.agg #[u0, u1, u2, u3, u4]) ∧ w.cell? ⟨g, off + j * 5, none⟩ = some u0 ∧ w.cell? ⟨g, off + j * 5 + 1, none⟩ = some u1 ∧ w.cell? ⟨g, off + j * 5 + 2, none⟩ = some u2 ∧ w.cell? ⟨g, off + j * 5 + 3, none⟩ = some u3 ∧ w.cell? ⟨g, off + j * 5 + 4, none⟩ = some u4
def SxCl (n : Nat) (w : World) (P : Sx → Value → Prop) : Prop :=
  ∀ (k : Int) (nm : Bs) (kids : List Sx) (ns : List Bs) (p : Int) (vn : Value) (a : Option Addr) (cap : Nat), NmS n w ns vn → KdP n w P kids a → P (.mk k nm kids ns p) (.agg #[.int .i64 k, .string (bs nm), .slice a kids.length cap, vn, .int .i64 p])
/-- A tree's value, its parts in blocks ahead of n. -/
def SxIn (n : Nat) (w : World) (t : Sx) (v : Value) : Prop := ∀ P : Sx → Value → Prop, SxCl n w P → P t v
theorem KdP.mono {n : Nat} {w : World} {P Q : Sx → Value → Prop} {kids : List Sx} {a : Option Addr} (h : KdP n w P kids a) (hq : ∀ x v, P x v → Q x v) : KdP n w Q kids a := by
  intro j x hx
  obtain ⟨g, off, u0, u1, u2, u3, u4, h1, h2, h3, h4⟩ := h j x hx
  exact ⟨g, off, u0, u1, u2, u3, u4, h1, h2, hq _ _ h3, h4⟩
theorem SxIn.mk {n : Nat} {w : World} (k : Int) (nm : Bs) (kids : List Sx) (ns : List Bs) (p : Int) (vn : Value) (a : Option Addr) (cap : Nat) (h1 : NmS n w ns vn) (h2 : KdP n w (SxIn n w) kids a) :
    SxIn n w (.mk k nm kids ns p) (.agg #[.int .i64 k, .string (bs nm), .slice a kids.length cap, vn, .int .i64 p]) :=
  fun P h => h k nm kids ns p vn a cap h1 (h2.mono fun x v hx => hx P h)
def SxTop (n : Nat) (w : World) (t : Sx) (v : Value) : Prop :=
  ∃ a cap na nc, v = .agg #[.int .i64 t.kind, .string (bs t.name), .slice a t.kids.length cap, .slice na t.names.length nc, .int .i64 t.at_] ∧ NmS n w t.names (.slice na t.names.length nc) ∧ KdP n w (SxIn n w) t.kids a
theorem SxIn.form {n : Nat} {w : World} {t : Sx} {v : Value} (h : SxIn n w t v) : SxTop n w t v := by
  have h2 := h (fun t v => SxIn n w t v ∧ SxTop n w t v) (fun k nm kids ns p vn a cap hn hk => by
    refine ⟨.mk k nm kids ns p vn a cap hn (hk.mono fun _ _ h => h.1), ?_⟩
    obtain ⟨na, nc, rfl, hn2⟩ := hn
    exact ⟨a, cap, na, nc, rfl, ⟨na, nc, rfl, hn2⟩, hk.mono fun _ _ h => h.1⟩)
  exact h2.2
theorem NmS.keep {n : Nat} {w w' : World} {ns : List Bs} {v : Value} (h : NmS n w ns v) (hb : Below n w w') : NmS n w' ns v := by
  obtain ⟨a, cap, rfl, hc, h⟩ := h
  refine ⟨a, cap, rfl, hc, fun j x hx => ?_⟩
  obtain ⟨g, off, h1, h2, h3⟩ := h j x hx
  exact ⟨g, off, h1, h2, (hb.cell (p := ⟨g, off + j, none⟩) h2).trans h3⟩
theorem KdP.keep {n : Nat} {w w' : World} {P : Sx → Value → Prop} {kids : List Sx} {a : Option Addr} (h : KdP n w P kids a) (hb : Below n w w') : KdP n w' P kids a := by
  intro j x hx
  obtain ⟨g, off, u0, u1, u2, u3, u4, h1, h2, h3, c0, c1, c2, c3, c4⟩ := h j x hx
  exact ⟨g, off, u0, u1, u2, u3, u4, h1, h2, h3, (hb.cell (p := ⟨g, off + j * 5, none⟩) h2).trans c0, (hb.cell (p := ⟨g, off + j * 5 + 1, none⟩) h2).trans c1, (hb.cell (p := ⟨g, off + j * 5 + 2, none⟩) h2).trans c2, (hb.cell (p := ⟨g, off + j * 5 + 3, none⟩) h2).trans c3, (hb.cell (p := ⟨g, off + j * 5 + 4, none⟩) h2).trans c4⟩
theorem SxIn.keep {n : Nat} {w w' : World} {t : Sx} {v : Value} (h : SxIn n w t v) (hb : Below n w w') : SxIn n w' t v :=
  h (SxIn n w') fun k nm kids ns p vn a cap hn hk => .mk k nm kids ns p vn a cap (hn.keep hb) (hk.keep hb)
theorem NmS.up {n m : Nat} {w : World} {ns : List Bs} {v : Value} (h : NmS n w ns v) (hm : n ≤ m) : NmS m w ns v := by
  obtain ⟨a, cap, rfl, hc, h⟩ := h
  refine ⟨a, cap, rfl, hc, fun j x hx => ?_⟩
  obtain ⟨g, off, h1, h2, h3⟩ := h j x hx
  exact ⟨g, off, h1, by omega, h3⟩
theorem KdP.up {n m : Nat} {w : World} {P : Sx → Value → Prop} {kids : List Sx} {a : Option Addr} (h : KdP n w P kids a) (hm : n ≤ m) : KdP m w P kids a := by
  intro j x hx
  obtain ⟨g, off, u0, u1, u2, u3, u4, h1, h2, h3, h4⟩ := h j x hx
  exact ⟨g, off, u0, u1, u2, u3, u4, h1, by omega, h3, h4⟩
theorem SxIn.up {n m : Nat} {w : World} {t : Sx} {v : Value} (h : SxIn n w t v) (hm : n ≤ m) : SxIn m w t v :=
  h (SxIn m w) fun k nm kids ns p vn a cap hn hk => .mk k nm kids ns p vn a cap (hn.up hm) (hk.up hm)
/-- A part's value, laid open. -/
theorem KdP.at {n : Nat} {w : World} {kids : List Sx} {a : Option Addr} (h : KdP n w (SxIn n w) kids a) {j : Nat} {x : Sx} (hx : kids[j]? = some x) :
    ∃ g off ka kc na nc, a = some ⟨g, off, none⟩ ∧ g < n ∧ SxIn n w x (.agg #[.int .i64 x.kind, .string (bs x.name), .slice ka x.kids.length kc, .slice na x.names.length nc, .int .i64 x.at_]) ∧
      w.cell? ⟨g, off + j * 5, none⟩ = some (.int .i64 x.kind) ∧ w.cell? ⟨g, off + j * 5 + 1, none⟩ = some (.string (bs x.name)) ∧ w.cell? ⟨g, off + j * 5 + 2, none⟩ = some (.slice ka x.kids.length kc) ∧ w.cell? ⟨g, off + j * 5 + 3, none⟩ = some (.slice na x.names.length nc) ∧ w.cell? ⟨g, off + j * 5 + 4, none⟩ = some (.int .i64 x.at_) := by
  obtain ⟨g, off, u0, u1, u2, u3, u4, h1, h2, h3, c0, c1, c2, c3, c4⟩ := h j x hx
  obtain ⟨ka, kc, na, nc, e, _, _⟩ := h3.form
  injection e with e
  simp only [Array.mk.injEq, List.cons.injEq, and_true] at e
  obtain ⟨rfl, rfl, rfl, rfl, rfl⟩ := e
  exact ⟨g, off, ka, kc, na, nc, h1, h2, h3, c0, c1, c2, c3, c4⟩
/-- A variable that holds a tree. -/
def Bx (w : World) (x : Nat) (v0 v1 v2 v3 v4 : Value) : Prop := w.heap[x]? = some (.cells #[v0, v1, v2, v3, v4] 25 (0, 0))
theorem bx_new (w : World) (v0 v1 v2 v3 v4 : Value) : Bx (w.alloc (.cells #[v0, v1, v2, v3, v4] 25)) w.heap.size v0 v1 v2 v3 v4 := heap_alloc_new w _
theorem Bx.lt {x : Nat} {w : World} {v0 v1 v2 v3 v4 : Value} (h : Bx w x v0 v1 v2 v3 v4) : x < w.heap.size := by
  rcases Nat.lt_or_ge x w.heap.size with h1 | h1
  · exact h1
  · unfold Bx at h; rw [Array.getElem?_eq_none h1] at h; cases h
theorem Bx.blw {x : Nat} {w w' : World} {v0 v1 v2 v3 v4 : Value} (h : Bx w x v0 v1 v2 v3 v4) (hb : Below w.heap.size w w') : Bx w' x v0 v1 v2 v3 v4 := (hb.block x h.lt).trans h
theorem Bx.cells {w : World} {x : Nat} {v0 v1 v2 v3 v4 : Value} (h : Bx w x v0 v1 v2 v3 v4) : w.cell? ⟨x, 0, none⟩ = some v0 ∧ w.cell? ⟨x, 1, none⟩ = some v1 ∧ w.cell? ⟨x, 2, none⟩ = some v2 ∧ w.cell? ⟨x, 3, none⟩ = some v3 ∧ w.cell? ⟨x, 4, none⟩ = some v4 := by
  unfold Bx at h
  refine ⟨?_, ?_, ?_, ?_, ?_⟩ <;> simp [World.cell?, h]
theorem someS {α : Type} {l : List α} {k : Nat} (h : k < l.length) : ∃ c, l[k]? = some c := ⟨l[k], List.getElem?_eq_getElem h⟩
theorem bs_beqS (a b : Bs) : ((bs a).toList == b) = decide (a = b) := by
  rw [Lib.toList_data, tl_def, tl_bs, Bool.eq_iff_iff]; simp
end Go.Proofs.YtahnbigkdfmpbaaDoor
