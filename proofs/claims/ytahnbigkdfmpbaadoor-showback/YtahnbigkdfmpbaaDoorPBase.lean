/- The reader and trees in memory: what they are, and what keeps them. -/
import Derived.Test.YtahnbigkdfmpbaaDoorMScan
import Derived.Test.YtahnbigkdfmpbaaDoorMMath
namespace Go.Proofs.YtahnbigkdfmpbaaDoor
open Go.RowKit
set_option linter.unusedVariables false
set_option linter.unusedSimpArgs false

theorem Tryd.infoTree : (Tryd.prog.info? 25).map (fun i => (i.zero, i.size, i.bytes)) = some (some (.agg #[.int .i64 0, .string ByteArray.empty, .slice none 0 0, .slice none 0 0, .int .i64 0]), 5, 80) := by kernel_rfl
theorem Tryd.infoStr : (Tryd.prog.info? 9).map (fun i => (i.zero, i.size, i.bytes)) = some (some (.string ByteArray.empty), 1, 16) := by kernel_rfl

/-- All blocks are as they were, but for b. -/
structure Kp (b : Nat) (w w' : World) : Prop where
  os : w'.os = w.os
  tape : w'.tape = w.tape
  output : w'.output = w.output
  size : w.heap.size ≤ w'.heap.size
  block : ∀ k, k < w.heap.size → k ≠ b → w'.heap[k]? = w.heap[k]?
theorem Kp.refl (b : Nat) (w : World) : Kp b w w := ⟨rfl, rfl, rfl, Nat.le_refl _, fun _ _ _ => rfl⟩
theorem Kp.trans {b : Nat} {w1 w2 w3 : World} (h : Kp b w1 w2) (k : Kp b w2 w3) : Kp b w1 w3 :=
  ⟨k.os.trans h.os, k.tape.trans h.tape, k.output.trans h.output, Nat.le_trans h.size k.size, fun i hi hb => (k.block i (Nat.lt_of_lt_of_le hi h.size) hb).trans (h.block i hi hb)⟩
theorem Kp.of_below {b : Nat} {w w' : World} (h : Below w.heap.size w w') : Kp b w w' := ⟨h.os, h.tape, h.output, h.size, fun k hk _ => h.block k hk⟩
theorem Kp.alloc {b : Nat} {w1 w : World} (h : Kp b w1 w) (o : Obj) : Kp b w1 (w.alloc o) := h.trans (Kp.of_below (below_alloc w o))
theorem Kp.drew {b : Nat} {w1 w : World} (h : Kp b w1 w) : Kp b w1 w.drew := ⟨h.os, h.tape, h.output, h.size, h.block⟩
/-- A store into b, or into a block that came behind. -/
theorem Kp.setCell {b : Nat} {w1 w : World} (h : Kp b w1 w) {p : Addr} (hp : p.block = b ∨ w1.heap.size ≤ p.block) (u : Value) : Kp b w1 (w.setCell p u) :=
  ⟨h.os, h.tape, h.output, by simpa [World.setCell] using h.size, fun k hk hb => (Below.heap_setCell _ _ _ _ (by omega)).trans (h.block k hk hb)⟩
theorem Kp.below {b : Nat} {w w' : World} (h : Kp b w w') (hb : b ≤ w.heap.size) : Below b w w' := ⟨h.os, h.tape, h.output, h.size, fun k hk => h.block k (by omega) (by omega)⟩
theorem Kp.cell {b : Nat} {w w' : World} (h : Kp b w w') {p : Addr} (hp : p.block < w.heap.size) (hb : p.block ≠ b) : w'.cell? p = w.cell? p := World.cell?_of_block (w := w) (h.block p.block hp hb)
theorem Kp.frozen {b : Nat} {w w' : World} (h : Kp b w w') {p : Addr} (hp : p.block < w.heap.size) (hb : p.block ≠ b) : w'.frozen? p = w.frozen? p := World.frozen?_of_block (w := w) (h.block p.block hp hb)

/-- A reader: its block, that of its tokens, the tokens ahead of the end, the place of the end. -/
structure Rdr where
  b : Nat
  g : Nat
  cap : Nat
  A : Ts
  e : Nat
def Rdr.all (r : Rdr) : Ts := r.A ++ [⟨0, [], r.e⟩]
/-- A token that is a name or a sign. -/
def OkT (t : Tok) : Prop := (t.kind = 1 ∨ t.kind = 2) ∧ t.at_ ≤ 65536 ∧ t.text ≠ [] ∧ (t.kind = 1 → ∃ c l, t.text = c :: l ∧ letterB c = true)
def Rdr.wf (r : Rdr) : Prop := r.A.length ≤ 65536 ∧ r.e ≤ 65536 ∧ (∀ t ∈ r.A, OkT t) ∧ r.A.length < r.cap
/-- The reader lies in memory, and R is left to be read. -/
structure Rdr.In (r : Rdr) (w : World) (R : Ts) : Prop where
  lt : r.g < r.b ∧ r.b < w.heap.size
  c0 : w.cell? ⟨r.b, 0, none⟩ = some (.slice (some ⟨r.g, 0, none⟩) (r.A.length + 1) r.cap)
  pre : ∃ P, r.A = P ++ R ∧ w.cell? ⟨r.b, 1, none⟩ = some (.int .i64 (P.length : Nat))
  fz : w.frozen? ⟨r.b, 1, none⟩ = false
  toks : CellsT w r.g 0 r.all
theorem Rdr.In.below {r : Rdr} {w w' : World} {R : Ts} (h : r.In w R) (hb : Below w.heap.size w w') : r.In w' R :=
  ⟨⟨h.lt.1, Nat.lt_of_lt_of_le h.lt.2 hb.size⟩, (hb.cell h.lt.2).trans h.c0, let ⟨P, h1, h2⟩ := h.pre; ⟨P, h1, (hb.cell h.lt.2).trans h2⟩, (hb.frozen h.lt.2).trans h.fz, h.toks.below hb (by have := h.lt; omega)⟩
/-- Behind a step that tells the reader's cells. -/
theorem Rdr.In.kp {r : Rdr} {w w1 w2 : World} {R R' : Ts} (h : r.In w R) (h1 : r.In w1 R') (hk : Kp r.b w w1) : r.In w1 R' := h1
theorem alloc_cell {w : World} {o : Obj} {p : Addr} (h : p.block < w.heap.size) : (w.alloc o).cell? p = w.cell? p := (below_alloc w o).cell h
/-- The reader passes a token. -/
theorem Rdr.In.pass {r : Rdr} {w : World} {t : Tok} {R : Ts} (h : r.In w (t :: R)) : ∃ n : Nat, w.cell? ⟨r.b, 1, none⟩ = some (.int .i64 n) ∧ n < r.A.length ∧ r.A[n]? = some t ∧ r.In (w.setCell ⟨r.b, 1, none⟩ (.int .i64 ((n : Int) + 1))) R := by
  obtain ⟨P, h1, h2⟩ := h.pre
  refine ⟨P.length, h2, by rw [h1]; simp, by rw [h1]; simp, ⟨h.lt.1, by simpa [World.setCell] using h.lt.2⟩, ?_, ⟨P ++ [t], by simp [h1], ?_⟩, ?_, ?_⟩
  · rw [World.cell?_setCell_other _ _ _ _ (by simp)]; exact h.c0
  · have := World.cell?_setCell_same w ⟨r.b, 1, none⟩ (.int .i64 ((P.length : Int) + 1)) h2
    simpa using this
  · rw [World.frozen?_setCell]; exact h.fz
  · intro j c hj
    have hne : r.g ≠ r.b := by have := h.lt; omega
    obtain ⟨a, b, c⟩ := h.toks j c hj
    refine ⟨?_, ?_, ?_⟩
    · rw [World.cell?_setCell_other _ _ _ _ (fun hx => hne (congrArg Addr.block hx).symm)]; exact a
    · rw [World.cell?_setCell_other _ _ _ _ (fun hx => hne (congrArg Addr.block hx).symm)]; exact b
    · rw [World.cell?_setCell_other _ _ _ _ (fun hx => hne (congrArg Addr.block hx).symm)]; exact c

/-! ### trees -/
/-- A row of names. -/
def NmIn (ok : Nat → Prop) (w : World) (ns : List Bs) (v : Value) : Prop :=
  (∃ a cap, ns = [] ∧ v = .slice a 0 cap) ∨
  (∃ g off cap, (ns.length ≤ 3000000 ∧ ns.length ≤ cap) ∧ ok g ∧ g < w.heap.size ∧ (∀ j n, ns[j]? = some n → w.cell? ⟨g, off + j, none⟩ = some (.string (bs n))) ∧ v = .slice (some ⟨g, off, none⟩) ns.length cap)
theorem NmIn.nil {ok : Nat → Prop} {w : World} (a : Option Addr) (cap : Nat) : NmIn ok w [] (.slice a 0 cap) := .inl ⟨a, cap, rfl, rfl⟩
theorem NmIn.row {ok : Nat → Prop} {w : World} (ns : List Bs) (g off cap : Nat) (hL : ns.length ≤ 3000000 ∧ ns.length ≤ cap) (hok : ok g) (hg : g < w.heap.size) (hc : ∀ j n, ns[j]? = some n → w.cell? ⟨g, off + j, none⟩ = some (.string (bs n))) : NmIn ok w ns (.slice (some ⟨g, off, none⟩) ns.length cap) :=
  .inr ⟨g, off, cap, hL, hok, hg, hc, rfl⟩
def agg5 (u : Nat → Value) : Value := .agg #[u 0, u 1, u 2, u 3, u 4]
/-- A tree's value: its parts lie in blocks that are 'ok'. -/
structure TrCl (ok : Nat → Prop) (w : World) (P : Tr → Value → Prop) : Prop where
  leaf : ∀ (k : Nat) (nm : Bs) (ns : List Bs) (p : Nat) (a : Option Addr) (cap : Nat) (vn : Value) (hn : NmIn ok w ns vn), P (.mk k nm [] ns p) (.agg #[.int .i64 (k : Nat), .string (bs nm), .slice a 0 cap, vn, .int .i64 (p : Nat)])
  node : ∀ (k : Nat) (nm : Bs) (kids : List Tr) (ns : List Bs) (p : Nat) (vn : Value) (g off cap : Nat) (U : Nat → Nat → Value) (hL : kids.length ≤ 3000000) (hn : NmIn ok w ns vn) (hok : ok g) (hg : g < w.heap.size)
      (hc : ∀ j, j < kids.length → ∀ i, i < 5 → w.cell? ⟨g, off + j * 5 + i, none⟩ = some (U j i)) (hk : ∀ j kid, kids[j]? = some kid → P kid (agg5 (U j))),
      P (.mk k nm kids ns p) (.agg #[.int .i64 (k : Nat), .string (bs nm), .slice (some ⟨g, off, none⟩) kids.length cap, vn, .int .i64 (p : Nat)])
def TrIn (ok : Nat → Prop) (w : World) (t : Tr) (v : Value) : Prop := ∀ P : Tr → Value → Prop, TrCl ok w P → P t v
theorem TrIn.leaf {ok : Nat → Prop} {w : World} (k : Nat) (nm : Bs) (ns : List Bs) (p : Nat) (a : Option Addr) (cap : Nat) (vn : Value) (hn : NmIn ok w ns vn) : TrIn ok w (.mk k nm [] ns p) (.agg #[.int .i64 (k : Nat), .string (bs nm), .slice a 0 cap, vn, .int .i64 (p : Nat)]) :=
  fun P h => h.leaf k nm ns p a cap vn hn
theorem TrIn.node {ok : Nat → Prop} {w : World} (k : Nat) (nm : Bs) (kids : List Tr) (ns : List Bs) (p : Nat) (vn : Value) (g off cap : Nat) (U : Nat → Nat → Value) (hL : kids.length ≤ 3000000) (hn : NmIn ok w ns vn) (hok : ok g) (hg : g < w.heap.size)
      (hc : ∀ j, j < kids.length → ∀ i, i < 5 → w.cell? ⟨g, off + j * 5 + i, none⟩ = some (U j i)) (hk : ∀ j kid, kids[j]? = some kid → TrIn ok w kid (agg5 (U j))) :
      TrIn ok w (.mk k nm kids ns p) (.agg #[.int .i64 (k : Nat), .string (bs nm), .slice (some ⟨g, off, none⟩) kids.length cap, vn, .int .i64 (p : Nat)]) :=
  fun P h => h.node k nm kids ns p vn g off cap U hL hn hok hg hc (fun j kid hj => hk j kid hj P h)
/-- A tree's value, by its last step. -/
def TrTop (ok : Nat → Prop) (w : World) (Q : Tr → Value → Prop) (t : Tr) (v : Value) : Prop :=
  (∃ (k : Nat) (nm : Bs) (ns : List Bs) (p : Nat) (a : Option Addr) (cap : Nat) (vn : Value), NmIn ok w ns vn ∧ t = .mk k nm [] ns p ∧ v = .agg #[.int .i64 (k : Nat), .string (bs nm), .slice a 0 cap, vn, .int .i64 (p : Nat)]) ∨
  (∃ (k : Nat) (nm : Bs) (kids : List Tr) (ns : List Bs) (p : Nat) (vn : Value) (g off cap : Nat) (U : Nat → Nat → Value), kids.length ≤ 3000000 ∧ NmIn ok w ns vn ∧ ok g ∧ g < w.heap.size ∧
      (∀ j, j < kids.length → ∀ i, i < 5 → w.cell? ⟨g, off + j * 5 + i, none⟩ = some (U j i)) ∧ (∀ j kid, kids[j]? = some kid → Q kid (agg5 (U j))) ∧
      t = .mk k nm kids ns p ∧ v = .agg #[.int .i64 (k : Nat), .string (bs nm), .slice (some ⟨g, off, none⟩) kids.length cap, vn, .int .i64 (p : Nat)])
theorem TrIn.inv {ok : Nat → Prop} {w : World} {t : Tr} {v : Value} (h : TrIn ok w t v) : TrTop ok w (TrIn ok w) t v := by
  have h2 := h (fun t v => TrIn ok w t v ∧ TrTop ok w (TrIn ok w) t v) ⟨fun k nm ns p a cap vn hn => ⟨.leaf k nm ns p a cap vn hn, .inl ⟨k, nm, ns, p, a, cap, vn, hn, rfl, rfl⟩⟩,
    fun k nm kids ns p vn g off cap U hL hn hok hg hc hk => ⟨.node k nm kids ns p vn g off cap U hL hn hok hg hc (fun j kid hj => (hk j kid hj).1), .inr ⟨k, nm, kids, ns, p, vn, g, off, cap, U, hL, hn, hok, hg, hc, fun j kid hj => (hk j kid hj).1, rfl, rfl⟩⟩⟩
  exact h2.2
theorem NmIn.keep {ok ok' : Nat → Prop} {w w' : World} {ns : List Bs} {v : Value} (h : NmIn ok w ns v) (hs : w.heap.size ≤ w'.heap.size) (ho : ∀ g, ok g → ok' g) (hb : ∀ g, ok g → g < w.heap.size → w'.heap[g]? = w.heap[g]?) : NmIn ok' w' ns v := by
  rcases h with ⟨a, cap, rfl, rfl⟩ | ⟨g, off, cap, hL, hok, hg, hc, rfl⟩
  · exact .nil a cap
  · exact .row _ g off cap hL (ho g hok) (Nat.lt_of_lt_of_le hg hs) (fun j n hj => (World.cell?_of_block (w := w) (a := ⟨g, off + j, none⟩) (hb g hok hg)).trans (hc j n hj))
theorem TrIn.keep {ok ok' : Nat → Prop} {w w' : World} {t : Tr} {v : Value} (h : TrIn ok w t v) (hs : w.heap.size ≤ w'.heap.size) (ho : ∀ g, ok g → ok' g) (hb : ∀ g, ok g → g < w.heap.size → w'.heap[g]? = w.heap[g]?) : TrIn ok' w' t v := by
  refine h (TrIn ok' w') ⟨fun k nm ns p a cap vn hn => .leaf k nm ns p a cap vn (hn.keep hs ho hb), fun k nm kids ns p vn g off cap U hL hn hok hg hc ih => ?_⟩
  exact .node k nm kids ns p vn g off cap U hL (hn.keep hs ho hb) (ho g hok) (Nat.lt_of_lt_of_le hg hs) (fun j hj i hi => (World.cell?_of_block (w := w) (a := ⟨g, off + j * 5 + i, none⟩) (hb g hok hg)).trans (hc j hj i hi)) ih
theorem TrIn.blw {ok : Nat → Prop} {w w' : World} {t : Tr} {v : Value} (h : TrIn ok w t v) (hb : Below w.heap.size w w') : TrIn ok w' t v := h.keep hb.size (fun _ h => h) (fun g _ hg => hb.block g hg)
/-- From a block on, but for none of the reader's. -/
def From (n : Nat) (g : Nat) : Prop := n ≤ g
theorem TrIn.kp {n b : Nat} {w w' : World} {t : Tr} {v : Value} (h : TrIn (From n) w t v) (hk : Kp b w w') (hb : b < n) : TrIn (From n) w' t v := h.keep hk.size (fun _ h => h) (fun g h1 h2 => hk.block g h2 (by unfold From at h1; omega))
theorem TrIn.from {n m : Nat} {w : World} {t : Tr} {v : Value} (h : TrIn (From n) w t v) (hn : m ≤ n) : TrIn (From m) w t v := h.keep (Nat.le_refl _) (fun _ h => Nat.le_trans hn h) (fun _ _ _ => rfl)
theorem NmIn.blw {ok : Nat → Prop} {w w' : World} {t : List Bs} {v : Value} (h : NmIn ok w t v) (hb : Below w.heap.size w w') : NmIn ok w' t v := h.keep hb.size (fun _ h => h) (fun g _ hg => hb.block g hg)
theorem NmIn.kp {n b : Nat} {w w' : World} {t : List Bs} {v : Value} (h : NmIn (From n) w t v) (hk : Kp b w w') (hb : b < n) : NmIn (From n) w' t v := h.keep hk.size (fun _ h => h) (fun g h1 h2 => hk.block g h2 (by unfold From at h1; omega))
/-- A tree's value, laid open. -/
theorem TrIn.form {ok : Nat → Prop} {w : World} {t : Tr} {v : Value} (h : TrIn ok w t v) : ∃ vk vn, v = .agg #[.int .i64 (t.kind : Nat), .string (bs t.name), vk, vn, .int .i64 (t.at_ : Nat)] ∧ NmIn ok w t.names vn ∧ (∃ a cap, vk = .slice a t.kids.length cap) := by
  rcases h.inv with ⟨k, nm, ns, p, a, cap, vn, hn, rfl, rfl⟩ | ⟨k, nm, kids, ns, p, vn, g, off, cap, U, hL, hn, hok, hg, hc, hk, rfl, rfl⟩
  · exact ⟨_, _, rfl, hn, a, cap, rfl⟩
  · exact ⟨_, _, rfl, hn, _, cap, rfl⟩
theorem NmIn.form {ok : Nat → Prop} {w : World} {ns : List Bs} {v : Value} (h : NmIn ok w ns v) : ∃ a cap, v = .slice a ns.length cap := by
  rcases h with ⟨a, cap, rfl, rfl⟩ | ⟨g, off, cap, hL, hok, hg, hc, rfl⟩
  · exact ⟨a, cap, rfl⟩
  · exact ⟨_, cap, rfl⟩
end Go.Proofs.YtahnbigkdfmpbaaDoor
