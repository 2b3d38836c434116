/- How a rule of the reader ends. -/
import Derived.Test.YtahnbigkdfmpbaaDoorPTwo
namespace Go.Proofs.YtahnbigkdfmpbaaDoor
open Go.RowKit
set_option linter.unusedVariables false
set_option linter.unusedSimpArgs false

/-- A tree's variable: the block n holds these five. -/
def Blk (w : World) (n : Nat) (v0 v1 v2 v3 v4 : Value) : Prop := w.heap[n]? = some (.cells #[v0, v1, v2, v3, v4] 25 (0, 0))
abbrev Hole (w : World) (n : Nat) : Prop := Blk w n (.int .i64 0) (.string ⟨#[]⟩) (.slice none 0 0) (.slice none 0 0) (.int .i64 0)
theorem blk_new (w : World) (v0 v1 v2 v3 v4 : Value) : Blk (w.alloc (.cells #[v0, v1, v2, v3, v4] 25)) w.heap.size v0 v1 v2 v3 v4 := heap_alloc_new w _
theorem hole_new (w : World) : Hole (w.alloc (.cells #[.int .i64 0, .string ⟨#[]⟩, .slice none 0 0, .slice none 0 0, .int .i64 0] 25)) w.heap.size := heap_alloc_new w _
theorem Blk.kp {b n : Nat} {w w' : World} {v0 v1 v2 v3 v4 : Value} (h : Blk w n v0 v1 v2 v3 v4) (hk : Kp b w w') (hn : n < w.heap.size) (hb : b < n) : Blk w' n v0 v1 v2 v3 v4 := (hk.block n hn (by omega)).trans h
theorem Blk.blw {n : Nat} {w w' : World} {v0 v1 v2 v3 v4 : Value} (h : Blk w n v0 v1 v2 v3 v4) (hk : Below w.heap.size w w') (hn : n < w.heap.size) : Blk w' n v0 v1 v2 v3 v4 := (hk.block n hn).trans h
theorem Blk.lt {n : Nat} {w : World} {v0 v1 v2 v3 v4 : Value} (h : Blk w n v0 v1 v2 v3 v4) : n < w.heap.size := by
  unfold Blk at h
  rcases Nat.lt_or_ge n w.heap.size with h1 | h1
  · exact h1
  · rw [Array.getElem?_eq_none h1] at h; cases h
theorem Blk.cells {w : World} {n : Nat} {v0 v1 v2 v3 v4 : Value} (h : Blk w n v0 v1 v2 v3 v4) : w.cell? ⟨n, 0, none⟩ = some v0 ∧ w.cell? ⟨n, 1, none⟩ = some v1 ∧ w.cell? ⟨n, 2, none⟩ = some v2 ∧ w.cell? ⟨n, 3, none⟩ = some v3 ∧ w.cell? ⟨n, 4, none⟩ = some v4 ∧
    w.frozen? ⟨n, 0, none⟩ = false ∧ w.frozen? ⟨n, 1, none⟩ = false ∧ w.frozen? ⟨n, 2, none⟩ = false ∧ w.frozen? ⟨n, 3, none⟩ = false ∧ w.frozen? ⟨n, 4, none⟩ = false := by
  unfold Blk at h
  simp [World.cell?, World.frozen?, h]
def TrV (n : Nat) (t : Tr) (w' : World) (v : Value) : Prop := TrIn (From n) w' t v
/-- Not for want of fuel. -/
def NF {α : Type} (x : Rs α) : Prop := ∀ p, x ≠ .bad p 999
theorem NF.left {α β : Type} {x : Rs α} {k : α → Ts → Rs β} (h : NF (x.bnd k)) : NF x := fun p hp => h p (by rw [hp]; rfl)
theorem NF.right {α β : Type} {x : Rs α} {k : α → Ts → Rs β} {a : α} {R : Ts} (h : NF (x.bnd k)) (hx : x = .ok a R) : NF (k a R) := by subst hx; exact h
def RuleC (r : Rdr) (fid : FuncId) (P : Nat → Ts → Rs Tr) : Prop := ∀ (l : Nat) (R : Ts) (w : World), l ≤ 201 → r.In w R → NF (P l R) → Calls Tryd.prog fid #[r.ptr, .int .i64 (l : Nat)] w (Out r w (TrV w.heap.size) (P l R))
theorem cells_signs4 (w : World) (a b c d : Bs) (g : Nat) (hg : g = w.heap.size) : CellsS (w.alloc (.cells #[.string (bs a), .string (bs b), .string (bs c), .string (bs d)] 9)) g [a, b, c, d] := by
  intro j n hj
  refine new_cell _ _ _ _ j _ hg ?_
  match j, hj with
  | 0, hj => simp at hj; subst hj; rfl
  | 1, hj => simp at hj; subst hj; rfl
  | 2, hj => simp at hj; subst hj; rfl
  | 3, hj => simp at hj; subst hj; rfl
  | j + 4, hj => simp at hj
theorem Rdr.In.put {r : Rdr} {w : World} {R : Ts} {n i : Nat} (h : r.In w R) (hn : r.b < n) (u : Value) : r.In (w.setCell ⟨n, i, none⟩ u) R := by
  have hne : ∀ k, k ≤ r.b → (w.setCell ⟨n, i, none⟩ u).heap[k]? = w.heap[k]? := fun k hk => Below.heap_setCell _ _ _ _ (by simp; omega)
  have hBl : Below (r.b + 1) w (w.setCell ⟨n, i, none⟩ u) := ⟨rfl, rfl, rfl, by simp [World.setCell], fun k hk => hne k (by omega)⟩
  exact ⟨⟨h.lt.1, by simpa [World.setCell] using h.lt.2⟩, (hBl.cell (Nat.lt_succ_self _)).trans h.c0, let ⟨P, h1, h2⟩ := h.pre; ⟨P, h1, (hBl.cell (Nat.lt_succ_self _)).trans h2⟩, (hBl.frozen (Nat.lt_succ_self _)).trans h.fz, h.toks.below hBl (by have := h.lt; omega)⟩
theorem TrIn.put {lo : Nat} {w : World} {t : Tr} {v : Value} {n i : Nat} (h : TrIn (From lo) w t v) (hn : n < lo) (u : Value) : TrIn (From lo) (w.setCell ⟨n, i, none⟩ u) t v :=
  h.keep (by simp [World.setCell]) (fun _ h => h) (fun g h1 _ => Below.heap_setCell _ _ _ _ (by unfold From at h1; simp; omega))
theorem NmIn.put {lo : Nat} {w : World} {t : List Bs} {v : Value} {n i : Nat} (h : NmIn (From lo) w t v) (hn : n < lo) (u : Value) : NmIn (From lo) (w.setCell ⟨n, i, none⟩ u) t v :=
  h.keep (by simp [World.setCell]) (fun _ h => h) (fun g h1 _ => Below.heap_setCell _ _ _ _ (by unfold From at h1; simp; omega))
/-- Five values are put into a variable. -/
def pu5 (w : World) (n : Nat) (u0 u1 u2 u3 u4 : Value) : World := ((((w.setCell ⟨n, 0, none⟩ u0).setCell ⟨n, 1, none⟩ u1).setCell ⟨n, 2, none⟩ u2).setCell ⟨n, 3, none⟩ u3).setCell ⟨n, 4, none⟩ u4
theorem put5_size (w : World) (n : Nat) (u0 u1 u2 u3 u4 : Value) : (pu5 w n u0 u1 u2 u3 u4).heap.size = w.heap.size := by simp [pu5, World.setCell]
theorem Rdr.In.put5 {r : Rdr} {w : World} {R : Ts} {n : Nat} (h : r.In w R) (hn : r.b < n) (u0 u1 u2 u3 u4 : Value) : r.In (pu5 w n u0 u1 u2 u3 u4) R := ((((h.put hn _).put hn _).put hn _).put hn _).put hn _
theorem TrIn.put5 {lo : Nat} {w : World} {t : Tr} {v : Value} {n : Nat} (h : TrIn (From lo) w t v) (hn : n < lo) (u0 u1 u2 u3 u4 : Value) : TrIn (From lo) (pu5 w n u0 u1 u2 u3 u4) t v := ((((h.put hn _).put hn _).put hn _).put hn _).put hn _
theorem NmIn.put5 {lo : Nat} {w : World} {t : List Bs} {v : Value} {n : Nat} (h : NmIn (From lo) w t v) (hn : n < lo) (u0 u1 u2 u3 u4 : Value) : NmIn (From lo) (pu5 w n u0 u1 u2 u3 u4) t v := ((((h.put hn _).put hn _).put hn _).put hn _).put hn _
theorem Kp.put5 {b n : Nat} {w1 w : World} (h : Kp b w1 w) (hn : w1.heap.size ≤ n) (u0 u1 u2 u3 u4 : Value) : Kp b w1 (pu5 w n u0 u1 u2 u3 u4) :=
  ((((h.setCell (.inr hn) _).setCell (.inr hn) _).setCell (.inr hn) _).setCell (.inr hn) _).setCell (.inr hn) _
/-- A rule ends: its tree is put into the variable of its result. -/
theorem rule_end {r : Rdr} {w w1 w9 : World} {n : Nat} {t : Tr} {v : Value} {R : Ts} {X : Rs Tr} (hX : X = .ok t R) (hB1 : Below w.heap.size w w1) (hn : n = w.heap.size) (hn1 : n < w1.heap.size) (hI : r.In w9 R) (hlt : r.b < n) (hK : Kp r.b w1 w9) (ht : TrIn (From w1.heap.size) w9 t v) (u0 u1 u2 u3 u4 : Value) :
    Out r w (TrV w.heap.size) X (.returned v) (pu5 w9 n u0 u1 u2 u3 u4) := by
  subst hn
  exact Out.ok_of hX ((ht.put5 hn1 _ _ _ _ _).from (Nat.le_of_lt hn1)) (hI.put5 hlt _ _ _ _ _) (((Kp.of_below hB1).trans hK).put5 (Nat.le_refl _) _ _ _ _ _)
theorem rule_one {r : Rdr} {w w1 w9 : World} {n : Nat} {k : Nat} {nm : Bs} {ns : List Bs} {p : Nat} {a : Tr} {vn a0 a1 a2 a3 a4 : Value} {R : Ts} {X : Rs Tr} (hX : X = .ok (.mk k nm [a] ns p) R) (hB1 : Below w.heap.size w w1) (hn : n = w.heap.size) (hn1 : n < w1.heap.size) (hI : r.In w9 R) (hlt : r.b < n) (hK : Kp r.b w1 w9)
    (ha : TrIn (From w1.heap.size) w9 a (.agg #[a0, a1, a2, a3, a4])) (hm : NmIn (From w1.heap.size) w9 ns vn) (u0 u1 u2 u3 u4 : Value) :
    Out r w (TrV w.heap.size) X (.returned (.agg #[.int .i64 (k : Nat), .string (bs nm), .slice (some ⟨w9.heap.size, 0, none⟩) 1 1, vn, .int .i64 (p : Nat)])) (pu5 (w9.alloc (.cells #[a0, a1, a2, a3, a4] 25)) n u0 u1 u2 u3 u4) := by
  have hal := below_alloc w9 (.cells #[a0, a1, a2, a3, a4] 25)
  exact rule_end hX hB1 hn hn1 (hI.below hal) hlt (hK.alloc _) (TrIn.one k nm ns p (ha.blw hal) (hm.blw hal) hK.size (by simp) (fun j x hj => new_cell _ _ _ _ j x rfl hj)) u0 u1 u2 u3 u4
theorem rule_two {r : Rdr} {w w1 w9 : World} {n : Nat} {k : Nat} {nm : Bs} {ns : List Bs} {p : Nat} {a b : Tr} {vn a0 a1 a2 a3 a4 b0 b1 b2 b3 b4 : Value} {R : Ts} {X : Rs Tr} (hX : X = .ok (.mk k nm [a, b] ns p) R) (hB1 : Below w.heap.size w w1) (hn : n = w.heap.size) (hn1 : n < w1.heap.size) (hI : r.In w9 R) (hlt : r.b < n) (hK : Kp r.b w1 w9)
    (ha : TrIn (From w1.heap.size) w9 a (.agg #[a0, a1, a2, a3, a4])) (hb : TrIn (From w1.heap.size) w9 b (.agg #[b0, b1, b2, b3, b4])) (hm : NmIn (From w1.heap.size) w9 ns vn) (u0 u1 u2 u3 u4 : Value) :
    Out r w (TrV w.heap.size) X (.returned (.agg #[.int .i64 (k : Nat), .string (bs nm), .slice (some ⟨w9.heap.size, 0, none⟩) 2 2, vn, .int .i64 (p : Nat)])) (pu5 (w9.alloc (.cells #[a0, a1, a2, a3, a4, b0, b1, b2, b3, b4] 25)) n u0 u1 u2 u3 u4) := by
  have hal := below_alloc w9 (.cells #[a0, a1, a2, a3, a4, b0, b1, b2, b3, b4] 25)
  exact rule_end hX hB1 hn hn1 (hI.below hal) hlt (hK.alloc _) (TrIn.pair k nm ns p (ha.blw hal) (hb.blw hal) (hm.blw hal) hK.size (by simp) (fun j x hj => new_cell _ _ _ _ j x rfl hj)) u0 u1 u2 u3 u4
theorem rule_bad {r : Rdr} {w w1 w8 w9 : World} {X : Rs Tr} {p x : Nat} {val : Tr → World → Value → Prop} (hX : X = .bad p x) (hB1 : Below w.heap.size w w1) (hK : Kp r.b w1 w8) (hlt : r.b < w.heap.size) (hb : Below r.b w8 w9) : Out r w val X (.panicked [flt p x]) w9 :=
  Out.bad_of hX (((hB1.mono (Nat.le_of_lt hlt)).trans (hK.below (Nat.le_trans (Nat.le_of_lt hlt) hB1.size))).trans hb)
theorem castS (l : Nat) : (((l + 1 : Nat)) : Int) = (l : Int) + 1 := by omega
theorem enterU_ok {e l : Nat} {S : List Bs} {R R' : Ts} {a : Unit} (h : enterU e l S R = .ok a R') : R' = R ∧ l ≤ 200 := by
  unfold enterU wrongP at h
  split at h
  · split at h
    · cases h
    · cases h; exact ⟨rfl, by omega⟩
  · cases h
end Go.Proofs.YtahnbigkdfmpbaaDoor
