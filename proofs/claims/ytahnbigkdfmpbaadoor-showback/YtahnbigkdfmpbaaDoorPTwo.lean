/- Trees of two parts, laid in memory. -/
import Derived.Test.YtahnbigkdfmpbaaDoorPPrimD
namespace Go.Proofs.YtahnbigkdfmpbaaDoor
open Go.RowKit
set_option linter.unusedVariables false
set_option linter.unusedSimpArgs false

theorem new_cell (W : World) (cs : Array Value) (ty : TypeId) (g j : Nat) (x : Value) (hg : g = W.heap.size) (h : cs.toList[j]? = some x) : (W.alloc (.cells cs ty)).cell? ⟨g, j, none⟩ = some x := by
  subst hg
  have h2 : cs[j]? = some x := by simpa using h
  simp [go_sem, h2]
theorem TrIn.pair {ok : Nat → Prop} {w : World} (k : Nat) (nm : Bs) (ns : List Bs) (p : Nat) {a b : Tr} {vn a0 a1 a2 a3 a4 b0 b1 b2 b3 b4 : Value} {g cap : Nat} (ha : TrIn ok w a (.agg #[a0, a1, a2, a3, a4])) (hb : TrIn ok w b (.agg #[b0, b1, b2, b3, b4])) (hn : NmIn ok w ns vn) (hok : ok g) (hg : g < w.heap.size)
    (hc : ∀ j x, [a0, a1, a2, a3, a4, b0, b1, b2, b3, b4][j]? = some x → w.cell? ⟨g, j, none⟩ = some x) :
    TrIn ok w (.mk k nm [a, b] ns p) (.agg #[.int .i64 (k : Nat), .string (bs nm), .slice (some ⟨g, 0, none⟩) 2 cap, vn, .int .i64 (p : Nat)]) := by
  refine .node k nm [a, b] ns p vn g 0 cap (fun j i => [a0, a1, a2, a3, a4, b0, b1, b2, b3, b4].getD (j * 5 + i) undef) (by simp) hn hok hg ?_ ?_
  · intro j hj i hi
    rw [Nat.zero_add]
    refine hc _ _ ?_
    have hlt : j * 5 + i < 10 := by simp at hj; omega
    rw [List.getD_eq_getElem?_getD, List.getElem?_eq_getElem (by simpa using hlt)]
    rfl
  · intro j kid hj
    match j, hj with
    | 0, hj => simp at hj; subst hj; exact ha
    | 1, hj => simp at hj; subst hj; exact hb
    | j + 2, hj => simp at hj
theorem TrIn.one {ok : Nat → Prop} {w : World} (k : Nat) (nm : Bs) (ns : List Bs) (p : Nat) {a : Tr} {vn a0 a1 a2 a3 a4 : Value} {g cap : Nat} (ha : TrIn ok w a (.agg #[a0, a1, a2, a3, a4])) (hn : NmIn ok w ns vn) (hok : ok g) (hg : g < w.heap.size)
    (hc : ∀ j x, [a0, a1, a2, a3, a4][j]? = some x → w.cell? ⟨g, j, none⟩ = some x) :
    TrIn ok w (.mk k nm [a] ns p) (.agg #[.int .i64 (k : Nat), .string (bs nm), .slice (some ⟨g, 0, none⟩) 1 cap, vn, .int .i64 (p : Nat)]) := by
  refine .node k nm [a] ns p vn g 0 cap (fun j i => [a0, a1, a2, a3, a4].getD (j * 5 + i) undef) (by simp) hn hok hg ?_ ?_
  · intro j hj i hi
    rw [Nat.zero_add]
    refine hc _ _ ?_
    have hlt : j * 5 + i < 5 := by simp at hj; omega
    rw [List.getD_eq_getElem?_getD, List.getElem?_eq_getElem (by simpa using hlt)]
    rfl
  · intro j kid hj
    match j, hj with
    | 0, hj => simp at hj; subst hj; exact ha
    | j + 1, hj => simp at hj
theorem two_end {ok : Nat → Prop} {w W : World} (k : Nat) (nm : Bs) (ns : List Bs) (p : Nat) {a b : Tr} {vn a0 a1 a2 a3 a4 b0 b1 b2 b3 b4 : Value} {g cap : Nat} (ha : TrIn ok w a (.agg #[a0, a1, a2, a3, a4])) (hb : TrIn ok w b (.agg #[b0, b1, b2, b3, b4])) (hn : NmIn ok w ns vn) (hB : Below w.heap.size w W) (hok : ok g) (hg : g < W.heap.size)
    (hc : ∀ j x, [a0, a1, a2, a3, a4, b0, b1, b2, b3, b4][j]? = some x → W.cell? ⟨g, j, none⟩ = some x) :
    TrIn ok W (.mk k nm [a, b] ns p) (.agg #[.int .i64 (k : Nat), .string (bs nm), .slice (some ⟨g, 0, none⟩) 2 cap, vn, .int .i64 (p : Nat)]) ∧ Below w.heap.size w W :=
  ⟨TrIn.pair k nm ns p (ha.blw hB) (hb.blw hB) (hn.blw hB) hok hg hc, hB⟩
theorem one_end {ok : Nat → Prop} {w W : World} (k : Nat) (nm : Bs) (ns : List Bs) (p : Nat) {a : Tr} {vn a0 a1 a2 a3 a4 : Value} {g cap : Nat} (ha : TrIn ok w a (.agg #[a0, a1, a2, a3, a4])) (hn : NmIn ok w ns vn) (hB : Below w.heap.size w W) (hok : ok g) (hg : g < W.heap.size)
    (hc : ∀ j x, [a0, a1, a2, a3, a4][j]? = some x → W.cell? ⟨g, j, none⟩ = some x) :
    TrIn ok W (.mk k nm [a] ns p) (.agg #[.int .i64 (k : Nat), .string (bs nm), .slice (some ⟨g, 0, none⟩) 1 cap, vn, .int .i64 (p : Nat)]) ∧ Below w.heap.size w W :=
  ⟨TrIn.one k nm ns p (ha.blw hB) (hn.blw hB) hok hg hc, hB⟩
set_option maxRecDepth 100000 in
set_option maxHeartbeats 4000000 in
theorem two_any (k : Nat) (a b : Tr) (va vb : Value) (ok : Nat → Prop) (w : World) (ha : TrIn ok w a va) (hb : TrIn ok w b vb) (hok : ∀ g, w.heap.size ≤ g → ok g) :
    Calls Tryd.prog 53 #[.int .i64 (k : Nat), va, vb] w fun e w' => ∃ v, e = .returned v ∧ TrIn ok w' (two k a b) v ∧ Below w.heap.size w w' := by
  obtain ⟨ak, an, rfl, hna, aka, akc, rfl⟩ := ha.form
  obtain ⟨bk, bn, rfl, hnb, bka, bkc, rfl⟩ := hb.form
  obtain ⟨ana, anc, rfl⟩ := hna.form
  obtain ⟨bna, bnc, rfl⟩ := hnb.form
  clear hna hnb
  go_enter Tryd.func53, Tryd.ntmps53
  go_wp2
  refine ⟨rfl, .agg #[.int .i64 (k : Nat), .string ⟨#[]⟩, .slice (some ⟨w.heap.size + 1 + 1 + 1, 0, none⟩) 2 2, .slice none 0 0, .int .i64 (a.at_ : Nat)], by simp [results, Tryd.results53, go_sem], _, rfl, two_end k [] [] a.at_ ha hb (.nil _ _) (chain (chain (chain (below_alloc _ _) (below_alloc _ _)) (below_alloc _ _)) (below_alloc _ _)) (hok _ (by omega)) (by simp) (fun j x hj => new_cell _ _ _ _ j x (by simp) hj)⟩
end Go.Proofs.YtahnbigkdfmpbaaDoor
