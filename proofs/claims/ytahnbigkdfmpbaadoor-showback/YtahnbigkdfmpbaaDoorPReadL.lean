/- Parse; Term. -/
import Derived.Test.YtahnbigkdfmpbaaDoorPRead
namespace Go.Proofs.YtahnbigkdfmpbaaDoor
open Go.RowKit
set_option linter.unusedVariables false
set_option linter.unusedSimpArgs false

/-- A slice of trees. -/
def LsIn (n : Nat) (w : World) (l : List Tr) (v : Value) : Prop := TrIn (From n) w (.mk 0 [] l [] 0) (.agg #[.int .i64 0, .string ⟨#[]⟩, v, .slice none 0 0, .int .i64 0]) ∧ ∃ a cap, v = .slice a l.length cap ∧ l.length ≤ cap
theorem KRow.ls {n x m : Nat} {w : World} {v : Value} {l : List Tr} (h : KRow n x w v l) (hm : m ≤ n) : LsIn m w l v := by
  refine ⟨TrIn.from (TrIn.fromB (h.tree 0 [] [] 0 (.nil none 0))) hm, ?_⟩
  obtain ⟨vals, ⟨_, ⟨rfl, h0⟩ | ⟨g, cap, cur, rfl, _, _, hcap, _⟩⟩, _⟩ := h
  · exact ⟨none, 0, by rw [h0], by omega⟩
  · exact ⟨_, cap, rfl, hcap⟩
theorem ls_nil (n : Nat) (w : World) : LsIn n w [] (.slice none 0 0) := ⟨.leaf 0 [] [] 0 none 0 _ (.nil none 0), none, 0, rfl, Nat.le_refl _⟩
theorem LsIn.form {n : Nat} {w : World} {l : List Tr} {v : Value} (h : LsIn n w l v) : ∃ a cap, v = .slice a l.length cap := by
  obtain ⟨_, a, cap, e, _⟩ := h
  exact ⟨a, cap, e⟩
theorem twoL_cells {W : World} {n : Nat} {a b c d : Value} (cp : W.cell? ⟨n, 0, none⟩ = some a) (cq : W.cell? ⟨n + 1, 0, none⟩ = some b) :
    ((W.setCell ⟨n, 0, none⟩ c).setCell ⟨n + 1, 0, none⟩ d).cell? ⟨n, 0, none⟩ = some c ∧ ((W.setCell ⟨n, 0, none⟩ c).setCell ⟨n + 1, 0, none⟩ d).cell? ⟨n + 1, 0, none⟩ = some d := by
  refine ⟨?_, ?_⟩
  · rw [World.cell?_setCell_other _ _ _ _ (by simp)]
    exact World.cell?_setCell_same _ _ _ cp
  · exact World.cell?_setCell_same _ _ _ ((World.cell?_setCell_other _ _ _ _ (by simp)).trans cq)
theorem TrIn.put' {lo n i : Nat} {w : World} {t : Tr} {v : Value} (h : TrIn (From lo) w t v) (hn : n < lo) (u : Value) : TrIn (From lo) (w.setCell ⟨n, i, none⟩ u) t v := h.put hn u
set_option maxRecDepth 100000 in
set_option maxHeartbeats 1000000 in
theorem term_any (f : Nat) (hf : 655364 ≤ f) (hf2 : f ≤ 1000000) (s : ByteArray) (w : World) (hs : s.size ≤ 4 * maxLen) (hT : Tabs w) :
    Calls Tryd.prog 7 #[.string s] w fun e w' => ∃ v, e = .returned (.tuple #[v, .int .i64 ((termA f (tl s)).2.1 : Nat), .int .i64 ((termA f (tl s)).2.2 : Nat)]) ∧ TrIn (From w.heap.size) w' (termA f (tl s)).1 v ∧ Below w.heap.size w w' := by
  have hal := below_alloc w (.cells #[.int .i64 0, .string ⟨#[]⟩, .slice none 0 0, .slice none 0 0, .int .i64 0] 25)
  have c := readT_any f hf hf2 s (w.alloc (.cells #[.int .i64 0, .string ⟨#[]⟩, .slice none 0 0, .slice none 0 0, .int .i64 0] 25)) hs (hT.below hal)
  have hh := hole_new w
  generalize termA f (tl s) = Z at *
  go_enter Tryd.func7, Tryd.ntmps7
  go_wp2_with fail
  refine c.mono ?_
  rintro e w2 ⟨v, rfl, ht, hb⟩
  clear c
  have hsz : (w.alloc (.cells #[.int .i64 0, .string ⟨#[]⟩, .slice none 0 0, .slice none 0 0, .int .i64 0] 25)).heap.size = w.heap.size + 1 := by simp
  rw [hsz] at ht
  have hh2 := hh.blw hb (by omega)
  obtain ⟨vk, vn, rfl, hf5, ka, kc, rfl⟩ := TrIn.form ht
  obtain ⟨na, nc, rfl⟩ := hf5.form
  clear hf5
  obtain ⟨o0, o1, o2, o3, o4, z0, z1, z2, z3, z4⟩ := hh2.cells
  go_wp2_with fail
  have i1 := blk_put w2 w.heap.size _ _ _ _ _ (.int .i64 (Z.1.kind : Nat)) (.string (bs Z.1.name)) (.slice ka Z.1.kids.length kc) (.slice na Z.1.names.length nc) (.int .i64 (Z.1.at_ : Nat)) hh2
  obtain ⟨d0, d1, d2, d3, d4, _⟩ := i1.cells
  unfold pu5 at d0 d1 d2 d3 d4
  have q0 : w.heap.size ≤ w.heap.size := Nat.le_refl _
  have hB := chain hal hb
  exact ⟨rfl, .tuple #[.agg #[.int .i64 (Z.1.kind : Nat), .string (bs Z.1.name), .slice ka Z.1.kids.length kc, .slice na Z.1.names.length nc, .int .i64 (Z.1.at_ : Nat)], .int .i64 (Z.2.1 : Nat), .int .i64 (Z.2.2 : Nat)], by simp only [results, Tryd.results7]; simp [go_sem, d0, d1, d2, d3, d4], _, rfl, TrIn.from (n := w.heap.size + 1) (TrIn.put5 ht (by omega) _ _ _ _ _) (by omega), ((((hB.setCell q0 _).setCell q0 _).setCell q0 _).setCell q0 _).setCell q0 _⟩
end Go.Proofs.YtahnbigkdfmpbaaDoor
