/- Term and Parse. -/
import Derived.Test.YtahnbigkdfmpbaaDoorPRules
import Derived.Test.YtahnbigkdfmpbaaDoorPCatch
import Derived.Test.YtahnbigkdfmpbaaDoorMMath
namespace Go.Proofs.YtahnbigkdfmpbaaDoor
open Go.RowKit
set_option linter.unusedVariables false
set_option linter.unusedSimpArgs false

set_option maxHeartbeats 1000000 in
theorem scan_huge (s : ByteArray) (w : World) (hs : s.size ≤ 4 * maxLen) (hT : Tabs w) :
    Calls Tryd.prog 24 #[.string s] w fun e w' => ∃ v, e = .returned (.tuple #[v, .int .i64 ((scanF (tl s)).2.1 : Nat), .int .i64 ((scanF (tl s)).2.2 : Nat)]) ∧ OwnsT 68 w' w.heap.size v (scanF (tl s)).1 ∧ Below w.heap.size w w' := by
  by_cases h : s.size ≤ maxLen
  · exact scan_any s w h hT
  · unfold maxLen at hs h
    rw [scanF_big (by omega)]
    have e1 : (65536 : Int) < (s.size : Int) := by omega
    go_enter Tryd.func24, Tryd.ntmps24
    go_wp2
    go_ret3
    exact ⟨_, rfl, owns_nil _ _ _, Below.refl _ _⟩
/-- The reader of a text that has tokens. -/
theorem rdr_wf {s : Bs} (h : (scanF s).2.2 = 0) (b g cap : Nat) (hc : (rdA s).length < cap) : (⟨b, g, cap, rdA s, s.length⟩ : Rdr).wf := by
  obtain ⟨h1, h2, h3, h4, h5, _⟩ := scan_form h
  refine ⟨by show (rdA s).length ≤ _; omega, h1, fun t ht => ?_, hc⟩
  obtain ⟨⟨k1, k2, k3⟩, k4⟩ := h3 t ht
  exact ⟨k1, by omega, k2, k3⟩
theorem single_nf {f : Nat} {s : Bs} (hf : 655364 ≤ f) (h : (scanF s).2.2 = 0) : NF (singleP s.length f (rdA s)) := by
  intro p hp
  rcases term_cases hf h with ⟨q, x, e1, hx, _⟩ | ⟨t, e1, _⟩
  · rw [e1] at hp; injection hp with h3; injection h3 with _ h2; omega
  · rw [e1] at hp; cases hp
theorem file_nf {f g : Nat} {s : Bs} (hf : 655364 ≤ f) (hg : 65537 ≤ g) (h : (scanF s).2.2 = 0) : NF (fileL s.length f g [] (rdA s)) := by
  intro p hp
  rcases file_cases hf hg h with ⟨q, x, e1, hx⟩ | ⟨t, e1⟩
  · rw [e1] at hp; injection hp with h3; injection h3 with _ h2; omega
  · rw [e1] at hp; cases hp
/-- Behind the last stores: what the variables of the results hold. -/
theorem fin_cells {W : World} {n : Nat} {a b c d u0 u1 u2 u3 u4 v0 v1 v2 v3 v4 : Value} (hn : Blk W n v0 v1 v2 v3 v4) (cp : W.cell? ⟨n + 1, 0, none⟩ = some a) (cq : W.cell? ⟨n + 1 + 1, 0, none⟩ = some b) :
    Blk (((pu5 W n u0 u1 u2 u3 u4).setCell ⟨n + 1, 0, none⟩ c).setCell ⟨n + 1 + 1, 0, none⟩ d) n u0 u1 u2 u3 u4 ∧ (((pu5 W n u0 u1 u2 u3 u4).setCell ⟨n + 1, 0, none⟩ c).setCell ⟨n + 1 + 1, 0, none⟩ d).cell? ⟨n + 1, 0, none⟩ = some c ∧ (((pu5 W n u0 u1 u2 u3 u4).setCell ⟨n + 1, 0, none⟩ c).setCell ⟨n + 1 + 1, 0, none⟩ d).cell? ⟨n + 1 + 1, 0, none⟩ = some d := by
  have h5 := blk_put W n v0 v1 v2 v3 v4 u0 u1 u2 u3 u4 hn
  have e1 : ∀ k, k ≠ n → (pu5 W n u0 u1 u2 u3 u4).cell? ⟨k, 0, none⟩ = W.cell? ⟨k, 0, none⟩ := fun k hk => World.cell?_of_block (w := W) (by
    show (pu5 W n u0 u1 u2 u3 u4).heap[k]? = _
    unfold pu5
    rw [heap_put hk, heap_put hk, heap_put hk, heap_put hk, heap_put hk])
  refine ⟨?_, ?_, ?_⟩
  · unfold Blk at h5 ⊢
    rw [heap_put (by omega), heap_put (by omega)]; exact h5
  · rw [World.cell?_setCell_other _ _ _ _ (by simp)]
    exact World.cell?_setCell_same _ _ _ ((e1 (n + 1) (by omega)).trans cp)
  · exact World.cell?_setCell_same _ _ _ ((World.cell?_setCell_other _ _ _ _ (by simp)).trans ((e1 (n + 1 + 1) (by omega)).trans cq))
theorem two_cells {W : World} {n : Nat} {a b c d v0 v1 v2 v3 v4 : Value} (hn : Blk W n v0 v1 v2 v3 v4) (cp : W.cell? ⟨n + 1, 0, none⟩ = some a) (cq : W.cell? ⟨n + 1 + 1, 0, none⟩ = some b) :
    Blk ((W.setCell ⟨n + 1, 0, none⟩ c).setCell ⟨n + 1 + 1, 0, none⟩ d) n v0 v1 v2 v3 v4 ∧ ((W.setCell ⟨n + 1, 0, none⟩ c).setCell ⟨n + 1 + 1, 0, none⟩ d).cell? ⟨n + 1, 0, none⟩ = some c ∧ ((W.setCell ⟨n + 1, 0, none⟩ c).setCell ⟨n + 1 + 1, 0, none⟩ d).cell? ⟨n + 1 + 1, 0, none⟩ = some d := by
  refine ⟨?_, ?_, ?_⟩
  · unfold Blk at hn ⊢
    rw [heap_put (by omega), heap_put (by omega)]; exact hn
  · rw [World.cell?_setCell_other _ _ _ _ (by simp)]
    exact World.cell?_setCell_same _ _ _ cp
  · exact World.cell?_setCell_same _ _ _ ((World.cell?_setCell_other _ _ _ _ (by simp)).trans cq)
theorem rdr_in {w3 : World} {g cap n : Nat} {A : Ts} (hg : g < w3.heap.size) (hc : CellsT w3 g 0 (A ++ [⟨0, [], n⟩])) (b : Nat) (hb : b = w3.heap.size) : (⟨b, g, cap, A, n⟩ : Rdr).In (w3.alloc (.cells #[.slice (some ⟨g, 0, none⟩) (A.length + 1) cap, .int .i64 0] 65)) A := by
  subst hb
  refine ⟨⟨hg, by show _ < _; simp⟩, new_cell _ _ _ _ 0 _ rfl rfl, ⟨[], rfl, new_cell _ _ _ _ 1 _ rfl rfl⟩, ?_, hc.below (below_alloc _ _) hg⟩
  simp [go_sem]
theorem cellsT_put {w : World} {g x i : Nat} {l : Ts} {u : Value} (h : CellsT w g 0 l) (hx : g ≠ x) : CellsT (w.setCell ⟨x, i, none⟩ u) g 0 l := fun j c hj =>
  have hb := heap_put (w := w) (x := x) (i := i) (u := u) hx
  ⟨(World.cell?_of_block (w := w) (a := ⟨g, 0 + j * 3, none⟩) hb).trans (h j c hj).1, (World.cell?_of_block (w := w) (a := ⟨g, 0 + j * 3 + 1, none⟩) hb).trans (h j c hj).2.1, (World.cell?_of_block (w := w) (a := ⟨g, 0 + j * 3 + 2, none⟩) hb).trans (h j c hj).2.2⟩
theorem mkf (fn : Fn) (first cap : Array Value) (w : World) : (Instr.makeFunc fn first cap).run Tryd.prog w = .ok (.func fn first cap) w := rfl
set_option maxRecDepth 100000 in
set_option maxHeartbeats 4000000 in
theorem readT_any (f : Nat) (hf : 655364 ≤ f) (hf2 : f ≤ 1000000) (s : ByteArray) (w : World) (hs : s.size ≤ 4 * maxLen) (hT : Tabs w) :
    Calls Tryd.prog 15 #[.string s, .func (.func 16) #[] #[]] w fun e w' => ∃ v, e = .returned (.tuple #[v, .int .i64 ((termA f (tl s)).2.1 : Nat), .int .i64 ((termA f (tl s)).2.2 : Nat)]) ∧ TrIn (From w.heap.size) w' (termA f (tl s)).1 v ∧ Below w.heap.size w w' := by
  obtain ⟨w1, hw1⟩ : ∃ w1, w1 = ((w.alloc (.cells #[.int .i64 0, .string ⟨#[]⟩, .slice none 0 0, .slice none 0 0, .int .i64 0] 25)).alloc (.cells #[.int .i64 0] 3)).alloc (.cells #[.int .i64 0] 28) := ⟨_, rfl⟩
  have hB1 : Below w.heap.size w w1 := by rw [hw1]; exact chain (chain (below_alloc _ _) (below_alloc _ _)) (below_alloc _ _)
  have c := scan_huge s w1 hs (hT.below hB1)
  have hmf := mkf
  have hh1 : Hole w1 w.heap.size := by rw [hw1]; exact ((hole_new w).blw (below_alloc _ _) (by simp)).blw (below_alloc _ _) (by simp; omega)
  have hsz : w1.heap.size = w.heap.size + 1 + 1 + 1 := by rw [hw1]; simp
  have cp : w1.cell? ⟨w.heap.size + 1, 0, none⟩ = some (.int .i64 0) := by rw [hw1]; simp [go_sem]
  have cq : w1.cell? ⟨w.heap.size + 1 + 1, 0, none⟩ = some (.int .i64 0) := by rw [hw1]; simp [go_sem]
  have zp : w1.frozen? ⟨w.heap.size + 1, 0, none⟩ = false := by rw [hw1]; simp [go_sem]
  have zq : w1.frozen? ⟨w.heap.size + 1 + 1, 0, none⟩ = false := by rw [hw1]; simp [go_sem]
  have Hw1 : Hid (_ = _) := hw1
  clear hw1
  by_cases h0 : (scanF (tl s)).2.2 = 0
  · obtain ⟨hl1, h2, h3, h4, h5, h6, h7⟩ := scan_form h0
    have hP0 := (scanF_ok h0).2.2.2
    have HA : Hid (termA f (tl s) = ansT (singleP (tl s).length f (rdA (tl s)))) := by show _ = _; unfold termA; rw [if_pos h0]
    rw [HA.out]
    rw [h0, hP0, h2] at c
    have hnf := single_nf hf h0
    have hwf := fun b g cap hc => rdr_wf h0 b g cap hc
    obtain ⟨A, hA⟩ : ∃ A, rdA (tl s) = A := ⟨_, rfl⟩
    obtain ⟨n, hn⟩ : ∃ n, (tl s).length = n := ⟨_, rfl⟩
    rw [hA, hn] at hnf c HA ⊢
    simp only [hA, hn] at hwf
    clear HA h0 h2 h3 h4 h5 h6 h7 hP0 hl1
    cases hq : singleP n f A using Rs.cs with
    | ok t R9 =>
      go_enter_defers Tryd.func15, Tryd.ntmps15
      go_wp2_with fail
      rw [← Hw1.out]
      refine c.mono ?_
      rintro e w2 ⟨v, rfl, hO, hb⟩
      clear c Hw1
      have hO' := hO
      obtain ⟨_, ⟨_, hx⟩ | ⟨g, cap, cur, rfl, hg, _, hcap, _⟩⟩ := hO
      · simp at hx
      have hcell := OwnsT.cells hO'
      have hgl : g < w2.heap.size := (World.ownsRow.lt hO' g rfl).2
      have hlen : (A ++ [(⟨0, [], n⟩ : Tok)]).length = A.length + 1 := by simp
      rw [hlen] at hcap ⊢
      clear hO'
      have hsz2 := hb.size
      have cp2 := (hb.cell (p := ⟨w.heap.size + 1, 0, none⟩) (show w.heap.size + 1 < w1.heap.size by omega)).trans cp
      have cq2 := (hb.cell (p := ⟨w.heap.size + 1 + 1, 0, none⟩) (show w.heap.size + 1 + 1 < w1.heap.size by omega)).trans cq
      have zp2 := (hb.frozen (p := ⟨w.heap.size + 1, 0, none⟩) (show w.heap.size + 1 < w1.heap.size by omega)).trans zp
      have zq2 := (hb.frozen (p := ⟨w.heap.size + 1 + 1, 0, none⟩) (show w.heap.size + 1 + 1 < w1.heap.size by omega)).trans zq
      have hh2 := hh1.blw hb (by omega)
      clear cp cq zp zq
      go_wp2_with fail
      obtain ⟨w3, hw3⟩ : ∃ w0, w0 = (w2.setCell ⟨w.heap.size + 1, 0, none⟩ (.int .i64 0)).setCell ⟨w.heap.size + 1 + 1, 0, none⟩ (.int .i64 0) := ⟨_, rfl⟩
      have hs3 : w3.heap.size = w2.heap.size := by rw [hw3, set_size, set_size]
      have hc3 : CellsT w3 g 0 (A ++ [⟨0, [], n⟩]) := by rw [hw3]; exact cellsT_put (cellsT_put hcell (by omega)) (by omega)
      have hB3 : Below w.heap.size w w3 := by rw [hw3]; exact ((hB1.trans (hb.mono (by omega))).setCell (show w.heap.size ≤ w.heap.size + 1 by omega) _).setCell (show w.heap.size ≤ w.heap.size + 1 + 1 by omega) _
      have hbl : Blk w3 w.heap.size (.int .i64 0) (.string ⟨#[]⟩) (.slice none 0 0) (.slice none 0 0) (.int .i64 0) ∧ w3.cell? ⟨w.heap.size + 1, 0, none⟩ = some (.int .i64 0) ∧ w3.cell? ⟨w.heap.size + 1 + 1, 0, none⟩ = some (.int .i64 0) := by rw [hw3]; exact two_cells hh2 cp2 cq2
      have zf : w3.frozen? ⟨w.heap.size + 1, 0, none⟩ = false ∧ w3.frozen? ⟨w.heap.size + 1 + 1, 0, none⟩ = false := by rw [hw3]; simp [zp2, zq2]
      rw [← hw3]
      clear hw3 cp2 cq2 zp2 zq2 hh2 hh1 hcell
      have hal := below_alloc w3 (.cells #[.slice (some ⟨g, 0, none⟩) (A.length + 1) cap, .int .i64 0] 65)
      have hI := rdr_in (cap := cap) (show g < w3.heap.size by omega) hc3 w2.heap.size hs3.symm
      have hW := hwf w2.heap.size g cap (by omega)
      have hn4 : (w3.alloc (.cells #[.slice (some ⟨g, 0, none⟩) (A.length + 1) cap, .int .i64 0] 65)).heap.size = w2.heap.size + 1 := by simp [hs3]
      obtain ⟨w4, hw4⟩ : ∃ w0, w0 = w3.alloc (.cells #[.slice (some ⟨g, 0, none⟩) (A.length + 1) cap, .int .i64 0] 65) := ⟨_, rfl⟩
      rw [← hw4] at hal hI hn4 ⊢
      clear hw4 hc3
      have cS := single_rule _ hW f hf2 A w4 hI hnf
      have hq' : singleP (Rdr.e ⟨w2.heap.size, g, cap, A, n⟩) f A = .ok t R9 := hq
      rw [hq'] at cS
      refine cS.mono ?_
      rintro e w5 ⟨v5, rfl, ht, _, hk5⟩
      clear cS
      have hkb : ∀ k, k < w2.heap.size → w5.heap[k]? = w3.heap[k]? := fun k hk => (hk5.block k (by omega) (by show k ≠ w2.heap.size; omega)).trans (hal.block k (by omega))
      have hbl5 : Blk w5 w.heap.size (.int .i64 0) (.string ⟨#[]⟩) (.slice none 0 0) (.slice none 0 0) (.int .i64 0) := (hkb _ (by omega)).trans hbl.1
      have cp5 := (World.cell?_of_block (w := w3) (a := ⟨w.heap.size + 1, 0, none⟩) (hkb _ (show w.heap.size + 1 < _ by omega))).trans hbl.2.1
      have cq5 := (World.cell?_of_block (w := w3) (a := ⟨w.heap.size + 1 + 1, 0, none⟩) (hkb _ (show w.heap.size + 1 + 1 < _ by omega))).trans hbl.2.2
      have zp5 := (World.frozen?_of_block (w := w3) (a := ⟨w.heap.size + 1, 0, none⟩) (hkb _ (show w.heap.size + 1 < _ by omega))).trans zf.1
      have zq5 := (World.frozen?_of_block (w := w3) (a := ⟨w.heap.size + 1 + 1, 0, none⟩) (hkb _ (show w.heap.size + 1 + 1 < _ by omega))).trans zf.2
      have hB5 : Below w.heap.size w w5 := ⟨hk5.os.trans (hal.os.trans hB3.os), hk5.tape.trans (hal.tape.trans hB3.tape), hk5.output.trans (hal.output.trans hB3.output), by have := hk5.size; have := hB3.size; omega, fun k hk => (hkb k (by omega)).trans (hB3.block k hk)⟩
      clear hkb hbl zf hal hI hW hk5 hB3 hB1
      obtain ⟨vk, vn, rfl, hf5, ka, kc, rfl⟩ := TrIn.form ht
      obtain ⟨na, nc, rfl⟩ := hf5.form
      clear hf5
      obtain ⟨i1, i2, i3⟩ := fin_cells (c := .int .i64 0) (d := .int .i64 0) (u0 := .int .i64 (t.kind : Nat)) (u1 := .string (bs t.name)) (u2 := .slice ka t.kids.length kc) (u3 := .slice na t.names.length nc) (u4 := .int .i64 (t.at_ : Nat)) hbl5 cp5 cq5
      obtain ⟨d0, d1, d2, d3, d4, _⟩ := i1.cells
      unfold pu5 at i2 i3 d0 d1 d2 d3 d4
      clear i1
      obtain ⟨o0, o1, o2, o3, o4, z0, z1, z2, z3, z4⟩ := hbl5.cells
      go_wp2_with fail
      refine leaves_cons (f := 25) (args := #[.pointer (some ⟨w.heap.size + 1, 0, none⟩), .pointer (some ⟨w.heap.size + 1 + 1, 0, none⟩)]) (by simp) (by simp [go_sem]) ?_
      refine (catchT_idle _ _ _).mono ?_
      rintro e u' w'' ⟨rfl, rfl, rfl⟩
      have q1 : w.heap.size ≤ w.heap.size + 1 := by omega
      have q2 : w.heap.size ≤ w.heap.size + 1 + 1 := by omega
      have q0 : w.heap.size ≤ w.heap.size := by omega
      have hlo : w.heap.size + 1 + 1 < w4.heap.size := by omega
      refine ⟨.tuple #[.agg #[.int .i64 (t.kind : Nat), .string (bs t.name), .slice ka t.kids.length kc, .slice na t.names.length nc, .int .i64 (t.at_ : Nat)], .int .i64 0, .int .i64 0], by simp only [results, Tryd.results15]; simp [go_sem, d0, d1, d2, d3, d4, i2, i3], _, rfl, TrIn.from (n := w4.heap.size) ((TrIn.put5 ht (by omega) _ _ _ _ _).put (by omega) _ |>.put (by omega) _) (by omega), (((((((hB5.setCell q0 _).setCell q0 _).setCell q0 _).setCell q0 _).setCell q0 _).setCell q1 _).setCell q2 _)⟩
    | bad pp xx =>
      go_enter_defers Tryd.func15, Tryd.ntmps15
      go_wp2_with fail
      rw [← Hw1.out]
      refine c.mono ?_
      rintro e w2 ⟨v, rfl, hO, hb⟩
      clear c Hw1
      have hO' := hO
      obtain ⟨_, ⟨_, hx⟩ | ⟨g, cap, cur, rfl, hg, _, hcap, _⟩⟩ := hO
      · simp at hx
      have hcell := OwnsT.cells hO'
      have hgl : g < w2.heap.size := (World.ownsRow.lt hO' g rfl).2
      have hlen : (A ++ [(⟨0, [], n⟩ : Tok)]).length = A.length + 1 := by simp
      rw [hlen] at hcap ⊢
      clear hO'
      have hsz2 := hb.size
      have cp2 := (hb.cell (p := ⟨w.heap.size + 1, 0, none⟩) (show w.heap.size + 1 < w1.heap.size by omega)).trans cp
      have cq2 := (hb.cell (p := ⟨w.heap.size + 1 + 1, 0, none⟩) (show w.heap.size + 1 + 1 < w1.heap.size by omega)).trans cq
      have zp2 := (hb.frozen (p := ⟨w.heap.size + 1, 0, none⟩) (show w.heap.size + 1 < w1.heap.size by omega)).trans zp
      have zq2 := (hb.frozen (p := ⟨w.heap.size + 1 + 1, 0, none⟩) (show w.heap.size + 1 + 1 < w1.heap.size by omega)).trans zq
      have hh2 := hh1.blw hb (by omega)
      clear cp cq zp zq
      go_wp2_with fail
      obtain ⟨w3, hw3⟩ : ∃ w0, w0 = (w2.setCell ⟨w.heap.size + 1, 0, none⟩ (.int .i64 0)).setCell ⟨w.heap.size + 1 + 1, 0, none⟩ (.int .i64 0) := ⟨_, rfl⟩
      have hs3 : w3.heap.size = w2.heap.size := by rw [hw3, set_size, set_size]
      have hc3 : CellsT w3 g 0 (A ++ [⟨0, [], n⟩]) := by rw [hw3]; exact cellsT_put (cellsT_put hcell (by omega)) (by omega)
      have hB3 : Below w.heap.size w w3 := by rw [hw3]; exact ((hB1.trans (hb.mono (by omega))).setCell (show w.heap.size ≤ w.heap.size + 1 by omega) _).setCell (show w.heap.size ≤ w.heap.size + 1 + 1 by omega) _
      have hbl : Blk w3 w.heap.size (.int .i64 0) (.string ⟨#[]⟩) (.slice none 0 0) (.slice none 0 0) (.int .i64 0) ∧ w3.cell? ⟨w.heap.size + 1, 0, none⟩ = some (.int .i64 0) ∧ w3.cell? ⟨w.heap.size + 1 + 1, 0, none⟩ = some (.int .i64 0) := by rw [hw3]; exact two_cells hh2 cp2 cq2
      have zf : w3.frozen? ⟨w.heap.size + 1, 0, none⟩ = false ∧ w3.frozen? ⟨w.heap.size + 1 + 1, 0, none⟩ = false := by rw [hw3]; simp [zp2, zq2]
      rw [← hw3]
      clear hw3 cp2 cq2 zp2 zq2 hh2 hh1 hcell
      have hal := below_alloc w3 (.cells #[.slice (some ⟨g, 0, none⟩) (A.length + 1) cap, .int .i64 0] 65)
      have hI := rdr_in (cap := cap) (show g < w3.heap.size by omega) hc3 w2.heap.size hs3.symm
      have hW := hwf w2.heap.size g cap (by omega)
      have hn4 : (w3.alloc (.cells #[.slice (some ⟨g, 0, none⟩) (A.length + 1) cap, .int .i64 0] 65)).heap.size = w2.heap.size + 1 := by simp [hs3]
      obtain ⟨w4, hw4⟩ : ∃ w0, w0 = w3.alloc (.cells #[.slice (some ⟨g, 0, none⟩) (A.length + 1) cap, .int .i64 0] 65) := ⟨_, rfl⟩
      rw [← hw4] at hal hI hn4 ⊢
      clear hw4 hc3
      have cS := single_rule _ hW f hf2 A w4 hI hnf
      have hq' : singleP (Rdr.e ⟨w2.heap.size, g, cap, A, n⟩) f A = .bad pp xx := hq
      rw [hq'] at cS
      refine cS.mono ?_
      rintro e w5 ⟨rfl, hb5⟩
      clear cS
      have hkb : ∀ k, k < w2.heap.size → w5.heap[k]? = w3.heap[k]? := fun k hk => (hb5.block k hk).trans (hal.block k (by omega))
      have hbl5 : Blk w5 w.heap.size (.int .i64 0) (.string ⟨#[]⟩) (.slice none 0 0) (.slice none 0 0) (.int .i64 0) := (hkb _ (by omega)).trans hbl.1
      have cp5 := (World.cell?_of_block (w := w3) (a := ⟨w.heap.size + 1, 0, none⟩) (hkb _ (show w.heap.size + 1 < _ by omega))).trans hbl.2.1
      have cq5 := (World.cell?_of_block (w := w3) (a := ⟨w.heap.size + 1 + 1, 0, none⟩) (hkb _ (show w.heap.size + 1 + 1 < _ by omega))).trans hbl.2.2
      have zp5 := (World.frozen?_of_block (w := w3) (a := ⟨w.heap.size + 1, 0, none⟩) (hkb _ (show w.heap.size + 1 < _ by omega))).trans zf.1
      have zq5 := (World.frozen?_of_block (w := w3) (a := ⟨w.heap.size + 1 + 1, 0, none⟩) (hkb _ (show w.heap.size + 1 + 1 < _ by omega))).trans zf.2
      have hsz5 := hb5.size
      have hB5 : Below w.heap.size w w5 := ⟨hb5.os.trans (hal.os.trans hB3.os), hb5.tape.trans (hal.tape.trans hB3.tape), hb5.output.trans (hal.output.trans hB3.output), by have := hB3.size; omega, fun k hk => (hkb k (by omega)).trans (hB3.block k hk)⟩
      clear hkb hbl zf hal hI hW hB3 hB1
      refine leaves_cons (f := 25) (args := #[.pointer (some ⟨w.heap.size + 1, 0, none⟩), .pointer (some ⟨w.heap.size + 1 + 1, 0, none⟩)]) (by simp) (by simp [go_sem]) ?_
      refine (catchT_panicking (w.heap.size + 1) (w.heap.size + 1 + 1) 0 0 (pp : Nat) (xx : Nat) [] w5 (by omega) (by omega) (by omega) cp5 cq5 zp5 zq5).mono ?_
      rintro e u' w6 ⟨rfl, rfl, h6⟩
      have hbl6 : Blk w6 w.heap.size (.int .i64 0) (.string ⟨#[]⟩) (.slice none 0 0) (.slice none 0 0) (.int .i64 0) := (h6.block _ (by omega) (by omega) (by omega)).trans hbl5
      obtain ⟨d0, d1, d2, d3, d4, _⟩ := hbl6.cells
      have i2 := h6.cp
      have i3 := h6.cq
      refine ⟨.tuple #[.agg #[.int .i64 0, .string ⟨#[]⟩, .slice none 0 0, .slice none 0 0, .int .i64 0], .int .i64 (pp : Nat), .int .i64 (xx : Nat)], by simp only [results, Tryd.results15]; simp [go_sem, d0, d1, d2, d3, d4, i2, i3], _, rfl, .leaf 0 [] [] 0 none 0 _ (.nil none 0), ⟨h6.os.trans hB5.os, h6.tape.trans hB5.tape, h6.output.trans hB5.output, Nat.le_trans hB5.size h6.size, fun k hk => (h6.block k (by omega) (by omega) (by omega)).trans (hB5.block k hk)⟩⟩
  · have HA : Hid (termA f (tl s) = (zeroTr, (scanF (tl s)).2)) := by show _ = _; unfold termA; rw [if_neg h0]
    rw [HA.out]
    generalize (scanF (tl s)).2.2 = E at *
    generalize (scanF (tl s)).2.1 = P at *
    have hE : ((E : Int) != 0) = true := by simp only [bne_iff_ne]; omega
    go_enter_defers Tryd.func15, Tryd.ntmps15
    go_wp2_with fail
    rw [← Hw1.out]
    refine c.mono ?_
    rintro e w2 ⟨v, rfl, _, hb⟩
    clear c Hw1
    have cp2 := (hb.cell (p := ⟨w.heap.size + 1, 0, none⟩) (show w.heap.size + 1 < w1.heap.size by omega)).trans cp
    have cq2 := (hb.cell (p := ⟨w.heap.size + 1 + 1, 0, none⟩) (show w.heap.size + 1 + 1 < w1.heap.size by omega)).trans cq
    have zp2 := (hb.frozen (p := ⟨w.heap.size + 1, 0, none⟩) (show w.heap.size + 1 < w1.heap.size by omega)).trans zp
    have zq2 := (hb.frozen (p := ⟨w.heap.size + 1 + 1, 0, none⟩) (show w.heap.size + 1 + 1 < w1.heap.size by omega)).trans zq
    have hh2 := hh1.blw hb (by omega)
    obtain ⟨o0, o1, o2, o3, o4, z0, z1, z2, z3, z4⟩ := hh2.cells
    clear cp cq zp zq
    go_wp2_with fail
    go_region
    go_wp2_with fail
    obtain ⟨j1, j2, j3⟩ := two_cells (c := .int .i64 (P : Nat)) (d := .int .i64 (E : Nat)) hh2 cp2 cq2
    obtain ⟨i1, i2, i3⟩ := fin_cells (c := .int .i64 (P : Nat)) (d := .int .i64 (E : Nat)) (u0 := .int .i64 0) (u1 := .string ⟨#[]⟩) (u2 := .slice none 0 0) (u3 := .slice none 0 0) (u4 := .int .i64 0) j1 j2 j3
    obtain ⟨d0, d1, d2, d3, d4, _⟩ := i1.cells
    unfold pu5 at i2 i3 d0 d1 d2 d3 d4
    clear j1 j2 j3 i1 hh2 hh1 o0 o1 o2 o3 o4 z0 z1 z2 z3 z4 cp2 cq2 zp2 zq2
    have q1 : w.heap.size ≤ w.heap.size + 1 := by omega
    have q2 : w.heap.size ≤ w.heap.size + 1 + 1 := by omega
    have q0 : w.heap.size ≤ w.heap.size := by omega
    have hB := hB1.trans (hb.mono (show w.heap.size ≤ w1.heap.size by omega))
    exact ⟨.tuple #[.agg #[.int .i64 0, .string ⟨#[]⟩, .slice none 0 0, .slice none 0 0, .int .i64 0], .int .i64 (P : Nat), .int .i64 (E : Nat)], by simp only [results, Tryd.results15]; simp [go_sem, d0, d1, d2, d3, d4, i2, i3], _, rfl, .leaf 0 [] [] 0 none 0 _ (.nil none 0), Below.drew (((((((((hB.setCell q1 _).setCell q2 _).setCell q0 _).setCell q0 _).setCell q0 _).setCell q0 _).setCell q0 _).setCell q1 _).setCell q2 _)⟩
end Go.Proofs.YtahnbigkdfmpbaaDoor
