/- Parse; Term. -/
import Derived.Test.YtekcpglapkpenaaDoorPRead
namespace Go.Proofs.YtekcpglapkpenaaDoor
open Go.RowKit
set_option linter.unusedVariables false
set_option linter.unusedSimpArgs false

/-- A slice of trees. -/
def LsIn (n : Nat) (w : World) (l : List Tr) (v : Value) : Prop := TrIn (From n) w (.mk 0 [] l [] 0) (.agg #[.int .i64 0, .string ⟨#[]⟩, v, .slice none 0 0, .int .i64 0]) ∧ ∃ a cap, v = .slice a l.length cap ∧ l.length ≤ cap
theorem KRow.ls {n x m : Nat} {w : World} {v : Value} {l : List Tr} (h : KRow n x w v l) (hm : m ≤ n) : LsIn m w l v := by
  refine ⟨TrIn.from (TrIn.fromB (h.tree 0 [] [] 0 (.nil none 0))) hm, ?_⟩
  obtain ⟨vals, ⟨_, ⟨rfl, h0⟩ | ⟨g, cap, cur, rfl, _, _, hcap, _⟩⟩, _⟩ := h
  · exact ⟨none, 0, by rw [h0], by omega⟩
  · exact ⟨_, cap, rfl, hcap⟩
theorem ls_nil (n : Nat) (w : World) : LsIn n w [] (.slice none 0 0) := ⟨.leaf 0 [] [] 0 none 0 _ (.nil none 0), none, 0, rfl, Nat.le_refl _⟩
theorem LsIn.form {n : Nat} {w : World} {l : List Tr} {v : Value} (h : LsIn n w l v) : ∃ a cap, v = .slice a l.length cap := by
  obtain ⟨_, a, cap, e, _⟩ := h
  exact ⟨a, cap, e⟩
theorem twoL_cells {W : World} {n : Nat} {a b c d : Value} (cp : W.cell? ⟨n, 0, none⟩ = some a) (cq : W.cell? ⟨n + 1, 0, none⟩ = some b) :
    ((W.setCell ⟨n, 0, none⟩ c).setCell ⟨n + 1, 0, none⟩ d).cell? ⟨n, 0, none⟩ = some c ∧ ((W.setCell ⟨n, 0, none⟩ c).setCell ⟨n + 1, 0, none⟩ d).cell? ⟨n + 1, 0, none⟩ = some d := by
  refine ⟨?_, ?_⟩
  · rw [World.cell?_setCell_other _ _ _ _ (by simp)]
    exact World.cell?_setCell_same _ _ _ cp
  · exact World.cell?_setCell_same _ _ _ ((World.cell?_setCell_other _ _ _ _ (by simp)).trans cq)
theorem TrIn.put' {lo n i : Nat} {w : World} {t : Tr} {v : Value} (h : TrIn (From lo) w t v) (hn : n < lo) (u : Value) : TrIn (From lo) (w.setCell ⟨n, i, none⟩ u) t v := h.put hn u
set_option maxRecDepth 100000 in
set_option maxHeartbeats 4000000 in
theorem readL_any (f gg : Nat) (hf : 655364 ≤ f) (hf2 : f ≤ 1000000) (hg1 : 65537 ≤ gg) (hg2 : gg ≤ 1000000) (s : ByteArray) (w : World) (hs : s.size ≤ 4 * maxLen) (hT : Tabs w) :
    Calls Tryd.prog 20 #[.string s, .func (.func 21) #[] #[]] w fun e w' => ∃ v, e = .returned (.tuple #[v, .int .i64 ((fileA f gg (tl s)).2.1 : Nat), .int .i64 ((fileA f gg (tl s)).2.2 : Nat)]) ∧ LsIn w.heap.size w' (fileA f gg (tl s)).1 v ∧ Below w.heap.size w w' := by
  obtain ⟨w1, hw1⟩ : ∃ w1, w1 = (w.alloc (.cells #[.int .i64 0] 3)).alloc (.cells #[.int .i64 0] 27) := ⟨_, rfl⟩
  have hB1 : Below w.heap.size w w1 := by rw [hw1]; exact chain (below_alloc _ _) (below_alloc _ _)
  have c := scan_huge s w1 hs (hT.below hB1)
  have hmf := mkf
  have hsz : w1.heap.size = w.heap.size + 1 + 1 := by rw [hw1]; simp
  have cp : w1.cell? ⟨w.heap.size, 0, none⟩ = some (.int .i64 0) := by rw [hw1]; simp [go_sem]
  have cq : w1.cell? ⟨w.heap.size + 1, 0, none⟩ = some (.int .i64 0) := by rw [hw1]; simp [go_sem]
  have zp : w1.frozen? ⟨w.heap.size, 0, none⟩ = false := by rw [hw1]; simp [go_sem]
  have zq : w1.frozen? ⟨w.heap.size + 1, 0, none⟩ = false := by rw [hw1]; simp [go_sem]
  have Hw1 : Hid (_ = _) := hw1
  clear hw1
  have q0 : w.heap.size ≤ w.heap.size := by omega
  have q1 : w.heap.size ≤ w.heap.size + 1 := by omega
  by_cases h0 : (scanF (tl s)).2.2 = 0
  · obtain ⟨hl1, h2, h3, h4, h5, h6, h7⟩ := scan_form h0
    have hP0 := (scanF_ok h0).2.2.2
    have HA : Hid (fileA f gg (tl s) = ansL (fileL (tl s).length f gg [] (rdA (tl s)))) := by show _ = _; unfold fileA; rw [if_pos h0]
    rw [HA.out]
    rw [h0, hP0, h2] at c
    have hnf := file_nf hf hg1 h0
    have hwf := fun b g cap hc => rdr_wf h0 b g cap hc
    obtain ⟨A, hA⟩ : ∃ A, rdA (tl s) = A := ⟨_, rfl⟩
    obtain ⟨n, hn⟩ : ∃ n, (tl s).length = n := ⟨_, rfl⟩
    rw [hA, hn] at hnf c HA ⊢
    simp only [hA, hn] at hwf
    clear HA h0 h2 h3 h4 h5 h6 h7 hP0 hl1
    cases hq : fileL n f gg [] A using Rs.cs with
    | ok t R9 =>
      go_enter_defers Tryd.func20, Tryd.ntmps20
      go_wp2_with fail
      rw [← Hw1.out]
      refine c.mono ?_
      rintro e w2 ⟨v, rfl, hO, hb⟩
      clear c Hw1
      have hO' := hO
      obtain ⟨_, ⟨_, hx⟩ | ⟨g, cap, cur, rfl, hg, _, hcap, _⟩⟩ := hO
      · simp at hx
      have hcell := OwnsT.cells hO'
      have hgl : g < w2.heap.size := (World.ownsRow.lt hO' g rfl).2
      have hlen : (A ++ [(⟨0, [], n⟩ : Tok)]).length = A.length + 1 := by simp
      rw [hlen] at hcap ⊢
      clear hO'
      have hsz2 := hb.size
      have cp2 := (hb.cell (p := ⟨w.heap.size, 0, none⟩) (show w.heap.size < w1.heap.size by omega)).trans cp
      have cq2 := (hb.cell (p := ⟨w.heap.size + 1, 0, none⟩) (show w.heap.size + 1 < w1.heap.size by omega)).trans cq
      have zp2 := (hb.frozen (p := ⟨w.heap.size, 0, none⟩) (show w.heap.size < w1.heap.size by omega)).trans zp
      have zq2 := (hb.frozen (p := ⟨w.heap.size + 1, 0, none⟩) (show w.heap.size + 1 < w1.heap.size by omega)).trans zq
      clear cp cq zp zq
      go_wp2_with fail
      obtain ⟨w3, hw3⟩ : ∃ w0, w0 = (w2.setCell ⟨w.heap.size, 0, none⟩ (.int .i64 0)).setCell ⟨w.heap.size + 1, 0, none⟩ (.int .i64 0) := ⟨_, rfl⟩
      have hs3 : w3.heap.size = w2.heap.size := by rw [hw3, set_size, set_size]
      have hc3 : CellsT w3 g 0 (A ++ [⟨0, [], n⟩]) := by rw [hw3]; exact cellsT_put (cellsT_put hcell (by omega)) (by omega)
      have hB3 : Below w.heap.size w w3 := by rw [hw3]; exact ((hB1.trans (hb.mono (by omega))).setCell q0 _).setCell q1 _
      have hbl : w3.cell? ⟨w.heap.size, 0, none⟩ = some (.int .i64 0) ∧ w3.cell? ⟨w.heap.size + 1, 0, none⟩ = some (.int .i64 0) := by rw [hw3]; exact twoL_cells cp2 cq2
      have zf : w3.frozen? ⟨w.heap.size, 0, none⟩ = false ∧ w3.frozen? ⟨w.heap.size + 1, 0, none⟩ = false := by rw [hw3]; simp [zp2, zq2]
      rw [← hw3]
      clear hw3 cp2 cq2 zp2 zq2 hcell
      have hal := below_alloc w3 (.cells #[.slice (some ⟨g, 0, none⟩) (A.length + 1) cap, .int .i64 0] 75)
      have hI := rdr_in (cap := cap) (show g < w3.heap.size by omega) hc3 w2.heap.size hs3.symm
      have hW := hwf w2.heap.size g cap (by omega)
      have hn4 : (w3.alloc (.cells #[.slice (some ⟨g, 0, none⟩) (A.length + 1) cap, .int .i64 0] 75)).heap.size = w2.heap.size + 1 := by simp [hs3]
      obtain ⟨w4, hw4⟩ : ∃ w0, w0 = w3.alloc (.cells #[.slice (some ⟨g, 0, none⟩) (A.length + 1) cap, .int .i64 0] 75) := ⟨_, rfl⟩
      rw [← hw4] at hal hI hn4 ⊢
      clear hw4 hc3
      have cS := file_rule _ hW f gg hf2 hg2 A w4 hI hnf
      have hq' : fileL (Rdr.e ⟨w2.heap.size, g, cap, A, n⟩) f gg [] A = .ok t R9 := hq
      rw [hq'] at cS
      refine cS.mono ?_
      rintro e w5 ⟨v5, rfl, ht, _, hk5⟩
      clear cS
      have hkb : ∀ k, k < w2.heap.size → w5.heap[k]? = w3.heap[k]? := fun k hk => (hk5.block k (by omega) (by show k ≠ w2.heap.size; omega)).trans (hal.block k (by omega))
      have cp5 := (World.cell?_of_block (w := w3) (a := ⟨w.heap.size, 0, none⟩) (hkb _ (show w.heap.size < _ by omega))).trans hbl.1
      have cq5 := (World.cell?_of_block (w := w3) (a := ⟨w.heap.size + 1, 0, none⟩) (hkb _ (show w.heap.size + 1 < _ by omega))).trans hbl.2
      have zp5 := (World.frozen?_of_block (w := w3) (a := ⟨w.heap.size, 0, none⟩) (hkb _ (show w.heap.size < _ by omega))).trans zf.1
      have zq5 := (World.frozen?_of_block (w := w3) (a := ⟨w.heap.size + 1, 0, none⟩) (hkb _ (show w.heap.size + 1 < _ by omega))).trans zf.2
      have hB5 : Below w.heap.size w w5 := ⟨hk5.os.trans (hal.os.trans hB3.os), hk5.tape.trans (hal.tape.trans hB3.tape), hk5.output.trans (hal.output.trans hB3.output), by have := hk5.size; have := hB3.size; omega, fun k hk => (hkb k (by omega)).trans (hB3.block k hk)⟩
      clear hkb hbl zf hal hI hW hk5 hB3 hB1
      have hL : LsIn w4.heap.size w5 t v5 := KRow.ls ht (Nat.le_refl _)
      obtain ⟨hL, rA, rC, rfl, hCap⟩ := hL
      clear ht
      obtain ⟨i2, i3⟩ := twoL_cells (c := .int .i64 0) (d := .int .i64 0) cp5 cq5
      go_wp2_with fail
      refine leaves_cons (f := 35) (args := #[.pointer (some ⟨w.heap.size, 0, none⟩), .pointer (some ⟨w.heap.size + 1, 0, none⟩)]) (by simp) (by simp [go_sem]) ?_
      refine (catchL_idle _ _ _).mono ?_
      rintro e u' w'' ⟨rfl, rfl, rfl⟩
      have hlo : w.heap.size + 1 < w4.heap.size := by omega
      refine ⟨.tuple #[.slice rA t.length rC, .int .i64 0, .int .i64 0], by simp only [results, Tryd.results20]; simp [go_sem, i2, i3], _, rfl, ⟨TrIn.from (n := w4.heap.size) ((TrIn.put' hL (by omega) _).put (by omega) _) (by omega), rA, rC, rfl, hCap⟩, (hB5.setCell q0 _).setCell q1 _⟩
    | bad pp xx =>
      go_enter_defers Tryd.func20, Tryd.ntmps20
      go_wp2_with fail
      rw [← Hw1.out]
      refine c.mono ?_
      rintro e w2 ⟨v, rfl, hO, hb⟩
      clear c Hw1
      have hO' := hO
      obtain ⟨_, ⟨_, hx⟩ | ⟨g, cap, cur, rfl, hg, _, hcap, _⟩⟩ := hO
      · simp at hx
      have hcell := OwnsT.cells hO'
      have hgl : g < w2.heap.size := (World.ownsRow.lt hO' g rfl).2
      have hlen : (A ++ [(⟨0, [], n⟩ : Tok)]).length = A.length + 1 := by simp
      rw [hlen] at hcap ⊢
      clear hO'
      have hsz2 := hb.size
      have cp2 := (hb.cell (p := ⟨w.heap.size, 0, none⟩) (show w.heap.size < w1.heap.size by omega)).trans cp
      have cq2 := (hb.cell (p := ⟨w.heap.size + 1, 0, none⟩) (show w.heap.size + 1 < w1.heap.size by omega)).trans cq
      have zp2 := (hb.frozen (p := ⟨w.heap.size, 0, none⟩) (show w.heap.size < w1.heap.size by omega)).trans zp
      have zq2 := (hb.frozen (p := ⟨w.heap.size + 1, 0, none⟩) (show w.heap.size + 1 < w1.heap.size by omega)).trans zq
      clear cp cq zp zq
      go_wp2_with fail
      obtain ⟨w3, hw3⟩ : ∃ w0, w0 = (w2.setCell ⟨w.heap.size, 0, none⟩ (.int .i64 0)).setCell ⟨w.heap.size + 1, 0, none⟩ (.int .i64 0) := ⟨_, rfl⟩
      have hs3 : w3.heap.size = w2.heap.size := by rw [hw3, set_size, set_size]
      have hc3 : CellsT w3 g 0 (A ++ [⟨0, [], n⟩]) := by rw [hw3]; exact cellsT_put (cellsT_put hcell (by omega)) (by omega)
      have hB3 : Below w.heap.size w w3 := by rw [hw3]; exact ((hB1.trans (hb.mono (by omega))).setCell q0 _).setCell q1 _
      have hbl : w3.cell? ⟨w.heap.size, 0, none⟩ = some (.int .i64 0) ∧ w3.cell? ⟨w.heap.size + 1, 0, none⟩ = some (.int .i64 0) := by rw [hw3]; exact twoL_cells cp2 cq2
      have zf : w3.frozen? ⟨w.heap.size, 0, none⟩ = false ∧ w3.frozen? ⟨w.heap.size + 1, 0, none⟩ = false := by rw [hw3]; simp [zp2, zq2]
      rw [← hw3]
      clear hw3 cp2 cq2 zp2 zq2 hcell
      have hal := below_alloc w3 (.cells #[.slice (some ⟨g, 0, none⟩) (A.length + 1) cap, .int .i64 0] 75)
      have hI := rdr_in (cap := cap) (show g < w3.heap.size by omega) hc3 w2.heap.size hs3.symm
      have hW := hwf w2.heap.size g cap (by omega)
      have hn4 : (w3.alloc (.cells #[.slice (some ⟨g, 0, none⟩) (A.length + 1) cap, .int .i64 0] 75)).heap.size = w2.heap.size + 1 := by simp [hs3]
      obtain ⟨w4, hw4⟩ : ∃ w0, w0 = w3.alloc (.cells #[.slice (some ⟨g, 0, none⟩) (A.length + 1) cap, .int .i64 0] 75) := ⟨_, rfl⟩
      rw [← hw4] at hal hI hn4 ⊢
      clear hw4 hc3
      have cS := file_rule _ hW f gg hf2 hg2 A w4 hI hnf
      have hq' : fileL (Rdr.e ⟨w2.heap.size, g, cap, A, n⟩) f gg [] A = .bad pp xx := hq
      rw [hq'] at cS
      refine cS.mono ?_
      rintro e w5 ⟨rfl, hb5⟩
      clear cS
      have hkb : ∀ k, k < w2.heap.size → w5.heap[k]? = w3.heap[k]? := fun k hk => (hb5.block k hk).trans (hal.block k (by omega))
      have cp5 := (World.cell?_of_block (w := w3) (a := ⟨w.heap.size, 0, none⟩) (hkb _ (show w.heap.size < _ by omega))).trans hbl.1
      have cq5 := (World.cell?_of_block (w := w3) (a := ⟨w.heap.size + 1, 0, none⟩) (hkb _ (show w.heap.size + 1 < _ by omega))).trans hbl.2
      have zp5 := (World.frozen?_of_block (w := w3) (a := ⟨w.heap.size, 0, none⟩) (hkb _ (show w.heap.size < _ by omega))).trans zf.1
      have zq5 := (World.frozen?_of_block (w := w3) (a := ⟨w.heap.size + 1, 0, none⟩) (hkb _ (show w.heap.size + 1 < _ by omega))).trans zf.2
      have hsz5 := hb5.size
      have hB5 : Below w.heap.size w w5 := ⟨hb5.os.trans (hal.os.trans hB3.os), hb5.tape.trans (hal.tape.trans hB3.tape), hb5.output.trans (hal.output.trans hB3.output), by have := hB3.size; omega, fun k hk => (hkb k (by omega)).trans (hB3.block k hk)⟩
      clear hkb hbl zf hal hI hW hB3 hB1
      refine leaves_cons (f := 35) (args := #[.pointer (some ⟨w.heap.size, 0, none⟩), .pointer (some ⟨w.heap.size + 1, 0, none⟩)]) (by simp) (by simp [go_sem]) ?_
      refine (catchL_panicking (w.heap.size) (w.heap.size + 1) 0 0 (pp : Nat) (xx : Nat) [] w5 (by omega) (by omega) (by omega) cp5 cq5 zp5 zq5).mono ?_
      rintro e u' w6 ⟨rfl, rfl, h6⟩
      have i2 := h6.cp
      have i3 := h6.cq
      refine ⟨.tuple #[.slice none 0 0, .int .i64 (pp : Nat), .int .i64 (xx : Nat)], by simp only [results, Tryd.results20]; simp [go_sem, i2, i3], _, rfl, ls_nil _ _, ⟨h6.os.trans hB5.os, h6.tape.trans hB5.tape, h6.output.trans hB5.output, Nat.le_trans hB5.size h6.size, fun k hk => (h6.block k (by omega) (by omega) (by omega)).trans (hB5.block k hk)⟩⟩
  · have HA : Hid (fileA f gg (tl s) = ([], (scanF (tl s)).2)) := by show _ = _; unfold fileA; rw [if_neg h0]
    rw [HA.out]
    generalize (scanF (tl s)).2.2 = E at *
    generalize (scanF (tl s)).2.1 = P at *
    have hE : ((E : Int) != 0) = true := by simp only [bne_iff_ne]; omega
    go_enter_defers Tryd.func20, Tryd.ntmps20
    go_wp2_with fail
    rw [← Hw1.out]
    refine c.mono ?_
    rintro e w2 ⟨v, rfl, _, hb⟩
    clear c Hw1
    have cp2 := (hb.cell (p := ⟨w.heap.size, 0, none⟩) (show w.heap.size < w1.heap.size by omega)).trans cp
    have cq2 := (hb.cell (p := ⟨w.heap.size + 1, 0, none⟩) (show w.heap.size + 1 < w1.heap.size by omega)).trans cq
    have zp2 := (hb.frozen (p := ⟨w.heap.size, 0, none⟩) (show w.heap.size < w1.heap.size by omega)).trans zp
    have zq2 := (hb.frozen (p := ⟨w.heap.size + 1, 0, none⟩) (show w.heap.size + 1 < w1.heap.size by omega)).trans zq
    clear cp cq zp zq
    go_wp2_with fail
    go_region
    go_wp2_with fail
    obtain ⟨j2, j3⟩ := twoL_cells (c := .int .i64 (P : Nat)) (d := .int .i64 (E : Nat)) cp2 cq2
    obtain ⟨i2, i3⟩ := twoL_cells (c := .int .i64 (P : Nat)) (d := .int .i64 (E : Nat)) j2 j3
    clear j2 j3 cp2 cq2 zp2 zq2
    have hB := hB1.trans (hb.mono (show w.heap.size ≤ w1.heap.size by omega))
    exact ⟨.tuple #[.slice none 0 0, .int .i64 (P : Nat), .int .i64 (E : Nat)], by simp only [results, Tryd.results20]; simp [go_sem, i2, i3], _, rfl, ls_nil _ _, Below.drew ((((hB.setCell q0 _).setCell q1 _).setCell q0 _).setCell q1 _)⟩
set_option maxHeartbeats 1000000 in
theorem parse_any (f gg : Nat) (hf : 655364 ≤ f) (hf2 : f ≤ 1000000) (hg1 : 65537 ≤ gg) (hg2 : gg ≤ 1000000) (s : ByteArray) (w : World) (hs : s.size ≤ 4 * maxLen) (hT : Tabs w) :
    Calls Tryd.prog 9 #[.string s] w fun e w' => ∃ v, e = .returned (.tuple #[v, .int .i64 ((fileA f gg (tl s)).2.1 : Nat), .int .i64 ((fileA f gg (tl s)).2.2 : Nat)]) ∧ LsIn w.heap.size w' (fileA f gg (tl s)).1 v ∧ Below w.heap.size w w' := by
  have c := readL_any f gg hf hf2 hg1 hg2 s w hs hT
  generalize fileA f gg (tl s) = Z at *
  go_enter Tryd.func9, Tryd.ntmps9
  go_wp2_with fail
  refine c.mono ?_
  rintro e w2 ⟨v, rfl, hL, hb⟩
  obtain ⟨a, cap, rfl⟩ := hL.form
  clear c
  go_wp2_with fail
  go_ret3
  exact ⟨_, rfl, hL, hb⟩
set_option maxRecDepth 100000 in
set_option maxHeartbeats 1000000 in
theorem term_any (f : Nat) (hf : 655364 ≤ f) (hf2 : f ≤ 1000000) (s : ByteArray) (w : World) (hs : s.size ≤ 4 * maxLen) (hT : Tabs w) :
    Calls Tryd.prog 8 #[.string s] w fun e w' => ∃ v, e = .returned (.tuple #[v, .int .i64 ((termA f (tl s)).2.1 : Nat), .int .i64 ((termA f (tl s)).2.2 : Nat)]) ∧ TrIn (From w.heap.size) w' (termA f (tl s)).1 v ∧ Below w.heap.size w w' := by
  have hal := below_alloc w (.cells #[.int .i64 0, .string ⟨#[]⟩, .slice none 0 0, .slice none 0 0, .int .i64 0] 26)
  have c := readT_any f hf hf2 s (w.alloc (.cells #[.int .i64 0, .string ⟨#[]⟩, .slice none 0 0, .slice none 0 0, .int .i64 0] 26)) hs (hT.below hal)
  have hh := hole_new w
  generalize termA f (tl s) = Z at *
  go_enter Tryd.func8, Tryd.ntmps8
  go_wp2_with fail
  refine c.mono ?_
  rintro e w2 ⟨v, rfl, ht, hb⟩
  clear c
  have hsz : (w.alloc (.cells #[.int .i64 0, .string ⟨#[]⟩, .slice none 0 0, .slice none 0 0, .int .i64 0] 26)).heap.size = w.heap.size + 1 := by simp
  rw [hsz] at ht
  have hh2 := hh.blw hb (by omega)
  obtain ⟨vk, vn, rfl, hf5, ka, kc, rfl⟩ := TrIn.form ht
  obtain ⟨na, nc, rfl⟩ := hf5.form
  clear hf5
  obtain ⟨o0, o1, o2, o3, o4, z0, z1, z2, z3, z4⟩ := hh2.cells
  go_wp2_with fail
  have i1 := blk_put w2 w.heap.size _ _ _ _ _ (.int .i64 (Z.1.kind : Nat)) (.string (bs Z.1.name)) (.slice ka Z.1.kids.length kc) (.slice na Z.1.names.length nc) (.int .i64 (Z.1.at_ : Nat)) hh2
  obtain ⟨d0, d1, d2, d3, d4, _⟩ := i1.cells
  unfold pu5 at d0 d1 d2 d3 d4
  have q0 : w.heap.size ≤ w.heap.size := Nat.le_refl _
  have hB := chain hal hb
  exact ⟨rfl, .tuple #[.agg #[.int .i64 (Z.1.kind : Nat), .string (bs Z.1.name), .slice ka Z.1.kids.length kc, .slice na Z.1.names.length nc, .int .i64 (Z.1.at_ : Nat)], .int .i64 (Z.2.1 : Nat), .int .i64 (Z.2.2 : Nat)], by simp only [results, Tryd.results8]; simp [go_sem, d0, d1, d2, d3, d4], _, rfl, TrIn.from (n := w.heap.size + 1) (TrIn.put5 ht (by omega) _ _ _ _ _) (by omega), ((((hB.setCell q0 _).setCell q0 _).setCell q0 _).setCell q0 _).setCell q0 _⟩
end Go.Proofs.YtekcpglapkpenaaDoor
