/- How a tree, and a row of trees, that came in lie in memory; what came in reads as it did where nothing old has turned. -/
import Derived.ProofKit
import Derived.OpenShut
import Derived.Lib.SmallJoins
import Derived.Deep.Slices
import Derived.Deep.Strs
import Derived.Test.YtahnbigkdfmpbaaDoorXWorks
namespace Go.Proofs.YtahnbigkdfmpbaaDoor
open Go.ChangeShapes Go.WideShapes Go.ChangeAt Go.RowKit
set_option linter.unusedVariables false
set_option linter.unusedSimpArgs false

/-- A row of trees that came in. -/
def LsS (W : World) (v : Value) (l : List Sx) : Prop := ∃ a cap, v = .slice a l.length cap ∧ KdP W.heap.size W (SxIn W.heap.size W) l a
theorem great_no {l : List Sx} (h : greatB l = false) : blkK l ≤ 1500 := by
  unfold greatB at h
  rw [blk_mk] at h
  simp only [decide_eq_false_iff_not] at h
  omega
set_option maxRecDepth 100000 in
theorem laidOutS : laidOutB Tryd.prog = true := by kernel_rfl
section
variable {H : Type} {enc : TypeId × Value → H}

set_option maxRecDepth 100000 in
theorem shutB {W W' : World} {t : TypeId} {v : Value} {d : DataW H} {ps : List MemPlace} (hr : Tryd.prog.readableRec t = true) (hrow : t < Tryd.prog.types.size) (h : DataW.Trod enc Tryd.prog W 0 (fun _ => true) true t v d ps) (hb : Below W.heap.size W W') :
    DataW.Trod enc Tryd.prog W' 0 (fun b => decide (b < W.heap.size)) true t v d ps :=
  Below.trod laidOutS hr hrow h hb (fun x hx => by obtain ⟨n, hn⟩ := h; exact DataW.trod_lt n _ _ _ hn x hx)

theorem bs_of (s : ByteArray) : bs (tl s) = s := tl_inj (by rw [tl_bs])
set_option maxRecDepth 100000 in
theorem cells_tree : Tryd.prog.cellsOf 25 = 5 := by kernel_rfl
set_option maxRecDepth 100000 in
theorem scells_str : Tryd.prog.cellsOf 9 = 1 := by kernel_rfl
set_option maxRecDepth 100000 in
theorem scells_int : Tryd.prog.cellsOf 3 = 1 := by kernel_rfl
set_option maxRecDepth 100000 in
theorem cells_trees : Tryd.prog.cellsOf 22 = 1 := by kernel_rfl
set_option maxRecDepth 100000 in
theorem cells_strs : Tryd.prog.cellsOf 23 = 1 := by kernel_rfl
/-- What a tree that is read is. -/
def SxOf (W : World) (cs : List Value) : Prop := ∃ (t : Sx) (u0 u1 u2 u3 u4 : Value), cs = [u0, u1, u2, u3, u4] ∧ SxIn W.heap.size W t (.agg #[u0, u1, u2, u3, u4])
set_option maxRecDepth 100000 in
theorem open_kids {W : World} {fuel : Nat} {cs : List Value} {x : DataW H × List MemPlace} (ih : ∀ m, m < fuel → ∀ cs x, DataW.trod enc Tryd.prog W 0 (fun _ => true) true m 25 cs = some x → SxOf W cs) (h : DataW.trod enc Tryd.prog W 0 (fun _ => true) true fuel 22 cs = some x) :
    ∃ (l : List Sx) (a : Option Addr) (cap : Nat), cs = [.slice a l.length cap] ∧ KdP W.heap.size W (SxIn W.heap.size W) l a := by
  rcases DataW.trod_slice Tryd.underlying22 h with ⟨rfl, _⟩ | ⟨a, len, cap, elems, rest, m, rfl, rfl, _, hba, hlc, hcm, hel, hcell, _, _⟩
  · exact ⟨[], none, 0, rfl, kdp_nil _ _ _ _⟩
  · have each : ∀ i, i < len → ∃ (t : Sx) , ∃ (u0 u1 u2 u3 u4 : Value), SxIn W.heap.size W t (.agg #[u0, u1, u2, u3, u4]) ∧ ∀ j, j < 5 → W.cell? (a.add (i * 5 + j)) = [u0, u1, u2, u3, u4][j]? := fun i hi => by
      have h1 := hcell i hi
      rw [List.getElem?_eq_getElem (by omega), cells_tree] at h1
      obtain ⟨cs', h2, h3⟩ := Option.bind_eq_some_iff.1 h1
      obtain ⟨t, u0, u1, u2, u3, u4, rfl, hs⟩ := ih m (by omega) _ _ h3
      obtain ⟨_, _, h4⟩ := World.cells?_some h2
      refine ⟨t, u0, u1, u2, u3, u4, hs, fun j hj => ?_⟩
      have := h4 j hj
      rw [Go.Deep.add_add] at this
      exact this
    haveI : Inhabited Sx := ⟨zS⟩
    obtain ⟨f, hf⟩ := Go.Deep.choose_lt (p := fun i t => ∃ (u0 u1 u2 u3 u4 : Value), SxIn W.heap.size W t (.agg #[u0, u1, u2, u3, u4]) ∧ ∀ j, j < 5 → W.cell? (a.add (i * 5 + j)) = [u0, u1, u2, u3, u4][j]?) each
    refine ⟨(List.range len).map f, some a, cap, by simp, fun j x hx => ?_⟩
    have hj : j < len := by
      rcases Nat.lt_or_ge j len with h1 | h1
      · exact h1
      · rw [List.getElem?_eq_none (by simpa using h1)] at hx; cases hx
    rw [List.getElem?_map, List.getElem?_range hj] at hx
    simp at hx
    subst hx
    obtain ⟨u0, u1, u2, u3, u4, hs, hc⟩ := hf j hj
    obtain ⟨z0, _, _, _, _, _, hc0⟩ := hf 0 (by omega)
    obtain ⟨b, off, spot⟩ := a
    have h0 : W.cell? ⟨b, off, spot⟩ = some z0 := by simpa [Addr.add] using hc0 0 (by omega)
    have hspot : spot = none := World.cell?_spot h0
    subst hspot
    have hb : b < W.heap.size := World.block_lt_of_cell? _ _ h0
    have e : ∀ j', Addr.add ⟨b, off, none⟩ (j * 5 + j') = ⟨b, off + j * 5 + j', none⟩ := fun j' => by
      unfold Addr.add
      split
      · have h1 : j * 5 = 0 := by omega
        have h2 : j' = 0 := by omega
        rw [h1, h2]; rfl
      · rw [Nat.add_assoc]
    refine ⟨b, off, u0, u1, u2, u3, u4, rfl, hb, hs, ?_, ?_, ?_, ?_, ?_⟩
    · have := hc 0 (by omega); rw [e] at this; exact this
    · have := hc 1 (by omega); rw [e] at this; exact this
    · have := hc 2 (by omega); rw [e] at this; exact this
    · have := hc 3 (by omega); rw [e] at this; exact this
    · have := hc 4 (by omega); rw [e] at this; exact this
set_option maxRecDepth 100000 in
theorem open_names {W : World} {fuel : Nat} {cs : List Value} {x : DataW H × List MemPlace} (h : DataW.trod enc Tryd.prog W 0 (fun _ => true) true fuel 23 cs = some x) : ∃ (l : List Bs) (v : Value), cs = [v] ∧ NmS W.heap.size W l v := by
  rcases Go.Deep.open_strs Tryd.underlying23 Tryd.underlying9 scells_str h with ⟨rfl, _⟩ | ⟨a, len, cap, m, S, rfl, _, hl, _, hm, _, hcell⟩
  · exact ⟨[], _, rfl, nms_nil _ _⟩
  · simp only [if_true] at hm
    subst hm
    refine ⟨(List.range len).map fun i => tl (S i), _, rfl, some a, m, by simp, by simpa using hl, fun j x hx => ?_⟩
    have hj : j < len := by
      rcases Nat.lt_or_ge j len with h1 | h1
      · exact h1
      · rw [List.getElem?_eq_none (by simpa using h1)] at hx; cases hx
    rw [List.getElem?_map, List.getElem?_range hj] at hx
    simp at hx
    subst hx
    obtain ⟨b, off, spot⟩ := a
    have h0 : W.cell? ⟨b, off, spot⟩ = some (.string (S 0)) := by simpa [Addr.add] using (hcell 0 (by omega)).1
    have hspot : spot = none := World.cell?_spot h0
    subst hspot
    have hb : b < W.heap.size := World.block_lt_of_cell? _ _ h0
    have e : Addr.add ⟨b, off, none⟩ j = ⟨b, off + j, none⟩ := by
      unfold Addr.add
      split
      · simp_all
      · rfl
    have h1 := (hcell j (by omega)).1
    rw [e] at h1
    exact ⟨b, off, rfl, hb, by rw [bs_of]; exact h1⟩
set_option maxRecDepth 100000 in
theorem open_sx {W : World} : ∀ (fuel : Nat) (cs : List Value) (x : DataW H × List MemPlace), DataW.trod enc Tryd.prog W 0 (fun _ => true) true fuel 25 cs = some x → SxOf W cs := by
  intro fuel
  induction fuel using Nat.strongRecOn with
  | _ fuel ih =>
    intro cs x h
    obtain ⟨xs, n, rfl, _, hl, hlen, hf⟩ := DataW.trod_struct Tryd.underlying25 h
    rw [cells_tree] at hl
    match cs, hl with
    | [u0, u1, u2, u3, u4], _ =>
      match xs, hlen with
      | [y0, y1, y2, y3, y4], _ =>
        have e0 : DataW.trod enc Tryd.prog W 0 (fun _ => true) true n 3 (([u0, u1, u2, u3, u4].drop 0).take (Tryd.prog.cellsOf 3)) = some y0 := hf 0 _ rfl
        have e1 : DataW.trod enc Tryd.prog W 0 (fun _ => true) true n 9 (([u0, u1, u2, u3, u4].drop 1).take (Tryd.prog.cellsOf 9)) = some y1 := hf 1 _ rfl
        have e2 : DataW.trod enc Tryd.prog W 0 (fun _ => true) true n 22 (([u0, u1, u2, u3, u4].drop 2).take (Tryd.prog.cellsOf 22)) = some y2 := hf 2 _ rfl
        have e3 : DataW.trod enc Tryd.prog W 0 (fun _ => true) true n 23 (([u0, u1, u2, u3, u4].drop 3).take (Tryd.prog.cellsOf 23)) = some y3 := hf 3 _ rfl
        have e4 : DataW.trod enc Tryd.prog W 0 (fun _ => true) true n 3 (([u0, u1, u2, u3, u4].drop 4).take (Tryd.prog.cellsOf 3)) = some y4 := hf 4 _ rfl
        rw [scells_int] at e0 e4
        rw [scells_str] at e1
        rw [cells_trees] at e2
        rw [cells_strs] at e3
        obtain ⟨k, i0, _, _⟩ := DataW.trod_int Tryd.underlying3 e0
        obtain ⟨s, i1, _, _⟩ := DataW.trod_string Tryd.underlying9 e1
        obtain ⟨l, a, cap, i2, hK⟩ := open_kids (fun m hm => ih m (by omega)) e2
        obtain ⟨ns, vn, i3, hN⟩ := open_names e3
        obtain ⟨p, i4, _, _⟩ := DataW.trod_int Tryd.underlying3 e4
        simp at i0 i1 i2 i3 i4
        subst i0 i1 i2 i3 i4
        refine ⟨.mk k (tl s) l ns p, _, _, _, _, _, rfl, ?_⟩
        have h9 := SxIn.mk (n := W.heap.size) (w := W) k (tl s) l ns p u3 a cap hN hK
        rw [bs_of] at h9
        exact h9
set_option maxRecDepth 100000 in
theorem open_tree1 {W : World} {base : Nat} {v : Value} {d : DataW H} {p : List MemPlace} (hv : Value.okWide Tryd.prog W .any base 25 v) (h : DataW.Trod enc Tryd.prog W 0 (fun _ => true) true 25 v d p) : ∃ t : Sx, SxIn W.heap.size W t v := by
  obtain ⟨cs, rfl, hsz⟩ := okWide_struct Tryd.underlying25 hv
  obtain ⟨fuel, hf⟩ := h
  obtain ⟨t, u0, u1, u2, u3, u4, e, hs⟩ := open_sx _ _ _ hf
  have ec : cs = #[u0, u1, u2, u3, u4] := by
    simp [Value.cells] at e
    rw [← e]
  rw [ec]
  exact ⟨t, hs⟩
set_option maxRecDepth 100000 in
theorem open_trees {W : World} {base : Nat} {v : Value} {d : DataW H} {p : List MemPlace} (hv : Value.okWide Tryd.prog W .any base 22 v) (h : DataW.Trod enc Tryd.prog W 0 (fun _ => true) true 22 v d p) : ∃ l : List Sx, LsS W v l := by
  obtain ⟨a0, len, cap0, rfl⟩ := okWide_slice Tryd.underlying22 hv
  obtain ⟨fuel, hf⟩ := h
  obtain ⟨l, a, cap, e, hK⟩ := open_kids (fun m _ => open_sx m) hf
  simp [Value.cells] at e
  obtain ⟨rfl, rfl, rfl⟩ := e
  exact ⟨l, a0, cap0, rfl, hK⟩
end
end Go.Proofs.YtahnbigkdfmpbaaDoor
