/- The rows of values in their order: firstRow and turn of the layer truth. -/
import Derived.Test.YtinegcahhafddaaDoorTEval
import Derived.Laws.OwnMore
import Derived.OwnWalk
namespace Go.Proofs.YtinegcahhafddaaDoor
open Go.RowKit
set_option linter.unusedVariables false
set_option linter.unusedSimpArgs false

theorem OwnsL.below {w w' : World} {base : Nat} {v : Value} {l : List Nat} (h : OwnsL w base v l) (hb : Below w.heap.size w w') : OwnsL w' base v l :=
  World.ownsRow.kept h (row := none) ⟨hb.os, hb.tape, hb.output, hb.size, fun k hk _ => hb.block k hk⟩ (by
    cases e : v.ownBlock with
    | none => exact .inl rfl
    | some g => exact .inr (by simp))
theorem OwnsL.rowZ {w : World} {base : Nat} {v : Value} {l : List Nat} (h : OwnsL w base v l) : RowZ w v (toZ l) := h.rowAt.rowZ
theorem OwnsL.form {w : World} {base : Nat} {v : Value} {l : List Nat} (h : OwnsL w base v l) (hl : 0 < l.length) : ∃ g cap, v = .slice (some ⟨g, 0, none⟩) l.length cap ∧ base ≤ g ∧ g < w.heap.size := by
  have h0 := h
  obtain ⟨h1, h2 | ⟨g, cap, cur, rfl, hg, _⟩⟩ := h
  · omega
  · exact ⟨g, cap, rfl, hg, (World.ownsRow.lt h0 g rfl).2⟩
theorem OwnsL.mono {w : World} {base base' : Nat} {v : Value} {l : List Nat} (h : OwnsL w base v l) (hb : base' ≤ base) : OwnsL w base' v l := World.ownsRow.mono h hb
theorem made_zeros (n : Nat) : (madeCells (Value.int .i64 0).cells (n * 1)).toList = (List.replicate n 0).map encI := by
  show (madeCells #[Value.int .i64 0] (n * 1)).toList = _
  rw [toList_madeCells_one, Nat.mul_one, List.map_replicate]
  rfl
theorem owns_zeros {w : World} {base : Nat} {v : Value} {n : Nat} (h : w.ownsRow base 3 1 v n (madeCells (Value.int .i64 0).cells (n * 1)).toList) : OwnsL w base v (List.replicate n 0) := by
  unfold OwnsL
  rw [made_zeros] at h
  rw [List.length_replicate]
  exact h
theorem last_dim {ds : List Nat} (h : ds ≠ []) : ∃ d, ds[ds.length - 1]? = some d ∧ sizeD ds = d + 1 := by
  induction ds using snoc_ind with
  | nil => exact absurd rfl h
  | snoc ds k _ =>
    refine ⟨k, by simp, ?_⟩
    unfold sizeD
    rw [List.getLast?_concat]

set_option maxRecDepth 100000 in
set_option maxHeartbeats 1000000 in
theorem firstRow_any (ds : List Nat) (vd : Value) (w : World) (hd : RowZ w vd (toZ ds)) (h24 : ∀ i ∈ ds, i < 24) (hn : ds.length ≤ 24) :
    Calls Tryd.prog 38 #[vd] w fun e w' => ∃ v, e = .returned v ∧ OwnsL w' w.heap.size v (row0 ds) ∧ Below w.heap.size w w' := by
  obtain ⟨i0, hi, hz0, hz1, hz2⟩ := info_parts Tryd.infoInt
  obtain ⟨pd, cd, rfl⟩ := hd.len
  rw [toZ_length] at hd ⊢
  by_cases hz : ds = []
  · have HS : Hid (row0 ds = List.replicate 1 0) := by rw [hz]; rfl
    obtain ⟨n, hn1⟩ : ∃ n, n = ds.length := ⟨_, rfl⟩
    rw [← hn1] at hd ⊢
    have : n = 0 := by rw [hn1, hz]; rfl
    subst this
    clear hd hn1 h24 hn hz
    go_enter Tryd.func38, Tryd.ntmps38
    go_wp2_with (at_make; refine wpList_make_full _ rfl _ _ 27 rfl w.heap.size 3 i0 (.int .i64 0) 1 Tryd.underlying27 hi hz0 hz1 .i64 .i64 _ _ 1 rfl rfl rfl rfl (by rw [hz2]; omega) (by unfold maxLen; omega) (Nat.le_refl _) ?_; intro w1 hown1 hgrow1)
    go_ret
    exact ⟨_, rfl, by rw [HS.out]; exact owns_zeros hown1, (Below.refl _ _).grown hgrow1 (Nat.le_refl _) (fun k h => by cases h)⟩
  · obtain ⟨d, hdk, hS⟩ := last_dim hz
    have hpos : 0 < ds.length := List.length_pos_iff.2 hz
    obtain ⟨g, off, rfl, hg, x0⟩ := hd.at (toZ_get hdk)
    have hd24 : d < 24 := h24 d (List.mem_of_getElem? hdk)
    have HS : Hid (row0 ds = List.replicate (d + 1) 0) := by show row0 ds = _; unfold row0; rw [hS]
    obtain ⟨n, hn1⟩ : ∃ n, n = ds.length - 1 := ⟨_, rfl⟩
    have hn2 : ds.length = n + 1 := by omega
    rw [← hn1] at x0
    rw [hn2] at hn ⊢
    clear hd hn1 h24 hz hdk hS hpos hn2
    go_enter Tryd.func38, Tryd.ntmps38
    go_wp2_with (at_make; refine wpList_make_full _ rfl _ _ 27 rfl w.heap.size 3 i0 (.int .i64 0) 1 Tryd.underlying27 hi hz0 hz1 .i64 .i64 _ _ (d + 1) rfl rfl (by go_num) (by go_num) (by rw [hz2]; omega) (by unfold maxLen; omega) (Nat.le_refl _) ?_; intro w1 hown1 hgrow1)
    go_ret
    exact ⟨_, rfl, by rw [HS.out]; exact owns_zeros hown1, (Below.refl _ _).grown hgrow1 (Nat.le_refl _) (fun k h => by cases h)⟩

theorem drop_cons {ds : List Nat} {k d : Nat} (h : ds[k]? = some d) : ds.drop k = d :: ds.drop (k + 1) := by
  obtain ⟨hlt, rfl⟩ := List.getElem?_eq_some_iff.1 h
  exact List.drop_eq_getElem_cons hlt
theorem turnL_lo {row ds : List Nat} {k d : Nat} (h : ds[k]? = some d) (hx : gN row d < 3) : turnL row (ds.drop k) = (row.set d (gN row d + 1), true) := by
  rw [drop_cons h, turnL, if_pos hx]
theorem turnL_hi {row ds : List Nat} {k d : Nat} (h : ds[k]? = some d) (hx : ¬ gN row d < 3) : turnL row (ds.drop k) = turnL (row.set d 0) (ds.drop (k + 1)) := by
  rw [drop_cons h, turnL, if_neg hx]
theorem own_cell {w : World} {base g cap n : Nat} {row : List Nat} (h : w.ownsRow base 3 1 (.slice (some ⟨g, 0, none⟩) n cap) n (row.map encI)) (hl : row.length = n) {d : Nat} (hd : d < n) : w.cell? ⟨g, d, none⟩ = some (.int .i64 ((gN row d : Nat) : Int)) := by
  rw [World.ownsRow.cellAt h d (by omega), List.getElem?_map]
  unfold gN
  rw [List.getElem?_eq_getElem (by omega)]
  rfl
theorem own_set {w : World} {base g cap n : Nat} {row : List Nat} (h : w.ownsRow base 3 1 (.slice (some ⟨g, 0, none⟩) n cap) n (row.map encI)) (d x : Nat) : (w.setCell ⟨g, d, none⟩ (.int .i64 ((x : Nat) : Int))).ownsRow base 3 1 (.slice (some ⟨g, 0, none⟩) n cap) n ((row.set d x).map encI) := by
  have := (World.ownsRow.stored h d (.int .i64 ((x : Nat) : Int))).1
  rw [List.map_set]
  exact this

set_option maxRecDepth 100000 in
set_option maxHeartbeats 2000000 in
theorem turn_any (ds row : List Nat) (size : Nat) (vd vr : Value) (W0 W : World) (hd : RowZ W0 vd (toZ ds)) (hlt : ∀ i ∈ ds, i < size) (hn : ds.length ≤ 24) (hG : Good size row) (hsz : 0 < size) (hs24 : size ≤ 24) (hO : OwnsL W W0.heap.size vr row) (hW : Below W0.heap.size W0 W) :
    Calls Tryd.prog 39 #[vr, vd] W fun e w' => e = .returned (.bool (turnL row ds).2) ∧ OwnsL w' W0.heap.size vr (turnL row ds).1 ∧ Below W0.heap.size W0 w' := by
  obtain ⟨g, cap, rfl, hgB, _⟩ := hO.form (by rw [hG.len]; exact hsz)
  unfold OwnsL at hO
  have HO : Hid (∀ w' l, Good size l → w'.ownsRow W0.heap.size 3 1 (.slice (some ⟨g, 0, none⟩) size cap) size (l.map encI) → OwnsL w' W0.heap.size (.slice (some ⟨g, 0, none⟩) size cap) l) := fun w' l hl h => by unfold OwnsL; rw [hl.len]; exact h
  have HG : Hid (Good size (turnL row ds).1) := turnL_good hG
  rw [hG.len] at hO ⊢
  have HD : Hid (∀ W1, Below W0.heap.size W0 W1 → RowZ W1 vd (toZ ds)) := fun W1 h => hd.below h
  have HL : Hid (∀ i ∈ ds, i < size) := hlt
  obtain ⟨pd, cd, rfl⟩ := hd.len
  rw [toZ_length] at HD ⊢
  clear hd hlt
  obtain ⟨n, hn1⟩ : ∃ n, n = ds.length := ⟨_, rfl⟩
  have Hn : Hid (n = ds.length) := hn1
  rw [← hn1] at hn HD ⊢
  clear hn1
  go_enter Tryd.func39, Tryd.ntmps39
  go_wp2
  go_loopw [9] (fun i wr => ∃ (k : Nat) (r : List Nat), k ≤ n ∧ i = .int .i64 k ∧ wr.ownsRow W0.heap.size 3 1 (.slice (some ⟨g, 0, none⟩) size cap) size (r.map encI) ∧ Good size r ∧ turnL row ds = turnL r (ds.drop k) ∧ Below W0.heap.size W0 wr) (fun i _ => n - (intOf i).toNat)
  case atStart => exact ⟨0, row, Nat.zero_le _, rfl, hO, hG, rfl, hW⟩
  case round =>
    obtain ⟨k, r, hk, rfl, hown, hGr, hT, hB⟩ := hrel
    clear hO hG hW
    by_cases hlt : k < n
    · obtain ⟨d, hdk⟩ := get_some (l := ds) (k := k) (by rw [← Hn.out]; exact hlt)
      obtain ⟨gd, off, rfl, hgd, x0⟩ := (HD.out _ hB).at (toZ_get hdk)
      have hds : d < size := HL.out d (List.mem_of_getElem? hdk)
      have hc := own_cell hown hGr.len hds
      have hf := World.ownsRow.frozenAt hown d
      have hx3 := hGr.le d
      by_cases hx : gN r d < 3
      · have hst := own_set hown d (gN r d + 1)
        have hgo : Good size (r.set d (gN r d + 1)) := hGr.set (by omega)
        have hBs := hB.setCell (p := ⟨g, d, none⟩) hgB (.int .i64 ((gN r d + 1 : Nat) : Int))
        rw [turnL_lo hdk hx] at hT
        have HE : Hid (turnL row ds = (r.set d (gN r d + 1), true)) := hT
        have e1 : ((gN r d + 1 : Nat) : Int) = ((gN r d : Nat) : Int) + 1 := by omega
        rw [e1] at hst hBs
        clear hT hdk hown e1
        generalize gN r d = x at *
        go_wp2
        go_ret
        exact ⟨by rw [HE.out]; rfl, HO.out _ _ HG.out (by rw [HE.out]; exact hst), hBs⟩
      · have hst := own_set hown d 0
        have hgo : Good size (r.set d 0) := hGr.set (by omega)
        have hBs := hB.setCell (p := ⟨g, d, none⟩) hgB (.int .i64 ((0 : Nat) : Int))
        rw [turnL_hi hdk hx] at hT
        have HE : Hid (turnL row ds = turnL (r.set d 0) (ds.drop (k + 1))) := hT
        clear hT hdk hown
        generalize gN r d = x at *
        go_wp2
        go_roundw
        case rel => exact ⟨k + 1, _, by omega, by go_num, hst, hgo, HE.out, hBs⟩
        case measure => simp [intOf]; omega
    · obtain rfl : k = n := by omega
      have e : ds.drop k = [] := List.drop_of_length_le (by rw [← Hn.out]; exact Nat.le_refl _)
      rw [e] at hT
      have HE : Hid (turnL row ds = (r, false)) := hT
      clear hT e
      go_wp2
      go_ret
      exact ⟨by rw [HE.out]; rfl, HO.out _ _ HG.out (by rw [HE.out]; exact hown), hB⟩
end Go.Proofs.YtinegcahhafddaaDoor
