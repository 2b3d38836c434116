/- The library's sort, by Cmp, of a row that is owned: the same clauses, rising. -/
import Derived.Test.YtdikaomebbpmhabDoorCCmp
import Derived.Test.YtdikaomebbpmhabDoorCBelow
namespace Go.Proofs.YtdikaomebbpmhabDoor
open Go.RowKit Go.Shelf Go.Sort
set_option linter.unusedVariables false
set_option linter.unusedSimpArgs false

theorem ltOf_cmpC (a b : C) : ltOf cmpC a b = ltC a b := cmpC_lt a b
theorem swoC : SWO (ltOf cmpC) where
  irrefl x := by rw [ltOf_cmpC, ltC_irrefl]
  trans x y z h1 h2 := by rw [ltOf_cmpC] at *; exact ltC_trans h1 h2
  ntrans x y z h1 h2 := by
    rw [ltOf_cmpC] at *
    cases h : ltC x z
    · rfl
    · simp only [ltC, Bool.or_eq_false_iff, Bool.and_eq_false_iff, Bool.or_eq_true, Bool.and_eq_true, decide_eq_true_eq, decide_eq_false_iff_not] at *
      omega
theorem cmpLays (blk off size : Nat) (w : World) : CmpLays Tryd.prog 32 #[] encC 2 cmpC blk off size w := fun _ _ _ _ x y => cmp_any x y _

theorem holds_of {w : World} {base g cap : Nat} {u : List C} (h : OwnsC w base (.slice (some ⟨g, 0, none⟩) u.length cap) u) : HoldsK encC 2 w g 0 u.toArray := by
  intro t ht
  rw [size_flatK] at ht
  have hlen : u.toArray.size = u.length := by simp
  rw [hlen] at ht
  refine ⟨?_, World.ownsRow.frozenAt h _⟩
  have e1 := World.ownsRow.cellAt h t ht
  rw [Nat.zero_add, e1, get_flatK _ _ _ _ (by rw [hlen]; exact ht)]
  have hj : t / 2 < u.length := by omega
  have e2 : u.toArray[t / 2]! = u[t / 2] := by rw [getElem!_pos _ _ (by simpa using hj)]; simp
  rw [e2]
  rcases Nat.mod_two_eq_zero_or_one t with hm | hm
  · have e3 : t = t / 2 * 2 := by omega
    have e4 : (flat u)[t]? = (flat u)[t / 2 * 2]? := by rw [← e3]
    rw [e4, flat_get0, List.getElem?_eq_getElem hj, hm]; rfl
  · have e3 : t = t / 2 * 2 + 1 := by omega
    have e4 : (flat u)[t]? = (flat u)[t / 2 * 2 + 1]? := by rw [← e3]
    rw [e4, flat_get1, List.getElem?_eq_getElem hj, hm]; rfl
theorem cells_of {w : World} {g : Nat} {d : Array C} (h : HoldsK encC 2 w g 0 d) : CellsC w g 0 d.toList := by
  intro j c hj
  have hlt : j < d.size := by
    rcases Nat.lt_or_ge j d.size with h1 | h1
    · exact h1
    · rw [List.getElem?_eq_none (by simpa using h1)] at hj; exact absurd hj (by simp)
  have e : d[j]! = c := by
    rw [getElem!_pos d j hlt]
    rw [List.getElem?_eq_getElem (by simpa using hlt)] at hj
    simpa using hj
  have h0 := (h.cell hlt (c := 0) (by omega)).1
  have h1 := (h.cell hlt (c := 1) (by omega)).1
  rw [e] at h0 h1
  exact ⟨h0, h1⟩
theorem perm_of {d d' : Array C} (h : PermIn 0 d.size d d') : d'.toList.Perm d.toList := by
  have h2 := h.2.2
  have e : d'.extract 0 d.size = d' := by rw [← h.1]; simp
  rw [e] at h2
  simpa using h2
theorem rises_of {d d' : Array C} (h : SortedIn (ltOf cmpC) 0 d.size d') (hs : d'.size = d.size) (hn : d'.toList.Nodup) : risesC d'.toList := by
  unfold risesC
  rw [List.pairwise_iff_getElem]
  intro i j hi hj hij
  have hi' : i < d'.size := by simpa using hi
  have hj' : j < d'.size := by simpa using hj
  have h1 := h i j (by omega) hij (by omega)
  rw [ltOf_cmpC, getElem!_pos d' j hj', getElem!_pos d' i hi'] at h1
  simp only [Array.getElem_toList]
  cases h2 : ltC d'[i] d'[j]
  · have e := ltC_total h2 h1
    have hne := (List.pairwise_iff_getElem.1 hn) i j hi hj hij
    simp only [Array.getElem_toList] at hne
    exact absurd e hne
  · rfl
theorem below_sort {w : World} {g n : Nat} {d : Array C} {os : Array Obj} {B : Nat} (hB : B ≤ g) (hg : g < w.heap.size) : Below B w (sortWorldK encC 2 w g 0 n d os) := by
  unfold sortWorldK putRowK putRow mapBlock
  refine ⟨rfl, rfl, rfl, by simp [grow, ahead], fun k hk => ?_⟩
  have hne : g ≠ k := by omega
  have hk2 : k < w.heap.size := by omega
  simp [grow, ahead, Array.getElem?_append, Array.getElem_modify, hne, hk2]

theorem sort_any (u : List C) (base g cap : Nat) (w : World) (h : OwnsC w base (.slice (some ⟨g, 0, none⟩) u.length cap) u) (hnd : u.Nodup) (hl : u.length ≤ 100000) :
    Calls Tryd.prog 54 #[.slice (some ⟨g, 0, none⟩) u.length cap, .func (.func 32) #[] #[]] w fun e w' => e = .returned (.tuple #[]) ∧ ∃ o, risesC o ∧ o.Perm u ∧ CRow w' (.slice (some ⟨g, 0, none⟩) u.length cap) o ∧ ∀ B, B ≤ g → Below B w w' := by
  have eg : ∀ args w, (callFunc 32 args).run Tryd.prog w = .ok (.enter 32 args) w := enters_of Tryd.func32 (by kernel_rfl) rfl
  have hg : g < w.heap.size := (World.ownsRow.lt h g rfl).2
  have hH := holds_of h
  have hcon := AnyQ.slices_SortFunc sortC 2 Tryd.isAgg25 Tryd.sizeOf25 encC (fun _ => rfl) (fun x v hv => by simp [encC] at hv; rcases hv with rfl | rfl <;> rfl) cmpC swoC 32 #[] g 0 cap u.toArray w eg (cmpLays g 0 _ w) hH hg (by simp; omega)
  have hlen : u.toArray.size = u.length := by simp
  rw [hlen] at hcon
  change Calls Tryd.prog 54 _ _ _ at hcon
  refine hcon.mono ?_
  rintro e w' ⟨rfl, d', n, os, hp, hs, rfl⟩
  have hp2 : PermIn 0 u.toArray.size u.toArray d' := by rw [hlen]; exact hp
  have hs2 : SortedIn (ltOf cmpC) 0 u.toArray.size d' := by rw [hlen]; exact hs
  have hperm : d'.toList.Perm u := perm_of hp2
  have hsz : d'.size = u.toArray.size := hp2.1
  refine ⟨rfl, d'.toList, rises_of hs2 hsz (hperm.nodup_iff.2 hnd), hperm, .inr ⟨g, 0, cap, ?_, ?_, ?_⟩, fun B hB => below_sort hB hg⟩
  · rw [show d'.toList.length = u.length from hperm.length_eq]
  · exact Nat.lt_of_lt_of_le hg (below_sort (Nat.le_refl g) hg (w := w) (n := n) (d := d') (os := os)).size
  · refine cells_of ?_
    unfold sortWorldK
    apply holdsK_grow
    · simpa [putRowK, putRow, mapBlock, ahead] using hg
    · apply holdsK_putRowK (d0 := u.toArray)
      · exact hH
      · exact hsz
end Go.Proofs.YtdikaomebbpmhabDoor
