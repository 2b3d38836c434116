/- A term of its own memory: Copy. -/
import Derived.Deep.RegionHeld3
import Derived.Test.YtocfamcclfhkcaaGreatYCopyA
namespace Go.Proofs.YtocfamcclfhkcaaGreat
open Go.RowKit
set_option linter.unusedVariables false
set_option linter.unusedSimpArgs false

/-- A step of a region that draws its order, shut. -/
structure StepP (P : Program) (ops : Array Oper) (Q : Exit → Act → World → Prop) (o : Oper) (a : Act) (w : World) (K : Act → World → Prop) : Prop where
  out : if Region.wanted o (yielded ops a.tmps) = true then Oper.wp P o a w K Q else K (a.put o.dst undef) w
theorem ready_cons {P : Program} {md : Region.Mode} {ops : Array Oper} {Q : Exit → Act → World → Prop} {S : World → Prop} {fuel : Nat} {listed : Array Bool} {a : Act} {w : World} {i : Nat} {o : Oper} {rs : List Nat} (ho : ops[i]? = some o)
    (h : ∀ K' : Act → World → Prop, Shut (∀ a w, S w → (S w → wpAnyH P md ops Q S fuel (listed.setIfInBounds i true) a w) → K' a w) → StepP P ops Q o a w K')
    (hs : AllReadyH P md ops Q S fuel listed a w rs) : AllReadyH P md ops Q S fuel listed a w (i :: rs) := AllReadyH.cons ho (fun K' hK => (h K' hK).out) hs
def BrS (s : Nat) (vf vk : Value) (w : World) : Prop := w.cell? ⟨s, 0, none⟩ = some vf ∧ w.cell? ⟨s, 1, none⟩ = some vk
def CbC (N : Nat) : Prop := ∀ (b : List C × List Tm) (fa : Option Addr) (n1 fc : Nat) (ka : Option Addr) (n2 kc : Nat) (w : World), ClRow Tt w b.1 (.slice fa n1 fc) → KdT Tt w (TmIn Tt w) b.2 (.slice ka n2 kc) → b.1.length ≤ N → blkL b.2 ≤ N →
  Calls Tryz.prog 122 #[.agg #[.slice fa n1 fc, .slice ka n2 kc]] w fun e w' => ∃ fa' fc' ka' kc', e = .returned (.agg #[.slice fa' b.1.length fc', .slice ka' b.2.length kc']) ∧ ClRow (OkN w.heap.size w') w' b.1 (.slice fa' b.1.length fc') ∧ KdT (OkN w.heap.size w') w' (TmIn (OkN w.heap.size w') w') b.2 (.slice ka' b.2.length kc') ∧ Below w.heap.size w w'
set_option maxRecDepth 100000 in
set_option maxHeartbeats 4000000 in
theorem copyBranch_step (N : Nat) (hN : N ≤ 100000) (IH : BcC N) : CbC N := by
  intro b fa n1 fc ka n2 kc w h1 h2 hb hb'
  have eg := copy_eg
  obtain ⟨w2, hw2⟩ : ∃ w2, w2 = (w.alloc (.cells #[.slice fa n1 fc, .slice ka n2 kc] 61)).alloc (.cells #[.slice none 0 0, .slice none 0 0] 61) := ⟨_, rfl⟩
  have hb2 : Below w.heap.size w w2 := by rw [hw2]; exact bchain (belowA _ _) (belowA _ _)
  have m1 : w2.heap[w.heap.size]? = some (.cells #[.slice fa n1 fc, .slice ka n2 kc] 61 (0, 0)) := by
    rw [hw2]; exact (Below.heap_alloc _ _ _ (by simp)).trans (heapNew w _)
  have m2 : BlkC w2 (w.heap.size + 1) 61 2 := ⟨#[.slice none 0 0, .slice none 0 0], by
    rw [hw2]; have := heapNew (w.alloc (.cells #[.slice fa n1 fc, .slice ka n2 kc] 61)) (.cells #[.slice none 0 0, .slice none 0 0] 61); rwa [World.size_alloc] at this, rfl⟩
  have s2 : w2.heap.size = w.heap.size + 2 := by rw [hw2]; simp
  have hS0 : BrS w.heap.size (.slice fa n1 fc) (.slice ka n2 kc) w2 := by
    refine ⟨?_, ?_⟩ <;> (unfold World.cell?; simp [m1])
  have HS : Hid (∀ w', Below w2.heap.size w2 w' → BrS w.heap.size (.slice fa n1 fc) (.slice ka n2 kc) w') := fun w' q => ⟨(q.cell (p := ⟨w.heap.size, 0, none⟩) (by show w.heap.size < _; omega)).trans hS0.1, (q.cell (p := ⟨w.heap.size, 1, none⟩) (by show w.heap.size < _; omega)).trans hS0.2⟩
  have H2 : Hid (_ = _) := hw2
  have c1 := clone_any b.1 _ w2.drew ((h1.blw hb2).keep (Nat.le_refl _) (fun _ h => h) (fun _ _ _ => rfl)) (by omega)
  have Hk : Hid (∀ w', Below w2.heap.size w2 w' → Calls Tryz.prog 120 #[.slice ka n2 kc, .func (.func 72) #[] #[]] w' fun e w'' => ∃ v', e = .returned v' ∧ KdT (OkN w'.heap.size w'') w'' (TmIn (OkN w'.heap.size w'') w'') b.2 v' ∧ Below w'.heap.size w' w'') := fun w' q => IH b.2 _ w' (h2.blw (bchain hb2 q)) hb'
  obtain ⟨s, hs⟩ : ∃ s, s = w.heap.size := ⟨_, rfl⟩
  clear hw2 m1 h1 h2
  go_enter Tryz.func122, Tryz.ntmps122
  go_upto_region 1 with fail
  rw [← H2.out]
  clear H2
  refine wp_region_held_drew (S := BrS w.heap.size (.slice fa n1 fc) (.slice ka n2 kc)) (by kernel_rfl) hS0 (fun hS => ?_)
  refine wpAnyH_take (i := 0) (v := .pointer (some ⟨w.heap.size, 0, none⟩)) rfl (by kernel_rfl) (by kernel_rfl) (by kernel_rfl) (fun _ _ _ h => h) (Or.inl ⟨by rfl, fun w hS => by go_simp⟩) hS ?_
  simp only [Act.put, List.getElem_toArray, List.getElem_cons_zero, List.getElem_cons_succ, List.setIfInBounds_toArray, List.set_cons_zero, List.set_cons_succ]
  refine wpAnyH_take (i := 1) (v := .slice fa n1 fc) rfl (by kernel_rfl) (by kernel_rfl) (by kernel_rfl) (fun _ _ _ h => h) (Or.inl ⟨by rfl, fun w hS => by have e := hS.1; go_simp⟩) hS ?_
  simp only [Act.put, List.getElem_toArray, List.getElem_cons_zero, List.getElem_cons_succ, List.setIfInBounds_toArray, List.set_cons_zero, List.set_cons_succ]
  refine wpAnyH_take (i := 3) (v := .pointer (some ⟨w.heap.size, 1, none⟩)) rfl (by kernel_rfl) (by kernel_rfl) (by kernel_rfl) (fun _ _ _ h => h) (Or.inl ⟨by rfl, fun w hS => by go_simp⟩) hS ?_
  simp only [Act.put, List.getElem_toArray, List.getElem_cons_zero, List.getElem_cons_succ, List.setIfInBounds_toArray, List.set_cons_zero, List.set_cons_succ]
  refine wpAnyH_take (i := 4) (v := .slice ka n2 kc) rfl (by kernel_rfl) (by kernel_rfl) (by kernel_rfl) (fun _ _ _ h => h) (Or.inl ⟨by rfl, fun w hS => by have e := hS.2; go_simp⟩) hS ?_
  simp only [Act.put, List.getElem_toArray, List.getElem_cons_zero, List.getElem_cons_succ, List.setIfInBounds_toArray, List.set_cons_zero, List.set_cons_succ]
  refine wpAnyH_ready (rs := [2]) (by kernel_rfl) (by simp) ?_
  refine ready_cons rfl (fun KK hKK => ?_) AllReadyH.nil
  refine ⟨?_⟩
  go_simp
  refine c1.mono ?_
  rintro e w3 ⟨v3, rfl, hO3, hb3⟩
  have q3 : Below w2.heap.size w2 w3 := ((Below.refl _ _).drew).trans hb3
  obtain ⟨pa, ca, rfl⟩ := OwnsC.len hO3
  have cB := Hk.out w3 q3
  refine hKK.out _ _ (HS.out w3 q3) (fun hS3 => ?_)
  clear c1 hKK KK
  try simp only [Act.put, List.getElem_toArray, List.getElem_cons_zero, List.getElem_cons_succ, List.setIfInBounds_toArray, List.set_cons_zero, List.set_cons_succ]
  refine wpAnyH_ready (rs := [5]) (by kernel_rfl) (by simp) ?_
  refine ready_cons rfl (fun KK hKK => ?_) AllReadyH.nil
  refine ⟨?_⟩
  go_simp
  refine cB.mono ?_
  rintro e w4 ⟨v4, rfl, hK4, hb4⟩
  have q4 := bchain q3 hb4
  obtain ⟨ka4, kc4, rfl, _⟩ := id hK4
  refine hKK.out _ _ (HS.out w4 q4) (fun hS4 => ?_)
  clear cB hKK KK
  try simp only [Act.put, List.getElem_toArray, List.getElem_cons_zero, List.getElem_cons_succ, List.setIfInBounds_toArray, List.set_cons_zero, List.set_cons_succ]
  have m4 := m2.kn (No := fun _ => True) (Kn.of_below q4) trivial
  obtain ⟨o0, e0⟩ := m4.cell 0 (by omega)
  obtain ⟨o1, e1⟩ := m4.cell 1 (by omega)
  have f0 := m4.soft 0
  have f1 := m4.soft 1
  obtain ⟨z1, hz1⟩ : ∃ z, z = b.1.length := ⟨_, rfl⟩
  obtain ⟨z2, hz2⟩ : ∃ z, z = b.2.length := ⟨_, rfl⟩
  have hcl := (OwnsC.okn hO3).okn hb4
  obtain ⟨w5, hw5⟩ : ∃ w5, w5 = (w4.setCell ⟨w.heap.size + 1, 0, none⟩ (.slice pa b.1.length ca)).setCell ⟨w.heap.size + 1, 1, none⟩ (.slice ka4 b.2.length kc4) := ⟨_, rfl⟩
  have k5 : Kn (fun q => q ≠ w.heap.size + 1) w4 w5 := by
    rw [hw5]
    exact ((Kn.refl _ _).setCell (p := ⟨w.heap.size + 1, 0, none⟩) (.inl fun h => h rfl) _).setCell (p := ⟨w.heap.size + 1, 1, none⟩) (.inl fun h => h rfl) _
  have hS5 : BrS w.heap.size (.slice fa n1 fc) (.slice ka n2 kc) w5 := ⟨(k5.cell (p := ⟨w.heap.size, 0, none⟩) (by show w.heap.size ≠ _; omega) (by show w.heap.size < _; have := q4.size; omega)).trans hS4.1, (k5.cell (p := ⟨w.heap.size, 1, none⟩) (by show w.heap.size ≠ _; omega) (by show w.heap.size < _; have := q4.size; omega)).trans hS4.2⟩
  have m40 := m4.set 0 (.slice pa b.1.length ca)
  have g0 : w5.cell? ⟨w.heap.size + 1, 0, none⟩ = some (.slice pa b.1.length ca) := by rw [hw5, m40.get (by omega), if_neg (by omega), m4.get (by omega), if_pos rfl]
  have g1 : w5.cell? ⟨w.heap.size + 1, 1, none⟩ = some (.slice ka4 b.2.length kc4) := by rw [hw5, m40.get (by omega), if_pos rfl]
  have hsz3 : w2.heap.size ≤ w3.heap.size := q3.size
  have HR : Hid (ClRow (OkN w.heap.size w5) w5 b.1 (.slice pa b.1.length ca) ∧ KdT (OkN w.heap.size w5) w5 (TmIn (OkN w.heap.size w5) w5) b.2 (.slice ka4 b.2.length kc4) ∧ Below w.heap.size w w5) := by
    have up : ∀ q, OkN w2.heap.size w4 q → OkN w.heap.size w5 q := fun q ⟨h1, cs, ty, h2⟩ => ⟨by omega, cs, ty, (k5.block q (by omega) (Array.getElem?_eq_some_iff.1 h2).1).trans h2⟩
    refine ⟨hcl.keep k5.size (fun q hq => up q hq) (fun g hg hs => k5.block g (by have : w2.heap.size ≤ g := hg.1; omega) hs), hK4.all k5.size (fun q hq => up q (hq.mono hsz3)) (fun g hg hs => k5.block g (by have : w3.heap.size ≤ g := hg.1; omega) hs), ?_⟩
    exact (bchain hb2 q4).trans (k5.below (fun q hq => by omega) (by have := q4.size; omega))
  rw [← hz1, ← hz2] at hw5 HR
  rw [← hz1] at g0
  rw [← hz2] at g1
  have Hz : Hid (z1 = b.1.length ∧ z2 = b.2.length) := ⟨hz1, hz2⟩
  try simp only [← hz1, ← hz2]
  have H5 : Hid (_ = _) := hw5
  clear hw5 hz1 hz2 hcl m40 hK4 hO3 hb3 hb4 k5 m4 m2 hS hS0 hS3
  refine wpAnyH_take (i := 6) (v := .agg #[.slice pa z1 ca, .slice ka4 z2 kc4]) rfl (by kernel_rfl) (by kernel_rfl) (by kernel_rfl) (fun _ _ _ h => h) (Or.inl ⟨by rfl, fun w hS => by go_simp⟩) hS4 ?_
  try simp only [Act.put, List.getElem_toArray, List.getElem_cons_zero, List.getElem_cons_succ, List.setIfInBounds_toArray, List.set_cons_zero, List.set_cons_succ]
  refine wpAnyH_ready (rs := [7]) (by kernel_rfl) (by simp) ?_
  refine ready_cons rfl (fun KK hKK => ?_) AllReadyH.nil
  refine ⟨?_⟩
  go_simp
  rw [← H5.out]
  refine hKK.out _ _ hS5 (fun hS6 => ?_)
  clear hKK KK H5
  try simp only [Act.put, List.getElem_toArray, List.getElem_cons_zero, List.getElem_cons_succ, List.setIfInBounds_toArray, List.set_cons_zero, List.set_cons_succ]
  refine wpAnyH_done (by kernel_rfl) ?_ _
  clear e0 e1 f0 f1 hS4 hS5 hS6
  go_wp2
  obtain ⟨a1, a2, a3⟩ := HR.out
  obtain ⟨a4, a5⟩ := Hz.out
  rw [← a4, ← a5]
  exact bodyPost_ret (v := .agg #[.slice pa z1 ca, .slice ka4 z2 kc4]) (by simp only [results, Tryz.results122]; simp [go_sem, g0, g1]) rfl ⟨pa, ca, ka4, kc4, rfl, a1, a2, a3⟩
end Go.Proofs.YtocfamcclfhkcaaGreat
