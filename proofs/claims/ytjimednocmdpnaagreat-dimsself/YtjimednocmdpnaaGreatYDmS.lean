/- Formulas in the places of dimensions: how great a term may become. -/
import Derived.Test.YtjimednocmdpnaaGreatYDmF
namespace Go.Proofs.YtjimednocmdpnaaGreat
open Go.RowKit
set_option linter.unusedVariables false
set_option linter.unusedSimpArgs false

/-- How great a term is, if each of its rows had 64 clauses, or as many as it has. -/
def capT : Tm → Nat := Tm.fold fun _ _ s r ks sys => 1 + max r.length 64 + s.size + ks.sum + (sys.map fun b => 1 + max b.1.length 64 + b.2.sum).sum
def capL (l : List Tm) : Nat := (l.map capT).sum
def capS (l : List (List C × List Tm)) : Nat := (l.map fun b => 1 + max b.1.length 64 + capL b.2).sum
theorem cap_eq (t : Tm) : capT t = 1 + max t.r.length 64 + t.name.size + capL t.kids + capS t.sys := by
  unfold capT; rw [fold_mk]; simp only [List.map_map, Function.comp_def]; rfl
def DOp.len64 (o : DOp) : Prop := ∀ l bd, (o.fn l bd).1.length ≤ max l.length 64 ∧ (o.fc l bd).1.length ≤ max l.length 64
theorem capK_le {o : DOp} {k : Int} {bd : Nat} : ∀ (l : List Tm) (k0 : Nat), (∀ x ∈ l, ∀ d, capT (dT o x d) ≤ capT x) → ((l.zipIdx k0).map fun p => capT (dT o p.1 (bd + bdK k p.2))).sum ≤ (l.map capT).sum
  | [], _, _ => by simp
  | x :: l, k0, h => by
    have h1 := h x (by simp) (bd + bdK k k0)
    have h2 := capK_le (o := o) (k := k) (bd := bd) l (k0 + 1) (fun y hy => h y (List.mem_cons_of_mem _ hy))
    simp only [List.zipIdx_cons, List.map_cons, List.sum_cons]
    omega
theorem capM_le {o : DOp} {d : Nat} : ∀ (l : List Tm), (∀ x ∈ l, ∀ d, capT (dT o x d) ≤ capT x) → capL (l.map fun x => dT o x d) ≤ capL l
  | [], _ => by simp [capL]
  | x :: l, h => by
    have h1 := h x (by simp) d
    have h2 := capM_le (o := o) (d := d) l (fun y hy => h y (List.mem_cons_of_mem _ hy))
    unfold capL at h2 ⊢
    simp only [List.map_cons, List.sum_cons]
    omega
theorem capB_le {o : DOp} (ho : o.len64) {k : Int} {bd : Nat} : ∀ (l : List (List C × List Tm)), (∀ b ∈ l, ∀ x ∈ b.2, ∀ d, capT (dT o x d) ≤ capT x) → capS (dS o k l bd) ≤ capS l
  | [], _ => by simp [capS, dS]
  | b :: l, h => by
    have h2 := capB_le ho (k := k) (bd := bd) l (fun y hy => h y (List.mem_cons_of_mem _ hy))
    have h1 := (ho b.1 bd).2
    have h3 := capM_le (o := o) (d := bd + moreK k) b.2 (h b (by simp))
    have e : capS (b :: l) = (1 + max b.1.length 64 + capL b.2) + capS l := by simp [capS]
    rw [e]
    unfold dS at h2 ⊢
    rw [List.filter_cons]
    split
    · have e2 : ∀ m, capS (dB o k b bd :: m) = (1 + max (o.fc b.1 bd).1.length 64 + capL (b.2.map fun x => dT o x (bd + moreK k))) + capS m := fun m => by simp [capS, dB]
      rw [List.map_cons, e2]
      omega
    · omega
theorem cap_d {o : DOp} (ho : o.len64) : ∀ (n : Nat) (t : Tm) (bd : Nat), blk t ≤ n → capT (dT o t bd) ≤ capT t
  | 0, t, bd, hn => by have := blk_pos t; omega
  | n + 1, t, bd, hn => by
    have h1 : (ownP o t.kind t.r bd).1.length ≤ max t.r.length 64 := by
      unfold ownP
      split
      · exact (ho _ _).2
      · exact (ho _ _).1
    have h2 : capL (dK o t.kind t.kids bd) ≤ capL t.kids := by
      have := capK_le (o := o) (k := t.kind) (bd := bd) t.kids 0 (fun x hx d => cap_d ho n x d (by have := blk_kid hx; omega))
      unfold capL dK
      rw [List.map_map]
      exact this
    have h3 := capB_le ho (k := t.kind) (bd := bd) t.sys (fun b hb x hx d => cap_d ho n x d (by have := blk_sub hb hx; omega))
    have e := cap_eq (dT o t bd)
    rw [d_eq o t bd] at e ⊢
    rw [e, cap_eq t]
    show 1 + max (ownP o t.kind t.r bd).1.length 64 + t.name.size + capL (dK o t.kind t.kids bd) + capS (dS o t.kind t.sys bd) ≤ _
    omega
theorem cap_dT {o : DOp} (ho : o.len64) (t : Tm) (bd : Nat) : capT (dT o t bd) ≤ capT t := cap_d ho _ t bd (Nat.le_refl _)
theorem capL_ge : ∀ (l : List Tm), (∀ x ∈ l, blk x ≤ capT x ∧ capT x ≤ 65 * blk x) → blkL l ≤ capL l ∧ capL l ≤ 65 * blkL l
  | [], _ => by simp [capL, blkL]
  | x :: l, h => by
    have h1 := h x (by simp)
    have h2 := capL_ge l (fun y hy => h y (List.mem_cons_of_mem _ hy))
    unfold capL blkL at h2 ⊢
    simp only [List.map_cons, List.sum_cons]
    omega
theorem capS_ge : ∀ (l : List (List C × List Tm)), (∀ b ∈ l, ∀ x ∈ b.2, blk x ≤ capT x ∧ capT x ≤ 65 * blk x) → blkS l ≤ capS l ∧ capS l ≤ 65 * blkS l
  | [], _ => by simp [capS, blkS]
  | b :: l, h => by
    have h1 := capL_ge b.2 (h b (by simp))
    have h2 := capS_ge l (fun y hy => h y (List.mem_cons_of_mem _ hy))
    unfold capS blkS at h2 ⊢
    simp only [List.map_cons, List.sum_cons]
    omega
theorem cap_ge' : ∀ (n : Nat) (t : Tm), blk t ≤ n → blk t ≤ capT t ∧ capT t ≤ 65 * blk t
  | 0, t, hn => by have := blk_pos t; omega
  | n + 1, t, hn => by
    have h2 := capL_ge t.kids (fun x hx => cap_ge' n x (by have := blk_kid hx; omega))
    have h3 := capS_ge t.sys (fun b hb x hx => cap_ge' n x (by have := blk_sub hb hx; omega))
    rw [cap_eq, blk_eq]
    omega
theorem cap_ge (t : Tm) : blk t ≤ capT t ∧ capT t ≤ 65 * blk t := cap_ge' _ t (Nat.le_refl _)
theorem noT_cap : capT noT ≤ 65 := by
  rw [cap_eq]
  simp [noT, capL, capS]
  exact Nat.le_refl 65
theorem putOp_len (i : Int) (r : List C) : (putOp i r).len64 := fun l bd => by
  refine ⟨?_, ?_⟩ <;> (show (putRow _ i r l bd).1.length ≤ _; unfold putRow; split)
  · split
    · have := putF_len l (i + bd) (liftFF r 0 bd).1; omega
    · simp
  · simp; omega
  · split
    · have := rightA_len (ptA_right l (i + bd) (liftFF r 0 bd).1); omega
    · simp
  · simp; omega
theorem dropOp_len (i : Int) : (dropOp i).len64 := fun l bd => by
  refine ⟨?_, ?_⟩ <;> (show (l.map (drC (i + bd))).length ≤ _; simp; omega)
theorem cap_ans {o : DOp} (ho : o.len64) (t : Tm) : capT (ansD o t) ≤ capT t := by
  unfold ansD
  split
  · exact cap_dT ho t 0
  · have h1 := noT_cap
    have h2 : 65 ≤ capT t := by rw [cap_eq]; omega
    omega
end Go.Proofs.YtjimednocmdpnaaGreat
