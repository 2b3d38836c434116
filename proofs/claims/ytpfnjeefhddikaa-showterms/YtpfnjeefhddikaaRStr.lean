/- Rows of strings, and what the elements of a box are. -/
import Derived.Maps.AppendAt
import Derived.Test.YtpfnjeefhddikaaRTextM
namespace Go.Proofs.Ytpfnjeefhddikaa
open Go.RowKit
set_option linter.unusedVariables false
set_option linter.unusedSimpArgs false

/-- The slice value v owns the texts l, in a block from 'base' on. -/
def OwnsS (w : World) (base : Nat) (v : Value) (l : List Bs) : Prop := w.ownsRow base 9 1 v l.length (l.map fun x => .string (bs x))
theorem OwnsS.nil (w : World) (base : Nat) : OwnsS w base (.slice none 0 0) [] := World.ownsRow_nil _ _ _ _
theorem OwnsS.form {w : World} {base : Nat} {v : Value} {l : List Bs} (h : OwnsS w base v l) : ∃ a cap, v = .slice a l.length cap ∧ ∀ (j : Nat) (x : Bs), l[j]? = some x → ∃ g off, a = some ⟨g, off, none⟩ ∧ g < w.heap.size ∧ w.cell? ⟨g, off + j, none⟩ = some (.string (bs x)) := by
  have h0 := h
  obtain ⟨h1, h2 | ⟨g, cap, cur, rfl, hg, hh, hn, hc, hs, ht⟩⟩ := h
  · have e := List.length_eq_zero_iff.1 h2.2
    subst e
    exact ⟨none, 0, h2.1, fun j x hx => by simp at hx⟩
  · refine ⟨some ⟨g, 0, none⟩, cap, rfl, fun j x hx => ⟨g, 0, rfl, (World.ownsRow.lt h0 g rfl).2, ?_⟩⟩
    have hlt : j < l.length := by
      rcases Nat.lt_or_ge j l.length with h1 | h1
      · exact h1
      · rw [List.getElem?_eq_none h1] at hx; exact absurd hx (by simp)
    have e0 := World.ownsRow.cellAt h0 j (by omega)
    rw [List.getElem?_map, hx] at e0
    rw [Nat.zero_add]
    exact e0
theorem OwnsS.below {w w' : World} {base : Nat} {v : Value} {l : List Bs} (h : OwnsS w base v l) (hb : Below w.heap.size w w') : OwnsS w' base v l := by
  have hlt := World.ownsRow.lt h
  obtain ⟨h1, h2⟩ := h
  refine ⟨h1, ?_⟩
  rcases h2 with h2 | ⟨g, cap, cur, rfl, hg, hh, r⟩
  · exact .inl h2
  · exact .inr ⟨g, cap, cur, rfl, hg, (hb.block g (hlt g rfl).2).trans hh, r⟩
theorem OwnsS.grown {W W' : World} {base : Nat} {v : Value} {u : List Bs} (hO : OwnsS W base v u) (hg : W.grownBy W' v.ownBlock) (hb : base ≤ W.heap.size) : Below base W W' :=
  (Below.refl base W).grown hg hb (fun k hk => (World.ownsRow.lt hO k hk).1)
/-- append of one text onto a row that is owned, in a plain statement. -/
theorem wpList_append_strR {w : World} {ops : Array Oper} {rest : List Oper} {o : Oper} {a : Act} {Q : Exit → Act → World → Prop}
    (hgd : o.guard = none) (s x : Operand)
    (ho : o.op = .call { callee := .builtin .append, args := #[s, x], argTypes := #[23, 23] }) (base : Nat) (v : Value) (ad : Addr) (u : List Bs) (t : Bs) (hs : a.eval s = v) (hx : a.eval x = .slice (some ad) 1 1)
    (hO : OwnsS w base v u) (hr : w.cell? ad = some (.string (bs t))) (hn : u.length ≤ 200000) (hb : base ≤ w.heap.size)
    (h : ∀ v' w', OwnsS w' base v' (u ++ [t]) → w.grownBy w' v.ownBlock → wpList Try.prog ops Q rest (a.put o.dst v') w') : wpList Try.prog ops Q (o :: rest) a w := by
  refine wpList_plain hgd fun K hK' => ?_
  have hu : Try.prog.underlying 23 = some (.slice 9) := by kernel_rfl
  have hi : (Try.prog.info? 9).map (fun i => (i.zero, i.size, i.bytes)) = some (some (.string ByteArray.empty), 1, 16) := by kernel_rfl
  obtain ⟨i0, hi, hz0, hz1, hz2⟩ := info_parts hi
  obtain ⟨v', w', hrun, r1, r2, _, r4⟩ := run_append_own_at (P := Try.prog) w base 23 o.type 9 i0 _ 1 16 hu hi hz0 hz1 hz2 rfl (by decide) v u.length (u.map fun x => .string (bs x)) hO ad 1 1 [.string (bs t)] rfl (by
    intro j x hj
    match j, hj with
    | 0, hj => simp at hj; subst hj; obtain ⟨g, off, sp⟩ := ad; simpa [Addr.add] using hr
    | j + 1, hj => simp at hj) (by
    intro u hu
    simp at hu
    subst hu; rfl) (by unfold maxLen; omega) (by omega) hb
  have r1' : OwnsS w' base v' (u ++ [t]) := by
    unfold OwnsS
    rw [List.map_append, List.length_append]
    exact r1
  unfold Oper.wp
  simp [execOp, ho, resolve, invoke, builtin, hs, hx, hrun, Result.andThen]
  exact hK' _ _ (h v' w' r1' r2)

theorem okF_pos {f g : Nat} {t : Sx} (h : okF f g t = true) : ∃ k, f = k + 1 := by
  cases f with
  | zero => rw [okF_z] at h; cases h
  | succ f => exact ⟨f, rfl⟩
theorem eq_facts {f : Nat} {q : Sx} (h : okF f 4 q = true) : (∃ d, q.names = [d]) ∧ lineF f q = eqR q := by
  obtain ⟨f, rfl⟩ := okF_pos h
  rw [okF_s] at h
  have h : eqB q = true := h
  unfold eqB at h
  simp only [Bool.and_eq_true, decide_eq_true_eq] at h
  obtain ⟨hk, _, hd, _⟩ := h
  refine ⟨?_, ?_⟩
  · unfold digitsB at hd
    match hq : q.names, hd with
    | [d], _ => exact ⟨d, rfl⟩
  · rw [lineF_s]
    unfold lineR
    rw [if_neg (by omega), if_neg (by omega), if_neg (by omega), if_neg (by omega), if_neg (by omega), if_neg (by omega), if_neg (by omega), if_neg (by omega), if_neg (by omega), if_neg (by omega), if_neg (by omega), if_neg (by omega), if_pos (by omega)]
def faceT (l : List Sx) : Bs := if l = [] then [49] else (l.map eqR).flatten
theorem face_facts {f : Nat} {c : Sx} (h : okF f 3 c = true) : (∀ q ∈ c.kids, ∃ d, q.names = [d]) ∧ lineF f c = faceT c.kids := by
  obtain ⟨f, rfl⟩ := okF_pos h
  rw [okF_s] at h
  have h : faceB (okF f) c = true := h
  unfold faceB at h
  simp only [Bool.and_eq_true, decide_eq_true_eq, List.all_eq_true] at h
  obtain ⟨hk, _, hq⟩ := h
  refine ⟨fun q hm => (eq_facts (hq q hm)).1, ?_⟩
  rw [lineF_s]
  unfold lineR
  rw [if_neg (by omega), if_neg (by omega), if_neg (by omega), if_neg (by omega), if_neg (by omega), if_neg (by omega), if_neg (by omega), if_neg (by omega), if_neg (by omega), if_neg (by omega), if_neg (by omega), if_pos (by omega)]
  unfold faceR faceT
  rw [List.map_congr_left fun q hm => (eq_facts (hq q hm)).2]
theorem elem_facts {f : Nat} {y : Sx} (h : okF f 2 y = true) : ∃ c, (∀ q ∈ c.kids, ∃ d, q.names = [d]) ∧ ((y.kids = [c] ∧ lineF f y = faceT c.kids) ∨ ∃ b, y.kids = [c, b] ∧ okF (f - 1) 0 b = true ∧ lineF f y = faceT c.kids ++ ([32, 45, 62, 32] ++ partF (f - 1) 0 b)) := by
  obtain ⟨f, rfl⟩ := okF_pos h
  rw [okF_s] at h
  have h : elemB (okF f) y = true := h
  unfold elemB at h
  simp only [Bool.and_eq_true, decide_eq_true_eq, Bool.or_eq_true] at h
  obtain ⟨hk, _, hq⟩ := h
  have hl : lineF (f + 1) y = elemR (lineF f) y := by
    rw [lineF_s]
    unfold lineR
    rw [if_neg (by omega), if_neg (by omega), if_neg (by omega), if_neg (by omega), if_neg (by omega), if_neg (by omega), if_neg (by omega), if_neg (by omega), if_neg (by omega), if_neg (by omega), if_pos (by omega)]
  rcases hq with hq | hq
  · obtain ⟨c, e, hc⟩ := are1_inv hq
    have hf := face_facts hc
    refine ⟨c, hf.1, .inl ⟨e, ?_⟩⟩
    rw [hl]
    unfold elemR
    rw [kd_kids e, e, if_neg (by simp), List.append_nil]
    exact hf.2
  · obtain ⟨c, b, e, hc, hb⟩ := are2_inv hq
    have hf := face_facts hc
    refine ⟨c, hf.1, .inr ⟨b, e, hb, ?_⟩⟩
    rw [hl]
    unfold elemR
    rw [kd_kids e, kd_kids e, e, if_pos (show [c, b].length = 2 from rfl)]
    show lineF f c ++ ([32, 45, 62, 32] ++ partR (lineF f) 0 b) = _
    rw [hf.2]
    rfl
theorem eqs_len (l : List Sx) : ((l.map eqR).flatten).length ≤ 16 * blkK l := by
  unfold blkK
  induction l with
  | nil => simp
  | cons x l ih =>
    have h1 := head_len x.names
    have h2 := blk_sum x
    have h3 : (eqR x).length ≤ 16 * blk x := by
      unfold eqR
      simp only [List.length_cons, List.length_append, List.length_nil]
      omega
    rw [List.map_cons, List.flatten_cons, List.length_append, List.map_cons, List.sum_cons]
    omega
theorem eqs_take {l : List Sx} {k : Nat} {q : Sx} (h : l[k]? = some q) : ((l.take (k + 1)).map eqR).flatten = ((l.take k).map eqR).flatten ++ eqR q := by
  rw [List.take_add_one, h]
  simp
theorem blkK_kid (t : Sx) : blkK t.kids ≤ blk t := by have := blk_sum t; omega
theorem blkK_take (l : List Sx) (k : Nat) : blkK (l.take k) ≤ blkK l := by
  unfold blkK
  rw [List.map_take]
  exact sum_take _ k
end Go.Proofs.Ytpfnjeefhddikaa
