/- The document's answer: Least. Nothing that lay before the call turns. -/
import Derived.Deep.RegionHeld3
import Derived.Test.YtdikaomebbpmhabDoorCNeed
namespace Go.Proofs.YtdikaomebbpmhabDoor
open Go.RowKit Go.Sort
set_option linter.unusedVariables false
set_option linter.unusedSimpArgs false

/-! ### putting in -/
structure OutIs (l : List C) (k : Nat) (out : List C) : Prop where
  rises : risesC out
  mem : ∀ y, y ∈ out ↔ y ∈ l.take k ∧ neededB l y = true
  len : out.length ≤ k
theorem mem_take_step {l : List C} {k : Nat} {c y : C} (h : l[k]? = some c) : y ∈ l.take (k + 1) ↔ y ∈ l.take k ∨ y = c := by
  have e : l.take (k + 1) = l.take k ++ [c] := by rw [List.take_add_one, h]; rfl
  rw [e]; simp
theorem OutIs.start (l : List C) : OutIs l 0 [] := ⟨List.Pairwise.nil, fun y => by simp, Nat.le_refl _⟩
theorem OutIs.skip {l out : List C} {k : Nat} {c : C} (h : OutIs l k out) (hk : l[k]? = some c) (hn : neededB l c = false) : OutIs l (k + 1) out :=
  ⟨h.rises, fun y => by
    rw [h.mem, mem_take_step hk]
    constructor
    · rintro ⟨h1, h2⟩; exact ⟨.inl h1, h2⟩
    · rintro ⟨h1 | rfl, h2⟩
      · exact ⟨h1, h2⟩
      · exact absurd h2 (by rw [hn]; simp), Nat.le_succ_of_le h.len⟩
theorem OutIs.there {l out : List C} {k : Nat} {c : C} (h : OutIs l k out) (hk : l[k]? = some c) (hc : c ∈ out) : OutIs l (k + 1) out :=
  ⟨h.rises, fun y => by
    rw [h.mem, mem_take_step hk]
    constructor
    · rintro ⟨h1, h2⟩; exact ⟨.inl h1, h2⟩
    · rintro ⟨h1 | rfl, h2⟩
      · exact ⟨h1, h2⟩
      · exact (h.mem y).1 hc, Nat.le_succ_of_le h.len⟩
theorem rises_insert {out : List C} {c : C} {j : Nat} (h : risesC out) (h1 : ∀ d ∈ out.take j, ltC d c = true) (h2 : ∀ d ∈ out.drop j, ltC c d = true) : risesC (out.take j ++ [c] ++ out.drop j) := by
  unfold risesC at *
  have h0 := h
  rw [← List.take_append_drop j out, List.pairwise_append] at h0
  rw [List.pairwise_append, List.pairwise_append]
  refine ⟨⟨h0.1, List.pairwise_singleton _ _, fun a ha b hb => ?_⟩, h0.2.1, fun a ha b hb => ?_⟩
  · rw [List.mem_singleton.1 hb]; exact h1 a ha
  · rcases List.mem_append.1 ha with ha | ha
    · exact h0.2.2 a ha b hb
    · rw [List.mem_singleton.1 ha]; exact h2 b hb
theorem OutIs.put {l out : List C} {k j : Nat} {c : C} (h : OutIs l k out) (hk : l[k]? = some c) (hn : neededB l c = true) (h1 : ∀ d ∈ out.take j, ltC d c = true) (h2 : ∀ d ∈ out.drop j, ltC c d = true) : OutIs l (k + 1) (out.take j ++ [c] ++ out.drop j) :=
  ⟨rises_insert h.rises h1 h2, fun y => by
    have e : y ∈ out.take j ++ [c] ++ out.drop j ↔ y ∈ out ∨ y = c := by
      have := List.take_append_drop j out
      constructor
      · intro hy
        rcases List.mem_append.1 hy with hy | hy
        · rcases List.mem_append.1 hy with hy | hy
          · exact .inl (List.mem_of_mem_take hy)
          · exact .inr (List.mem_singleton.1 hy)
        · exact .inl (List.mem_of_mem_drop hy)
      · rintro (hy | rfl)
        · rw [← this] at hy
          rcases List.mem_append.1 hy with hy | hy
          · exact List.mem_append_left _ (List.mem_append_left _ hy)
          · exact List.mem_append_right _ hy
        · exact List.mem_append_left _ (List.mem_append_right _ (by simp))
    rw [e, h.mem, mem_take_step hk]
    constructor
    · rintro (⟨a, b⟩ | rfl)
      · exact ⟨.inl a, b⟩
      · exact ⟨.inr rfl, hn⟩
    · rintro ⟨a | rfl, b⟩
      · exact .inl ⟨a, b⟩
      · exact .inr rfl, by
    have := h.len
    simp
    omega⟩
theorem drop_gt {out : List C} {c d : C} {j : Nat} (h : risesC out) (hd : out[j]? = some d) (hlt : ltC d c = false) (hne : d ≠ c) : ∀ y ∈ out.drop j, ltC c y = true := by
  have hcd : ltC c d = true := by
    cases e : ltC c d
    · exact absurd (ltC_total hlt e) hne
    · rfl
  intro y hy
  obtain ⟨hj, rfl⟩ := List.getElem?_eq_some_iff.1 hd
  rw [List.drop_eq_getElem_cons hj] at hy
  rcases List.mem_cons.1 hy with rfl | hy
  · exact hcd
  · have h0 := h
    unfold risesC at h0
    rw [← List.take_append_drop j out, List.pairwise_append, List.drop_eq_getElem_cons hj] at h0
    exact ltC_trans hcd ((List.pairwise_cons.1 h0.2.1).1 y hy)
theorem OutIs.least {l out : List C} (h : OutIs l l.length out) : IsLeast l out := ⟨h.rises, fun c => by rw [h.mem, List.take_length]⟩
theorem take_lt_step {out : List C} {c d : C} {j : Nat} (h : ∀ y ∈ out.take j, ltC y c = true) (hd : out[j]? = some d) (hlt : ltC d c = true) : ∀ y ∈ out.take (j + 1), ltC y c = true := fun y hy => by
  rcases (mem_take_step hd).1 hy with h1 | rfl
  · exact h y h1
  · exact hlt

theorem run_append_nil (n cap : Nat) (hn : n ≤ cap) (ad : Addr) (ty : TypeId) (w : World) : (Builtin.append_ #[22, 22] ty #[.slice (some ad) n cap, .slice none 0 0]).run Tryd.prog w = .ok (.slice (some ad) n cap) w := by
  simp [Builtin.append_, run_underlying Tryd.underlying22, Result.andThen, Builtin.lenOf, Builtin.firstCells, storeCells, hn]
/-- append, in a statement whose order is open: onto a row of the call's own. -/
theorem step_append_C {ops : Array Oper} {o : Oper} {a : Act} {w : World} {K : Act → World → Prop} {Q : Exit → Act → World → Prop} {E : Prop}
    (hgd : o.guard = none) (s x : Operand) (ho : o.op = .call { callee := .builtin .append, args := #[s, x], argTypes := #[22, 22] })
    (base : Nat) (i : TypeInfo) (hi : Tryd.prog.info? 25 = some i) (hz : i.zero = some (.agg #[.int .u32 0, .int .u32 0])) (hsize : i.size = 2) (hby : i.bytes = 8)
    (v : Value) (n : Nat) (xs : List Value) (hs : a.eval s = v) (hown : w.ownsRow base 25 2 v n xs)
    (ad : Addr) (m c : Nat) (news : List Value) (hx : a.eval x = .slice (some ad) m c) (hl : news.length = m * 2) (hnews : ∀ j u, news[j]? = some u → w.cell? (ad.add j) = some u) (h1 : ∀ u ∈ news, u.oneCell' = true)
    (h63 : n + m ≤ maxLen) (hbytes : (n + m) * 8 ≤ 140737488355328) (hbase : base ≤ w.heap.size)
    (h : ∀ v' w', w'.ownsRow base 25 2 v' (n + m) (xs ++ news) → w.grownBy w' v.ownBlock → K (a.put o.dst v') w') :
    if Region.wanted o (yielded ops a.tmps) = true then Oper.wp Tryd.prog o a w K Q else E := by
  have hw : Region.wanted o (yielded ops a.tmps) = true := by simp [Region.wanted, hgd]
  rw [if_pos hw]
  obtain ⟨v', w', hrun, r1, r2, _⟩ := run_append_own (P := Tryd.prog) w base 22 o.type 25 i _ 2 8 Tryd.underlying22 hi hz hsize hby rfl (by decide) v n xs hown ad m c news hl hnews h1 h63 hbytes hbase
  unfold Oper.wp
  simp [execOp, ho, resolve, invoke, builtin, hs, hx, hrun, Result.andThen]
  exact h v' w' r1 r2
theorem step_append_N {ops : Array Oper} {o : Oper} {a : Act} {w : World} {K : Act → World → Prop} {Q : Exit → Act → World → Prop} {E : Prop}
    (hgd : o.guard = none) (s x : Operand) (ho : o.op = .call { callee := .builtin .append, args := #[s, x], argTypes := #[22, 22] })
    (ad : Addr) (n cap : Nat) (hn : n ≤ cap) (hs : a.eval s = .slice (some ad) n cap) (hx : a.eval x = .slice none 0 0)
    (h : K (a.put o.dst (.slice (some ad) n cap)) w) :
    if Region.wanted o (yielded ops a.tmps) = true then Oper.wp Tryd.prog o a w K Q else E := by
  have hw : Region.wanted o (yielded ops a.tmps) = true := by simp [Region.wanted, hgd]
  rw [if_pos hw]
  have hrun := run_append_nil n cap hn ad o.type w
  unfold Oper.wp
  simp [execOp, ho, resolve, invoke, builtin, hs, hx, hrun, Result.andThen]
  exact h
theorem news_cells {W : World} {go o : Nat} {l' : List C} (h : CellsC W go o l') : ∀ t u, (flat l')[t]? = some u → W.cell? ((⟨go, o, none⟩ : Addr).add t) = some u := by
  intro t u hu
  rw [Addr.add_lit]
  have hlt : t < (flat l').length := by
    rcases Nat.lt_or_ge t (flat l').length with h1 | h1
    · exact h1
    · rw [List.getElem?_eq_none h1] at hu; exact absurd hu (by simp)
  rw [flat_length] at hlt
  have hj : t / 2 < l'.length := by omega
  have hg := h (t / 2) _ (List.getElem?_eq_getElem hj)
  rcases Nat.mod_two_eq_zero_or_one t with hm | hm
  · have e3 : t = t / 2 * 2 := by omega
    rw [e3, flat_get0, List.getElem?_eq_getElem hj] at hu
    have hu := Option.some.inj hu
    rw [e3, ← hu]
    exact hg.1
  · have e3 : t = t / 2 * 2 + 1 := by omega
    rw [e3, flat_get1, List.getElem?_eq_getElem hj] at hu
    have hu := Option.some.inj hu
    rw [e3, ← hu, ← Nat.add_assoc]
    exact hg.2
theorem CellsC.take {W : World} {go o : Nat} {l' : List C} (h : CellsC W go o l') (s : Nat) : CellsC W go o (l'.take s) := fun j c hj => by
  rw [List.getElem?_take] at hj
  split at hj
  · exact h j c hj
  · cases hj
theorem CellsC.drop {W : World} {go : Nat} {l' : List C} (h : CellsC W go 0 l') (s : Nat) : CellsC W go (s * 2) (l'.drop s) := fun j c hj => by
  rw [List.getElem?_drop] at hj
  have := h (s + j) c hj
  have e1 : 0 + (s + j) * 2 = s * 2 + j * 2 := by omega
  rw [e1] at this
  exact this
theorem flat_take_len (l' : List C) {s q : Nat} (hq : q = l'.length) (hs : s ≤ q) : (flat (l'.take s)).length = s * 2 := by
  rw [flat_length, List.length_take]; omega
theorem flat_drop_len (l' : List C) {s q : Nat} (hq : q = l'.length) (hs : s ≤ q) : (flat (l'.drop s)).length = (q - s) * 2 := by
  rw [flat_length, List.length_drop, hq]
/-- An empty row that is new. -/
theorem empty_row (W : World) (base : Nat) (hb : base ≤ W.heap.size) : (W.alloc (.cells #[] 25)).ownsRow base 25 2 (.slice (some ⟨W.heap.size, 0, none⟩) 0 0) 0 [] :=
  World.ownsRow_lit (e := 25) (size := 2) W #[] 0 hb (by unfold maxLen; omega) rfl

theorem empty_row2 (w : World) (o : Obj) : ((w.drew.alloc o).alloc (.cells #[] 25)).ownsRow w.heap.size 25 2 (.slice (some ⟨w.heap.size + 1, 0, none⟩) 0 0) 0 [] := by
  have h := empty_row (w.drew.alloc o) w.heap.size (by simp)
  have e : (w.drew.alloc o).heap.size = w.heap.size + 1 := by simp
  rw [e] at h
  exact h
theorem own_put0 {W : World} {base base' s q : Nat} {v : Value} {out : List C} {c : C} (h : W.ownsRow base 25 2 v (0 + s + 1 + 0) ([] ++ flat (out.take s) ++ encC c ++ [])) (hq : q = out.length) (hs : s ≤ q) (hd : out.drop s = []) (hb : base' ≤ base) : OwnsC W base' v (out.take s ++ [c] ++ out.drop s) := by
  have e1 : (out.take s ++ [c] ++ out.drop s).length = 0 + s + 1 + 0 := by rw [hd]; simp; omega
  have e2 : flat (out.take s ++ [c] ++ out.drop s) = [] ++ flat (out.take s) ++ encC c ++ [] := by rw [hd, flat_append, flat_append, flat_one]; rfl
  unfold OwnsC
  rw [e1, e2]
  exact World.ownsRow.mono h hb
theorem own_put {W : World} {base base' s q : Nat} {v : Value} {out : List C} {c : C} (h : W.ownsRow base 25 2 v (0 + s + 1 + (q - s)) ([] ++ flat (out.take s) ++ encC c ++ flat (out.drop s))) (hq : q = out.length) (hs : s ≤ q) (hb : base' ≤ base) : OwnsC W base' v (out.take s ++ [c] ++ out.drop s) := by
  have e1 : (out.take s ++ [c] ++ out.drop s).length = 0 + s + 1 + (q - s) := by simp; omega
  have e2 : flat (out.take s ++ [c] ++ out.drop s) = [] ++ flat (out.take s) ++ encC c ++ flat (out.drop s) := by rw [flat_append, flat_append, flat_one]; rfl
  unfold OwnsC
  rw [e1, e2]
  exact World.ownsRow.mono h hb
theorem own_one {W : World} {base base' : Nat} {v : Value} {c : C} (h : W.ownsRow base 25 2 v (0 + 1) ([] ++ encC c)) (hb : base' ≤ base) : OwnsC W base' v ([] ++ [c] ++ []) := by
  have e2 : flat ([] ++ [c] ++ []) = [] ++ encC c := by simp [flat_one]
  unfold OwnsC
  rw [e2]
  exact World.ownsRow.mono h hb
theorem row_cap {w : World} {base e size g n cap : Nat} {xs : List Value} (h : w.ownsRow base e size (.slice (some ⟨g, 0, none⟩) n cap) n xs) : n ≤ cap := by
  rcases h.2 with ⟨h1, _⟩ | ⟨g2, cap2, cur, h1, _, _, h2, _⟩
  · cases h1
  · injection h1 with _ _ h3
    omega
theorem new_at1 (w : World) (x y : Value) (o : Obj) : ∀ t u, [x, y][t]? = some u → ((w.drew.alloc (.cells #[x, y] 25)).alloc o).cell? ((⟨w.heap.size, 0, none⟩ : Addr).add t) = some u := fun t u h => by
  have h1 := new_two w.drew x y 25 t u h
  have h2 : (⟨w.heap.size, 0, none⟩ : Addr).add t = ⟨w.heap.size, t, none⟩ := by rw [Addr.add_lit, Nat.zero_add]
  have h3 : (⟨w.drew.heap.size, 0, none⟩ : Addr).add t = ⟨w.heap.size, t, none⟩ := by rw [Addr.add_lit, Nat.zero_add]; rfl
  rw [h3] at h1
  rw [h2]
  exact Lib.cell?_alloc_some _ h1
theorem new_at2 (w : World) (x y : Value) (o : Obj) : ∀ t u, [x, y][t]? = some u → ((w.drew.alloc o).alloc (.cells #[x, y] 25)).cell? ((⟨w.heap.size + 1, 0, none⟩ : Addr).add t) = some u := fun t u h => by
  have h1 := new_two (w.drew.alloc o) x y 25 t u h
  have e : (w.drew.alloc o).heap.size = w.heap.size + 1 := by simp
  rw [e] at h1
  exact h1
theorem far_two {W W' : World} {row : Option Nat} {B : Nat} {xs : List Value} (hg : W.grownBy W' row) (hlt : B < W.heap.size) (hne : some B ≠ row) (h : ∀ t u, xs[t]? = some u → W.cell? ((⟨B, 0, none⟩ : Addr).add t) = some u) : ∀ t u, xs[t]? = some u → W'.cell? ((⟨B, 0, none⟩ : Addr).add t) = some u := fun t u hu => by
  have h1 := h t u hu
  rw [Addr.add_lit] at h1 ⊢
  exact (hg.cell_far ⟨B, 0 + t, none⟩ hlt hne).trans h1
theorem two_next {B g off k : Nat} {c : C} {W W' : World} (hb : Below B W W') (hg : g < B) (x0 : W.cell? ⟨g, off + k * 2, none⟩ = some (.int .u32 (c.1.val : Int))) (x1 : W.cell? ⟨g, off + k * 2 + 1, none⟩ = some (.int .u32 (c.2.val : Int))) :
    W'.cell? ⟨g, off + k * 2, none⟩ = some (.int .u32 (c.1.val : Int)) ∧ W'.cell? ⟨g, off + k * 2 + 1, none⟩ = some (.int .u32 (c.2.val : Int)) :=
  ⟨(hb.cell (p := ⟨g, off + k * 2, none⟩) hg).trans x0, (hb.cell (p := ⟨g, off + k * 2 + 1, none⟩) hg).trans x1⟩

end Go.Proofs.YtdikaomebbpmhabDoor
