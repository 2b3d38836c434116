/- The document's answer: Least. Nothing that lay before the call turns. -/
import Derived.Deep.RegionHeld3
import Derived.Test.YtdikaomebbpmhaaGreatCNeed
namespace Go.Proofs.YtdikaomebbpmhaaGreat
open Go.RowKit Go.Sort
set_option linter.unusedVariables false
set_option linter.unusedSimpArgs false

theorem less_qt (a b : C) (w : World) (d : Nat) (os : Array Obj) (h : ltC a b = true) : Calls Tryz.prog 52 #[clV a, clV b] (grow (redrawn w d) os) fun e w'' => e = .returned (.bool true) ∧ ∃ p : Regrown, w'' = grow (redrawn w p.d) p.os := h ▸ less_q a b w d os
theorem less_qf (a b : C) (w : World) (d : Nat) (os : Array Obj) (h : ltC a b = false) : Calls Tryz.prog 52 #[clV a, clV b] (grow (redrawn w d) os) fun e w'' => e = .returned (.bool false) ∧ ∃ p : Regrown, w'' = grow (redrawn w p.d) p.os := h ▸ less_q a b w d os

/-! ### putting in -/
structure OutIs (l : List C) (k : Nat) (out : List C) : Prop where
  rises : risesC out
  mem : ∀ y, y ∈ out ↔ y ∈ l.take k ∧ neededB l y = true
  len : out.length ≤ k
theorem mem_take_step {l : List C} {k : Nat} {c y : C} (h : l[k]? = some c) : y ∈ l.take (k + 1) ↔ y ∈ l.take k ∨ y = c := by
  have e : l.take (k + 1) = l.take k ++ [c] := by rw [List.take_add_one, h]; rfl
  rw [e]; simp
theorem OutIs.start (l : List C) : OutIs l 0 [] := ⟨List.Pairwise.nil, fun y => by simp, Nat.le_refl _⟩
theorem OutIs.skip {l out : List C} {k : Nat} {c : C} (h : OutIs l k out) (hk : l[k]? = some c) (hn : neededB l c = false) : OutIs l (k + 1) out :=
  ⟨h.rises, fun y => by
    rw [h.mem, mem_take_step hk]
    constructor
    · rintro ⟨h1, h2⟩; exact ⟨.inl h1, h2⟩
    · rintro ⟨h1 | rfl, h2⟩
      · exact ⟨h1, h2⟩
      · exact absurd h2 (by rw [hn]; simp), Nat.le_succ_of_le h.len⟩
theorem OutIs.there {l out : List C} {k : Nat} {c : C} (h : OutIs l k out) (hk : l[k]? = some c) (hc : c ∈ out) : OutIs l (k + 1) out :=
  ⟨h.rises, fun y => by
    rw [h.mem, mem_take_step hk]
    constructor
    · rintro ⟨h1, h2⟩; exact ⟨.inl h1, h2⟩
    · rintro ⟨h1 | rfl, h2⟩
      · exact ⟨h1, h2⟩
      · exact (h.mem y).1 hc, Nat.le_succ_of_le h.len⟩
theorem rises_insert {out : List C} {c : C} {j : Nat} (h : risesC out) (h1 : ∀ d ∈ out.take j, ltC d c = true) (h2 : ∀ d ∈ out.drop j, ltC c d = true) : risesC (out.take j ++ [c] ++ out.drop j) := by
  unfold risesC at *
  have h0 := h
  rw [← List.take_append_drop j out, List.pairwise_append] at h0
  rw [List.pairwise_append, List.pairwise_append]
  refine ⟨⟨h0.1, List.pairwise_singleton _ _, fun a ha b hb => ?_⟩, h0.2.1, fun a ha b hb => ?_⟩
  · rw [List.mem_singleton.1 hb]; exact h1 a ha
  · rcases List.mem_append.1 ha with ha | ha
    · exact h0.2.2 a ha b hb
    · rw [List.mem_singleton.1 ha]; exact h2 b hb
theorem OutIs.put {l out : List C} {k j : Nat} {c : C} (h : OutIs l k out) (hk : l[k]? = some c) (hn : neededB l c = true) (h1 : ∀ d ∈ out.take j, ltC d c = true) (h2 : ∀ d ∈ out.drop j, ltC c d = true) : OutIs l (k + 1) (out.take j ++ [c] ++ out.drop j) :=
  ⟨rises_insert h.rises h1 h2, fun y => by
    have e : y ∈ out.take j ++ [c] ++ out.drop j ↔ y ∈ out ∨ y = c := by
      have := List.take_append_drop j out
      constructor
      · intro hy
        rcases List.mem_append.1 hy with hy | hy
        · rcases List.mem_append.1 hy with hy | hy
          · exact .inl (List.mem_of_mem_take hy)
          · exact .inr (List.mem_singleton.1 hy)
        · exact .inl (List.mem_of_mem_drop hy)
      · rintro (hy | rfl)
        · rw [← this] at hy
          rcases List.mem_append.1 hy with hy | hy
          · exact List.mem_append_left _ (List.mem_append_left _ hy)
          · exact List.mem_append_right _ hy
        · exact List.mem_append_left _ (List.mem_append_right _ (by simp))
    rw [e, h.mem, mem_take_step hk]
    constructor
    · rintro (⟨a, b⟩ | rfl)
      · exact ⟨.inl a, b⟩
      · exact ⟨.inr rfl, hn⟩
    · rintro ⟨a | rfl, b⟩
      · exact .inl ⟨a, b⟩
      · exact .inr rfl, by
    have := h.len
    simp
    omega⟩
theorem drop_gt {out : List C} {c d : C} {j : Nat} (h : risesC out) (hd : out[j]? = some d) (hlt : ltC d c = false) (hne : d ≠ c) : ∀ y ∈ out.drop j, ltC c y = true := by
  have hcd : ltC c d = true := by
    cases e : ltC c d
    · exact absurd (ltC_total hlt e) hne
    · rfl
  intro y hy
  obtain ⟨hj, rfl⟩ := List.getElem?_eq_some_iff.1 hd
  rw [List.drop_eq_getElem_cons hj] at hy
  rcases List.mem_cons.1 hy with rfl | hy
  · exact hcd
  · have h0 := h
    unfold risesC at h0
    rw [← List.take_append_drop j out, List.pairwise_append, List.drop_eq_getElem_cons hj] at h0
    exact ltC_trans hcd ((List.pairwise_cons.1 h0.2.1).1 y hy)
theorem OutIs.least {l out : List C} (h : OutIs l l.length out) : IsLeast l out := ⟨h.rises, fun c => by rw [h.mem, List.take_length]⟩
theorem take_lt_step {out : List C} {c d : C} {j : Nat} (h : ∀ y ∈ out.take j, ltC y c = true) (hd : out[j]? = some d) (hlt : ltC d c = true) : ∀ y ∈ out.take (j + 1), ltC y c = true := fun y hy => by
  rcases (mem_take_step hd).1 hy with h1 | rfl
  · exact h y h1
  · exact hlt

theorem run_append_nil (n cap : Nat) (hn : n ≤ cap) (ad : Addr) (ty : TypeId) (w : World) : (Builtin.append_ #[22, 22] ty #[.slice (some ad) n cap, .slice none 0 0]).run Tryz.prog w = .ok (.slice (some ad) n cap) w := by
  simp [Builtin.append_, run_underlying Tryz.underlying22, Result.andThen, Builtin.lenOf, Builtin.firstCells, storeCells, hn]
/-- append, in a statement whose order is open: onto a row of the call's own. -/
theorem step_append_C {ops : Array Oper} {o : Oper} {a : Act} {w : World} {K : Act → World → Prop} {Q : Exit → Act → World → Prop} {E : Prop}
    (hgd : o.guard = none) (s x : Operand) (ho : o.op = .call { callee := .builtin .append, args := #[s, x], argTypes := #[22, 22] })
    (base : Nat) (i : TypeInfo) (hi : Tryz.prog.info? 25 = some i) (hz : i.zero = some (.agg #[.int .u32 0, .int .u32 0])) (hsize : i.size = 2) (hby : i.bytes = 8)
    (v : Value) (n : Nat) (xs : List Value) (hs : a.eval s = v) (hown : w.ownsRow base 25 2 v n xs)
    (ad : Addr) (m c : Nat) (news : List Value) (hx : a.eval x = .slice (some ad) m c) (hl : news.length = m * 2) (hnews : ∀ j u, news[j]? = some u → w.cell? (ad.add j) = some u) (h1 : ∀ u ∈ news, u.oneCell' = true)
    (h63 : n + m ≤ maxLen) (hbytes : (n + m) * 8 ≤ 140737488355328) (hbase : base ≤ w.heap.size)
    (h : ∀ v' w', w'.ownsRow base 25 2 v' (n + m) (xs ++ news) → w.grownBy w' v.ownBlock → K (a.put o.dst v') w') :
    if Region.wanted o (yielded ops a.tmps) = true then Oper.wp Tryz.prog o a w K Q else E := by
  have hw : Region.wanted o (yielded ops a.tmps) = true := by simp [Region.wanted, hgd]
  rw [if_pos hw]
  obtain ⟨v', w', hrun, r1, r2, _⟩ := run_append_own (P := Tryz.prog) w base 22 o.type 25 i _ 2 8 Tryz.underlying22 hi hz hsize hby rfl (by decide) v n xs hown ad m c news hl hnews h1 h63 hbytes hbase
  unfold Oper.wp
  simp [execOp, ho, resolve, invoke, builtin, hs, hx, hrun, Result.andThen]
  exact h v' w' r1 r2
theorem step_append_N {ops : Array Oper} {o : Oper} {a : Act} {w : World} {K : Act → World → Prop} {Q : Exit → Act → World → Prop} {E : Prop}
    (hgd : o.guard = none) (s x : Operand) (ho : o.op = .call { callee := .builtin .append, args := #[s, x], argTypes := #[22, 22] })
    (ad : Addr) (n cap : Nat) (hn : n ≤ cap) (hs : a.eval s = .slice (some ad) n cap) (hx : a.eval x = .slice none 0 0)
    (h : K (a.put o.dst (.slice (some ad) n cap)) w) :
    if Region.wanted o (yielded ops a.tmps) = true then Oper.wp Tryz.prog o a w K Q else E := by
  have hw : Region.wanted o (yielded ops a.tmps) = true := by simp [Region.wanted, hgd]
  rw [if_pos hw]
  have hrun := run_append_nil n cap hn ad o.type w
  unfold Oper.wp
  simp [execOp, ho, resolve, invoke, builtin, hs, hx, hrun, Result.andThen]
  exact h
theorem news_cells {W : World} {go o : Nat} {l' : List C} (h : CellsC W go o l') : ∀ t u, (flat l')[t]? = some u → W.cell? ((⟨go, o, none⟩ : Addr).add t) = some u := by
  intro t u hu
  rw [Addr.add_lit]
  have hlt : t < (flat l').length := by
    rcases Nat.lt_or_ge t (flat l').length with h1 | h1
    · exact h1
    · rw [List.getElem?_eq_none h1] at hu; exact absurd hu (by simp)
  rw [flat_length] at hlt
  have hj : t / 2 < l'.length := by omega
  have hg := h (t / 2) _ (List.getElem?_eq_getElem hj)
  rcases Nat.mod_two_eq_zero_or_one t with hm | hm
  · have e3 : t = t / 2 * 2 := by omega
    rw [e3, flat_get0, List.getElem?_eq_getElem hj] at hu
    have hu := Option.some.inj hu
    rw [e3, ← hu]
    exact hg.1
  · have e3 : t = t / 2 * 2 + 1 := by omega
    rw [e3, flat_get1, List.getElem?_eq_getElem hj] at hu
    have hu := Option.some.inj hu
    rw [e3, ← hu, ← Nat.add_assoc]
    exact hg.2
theorem CellsC.take {W : World} {go o : Nat} {l' : List C} (h : CellsC W go o l') (s : Nat) : CellsC W go o (l'.take s) := fun j c hj => by
  rw [List.getElem?_take] at hj
  split at hj
  · exact h j c hj
  · cases hj
theorem CellsC.drop {W : World} {go : Nat} {l' : List C} (h : CellsC W go 0 l') (s : Nat) : CellsC W go (s * 2) (l'.drop s) := fun j c hj => by
  rw [List.getElem?_drop] at hj
  have := h (s + j) c hj
  have e1 : 0 + (s + j) * 2 = s * 2 + j * 2 := by omega
  rw [e1] at this
  exact this
theorem flat_take_len (l' : List C) {s q : Nat} (hq : q = l'.length) (hs : s ≤ q) : (flat (l'.take s)).length = s * 2 := by
  rw [flat_length, List.length_take]; omega
theorem flat_drop_len (l' : List C) {s q : Nat} (hq : q = l'.length) (hs : s ≤ q) : (flat (l'.drop s)).length = (q - s) * 2 := by
  rw [flat_length, List.length_drop, hq]
/-- An empty row that is new. -/
theorem empty_row (W : World) (base : Nat) (hb : base ≤ W.heap.size) : (W.alloc (.cells #[] 25)).ownsRow base 25 2 (.slice (some ⟨W.heap.size, 0, none⟩) 0 0) 0 [] :=
  World.ownsRow_lit (e := 25) (size := 2) W #[] 0 hb (by unfold maxLen; omega) rfl

theorem empty_row2 (w : World) (o : Obj) : ((w.drew.alloc o).alloc (.cells #[] 25)).ownsRow w.heap.size 25 2 (.slice (some ⟨w.heap.size + 1, 0, none⟩) 0 0) 0 [] := by
  have h := empty_row (w.drew.alloc o) w.heap.size (by simp)
  have e : (w.drew.alloc o).heap.size = w.heap.size + 1 := by simp
  rw [e] at h
  exact h
theorem own_put0 {W : World} {base base' s q : Nat} {v : Value} {out : List C} {c : C} (h : W.ownsRow base 25 2 v (0 + s + 1 + 0) ([] ++ flat (out.take s) ++ encC c ++ [])) (hq : q = out.length) (hs : s ≤ q) (hd : out.drop s = []) (hb : base' ≤ base) : OwnsC W base' v (out.take s ++ [c] ++ out.drop s) := by
  have e1 : (out.take s ++ [c] ++ out.drop s).length = 0 + s + 1 + 0 := by rw [hd]; simp; omega
  have e2 : flat (out.take s ++ [c] ++ out.drop s) = [] ++ flat (out.take s) ++ encC c ++ [] := by rw [hd, flat_append, flat_append, flat_one]; rfl
  unfold OwnsC
  rw [e1, e2]
  exact World.ownsRow.mono h hb
theorem own_put {W : World} {base base' s q : Nat} {v : Value} {out : List C} {c : C} (h : W.ownsRow base 25 2 v (0 + s + 1 + (q - s)) ([] ++ flat (out.take s) ++ encC c ++ flat (out.drop s))) (hq : q = out.length) (hs : s ≤ q) (hb : base' ≤ base) : OwnsC W base' v (out.take s ++ [c] ++ out.drop s) := by
  have e1 : (out.take s ++ [c] ++ out.drop s).length = 0 + s + 1 + (q - s) := by simp; omega
  have e2 : flat (out.take s ++ [c] ++ out.drop s) = [] ++ flat (out.take s) ++ encC c ++ flat (out.drop s) := by rw [flat_append, flat_append, flat_one]; rfl
  unfold OwnsC
  rw [e1, e2]
  exact World.ownsRow.mono h hb
theorem own_one {W : World} {base base' : Nat} {v : Value} {c : C} (h : W.ownsRow base 25 2 v (0 + 1) ([] ++ encC c)) (hb : base' ≤ base) : OwnsC W base' v ([] ++ [c] ++ []) := by
  have e2 : flat ([] ++ [c] ++ []) = [] ++ encC c := by simp [flat_one]
  unfold OwnsC
  rw [e2]
  exact World.ownsRow.mono h hb
theorem row_cap {w : World} {base e size g n cap : Nat} {xs : List Value} (h : w.ownsRow base e size (.slice (some ⟨g, 0, none⟩) n cap) n xs) : n ≤ cap := by
  rcases h.2 with ⟨h1, _⟩ | ⟨g2, cap2, cur, h1, _, _, h2, _⟩
  · cases h1
  · injection h1 with _ _ h3
    omega
theorem new_at1 (w : World) (x y : Value) (o : Obj) : ∀ t u, [x, y][t]? = some u → ((w.drew.alloc (.cells #[x, y] 25)).alloc o).cell? ((⟨w.heap.size, 0, none⟩ : Addr).add t) = some u := fun t u h => by
  have h1 := new_two w.drew x y 25 t u h
  have h2 : (⟨w.heap.size, 0, none⟩ : Addr).add t = ⟨w.heap.size, t, none⟩ := by rw [Addr.add_lit, Nat.zero_add]
  have h3 : (⟨w.drew.heap.size, 0, none⟩ : Addr).add t = ⟨w.heap.size, t, none⟩ := by rw [Addr.add_lit, Nat.zero_add]; rfl
  rw [h3] at h1
  rw [h2]
  exact Lib.cell?_alloc_some _ h1
theorem new_at2 (w : World) (x y : Value) (o : Obj) : ∀ t u, [x, y][t]? = some u → ((w.drew.alloc o).alloc (.cells #[x, y] 25)).cell? ((⟨w.heap.size + 1, 0, none⟩ : Addr).add t) = some u := fun t u h => by
  have h1 := new_two (w.drew.alloc o) x y 25 t u h
  have e : (w.drew.alloc o).heap.size = w.heap.size + 1 := by simp
  rw [e] at h1
  exact h1
theorem far_two {W W' : World} {row : Option Nat} {B : Nat} {xs : List Value} (hg : W.grownBy W' row) (hlt : B < W.heap.size) (hne : some B ≠ row) (h : ∀ t u, xs[t]? = some u → W.cell? ((⟨B, 0, none⟩ : Addr).add t) = some u) : ∀ t u, xs[t]? = some u → W'.cell? ((⟨B, 0, none⟩ : Addr).add t) = some u := fun t u hu => by
  have h1 := h t u hu
  rw [Addr.add_lit] at h1 ⊢
  exact (hg.cell_far ⟨B, 0 + t, none⟩ hlt hne).trans h1
theorem two_next {B g off k : Nat} {c : C} {W W' : World} (hb : Below B W W') (hg : g < B) (x0 : W.cell? ⟨g, off + k * 2, none⟩ = some (.int .u32 (c.1.val : Int))) (x1 : W.cell? ⟨g, off + k * 2 + 1, none⟩ = some (.int .u32 (c.2.val : Int))) :
    W'.cell? ⟨g, off + k * 2, none⟩ = some (.int .u32 (c.1.val : Int)) ∧ W'.cell? ⟨g, off + k * 2 + 1, none⟩ = some (.int .u32 (c.2.val : Int)) :=
  ⟨(hb.cell (p := ⟨g, off + k * 2, none⟩) hg).trans x0, (hb.cell (p := ⟨g, off + k * 2 + 1, none⟩) hg).trans x1⟩

set_option maxRecDepth 100000 in
set_option maxHeartbeats 8000000 in
theorem refleast_any (l : List C) (v : Value) (w : World) (hv : CRow w v l) (hl : l.length ≤ 100000) :
    Calls Tryz.prog 27 #[v] w fun e w' => ∃ v' M er, e = .returned (.tuple #[v', .int .i64 er]) ∧ LeastIs l M er ∧ OwnsC w' w.heap.size v' M ∧ Below w.heap.size w w' := by
  obtain ⟨i0, hi, hz0, hz1, hz2⟩ := info_parts Tryz.infoC
  by_cases hz : l = []
  · subst hz
    obtain ⟨a0, cap, rfl⟩ := hv.len
    clear hv
    go_enter Tryz.func27, Tryz.ntmps27
    go_wp2
    go_loop [4] (fun i => i = .int .i64 0) (fun _ => 0)
    case atStart => rfl
    case round =>
      subst hrel
      go_wp2
      go_loop [5, 6] (fun v i => v = .slice none 0 0 ∧ i = .int .i64 0) (fun _ _ => 0)
      case atStart => exact ⟨rfl, rfl⟩
      case round =>
        obtain ⟨rfl, rfl⟩ := hrel
        go_wp2
        go_ret2
        exact ⟨_, [], 0, rfl, .inr ⟨rfl, [], (OutIs.start []).least, .inl ⟨by simp, rfl, rfl⟩⟩, World.ownsRow_nil _ _ _ _, Below.refl _ _⟩
  have hv0 := hv
  obtain ⟨g, off, cap, rfl, hg, hc⟩ := hv.cons hz
  clear hv
  obtain ⟨n, hn⟩ : ∃ n, n = l.length := ⟨_, rfl⟩
  have Hn : Hid (n = l.length) := hn
  have hl1 : l.length ≤ 100000 := by omega
  rw [← hn] at hl hv0 ⊢
  clear hn
  go_enter Tryz.func27, Tryz.ntmps27
  go_wp2
  go_loopw [4] (fun i wr => ∃ k : Nat, k ≤ n ∧ i = .int .i64 k ∧ (l.take k).all rightC = true ∧ Below w.heap.size w wr) (fun i _ => n - (intOf i).toNat)
  case atStart => exact ⟨0, Nat.zero_le _, rfl, rfl, Below.refl _ _⟩
  case round =>
    obtain ⟨k, hk, rfl, hall, hnx⟩ := hrel
    have HA : Hid ((l.take k).all rightC = true) := hall
    clear hall
    by_cases hlt : k < n
    · obtain ⟨c, hck⟩ := get_some (l := l) (k := k) (by rw [← Hn.out]; exact hlt)
      obtain ⟨x0, x1⟩ := (hc.below hnx hg) k c hck
      have HC : Hid (l[k]? = some c) := hck
      clear hck
      cases hrc : rightC c
      · go_wp2_with (go_at_call 48; refine (refcright_any _ _).mono ?_; rintro e w2 ⟨rfl, hG⟩; rw [hrc])
        go_ret2
        exact ⟨_, [], 2, rfl, .inl ⟨not_all HC.out hrc, rfl, rfl⟩, World.ownsRow_nil _ _ _ _, chain hnx hG.below⟩
      · go_wp2_with (go_at_call 48; refine (refcright_any _ _).mono ?_; rintro e w2 ⟨rfl, hG⟩; rw [hrc])
        go_roundw
        case rel => exact ⟨k + 1, by omega, by go_num, all_take_step HA.out HC.out hrc, chain hnx hG.below⟩
        case measure => simp [intOf]; omega
    · obtain rfl : k = n := by omega
      have hr : l.all rightC = true := by
        have h := HA.out
        rwa [List.take_of_length_le (by rw [← Hn.out]; exact Nat.le_refl _)] at h
      have HR : Hid (l.all rightC = true) := hr
      have cN := fun c W hb => needed_any l c _ W (hv0.below hb) hr hl1
      clear hr
      go_wp2
      go_loopw [5, 6] (fun v i wr => ∃ (j : Nat) (out : List C), j ≤ k ∧ i = .int .i64 j ∧ OwnsC wr w.heap.size v out ∧ OutIs l j out ∧ Below w.heap.size w wr) (fun _ i _ => k - (intOf i).toNat)
      case atStart => exact ⟨0, [], Nat.zero_le _, rfl, World.ownsRow_nil _ _ _ _, OutIs.start l, hnx⟩
      case round =>
        obtain ⟨j, out, hj, rfl, hrow, hout, hny⟩ := hrel
        have hlen := hout.len
        have HO : Hid (OutIs l j out) := hout
        clear hout
        by_cases hlt2 : j < k
        · obtain ⟨c, hcj⟩ := get_some (l := l) (k := j) (by rw [← Hn.out]; exact hlt2)
          obtain ⟨x0, x1⟩ := (hc.below hny hg) j c hcj
          have HC : Hid (l[j]? = some c) := hcj
          clear hcj
          cases hnd : neededB l c
          · have HS : Hid (OutIs l (j + 1) out) := HO.out.skip HC.out hnd
            go_wp2_with (go_at_call 51; refine (cN _ _ hny).mono ?_; rintro e w2 ⟨rfl, hB2⟩; rw [hnd])
            go_roundw
            case rel => exact ⟨j + 1, out, by omega, by go_num, OwnsC.below hrow hB2, HS.out, chain hny hB2⟩
            case measure => simp [intOf]; omega
          · have HND : Hid (neededB l c = true) := hnd
            go_wp2_with (go_at_call 51; refine (cN _ _ hny).mono ?_; rintro e w2 ⟨rfl, hB2⟩; rw [hnd])
            clear hnd
            replace hrow := OwnsC.below hrow hB2
            have hny2 := chain hny hB2
            replace x0 := (hB2.cell (p := ⟨g, off + j * 2, none⟩) (Nat.lt_of_lt_of_le hg hny.size)).trans x0
            replace x1 := (hB2.cell (p := ⟨g, off + j * 2 + 1, none⟩) (Nat.lt_of_lt_of_le hg hny.size)).trans x1
            have hg2 : g < w2.heap.size := Nat.lt_of_lt_of_le hg hny2.size
            rcases hrow.form with ⟨rfl, rfl⟩ | ⟨go, capo, rfl, hgo1, hgo2, hco⟩
            · go_loopw [7] (fun i wr => i = .int .i64 0 ∧ Below w2.heap.size w2 wr) (fun _ _ => 0)
              case atStart => exact ⟨rfl, Below.refl _ _⟩
              case round =>
                obtain ⟨rfl, hnz⟩ := hrel
                go_wp2
                refine wp_region_quiet_below (by kernel_rfl) (by kernel_rfl) ?_
                repeat (first | go_big_quiet_step (fail) | quiet_step (fail))
                refine wpQuiet_nil ?_
                intro _ hw'
                obtain ⟨⟨dq, osq⟩, hw''⟩ := hw'
                subst hw''
                go_wp2
                have hzy : Below w2.heap.size w2 (grow (redrawn wr dq) osq) := hnz.trans ((below_regrown wr dq osq).mono hnz.size)
                generalize grow (redrawn wr dq) osq = wy at hzy ⊢
                refine wp_region_quiet_below (by kernel_rfl) (by kernel_rfl) ?_
                repeat (first | go_big_quiet_step (fail) | quiet_step (fail))
                refine wpQuiet_nil ?_
                intro _ hw'
                obtain ⟨⟨dq2, osq2⟩, hw''⟩ := hw'
                subst hw''
                go_wp2
                have hzz : Below w2.heap.size w2 (grow (redrawn wy dq2) osq2) := chain hzy (below_regrown wy dq2 osq2)
                generalize grow (redrawn wy dq2) osq2 = wi at hzz ⊢
                have hnyi := chain hny2 hzz
                have hgi : g < wi.heap.size := Nat.lt_of_lt_of_le hg2 hzz.size
                have x0i := (hzz.cell (p := ⟨g, off + j * 2, none⟩) hg2).trans x0
                have x1i := (hzz.cell (p := ⟨g, off + j * 2 + 1, none⟩) hg2).trans x1
                have Bd : Below wi.heap.size wi wi.drew := below_drewN (Below.refl _ wi) 1
                go_region_held3 (fun w' => w'.cell? ⟨g, off + j * 2, none⟩ = some (.int .u32 (c.1.val : Int)) ∧ w'.cell? ⟨g, off + j * 2 + 1, none⟩ = some (.int .u32 (c.2.val : Int))) (first | (exact two_next hBk hgi x0i x1i) | go_keep)
                  (first
                    | (refine step_append_N rfl (.tmp 65) (.tmp 68) rfl _ 0 0 (Nat.le_refl _) rfl rfl ?_)
                    | (refine step_append_C rfl (.tmp 69) (.tmp 74) rfl wi.heap.size i0 hi hz0 hz1 hz2 (.slice (some ⟨wi.drew.heap.size, 0, none⟩) 0 0) 0 [] rfl (World.ownsRow.alloc (empty_row wi.drew wi.heap.size (Nat.le_refl _)) (.cells #[.int .u32 (c.1.val : Int), .int .u32 (c.2.val : Int)] 25)) ⟨wi.heap.size + 1, 0, none⟩ 1 1 (encC c) rfl rfl (new_at2 wi _ _ _) (flat_one c ▸ flat_oneCell [c]) (by unfold maxLen; omega) (by omega) ((Bd.alloc (Nat.le_refl _) (.cells #[] 25)).alloc (by simp) (.cells #[.int .u32 (c.1.val : Int), .int .u32 (c.2.val : Int)] 25)).size ?_; intro v75 w75 hown75 hgrow75; have hBk : Below wi.heap.size wi w75 := ((Bd.alloc (Nat.le_refl _) (.cells #[] 25)).alloc (by simp) (.cells #[.int .u32 (c.1.val : Int), .int .u32 (c.2.val : Int)] 25)).grown hgrow75 ((Bd.alloc (Nat.le_refl _) (.cells #[] 25)).alloc (by simp) (.cells #[.int .u32 (c.1.val : Int), .int .u32 (c.2.val : Int)] 25)).size (fun i h => by cases h; simp); obtain ⟨g75, cap75, rfl, _, _⟩ := World.ownsRow.form hown75 (by omega); have hcap := row_cap hown75)
                    | (refine step_append_C rfl (.tmp 69) (.tmp 74) rfl wi.heap.size i0 hi hz0 hz1 hz2 (.slice (some ⟨wi.heap.size + 1, 0, none⟩) 0 0) 0 [] rfl (empty_row2 wi (.cells #[.int .u32 (c.1.val : Int), .int .u32 (c.2.val : Int)] 25)) ⟨wi.heap.size, 0, none⟩ 1 1 (encC c) rfl rfl (new_at1 wi _ _ _) (flat_one c ▸ flat_oneCell [c]) (by unfold maxLen; omega) (by omega) ((Bd.alloc (Nat.le_refl _) (.cells #[.int .u32 (c.1.val : Int), .int .u32 (c.2.val : Int)] 25)).alloc (by simp) (.cells #[] 25)).size ?_; intro v75 w75 hown75 hgrow75; have hBk : Below wi.heap.size wi w75 := ((Bd.alloc (Nat.le_refl _) (.cells #[.int .u32 (c.1.val : Int), .int .u32 (c.2.val : Int)] 25)).alloc (by simp) (.cells #[] 25)).grown hgrow75 ((Bd.alloc (Nat.le_refl _) (.cells #[.int .u32 (c.1.val : Int), .int .u32 (c.2.val : Int)] 25)).alloc (by simp) (.cells #[] 25)).size (fun i h => by cases h; simp); obtain ⟨g75, cap75, rfl, _, _⟩ := World.ownsRow.form hown75 (by omega); have hcap := row_cap hown75)
                    | (refine step_append_N rfl (.tmp 75) (.tmp 78) rfl _ _ _ hcap rfl rfl ?_))
                all_goals
                  have HS : Hid (OutIs l (j + 1) ([] ++ [c] ++ [])) := HO.out.put (j := 0) HC.out HND.out (fun d hd => by simp at hd) (fun d hd => by simp at hd)
                  have hfin := own_one hown75 hnyi.size
                  go_wp2
                  go_roundw
                  case rel => exact ⟨j + 1, _, by omega, by go_num, hfin, HS.out, chain hnyi hBk⟩
                  case measure => simp [intOf]; omega
            · obtain ⟨q, hq⟩ : ∃ q, q = out.length := ⟨_, rfl⟩
              have Hq : Hid (q = out.length) := hq
              have hrow' := hrow
              rw [← hq] at hlen hrow' ⊢
              clear hq
              go_loopw [7] (fun i wr => ∃ s : Nat, s ≤ q ∧ i = .int .i64 s ∧ (∀ d ∈ out.take s, ltC d c = true) ∧ Below w2.heap.size w2 wr) (fun i _ => q - (intOf i).toNat)
              case atStart => exact ⟨0, Nat.zero_le _, rfl, fun d hd => by simp at hd, Below.refl _ _⟩
              case round =>
                obtain ⟨s, hs, rfl, hls, hnz⟩ := hrel
                have HL : Hid (∀ d ∈ out.take s, ltC d c = true) := hls
                clear hls
                by_cases hlt3 : s < q
                · obtain ⟨d, hds⟩ := get_some (l := out) (k := s) (by rw [← Hq.out]; exact hlt3)
                  have HD : Hid (out[s]? = some d) := hds
                  obtain ⟨D0, D1⟩ := (hco.below hnz hgo2).regrown hds
                  simp only [Nat.zero_add] at D0 D1
                  have E0 := fun dd os => cell_regrown ((hnz.cell (p := ⟨g, off + j * 2, none⟩) hg2).trans x0) dd os
                  have E1 := fun dd os => cell_regrown ((hnz.cell (p := ⟨g, off + j * 2 + 1, none⟩) hg2).trans x1) dd os
                  clear hds
                  cases hb : ltC d c
                  · go_wp2
                    refine wp_region_quiet_below (by kernel_rfl) (by kernel_rfl) ?_
                    repeat (first | go_big_quiet_step ((refine less_qf _ _ _ _ _ ?_; with_reducible assumption)) | quiet_step ((refine less_qf _ _ _ _ _ ?_; with_reducible assumption)))
                    refine wpQuiet_nil ?_
                    intro _ hw'
                    obtain ⟨⟨dq, osq⟩, hw''⟩ := hw'
                    subst hw''
                    go_wp2
                    have hzy : Below w2.heap.size w2 (grow (redrawn wr dq) osq) := hnz.trans ((below_regrown wr dq osq).mono hnz.size)
                    generalize grow (redrawn wr dq) osq = wy at hzy ⊢
                    clear D0 D1 E0 E1
                    obtain ⟨D0, D1⟩ := (hco.below hzy hgo2).regrown HD.out
                    simp only [Nat.zero_add] at D0 D1
                    have E0 := fun dd os => cell_regrown ((hzy.cell (p := ⟨g, off + j * 2, none⟩) hg2).trans x0) dd os
                    have E1 := fun dd os => cell_regrown ((hzy.cell (p := ⟨g, off + j * 2 + 1, none⟩) hg2).trans x1) dd os
                    have hjq : ((s : Int) == (q : Int)) = false := by simp; omega
                    by_cases e : d = c
                    · have HS : Hid (OutIs l (j + 1) out) := HO.out.there HC.out (by rw [← e]; exact List.mem_of_getElem? HD.out)
                      subst e
                      go_wp2
                      refine wp_region_quiet_below (by kernel_rfl) (by kernel_rfl) ?_
                      repeat (first | go_big_quiet_step (fail) | quiet_step (fail))
                      refine wpQuiet_nil ?_
                      intro _ hw'
                      obtain ⟨⟨dq2, osq2⟩, hw''⟩ := hw'
                      subst hw''
                      go_wp2
                      go_roundw
                      case rel => exact ⟨j + 1, out, by omega, by go_num, OwnsC.below (OwnsC.below hrow' hzy) (below_regrown wy dq2 osq2), HS.out, chain (chain hny2 hzy) (below_regrown wy dq2 osq2)⟩
                      case measure => simp [intOf]; omega
                    · have HG : Hid (∀ y ∈ out.drop s, ltC c y = true) := drop_gt HO.out.rises HD.out hb e
                      by_cases f0 : d.1.val = c.1.val
                      · have f2 : ¬ d.2.val = c.2.val := fun h => e (c_ext f0 h)
                        have f1 : ((d.1.val : Int) == (c.1.val : Int)) = true := by simp [f0]
                        clear f0 e
                        go_wp2
                        refine wp_region_quiet_below (by kernel_rfl) (by kernel_rfl) ?_
                        repeat (first | go_big_quiet_step (fail) | quiet_step (fail))
                        refine wpQuiet_nil ?_
                        intro _ hw'
                        obtain ⟨⟨dq2, osq2⟩, hw''⟩ := hw'
                        subst hw''
                        go_wp2
                        clear D0 D1 E0 E1
                        have hcs : ¬ capo = s := by have h := row_cap hrow; rw [← Hq.out] at h; omega
                        have hzz : Below w2.heap.size w2 (grow (redrawn wy dq2) osq2) := chain hzy (below_regrown wy dq2 osq2)
                        generalize grow (redrawn wy dq2) osq2 = wi at hzz ⊢
                        have hnyi := chain hny2 hzz
                        have hrowi := OwnsC.below hrow' hzz
                        have hcoi := hco.below hzz hgo2
                        have hgoi : go < wi.heap.size := Nat.lt_of_lt_of_le hgo2 hzz.size
                        have hgi : g < wi.heap.size := Nat.lt_of_lt_of_le hg2 hzz.size
                        have hqc : q ≤ capo := by have h := row_cap hrow; rw [← Hq.out] at h; exact h
                        have hsc : (s : Int) ≤ (capo : Int) := by omega
                        have hs0 : (0 : Int) ≤ (s : Int) := by omega
                        have x0i := (hzz.cell (p := ⟨g, off + j * 2, none⟩) hg2).trans x0
                        have x1i := (hzz.cell (p := ⟨g, off + j * 2 + 1, none⟩) hg2).trans x1
                        have Bd : Below wi.heap.size wi wi.drew := below_drewN (Below.refl _ wi) 1
                        go_region_held3 (fun w' => w'.cell? ⟨g, off + j * 2, none⟩ = some (.int .u32 (c.1.val : Int)) ∧ w'.cell? ⟨g, off + j * 2 + 1, none⟩ = some (.int .u32 (c.2.val : Int))) (first | (exact two_next hBk hgi x0i x1i) | go_keep)
                          (first
                            | (refine step_append_C rfl (.tmp 65) (.tmp 68) rfl wi.heap.size i0 hi hz0 hz1 hz2 (.slice (some ⟨wi.drew.heap.size, 0, none⟩) 0 0) 0 [] rfl (empty_row wi.drew wi.heap.size (Nat.le_refl _)) ⟨go, 0, none⟩ s _ (flat (out.take s)) rfl (flat_take_len out Hq.out hs) (news_cells ((hcoi.below (Bd.alloc (Nat.le_refl _) (.cells #[] 25)) hgoi).take s)) (flat_oneCell _) (by unfold maxLen; omega) (by omega) ((Bd.alloc (Nat.le_refl _) (.cells #[] 25))).size ?_; intro v69 w69 hown69 hgrow69; have hBk : Below wi.heap.size wi w69 := ((Bd.alloc (Nat.le_refl _) (.cells #[] 25))).grown hgrow69 ((Bd.alloc (Nat.le_refl _) (.cells #[] 25))).size (fun i h => by cases h; simp))
                            | (refine step_append_C rfl (.tmp 65) (.tmp 68) rfl wi.heap.size i0 hi hz0 hz1 hz2 (.slice (some ⟨wi.drew.heap.size, 0, none⟩) 0 0) 0 [] rfl (World.ownsRow.alloc (empty_row wi.drew wi.heap.size (Nat.le_refl _)) (.cells #[.int .u32 (c.1.val : Int), .int .u32 (c.2.val : Int)] 25)) ⟨go, 0, none⟩ s _ (flat (out.take s)) rfl (flat_take_len out Hq.out hs) (news_cells ((hcoi.below ((Bd.alloc (Nat.le_refl _) (.cells #[] 25)).alloc (by simp) (.cells #[.int .u32 (c.1.val : Int), .int .u32 (c.2.val : Int)] 25)) hgoi).take s)) (flat_oneCell _) (by unfold maxLen; omega) (by omega) (((Bd.alloc (Nat.le_refl _) (.cells #[] 25)).alloc (by simp) (.cells #[.int .u32 (c.1.val : Int), .int .u32 (c.2.val : Int)] 25))).size ?_; intro v69 w69 hown69 hgrow69; have hBk : Below wi.heap.size wi w69 := (((Bd.alloc (Nat.le_refl _) (.cells #[] 25)).alloc (by simp) (.cells #[.int .u32 (c.1.val : Int), .int .u32 (c.2.val : Int)] 25))).grown hgrow69 (((Bd.alloc (Nat.le_refl _) (.cells #[] 25)).alloc (by simp) (.cells #[.int .u32 (c.1.val : Int), .int .u32 (c.2.val : Int)] 25))).size (fun i h => by cases h; simp); have h74 : ∀ t u, (encC c)[t]? = some u → w69.cell? ((⟨wi.heap.size + 1, 0, none⟩ : Addr).add t) = some u := far_two hgrow69 (by simp) (by simp [Value.ownBlock]) (new_at2 wi _ _ _))
                            | (refine step_append_C rfl (.tmp 65) (.tmp 68) rfl wi.heap.size i0 hi hz0 hz1 hz2 (.slice (some ⟨wi.heap.size + 1, 0, none⟩) 0 0) 0 [] rfl (empty_row2 wi (.cells #[.int .u32 (c.1.val : Int), .int .u32 (c.2.val : Int)] 25)) ⟨go, 0, none⟩ s _ (flat (out.take s)) rfl (flat_take_len out Hq.out hs) (news_cells ((hcoi.below ((Bd.alloc (Nat.le_refl _) (.cells #[.int .u32 (c.1.val : Int), .int .u32 (c.2.val : Int)] 25)).alloc (by simp) (.cells #[] 25)) hgoi).take s)) (flat_oneCell _) (by unfold maxLen; omega) (by omega) (((Bd.alloc (Nat.le_refl _) (.cells #[.int .u32 (c.1.val : Int), .int .u32 (c.2.val : Int)] 25)).alloc (by simp) (.cells #[] 25))).size ?_; intro v69 w69 hown69 hgrow69; have hBk : Below wi.heap.size wi w69 := (((Bd.alloc (Nat.le_refl _) (.cells #[.int .u32 (c.1.val : Int), .int .u32 (c.2.val : Int)] 25)).alloc (by simp) (.cells #[] 25))).grown hgrow69 (((Bd.alloc (Nat.le_refl _) (.cells #[.int .u32 (c.1.val : Int), .int .u32 (c.2.val : Int)] 25)).alloc (by simp) (.cells #[] 25))).size (fun i h => by cases h; simp); have h74 : ∀ t u, (encC c)[t]? = some u → w69.cell? ((⟨wi.heap.size, 0, none⟩ : Addr).add t) = some u := far_two hgrow69 (by simp; omega) (by simp [Value.ownBlock]) (new_at1 wi _ _ _))
                            | (refine step_append_C rfl (.tmp 69) (.tmp 74) rfl wi.heap.size i0 hi hz0 hz1 hz2 v69 (0 + s) ([] ++ flat (out.take s)) rfl (World.ownsRow.alloc hown69 (.cells #[.int .u32 (c.1.val : Int), .int .u32 (c.2.val : Int)] 25)) ⟨w69.heap.size, 0, none⟩ 1 1 (encC c) rfl rfl (new_two _ _ _ _) (flat_one c ▸ flat_oneCell [c]) (by unfold maxLen; omega) (by omega) (Nat.le_trans hBk.size (by simp)) ?_; intro v75 w75 hown75 hgrow75; replace hBk := (hBk.alloc hBk.size (.cells #[.int .u32 (c.1.val : Int), .int .u32 (c.2.val : Int)] 25)).grown hgrow75 (by have := hBk.size; simp; omega) (fun i h => (World.ownsRow.lt hown69 i h).1))
                            | (refine step_append_C rfl (.tmp 69) (.tmp 74) rfl wi.heap.size i0 hi hz0 hz1 hz2 v69 (0 + s) ([] ++ flat (out.take s)) rfl hown69 ⟨_, 0, none⟩ 1 1 (encC c) rfl rfl h74 (flat_one c ▸ flat_oneCell [c]) (by unfold maxLen; omega) (by omega) hBk.size ?_; intro v75 w75 hown75 hgrow75; replace hBk := hBk.grown hgrow75 hBk.size (fun i h => (World.ownsRow.lt hown69 i h).1))
                            | (refine step_append_C rfl (.tmp 75) (.tmp 78) rfl wi.heap.size i0 hi hz0 hz1 hz2 v75 (0 + s + 1) ([] ++ flat (out.take s) ++ encC c) rfl hown75 ⟨go, s * 2, none⟩ (q - s) _ (flat (out.drop s)) rfl (flat_drop_len out Hq.out hs) (news_cells ((hcoi.below hBk hgoi).drop s)) (flat_oneCell _) (by unfold maxLen; omega) (by omega) hBk.size ?_; intro v79 w79 hown79 hgrow79; replace hBk := hBk.grown hgrow79 hBk.size (fun i h => (World.ownsRow.lt hown75 i h).1)))
                        all_goals
                          have HS : Hid (OutIs l (j + 1) (out.take s ++ [c] ++ out.drop s)) := HO.out.put HC.out HND.out HL.out HG.out
                          have hfin := own_put hown79 Hq.out hs hnyi.size
                          go_wp2
                          go_roundw
                          case rel => exact ⟨j + 1, _, by omega, by go_num, hfin, HS.out, chain hnyi hBk⟩
                          case measure => simp [intOf]; omega
                      · clear e
                        go_wp2
                        refine wp_region_quiet_below (by kernel_rfl) (by kernel_rfl) ?_
                        repeat (first | go_big_quiet_step (fail) | quiet_step (fail))
                        refine wpQuiet_nil ?_
                        intro _ hw'
                        obtain ⟨⟨dq2, osq2⟩, hw''⟩ := hw'
                        subst hw''
                        go_wp2
                        clear D0 D1 E0 E1
                        have hcs : ¬ capo = s := by have h := row_cap hrow; rw [← Hq.out] at h; omega
                        have hzz : Below w2.heap.size w2 (grow (redrawn wy dq2) osq2) := chain hzy (below_regrown wy dq2 osq2)
                        generalize grow (redrawn wy dq2) osq2 = wi at hzz ⊢
                        have hnyi := chain hny2 hzz
                        have hrowi := OwnsC.below hrow' hzz
                        have hcoi := hco.below hzz hgo2
                        have hgoi : go < wi.heap.size := Nat.lt_of_lt_of_le hgo2 hzz.size
                        have hgi : g < wi.heap.size := Nat.lt_of_lt_of_le hg2 hzz.size
                        have hqc : q ≤ capo := by have h := row_cap hrow; rw [← Hq.out] at h; exact h
                        have hsc : (s : Int) ≤ (capo : Int) := by omega
                        have hs0 : (0 : Int) ≤ (s : Int) := by omega
                        have x0i := (hzz.cell (p := ⟨g, off + j * 2, none⟩) hg2).trans x0
                        have x1i := (hzz.cell (p := ⟨g, off + j * 2 + 1, none⟩) hg2).trans x1
                        have Bd : Below wi.heap.size wi wi.drew := below_drewN (Below.refl _ wi) 1
                        go_region_held3 (fun w' => w'.cell? ⟨g, off + j * 2, none⟩ = some (.int .u32 (c.1.val : Int)) ∧ w'.cell? ⟨g, off + j * 2 + 1, none⟩ = some (.int .u32 (c.2.val : Int))) (first | (exact two_next hBk hgi x0i x1i) | go_keep)
                          (first
                            | (refine step_append_C rfl (.tmp 65) (.tmp 68) rfl wi.heap.size i0 hi hz0 hz1 hz2 (.slice (some ⟨wi.drew.heap.size, 0, none⟩) 0 0) 0 [] rfl (empty_row wi.drew wi.heap.size (Nat.le_refl _)) ⟨go, 0, none⟩ s _ (flat (out.take s)) rfl (flat_take_len out Hq.out hs) (news_cells ((hcoi.below (Bd.alloc (Nat.le_refl _) (.cells #[] 25)) hgoi).take s)) (flat_oneCell _) (by unfold maxLen; omega) (by omega) ((Bd.alloc (Nat.le_refl _) (.cells #[] 25))).size ?_; intro v69 w69 hown69 hgrow69; have hBk : Below wi.heap.size wi w69 := ((Bd.alloc (Nat.le_refl _) (.cells #[] 25))).grown hgrow69 ((Bd.alloc (Nat.le_refl _) (.cells #[] 25))).size (fun i h => by cases h; simp))
                            | (refine step_append_C rfl (.tmp 65) (.tmp 68) rfl wi.heap.size i0 hi hz0 hz1 hz2 (.slice (some ⟨wi.drew.heap.size, 0, none⟩) 0 0) 0 [] rfl (World.ownsRow.alloc (empty_row wi.drew wi.heap.size (Nat.le_refl _)) (.cells #[.int .u32 (c.1.val : Int), .int .u32 (c.2.val : Int)] 25)) ⟨go, 0, none⟩ s _ (flat (out.take s)) rfl (flat_take_len out Hq.out hs) (news_cells ((hcoi.below ((Bd.alloc (Nat.le_refl _) (.cells #[] 25)).alloc (by simp) (.cells #[.int .u32 (c.1.val : Int), .int .u32 (c.2.val : Int)] 25)) hgoi).take s)) (flat_oneCell _) (by unfold maxLen; omega) (by omega) (((Bd.alloc (Nat.le_refl _) (.cells #[] 25)).alloc (by simp) (.cells #[.int .u32 (c.1.val : Int), .int .u32 (c.2.val : Int)] 25))).size ?_; intro v69 w69 hown69 hgrow69; have hBk : Below wi.heap.size wi w69 := (((Bd.alloc (Nat.le_refl _) (.cells #[] 25)).alloc (by simp) (.cells #[.int .u32 (c.1.val : Int), .int .u32 (c.2.val : Int)] 25))).grown hgrow69 (((Bd.alloc (Nat.le_refl _) (.cells #[] 25)).alloc (by simp) (.cells #[.int .u32 (c.1.val : Int), .int .u32 (c.2.val : Int)] 25))).size (fun i h => by cases h; simp); have h74 : ∀ t u, (encC c)[t]? = some u → w69.cell? ((⟨wi.heap.size + 1, 0, none⟩ : Addr).add t) = some u := far_two hgrow69 (by simp) (by simp [Value.ownBlock]) (new_at2 wi _ _ _))
                            | (refine step_append_C rfl (.tmp 65) (.tmp 68) rfl wi.heap.size i0 hi hz0 hz1 hz2 (.slice (some ⟨wi.heap.size + 1, 0, none⟩) 0 0) 0 [] rfl (empty_row2 wi (.cells #[.int .u32 (c.1.val : Int), .int .u32 (c.2.val : Int)] 25)) ⟨go, 0, none⟩ s _ (flat (out.take s)) rfl (flat_take_len out Hq.out hs) (news_cells ((hcoi.below ((Bd.alloc (Nat.le_refl _) (.cells #[.int .u32 (c.1.val : Int), .int .u32 (c.2.val : Int)] 25)).alloc (by simp) (.cells #[] 25)) hgoi).take s)) (flat_oneCell _) (by unfold maxLen; omega) (by omega) (((Bd.alloc (Nat.le_refl _) (.cells #[.int .u32 (c.1.val : Int), .int .u32 (c.2.val : Int)] 25)).alloc (by simp) (.cells #[] 25))).size ?_; intro v69 w69 hown69 hgrow69; have hBk : Below wi.heap.size wi w69 := (((Bd.alloc (Nat.le_refl _) (.cells #[.int .u32 (c.1.val : Int), .int .u32 (c.2.val : Int)] 25)).alloc (by simp) (.cells #[] 25))).grown hgrow69 (((Bd.alloc (Nat.le_refl _) (.cells #[.int .u32 (c.1.val : Int), .int .u32 (c.2.val : Int)] 25)).alloc (by simp) (.cells #[] 25))).size (fun i h => by cases h; simp); have h74 : ∀ t u, (encC c)[t]? = some u → w69.cell? ((⟨wi.heap.size, 0, none⟩ : Addr).add t) = some u := far_two hgrow69 (by simp; omega) (by simp [Value.ownBlock]) (new_at1 wi _ _ _))
                            | (refine step_append_C rfl (.tmp 69) (.tmp 74) rfl wi.heap.size i0 hi hz0 hz1 hz2 v69 (0 + s) ([] ++ flat (out.take s)) rfl (World.ownsRow.alloc hown69 (.cells #[.int .u32 (c.1.val : Int), .int .u32 (c.2.val : Int)] 25)) ⟨w69.heap.size, 0, none⟩ 1 1 (encC c) rfl rfl (new_two _ _ _ _) (flat_one c ▸ flat_oneCell [c]) (by unfold maxLen; omega) (by omega) (Nat.le_trans hBk.size (by simp)) ?_; intro v75 w75 hown75 hgrow75; replace hBk := (hBk.alloc hBk.size (.cells #[.int .u32 (c.1.val : Int), .int .u32 (c.2.val : Int)] 25)).grown hgrow75 (by have := hBk.size; simp; omega) (fun i h => (World.ownsRow.lt hown69 i h).1))
                            | (refine step_append_C rfl (.tmp 69) (.tmp 74) rfl wi.heap.size i0 hi hz0 hz1 hz2 v69 (0 + s) ([] ++ flat (out.take s)) rfl hown69 ⟨_, 0, none⟩ 1 1 (encC c) rfl rfl h74 (flat_one c ▸ flat_oneCell [c]) (by unfold maxLen; omega) (by omega) hBk.size ?_; intro v75 w75 hown75 hgrow75; replace hBk := hBk.grown hgrow75 hBk.size (fun i h => (World.ownsRow.lt hown69 i h).1))
                            | (refine step_append_C rfl (.tmp 75) (.tmp 78) rfl wi.heap.size i0 hi hz0 hz1 hz2 v75 (0 + s + 1) ([] ++ flat (out.take s) ++ encC c) rfl hown75 ⟨go, s * 2, none⟩ (q - s) _ (flat (out.drop s)) rfl (flat_drop_len out Hq.out hs) (news_cells ((hcoi.below hBk hgoi).drop s)) (flat_oneCell _) (by unfold maxLen; omega) (by omega) hBk.size ?_; intro v79 w79 hown79 hgrow79; replace hBk := hBk.grown hgrow79 hBk.size (fun i h => (World.ownsRow.lt hown75 i h).1)))
                        all_goals
                          have HS : Hid (OutIs l (j + 1) (out.take s ++ [c] ++ out.drop s)) := HO.out.put HC.out HND.out HL.out HG.out
                          have hfin := own_put hown79 Hq.out hs hnyi.size
                          go_wp2
                          go_roundw
                          case rel => exact ⟨j + 1, _, by omega, by go_num, hfin, HS.out, chain hnyi hBk⟩
                          case measure => simp [intOf]; omega
                  · have HT : Hid (∀ y ∈ out.take (s + 1), ltC y c = true) := take_lt_step HL.out HD.out hb
                    go_wp2
                    refine wp_region_quiet_below (by kernel_rfl) (by kernel_rfl) ?_
                    repeat (first | go_big_quiet_step ((refine less_qt _ _ _ _ _ ?_; with_reducible assumption)) | quiet_step ((refine less_qt _ _ _ _ _ ?_; with_reducible assumption)))
                    refine wpQuiet_nil ?_
                    intro _ hw'
                    obtain ⟨⟨dq, osq⟩, hw''⟩ := hw'
                    subst hw''
                    go_wp2
                    go_roundw
                    case rel => exact ⟨s + 1, by omega, by go_num, HT.out, hnz.trans ((below_regrown _ dq osq).mono hnz.size)⟩
                    case measure => simp [intOf]; omega
                · have hsq : s = q := by omega
                  have hss : ((s : Int) == (q : Int)) = true := by simp; omega
                  have HG : Hid (∀ y ∈ out.drop s, ltC c y = true) := fun y hy => by
                    rw [List.drop_of_length_le (by rw [← Hq.out]; omega)] at hy
                    cases hy
                  clear hsq
                  go_wp2
                  refine wp_region_quiet_below (by kernel_rfl) (by kernel_rfl) ?_
                  repeat (first | go_big_quiet_step (fail) | quiet_step (fail))
                  refine wpQuiet_nil ?_
                  intro _ hw'
                  obtain ⟨⟨dq, osq⟩, hw''⟩ := hw'
                  subst hw''
                  go_wp2
                  have hzy : Below w2.heap.size w2 (grow (redrawn wr dq) osq) := hnz.trans ((below_regrown wr dq osq).mono hnz.size)
                  generalize grow (redrawn wr dq) osq = wy at hzy ⊢
                  refine wp_region_quiet_below (by kernel_rfl) (by kernel_rfl) ?_
                  repeat (first | go_big_quiet_step (fail) | quiet_step (fail))
                  refine wpQuiet_nil ?_
                  intro _ hw'
                  obtain ⟨⟨dq2, osq2⟩, hw''⟩ := hw'
                  subst hw''
                  go_wp2
                  have hzz : Below w2.heap.size w2 (grow (redrawn wy dq2) osq2) := chain hzy (below_regrown wy dq2 osq2)
                  generalize grow (redrawn wy dq2) osq2 = wi at hzz ⊢
                  have hnyi := chain hny2 hzz
                  have hrowi := OwnsC.below hrow' hzz
                  have hcoi := hco.below hzz hgo2
                  have hgoi : go < wi.heap.size := Nat.lt_of_lt_of_le hgo2 hzz.size
                  have hgi : g < wi.heap.size := Nat.lt_of_lt_of_le hg2 hzz.size
                  have hqc : q ≤ capo := by have h := row_cap hrow; rw [← Hq.out] at h; exact h
                  have hsc : (s : Int) ≤ (capo : Int) := by omega
                  have hs0 : (0 : Int) ≤ (s : Int) := by omega
                  have x0i := (hzz.cell (p := ⟨g, off + j * 2, none⟩) hg2).trans x0
                  have x1i := (hzz.cell (p := ⟨g, off + j * 2 + 1, none⟩) hg2).trans x1
                  by_cases hcs : capo = s
                  · have hcs2 : s = capo := hcs.symm
                    have HDR : Hid (out.drop s = []) := List.drop_of_length_le (by rw [← Hq.out]; omega)
                    subst hcs2
                    clear hcs
                    have Bd : Below wi.heap.size wi wi.drew := below_drewN (Below.refl _ wi) 1
                    go_region_held3 (fun w' => w'.cell? ⟨g, off + j * 2, none⟩ = some (.int .u32 (c.1.val : Int)) ∧ w'.cell? ⟨g, off + j * 2 + 1, none⟩ = some (.int .u32 (c.2.val : Int))) (first | (exact two_next hBk hgi x0i x1i) | go_keep)
                      (first
                        | (refine step_append_C rfl (.tmp 65) (.tmp 68) rfl wi.heap.size i0 hi hz0 hz1 hz2 (.slice (some ⟨wi.drew.heap.size, 0, none⟩) 0 0) 0 [] rfl (empty_row wi.drew wi.heap.size (Nat.le_refl _)) ⟨go, 0, none⟩ s _ (flat (out.take s)) rfl (flat_take_len out Hq.out hs) (news_cells ((hcoi.below (Bd.alloc (Nat.le_refl _) (.cells #[] 25)) hgoi).take s)) (flat_oneCell _) (by unfold maxLen; omega) (by omega) ((Bd.alloc (Nat.le_refl _) (.cells #[] 25))).size ?_; intro v69 w69 hown69 hgrow69; have hBk : Below wi.heap.size wi w69 := ((Bd.alloc (Nat.le_refl _) (.cells #[] 25))).grown hgrow69 ((Bd.alloc (Nat.le_refl _) (.cells #[] 25))).size (fun i h => by cases h; simp))
                        | (refine step_append_C rfl (.tmp 65) (.tmp 68) rfl wi.heap.size i0 hi hz0 hz1 hz2 (.slice (some ⟨wi.drew.heap.size, 0, none⟩) 0 0) 0 [] rfl (World.ownsRow.alloc (empty_row wi.drew wi.heap.size (Nat.le_refl _)) (.cells #[.int .u32 (c.1.val : Int), .int .u32 (c.2.val : Int)] 25)) ⟨go, 0, none⟩ s _ (flat (out.take s)) rfl (flat_take_len out Hq.out hs) (news_cells ((hcoi.below ((Bd.alloc (Nat.le_refl _) (.cells #[] 25)).alloc (by simp) (.cells #[.int .u32 (c.1.val : Int), .int .u32 (c.2.val : Int)] 25)) hgoi).take s)) (flat_oneCell _) (by unfold maxLen; omega) (by omega) (((Bd.alloc (Nat.le_refl _) (.cells #[] 25)).alloc (by simp) (.cells #[.int .u32 (c.1.val : Int), .int .u32 (c.2.val : Int)] 25))).size ?_; intro v69 w69 hown69 hgrow69; have hBk : Below wi.heap.size wi w69 := (((Bd.alloc (Nat.le_refl _) (.cells #[] 25)).alloc (by simp) (.cells #[.int .u32 (c.1.val : Int), .int .u32 (c.2.val : Int)] 25))).grown hgrow69 (((Bd.alloc (Nat.le_refl _) (.cells #[] 25)).alloc (by simp) (.cells #[.int .u32 (c.1.val : Int), .int .u32 (c.2.val : Int)] 25))).size (fun i h => by cases h; simp); have h74 : ∀ t u, (encC c)[t]? = some u → w69.cell? ((⟨wi.heap.size + 1, 0, none⟩ : Addr).add t) = some u := far_two hgrow69 (by simp) (by simp [Value.ownBlock]) (new_at2 wi _ _ _))
                        | (refine step_append_C rfl (.tmp 65) (.tmp 68) rfl wi.heap.size i0 hi hz0 hz1 hz2 (.slice (some ⟨wi.heap.size + 1, 0, none⟩) 0 0) 0 [] rfl (empty_row2 wi (.cells #[.int .u32 (c.1.val : Int), .int .u32 (c.2.val : Int)] 25)) ⟨go, 0, none⟩ s _ (flat (out.take s)) rfl (flat_take_len out Hq.out hs) (news_cells ((hcoi.below ((Bd.alloc (Nat.le_refl _) (.cells #[.int .u32 (c.1.val : Int), .int .u32 (c.2.val : Int)] 25)).alloc (by simp) (.cells #[] 25)) hgoi).take s)) (flat_oneCell _) (by unfold maxLen; omega) (by omega) (((Bd.alloc (Nat.le_refl _) (.cells #[.int .u32 (c.1.val : Int), .int .u32 (c.2.val : Int)] 25)).alloc (by simp) (.cells #[] 25))).size ?_; intro v69 w69 hown69 hgrow69; have hBk : Below wi.heap.size wi w69 := (((Bd.alloc (Nat.le_refl _) (.cells #[.int .u32 (c.1.val : Int), .int .u32 (c.2.val : Int)] 25)).alloc (by simp) (.cells #[] 25))).grown hgrow69 (((Bd.alloc (Nat.le_refl _) (.cells #[.int .u32 (c.1.val : Int), .int .u32 (c.2.val : Int)] 25)).alloc (by simp) (.cells #[] 25))).size (fun i h => by cases h; simp); have h74 : ∀ t u, (encC c)[t]? = some u → w69.cell? ((⟨wi.heap.size, 0, none⟩ : Addr).add t) = some u := far_two hgrow69 (by simp; omega) (by simp [Value.ownBlock]) (new_at1 wi _ _ _))
                        | (refine step_append_C rfl (.tmp 69) (.tmp 74) rfl wi.heap.size i0 hi hz0 hz1 hz2 v69 (0 + s) ([] ++ flat (out.take s)) rfl (World.ownsRow.alloc hown69 (.cells #[.int .u32 (c.1.val : Int), .int .u32 (c.2.val : Int)] 25)) ⟨w69.heap.size, 0, none⟩ 1 1 (encC c) rfl rfl (new_two _ _ _ _) (flat_one c ▸ flat_oneCell [c]) (by unfold maxLen; omega) (by omega) (Nat.le_trans hBk.size (by simp)) ?_; intro v75 w75 hown75 hgrow75; replace hBk := (hBk.alloc hBk.size (.cells #[.int .u32 (c.1.val : Int), .int .u32 (c.2.val : Int)] 25)).grown hgrow75 (by have := hBk.size; simp; omega) (fun i h => (World.ownsRow.lt hown69 i h).1))
                        | (refine step_append_C rfl (.tmp 69) (.tmp 74) rfl wi.heap.size i0 hi hz0 hz1 hz2 v69 (0 + s) ([] ++ flat (out.take s)) rfl hown69 ⟨_, 0, none⟩ 1 1 (encC c) rfl rfl h74 (flat_one c ▸ flat_oneCell [c]) (by unfold maxLen; omega) (by omega) hBk.size ?_; intro v75 w75 hown75 hgrow75; replace hBk := hBk.grown hgrow75 hBk.size (fun i h => (World.ownsRow.lt hown69 i h).1))
                        | (refine step_append_C rfl (.tmp 75) (.tmp 78) rfl wi.heap.size i0 hi hz0 hz1 hz2 v75 (0 + s + 1) ([] ++ flat (out.take s) ++ encC c) rfl hown75 ⟨go, 0, none⟩ 0 _ [] rfl rfl (fun t u hu => by simp at hu) (fun u hu => by simp at hu) (by unfold maxLen; omega) (by omega) hBk.size ?_; intro v79 w79 hown79 hgrow79; replace hBk := hBk.grown hgrow79 hBk.size (fun i h => (World.ownsRow.lt hown75 i h).1)))
                    all_goals
                      have HS : Hid (OutIs l (j + 1) (out.take s ++ [c] ++ out.drop s)) := HO.out.put HC.out HND.out HL.out HG.out
                      have hfin := own_put0 hown79 Hq.out hs HDR.out hnyi.size
                      go_wp2
                      go_roundw
                      case rel => exact ⟨j + 1, _, by omega, by go_num, hfin, HS.out, chain hnyi hBk⟩
                      case measure => simp [intOf]; omega
                  · have Bd : Below wi.heap.size wi wi.drew := below_drewN (Below.refl _ wi) 1
                    go_region_held3 (fun w' => w'.cell? ⟨g, off + j * 2, none⟩ = some (.int .u32 (c.1.val : Int)) ∧ w'.cell? ⟨g, off + j * 2 + 1, none⟩ = some (.int .u32 (c.2.val : Int))) (first | (exact two_next hBk hgi x0i x1i) | go_keep)
                      (first
                        | (refine step_append_C rfl (.tmp 65) (.tmp 68) rfl wi.heap.size i0 hi hz0 hz1 hz2 (.slice (some ⟨wi.drew.heap.size, 0, none⟩) 0 0) 0 [] rfl (empty_row wi.drew wi.heap.size (Nat.le_refl _)) ⟨go, 0, none⟩ s _ (flat (out.take s)) rfl (flat_take_len out Hq.out hs) (news_cells ((hcoi.below (Bd.alloc (Nat.le_refl _) (.cells #[] 25)) hgoi).take s)) (flat_oneCell _) (by unfold maxLen; omega) (by omega) ((Bd.alloc (Nat.le_refl _) (.cells #[] 25))).size ?_; intro v69 w69 hown69 hgrow69; have hBk : Below wi.heap.size wi w69 := ((Bd.alloc (Nat.le_refl _) (.cells #[] 25))).grown hgrow69 ((Bd.alloc (Nat.le_refl _) (.cells #[] 25))).size (fun i h => by cases h; simp))
                        | (refine step_append_C rfl (.tmp 65) (.tmp 68) rfl wi.heap.size i0 hi hz0 hz1 hz2 (.slice (some ⟨wi.drew.heap.size, 0, none⟩) 0 0) 0 [] rfl (World.ownsRow.alloc (empty_row wi.drew wi.heap.size (Nat.le_refl _)) (.cells #[.int .u32 (c.1.val : Int), .int .u32 (c.2.val : Int)] 25)) ⟨go, 0, none⟩ s _ (flat (out.take s)) rfl (flat_take_len out Hq.out hs) (news_cells ((hcoi.below ((Bd.alloc (Nat.le_refl _) (.cells #[] 25)).alloc (by simp) (.cells #[.int .u32 (c.1.val : Int), .int .u32 (c.2.val : Int)] 25)) hgoi).take s)) (flat_oneCell _) (by unfold maxLen; omega) (by omega) (((Bd.alloc (Nat.le_refl _) (.cells #[] 25)).alloc (by simp) (.cells #[.int .u32 (c.1.val : Int), .int .u32 (c.2.val : Int)] 25))).size ?_; intro v69 w69 hown69 hgrow69; have hBk : Below wi.heap.size wi w69 := (((Bd.alloc (Nat.le_refl _) (.cells #[] 25)).alloc (by simp) (.cells #[.int .u32 (c.1.val : Int), .int .u32 (c.2.val : Int)] 25))).grown hgrow69 (((Bd.alloc (Nat.le_refl _) (.cells #[] 25)).alloc (by simp) (.cells #[.int .u32 (c.1.val : Int), .int .u32 (c.2.val : Int)] 25))).size (fun i h => by cases h; simp); have h74 : ∀ t u, (encC c)[t]? = some u → w69.cell? ((⟨wi.heap.size + 1, 0, none⟩ : Addr).add t) = some u := far_two hgrow69 (by simp) (by simp [Value.ownBlock]) (new_at2 wi _ _ _))
                        | (refine step_append_C rfl (.tmp 65) (.tmp 68) rfl wi.heap.size i0 hi hz0 hz1 hz2 (.slice (some ⟨wi.heap.size + 1, 0, none⟩) 0 0) 0 [] rfl (empty_row2 wi (.cells #[.int .u32 (c.1.val : Int), .int .u32 (c.2.val : Int)] 25)) ⟨go, 0, none⟩ s _ (flat (out.take s)) rfl (flat_take_len out Hq.out hs) (news_cells ((hcoi.below ((Bd.alloc (Nat.le_refl _) (.cells #[.int .u32 (c.1.val : Int), .int .u32 (c.2.val : Int)] 25)).alloc (by simp) (.cells #[] 25)) hgoi).take s)) (flat_oneCell _) (by unfold maxLen; omega) (by omega) (((Bd.alloc (Nat.le_refl _) (.cells #[.int .u32 (c.1.val : Int), .int .u32 (c.2.val : Int)] 25)).alloc (by simp) (.cells #[] 25))).size ?_; intro v69 w69 hown69 hgrow69; have hBk : Below wi.heap.size wi w69 := (((Bd.alloc (Nat.le_refl _) (.cells #[.int .u32 (c.1.val : Int), .int .u32 (c.2.val : Int)] 25)).alloc (by simp) (.cells #[] 25))).grown hgrow69 (((Bd.alloc (Nat.le_refl _) (.cells #[.int .u32 (c.1.val : Int), .int .u32 (c.2.val : Int)] 25)).alloc (by simp) (.cells #[] 25))).size (fun i h => by cases h; simp); have h74 : ∀ t u, (encC c)[t]? = some u → w69.cell? ((⟨wi.heap.size, 0, none⟩ : Addr).add t) = some u := far_two hgrow69 (by simp; omega) (by simp [Value.ownBlock]) (new_at1 wi _ _ _))
                        | (refine step_append_C rfl (.tmp 69) (.tmp 74) rfl wi.heap.size i0 hi hz0 hz1 hz2 v69 (0 + s) ([] ++ flat (out.take s)) rfl (World.ownsRow.alloc hown69 (.cells #[.int .u32 (c.1.val : Int), .int .u32 (c.2.val : Int)] 25)) ⟨w69.heap.size, 0, none⟩ 1 1 (encC c) rfl rfl (new_two _ _ _ _) (flat_one c ▸ flat_oneCell [c]) (by unfold maxLen; omega) (by omega) (Nat.le_trans hBk.size (by simp)) ?_; intro v75 w75 hown75 hgrow75; replace hBk := (hBk.alloc hBk.size (.cells #[.int .u32 (c.1.val : Int), .int .u32 (c.2.val : Int)] 25)).grown hgrow75 (by have := hBk.size; simp; omega) (fun i h => (World.ownsRow.lt hown69 i h).1))
                        | (refine step_append_C rfl (.tmp 69) (.tmp 74) rfl wi.heap.size i0 hi hz0 hz1 hz2 v69 (0 + s) ([] ++ flat (out.take s)) rfl hown69 ⟨_, 0, none⟩ 1 1 (encC c) rfl rfl h74 (flat_one c ▸ flat_oneCell [c]) (by unfold maxLen; omega) (by omega) hBk.size ?_; intro v75 w75 hown75 hgrow75; replace hBk := hBk.grown hgrow75 hBk.size (fun i h => (World.ownsRow.lt hown69 i h).1))
                        | (refine step_append_C rfl (.tmp 75) (.tmp 78) rfl wi.heap.size i0 hi hz0 hz1 hz2 v75 (0 + s + 1) ([] ++ flat (out.take s) ++ encC c) rfl hown75 ⟨go, s * 2, none⟩ (q - s) _ (flat (out.drop s)) rfl (flat_drop_len out Hq.out hs) (news_cells ((hcoi.below hBk hgoi).drop s)) (flat_oneCell _) (by unfold maxLen; omega) (by omega) hBk.size ?_; intro v79 w79 hown79 hgrow79; replace hBk := hBk.grown hgrow79 hBk.size (fun i h => (World.ownsRow.lt hown75 i h).1)))
                    all_goals
                      have HS : Hid (OutIs l (j + 1) (out.take s ++ [c] ++ out.drop s)) := HO.out.put HC.out HND.out HL.out HG.out
                      have hfin := own_put hown79 Hq.out hs hnyi.size
                      go_wp2
                      go_roundw
                      case rel => exact ⟨j + 1, _, by omega, by go_num, hfin, HS.out, chain hnyi hBk⟩
                      case measure => simp [intOf]; omega
        · obtain rfl : j = k := by omega
          have HL : Hid (IsLeast l out) := by
            have h := HO.out
            rw [Hn.out] at h
            exact h.least
          obtain ⟨a9, cap9, rfl⟩ := (OwnsC.row hrow).len
          have hrow' := hrow
          by_cases h64 : out.length ≤ 64
          · go_wp2
            go_ret2
            exact ⟨_, out, 0, rfl, .inr ⟨HR.out, _, HL.out, .inl ⟨h64, rfl, rfl⟩⟩, hrow', hny⟩
          · go_wp2
            go_ret2
            exact ⟨_, [], 3, rfl, .inr ⟨HR.out, _, HL.out, .inr ⟨by omega, rfl, rfl⟩⟩, World.ownsRow_nil _ _ _ _, hny⟩
end Go.Proofs.YtdikaomebbpmhaaGreat
