/- The walk of the law TruthPuts: rows of numbers of the call's own, and appended to. -/
import Derived.Deep.LoopGhost
import Derived.Maps.AppendAt
import Derived.Test.YtinegcahhafddaaDoorTWorks
import Derived.Test.YtinegcahhafddaaDoorFPutC
import Derived.Test.YtinegcahhafddaaDoorWTruthB
namespace Go.Proofs.YtinegcahhafddaaDoor
open Go.RowKit
set_option linter.unusedVariables false
set_option linter.unusedSimpArgs false

def encZ (z : Int) : Value := .int .i64 z
/-- The slice value v owns the numbers l, in a block from 'base' on. -/
def OwnsZ (w : World) (base : Nat) (v : Value) (l : List Int) : Prop := w.ownsRow base 3 1 v l.length (l.map encZ)
theorem OwnsZ.form {w : World} {base : Nat} {v : Value} {l : List Int} (h : OwnsZ w base v l) : (v = .slice none 0 0 ∧ l = []) ∨ ∃ g cap, v = .slice (some ⟨g, 0, none⟩) l.length cap ∧ base ≤ g ∧ g < w.heap.size := by
  have h0 := h
  obtain ⟨h1, h2 | ⟨g, cap, cur, rfl, hg, _⟩⟩ := h
  · exact .inl ⟨h2.1, List.length_eq_zero_iff.1 h2.2⟩
  · exact .inr ⟨g, cap, rfl, hg, (World.ownsRow.lt h0 g rfl).2⟩
theorem OwnsZ.len {w : World} {base : Nat} {v : Value} {l : List Int} (h : OwnsZ w base v l) : ∃ a cap, v = .slice a l.length cap := by
  rcases h.form with ⟨rfl, rfl⟩ | ⟨g, cap, rfl, _⟩
  · exact ⟨_, _, rfl⟩
  · exact ⟨_, _, rfl⟩
theorem OwnsZ.rowZ {w : World} {base : Nat} {v : Value} {l : List Int} (h : OwnsZ w base v l) : RowZ w v l := by
  rcases h.form with ⟨rfl, rfl⟩ | ⟨g, cap, rfl, _, hg⟩
  · exact .inl ⟨_, _, rfl, rfl⟩
  · refine .inr ⟨g, 0, cap, rfl, hg, fun j z hj => ?_⟩
    have hlt := (List.getElem?_eq_some_iff.1 hj).1
    rw [Nat.zero_add, World.ownsRow.cellAt h j (by omega), List.getElem?_map, hj]
    rfl
theorem OwnsZ.below {w w' : World} {base : Nat} {v : Value} {l : List Int} (h : OwnsZ w base v l) (hb : Below w.heap.size w w') : OwnsZ w' base v l :=
  World.ownsRow.kept h (row := none) ⟨hb.os, hb.tape, hb.output, hb.size, fun k hk _ => hb.block k hk⟩ (by
    cases e : v.ownBlock with
    | none => exact .inl rfl
    | some g => exact .inr (by simp))
theorem runz_append_none (ty : TypeId) (c : Nat) (w : World) : (Builtin.append_ #[27, 27] ty #[.slice none 0 0, .slice none 0 c]).run Tryd.prog w = .ok (.slice none 0 0) w := by
  simp [Builtin.append_, run_underlying Tryd.underlying27, Result.andThen, Builtin.lenOf, Builtin.firstCells, storeCells]
theorem runz_append_nilc (n cap c : Nat) (hn : n ≤ cap) (ad : Addr) (ty : TypeId) (w : World) : (Builtin.append_ #[27, 27] ty #[.slice (some ad) n cap, .slice none 0 c]).run Tryd.prog w = .ok (.slice (some ad) n cap) w := by
  simp [Builtin.append_, run_underlying Tryd.underlying27, Result.andThen, Builtin.lenOf, Builtin.firstCells, storeCells, hn]
/-- append of a row of numbers onto one that is owned. -/
theorem append_rowZ {W : World} {base : Nat} {v s : Value} {u l : List Int} (ty : TypeId) (hO : OwnsZ W base v u) (hs : RowZ W s l) (hn : u.length + l.length ≤ 200000) (hb : base ≤ W.heap.size) :
    ∃ v' W', (Builtin.append_ #[27, 27] ty #[v, s]).run Tryd.prog W = .ok v' W' ∧ OwnsZ W' base v' (u ++ l) ∧ W.grownBy W' v.ownBlock := by
  obtain ⟨i0, hi, hz0, hz1, hz2⟩ := info_parts Tryd.infoInt
  have big : ∀ (ad : Addr) (c : Nat), s = .slice (some ad) l.length c → (∀ j x, (l.map encZ)[j]? = some x → W.cell? (ad.add j) = some x) → ∃ v' W', (Builtin.append_ #[27, 27] ty #[v, s]).run Tryd.prog W = .ok v' W' ∧ OwnsZ W' base v' (u ++ l) ∧ W.grownBy W' v.ownBlock := by
    intro ad c hs hc
    obtain ⟨v', W', hrun, r1, r2, _, r4⟩ := run_append_own_at (P := Tryd.prog) W base 27 ty 3 i0 _ 1 8 Tryd.underlying27 hi hz0 hz1 hz2 rfl (by decide) v u.length (u.map encZ) hO ad l.length c (l.map encZ) (by simp) hc (fun x hx => by
      obtain ⟨z, _, rfl⟩ := List.mem_map.1 hx
      rfl) (by unfold maxLen; omega) (by omega) hb
    refine ⟨v', W', by rw [hs]; exact hrun, ?_, r2⟩
    unfold OwnsZ
    rw [List.map_append, List.length_append]
    exact r1
  rcases hs with ⟨a, c, rfl, rfl⟩ | ⟨g, off, c, rfl, hg, hc⟩
  · cases a with
    | some ad => exact big ad c rfl (fun j x hj => by simp at hj)
    | none =>
      rcases hO.2 with ⟨rfl, hz⟩ | ⟨g, cap, cur, rfl, _, _, hle, _⟩
      · exact ⟨_, _, runz_append_none ty c W, by rw [List.append_nil]; exact hO, World.grownBy.refl _ _⟩
      · exact ⟨_, _, runz_append_nilc _ _ c hle _ ty W, by rw [List.append_nil]; exact hO, World.grownBy.refl _ _⟩
  · refine big _ c rfl (fun j x hj => ?_)
    rw [List.getElem?_map] at hj
    obtain ⟨z, hz, rfl⟩ := Option.map_eq_some_iff.1 hj
    rw [Addr.add_lit]
    exact hc j z hz
theorem wpList_append_rowZ {w : World} {ops : Array Oper} {rest : List Oper} {o : Oper} {a : Act} {Q : Exit → Act → World → Prop} (hgd : o.guard = none) (s x : Operand)
    (ho : o.op = .call { callee := .builtin .append, args := #[s, x], argTypes := #[27, 27] }) (base : Nat) (v sv : Value) (u l : List Int) (hs : a.eval s = v) (hx : a.eval x = sv)
    (hO : OwnsZ w base v u) (hr : RowZ w sv l) (hn : u.length + l.length ≤ 200000) (hb : base ≤ w.heap.size)
    (h : ∀ v' w', OwnsZ w' base v' (u ++ l) → w.grownBy w' v.ownBlock → wpList Tryd.prog ops Q rest (a.put o.dst v') w') : wpList Tryd.prog ops Q (o :: rest) a w := by
  refine wpList_plain hgd fun K hK' => ?_
  obtain ⟨v', w', hrun, r1, r2⟩ := append_rowZ o.type hO hr hn hb
  unfold Oper.wp
  simp [execOp, ho, resolve, invoke, builtin, hs, hx, hrun, Result.andThen]
  exact hK' _ _ (h v' w' r1 r2)
theorem ownZ_grown {W W' : World} {base : Nat} {v : Value} {u : List Int} (hO : OwnsZ W base v u) (hg : W.grownBy W' v.ownBlock) (hb : base ≤ W.heap.size) : Below base W W' :=
  (Below.refl base W).grown hg hb (fun k hk => (World.ownsRow.lt hO k hk).1)
theorem emptyZ (w : World) (base : Nat) (hb : base ≤ w.heap.size) : OwnsZ (w.alloc (.cells #[] 3)) base (.slice (some ⟨w.heap.size, 0, none⟩) 0 0) [] :=
  World.ownsRow_lit (base := base) (e := 3) (size := 1) w #[] 0 hb (by unfold maxLen; omega) rfl
theorem oneZ (w : World) (z : Int) : RowZ (w.alloc (.cells #[.int .i64 z] 3)) (.slice (some ⟨w.heap.size, 0, none⟩) 1 1) [z] :=
  .inr ⟨w.heap.size, 0, 1, rfl, by simp, fun j x hj => by
    have hlt := (List.getElem?_eq_some_iff.1 hj).1
    have : j = 0 := by simpa using hlt
    subst this
    simp at hj
    subst hj
    simp [go_sem]⟩
/-- The values with another one in a dimension's place, as a row. -/
theorem atZ_put (l : List Int) (k i : Nat) (z : Int) (hi : i < l.length + k) : atZ ((l ++ List.replicate k 0).set i z) = putV (atZ l) i z := by
  funext j
  show (((l ++ List.replicate k 0).set i z)[j]?).getD 0 = if j = i then z else (l[j]?).getD 0
  rw [List.getElem?_set]
  by_cases h : i = j
  · subst h
    have : i < (l ++ List.replicate k (0 : Int)).length := by simp; omega
    rw [if_pos rfl, if_pos this, if_pos rfl]
    rfl
  · have h' : ¬ j = i := fun e => h e.symm
    rw [if_neg h, if_neg h']
    by_cases hj : j < l.length
    · rw [List.getElem?_append_left hj]
    · rw [List.getElem?_append_right (by omega), List.getElem?_replicate, List.getElem?_eq_none (l := l) (by omega)]
      split <;> rfl
theorem evalF_put {f r : List C} {i : Nat} (hi : i < 24) (h : (putF f (i : Int) r).2 = 0) (v : Nat → Int) : evalF (putF f (i : Int) r).1 v = (valF f (putV v i (valF r v)), 0) := by rw [evalF_right (putF_right _ _ _), val_put hi h]
theorem putF_told {f r : List C} {i : Int} (h : (putF f i r).2 = 0) : rightF f = true ∧ rightF r = true ∧ isDimB i = true := by
  unfold putF at h
  cases hf : rightF f <;> cases hr : rightF r <;> cases hd : isDimB i <;> rw [hf, hr, hd] at h <;> first | exact ⟨rfl, rfl, rfl⟩ | exact absurd h (show ¬ ((2 : Int) = 0) by decide)
theorem isDimB_of {i : Int} (h : isDimB i = true) : ∃ k : Nat, i = (k : Int) ∧ k < 24 := by
  have : 0 ≤ i ∧ i < 24 := by simpa [isDimB] using h
  exact ⟨i.toNat, by omega, by omega⟩

set_option maxRecDepth 100000 in
set_option maxHeartbeats 2000000 in
theorem puts_big (f r : List C) (i : Int) (l : List Int) (vf vr va : Value) (w : World) (hf : FRow w vf f) (hr : FRow w vr r) (ha : RowZ w va l) (hT : Tabs w) (hbig : 24 < f.length ∨ 24 < r.length ∨ 100 < l.length) :
    Calls Tryd.prog 8 #[vf, .int .i64 i, vr, va] w fun e w' => e = .returned (.bool true) ∧ Below w.heap.size w w' := by
  have c1 := tworks_any w hT
  obtain ⟨pf, cf, rfl⟩ := hf.len
  obtain ⟨pr, cr, rfl⟩ := hr.len
  obtain ⟨pa, ca, rfl⟩ := ha.len
  clear hf hr hT ha
  generalize f.length = nf at *
  generalize r.length = nr at *
  generalize l.length = nl at *
  by_cases h1 : 24 < nf
  · have h1' : (24 : Int) < (nf : Int) := by omega
    clear hbig
    go_enter Tryd.func8, Tryd.ntmps8
    go_wp2_with fail
    refine c1.mono ?_
    rintro e w1 ⟨rfl, hB⟩
    clear c1
    go_wp2
    go_ret
    exact ⟨rfl, hB⟩
  · have h1' : ¬ ((24 : Int) < (nf : Int)) := by omega
    by_cases h2 : 24 < nr
    · have h2' : (24 : Int) < (nr : Int) := by omega
      clear hbig
      go_enter Tryd.func8, Tryd.ntmps8
      go_wp2_with fail
      refine c1.mono ?_
      rintro e w1 ⟨rfl, hB⟩
      clear c1
      go_wp2
      go_ret
      exact ⟨rfl, hB⟩
    · have h2' : ¬ ((24 : Int) < (nr : Int)) := by omega
      have h3' : (100 : Int) < (nl : Int) := by omega
      clear hbig
      go_enter Tryd.func8, Tryd.ntmps8
      go_wp2_with fail
      refine c1.mono ?_
      rintro e w1 ⟨rfl, hB⟩
      clear c1
      go_wp2
      go_ret
      exact ⟨rfl, hB⟩

set_option maxRecDepth 100000 in
set_option maxHeartbeats 2000000 in
theorem puts_no (f r : List C) (i : Int) (l : List Int) (vf vr va : Value) (w : World) (hf : FRow w vf f) (hr : FRow w vr r) (ha : RowZ w va l) (hT : Tabs w) (h1 : f.length ≤ 24) (h2 : r.length ≤ 24) (h3 : l.length ≤ 100) (hno : (putF f i r).2 ≠ 0) :
    Calls Tryd.prog 8 #[vf, .int .i64 i, vr, va] w fun e w' => e = .returned (.bool true) ∧ Below w.heap.size w w' := by
  have c1 := tworks_any w hT
  have c2 := fun W (h : Below w.heap.size w W) => Put_any f r i vf vr W (hf.below h) (hr.below h) (by omega) (by omega)
  have c3 := fun W (h : Below w.heap.size w W) => Eval_any r l vr va W (hT.below h) (hr.below h) (ha.below h) (by omega)
  obtain ⟨pf, cf, rfl⟩ := hf.len
  obtain ⟨pr, cr, rfl⟩ := hr.len
  obtain ⟨pa, ca, rfl⟩ := ha.len
  clear hf hr hT ha
  generalize f.length = nf at *
  generalize r.length = nr at *
  generalize l.length = nl at *
  have h1' : ¬ ((24 : Int) < (nf : Int)) := by omega
  have h2' : ¬ ((24 : Int) < (nr : Int)) := by omega
  have h3' : ¬ ((100 : Int) < (nl : Int)) := by omega
  generalize putF f i r = J at *
  obtain ⟨X, er⟩ := J
  generalize evalF r (atZ l) = J at *
  obtain ⟨xv, ev⟩ := J
  simp only at c2 c3 hno
  have hno' : (er != 0) = true := by simp [hno]
  clear hno
  go_enter Tryd.func8, Tryd.ntmps8
  go_wp2_with fail
  refine c1.mono ?_
  rintro e w1 ⟨rfl, hB⟩
  clear c1
  replace c2 := c2 w1 hB
  go_wp2_with fail
  refine c2.mono ?_
  rintro e w2 ⟨vx, rfl, hO, hB2⟩
  clear c2
  replace hB := chain hB hB2
  clear hB2
  replace c3 := c3 w2 hB
  obtain ⟨px, qx, rfl⟩ := OwnsC.len hO
  clear hO
  go_wp2_with fail
  refine c3.mono ?_
  rintro e w3 ⟨rfl, hB2⟩
  clear c3
  replace hB := chain hB hB2
  clear hB2
  go_wp2
  go_ret
  exact ⟨rfl, hB⟩

set_option maxRecDepth 100000 in
set_option maxHeartbeats 4000000 in
theorem walk_TruthPuts (f : List C) (vf : Value) (i : Int) (hi : (Lit.int .i64 i).wf = true) (r : List C) (vr : Value) (l : List Int) (va : Value) (w : World) (hf : FRow w vf f) (hr : FRow w vr r) (ha : RowZ w va l) (hT : Tabs w) :
    Calls Tryd.prog 8 #[vf, .int .i64 i, vr, va] w fun e w' => e = .returned (.bool true) ∧ Below w.heap.size w w' := by
  by_cases hbig : 24 < f.length ∨ 24 < r.length ∨ 100 < l.length
  · exact puts_big f r i l vf vr va w hf hr ha hT hbig
  have h1 : ¬ 24 < f.length := fun h => hbig (.inl h)
  have h2 : ¬ 24 < r.length := fun h => hbig (.inr (.inl h))
  have h3 : ¬ 100 < l.length := fun h => hbig (.inr (.inr h))
  by_cases hno' : (putF f i r).2 ≠ 0
  · exact puts_no f r i l vf vr va w hf hr ha hT (by omega) (by omega) (by omega) hno'
  have hno : (putF f i r).2 = 0 := Classical.not_not.1 hno'
  clear hno'
  obtain ⟨hrf, hrr, hdim⟩ := putF_told hno
  obtain ⟨k, rfl, hk⟩ := isDimB_of hdim
  have c1 := tworks_any w hT
  have c2 := fun W (h : Below w.heap.size w W) => Put_any f r (k : Int) vf vr W (hf.below h) (hr.below h) (by omega) (by omega)
  have c3 := fun W (h : Below w.heap.size w W) => Eval_any r l vr va W (hT.below h) (hr.below h) (ha.below h) (by omega)
  rw [evalF_right hrr] at c3
  have c4 := fun v W (h : Below w.heap.size w W) (h2 : OwnsC W w.heap.size v (putF f (k : Int) r).1) => Eval_any (putF f (k : Int) r).1 l v va W (hT.below h) (OwnsC.frow h2) (ha.below h) (by have := putF_len f (k : Int) r; omega)
  rw [evalF_put hk hno] at c4
  have c5 := fun m v W (h : Below w.heap.size w W) (hz : RowZ W v m) => Eval_any f m vf v W (hT.below h) (hf.below h) hz (by omega)
  have HV : Hid (∀ m, atZ m = putV (atZ l) k (valF r (atZ l)) → evalF f (atZ m) = (valF f (putV (atZ l) k (valF r (atZ l))), 0)) := fun m h => by rw [evalF_right hrf, h]
  have HZ : Hid (∀ W, Below w.heap.size w W → RowZ W va l) := fun W h => ha.below h
  have HP : Hid (∀ n z, k < l.length + n → atZ ((l ++ List.replicate n 0).set k z) = putV (atZ l) k z) := fun n z h => atZ_put l n k z h
  have HL : Hid (l.length ≤ 100) := by show l.length ≤ 100; omega
  obtain ⟨pf, cf, rfl⟩ := hf.len
  obtain ⟨pr, cr, rfl⟩ := hr.len
  obtain ⟨pa, ca, rfl⟩ := ha.len
  obtain ⟨nl, hnl⟩ : ∃ nl, nl = l.length := ⟨_, rfl⟩
  have Hnl : Hid (nl = l.length) := hnl
  rw [← hnl] at h3 c3 c4 HZ ⊢
  clear hf hr hT ha hbig hrf hrr hdim hi hnl
  generalize f.length = nf at *
  generalize r.length = nr at *
  have h1' : ¬ ((24 : Int) < (nf : Int)) := by omega
  have h2' : ¬ ((24 : Int) < (nr : Int)) := by omega
  have h3' : ¬ ((100 : Int) < (nl : Int)) := by omega
  generalize valF f (putV (atZ l) k (valF r (atZ l))) = xf at *
  generalize hxv : valF r (atZ l) = xv at *
  clear hxv
  generalize putF f (k : Int) r = J at *
  obtain ⟨X, er⟩ := J
  simp only at c2 c4 hno
  subst hno
  go_enter Tryd.func8, Tryd.ntmps8
  go_wp2_with fail
  refine c1.mono ?_
  rintro e w1 ⟨rfl, hB⟩
  clear c1
  replace c2 := c2 w1 hB
  go_wp2_with fail
  refine c2.mono ?_
  rintro e w2 ⟨vx, rfl, hO, hB2⟩
  clear c2
  replace hO := OwnsC.mono hO hB.size
  replace hB := chain hB hB2
  clear hB2
  replace c3 := c3 w2 hB
  obtain ⟨px, qx, rfl⟩ := OwnsC.len hO
  generalize X.length = nx at *
  go_wp2_with fail
  refine c3.mono ?_
  rintro e w3 ⟨rfl, hB2⟩
  clear c3
  replace hO := OwnsC.below hO hB2
  replace hB := chain hB hB2
  clear hB2
  have hE := emptyZ w3 w3.heap.size (Nat.le_refl _)
  have hBe := below_alloc w3 (.cells #[] 3)
  have hOe := OwnsC.below hO hBe
  have HO3 : Hid (OwnsC w3 w.heap.size (.slice px nx qx) X) := hO
  have HB3 : Hid (Below w.heap.size w w3) := hB
  clear hO hOe
  go_wp2_with (first
    | (at_builtin; refine wpList_append_rowZ rfl _ _ rfl w3.heap.size _ _ [] l rfl rfl hE (HZ.out _ (chain HB3.out hBe)) (by have := HL.out; simp; omega) hBe.size ?_; intro v4 w4 hO4 hg4; have hB4 : Below w3.heap.size w3 w4 := hBe.trans (ownZ_grown hE hg4 hBe.size))
    | fail)
  rw [List.nil_append] at hO4
  clear hE hg4 hBe hB
  have HO4 : Hid (OwnsZ w4 w3.heap.size v4 l) := hO4
  clear hO4
  go_loopg [13] (k + 1 - nl) (fun m v wr => ∃ q : Nat, m = k + 1 - (nl + q) ∧ (nl + q ≤ k + 1 ∨ q = 0) ∧ OwnsZ wr w3.heap.size v (l ++ List.replicate q 0) ∧ Below w3.heap.size w3 wr)
  case atStart => exact ⟨0, rfl, .inr rfl, by simpa using HO4.out, hB4⟩
  case round =>
    obtain ⟨q, hm, hq, hOq, hBq⟩ := hrel
    clear HO4 hB4
    obtain ⟨pv, cv, hv⟩ := hOq.len
    have hlen : (l ++ List.replicate q (0 : Int)).length = nl + q := by rw [Hnl.out]; simp
    rw [hlen] at hv
    subst hv
    by_cases hle : nl + q ≤ k
    · have hle' : ((nl + q : Nat) : Int) ≤ (k : Int) := by omega
      have hb1 := below_alloc wr (.cells #[.int .i64 0] 3)
      have A : Aside (gk = k + 1 - (nl + q)) := hm
      have hO1 := hOq.below hb1
      have hBb := hBq.trans (hb1.mono hBq.size)
      have hL100 := HL.out
      have hz1 := oneZ wr 0
      have hl2 : (l ++ List.replicate q (0 : Int)).length + [(0 : Int)].length ≤ 200000 := by rw [hlen]; simp; omega
      clear hm hlen hOq
      go_wp2_with (first
        | (at_builtin; refine wpList_append_rowZ rfl _ _ rfl w3.heap.size _ _ (l ++ List.replicate q 0) [0] rfl rfl hO1 hz1 hl2 hBb.size ?_; intro v5 w5 hO5 hg5; have hB5 : Below w3.heap.size w3 w5 := hBb.trans (ownZ_grown hO1 hg5 hBb.size))
        | fail)
      go_roundg (k + 1 - (nl + (q + 1)))
      case measure => rw [A.out]; omega
      case rel => exact ⟨q + 1, rfl, .inl (by omega), by rw [List.replicate_succ', ← List.append_assoc]; exact hO5, hB5⟩
    · have hle' : ¬ (((nl + q : Nat) : Int) ≤ (k : Int)) := by omega
      have hkl : k < nl + q := by omega
      rcases hOq.form with ⟨e, _⟩ | ⟨g, cap, e, hgB, hg⟩
      · injection e with e1 e2 e3
        omega
      injection e with e1 e2 e3
      subst e1 e3
      clear e2
      have hOq' := hOq
      unfold OwnsZ at hOq
      rw [hlen] at hOq
      have hst := (World.ownsRow.stored hOq k (.int .i64 xv)).1
      have hfk := World.ownsRow.frozenAt hOq k
      have hck : ∃ u, wr.cell? ⟨g, k, none⟩ = some u := by
        rw [World.ownsRow.cellAt hOq k (by omega), List.getElem?_map, List.getElem?_eq_getElem (by rw [hlen]; exact hkl)]
        exact ⟨_, rfl⟩
      obtain ⟨u, hck⟩ := hck
      have hBs : Below w3.heap.size w3 (wr.setCell ⟨g, k, none⟩ (.int .i64 xv)) := hBq.setCell (p := ⟨g, k, none⟩) hgB _
      have hOs : OwnsZ (wr.setCell ⟨g, k, none⟩ (.int .i64 xv)) w3.heap.size (.slice (some ⟨g, 0, none⟩) (nl + q) cv) ((l ++ List.replicate q 0).set k xv) := by
        unfold OwnsZ
        rw [List.map_set, List.length_set, hlen]
        exact hst
      have hAt := HP.out q xv (by rw [← Hnl.out]; exact hkl)
      have HA : Hid (evalF f (atZ ((l ++ List.replicate q 0).set k xv)) = (xf, 0)) := HV.out _ hAt
      have hOx := OwnsC.below HO3.out hBs
      have c4' := c4 _ _ (chain HB3.out hBs) hOx
      clear c4 hst hOq hOq' hlen hAt hm hOx hq
      go_wp2_with fail
      generalize wr.setCell ⟨g, k, none⟩ (.int .i64 xv) = w6 at hBs hOs c4' ⊢
      refine c4'.mono ?_
      rintro e w7 ⟨rfl, hB7⟩
      clear c4'
      have hO7 := hOs.below hB7
      have hB7' : Below w3.heap.size w3 w7 := chain hBs hB7
      have c5' := c5 _ _ w7 (chain HB3.out hB7') hO7.rowZ
      rw [HA.out] at c5'
      clear c5 hOs hBs hB7
      go_wp2_with fail
      refine c5'.mono ?_
      rintro e w8 ⟨rfl, hB8⟩
      clear c5'
      go_wp2
      go_ret
      exact ⟨rfl, chain (chain HB3.out hB7') hB8⟩
end Go.Proofs.YtinegcahhafddaaDoor
