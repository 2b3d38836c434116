/- fold over a row of rows; putClause: a formula in a dimension's place in one clause. -/
import Derived.Test.YtinegcahhafddaaDoorFNot
namespace Go.Proofs.YtinegcahhafddaaDoor
open Go.RowKit
set_option linter.unusedVariables false
set_option linter.unusedSimpArgs false

set_option maxRecDepth 100000 in
set_option maxHeartbeats 2000000 in
theorem foldRR_any (fid : Nat) (cap : Array Value) (eg : ∀ args w, (callFunc fid args).run Tryd.prog w = .ok (.enter fid args) w) (rs : List Value) (pa : Option Addr) (ca : Nat) (first : Value) (wb w : World)
    (hcell : ∀ k x, rs[k]? = some x → ∃ g, pa = some ⟨g, 0, none⟩ ∧ g < wb.heap.size ∧ wb.cell? ⟨g, k, none⟩ = some x) (hl : rs.length ≤ 100000)
    (I : Nat → Value → World → Prop) (Q : Int → Prop) (hB : Below wb.heap.size wb w) (h0 : I 0 first w)
    (hn : ∀ k x v W, rs[k]? = some x → Below wb.heap.size wb W → I k v W → Calls Tryd.prog fid (#[v, x] ++ cap) W fun e w' => Below wb.heap.size wb w' ∧ ∃ v' er, e = .returned (.tuple #[v', .int .i64 er]) ∧ ((er = 0 ∧ I (k + 1) v' w') ∨ (er ≠ 0 ∧ Q er))) :
    Calls Tryd.prog 71 #[.slice pa rs.length ca, first, .func (.func fid) #[] cap] w fun e w' => Below wb.heap.size wb w' ∧ ∃ v' er, e = .returned (.tuple #[v', .int .i64 er]) ∧ ((er = 0 ∧ I rs.length v' w') ∨ (er ≠ 0 ∧ v' = .slice none 0 0 ∧ Q er)) := by
  obtain ⟨n, hn1⟩ : ∃ n, n = rs.length := ⟨_, rfl⟩
  have Hn : Hid (n = rs.length) := hn1
  rw [← hn1] at hl ⊢
  clear hn1
  have H0 : Hid (I 0 first w) := h0
  have Ha : Hid (∀ k x, rs[k]? = some x → ∃ g, pa = some ⟨g, 0, none⟩ ∧ g < wb.heap.size ∧ wb.cell? ⟨g, k, none⟩ = some x) := hcell
  have HN : Hid (∀ k x v W, rs[k]? = some x → Below wb.heap.size wb W → I k v W → Calls Tryd.prog fid (#[v, x] ++ cap) W fun e w' => Below wb.heap.size wb w' ∧ ∃ v' er, e = .returned (.tuple #[v', .int .i64 er]) ∧ ((er = 0 ∧ I (k + 1) v' w') ∨ (er ≠ 0 ∧ Q er))) := hn
  clear h0 hn hcell
  go_enter Tryd.func71, Tryd.ntmps71
  go_wp2
  go_loopw [8, 16] (fun v i wr => ∃ k : Nat, k ≤ n ∧ i = .int .i64 k ∧ Hid (I k v wr) ∧ Below wb.heap.size wb wr) (fun _ i _ => n - (intOf i).toNat)
  case atStart => exact ⟨0, Nat.zero_le _, rfl, H0, hB⟩
  case round =>
    obtain ⟨k, hk, rfl, hIk, hny⟩ := hrel
    by_cases hlt : k < n
    · obtain ⟨x, hck⟩ := get_some (l := rs) (k := k) (by rw [← Hn.out]; exact hlt)
      obtain ⟨g, rfl, hg, x0⟩ := Ha.out k x hck
      replace x0 := (hny.cell (p := ⟨g, k, none⟩) hg).trans x0
      have HC := HN.out k x _ wr hck hny hIk.out
      clear hck
      go_wp2_with fail
      refine HC.mono ?_
      rintro e w2 ⟨hB2, v2, er, rfl, ⟨rfl, hI2⟩ | ⟨hne, hq⟩⟩
      · have HI2 : Hid (I (k + 1) v2 w2) := hI2
        clear hI2 HC
        go_wp2
        go_roundw
        case rel => exact ⟨k + 1, by omega, by go_num, HI2, hB2⟩
        case measure => simp [intOf]; omega
      · have HQ : Hid (Q er) := hq
        clear hq HC
        go_wp2
        go_ret2
        exact ⟨hB2, _, er, rfl, .inr ⟨hne, rfl, HQ.out⟩⟩
    · obtain rfl : k = n := by omega
      go_wp2
      go_ret2
      exact ⟨hny, _, 0, rfl, .inl ⟨rfl, hIk.out⟩⟩

theorem Tryd.infoR : (Tryd.prog.info? 26).map (fun i => (i.zero, i.size, i.bytes)) = some (some (.slice none 0 0), 1, 24) := by kernel_rfl
/-- A row of rows that is owned. -/
def OwnsR (w : World) (base : Nat) (v : Value) (rs : List Value) : Prop := w.ownsRow base 26 1 v rs.length rs
theorem OwnsR.read {w : World} {base : Nat} {v : Value} {rs : List Value} (h : OwnsR w base v rs) : ∃ pa ca, v = .slice pa rs.length ca ∧ ∀ k x, rs[k]? = some x → ∃ g, pa = some ⟨g, 0, none⟩ ∧ g < w.heap.size ∧ w.cell? ⟨g, k, none⟩ = some x := by
  rcases h.2 with ⟨rfl, hz⟩ | ⟨g, cap, cur, rfl, hb, hg, hr⟩
  · have e : rs = [] := List.length_eq_zero_iff.1 hz
    subst e
    exact ⟨none, 0, rfl, fun k x hk => by simp at hk⟩
  · refine ⟨_, cap, rfl, fun k x hk => ⟨g, rfl, (World.ownsRow.lt h g rfl).2, ?_⟩⟩
    have hlt : k < rs.length := by
      rcases Nat.lt_or_ge k rs.length with h1 | h1
      · exact h1
      · rw [List.getElem?_eq_none h1] at hk; exact absurd hk (by simp)
    have := World.ownsRow.cellAt h k (by omega)
    rw [this, hk]

/-! ### rows met one after another -/
def stepM (a : List C × Int) (m : List C) : List C × Int := if a.2 = 0 then meetR a.1 m else a
def meets (a : List C × Int) (ms : List (List C)) : List C × Int := ms.foldl stepM a
theorem meets_snoc (a : List C × Int) (ms : List (List C)) (m : List C) : meets a (ms ++ [m]) = stepM (meets a ms) m := by simp [meets]
theorem Told.meets {a : List C × Int} (h : Told a) (ms : List (List C)) : Told (meets a ms) := by
  induction ms using snoc_ind with
  | nil => exact h
  | snoc ms m ih =>
    rw [meets_snoc]
    unfold stepM
    exact Told.ite (Told.meet _ _) ih
theorem meets_take_step {a : List C × Int} {ms : List (List C)} {k : Nat} {m : List C} (h : ms[k]? = some m) (h0 : (meets a (ms.take k)).2 = 0) : meets a (ms.take (k + 1)) = meetR (meets a (ms.take k)).1 m := by
  have e : ms.take (k + 1) = ms.take k ++ [m] := by rw [List.take_add_one, h]; rfl
  rw [e, meets_snoc, stepM, if_pos h0]
theorem meets_stuck {a : List C × Int} {ms : List (List C)} (ha : Told a) (k : Nat) (h : (meets a (ms.take k)).2 ≠ 0) : meets a ms = ([], 3) := by
  have e : meets a ms = (ms.drop k).foldl stepM (meets a (ms.take k)) := by
    unfold meets
    rw [← List.foldl_append, List.take_append_drop]
  have st : ∀ (r : List (List C)) (b : List C × Int), b.2 ≠ 0 → r.foldl stepM b = b := by
    intro r
    induction r with
    | nil => intro b _; rfl
    | cons c r ih => intro b hb; rw [List.foldl_cons]; have e : stepM b c = b := if_neg hb; rw [e]; exact ih b hb
  rw [e, st _ _ h]
  exact (ha.meets (ms.take k)).no h
theorem part_meets (c : C) (i : Int) (r n : List C) : partF c i r (n, 0) = meets ([outC c i], 0) ((if hasB c.1.val i then [r] else []) ++ (if hasB c.2.val i then [n] else [])) := by
  unfold partF partA meets
  cases hasB c.1.val i <;> cases hasB c.2.val i <;> simp [stepM]

theorem fold_meets (rs : List Value) (ms : List (List C)) (pa : Option Addr) (ca : Nat) (first : Value) (M0 : List C) (base : Nat) (wb w : World) (hcell : ∀ k x, rs[k]? = some x → ∃ g, pa = some ⟨g, 0, none⟩ ∧ g < wb.heap.size ∧ wb.cell? ⟨g, k, none⟩ = some x) (hl : rs.length ≤ 100000)
    (hms : ms.length = rs.length) (hrow : ∀ (k : Nat) (x : Value) (m : List C), rs[k]? = some x → ms[k]? = some m → CRow wb x m ∧ m.length ≤ 64) (hB : Below wb.heap.size wb w) (h0 : OwnsC w base first M0) (hb : base ≤ wb.heap.size) (hM : rightF M0 = true) :
    Calls Tryd.prog 71 #[.slice pa rs.length ca, first, .func (.func 43) #[] #[]] w fun e w' => ∃ v, e = .returned (.tuple #[v, .int .i64 (meets (M0, 0) ms).2]) ∧ OwnsC w' base v (meets (M0, 0) ms).1 ∧ Below wb.heap.size wb w' := by
  have eg : ∀ args w, (callFunc 43 args).run Tryd.prog w = .ok (.enter 43 args) w := enters_of Tryd.func43 (by kernel_rfl) rfl
  have hT : Told (M0, 0) := .inl ⟨rfl, hM⟩
  refine (foldRR_any 43 #[] eg rs pa ca first wb w hcell hl (fun k v W => OwnsC W base v (meets (M0, 0) (ms.take k)).1 ∧ (meets (M0, 0) (ms.take k)).2 = 0) (fun er => meets (M0, 0) ms = ([], er)) hB ⟨h0, rfl⟩ (fun k x v W hk hW hI => ?_)).mono ?_
  · obtain ⟨m, hm⟩ : ∃ m, ms[k]? = some m := get_some (by
      rw [hms]
      rcases Nat.lt_or_ge k rs.length with h1 | h1
      · exact h1
      · rw [List.getElem?_eq_none h1] at hk; exact absurd hk (by simp))
    obtain ⟨hr, hlen⟩ := hrow k x m hk hm
    have hTk := hT.meets (ms.take k)
    refine (fmeet_any _ m v x W (OwnsC.row hI.1) (hr.below hW) (by have := hTk.len; omega) (by omega)).mono ?_
    rintro e w' ⟨v', rfl, hO, hB'⟩
    rw [← meets_take_step hm hI.2] at hO ⊢
    refine ⟨chain hW hB', v', _, rfl, ?_⟩
    by_cases h0 : (meets (M0, 0) (ms.take (k + 1))).2 = 0
    · exact .inl ⟨h0, OwnsC.mono hO (Nat.le_trans hb hW.size), h0⟩
    · refine .inr ⟨h0, ?_⟩
      rw [meets_stuck hT (k + 1) h0, (hT.meets (ms.take (k + 1))).no h0]
  · rintro e w' ⟨hB', v', er, rfl, ⟨rfl, hO, hz⟩ | ⟨hne, rfl, hq⟩⟩
    · rw [← hms, List.take_length] at hO hz
      exact ⟨v', by rw [hz], hO, hB'⟩
    · rw [hq]
      exact ⟨_, rfl, World.ownsRow_nil _ _ _ _, hB'⟩
theorem new_one (w : World) (x : Value) (t : TypeId) : ∀ j u, [x][j]? = some u → (w.alloc (.cells #[x] t)).cell? ((⟨w.heap.size, 0, none⟩ : Addr).add j) = some u :=
  World.news_of_block (cs := #[x]) (MapKept.heap_alloc w _).1
theorem slice_oneCell (a : Option Addr) (n c : Nat) : ∀ u ∈ [Value.slice a n c], u.oneCell' = true := by intro u hu; rw [List.mem_singleton.1 hu]; rfl
theorem At.drew {w : World} {g : Nat} {c : C} (h : At w g c) : At w.drew g c := h

theorem OwnsR.below {w w' : World} {base : Nat} {v : Value} {rs : List Value} (h : OwnsR w base v rs) (hb : Below w.heap.size w w') : OwnsR w' base v rs := by
  have hlt := World.ownsRow.lt h
  obtain ⟨h1, h2⟩ := h
  refine ⟨h1, h2.imp id ?_⟩
  rintro ⟨g, cap, cur, rfl, hg, hh, r⟩
  exact ⟨g, cap, cur, rfl, hg, (hb.block g (hlt g rfl).2).trans hh, r⟩
theorem below_drew (w : World) : Below w.heap.size w w.drew := below_drewN (Below.refl _ w) 1
theorem putC_fold (c : C) (i : Int) (X w : World) (hX : Below w.heap.size w X) (base : Nat) (v : Value) (rs : List Value) (ms : List (List C)) (hO : OwnsR X base v rs) (hl : rs.length ≤ 2) (hms : ms.length = rs.length) (hrow : ∀ (k : Nat) (x : Value) (m : List C), rs[k]? = some x → ms[k]? = some m → CRow X x m ∧ m.length ≤ 64) :
    Calls Tryd.prog 71 #[v, .slice (some ⟨X.heap.size, 0, none⟩) 1 1, .func (.func 43) #[] #[]] (X.alloc (.cells #[.int .u32 (withoutN c.1.val i : Nat), .int .u32 (withoutN c.2.val i : Nat)] 55)).drew
      fun e w' => ∃ v', e = .returned (.tuple #[v', .int .i64 (meets ([outC c i], 0) ms).2]) ∧ OwnsC w' w.heap.size v' (meets ([outC c i], 0) ms).1 ∧ Below w.heap.size w w' := by
  have hB1 := chain (below_alloc X (.cells #[.int .u32 (withoutN c.1.val i : Nat), .int .u32 (withoutN c.2.val i : Nat)] 55)) (below_drew _)
  obtain ⟨pa, ca, rfl, hcell⟩ := OwnsR.read (OwnsR.below hO hB1)
  have hone : OwnsC (X.alloc (.cells #[.int .u32 (withoutN c.1.val i : Nat), .int .u32 (withoutN c.2.val i : Nat)] 55)).drew w.heap.size (.slice (some ⟨X.heap.size, 0, none⟩) 1 1) [outC c i] := OwnsC.below (own_one1 X (outC c i) _ hX.size) (below_drew _)
  refine (fold_meets rs ms pa ca _ [outC c i] w.heap.size _ _ hcell (by omega) hms (fun k x m hk hm => ⟨(hrow k x m hk hm).1.below hB1, (hrow k x m hk hm).2⟩) (Below.refl _ _) hone (by have := (chain hX hB1).size; exact this) (rightF_one (out_right c i))).mono ?_
  rintro e w' ⟨v', rfl, hO', hB'⟩
  exact ⟨v', rfl, hO', chain (chain hX hB1) hB'⟩

set_option maxRecDepth 100000 in
set_option maxHeartbeats 1000000 in
theorem putC_ff (c : C) (i : Int) (r n : List C) (vr vn : Value) (w : World) (hr : CRow w vr r) (hn : CRow w vn n) (lr : r.length ≤ 64) (ln : n.length ≤ 64) (hp : hasB c.1.val i = false) (hq : hasB c.2.val i = false) :
    Calls Tryd.prog 51 #[clV c, .int .i64 i, vr, vn] w fun e w' => ∃ v, e = .returned (.tuple #[v, .int .i64 (partF c i r (n, 0)).2]) ∧ OwnsC w' w.heap.size v (partF c i r (n, 0)).1 ∧ Below w.heap.size w w' := by
  have HP : Hid (partF c i r (n, 0) = meets ([outC c i], 0) []) := by
    show _ = _
    rw [part_meets, hp, hq]; rfl
  obtain ⟨i1, hi, hz0, hz1, hz2⟩ := info_parts Tryd.infoR
  have hc1 := c.1.isLt
  have hc2 := c.2.isLt
  have hA := At.made w c 55
  have hB := below_alloc w (.cells #[.int .u32 (c.1.val : Int), .int .u32 (c.2.val : Int)] 55)
  obtain ⟨pr, cr, rfl⟩ := hr.len
  obtain ⟨pn, cn, rfl⟩ := hn.len
  replace hr := hr.below hB
  replace hn := hn.below hB
  have Hr : Hid (CRow (w.alloc (.cells #[.int .u32 (c.1.val : Int), .int .u32 (c.2.val : Int)] 55)) (.slice pr r.length cr) r) := hr
  have Hn : Hid (CRow (w.alloc (.cells #[.int .u32 (c.1.val : Int), .int .u32 (c.2.val : Int)] 55)) (.slice pn n.length cn) n) := hn
  have HA : Hid (At (w.alloc (.cells #[.int .u32 (c.1.val : Int), .int .u32 (c.2.val : Int)] 55)) w.heap.size c) := hA
  clear hr hn hA
  go_enter Tryd.func51, Tryd.ntmps51
  go_wp2_with fail
  generalize (w.alloc (.cells #[.int .u32 (c.1.val : Int), .int .u32 (c.2.val : Int)] 55)) = wb at Hr Hn HA hB ⊢
  have hA0 := HA.out
  have z0 := hA0.1
  have z1 := hA0.2.1
  refine (has_any _ _ _ (by assumption)).mono ?_
  rintro e w0 ⟨rfl, hw0⟩
  replace hw0 := hw0.symm
  subst hw0
  rw [hp]
  go_wp2_with (first
    | (go_at_call 45; refine (has_any _ _ _ (by assumption)).mono ?_; rintro e w0 ⟨rfl, hw0⟩; replace hw0 := hw0.symm; subst hw0; first | rw [hp] | rw [hq]))
  have hX := hB
  have hOR : OwnsR wb wb.heap.size (.slice none 0 0) [] := World.ownsRow_nil _ _ _ _
  have hB4 : Below wb.heap.size wb wb := Below.refl _ _
  have cF := putC_fold c i wb w hX _ (.slice none 0 0) _ [] hOR (by simp) rfl (fun k x m hk hm => by simp at hk)
  go_region_held3 (fun w' => w'.cell? ⟨w.heap.size, 0, none⟩ = some (.int .u32 (c.1.val : Int)) ∧ w'.cell? ⟨w.heap.size, 1, none⟩ = some (.int .u32 (c.2.val : Int))) (go_keep)
    (first | (go_at_call 70; refine (without_any _ _ _ (by assumption)).mono ?_; rintro e w1 ⟨rfl, hw1⟩; replace hw1 := hw1.symm; subst hw1))
  go_wp2_with fail
  refine cF.mono ?_
  rintro e w7 ⟨v7, rfl, hO7, hB7⟩
  clear cF
  go_wp2
  go_ret2
  rw [HP.out]
  exact ⟨_, rfl, hO7, hB7⟩

set_option maxRecDepth 100000 in
set_option maxHeartbeats 1000000 in
theorem putC_ft (c : C) (i : Int) (r n : List C) (vr vn : Value) (w : World) (hr : CRow w vr r) (hn : CRow w vn n) (lr : r.length ≤ 64) (ln : n.length ≤ 64) (hp : hasB c.1.val i = false) (hq : hasB c.2.val i = true) :
    Calls Tryd.prog 51 #[clV c, .int .i64 i, vr, vn] w fun e w' => ∃ v, e = .returned (.tuple #[v, .int .i64 (partF c i r (n, 0)).2]) ∧ OwnsC w' w.heap.size v (partF c i r (n, 0)).1 ∧ Below w.heap.size w w' := by
  have HP : Hid (partF c i r (n, 0) = meets ([outC c i], 0) [n]) := by
    show _ = _
    rw [part_meets, hp, hq]; rfl
  obtain ⟨i1, hi, hz0, hz1, hz2⟩ := info_parts Tryd.infoR
  have hc1 := c.1.isLt
  have hc2 := c.2.isLt
  have hA := At.made w c 55
  have hB := below_alloc w (.cells #[.int .u32 (c.1.val : Int), .int .u32 (c.2.val : Int)] 55)
  obtain ⟨pr, cr, rfl⟩ := hr.len
  obtain ⟨pn, cn, rfl⟩ := hn.len
  replace hr := hr.below hB
  replace hn := hn.below hB
  have Hr : Hid (CRow (w.alloc (.cells #[.int .u32 (c.1.val : Int), .int .u32 (c.2.val : Int)] 55)) (.slice pr r.length cr) r) := hr
  have Hn : Hid (CRow (w.alloc (.cells #[.int .u32 (c.1.val : Int), .int .u32 (c.2.val : Int)] 55)) (.slice pn n.length cn) n) := hn
  have HA : Hid (At (w.alloc (.cells #[.int .u32 (c.1.val : Int), .int .u32 (c.2.val : Int)] 55)) w.heap.size c) := hA
  clear hr hn hA
  go_enter Tryd.func51, Tryd.ntmps51
  go_wp2_with fail
  generalize (w.alloc (.cells #[.int .u32 (c.1.val : Int), .int .u32 (c.2.val : Int)] 55)) = wb at Hr Hn HA hB ⊢
  have hA0 := HA.out
  have z0 := hA0.1
  have z1 := hA0.2.1
  refine (has_any _ _ _ (by assumption)).mono ?_
  rintro e w0 ⟨rfl, hw0⟩
  replace hw0 := hw0.symm
  subst hw0
  rw [hp]
  go_wp2_with (first
    | (go_at_call 45; refine (has_any _ _ _ (by assumption)).mono ?_; rintro e w0 ⟨rfl, hw0⟩; replace hw0 := hw0.symm; subst hw0; first | rw [hp] | rw [hq])
    | (at_builtin; refine wpList_append_own _ rfl _ _ 86 rfl wb.heap.size 26 i1 (.slice none 0 0) 1 24 Tryd.underlying86 hi hz0 hz1 hz2 rfl (by decide) (.slice none 0 0) 0 [] rfl (World.ownsRow_nil _ _ _ _) ⟨wb.heap.size, 0, none⟩ 1 1 [(.slice pn n.length cn)] rfl rfl (new_one _ _ _) (slice_oneCell _ _ _) (by unfold maxLen; omega) (by omega) (by simp) ?_; intro v4 w4 hown4 hgrow4 hnil4; have hB4 : Below wb.heap.size wb w4 := (below_alloc wb (.cells #[(.slice pn n.length cn)] 26)).grown hgrow4 (by simp) (fun k h => by cases h); have hA4 := HA.out.below hB4; have z0 := hA4.1; have z1 := hA4.2.1))
  have hOR : OwnsR w4 wb.heap.size v4 [(.slice pn n.length cn)] := hown4
  have hX := chain hB hB4
  have cF := putC_fold c i w4 w hX _ v4 _ [n] hOR (by simp) rfl (fun k x m hk hm => by match k, hk, hm with | 0, hk, hm => simp at hk hm; rw [← hk, ← hm]; exact ⟨Hn.out.below hB4, ln⟩ | k + 1, hk, hm => simp at hk)
  go_region_held3 (fun w' => w'.cell? ⟨w.heap.size, 0, none⟩ = some (.int .u32 (c.1.val : Int)) ∧ w'.cell? ⟨w.heap.size, 1, none⟩ = some (.int .u32 (c.2.val : Int))) (go_keep)
    (first | (go_at_call 70; refine (without_any _ _ _ (by assumption)).mono ?_; rintro e w1 ⟨rfl, hw1⟩; replace hw1 := hw1.symm; subst hw1))
  go_wp2_with fail
  refine cF.mono ?_
  rintro e w7 ⟨v7, rfl, hO7, hB7⟩
  clear cF
  go_wp2
  go_ret2
  rw [HP.out]
  exact ⟨_, rfl, hO7, hB7⟩

set_option maxRecDepth 100000 in
set_option maxHeartbeats 1000000 in
theorem putC_tf (c : C) (i : Int) (r n : List C) (vr vn : Value) (w : World) (hr : CRow w vr r) (hn : CRow w vn n) (lr : r.length ≤ 64) (ln : n.length ≤ 64) (hp : hasB c.1.val i = true) (hq : hasB c.2.val i = false) :
    Calls Tryd.prog 51 #[clV c, .int .i64 i, vr, vn] w fun e w' => ∃ v, e = .returned (.tuple #[v, .int .i64 (partF c i r (n, 0)).2]) ∧ OwnsC w' w.heap.size v (partF c i r (n, 0)).1 ∧ Below w.heap.size w w' := by
  have HP : Hid (partF c i r (n, 0) = meets ([outC c i], 0) [r]) := by
    show _ = _
    rw [part_meets, hp, hq]; rfl
  obtain ⟨i1, hi, hz0, hz1, hz2⟩ := info_parts Tryd.infoR
  have hc1 := c.1.isLt
  have hc2 := c.2.isLt
  have hA := At.made w c 55
  have hB := below_alloc w (.cells #[.int .u32 (c.1.val : Int), .int .u32 (c.2.val : Int)] 55)
  obtain ⟨pr, cr, rfl⟩ := hr.len
  obtain ⟨pn, cn, rfl⟩ := hn.len
  replace hr := hr.below hB
  replace hn := hn.below hB
  have Hr : Hid (CRow (w.alloc (.cells #[.int .u32 (c.1.val : Int), .int .u32 (c.2.val : Int)] 55)) (.slice pr r.length cr) r) := hr
  have Hn : Hid (CRow (w.alloc (.cells #[.int .u32 (c.1.val : Int), .int .u32 (c.2.val : Int)] 55)) (.slice pn n.length cn) n) := hn
  have HA : Hid (At (w.alloc (.cells #[.int .u32 (c.1.val : Int), .int .u32 (c.2.val : Int)] 55)) w.heap.size c) := hA
  clear hr hn hA
  go_enter Tryd.func51, Tryd.ntmps51
  go_wp2_with fail
  generalize (w.alloc (.cells #[.int .u32 (c.1.val : Int), .int .u32 (c.2.val : Int)] 55)) = wb at Hr Hn HA hB ⊢
  have hA0 := HA.out
  have z0 := hA0.1
  have z1 := hA0.2.1
  refine (has_any _ _ _ (by assumption)).mono ?_
  rintro e w0 ⟨rfl, hw0⟩
  replace hw0 := hw0.symm
  subst hw0
  rw [hp]
  go_wp2_with (first
    | (go_at_call 45; refine (has_any _ _ _ (by assumption)).mono ?_; rintro e w0 ⟨rfl, hw0⟩; replace hw0 := hw0.symm; subst hw0; first | rw [hp] | rw [hq])
    | (at_builtin; refine wpList_append_own _ rfl _ _ 86 rfl wb.heap.size 26 i1 (.slice none 0 0) 1 24 Tryd.underlying86 hi hz0 hz1 hz2 rfl (by decide) (.slice none 0 0) 0 [] rfl (World.ownsRow_nil _ _ _ _) ⟨wb.heap.size, 0, none⟩ 1 1 [(.slice pr r.length cr)] rfl rfl (new_one _ _ _) (slice_oneCell _ _ _) (by unfold maxLen; omega) (by omega) (by simp) ?_; intro v4 w4 hown4 hgrow4 hnil4; have hB4 : Below wb.heap.size wb w4 := (below_alloc wb (.cells #[(.slice pr r.length cr)] 26)).grown hgrow4 (by simp) (fun k h => by cases h); have hA4 := HA.out.below hB4; have z0 := hA4.1; have z1 := hA4.2.1))
  have hOR : OwnsR w4 wb.heap.size v4 [(.slice pr r.length cr)] := hown4
  have hX := chain hB hB4
  have cF := putC_fold c i w4 w hX _ v4 _ [r] hOR (by simp) rfl (fun k x m hk hm => by match k, hk, hm with | 0, hk, hm => simp at hk hm; rw [← hk, ← hm]; exact ⟨Hr.out.below hB4, lr⟩ | k + 1, hk, hm => simp at hk)
  go_region_held3 (fun w' => w'.cell? ⟨w.heap.size, 0, none⟩ = some (.int .u32 (c.1.val : Int)) ∧ w'.cell? ⟨w.heap.size, 1, none⟩ = some (.int .u32 (c.2.val : Int))) (go_keep)
    (first | (go_at_call 70; refine (without_any _ _ _ (by assumption)).mono ?_; rintro e w1 ⟨rfl, hw1⟩; replace hw1 := hw1.symm; subst hw1))
  go_wp2_with fail
  refine cF.mono ?_
  rintro e w7 ⟨v7, rfl, hO7, hB7⟩
  clear cF
  go_wp2
  go_ret2
  rw [HP.out]
  exact ⟨_, rfl, hO7, hB7⟩

set_option maxRecDepth 100000 in
set_option maxHeartbeats 1000000 in
theorem putC_tt (c : C) (i : Int) (r n : List C) (vr vn : Value) (w : World) (hr : CRow w vr r) (hn : CRow w vn n) (lr : r.length ≤ 64) (ln : n.length ≤ 64) (hp : hasB c.1.val i = true) (hq : hasB c.2.val i = true) :
    Calls Tryd.prog 51 #[clV c, .int .i64 i, vr, vn] w fun e w' => ∃ v, e = .returned (.tuple #[v, .int .i64 (partF c i r (n, 0)).2]) ∧ OwnsC w' w.heap.size v (partF c i r (n, 0)).1 ∧ Below w.heap.size w w' := by
  have HP : Hid (partF c i r (n, 0) = meets ([outC c i], 0) [r, n]) := by
    show _ = _
    rw [part_meets, hp, hq]; rfl
  obtain ⟨i1, hi, hz0, hz1, hz2⟩ := info_parts Tryd.infoR
  have hc1 := c.1.isLt
  have hc2 := c.2.isLt
  have hA := At.made w c 55
  have hB := below_alloc w (.cells #[.int .u32 (c.1.val : Int), .int .u32 (c.2.val : Int)] 55)
  obtain ⟨pr, cr, rfl⟩ := hr.len
  obtain ⟨pn, cn, rfl⟩ := hn.len
  replace hr := hr.below hB
  replace hn := hn.below hB
  have Hr : Hid (CRow (w.alloc (.cells #[.int .u32 (c.1.val : Int), .int .u32 (c.2.val : Int)] 55)) (.slice pr r.length cr) r) := hr
  have Hn : Hid (CRow (w.alloc (.cells #[.int .u32 (c.1.val : Int), .int .u32 (c.2.val : Int)] 55)) (.slice pn n.length cn) n) := hn
  have HA : Hid (At (w.alloc (.cells #[.int .u32 (c.1.val : Int), .int .u32 (c.2.val : Int)] 55)) w.heap.size c) := hA
  clear hr hn hA
  go_enter Tryd.func51, Tryd.ntmps51
  go_wp2_with fail
  generalize (w.alloc (.cells #[.int .u32 (c.1.val : Int), .int .u32 (c.2.val : Int)] 55)) = wb at Hr Hn HA hB ⊢
  have hA0 := HA.out
  have z0 := hA0.1
  have z1 := hA0.2.1
  refine (has_any _ _ _ (by assumption)).mono ?_
  rintro e w0 ⟨rfl, hw0⟩
  replace hw0 := hw0.symm
  subst hw0
  rw [hp]
  go_wp2_with (first
    | (go_at_call 45; refine (has_any _ _ _ (by assumption)).mono ?_; rintro e w0 ⟨rfl, hw0⟩; replace hw0 := hw0.symm; subst hw0; first | rw [hp] | rw [hq])
    | (at_builtin; refine wpList_append_own _ rfl _ _ 86 rfl wb.heap.size 26 i1 (.slice none 0 0) 1 24 Tryd.underlying86 hi hz0 hz1 hz2 rfl (by decide) (.slice none 0 0) 0 [] rfl (World.ownsRow_nil _ _ _ _) ⟨wb.heap.size, 0, none⟩ 1 1 [(.slice pr r.length cr)] rfl rfl (new_one _ _ _) (slice_oneCell _ _ _) (by unfold maxLen; omega) (by omega) (by simp) ?_; intro v4 w4 hown4 hgrow4 hnil4; have hB4 : Below wb.heap.size wb w4 := (below_alloc wb (.cells #[(.slice pr r.length cr)] 26)).grown hgrow4 (by simp) (fun k h => by cases h); have hA4 := HA.out.below hB4; have z0 := hA4.1; have z1 := hA4.2.1)
    | (at_builtin; refine wpList_append_own _ rfl _ _ 86 rfl wb.heap.size 26 i1 (.slice none 0 0) 1 24 Tryd.underlying86 hi hz0 hz1 hz2 rfl (by decide) v4 1 [(.slice pr r.length cr)] rfl (OwnsR.below hown4 (below_alloc _ _)) ⟨w4.heap.size, 0, none⟩ 1 1 [(.slice pn n.length cn)] rfl rfl (new_one _ _ _) (slice_oneCell _ _ _) (by unfold maxLen; omega) (by omega) (Nat.le_trans hB4.size (by simp)) ?_; intro v5 w5 hown5 hgrow5 hnil5))
  have hlow := World.ownsRow.lt hown4
  have hB5 : Below wb.heap.size w4 w5 := ((Below.refl _ w4).alloc hB4.size (.cells #[(.slice pn n.length cn)] 26)).grown hgrow5 (Nat.le_trans hB4.size (by simp)) (fun k h => (hlow k h).1)
  have hB45 := hB4.trans hB5
  have hOR : OwnsR w5 wb.heap.size v5 [(.slice pr r.length cr), (.slice pn n.length cn)] := hown5
  have hX := chain hB hB45
  have hA5 := HA.out.below hB45
  clear z0 z1
  have z0 := hA5.1
  have z1 := hA5.2.1
  have cF := putC_fold c i w5 w hX _ v5 _ [r, n] hOR (by simp) rfl (fun k x m hk hm => by match k, hk, hm with | 0, hk, hm => simp at hk hm; rw [← hk, ← hm]; exact ⟨Hr.out.below hB45, lr⟩ | 1, hk, hm => simp at hk hm; rw [← hk, ← hm]; exact ⟨Hn.out.below hB45, ln⟩ | k + 2, hk, hm => simp at hk)
  go_region_held3 (fun w' => w'.cell? ⟨w.heap.size, 0, none⟩ = some (.int .u32 (c.1.val : Int)) ∧ w'.cell? ⟨w.heap.size, 1, none⟩ = some (.int .u32 (c.2.val : Int))) (go_keep)
    (first | (go_at_call 70; refine (without_any _ _ _ (by assumption)).mono ?_; rintro e w1 ⟨rfl, hw1⟩; replace hw1 := hw1.symm; subst hw1))
  go_wp2_with fail
  refine cF.mono ?_
  rintro e w7 ⟨v7, rfl, hO7, hB7⟩
  clear cF
  go_wp2
  go_ret2
  rw [HP.out]
  exact ⟨_, rfl, hO7, hB7⟩

theorem putC_any (c : C) (i : Int) (r n : List C) (vr vn : Value) (w : World) (hr : CRow w vr r) (hn : CRow w vn n) (lr : r.length ≤ 64) (ln : n.length ≤ 64) :
    Calls Tryd.prog 51 #[clV c, .int .i64 i, vr, vn] w fun e w' => ∃ v, e = .returned (.tuple #[v, .int .i64 (partF c i r (n, 0)).2]) ∧ OwnsC w' w.heap.size v (partF c i r (n, 0)).1 ∧ Below w.heap.size w w' := by
  cases hp : hasB c.1.val i
  · cases hq : hasB c.2.val i
    · exact putC_ff c i r n vr vn w hr hn lr ln hp hq
    · exact putC_ft c i r n vr vn w hr hn lr ln hp hq
  · cases hq : hasB c.2.val i
    · exact putC_tf c i r n vr vn w hr hn lr ln hp hq
    · exact putC_tt c i r n vr vn w hr hn lr ln hp hq
end Go.Proofs.YtinegcahhafddaaDoor
