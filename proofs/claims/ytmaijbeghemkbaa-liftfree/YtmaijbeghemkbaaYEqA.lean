/- Two terms that are the same: the code's Same. -/
import Derived.Deep.QuietTactic
import Derived.BigQuiet
import Derived.WalkSmall
import Derived.Test.YtmaijbeghemkbaaFB
import Derived.Test.YtmaijbeghemkbaaYMem
namespace Go.Proofs.Ytmaijbeghemkbaa
open Go.RowKit
set_option linter.unusedVariables false
set_option linter.unusedSimpArgs false

set_option maxRecDepth 100000 in
set_option maxHeartbeats 1000000 in
theorem eqC_any (l m : List C) (a b : Value) (w : World) (ha : CRow w a l) (hb : CRow w b m) (hl : l.length ≤ 100000) :
    Calls Try.prog 44 #[a, b] w fun e w' => e = .returned (.bool (decide (l = m))) ∧ Below w.heap.size w w' := by
  by_cases hlen : l.length = m.length
  · by_cases hz : l = []
    · subst hz
      have hm : m = [] := List.length_eq_zero_iff.1 hlen.symm
      subst hm
      obtain ⟨p, c, rfl⟩ := ha.len
      obtain ⟨q, d, rfl⟩ := hb.len
      clear ha hb
      go_enter Try.func44, Try.ntmps44
      go_wp2
      go_loop [13] (fun i => i = .int .i64 0) (fun _ => 0)
      case atStart => rfl
      case round =>
        subst hrel
        go_wp2
        go_ret
        exact ⟨rfl, Below.refl _ _⟩
    · have hzm : m ≠ [] := by rintro rfl; exact hz (List.length_eq_zero_iff.1 hlen)
      obtain ⟨g, off, cap, rfl, hg, hc⟩ := ha.cons hz
      obtain ⟨g2, off2, cap2, rfl, hg2, hc2⟩ := hb.cons hzm
      clear ha hb
      rw [← hlen]
      obtain ⟨n, hn⟩ : ∃ n, n = l.length := ⟨_, rfl⟩
      have Hn : Hid (n = l.length) := hn
      have Hm : Hid (n = m.length) := hn.trans hlen
      rw [← hn] at hl ⊢
      clear hn hlen
      go_enter Try.func44, Try.ntmps44
      go_wp2
      go_loopw [13] (fun i wr => ∃ k : Nat, k ≤ n ∧ i = .int .i64 k ∧ l.take k = m.take k ∧ Below w.heap.size w wr) (fun i _ => n - (intOf i).toNat)
      case atStart => exact ⟨0, by omega, rfl, rfl, Below.refl _ _⟩
      case round =>
        obtain ⟨k, hk, rfl, htk, hB⟩ := hrel
        have HT : Hid (l.take k = m.take k) := htk
        clear htk
        by_cases hlt : k < n
        · obtain ⟨c, h1⟩ := get_some (l := l) (k := k) (by rw [← Hn.out]; exact hlt)
          obtain ⟨d, h2⟩ := get_some (l := m) (k := k) (by rw [← Hm.out]; exact hlt)
          have x1 := (hc.below hB hg) k c h1
          have x2 := (hc2.below hB hg2) k d h2
          obtain ⟨x1, x1'⟩ := x1
          obtain ⟨x2, x2'⟩ := x2
          have H1 : Hid (l[k]? = some c) := h1
          have H2 : Hid (m[k]? = some d) := h2
          clear h1 h2 hc hc2
          by_cases e1 : c.1.val = d.1.val
          · by_cases e2 : c.2.val = d.2.val
            · go_wp2
              go_quiet (fail)
              go_wp2
              go_roundw
              case rel => exact ⟨k + 1, by omega, by go_num, take_eq_step HT.out H1.out H2.out (c_ext e1 e2), below_drewN hB _⟩
              case measure => simp [intOf]; omega
            · have HN : Hid (l ≠ m) := fun h => by
                have := H2.out
                rw [← h, H1.out] at this
                exact e2 (by rw [Option.some.inj this])
              go_wp2
              go_quiet (fail)
              go_wp2
              go_ret
              exact ⟨ret_bool (by simp [HN.out]), below_drewN hB _⟩
          · have HN : Hid (l ≠ m) := fun h => by
              have := H2.out
              rw [← h, H1.out] at this
              exact e1 (by rw [Option.some.inj this])
            go_wp2
            go_quiet (fail)
            go_wp2
            go_ret
            exact ⟨ret_bool (by simp [HN.out]), below_drewN hB _⟩
        · obtain rfl : k = n := by omega
          have HE : Hid (l = m) := by
            have h := HT.out
            rwa [List.take_of_length_le (by rw [← Hn.out]; exact Nat.le_refl _), List.take_of_length_le (by rw [← Hm.out]; exact Nat.le_refl _)] at h
          go_wp2
          go_ret
          exact ⟨ret_bool (by simp [HE.out]), hB⟩
  · obtain ⟨p, c, rfl⟩ := ha.len
    obtain ⟨q, d, rfl⟩ := hb.len
    clear ha hb
    have h : l ≠ m := by rintro rfl; exact hlen rfl
    go_enter Try.func44, Try.ntmps44
    go_wp2
    go_ret
    exact ⟨by simp [h], Below.refl _ _⟩
theorem ClRow.row {ok : Nat → Prop} {w : World} {l : List C} {v : Value} (h : ClRow ok w l v) : CRow w v l := by
  obtain ⟨a, cap, rfl, h2, h3⟩ := h
  by_cases hz : l = []
  · subst hz; exact .inl ⟨_, _, rfl, rfl⟩
  · obtain ⟨c, hc⟩ := someL (l := l) (k := 0) (List.length_pos_iff.2 hz)
    obtain ⟨g, off, rfl, _, hg, _⟩ := h3 0 c hc
    refine .inr ⟨g, off, cap, rfl, hg, fun j c hj => ?_⟩
    obtain ⟨g', off', e, _, _, c0, c1⟩ := h3 j c hj
    cases e
    exact ⟨c0, c1⟩
theorem ClRow.frow {ok : Nat → Prop} {w : World} {l : List C} {v : Value} (h : ClRow ok w l v) : FRow w v l :=
  ⟨h.row, by obtain ⟨a, cap, rfl, h2, h3⟩ := h; exact ⟨_, _, _, rfl, h2⟩⟩
/-- The worlds that leave the blocks of w. -/
def Cw (w : World) : Type := { w' : World // Below w.heap.size w w' }
theorem cw_any (w : World) : Nonempty (Cw w) := ⟨⟨w, Below.refl _ _⟩⟩
theorem wp_region_cw {id : Nat} {Q : Exit → Act → World → Prop} {a : Act} {w : World} {l : List Oper} (hm : Try.prog.follows .mixedOrders = true) (hB : Region.lexB .any l.toArray = true)
    (h : wpQuiet Try.prog l.toArray (fun w' => ∃ u : Cw w, w' = u.1) (fun a' => ∀ w', (∃ u : Cw w, w' = u.1) → Q .normal a' w') l a) : (Code.region id l.toArray true).wp Try.prog Q a w :=
  wp_region_quiet (C := fun w' => ∃ u : Cw w, w' = u.1) hm hB ⟨⟨_, Below.drew (Below.refl _ _)⟩, rfl⟩ (by simpa using h)
theorem cw_call {w : World} {f : FuncId} {args : Array Value} {v : Value} (u : Cw w) (h : Calls Try.prog f args u.1 fun e w' => e = .returned v ∧ Below u.1.heap.size u.1 w') : Calls Try.prog f args u.1 fun e w' => e = .returned v ∧ ∃ u' : Cw w, w' = u'.1 :=
  h.mono fun e w' ⟨he, hb⟩ => ⟨he, ⟨w', bchain u.2 hb⟩, rfl⟩
abbrev Tt : Nat → Prop := fun _ => True
theorem TmTop.tt {ok : Nat → Prop} {w : World} {t : Tm} {ra rc ka kc sa sc} (h : TmTop ok w t ra rc ka kc sa sc) : TmTop Tt w t ra rc ka kc sa sc := h.up fun _ _ => trivial
theorem bool_of (p : Prop) : ∃ b : Bool, (b = true ↔ p) := ⟨@decide p (Classical.propDecidable p), by simp⟩
theorem Tm.eq_iff (t u : Tm) : t = u ↔ t.kind = u.kind ∧ t.n = u.n ∧ t.name = u.name ∧ t.r = u.r ∧ t.kids = u.kids ∧ t.sys = u.sys := by
  obtain ⟨a, b, c, d, e, f⟩ := t
  obtain ⟨a', b', c', d', e', f'⟩ := u
  simp
def SmC (N : Nat) : Prop := ∀ (t u : Tm) (b : Bool) (g off g' off' : Nat) (ra : Option Addr) (rc : Nat) (ka : Option Addr) (kc : Nat) (sa : Option Addr) (sc : Nat) (ra' : Option Addr) (rc' : Nat) (ka' : Option Addr) (kc' : Nat) (sa' : Option Addr) (sc' : Nat) (w : World),
  Cs6 w g off t ra rc ka kc sa sc → TmTop Tt w t ra rc ka kc sa sc → Cs6 w g' off' u ra' rc' ka' kc' sa' sc' → TmTop Tt w u ra' rc' ka' kc' sa' sc' → blk t ≤ N → (b = true ↔ t = u) →
  Calls Try.prog 34 #[.pointer (some ⟨g, off, none⟩), .pointer (some ⟨g', off', none⟩)] w fun e w' => e = .returned (.bool b) ∧ Below w.heap.size w w'
def SkC (N : Nat) : Prop := ∀ (l m : List Tm) (b : Bool) (v v' : Value) (w : World), KdT Tt w (TmIn Tt w) l v → KdT Tt w (TmIn Tt w) m v' → blkL l ≤ N → (b = true ↔ l = m) →
  Calls Try.prog 45 #[v, v'] w fun e w' => e = .returned (.bool b) ∧ Below w.heap.size w w'
theorem take_step' {α : Type} {l m : List α} {k : Nat} {c d : α} (h : l.take k = m.take k) (h1 : l[k]? = some c) (h2 : m[k]? = some d) (e : c = d) : l.take (k + 1) = m.take (k + 1) := by
  rw [List.take_add_one, List.take_add_one, h, h1, h2, e]
set_option maxRecDepth 100000 in
set_option maxHeartbeats 4000000 in
theorem kids_step (N : Nat) (hN : N ≤ 100000) (IH : SmC N) : SkC N := by
  intro l m b v v' w hl hm hb he
  obtain ⟨a, cap, rfl, _⟩ := id hl
  obtain ⟨a', cap', rfl, _⟩ := id hm
  have hll := blkL_len l
  by_cases hlen : l.length = m.length
  · obtain ⟨L, hL⟩ : ∃ L, L = l.length := ⟨_, rfl⟩
    have HL : Hid (L = l.length) := hL
    have HM : Hid (L = m.length) := hL.trans hlen
    have Hl : Hid (KdT Tt w (TmIn Tt w) l (.slice a L cap)) := by rw [hL]; exact hl
    have Hm : Hid (KdT Tt w (TmIn Tt w) m (.slice a' L cap')) := by rw [hL, hlen]; exact hm
    rw [← hlen, ← hL]
    have hLN : L ≤ 100000 := by omega
    clear hl hm hL hlen hll
    go_enter Try.func45, Try.ntmps45
    go_wp2
    go_loopw [13] (fun i wr => ∃ k : Nat, k ≤ L ∧ i = .int .i64 k ∧ Hid (l.take k = m.take k) ∧ Below w.heap.size w wr) (fun i _ => L - (intOf i).toNat)
    case atStart => exact ⟨0, Nat.zero_le _, rfl, rfl, Below.refl _ _⟩
    case round =>
      obtain ⟨k, hk, rfl, HT, hB⟩ := hrel
      by_cases hlt : k < L
      · obtain ⟨x, hx⟩ := someL (l := l) (k := k) (by rw [← HL.out]; exact hlt)
        obtain ⟨y, hy⟩ := someL (l := m) (k := k) (by rw [← HM.out]; exact hlt)
        obtain ⟨g1, o1, ra, rc, ka, kc, sa, sc, rfl, _, h6, ht⟩ := Hl.out.at hx
        obtain ⟨g2, o2, ra', rc', ka', kc', sa', sc', rfl, _, h6', ht'⟩ := Hm.out.at hy
        obtain ⟨c, hc⟩ := bool_of (x = y)
        have hbx : blk x ≤ N := Nat.le_trans (sumN_mem (List.mem_map_of_mem (f := blk) (List.mem_of_getElem? hx))) hb
        have Hc : Hid (∀ u : Cw wr, Calls Try.prog 34 #[.pointer (some ⟨g1, o1 + k * 6, none⟩), .pointer (some ⟨g2, o2 + k * 6, none⟩)] u.1 fun e w' => e = .returned (.bool c) ∧ ∃ u' : Cw wr, w' = u'.1) := fun u => cw_call u (by
          have q := bchain hB u.2
          exact IH x y c _ _ _ _ _ _ _ _ _ _ _ _ _ _ _ _ _ (h6.blw q) (ht.blw q) (h6'.blw q) (ht'.blw q) hbx hc)
        have HS : Hid (x = y → l.take (k + 1) = m.take (k + 1)) := fun e => take_step' HT.out hx hy e
        have HN : Hid (¬ x = y → ¬ l = m) := fun h e => by
          rw [e, hy] at hx; exact h (Option.some.inj hx).symm
        have hne := cw_any wr
        clear h6 ht h6' ht' hx hy hbx
        go_wp2_with fail
        refine wp_region_cw (by kernel_rfl) (by kernel_rfl) ?_
        repeat (quiet_step (exact Hc.out _))
        refine wpQuiet_nil ?_
        rintro _ ⟨u, rfl⟩
        obtain ⟨w5, hb5⟩ := u
        have hB5 := bchain hB hb5
        dsimp only
        clear Hc hne hB hb5
        cases c with
        | true =>
          have e := hc.1 rfl
          have HS2 := HS.out e
          have HS3 : Hid (l.take (k + 1) = m.take (k + 1)) := HS2
          clear HS2 hc e HS HN
          go_wp2
          go_roundw
          case rel => exact ⟨k + 1, by omega, by go_num, HS3, hB5⟩
          case measure => simp [intOf]; omega
        | false =>
          have e : ¬ x = y := fun e => by have := hc.2 e; cases this
          have Hbf : Hid (b = false) := by
            show _ = _
            rw [Bool.eq_false_iff]; exact fun h => HN.out e (he.1 h)
          clear hc HS HN
          go_wp2
          go_ret
          exact ⟨ret_bool Hbf.out.symm, hB5⟩
      · obtain rfl : k = L := by omega
        have Hbt : Hid (b = true) := he.2 (by
          have h1 := HT.out
          rwa [List.take_of_length_le (by rw [← HL.out]; exact Nat.le_refl _), List.take_of_length_le (by rw [← HM.out]; exact Nat.le_refl _)] at h1)
        go_wp2
        go_ret
        exact ⟨ret_bool Hbt.out.symm, hB⟩
  · have hi : ¬ (l.length : Int) = (m.length : Int) := by omega
    have Hbf : Hid (b = false) := by
      show _ = _
      rw [Bool.eq_false_iff]; exact fun h => hlen (by rw [he.1 h])
    go_enter Try.func45, Try.ntmps45
    go_wp2
    go_ret
    exact ⟨ret_bool Hbf.out.symm, Below.refl _ _⟩
def SbC (N : Nat) : Prop := ∀ (x y : List C × List Tm) (b : Bool) (fa : Option Addr) (n1 fc : Nat) (ka : Option Addr) (n2 kc : Nat) (fa' : Option Addr) (n3 fc' : Nat) (ka' : Option Addr) (n4 kc' : Nat) (w : World),
  ClRow Tt w x.1 (.slice fa n1 fc) → KdT Tt w (TmIn Tt w) x.2 (.slice ka n2 kc) → ClRow Tt w y.1 (.slice fa' n3 fc') → KdT Tt w (TmIn Tt w) y.2 (.slice ka' n4 kc') → x.1.length ≤ N → blkL x.2 ≤ N → (b = true ↔ x = y) →
  Calls Try.prog 47 #[.agg #[.slice fa n1 fc, .slice ka n2 kc], .agg #[.slice fa' n3 fc', .slice ka' n4 kc']] w fun e w' => e = .returned (.bool b) ∧ Below w.heap.size w w'
set_option maxRecDepth 100000 in
set_option maxHeartbeats 4000000 in
theorem branch_step (N : Nat) (hN : N ≤ 100000) (IH : SkC N) : SbC N := by
  intro x y b fa n1 fc ka n2 kc fa' n3 fc' ka' n4 kc' w h1 h2 h3 h4 hb hb' he
  obtain ⟨w2, hw2⟩ : ∃ w2, w2 = (w.alloc (.cells #[.slice fa n1 fc, .slice ka n2 kc] 45)).alloc (.cells #[.slice fa' n3 fc', .slice ka' n4 kc'] 45) := ⟨_, rfl⟩
  have hb2 : Below w.heap.size w w2 := by rw [hw2]; exact bchain (belowA _ _) (belowA _ _)
  have m1 : w2.heap[w.heap.size]? = some (.cells #[.slice fa n1 fc, .slice ka n2 kc] 45 (0, 0)) := by
    rw [hw2]; exact (Below.heap_alloc _ _ _ (by simp)).trans (heapNew w _)
  have m2 : w2.heap[w.heap.size + 1]? = some (.cells #[.slice fa' n3 fc', .slice ka' n4 kc'] 45 (0, 0)) := by
    rw [hw2]; have := heapNew (w.alloc (.cells #[.slice fa n1 fc, .slice ka n2 kc] 45)) (.cells #[.slice fa' n3 fc', .slice ka' n4 kc'] 45); rwa [World.size_alloc] at this
  have s2 : w2.heap.size = w.heap.size + 2 := by rw [hw2]; simp
  have H2 : Hid (_ = _) := hw2
  clear hw2
  have c1 := eqC_any x.1 y.1 _ _ w2 (h1.blw hb2).row (h3.blw hb2).row (by omega)
  by_cases e1 : x.1 = y.1
  · rw [decide_eq_true e1] at c1
    obtain ⟨c, hc⟩ := bool_of (x.2 = y.2)
    have Hbc : Hid (b = c) := by
      show b = c
      rw [Bool.eq_iff_iff, he, hc]
      exact ⟨fun h => by rw [h], fun h => Prod.ext e1 h⟩
    have E1 : Hid (_ = _) := e1
    clear e1
    go_enter Try.func47, Try.ntmps47
    go_wp2_with fail
    rw [← H2.out]
    refine c1.mono ?_
    rintro e w3 ⟨rfl, hb3⟩
    clear c1 H2
    have q := bchain hb2 hb3
    have d1 : w3.cell? ⟨w.heap.size, 1, none⟩ = some (.slice ka n2 kc) := by
      have := (hb3.block w.heap.size (by omega)).trans m1
      unfold World.cell?; simp [this]
    have d2 : w3.cell? ⟨w.heap.size + 1, 1, none⟩ = some (.slice ka' n4 kc') := by
      have := (hb3.block (w.heap.size + 1) (by omega)).trans m2
      unfold World.cell?; simp [this]
    have c2 := IH x.2 y.2 c _ _ w3 (h2.blw q) (h4.blw q) hb' hc
    clear m1 m2 h1 h2 h3 h4
    go_wp2_with fail
    refine c2.mono ?_
    rintro e w4 ⟨rfl, hb4⟩
    clear c2
    have q4 := bchain q hb4
    go_wp2
    go_ret
    exact ⟨ret_bool Hbc.out.symm, q4⟩
  · rw [decide_eq_false e1] at c1
    have Hbf : Hid (b = false) := by
      show _ = _
      rw [Bool.eq_false_iff]; exact fun h => e1 (by rw [he.1 h])
    clear e1
    go_enter Try.func47, Try.ntmps47
    go_wp2_with fail
    rw [← H2.out]
    refine c1.mono ?_
    rintro e w3 ⟨rfl, hb3⟩
    clear c1 H2
    have q := bchain hb2 hb3
    go_wp2
    go_ret
    exact ⟨ret_bool Hbf.out.symm, q⟩
def SsC (N : Nat) : Prop := ∀ (l m : List (List C × List Tm)) (b : Bool) (v v' : Value) (w : World), SyT Tt w (TmIn Tt w) l v → SyT Tt w (TmIn Tt w) m v' → blkS l ≤ N → (b = true ↔ l = m) →
  Calls Try.prog 46 #[v, v', .func (.func 47) #[] #[]] w fun e w' => e = .returned (.bool b) ∧ Below w.heap.size w w'
theorem sameB_eg : ∀ args w, (callFunc 47 args).run Try.prog w = .ok (.enter 47 args) w := enters_of Try.func47 (by kernel_rfl) rfl
set_option maxRecDepth 100000 in
set_option maxHeartbeats 4000000 in
theorem sys_step (N : Nat) (hN : N ≤ 100000) (IH : SbC N) : SsC N := by
  intro l m b v v' w hl hm hb he
  obtain ⟨a, cap, rfl, _⟩ := id hl
  obtain ⟨a', cap', rfl, _⟩ := id hm
  have hll := blkS_len l
  have eg := sameB_eg
  by_cases hlen : l.length = m.length
  · obtain ⟨L, hL⟩ : ∃ L, L = l.length := ⟨_, rfl⟩
    have HL : Hid (L = l.length) := hL
    have HM : Hid (L = m.length) := hL.trans hlen
    have Hl : Hid (SyT Tt w (TmIn Tt w) l (.slice a L cap)) := by rw [hL]; exact hl
    have Hm : Hid (SyT Tt w (TmIn Tt w) m (.slice a' L cap')) := by rw [hL, hlen]; exact hm
    rw [← hlen, ← hL]
    have hLN : L ≤ 100000 := by omega
    clear hl hm hL hlen hll
    go_enter Try.func46, Try.ntmps46
    go_wp2
    go_loopw [17] (fun i wr => ∃ k : Nat, k ≤ L ∧ i = .int .i64 k ∧ Hid (l.take k = m.take k) ∧ Below w.heap.size w wr) (fun i _ => L - (intOf i).toNat)
    case atStart => exact ⟨0, Nat.zero_le _, rfl, rfl, Below.refl _ _⟩
    case round =>
      obtain ⟨k, hk, rfl, HT, hB⟩ := hrel
      by_cases hlt : k < L
      · obtain ⟨x, hx⟩ := someL (l := l) (k := k) (by rw [← HL.out]; exact hlt)
        obtain ⟨y, hy⟩ := someL (l := m) (k := k) (by rw [← HM.out]; exact hlt)
        obtain ⟨g1, o1, fa, fc, ka, kc, rfl, _, h2, hcl, hkd⟩ := (Hl.out.blw hB).at hx
        obtain ⟨g2, o2, fa', fc', ka', kc', rfl, _, h2', hcl', hkd'⟩ := (Hm.out.blw hB).at hy
        obtain ⟨_, x0, x1⟩ := h2
        obtain ⟨_, y0, y1⟩ := h2'
        obtain ⟨c, hc⟩ := bool_of (x = y)
        have hbx : 1 + x.1.length + blkL x.2 ≤ N := Nat.le_trans (sumN_mem (List.mem_map_of_mem (f := fun b : List C × List Tm => 1 + b.1.length + blkL b.2) (List.mem_of_getElem? hx))) hb
        have HS : Hid (x = y → l.take (k + 1) = m.take (k + 1)) := fun e => take_step' HT.out hx hy e
        have HN : Hid (¬ x = y → ¬ l = m) := fun h e => by
          rw [e, hy] at hx; exact h (Option.some.inj hx).symm
        obtain ⟨w3, hw3⟩ : ∃ w3, w3 = (wr.alloc (.cells #[.slice fa x.1.length fc, .slice ka x.2.length kc] 45)).alloc (.cells #[.slice fa' y.1.length fc', .slice ka' y.2.length kc'] 45) := ⟨_, rfl⟩
        have hb3 : Below wr.heap.size wr w3 := by rw [hw3]; exact bchain (belowA _ _) (belowA _ _)
        have cB := IH x y c fa x.1.length fc ka x.2.length kc fa' y.1.length fc' ka' y.2.length kc' w3 (hcl.blw hb3) (hkd.blw hb3) (hcl'.blw hb3) (hkd'.blw hb3) (by omega) (by omega) hc
        obtain ⟨z1, hz1⟩ : ∃ z, z = x.1.length := ⟨_, rfl⟩
        obtain ⟨z2, hz2⟩ : ∃ z, z = x.2.length := ⟨_, rfl⟩
        obtain ⟨z3, hz3⟩ : ∃ z, z = y.1.length := ⟨_, rfl⟩
        obtain ⟨z4, hz4⟩ : ∃ z, z = y.2.length := ⟨_, rfl⟩
        rw [← hz1, ← hz2, ← hz3, ← hz4] at cB hw3
        rw [← hz1] at x0
        rw [← hz2] at x1
        rw [← hz3] at y0
        rw [← hz4] at y1
        have H3 : Hid (_ = _) := hw3
        have hB3 := bchain hB hb3
        have d0 : wr.alloc (.cells #[.slice fa z1 fc, .slice ka z2 kc] 45) = wr.alloc (.cells #[.slice fa z1 fc, .slice ka z2 kc] 45) := rfl
        have y0' : (wr.alloc (.cells #[.slice fa z1 fc, .slice ka z2 kc] 45)).cell? ⟨g2, o2 + k * 2, none⟩ = some (.slice fa' z3 fc') := ((belowA wr _).cell (p := ⟨g2, o2 + k * 2, none⟩) (by assumption)).trans y0
        have y1' : (wr.alloc (.cells #[.slice fa z1 fc, .slice ka z2 kc] 45)).cell? ⟨g2, o2 + k * 2 + 1, none⟩ = some (.slice ka' z4 kc') := ((belowA wr _).cell (p := ⟨g2, o2 + k * 2 + 1, none⟩) (by assumption)).trans y1
        clear hw3 hz1 hz2 hz3 hz4 hbx hx hy hcl hkd hcl' hkd' d0 hB hb3
        go_wp2_with fail
        rw [← H3.out]
        refine cB.mono ?_
        rintro e w5 ⟨rfl, hb5⟩
        have hB5 := bchain hB3 hb5
        clear cB H3 hB3 hb5 x0 x1 y0 y1 y0' y1'
        cases c with
        | true =>
          have e := hc.1 rfl
          have HS3 : Hid (l.take (k + 1) = m.take (k + 1)) := HS.out e
          clear hc e HS HN
          go_wp2
          go_roundw
          case rel => exact ⟨k + 1, by omega, by go_num, HS3, hB5⟩
          case measure => simp [intOf]; omega
        | false =>
          have e : ¬ x = y := fun e => by have := hc.2 e; cases this
          have Hbf : Hid (b = false) := by
            show _ = _
            rw [Bool.eq_false_iff]; exact fun h => HN.out e (he.1 h)
          clear hc HS HN e
          go_wp2
          go_ret
          exact ⟨ret_bool Hbf.out.symm, hB5⟩
      · obtain rfl : k = L := by omega
        have Hbt : Hid (b = true) := he.2 (by
          have h1 := HT.out
          rwa [List.take_of_length_le (by rw [← HL.out]; exact Nat.le_refl _), List.take_of_length_le (by rw [← HM.out]; exact Nat.le_refl _)] at h1)
        go_wp2
        go_ret
        exact ⟨ret_bool Hbt.out.symm, hB⟩
  · have hi : ¬ (l.length : Int) = (m.length : Int) := by omega
    have Hbf : Hid (b = false) := by
      show _ = _
      rw [Bool.eq_false_iff]; exact fun h => hlen (by rw [he.1 h])
    go_enter Try.func46, Try.ntmps46
    go_wp2
    go_ret
    exact ⟨ret_bool Hbf.out.symm, Below.refl _ _⟩

end Go.Proofs.Ytmaijbeghemkbaa
