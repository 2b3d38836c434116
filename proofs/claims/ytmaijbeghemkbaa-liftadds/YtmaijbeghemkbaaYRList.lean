/- Which terms are the same, by the document. -/
import Derived.Deep.DeepCutAuto
import Derived.Test.YtmaijbeghemkbaaYEq
import Derived.Test.YtmaijbeghemkbaaYWorks
import Derived.Test.YtmaijbeghemkbaaYBulk
namespace Go.Proofs.Ytmaijbeghemkbaa
open Go.RowKit
set_option linter.unusedVariables false
set_option linter.unusedSimpArgs false

def RSmC (N : Nat) : Prop := ∀ (t u : Tm) (b : Bool) (v v' : Value) (w : World), TmIn Tt w t v → TmIn Tt w u v' → blk t ≤ N → blk t ≤ 40000 → (b = true ↔ t = u) →
  Calls Try.prog 15 #[v, v'] w fun e w' => e = .returned (.bool b) ∧ Below w.heap.size w w'
def RLsC (N : Nat) : Prop := ∀ (l m : List Tm) (b : Bool) (v v' : Value) (w : World), KdT Tt w (TmIn Tt w) l v → KdT Tt w (TmIn Tt w) m v' → blkL l ≤ N → blkL l ≤ 40000 → (b = true ↔ l = m) →
  Calls Try.prog 36 #[v, v'] w fun e w' => e = .returned (.bool b) ∧ Below w.heap.size w w'
set_option maxRecDepth 100000 in
set_option maxHeartbeats 4000000 in
theorem rlists_of (N : Nat) (IH : RSmC N) : RLsC N := by
  intro l m b v v' w h1 h2 hN hbb hb
  obtain ⟨la, lc, rfl, _⟩ := id h1
  obtain ⟨ma, mc, rfl, _⟩ := id h2
  have HF : Hid (¬ l = m → b = false) := fun h => Bool.eq_false_iff.2 fun h2 => h (hb.1 h2)
  have HTr : Hid (l = m → b = true) := fun h => hb.2 h
  have H1 : Hid (KdT Tt w (TmIn Tt w) l (.slice la l.length lc)) := h1
  have H2 : Hid (KdT Tt w (TmIn Tt w) m (.slice ma m.length mc)) := h2
  have hll := blkL_len l
  obtain ⟨L, hL⟩ : ∃ L, L = l.length := ⟨_, rfl⟩
  have HL : Hid (L = l.length) := hL
  obtain ⟨M, hM⟩ : ∃ L, L = m.length := ⟨_, rfl⟩
  have HM : Hid (M = m.length) := hM
  rw [← hL, ← hM]
  rw [← hL] at hll
  clear hb h1 h2 hL hM
  by_cases hLM : L = M
  · subst hLM
    go_enter Try.func36, Try.ntmps36
    go_wp2_with fail
    go_loopw [5] (fun i wr => ∃ k : Nat, k ≤ L ∧ i = .int .i64 k ∧ Hid (∀ j, j < k → l[j]? = m[j]?) ∧ Below w.heap.size w wr) (fun i _ => L - (intOf i).toNat)
    case atStart => exact ⟨0, Nat.zero_le _, rfl, fun j hj => by omega, Below.refl _ _⟩
    case round =>
      obtain ⟨wo, hwo⟩ : ∃ wo, wo = wr := ⟨_, rfl⟩
      subst hwo
      obtain ⟨k, hk, rfl, HS, hBr⟩ := hrel
      by_cases hlt : k < L
      · have hkI : (k : Int) < (L : Int) := by omega
        obtain ⟨x, hx⟩ := someL (l := l) (k := k) (by rw [← HL.out]; exact hlt)
        obtain ⟨y, hy⟩ := someL (l := m) (k := k) (by rw [← HM.out]; exact hlt)
        have hbx : blk x ≤ blkL l := sumN_mem (List.mem_map_of_mem (List.mem_of_getElem? hx))
        have HX : Hid (l[k]? = some x ∧ m[k]? = some y) := ⟨hx, hy⟩
        obtain ⟨g, off, ra1, rc1, ka1, kc1, sa1, sc1, rfl, hg, q6, qt⟩ := (H1.out.blw hBr).at hx
        obtain ⟨g2, off2, ra2, rc2, ka2, kc2, sa2, sc2, rfl, hg2, p6, pt⟩ := (H2.out.blw hBr).at hy
        have HQ : Hid (Cs6 wo g (off + k * 6) x ra1 rc1 ka1 kc1 sa1 sc1) := q6
        have HP : Hid (Cs6 wo g2 (off2 + k * 6) y ra2 rc2 ka2 kc2 sa2 sc2) := p6
        obtain ⟨eb, heb⟩ := bool_of (x = y)
        have HEb : Hid (eb = true ↔ x = y) := heb
        have rC : Hid (∀ z : Cw wo, Calls Try.prog 15 #[.agg #[.int .i64 x.kind, .int .i64 x.n, .string x.name, .slice ra1 x.r.length rc1, .slice ka1 x.kids.length kc1, .slice sa1 x.sys.length sc1], .agg #[.int .i64 y.kind, .int .i64 y.n, .string y.name, .slice ra2 y.r.length rc2, .slice ka2 y.kids.length kc2, .slice sa2 y.sys.length sc2]] z.1 fun e w' => e = .returned (.bool eb) ∧ ∃ z' : Cw wo, w' = z'.1) := fun z => cw_call z (IH x y eb _ _ z.1 (qt.blw z.2).value (pt.blw z.2).value (by omega) (by omega) heb)
        clear hx hy q6 p6 heb
        have c0 : ∀ z : Cw wo, z.1.cell? ⟨g, off + k * 6, none⟩ = some (.int .i64 x.kind) := fun z => (HQ.out.blw z.2).c0
        have c1 : ∀ z : Cw wo, z.1.cell? ⟨g, off + k * 6 + 1, none⟩ = some (.int .i64 x.n) := fun z => (HQ.out.blw z.2).c1
        have c2 : ∀ z : Cw wo, z.1.cell? ⟨g, off + k * 6 + 2, none⟩ = some (.string x.name) := fun z => (HQ.out.blw z.2).c2
        have c3 : ∀ z : Cw wo, z.1.cell? ⟨g, off + k * 6 + 3, none⟩ = some (.slice ra1 x.r.length rc1) := fun z => (HQ.out.blw z.2).c3
        have c4 : ∀ z : Cw wo, z.1.cell? ⟨g, off + k * 6 + 4, none⟩ = some (.slice ka1 x.kids.length kc1) := fun z => (HQ.out.blw z.2).c4
        have c5 : ∀ z : Cw wo, z.1.cell? ⟨g, off + k * 6 + 5, none⟩ = some (.slice sa1 x.sys.length sc1) := fun z => (HQ.out.blw z.2).c5
        have d0 : ∀ z : Cw wo, z.1.cell? ⟨g2, off2 + k * 6, none⟩ = some (.int .i64 y.kind) := fun z => (HP.out.blw z.2).c0
        have d1 : ∀ z : Cw wo, z.1.cell? ⟨g2, off2 + k * 6 + 1, none⟩ = some (.int .i64 y.n) := fun z => (HP.out.blw z.2).c1
        have d2 : ∀ z : Cw wo, z.1.cell? ⟨g2, off2 + k * 6 + 2, none⟩ = some (.string y.name) := fun z => (HP.out.blw z.2).c2
        have d3 : ∀ z : Cw wo, z.1.cell? ⟨g2, off2 + k * 6 + 3, none⟩ = some (.slice ra2 y.r.length rc2) := fun z => (HP.out.blw z.2).c3
        have d4 : ∀ z : Cw wo, z.1.cell? ⟨g2, off2 + k * 6 + 4, none⟩ = some (.slice ka2 y.kids.length kc2) := fun z => (HP.out.blw z.2).c4
        have d5 : ∀ z : Cw wo, z.1.cell? ⟨g2, off2 + k * 6 + 5, none⟩ = some (.slice sa2 y.sys.length sc2) := fun z => (HP.out.blw z.2).c5
        clear qt pt
        have hne := cw_any wo
        go_upto_region 6 with fail
        cases eb with
        | false =>
          refine wp_region_cw (by kernel_rfl) (by kernel_rfl) ?_
          repeat (first | go_big_quiet_step (fail) | quiet_step (fail))
          first | go_big_quiet_step (exact rC.out _) | quiet_step (exact rC.out _)
          repeat (first | go_big_quiet_step (fail) | quiet_step (fail))
          refine wpQuiet_nil ?_
          rintro _ ⟨z, rfl⟩
          obtain ⟨w6, b6⟩ := z
          dsimp only
          clear rC hne c0 c1 c2 c3 c4 c5 d0 d1 d2 d3 d4 d5
          have HB : Hid (b = false) := HF.out (fun h => by
            have e := HX.out.1
            rw [h, HX.out.2] at e
            cases e
            have := HEb.out.2 rfl
            cases this)
          go_wp2_with fail
          go_ret
          exact ⟨ret_bool HB.out.symm, bchain hBr b6⟩
        | true =>
          refine wp_region_cw (by kernel_rfl) (by kernel_rfl) ?_
          repeat (first | go_big_quiet_step (fail) | quiet_step (fail))
          first | go_big_quiet_step (exact rC.out _) | quiet_step (exact rC.out _)
          repeat (first | go_big_quiet_step (fail) | quiet_step (fail))
          refine wpQuiet_nil ?_
          rintro _ ⟨z, rfl⟩
          obtain ⟨w6, b6⟩ := z
          dsimp only
          clear rC hne c0 c1 c2 c3 c4 c5 d0 d1 d2 d3 d4 d5
          have HS' : Hid (∀ j, j < k + 1 → l[j]? = m[j]?) := fun j hj => by
            rcases Nat.lt_or_ge j k with h | h
            · exact HS.out j h
            · have ej : j = k := by omega
              rw [ej, HX.out.1, HX.out.2, HEb.out.1 (by first | rfl | trivial)]
          clear HS HX HEb
          go_wp2_with fail
          go_roundw
          case rel => exact ⟨k + 1, by omega, by go_num, HS', bchain hBr b6⟩
          case measure => simp [intOf]; omega
      · have hkI : ¬ (k : Int) < (L : Int) := by omega
        have HB : Hid (b = true) := HTr.out (by
          apply List.ext_getElem?
          intro j
          rcases Nat.lt_or_ge j k with h | h
          · exact HS.out j h
          · rw [List.getElem?_eq_none (by rw [← HL.out]; omega), List.getElem?_eq_none (by rw [← HM.out]; omega)])
        clear HS
        go_wp2_with fail
        go_ret
        exact ⟨ret_bool HB.out.symm, hBr⟩
  · have HB : Hid (b = false) := HF.out (fun h => hLM (by rw [HL.out, HM.out, h]))
    have q1 : ¬ (L : Int) = (M : Int) := by omega
    have q2 : ((L : Int) == (M : Int)) = false := by simp; omega
    have q3 : ¬ L = M := hLM
    go_enter Try.func36, Try.ntmps36
    go_wp2_with fail
    go_ret
    exact ⟨ret_bool HB.out.symm, Below.refl _ _⟩
end Go.Proofs.Ytmaijbeghemkbaa
