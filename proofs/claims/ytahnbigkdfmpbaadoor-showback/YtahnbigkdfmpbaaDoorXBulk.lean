/- How great a tree is: Bulk of the document's answer; a class of worlds for regions that draw. -/
import Derived.Deep.QuietTactic
import Derived.BigQuiet
import Derived.WalkSmall
import Derived.Maps.AppendAt
import Derived.Test.YtahnbigkdfmpbaaDoorMMath
import Derived.Test.YtahnbigkdfmpbaaDoorSRule
import Derived.Test.YtahnbigkdfmpbaaDoorSWriteB
namespace Go.Proofs.YtahnbigkdfmpbaaDoor
open Go.RowKit
set_option linter.unusedVariables false
set_option linter.unusedSimpArgs false

theorem sum_take (m : List Nat) (k : Nat) : (m.take k).sum ≤ m.sum := by
  induction m generalizing k with
  | nil => simp
  | cons x m ih => cases k with
    | zero => simp
    | succ k => have := ih k; rw [List.take_succ_cons, List.sum_cons, List.sum_cons]; omega
/-- The worlds that leave the blocks of w. -/
def ClsS (w : World) : Type := { w' : World // Below w.heap.size w w' }
theorem clsS_any (w : World) : Nonempty (ClsS w) := ⟨⟨w, Below.refl _ _⟩⟩
theorem wp_region_clsS {id : Nat} {Q : Exit → Act → World → Prop} {a : Act} {w : World} {l : List Oper} (hm : Tryd.prog.follows .mixedOrders = true) (hB : Region.lexB .any l.toArray = true)
    (h : wpQuiet Tryd.prog l.toArray (fun w' => ∃ u : ClsS w, w' = u.1) (fun a' => ∀ w', (∃ u : ClsS w, w' = u.1) → Q .normal a' w') l a) : (Code.region id l.toArray true).wp Tryd.prog Q a w :=
  wp_region_quiet (C := fun w' => ∃ u : ClsS w, w' = u.1) hm hB ⟨⟨_, Below.drew (Below.refl _ _)⟩, rfl⟩ (by simpa using h)
theorem clsS_call {w : World} {f : FuncId} {args : Array Value} {v : Value} (u : ClsS w) (h : Calls Tryd.prog f args u.1 fun e w' => e = .returned v ∧ Below u.1.heap.size u.1 w') : Calls Tryd.prog f args u.1 fun e w' => e = .returned v ∧ ∃ u' : ClsS w, w' = u'.1 :=
  h.mono fun e w' ⟨he, hb⟩ => ⟨he, ⟨w', chain u.2 hb⟩, rfl⟩
theorem blk_sum (t : Sx) : blk t = 1 + t.name.length + blkN t.names + blkK t.kids := by cases t; exact blk_mk _ _ _ _ _
theorem blkK_kid (t : Sx) : blkK t.kids ≤ blk t := by have := blk_sum t; omega
theorem blkK_take (l : List Sx) (k : Nat) : blkK (l.take k) ≤ blkK l := by
  unfold blkK
  rw [List.map_take]
  exact sum_take _ k
theorem mem_blkK {l : List Sx} {y : Sx} (h : y ∈ l) : blk y ≤ blkK l := by
  unfold blkK
  exact sum_mem (List.mem_map_of_mem (f := blk) h)

def BulkR (m B r : Nat) : Prop := (B ≤ m → r = B) ∧ (m < B → m < r) ∧ r ≤ 2 * m + 2 ∧ 1 ≤ r
def BulkC (N : Nat) : Prop := ∀ (m n : Nat) (q : Int) (t : Sx) (v : Value) (w : World), q = (m : Nat) → m ≤ 1000000 → blk t ≤ N → SxIn n w t v → n ≤ w.heap.size → Calls Tryd.prog 11 #[v, .int .i64 q] w fun e w' => (∃ r : Nat, e = .returned (.int .i64 r) ∧ BulkR m (blk t) r) ∧ Below w.heap.size w w'
theorem blkN_take (l : List Bs) (k : Nat) : blkN (l.take k) ≤ blkN l := by
  unfold blkN
  rw [List.map_take]
  exact sum_take _ k
theorem blkN_step {l : List Bs} {k : Nat} {x : Bs} (h : l[k]? = some x) : blkN (l.take (k + 1)) = blkN (l.take k) + (1 + x.length) := by
  unfold blkN
  rw [List.take_add_one, h]
  simp
theorem blkK_step {l : List Sx} {k : Nat} {x : Sx} (h : l[k]? = some x) : blkK (l.take (k + 1)) = blkK (l.take k) + blk x := by
  unfold blkK
  rw [List.take_add_one, h]
  simp

set_option maxRecDepth 100000 in
set_option maxHeartbeats 8000000 in
theorem bulk_step (N : Nat) (IH : BulkC N) : BulkC (N + 1) := by
  intro m n q t v w hq hm hbN h hn
  subst hq
  obtain ⟨ka, kc, na, nc, rfl, hN, hK⟩ := h.form
  have hbs := blk_sum t
  have hsz := bs_size t.name
  obtain ⟨w1, hw1⟩ : ∃ w1, w1 = w.alloc (.cells #[.int .i64 t.kind, .string (bs t.name), .slice ka t.kids.length kc, .slice na t.names.length nc, .int .i64 t.at_] 25) := ⟨_, rfl⟩
  have hal1 : Below w.heap.size w w1 := by rw [hw1]; exact below_alloc _ _
  have hB1 : Bx w1 w.heap.size (.int .i64 t.kind) (.string (bs t.name)) (.slice ka t.kids.length kc) (.slice na t.names.length nc) (.int .i64 t.at_) := by rw [hw1]; exact bx_new _ _ _ _ _ _
  have Hw1 : Hid (_ = _) := hw1
  clear hw1
  have hn1 := Nat.le_trans hn hal1.size
  have HK : Hid (KdP n w (SxIn n w) t.kids ka) := hK
  obtain ⟨na', nc', eN, _, hNc⟩ := hN
  cases eN
  have HN : Hid (∀ (j : Nat) (x : Bs), t.names[j]? = some x → ∃ g off, na = some ⟨g, off, none⟩ ∧ g < n ∧ w.cell? ⟨g, off + j, none⟩ = some (.string (bs x))) := hNc
  clear hK hNc h
  obtain ⟨L, hL⟩ : ∃ L, L = t.kids.length := ⟨_, rfl⟩
  have HL : Hid (L = t.kids.length) := hL
  obtain ⟨M, hM⟩ : ∃ M, M = t.names.length := ⟨_, rfl⟩
  have HM : Hid (M = t.names.length) := hM
  rw [← hL, ← hM] at hB1 Hw1 ⊢
  have hMb : M ≤ blkN t.names := by
    rw [hM]
    unfold blkN
    have hg : ∀ l : List Bs, l.length ≤ (l.map fun x => 1 + x.length).sum := by
      intro l
      induction l with
      | nil => simp
      | cons x l ih => simp; omega
    first | exact hg _ | (have := hg t.names; simpa [Nat.add_comm] using this)
  clear hL hM
  have HT : Hid (blk t = 1 + t.name.length + blkN t.names + blkK t.kids) := hbs
  by_cases h1 : m < t.name.length
  · have hi : (m : Int) < (t.name.length : Int) := by omega
    go_enter Tryd.func11, Tryd.ntmps11
    go_wp2_with fail
    rw [← Hw1.out]
    go_ret
    exact ⟨⟨m + 1, by go_num, by unfold BulkR; omega⟩, hal1⟩
  · have hi : (t.name.length : Int) ≤ (m : Int) := by omega
    by_cases h2 : m < M
    · have hi2 : (m : Int) < (M : Int) := by omega
      go_enter Tryd.func11, Tryd.ntmps11
      go_wp2_with fail
      rw [← Hw1.out]
      go_ret
      exact ⟨⟨m + 1, by go_num, by unfold BulkR; omega⟩, hal1⟩
    · have hi2 : (M : Int) ≤ (m : Int) := by omega
      clear hbs hMb
      obtain ⟨Q, hQ⟩ : ∃ Q, Q = t.name.length := ⟨_, rfl⟩
      rw [← hQ] at hsz hi HT h1
      clear hQ
      go_enter Tryd.func11, Tryd.ntmps11
      go_wp2_with fail
      rw [← Hw1.out]
      clear Hw1
      go_loopw [5, 6] (fun s i wr => ∃ k S : Nat, k ≤ M ∧ i = .int .i64 k ∧ s = .int .i64 S ∧ S = 1 + Q + blkN (t.names.take k) ∧ S ≤ 2 * m + 2 ∧ Below w1.heap.size w1 wr) (fun _ i _ => M - (intOf i).toNat)
      case atStart => exact ⟨0, 1 + Q, Nat.zero_le _, rfl, by go_num, by simp [blkN], by omega, Below.refl _ _⟩
      case round =>
        obtain ⟨wo, hwo⟩ : ∃ wo, wo = wr := ⟨_, rfl⟩
        subst hwo
        obtain ⟨k, S, hk, rfl, rfl, hS, hSm, hBr⟩ := hrel
        have HS : Hid (S = 1 + Q + blkN (t.names.take k)) := hS
        clear hS
        have hBx := hB1.blw hBr
        obtain ⟨x0, x1, x2, x3, x4⟩ := hBx.cells
        have halr := chain hal1 hBr
        have hnr := Nat.le_trans hn halr.size
        by_cases hgo : k < M ∧ S ≤ m
        · obtain ⟨hlt, hSl⟩ := hgo
          have hkI : (k : Int) < (M : Int) := by omega
          have hSI : (S : Int) ≤ (m : Int) := by omega
          obtain ⟨x, hx⟩ := someS (l := t.names) (k := k) (by rw [← HM.out]; exact hlt)
          obtain ⟨g, off, rfl, hg, c0⟩ := HN.out k x hx
          have c0' := (halr.cell (p := ⟨g, off + k, none⟩) (by show g < _; omega)).trans c0
          have hxs := bs_size x
          have HX : Hid (_ = _) := blkN_step hx
          have hle := blkN_take t.names (k + 1)
          have hXL := HX.out
          clear hx c0
          by_cases hxm : m < x.length
          · have hxI : (m : Int) < (x.length : Int) := by omega
            have HR : Hid (BulkR m (blk t) (m + 1)) := (by have := HT.out; unfold BulkR; omega : BulkR m (blk t) (m + 1))
            clear hle hXL
            go_wp2_with fail
            go_ret
            exact ⟨⟨m + 1, by go_num, HR.out⟩, halr⟩
          · have hxI : (x.length : Int) ≤ (m : Int) := by omega
            clear hle hXL
            go_wp2_with fail
            go_roundw
            case rel => exact ⟨k + 1, S + 1 + x.length, by omega, by go_num, by go_num, by rw [HX.out, HS.out]; omega, by omega, hBr⟩
            case measure => simp [intOf]; omega
        · -- the loop's end
          have HI : Hid ((S = 1 + Q + blkN t.names) ∨ (m < S ∧ m < 1 + Q + blkN t.names)) := (by
            have h1 := HS.out
            have h2 := blkN_take t.names k
            by_cases hkM : k < M
            · right; omega
            · left
              rw [List.take_of_length_le (by rw [← HM.out]; omega)] at h1
              exact h1 : (S = 1 + Q + blkN t.names) ∨ (m < S ∧ m < 1 + Q + blkN t.names))
          have HI0 : Hid ((S = 1 + Q + blkN t.names + blkK (t.kids.take 0)) ∨ (m < S ∧ m < 1 + Q + blkN t.names + blkK (t.kids.take 0))) := HI.out
          have hcond : (decide ((k : Int) < (M : Int)) && decide ((S : Int) ≤ (m : Int))) = false := by
            rw [Bool.eq_false_iff]; intro e; simp at e; omega
          have hS1 : 1 ≤ S := by have := HS.out; omega
          clear HI HS
          rcases (show M ≤ k ∨ (k < M ∧ m < S) by omega) with hend | ⟨hend, hend2⟩
          · have hkI : ¬ (k : Int) < (M : Int) := by omega
            go_wp2_with fail
            clear x0 x1 x2 x3 x4
            go_loopw [5, 7] (fun s i wr => ∃ k' S' : Nat, k' ≤ L ∧ i = .int .i64 k' ∧ s = .int .i64 S' ∧ S' ≤ 2 * m + 2 ∧ k' + 1 ≤ S' ∧ Hid ((S' = 1 + Q + blkN t.names + blkK (t.kids.take k')) ∨ (m < S' ∧ m < 1 + Q + blkN t.names + blkK (t.kids.take k'))) ∧ Below w1.heap.size w1 wr) (fun _ i _ => L - (intOf i).toNat)
            case atStart => exact ⟨0, S, Nat.zero_le _, rfl, rfl, hSm, by omega, HI0, hBr⟩
            case round =>
              obtain ⟨w5, hw5⟩ : ∃ w5, w5 = wr := ⟨_, rfl⟩
              subst hw5
              obtain ⟨j, T, hj, rfl, rfl, hTm, hjT, HJ, hB5⟩ := hrel
              have hBx5 := hB1.blw hB5
              obtain ⟨x0, x1, x2, x3, x4⟩ := hBx5.cells
              have hal5 := chain hal1 hB5
              have hn5 := Nat.le_trans hn hal5.size
              by_cases hgo5 : j < L ∧ T ≤ m
              · obtain ⟨hlt5, hTl⟩ := hgo5
                have hjI : (j : Int) < (L : Int) := by omega
                have hTI : (T : Int) ≤ (m : Int) := by omega
                obtain ⟨y, hy⟩ := someS (l := t.kids) (k := j) (by rw [← HL.out]; exact hlt5)
                obtain ⟨g, off, ka0, kc0, na0, nc0, rfl, hg, hxx, c0, c1, c2, c3, c4⟩ := (HK.out.all (hal5.mono hn)).at hy
                have hby : blk y < blk t := blk_kid (List.mem_of_getElem? hy)
                have HY : Hid (_ = _) := blkK_step hy
                have cc := IH (m - T) n ((m : Int) - (T : Int)) y _ w5 (by omega) (by omega) (by omega) hxx hn5
                clear hy hxx
                go_wp2_with fail
                refine cc.mono ?_
                rintro e w6 ⟨⟨r, rfl, hr⟩, hb6⟩
                clear cc
                have hr9 := hr
                unfold BulkR at hr9
                obtain ⟨r1, r2, r3, r4⟩ := hr9
                have HN6 : Hid ((T + r = 1 + Q + blkN t.names + blkK (t.kids.take (j + 1))) ∨ (m < T + r ∧ m < 1 + Q + blkN t.names + blkK (t.kids.take (j + 1)))) := (by
                  have h1 := HJ.out
                  rw [HY.out]
                  rcases h1 with h1 | h1
                  · by_cases hz : blk y ≤ m - T
                    · have := r1 hz; left; omega
                    · have := r2 (by omega); right; omega
                  · omega : (T + r = 1 + Q + blkN t.names + blkK (t.kids.take (j + 1))) ∨ (m < T + r ∧ m < 1 + Q + blkN t.names + blkK (t.kids.take (j + 1))))
                clear hr r1 r2 HY HJ
                go_wp2_with fail
                go_roundw
                case rel => exact ⟨j + 1, T + r, by omega, by go_num, by go_num, by omega, by omega, HN6, hB5.trans (hb6.mono hB5.size)⟩
                case measure => simp [intOf]; omega
              · have HR : Hid (BulkR m (blk t) T) := (by
                  have h1 := HJ.out
                  have h2 := blkK_take t.kids j
                  have h3 := HT.out
                  by_cases hjL : j < L
                  · unfold BulkR; omega
                  · rw [List.take_of_length_le (by rw [← HL.out]; omega)] at h1
                    unfold BulkR; omega : BulkR m (blk t) T)
                clear HJ
                rcases (show L ≤ j ∨ (j < L ∧ m < T) by omega) with hend5 | ⟨hend5, hend6⟩
                · have hjI : ¬ (j : Int) < (L : Int) := by omega
                  go_wp2_with fail
                  go_ret
                  exact ⟨⟨T, rfl, HR.out⟩, hal5⟩
                · have hjI : (j : Int) < (L : Int) := by omega
                  have hTI : ¬ (T : Int) ≤ (m : Int) := by omega
                  go_wp2_with fail
                  go_ret
                  exact ⟨⟨T, rfl, HR.out⟩, hal5⟩
          · have hkI : (k : Int) < (M : Int) := by omega
            have hSI : ¬ (S : Int) ≤ (m : Int) := by omega
            go_wp2_with fail
            clear x0 x1 x2 x3 x4
            go_loopw [5, 7] (fun s i wr => ∃ k' S' : Nat, k' ≤ L ∧ i = .int .i64 k' ∧ s = .int .i64 S' ∧ S' ≤ 2 * m + 2 ∧ k' + 1 ≤ S' ∧ Hid ((S' = 1 + Q + blkN t.names + blkK (t.kids.take k')) ∨ (m < S' ∧ m < 1 + Q + blkN t.names + blkK (t.kids.take k'))) ∧ Below w1.heap.size w1 wr) (fun _ i _ => L - (intOf i).toNat)
            case atStart => exact ⟨0, S, Nat.zero_le _, rfl, rfl, hSm, by omega, HI0, hBr⟩
            case round =>
              obtain ⟨w5, hw5⟩ : ∃ w5, w5 = wr := ⟨_, rfl⟩
              subst hw5
              obtain ⟨j, T, hj, rfl, rfl, hTm, hjT, HJ, hB5⟩ := hrel
              have hBx5 := hB1.blw hB5
              obtain ⟨x0, x1, x2, x3, x4⟩ := hBx5.cells
              have hal5 := chain hal1 hB5
              have hn5 := Nat.le_trans hn hal5.size
              by_cases hgo5 : j < L ∧ T ≤ m
              · obtain ⟨hlt5, hTl⟩ := hgo5
                have hjI : (j : Int) < (L : Int) := by omega
                have hTI : (T : Int) ≤ (m : Int) := by omega
                obtain ⟨y, hy⟩ := someS (l := t.kids) (k := j) (by rw [← HL.out]; exact hlt5)
                obtain ⟨g, off, ka0, kc0, na0, nc0, rfl, hg, hxx, c0, c1, c2, c3, c4⟩ := (HK.out.all (hal5.mono hn)).at hy
                have hby : blk y < blk t := blk_kid (List.mem_of_getElem? hy)
                have HY : Hid (_ = _) := blkK_step hy
                have cc := IH (m - T) n ((m : Int) - (T : Int)) y _ w5 (by omega) (by omega) (by omega) hxx hn5
                clear hy hxx
                go_wp2_with fail
                refine cc.mono ?_
                rintro e w6 ⟨⟨r, rfl, hr⟩, hb6⟩
                clear cc
                have hr9 := hr
                unfold BulkR at hr9
                obtain ⟨r1, r2, r3, r4⟩ := hr9
                have HN6 : Hid ((T + r = 1 + Q + blkN t.names + blkK (t.kids.take (j + 1))) ∨ (m < T + r ∧ m < 1 + Q + blkN t.names + blkK (t.kids.take (j + 1)))) := (by
                  have h1 := HJ.out
                  rw [HY.out]
                  rcases h1 with h1 | h1
                  · by_cases hz : blk y ≤ m - T
                    · have := r1 hz; left; omega
                    · have := r2 (by omega); right; omega
                  · omega : (T + r = 1 + Q + blkN t.names + blkK (t.kids.take (j + 1))) ∨ (m < T + r ∧ m < 1 + Q + blkN t.names + blkK (t.kids.take (j + 1))))
                clear hr r1 r2 HY HJ
                go_wp2_with fail
                go_roundw
                case rel => exact ⟨j + 1, T + r, by omega, by go_num, by go_num, by omega, by omega, HN6, hB5.trans (hb6.mono hB5.size)⟩
                case measure => simp [intOf]; omega
              · have HR : Hid (BulkR m (blk t) T) := (by
                  have h1 := HJ.out
                  have h2 := blkK_take t.kids j
                  have h3 := HT.out
                  by_cases hjL : j < L
                  · unfold BulkR; omega
                  · rw [List.take_of_length_le (by rw [← HL.out]; omega)] at h1
                    unfold BulkR; omega : BulkR m (blk t) T)
                clear HJ
                rcases (show L ≤ j ∨ (j < L ∧ m < T) by omega) with hend5 | ⟨hend5, hend6⟩
                · have hjI : ¬ (j : Int) < (L : Int) := by omega
                  go_wp2_with fail
                  go_ret
                  exact ⟨⟨T, rfl, HR.out⟩, hal5⟩
                · have hjI : (j : Int) < (L : Int) := by omega
                  have hTI : ¬ (T : Int) ≤ (m : Int) := by omega
                  go_wp2_with fail
                  go_ret
                  exact ⟨⟨T, rfl, HR.out⟩, hal5⟩
theorem bulk_any (N : Nat) : BulkC N := by
  induction N with
  | zero => intro m n q t v w _ _ hb; have := blk_pos t; omega
  | succ N ih => exact bulk_step N ih
end Go.Proofs.YtahnbigkdfmpbaaDoor
