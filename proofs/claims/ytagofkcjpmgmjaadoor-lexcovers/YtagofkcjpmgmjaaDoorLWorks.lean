/- The chapter's examples; what is just let by: works, quiet of the statements of the layer lex. -/
import Derived.Laws.Concat
import Derived.Test.YtagofkcjpmgmjaaDoorLScan
namespace Go.Proofs.YtagofkcjpmgmjaaDoor
open Go.RowKit
set_option linter.unusedVariables false
set_option linter.unusedSimpArgs false

set_option maxRecDepth 100000 in
theorem works_one : scanF [92, 120, 46, 32, 120, 32, 64, 32, 48, 32, 45, 45, 32, 99] = ([⟨2, [92], 0⟩, ⟨1, [120], 1⟩, ⟨2, [46], 2⟩, ⟨1, [120], 4⟩, ⟨2, [64], 6⟩, ⟨2, [48], 8⟩, ⟨0, [], 14⟩], 0, 0) := by kernel_rfl
set_option maxRecDepth 100000 in
theorem works_two : scanF [97, 45, 98] = ([], 1, 61) := by kernel_rfl
set_option maxRecDepth 100000 in
set_option maxHeartbeats 1000000 in
theorem works_any (w : World) (hT : Tabs w) : Calls Tryd.prog 10 #[] w fun e w' => e = .returned (.bool true) ∧ Below w.heap.size w w' := by
  have c1 := scan_any ⟨#[92, 120, 46, 32, 120, 32, 64, 32, 48, 32, 45, 45, 32, 99]⟩ w (by decide) hT
  have t1 : tl ⟨#[92, 120, 46, 32, 120, 32, 64, 32, 48, 32, 45, 45, 32, 99]⟩ = [92, 120, 46, 32, 120, 32, 64, 32, 48, 32, 45, 45, 32, 99] := rfl
  have c2 := fun w (h : Tabs w) => scan_any ⟨#[97, 45, 98]⟩ w (by decide) h
  have t2 : tl ⟨#[97, 45, 98]⟩ = [97, 45, 98] := rfl
  rw [t1, works_one] at c1
  simp only [t2, works_two] at c2
  clear t1 t2
  go_enter Tryd.func10, Tryd.ntmps10
  go_wp2_with fail
  refine c1.mono ?_
  rintro e w1 ⟨v, rfl, hO, hB1⟩
  clear c1
  have c3 := c2 w1 (hT.below hB1)
  clear c2
  rcases OwnsT.form hO with ⟨_, h⟩ | ⟨g, cap, rfl, hg0, hg, hc⟩
  · cases h
  clear hO
  go_wp2_with fail
  refine c3.mono ?_
  rintro e w2 ⟨v2, rfl, _, hB2⟩
  clear c3
  have d := hc.below hB2 hg
  have x1 : w2.cell? ⟨g, 1, none⟩ = some (.string ⟨#[92]⟩) := by simpa [bs] using (d 0 _ rfl).2.1
  have x2 : w2.cell? ⟨g, 3, none⟩ = some (.int .i64 1) := by simpa using (d 1 _ rfl).1
  have x3 : w2.cell? ⟨g, 16, none⟩ = some (.string ⟨#[48]⟩) := by simpa [bs] using (d 5 _ rfl).2.1
  have x4 : w2.cell? ⟨g, 18, none⟩ = some (.int .i64 0) := by simpa using (d 6 _ rfl).1
  clear d hc
  go_wp2
  go_ret
  exact ⟨rfl, chain hB1 hB2⟩

/-- '+' on two strings, in a plain statement. -/
theorem wpList_add_str {w : World} {ops : Array Oper} {rest : List Oper} {o : Oper} {a : Act} {Q : Exit → Act → World → Prop} (hgd : o.guard = none) (x y : Operand) (ho : o.op = .binOp .add 9 x y 9)
    (A B S : ByteArray) (hx : a.eval x = .string A) (hy : a.eval y = .string B) (hS : ∀ w, (Op.stringOp .add A B).run Tryd.prog w = .ok (.string S) w)
    (h : wpList Tryd.prog ops Q rest (a.put o.dst (.string S)) w) : wpList Tryd.prog ops Q (o :: rest) a w := by
  refine wpList_plain hgd fun K hK' => ?_
  unfold Oper.wp
  have e : (binOp .add 9 (.string A) (.string B)).run Tryd.prog w = .ok (.string S) w := by rw [binOp_string_add]; exact hS w
  simp [execOp, ho, hx, hy, eqGuard, e, Result.andThen]
  exact hK' _ _ h
/-! ### quiet -/
def quietB (l : Bs) : Bool := decide (passN false l = l.length)
set_option maxHeartbeats 1000000 in
theorem quiet_any (s : ByteArray) (w : World) (hs : s.size ≤ 65536) (hq : passN false (tl s) = s.size) :
    Calls Tryd.prog 11 #[.string s] w fun e w' => e = .returned (.bool true) ∧ w' = w := by
  have HQ : Hid (_ = _) := hq
  clear hq
  go_enter Tryd.func11, Tryd.ntmps11
  go_wp2
  go_loop [3] (fun i => ∃ k : Nat, k ≤ s.size + 1 ∧ i = .int .i64 k ∧ Hid (k ≤ s.size → k + passN false ((tl s).drop k) = s.size)) (fun i => s.size + 1 - (intOf i).toNat)
  case atStart => exact ⟨0, by omega, rfl, fun _ => by rw [List.drop_zero, Nat.zero_add]; exact HQ⟩
  case round =>
    obtain ⟨k, hk, rfl, HK⟩ := hrel
    by_cases hlt : k < s.size
    · have HK' : Hid (k + passN false ((tl s).drop k) = s.size) := HK.out (by omega)
      clear HK
      by_cases hd : s[k].toNat = 45 ∧ k + 1 < s.size ∧ ∃ h : k + 1 < s.size, s[k + 1].toNat = 45
      · obtain ⟨h45, hk1, h', h46⟩ := hd
        have hdash : dash ((tl s).drop (k + 1)) = true := by
          rw [tl_drop s (k + 1) hk1]; simpa [dash] using h46
        have HP : Hid (_ = _) := ps_dash hlt h45 hdash HK'.out
        obtain ⟨E, hE⟩ : ∃ E, k + cmtN ((tl s).drop k) = E := ⟨_, rfl⟩
        rw [hE] at HP
        have hEb := cmt_bd (s := s) (k := k) (by omega)
        have HE : Hid (_ = _) := hE
        have hEk : k ≤ E := by omega
        rw [hE] at hEb
        clear hE hdash
        have h1 : ((s[k].toNat : Int) == 45) = true := by simp only [beq_iff_eq]; omega
        have h2 : ((s[k + 1].toNat : Int) == 45) = true := by simp only [beq_iff_eq]; omega
        clear h45 h46
        go_wp2
        go_loop [3] (fun i => ∃ j : Nat, k ≤ j ∧ j ≤ s.size ∧ i = .int .i64 j ∧ Hid (j + cmtN ((tl s).drop j) = E)) (fun i => s.size - (intOf i).toNat)
        case atStart => exact ⟨k, by omega, by omega, rfl, HE⟩
        case round =>
          obtain ⟨j, hkj, hj, rfl, HJ⟩ := hrel
          by_cases hjl : j < s.size
          · by_cases h10 : s[j].toNat = 10
            · have HX : Hid (j = E) := by
                have h3 := HJ.out
                rw [tl_drop s j hjl, cmtN, if_pos h10] at h3
                exact h3
              have h10' : ((s[j].toNat : Int) == 10) = true := by simp only [beq_iff_eq]; omega
              have HB : Hid (j + 1 + passN false ((tl s).drop (j + 1)) = s.size) := by
                have h3 := HP.out
                rw [← HX.out] at h3
                exact ps_blank hjl (by simp [blankB, h10]) h3
              clear h10
              go_wp2
              go_round
              case rel => exact ⟨j + 1, by omega, by go_num, fun _ => HB.out⟩
              case measure => simp [intOf]; omega
            · have HX : Hid (j + 1 + cmtN ((tl s).drop (j + 1)) = E) := by
                have h3 := HJ.out
                rw [tl_drop s j hjl, cmtN, if_neg h10] at h3
                show _ = _
                omega
              have h10' : ((s[j].toNat : Int) == 10) = false := by simp only [beq_eq_false_iff_ne]; omega
              clear h10
              go_wp2
              go_round
              case rel => exact ⟨j + 1, by omega, by omega, by go_num, HX⟩
              case measure => simp [intOf]; omega
          · go_wp2
            go_round
            case rel => exact ⟨j + 1, by omega, by go_num, fun h => by omega⟩
            case measure => simp [intOf]; omega
      · have hb : blankB s[k] = true := by
          by_cases hb : blankB s[k] = true
          · exact hb
          · exfalso
            have := ps_stop hlt (by simpa using hb) (fun h => hd (by
              have h2 := h.2
              by_cases h3 : k + 1 < s.size
              · rw [tl_drop s (k + 1) h3] at h2
                exact ⟨h.1, h3, h3, by simpa [dash] using h2⟩
              · rw [List.drop_of_length_le (by rw [tl_len]; omega)] at h2
                simp [dash] at h2)) HK'.out
            omega
        have HS : Hid (_ = _) := ps_blank hlt hb HK'.out
        have hn : ¬ s[k].toNat = 45 := fun h => by simp [blankB, h] at hb
        have hb' : (((s[k].toNat : Int) == 32) = true ∨ ((s[k].toNat : Int) == 9) = true ∨ ((s[k].toNat : Int) == 10) = true ∨ ((s[k].toNat : Int) == 13) = true) := by
          simp only [blankB, decide_eq_true_eq] at hb
          simp only [beq_iff_eq]; omega
        have hn' : ((s[k].toNat : Int) == 45) = false := by simp only [beq_eq_false_iff_ne]; omega
        clear hd hn hb
        go_wp2
        all_goals first
          | (exfalso; simp_all; done)
          | (go_round
             case rel => exact ⟨k + 1, by omega, by go_num, fun _ => HS.out⟩
             case measure => simp [intOf]; omega)
    · go_wp2
      go_ret
      exact ⟨rfl, rfl⟩
end Go.Proofs.YtagofkcjpmgmjaaDoor
