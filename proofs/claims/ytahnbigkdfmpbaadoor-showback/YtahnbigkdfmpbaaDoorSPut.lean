/- The writer's small functions: tooLong, told, put. -/
import Derived.Deep.QuietTactic
import Derived.BigQuiet
import Derived.WalkSmall
import Derived.Test.YtahnbigkdfmpbaaDoorSBuild
namespace Go.Proofs.YtahnbigkdfmpbaaDoor
open Go.RowKit
set_option linter.unusedVariables false
set_option linter.unusedSimpArgs false

def wp_ (b : Nat) : Value := .pointer (some ⟨b, 0, none⟩)
set_option maxRecDepth 100000 in
theorem tooLong_any (B b : Nat) (X : Bs) (w : World) (h : WB B b X w) : Calls Tryd.prog 19 #[wp_ b] w fun e w' => e = .returned (.bool (decide (65536 < X.length))) ∧ w' = w := by
  have c := len_any B b X w h
  have e1 : decide (65536 < X.length) = decide ((65536 : Int) < (X.length : Int)) := by rw [Bool.eq_iff_iff]; simp; omega
  rw [e1]
  unfold wp_
  generalize X.length = L at *
  go_enter Tryd.func19, Tryd.ntmps19
  go_wp2_with fail
  refine c.mono ?_
  rintro e w' ⟨rfl, hw⟩
  rw [hw]
  go_wp2_with fail
  go_ret
  exact ⟨rfl, rfl⟩
set_option maxRecDepth 100000 in
theorem told_any (B b : Nat) (X : Bs) (w : World) (h : WB B b X w) (h0 : X ≠ []) : Calls Tryd.prog 14 #[wp_ b] w fun e w' => e = .returned (.tuple #[.string (bs (toldF X).1), .int .i64 ((toldF X).2 : Nat)]) ∧ KW B b w w' := by
  have c := tooLong_any B b X w h
  have cS := string_any B b X w h h0
  unfold toldF
  by_cases hl : 65536 < X.length
  · rw [decide_eq_true hl] at c
    rw [if_pos hl]
    clear hl cS
    unfold wp_ at *
    go_enter Tryd.func14, Tryd.ntmps14
    go_wp2_with fail
    refine c.mono ?_
    rintro e w' ⟨rfl, hw⟩
    rw [hw]
    go_wp2_with fail
    go_ret2
    exact ⟨rfl, KW.refl _ _ _⟩
  · rw [decide_eq_false hl] at c
    rw [if_neg hl]
    clear hl
    unfold wp_ at *
    go_enter Tryd.func14, Tryd.ntmps14
    go_wp2_with fail
    refine c.mono ?_
    rintro e w' ⟨rfl, hw⟩
    rw [hw]
    go_wp2_with fail
    refine cS.mono ?_
    rintro e w2 ⟨rfl, hk⟩
    go_wp2_with fail
    go_ret2
    exact ⟨rfl, hk⟩
theorem cut_take (Y s : Bs) (hY : Y.length ≤ 65537) : cut (Y ++ s) = Y ++ s.take (65537 - Y.length) := by
  unfold cut
  rw [List.take_append, List.take_of_length_le hY]
theorem take_flat {ss : List Bs} {k : Nat} {s : Bs} (h : ss[k]? = some s) : (ss.take (k + 1)).flatten = (ss.take k).flatten ++ s := by
  obtain ⟨hlt, e⟩ := List.getElem?_eq_some_iff.1 h
  rw [List.take_succ_eq_append_getElem hlt, e]
  simp
set_option maxRecDepth 100000 in
set_option maxHeartbeats 4000000 in
theorem put_any (B b : Nat) (X : Bs) (ss : List Bs) (x : Nat) (w : World) (h : WB B b X w) (hX : X.length ≤ 65537) (hBw : B ≤ w.heap.size) (hS : SR w x ss) (hx : x ≠ b) (hl : ss.length ≤ 100) (hc : ∀ s ∈ ss, s.length ≤ 1000000) :
    Calls Tryd.prog 21 #[wp_ b, .slice (some ⟨x, 0, none⟩) ss.length ss.length] w fun e w' => e = .returned (.tuple #[]) ∧ WB B b (cut (X ++ ss.flatten)) w' ∧ KW B b w w' := by
  obtain ⟨L, hL⟩ : ∃ L, L = ss.length := ⟨_, rfl⟩
  have HL : Hid (L = ss.length) := hL
  rw [← hL] at hl ⊢
  clear hL
  have H0 : Hid (WB B b (cut (X ++ (ss.take 0).flatten)) w) := by
    rw [List.take_zero, List.flatten_nil, List.append_nil, cut_self hX]; exact h
  have HS : Hid (SR w x ss) := hS
  have HC : Hid (∀ s ∈ ss, s.length ≤ 1000000) := hc
  clear h hS hc
  unfold wp_
  go_enter Tryd.func21, Tryd.ntmps21
  go_wp2
  go_loopw [9] (fun i wr => ∃ k : Nat, k ≤ L ∧ i = .int .i64 k ∧ Hid (WB B b (cut (X ++ (ss.take k).flatten)) wr) ∧ KW B b w wr) (fun i _ => L - (intOf i).toNat)
  case atStart => exact ⟨0, Nat.zero_le _, rfl, H0, KW.refl _ _ _⟩
  case round =>
    obtain ⟨k, hk, rfl, HK, hKW⟩ := hrel
    clear H0
    by_cases hlt : k < L
    · obtain ⟨s, hs⟩ := someS (l := ss) (k := k) (by rw [← HL.out]; exact hlt)
      have c0 := (HS.out.kw hKW hx).cell hs
      have hYl := cut_len (X ++ (ss.take k).flatten)
      have HN : Hid (cut (X ++ (ss.take (k + 1)).flatten) = cut (X ++ (ss.take k).flatten) ++ s.take (65537 - (cut (X ++ (ss.take k).flatten)).length)) := by
        rw [take_flat hs, ← List.append_assoc, ← cut_cut, cut_take _ _ hYl]; rfl
      have hsl := HC.out s (List.mem_of_getElem? hs)
      clear hs
      generalize hY : cut (X ++ (ss.take k).flatten) = Y at *
      clear hY
      have cL := len_any B b Y wr HK.out
      have hss : (bs s).size = s.length := bs_size s
      have hB2 := Nat.le_trans hBw hKW.below.size
      obtain ⟨m, hm⟩ : ∃ m, m = min s.length (65537 - Y.length) := ⟨_, rfl⟩
      have cW := writeString_any B b Y ((bs s).extract 0 m) wr.drew HK.out (by
        have : ((bs s).extract 0 m).size ≤ m := by rw [ByteArray.size_extract]; omega
        omega) hB2
      have HE : Hid (tl ((bs s).extract 0 m) = s.take (65537 - Y.length)) := by
        rw [tl_extract, tl_bs, List.drop_zero, hm]
        rcases Nat.le_total s.length (65537 - Y.length) with h | h
        · rw [Nat.min_eq_left h, List.take_of_length_le (Nat.le_refl _), List.take_of_length_le h]; rfl
        · rw [Nat.min_eq_right h]; rfl
      have hsl2 : ∀ W, (Instr.slice 9 (.string (bs s)) none (some (.int .i64 (if 65537 - (Y.length : Int) < (s.length : Int) then 65537 - (Y.length : Int) else (s.length : Int)))) none).run Tryd.prog W = .ok (.string ((bs s).extract 0 m)) W := fun W => by
        have e : (if (65537 - (Y.length : Int)) < (s.length : Int) then (65537 - (Y.length : Int)) else (s.length : Int)) = (m : Int) := by split <;> omega
        rw [e, run_slice_string_h W 9 (bs s) Tryd.underlying9 .i64 (m : Int) (by omega) (by omega), Int.toNat_natCast]
      have hsl3 : ∀ W, (Instr.slice 9 (.string (bs s)) none (some (.int .i64 (min (s.length : Int) (65537 - (Y.length : Int))))) none).run Tryd.prog W = .ok (.string ((bs s).extract 0 m)) W := fun W => by
        have e : min (s.length : Int) (65537 - (Y.length : Int)) = (m : Int) := by omega
        rw [e, run_slice_string_h W 9 (bs s) Tryd.underlying9 .i64 (m : Int) (by omega) (by omega), Int.toNat_natCast]
      have HM : Hid (_ = _) := hm
      clear hm
      go_wp2_with fail
      refine cL.mono ?_
      rintro e w' ⟨rfl, hw⟩
      rw [hw]
      go_wp2_with fail
      go_still_tail 9, (by kernel_rfl)
      go_wp2_with fail
      all_goals
        refine cW.mono ?_
        rintro e w2 ⟨rfl, hW2, hk2⟩
        go_wp2_with fail
        go_roundw
        case rel => exact ⟨k + 1, by omega, by go_num, (by rw [HN.out, ← HE.out]; exact hW2 : WB B b (cut (X ++ (ss.take (k + 1)).flatten)) w2), hKW.trans ((⟨Below.drew (Below.refl _ _), (Lib.OthersKept.refl _ _ _).drew⟩ : KW B b wr wr.drew).trans hk2)⟩
        case measure => simp [intOf]; omega
    · have HZ : Hid (WB B b (cut (X ++ ss.flatten)) wr) := by
        have h := HK.out
        rw [List.take_of_length_le (by rw [← HL.out]; omega)] at h
        exact h
      clear HK
      go_wp2
      go_end0
      exact ⟨rfl, HZ.out, hKW⟩
end Go.Proofs.YtahnbigkdfmpbaaDoor
