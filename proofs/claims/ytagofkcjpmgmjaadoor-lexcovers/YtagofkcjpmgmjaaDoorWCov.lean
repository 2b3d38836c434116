/- LexCovers: the tokens cover the text. -/
import Derived.Deep.QuietTactic
import Derived.BigQuiet
import Derived.WalkSmall
import Derived.Test.YtagofkcjpmgmjaaDoorLSame
import Derived.Test.YtagofkcjpmgmjaaDoorLWorks
namespace Go.Proofs.YtagofkcjpmgmjaaDoor
open Go.RowKit
set_option linter.unusedVariables false
set_option linter.unusedSimpArgs false

theorem ext_eq (s : ByteArray) (a n : Nat) (T : Bs) (h : ((tl s).drop a).take n = T) : s.extract a (a + n) = bs T := by
  apply tl_inj
  rw [tl_extract, tl_bs, ← h, List.take_drop]
theorem tl_piece (s : ByteArray) (e a : Nat) (h : e ≤ a) : tl (s.extract e a) = ((tl s).drop e).take (a - e) := by
  rw [tl_extract, List.take_drop, Nat.add_sub_cancel' h]
theorem bs_empty (T : Bs) : (bs T).toList.isEmpty = decide (T = []) := by
  rw [Lib.toList_data, tl_def, tl_bs]
  cases T <;> rfl
theorem wrap_in {x : Int} (h1 : -9223372036854775808 ≤ x) (h2 : x ≤ 9223372036854775807) : IntKind.i64.wrap x = x := by
  simp [IntKind.wrap, IntKind.bits, IntKind.signed, IntKind.min, IntKind.max]
  omega
set_option maxRecDepth 100000 in
set_option maxHeartbeats 2000000 in
theorem walk_LexCovers (s : ByteArray) (w : World) (hs : s.size ≤ maxLen) (hT : Tabs w) :
    Calls Tryd.prog 4 #[.string s] w fun e w' => e = .returned (.bool true) ∧ Below w.heap.size w w' := by
  have c0 := works_any w hT
  have c1 := fun w (h : Tabs w) => scan_any s w hs h
  unfold maxLen at hs
  by_cases hok : (scanF (tl s)).2.2 = 0
  · have hpl := (scanF_ok hok).2.2.2
    have hs6 := (scanF_ok hok).1
    rw [tl_len] at hs6
    obtain ⟨hcov, hne⟩ := scanF_cov hok
    simp only [hok, hpl] at c1
    have hnn : (scanF (tl s)).1.length ≤ s.size + 1 := tok_count hok
    generalize (scanF (tl s)).1 = ts at *
    have HCv : Hid (Cov (tl s) 0 ts) := hcov
    clear hcov hpl hs hok
    go_enter Tryd.func4, Tryd.ntmps4
    go_wp2_with fail
    refine c0.mono ?_
    rintro e w1 ⟨rfl, hB1⟩
    go_wp2_with fail
    refine (c1 w1 (hT.below hB1)).mono ?_
    rintro e w2 ⟨v, rfl, hO, hB2⟩
    clear c0 c1
    rcases OwnsT.form hO with ⟨_, h⟩ | ⟨g, cap, rfl, hg0, hg, hc⟩
    · exact absurd h hne
    have hB12 := chain hB1 hB2
    obtain ⟨n, hn⟩ : ∃ n, n = ts.length := ⟨_, rfl⟩
    have Hn : Hid (n = ts.length) := hn
    have hn0 : 0 < n := by
      have : ts.length ≠ 0 := fun h => hne (List.length_eq_zero_iff.1 h)
      omega
    rw [← hn] at hnn ⊢
    have HC : Hid (CellsT w2 g 0 ts) := hc
    clear hO hc hne hn hT hB1 hB2 hg0
    go_wp2
    go_loopw [6, 34] (fun en i wr => ∃ (k e : Nat), k ≤ n ∧ e ≤ s.size ∧ i = .int .i64 k ∧ en = .int .i64 e ∧ Hid (Cov (tl s) e (ts.drop k)) ∧ Below w2.heap.size w2 wr) (fun _ i _ => n - (intOf i).toNat)
    case atStart => exact ⟨0, 0, by omega, by omega, rfl, rfl, HCv, Below.refl _ _⟩
    case round =>
      obtain ⟨k, e, hk, he, rfl, rfl, HK, hB⟩ := hrel
      by_cases hlt : k < n
      · have hlt' : k < ts.length := by rw [← Hn.out]; exact hlt
        obtain ⟨t, ht⟩ := get_some hlt'
        have hd : ts.drop k = t :: ts.drop (k + 1) := by
          rw [List.drop_eq_getElem_cons hlt']
          rw [List.getElem?_eq_getElem hlt'] at ht
          rw [Option.some.inj ht]
        have hcv := HK.out
        rw [hd] at hcv
        obtain ⟨q1, q2, q3, q4, q5, q6, q7⟩ := hcv
        obtain ⟨a0, a1, a2⟩ := (CellsT.below HC.out hB hg) k t ht
        simp only [Nat.zero_add] at a0 a1 a2
        rw [tl_len] at q2
        have hq := fun w => quiet_any (s.extract e t.at_) w (by simp; omega) (by rw [tl_piece s e t.at_ q1, q4]; simp; omega)
        have hx := ext_eq s t.at_ t.text.length t.text q3
        have hxs : (bs t.text).size = t.text.length := bs_size _
        have hxe := bs_empty t.text
        have hlast : (ts.drop (k + 1) = []) ↔ k + 1 = n := by
          rw [List.drop_eq_nil_iff, ← Hn.out]; omega
        rw [hlast] at q5
        have HV : Hid (Cov (tl s) (t.at_ + t.text.length) (ts.drop (k + 1))) := q7
        have hz : decide (t.text = []) = decide (t.kind = 0) := by rw [decide_eq_decide]; exact q6.symm
        rw [hz] at hxe
        clear q3 q4 q6 q7 hlast ht hd HK hz
        generalize t.text.length = m at *
        generalize t.at_ = A at *
        generalize bs t.text = X at *
        generalize t.kind = K at *
        have g1 : decide ((A : Int) < (e : Int)) = false := by simp only [decide_eq_false_iff_not]; omega
        have g2 : decide ((s.size : Int) - (m : Int) < (A : Int)) = false := by simp only [decide_eq_false_iff_not]; omega
        have sl1 : ∀ w, (Instr.slice 9 (.string s) (some (.int .i64 (A : Int))) (some (.int .i64 ((A : Int) + (m : Int)))) none).run Tryd.prog w = .ok (.string X) w := fun w => by
          rw [run_slice_string w 9 s .i64 .i64 _ _ Tryd.underlying9 (by omega) (by omega) (by omega)]
          have : ((A : Int) + (m : Int)).toNat = A + m := by omega
          rw [this, Int.toNat_natCast, hx]
        have sl2 : ∀ w, (Instr.slice 9 (.string s) (some (.int .i64 (e : Int))) (some (.int .i64 (A : Int))) none).run Tryd.prog w = .ok (.string (s.extract e A)) w := fun w => by
          rw [run_slice_string w 9 s .i64 .i64 _ _ Tryd.underlying9 (by omega) (by omega) (by omega), Int.toNat_natCast, Int.toNat_natCast]
        generalize s.extract e A = Y at *
        clear hx
        have g3 : IntKind.i64.wrap ((s.size : Int) - (m : Int)) = (s.size : Int) - (m : Int) := wrap_in (by omega) (by omega)
        have g4 : IntKind.i64.wrap ((A : Int) + (m : Int)) = (A : Int) + (m : Int) := wrap_in (by omega) (by omega)
        by_cases hK : K = 0
        · subst hK
          have hkn : k + 1 = n := q5.1 rfl
          have hxe' : X.toList.isEmpty = true := by rw [hxe]; rfl
          have hkn' : ((k : Int) == (n : Int) - 1) = true := by simp only [beq_iff_eq]; omega
          clear q5 hxe hkn
          go_wp2
          go_quiet ((go_at_call 11; exact Calls.quiet_of_same (hq _)))
          go_wp2
          go_roundw
          case rel => exact ⟨k + 1, A + m, by omega, by omega, by go_num, by go_num, HV, below_drewN (chain hB (below_alloc _ _)) _⟩
          case measure => simp [intOf]; omega
        · have hkn : k + 1 ≠ n := fun h => hK (q5.2 h)
          have hxe' : X.toList.isEmpty = false := by rw [hxe]; simp [hK]
          have hkn' : ((k : Int) == (n : Int) - 1) = false := by simp only [beq_eq_false_iff_ne]; omega
          have hK' : ((K : Int) == 0) = false := by simp only [beq_eq_false_iff_ne]; omega
          clear q5 hxe hkn hK
          go_wp2
          go_quiet ((go_at_call 11; exact Calls.quiet_of_same (hq _)))
          go_wp2
          go_roundw
          case rel => exact ⟨k + 1, A + m, by omega, by omega, by go_num, by go_num, HV, below_drewN (chain hB (below_alloc _ _)) _⟩
          case measure => simp [intOf]; omega
      · have HE : Hid (e = s.size) := by
          have h := HK.out
          rw [List.drop_of_length_le (by rw [← Hn.out]; omega)] at h
          have h2 : e = (tl s).length := h
          rw [tl_len] at h2
          exact h2
        obtain rfl := HE.out
        clear HE
        go_wp2
        go_ret
        exact ⟨rfl, chain hB12 hB⟩
  · have hbad : ¬ (((scanF (tl s)).2.2 : Int) = 0) := by omega
    obtain ⟨hnil, hpl⟩ := scanF_bad hok
    rw [tl_len] at hpl
    simp only [hnil] at c1
    generalize (scanF (tl s)).2.2 = E at *
    generalize (scanF (tl s)).2.1 = P at *
    have hp1 : (0 : Int) ≤ (P : Int) := by omega
    have hp2 : (P : Int) ≤ (s.size : Int) := by omega
    clear hok hs hnil hpl
    go_enter Tryd.func4, Tryd.ntmps4
    go_wp2_with fail
    refine c0.mono ?_
    rintro e w1 ⟨rfl, hB1⟩
    go_wp2_with fail
    refine (c1 w1 (hT.below hB1)).mono ?_
    rintro e w2 ⟨v, rfl, hO, hB2⟩
    clear c0 c1
    obtain ⟨a, cap, rfl⟩ := (OwnsT.row hO).len
    clear hO
    go_wp2_with fail
    go_ret
    exact ⟨rfl, chain hB1 hB2⟩
end Go.Proofs.YtagofkcjpmgmjaaDoor
