/- LexBytes: a line feed and one byte more. -/
import Derived.Laws.BytesArg
import Derived.Laws.Concat
import Derived.Lib.SlBytesConst
import Derived.Test.YtagofkcjpmgmjaaDoorLWorks
namespace Go.Proofs.YtagofkcjpmgmjaaDoor
open Go.RowKit
set_option linter.unusedVariables false
set_option linter.unusedSimpArgs false

theorem tl_app (a b : ByteArray) : tl (a ++ b) = tl a ++ tl b := by simp [tl]
theorem app_size (a b : ByteArray) : (a ++ b).size = a.size + b.size := by rw [← tl_len, tl_app, List.length_append, tl_len, tl_len]
theorem conv_one (c : UInt8) (W : World) : (convert 35 9 (.slice (some ⟨W.heap.size, 0, none⟩) 1 1)).run Tryd.prog (W.alloc (.cells #[.int .u8 (c.toNat : Int)] 5)) = .ok (.string (bs [c])) (W.alloc (.cells #[.int .u8 (c.toNat : Int)] 5)) := by
  have h := run_convert_bytes_arg (P := Tryd.prog) (W.alloc (.cells #[.int .u8 (c.toNat : Int)] 5)) 35 5 Tryd.underlying35 Tryd.underlying5 W.heap.size 0 1 1 [(c.toNat : Int)] rfl (by
    intro i hi
    obtain rfl : i = 0 := by omega
    simp [go_sem]) 9 Tryd.underlying9
  rw [h]
  simp [strOfNums, bs]
def ones19 : List Int := [40, 41, 91, 93, 44, 46, 58, 59, 61, 92, 60, 62, 64, 126, 42, 32, 9, 10, 13]
def K0 (x : Nat) : Bool := decide (x = 95 ∨ (97 ≤ x ∧ x ≤ 122) ∨ (65 ≤ x ∧ x ≤ 90) ∨ x = 48 ∨ x = 49)
def KN (c : UInt8) (k : Nat) : Bool := K0 c.toNat || (ones19.take k).any (fun x => x == (c.toNat : Int))
theorem KN_step (c : UInt8) (k : Nat) (x : Int) (h : ones19[k]? = some x) : KN c (k + 1) = (KN c k || (x == (c.toNat : Int))) := by
  unfold KN
  rw [List.take_add_one, h, List.any_append]
  simp [Bool.or_assoc]
theorem KN_all (c : UInt8) : KN c 19 = knownB c := by
  have h1 : tokN [c] = if letterB c then 1 else if oneB c then 1 else 0 := by
    by_cases h : letterB c = true
    · simp [tokN, nameN, h, wordN]
    · simp [tokN, nameN, h, signN, twoB]
  have h2 : knownB c = (blankB c || letterB c || oneB c) := by
    rw [knownB, h1]
    cases letterB c <;> cases oneB c <;> simp
  rw [h2, Bool.eq_iff_iff]
  simp only [KN, K0, ones19, List.take, List.any_cons, List.any_nil, blankB, letterB, oneB, Bool.or_eq_true, decide_eq_true_eq, beq_iff_eq, List.mem_cons, List.mem_nil_iff, or_false, Bool.or_false]
  omega
theorem conv_same (W : World) : (convert 35 35 (.slice (some ⟨W.heap.size, 0, none⟩) 19 19)).run Tryd.prog (W.alloc (.cells #[.int .u8 40, .int .u8 41, .int .u8 91, .int .u8 93, .int .u8 44, .int .u8 46, .int .u8 58, .int .u8 59, .int .u8 61, .int .u8 92, .int .u8 60, .int .u8 62, .int .u8 64, .int .u8 126, .int .u8 42, .int .u8 32, .int .u8 9, .int .u8 10, .int .u8 13] 5)) = .ok (.slice (some ⟨W.heap.size, 0, none⟩) 19 19) (W.alloc (.cells #[.int .u8 40, .int .u8 41, .int .u8 91, .int .u8 93, .int .u8 44, .int .u8 46, .int .u8 58, .int .u8 59, .int .u8 61, .int .u8 92, .int .u8 60, .int .u8 62, .int .u8 64, .int .u8 126, .int .u8 42, .int .u8 32, .int .u8 9, .int .u8 10, .int .u8 13] 5 (19, 20))) :=
  Lib.run_convert_bytes_const W 35 5 #[.int .u8 40, .int .u8 41, .int .u8 91, .int .u8 93, .int .u8 44, .int .u8 46, .int .u8 58, .int .u8 59, .int .u8 61, .int .u8 92, .int .u8 60, .int .u8 62, .int .u8 64, .int .u8 126, .int .u8 42, .int .u8 32, .int .u8 9, .int .u8 10, .int .u8 13] 19 19 Tryd.underlying35 Tryd.underlying5
def cells19 (w : World) (g : Nat) : Prop := ∀ k x, ones19[k]? = some x → w.cell? ⟨g, k, none⟩ = some (.int .u8 x)
theorem cells19_made (W : World) : cells19 (W.alloc (.cells #[.int .u8 40, .int .u8 41, .int .u8 91, .int .u8 93, .int .u8 44, .int .u8 46, .int .u8 58, .int .u8 59, .int .u8 61, .int .u8 92, .int .u8 60, .int .u8 62, .int .u8 64, .int .u8 126, .int .u8 42, .int .u8 32, .int .u8 9, .int .u8 10, .int .u8 13] 5 (19, 20))) W.heap.size := by
  intro k x h
  have e : (#[.int .u8 40, .int .u8 41, .int .u8 91, .int .u8 93, .int .u8 44, .int .u8 46, .int .u8 58, .int .u8 59, .int .u8 61, .int .u8 92, .int .u8 60, .int .u8 62, .int .u8 64, .int .u8 126, .int .u8 42, .int .u8 32, .int .u8 9, .int .u8 10, .int .u8 13] : Array Value) = (ones19.map (Value.int .u8)).toArray := rfl
  rw [e, cell_of_row _ _ _ _ _ _ (heap_alloc_new W _)]
  simp [h]
/-- The ways through the test of one byte. -/
theorem ways8 (x : Nat) :
    (((x : Int) == 95) = true ∧ K0 x = true) ∨
    (((x : Int) == 95) = false ∧ decide (97 ≤ (x : Int)) = true ∧ decide ((x : Int) ≤ 122) = true ∧ K0 x = true) ∨
    (((x : Int) == 95) = false ∧ decide (97 ≤ (x : Int)) = false ∧ decide (65 ≤ (x : Int)) = true ∧ decide ((x : Int) ≤ 90) = true ∧ K0 x = true) ∨
    (((x : Int) == 95) = false ∧ decide (97 ≤ (x : Int)) = false ∧ decide (65 ≤ (x : Int)) = false ∧ ((x : Int) == 48) = true ∧ K0 x = true) ∨
    (((x : Int) == 95) = false ∧ decide (97 ≤ (x : Int)) = false ∧ decide (65 ≤ (x : Int)) = false ∧ ((x : Int) == 48) = false ∧ ((x : Int) == 49) = true ∧ K0 x = true) ∨
    (((x : Int) == 95) = false ∧ decide (97 ≤ (x : Int)) = false ∧ decide (65 ≤ (x : Int)) = false ∧ ((x : Int) == 48) = false ∧ ((x : Int) == 49) = false ∧ K0 x = false) ∨
    (((x : Int) == 95) = false ∧ decide (97 ≤ (x : Int)) = false ∧ decide (65 ≤ (x : Int)) = true ∧ decide ((x : Int) ≤ 90) = false ∧ ((x : Int) == 48) = false ∧ ((x : Int) == 49) = false ∧ K0 x = false) ∨
    (((x : Int) == 95) = false ∧ decide (97 ≤ (x : Int)) = true ∧ decide ((x : Int) ≤ 122) = false ∧ decide (65 ≤ (x : Int)) = true ∧ decide ((x : Int) ≤ 90) = false ∧ ((x : Int) == 48) = false ∧ ((x : Int) == 49) = false ∧ K0 x = false) := by
  simp only [K0, beq_iff_eq, beq_eq_false_iff_ne, decide_eq_true_eq, decide_eq_false_iff_not]
  omega
set_option maxRecDepth 100000 in
set_option maxHeartbeats 2000000 in
theorem walk_LexBytes (s : ByteArray) (c : UInt8) (w : World) (hs : s.size ≤ maxLen) (hT : Tabs w) :
    Calls Tryd.prog 6 #[.string s, .int .u8 (c.toNat : Int)] w fun e w' => e = .returned (.bool true) ∧ Below w.heap.size w w' := by
  have c0 := works_any w hT
  have c1 := fun w (h : Tabs w) => scan_any s w hs h
  unfold maxLen at hs
  by_cases hok : (scanF (tl s)).2.2 = 0
  · by_cases hl : s.size < 65535
    · have hpl := (scanF_ok hok).2.2.2
      obtain ⟨hcov, hne⟩ := scanF_cov hok
      obtain ⟨m1, m2, m3⟩ := scanF_more hok (by rw [tl_len]; exact hl) c
      simp only [hok, hpl] at c1
      generalize (scanF (tl s)).1 = ts at *
      have HM : Hid (_ ∧ _ ∧ _) := ⟨m1, m2, m3⟩
      have hlJ : decide ((65535 : Int) ≤ (s.size : Int)) = false := by simp only [decide_eq_false_iff_not]; omega
      obtain ⟨S1, hS1⟩ : ∃ S1, s ++ (⟨#[10]⟩ : ByteArray) = S1 := ⟨_, rfl⟩
      obtain ⟨S2, hS2⟩ : ∃ S2, S1 ++ bs [c] = S2 := ⟨_, rfl⟩
      have z10 : (⟨#[10]⟩ : ByteArray).size = 1 := rfl
      have z1 : (bs [c]).size = 1 := rfl
      have z2 : S1.size = s.size + 1 := by rw [← hS1, app_size, z10]
      have z3 : S2.size = s.size + 2 := by rw [← hS2, app_size, z2, z1]
      have ad1 : ∀ w, (Op.stringOp .add s ⟨#[10]⟩).run Tryd.prog w = .ok (.string S1) w := fun w => by rw [run_string_add_sum w _ _ (by rw [z10]; omega), hS1]
      have ad2 : ∀ w, (Op.stringOp .add S1 (bs [c])).run Tryd.prog w = .ok (.string S2) w := fun w => by rw [run_string_add_sum w _ _ (by rw [z2, z1]; omega), hS2]
      have hS : tl S2 = tl s ++ [10, c] := by
        rw [← hS2, ← hS1, tl_app, tl_app, tl_bs]
        show tl s ++ [10] ++ [c] = _
        simp
      have c2 := fun w (h : Tabs w) => scan_any S2 w (by unfold maxLen; omega) h
      rw [hS] at c2
      obtain ⟨A, hA⟩ : ∃ A, scanF (tl s ++ [10, c]) = A := ⟨_, rfl⟩
      rw [hA] at c2 HM
      rw [tl_len] at HM
      clear hcov hpl m1 m2 m3 hl hs hS hA hS1 hS2 z10 z1 z2 z3
      have hcv := conv_one c
      go_enter Tryd.func6, Tryd.ntmps6
      go_wp2_with fail
      refine c0.mono ?_
      rintro e w1 ⟨rfl, hB1⟩
      go_wp2_with fail
      refine (c1 w1 (hT.below hB1)).mono ?_
      rintro e w2 ⟨v, rfl, hO, hB2⟩
      clear c0 c1
      rcases OwnsT.form hO with ⟨_, h⟩ | ⟨g, cap, rfl, hg0, hg, hc⟩
      · exact absurd h hne
      have hlen : ((ts.length : Int) == 0) = false := by
        have : ts.length ≠ 0 := fun h => hne (List.length_eq_zero_iff.1 h)
        simp only [beq_eq_false_iff_ne]; omega
      clear hO hc hok hne
      generalize ts.length = N at *
      have hB12 := chain hB1 hB2
      go_wp2_with (first
        | (refine wpList_add_str rfl _ _ rfl s ⟨#[10]⟩ S1 rfl rfl ad1 ?_)
        | (refine wpList_add_str rfl _ _ rfl S1 (bs [c]) S2 rfl rfl ad2 ?_))
      refine (c2 _ (hT.below (chain hB12 (below_alloc _ _)))).mono ?_
      rintro e w3 ⟨v3, rfl, hO3, hB3⟩
      clear hO3
      have hB := chain (chain hB12 (below_alloc _ _)) hB3
      clear c2 hcv ad1 ad2 hB12 hB3 hB1 hB2 hT
      obtain ⟨A1, A2, A3⟩ := A
      simp only at HM ⊢
      have hsz : (s.size : Int) ≤ 65534 := by
        have := of_decide_eq_false hlJ
        omega
      by_cases hc1 : c.toNat < 128
      · have hc2 : ¬ ((128 : Int) ≤ (c.toNat : Int)) := by omega
        have HK : Hid ((KN c 19 = true → A3 = 0) ∧ (KN c 19 = false → A2 = s.size + 1 ∧ A3 = 61)) := by
          rw [KN_all]
          exact ⟨fun h => HM.out.2.1 hc1 h, fun h => by simpa using HM.out.2.2 hc1 h⟩
        have hcs := conv_same
        clear HM hc1 hlJ
        rcases ways8 c.toNat with ⟨h1, h0⟩ | ⟨h1, h2, h3, h0⟩ | ⟨h1, h2, h3, h4, h0⟩ | ⟨h1, h2, h3, h4, h0⟩ | ⟨h1, h2, h3, h4, h5, h0⟩ | ⟨h1, h2, h3, h4, h5, h0⟩ | ⟨h1, h2, h3, h4, h5, h6, h0⟩ | ⟨h1, h2, h3, h4, h5, h6, h7, h0⟩
        all_goals
          have H0 : Hid (KN c 0 = _) := (show KN c 0 = K0 c.toNat by simp [KN]).trans h0
          clear h0
          go_wp2
        all_goals
          go_loopw [11, 85] (fun kn i wr => ∃ (k : Nat) (b : Bool), k ≤ 19 ∧ i = .int .i64 k ∧ kn = .bool b ∧ Hid (KN c k = b) ∧ Hid (cells19 wr w3.heap.size) ∧ Below w.heap.size w wr) (fun _ i _ => 19 - (intOf i).toNat)
          case atStart => exact ⟨0, _, by omega, rfl, rfl, H0, cells19_made w3, chain hB (below_alloc _ _)⟩
          case round =>
            obtain ⟨k, b, hk, rfl, rfl, HB, HC, hBr⟩ := hrel
            by_cases hlt : k < 19
            · obtain ⟨x, hx⟩ : ∃ x, ones19[k]? = some x := ⟨ones19[k]'hlt, List.getElem?_eq_getElem hlt⟩
              have hcell := HC.out k x hx
              have HS : Hid (_ = _) := KN_step c k x hx
              rw [HB.out] at HS
              clear hx HB
              cases b
              · go_wp2
                go_roundw
                case rel => exact ⟨k + 1, _, by omega, by go_num, rfl, by show _ = _; simpa using HS.out, HC, hBr⟩
                case measure => simp [intOf]; omega
              · go_wp2
                go_roundw
                case rel => exact ⟨k + 1, _, by omega, by go_num, rfl, by show _ = _; simpa using HS.out, HC, hBr⟩
                case measure => simp [intOf]; omega
            · obtain rfl : k = 19 := by omega
              cases b
              · obtain ⟨rfl, rfl⟩ := HK.out.2 HB.out
                clear HK HB HC
                go_wp2
                go_ret
                exact ⟨rfl, hBr⟩
              · obtain rfl := HK.out.1 HB.out
                clear HK HB HC
                go_wp2
                go_ret
                exact ⟨rfl, hBr⟩
      · have HX : Hid (_ = _) := HM.out.1 hc1
        obtain ⟨rfl, rfl⟩ : A2 = s.size + 1 ∧ A3 = 60 := by simpa using HX.out
        clear HX HM
        have hc2 : (128 : Int) ≤ (c.toNat : Int) := by omega
        go_wp2
        go_ret
        exact ⟨rfl, hB⟩
    · have hpl := (scanF_ok hok).2.2.2
      obtain ⟨hcov, hne⟩ := scanF_cov hok
      simp only [hok, hpl] at c1
      generalize (scanF (tl s)).1 = ts at *
      have hlJ : ((65535 : Int) ≤ (s.size : Int)) := by omega
      clear hcov hpl hs hl
      go_enter Tryd.func6, Tryd.ntmps6
      go_wp2_with fail
      refine c0.mono ?_
      rintro e w1 ⟨rfl, hB1⟩
      go_wp2_with fail
      refine (c1 w1 (hT.below hB1)).mono ?_
      rintro e w2 ⟨v, rfl, hO, hB2⟩
      clear c0 c1
      rcases OwnsT.form hO with ⟨_, h⟩ | ⟨g, cap, rfl, hg0, hg, hc⟩
      · exact absurd h hne
      have hlen : ((ts.length : Int) == 0) = false := by
        have : ts.length ≠ 0 := fun h => hne (List.length_eq_zero_iff.1 h)
        simp only [beq_eq_false_iff_ne]; omega
      clear hO hc hok hne
      generalize ts.length = N at *
      go_wp2_with fail
      go_ret
      exact ⟨rfl, chain hB1 hB2⟩
  · have hbad : ¬ (((scanF (tl s)).2.2 : Int) = 0) := by omega
    generalize (scanF (tl s)).2.2 = E at *
    generalize (scanF (tl s)).2.1 = P at *
    clear hok hs
    go_enter Tryd.func6, Tryd.ntmps6
    go_wp2_with fail
    refine c0.mono ?_
    rintro e w1 ⟨rfl, hB1⟩
    go_wp2_with fail
    refine (c1 w1 (hT.below hB1)).mono ?_
    rintro e w2 ⟨v, rfl, hO, hB2⟩
    clear c0 c1
    obtain ⟨a, cap, rfl⟩ := (OwnsT.row hO).len
    clear hO
    generalize (scanF (tl s)).1.length = N at *
    go_wp2_with fail
    go_ret
    exact ⟨rfl, chain hB1 hB2⟩
end Go.Proofs.YtagofkcjpmgmjaaDoor
