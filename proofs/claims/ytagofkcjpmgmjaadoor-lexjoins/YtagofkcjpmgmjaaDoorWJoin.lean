/- LexJoins: the texts of a text's tokens, with gaps, have these tokens. -/
import Derived.Deep.QuietTactic
import Derived.BigQuiet
import Derived.WalkSmall
import Derived.Laws.Concat
import Derived.Test.YtagofkcjpmgmjaaDoorLSame
import Derived.Test.YtagofkcjpmgmjaaDoorLWorks
namespace Go.Proofs.YtagofkcjpmgmjaaDoor
open Go.RowKit
set_option linter.unusedVariables false
set_option linter.unusedSimpArgs false

theorem tl_app (a b : ByteArray) : tl (a ++ b) = tl a ++ tl b := by simp [tl]
theorem app_size (a b : ByteArray) : (a ++ b).size = a.size + b.size := by rw [← tl_len, tl_app, List.length_append, tl_len, tl_len]
def gapOf (k : Nat) : Bs := if k = 0 then [32] else if k = 1 then [10] else [45, 45, 10]
theorem gapOf_is (k : Nat) : gapOf k = [32] ∨ gapOf k = [10] ∨ gapOf k = [45, 45, 10] := by
  unfold gapOf
  split
  · exact .inl rfl
  · split
    · exact .inr (.inl rfl)
    · exact .inr (.inr rfl)
theorem gapOf_len (k : Nat) : (gapOf k).length ≤ 3 := by rcases gapOf_is k with h | h | h <;> rw [h] <;> decide
/-- The cells of the three gaps. -/
def cells3 (w : World) (g : Nat) : Prop := ∀ k, k < 3 → w.cell? ⟨g, k, none⟩ = some (.string (bs (gapOf k)))
theorem cells3_made (W : World) (t : TypeId) : cells3 (W.alloc (.cells #[.string ⟨#[32]⟩, .string ⟨#[10]⟩, .string ⟨#[45, 45, 10]⟩] t)) W.heap.size := by
  intro k hk
  rcases (show k = 0 ∨ k = 1 ∨ k = 2 by omega) with rfl | rfl | rfl
  · simp [go_sem, gapOf, bs]
  · simp [go_sem, gapOf, bs]
  · simp [go_sem, gapOf, bs]
theorem cells3.below {w w' : World} {g : Nat} (h : cells3 w g) (hg : g < w.heap.size) (hb : Below w.heap.size w w') : cells3 w' g :=
  fun k hk => (hb.cell (p := ⟨g, k, none⟩) hg).trans (h k hk)
theorem join_snoc (gap : Bs) (l : List Tok) (t : Tok) : joinT gap (l ++ [t]) = joinT gap l ++ (t.text ++ gap) := by simp [joinT]
theorem join_len (gap : Bs) (s : Bs) : ∀ (ts : List Tok) (e : Nat), e ≤ s.length → Cov s e ts → (joinT gap ts).length + e ≤ s.length + ts.length * gap.length := by
  intro ts
  induction ts with
  | nil => intro e he h; simp [joinT]; omega
  | cons t r ih =>
    intro e he h
    obtain ⟨h1, h2, _, _, _, _, h7⟩ := h
    have := ih _ h2 h7
    have e1 : joinT gap (t :: r) = t.text ++ gap ++ joinT gap r := by simp [joinT]
    rw [e1]
    simp only [List.length_append, List.length_cons, Nat.add_mul, Nat.one_mul]
    omega
theorem join_take_len (gap : Bs) (ts : List Tok) (k : Nat) : (joinT gap (ts.take k)).length ≤ (joinT gap ts).length := by
  have h : joinT gap (ts.take k ++ ts.drop k) = joinT gap (ts.take k) ++ joinT gap (ts.drop k) := by simp only [joinT, List.flatMap_append]
  rw [List.take_append_drop] at h
  rw [h]
  simp
set_option maxRecDepth 100000 in
set_option maxHeartbeats 4000000 in
theorem walk_LexJoins (s : ByteArray) (w : World) (hs : s.size ≤ maxLen) (hT : Tabs w) :
    Calls Tryd.prog 5 #[.string s] w fun e w' => e = .returned (.bool true) ∧ Below w.heap.size w w' := by
  have c0 := works_any w hT
  have c1 := fun w (h : Tabs w) => scan_any s w hs h
  unfold maxLen at hs
  by_cases hbig : 20000 < s.size
  · have hb : decide ((20000 : Int) < (s.size : Int)) = true := by simp only [decide_eq_true_eq]; omega
    clear hbig hs c1
    go_enter Tryd.func5, Tryd.ntmps5
    go_wp2_with fail
    refine c0.mono ?_
    rintro e w1 ⟨rfl, hB1⟩
    go_wp2_with fail
    go_ret
    exact ⟨rfl, hB1⟩
  · have hb : decide ((20000 : Int) < (s.size : Int)) = false := by simp only [decide_eq_false_iff_not]; omega
    by_cases hok : (scanF (tl s)).2.2 = 0
    · have hpl := (scanF_ok hok).2.2.2
      obtain ⟨hcov, hne⟩ := scanF_cov hok
      simp only [hok, hpl] at c1
      have hnn : (scanF (tl s)).1.length ≤ s.size + 1 := tok_count hok
      have HJ : Hid (∀ gap, (gap = [32] ∨ gap = [10] ∨ gap = [45, 45, 10]) → (joinT gap (scanF (tl s)).1).length ≤ 65536 → _) := fun gap hg hl => scanF_join hok gap hg hl
      have HL : Hid (∀ gap, (joinT gap (scanF (tl s)).1).length ≤ s.size + (scanF (tl s)).1.length * gap.length) := fun gap => by
        have := join_len gap (tl s) _ 0 (Nat.zero_le _) hcov
        rw [tl_len] at this
        exact this
      generalize (scanF (tl s)).1 = ts at *
      clear hcov hpl hs hok
      go_enter Tryd.func5, Tryd.ntmps5
      go_wp2_with fail
      refine c0.mono ?_
      rintro e w1 ⟨rfl, hB1⟩
      go_wp2_with fail
      refine (c1 w1 (hT.below hB1)).mono ?_
      rintro e w2 ⟨v, rfl, hO, hB2⟩
      clear c0 c1
      rcases OwnsT.form hO with ⟨_, h⟩ | ⟨g, cap, rfl, hg0, hg, hc⟩
      · exact absurd h hne
      have hB12 := chain hB1 hB2
      obtain ⟨n, hn⟩ : ∃ n, n = ts.length := ⟨_, rfl⟩
      have Hn : Hid (n = ts.length) := hn
      have hn0 : 0 < n := by
        have : ts.length ≠ 0 := fun h => hne (List.length_eq_zero_iff.1 h)
        omega
      rw [← hn] at hnn HL ⊢
      have HC : Hid (CellsT w2 g 0 ts) := hc
      clear hO hc hne hn hB1 hB2 hg0
      go_wp2_with fail
      go_loopw [30] (fun i wr => ∃ (j : Nat), j ≤ 3 ∧ i = .int .i64 j ∧ Hid (cells3 wr w2.heap.size) ∧ Below w2.heap.size w2 wr ∧ w2.heap.size < wr.heap.size) (fun i _ => 3 - (intOf i).toNat)
      case atStart => exact ⟨0, by omega, rfl, cells3_made _ _, below_alloc _ _, by simp⟩
      case round =>
        obtain ⟨j, hj, rfl, H3, hB, hsz⟩ := hrel
        obtain ⟨w4, hren⟩ : ∃ w0, w0 = wr := ⟨_, rfl⟩
        subst hren
        by_cases hlt : j < 3
        · have h3 := H3.out j hlt
          have hj3 : (j : Int) < 3 := by omega
          have HG : Hid (_ ∨ _) := gapOf_is j
          have hGl := gapOf_len j
          have HL' : Hid (_ ≤ _) := HL.out (gapOf j)
          have HJ' : Hid (_ → _) := HJ.out (gapOf j) HG.out
          generalize gapOf j = G at *
          have hGs : (bs G).size = G.length := bs_size G
          go_wp2
          go_loopw [8, 36] (fun tx i wk => ∃ (k : Nat) (X : ByteArray), k ≤ n ∧ i = .int .i64 k ∧ tx = .string X ∧ Hid (X = bs (joinT G (ts.take k))) ∧ Below w4.heap.size w4 wk) (fun _ i _ => n - (intOf i).toNat)
          case atStart => exact ⟨0, _, by omega, rfl, rfl, rfl, Below.refl _ _⟩
          case round =>
            obtain ⟨k, X, hk, rfl, rfl, HX, hBk⟩ := hrel
            obtain ⟨wk, hren⟩ : ∃ w0, w0 = wr := ⟨_, rfl⟩
            subst hren
            have hbnd : (joinT G ts).length ≤ 80003 := by
              have h1 := HL'.out
              have h2 := Nat.mul_le_mul_left n hGl
              omega
            by_cases hkl : k < n
            · have hkl' : k < ts.length := by rw [← Hn.out]; exact hkl
              obtain ⟨t, ht⟩ := get_some hkl'
              obtain ⟨a0, a1, a2⟩ := (CellsT.below HC.out (chain hB hBk) hg) k t ht
              simp only [Nat.zero_add] at a0 a1 a2
              have e1 : joinT G (ts.take (k + 1)) = joinT G (ts.take k) ++ (t.text ++ G) := by
                rw [List.take_add_one, ht]
                exact join_snoc G _ t
              have e2 := join_take_len G ts (k + 1)
              rw [e1, List.length_append, List.length_append] at e2
              have zX : X.size = (joinT G (ts.take k)).length := by rw [HX.out, bs_size]
              have zT : (bs t.text).size = t.text.length := bs_size _
              obtain ⟨S1, hS1⟩ : ∃ S1, bs t.text ++ bs G = S1 := ⟨_, rfl⟩
              obtain ⟨S2, hS2⟩ : ∃ S2, X ++ S1 = S2 := ⟨_, rfl⟩
              have zS : S1.size = t.text.length + G.length := by rw [← hS1, app_size, zT, hGs]
              have ad1 : ∀ w, (Op.stringOp .add (bs t.text) (bs G)).run Tryd.prog w = .ok (.string S1) w := fun w => by rw [run_string_add_sum w _ _ (by rw [zT, hGs]; omega), hS1]
              have ad2 : ∀ w, (Op.stringOp .add X S1).run Tryd.prog w = .ok (.string S2) w := fun w => by rw [run_string_add_sum w _ _ (by rw [zX, zS]; omega), hS2]
              have HS : Hid (S2 = bs (joinT G (ts.take (k + 1)))) := by
                show _ = _
                apply tl_inj
                rw [← hS2, ← hS1, tl_app, tl_app, HX.out, tl_bs, tl_bs, tl_bs, tl_bs, e1]
              clear ht e1 e2 zX zT hS1 hS2 zS hbnd HX
              generalize bs t.text = T at *
              generalize ((t.kind : Nat) : Int) = K at *
              generalize ((t.at_ : Nat) : Int) = A at *
              go_wp2_with (first
                | (refine wpList_add_str rfl _ _ rfl T (bs G) S1 rfl rfl ad1 ?_)
                | (refine wpList_add_str rfl _ _ rfl X S1 S2 rfl rfl ad2 ?_))
              go_roundw
              case rel => exact ⟨k + 1, S2, by omega, by go_num, rfl, HS, chain hBk (below_alloc _ _)⟩
              case measure => simp [intOf]; omega
            · obtain rfl : k = n := by omega
              have hX : X = bs (joinT G ts) := by rw [HX.out, List.take_of_length_le (by rw [← Hn.out]; exact Nat.le_refl _)]
              have zX : X.size = (joinT G ts).length := by rw [hX, bs_size]
              by_cases hlong : 65536 < X.size
              · have hlb : decide ((65536 : Int) < (X.size : Int)) = true := by simp only [decide_eq_true_eq]; omega
                clear hlong hbnd hX zX HX
                go_wp2
                go_roundw
                case rel => exact ⟨j + 1, by omega, by go_num, cells3.below H3.out hsz hBk, chain hB hBk, Nat.lt_of_lt_of_le hsz hBk.size⟩
                case measure => simp [intOf]; omega
              · have hlb : decide ((65536 : Int) < (X.size : Int)) = false := by simp only [decide_eq_false_iff_not]; omega
                obtain ⟨r1, r2, r3⟩ := HJ'.out (by rw [← zX]; omega)
                have cS := scan_any X wk (by unfold maxLen; omega) (hT.below (chain hB12 (chain hB hBk)))
                rw [hX, tl_bs] at cS
                simp only [r1, r2] at cS
                rw [← hX] at cS
                generalize (scanF (joinT G ts)).1 = us at *
                have hul : us.length = k := by
                  have := congrArg List.length r3
                  rw [List.length_map, List.length_map, ← Hn.out] at this
                  exact this
                have HR : Hid (us.map ktT = ts.map ktT) := r3
                clear hlong hbnd hX zX HX r1 r2 r3
                go_wp2_with fail
                refine cS.mono ?_
                rintro e wS ⟨vm, rfl, hOm, hBS⟩
                clear cS
                rcases OwnsT.form hOm with ⟨_, h⟩ | ⟨gm, capm, rfl, _, hgm, hcm⟩
                · exfalso
                  rw [h] at hul
                  simp at hul
                  omega
                have HCm : Hid (CellsT wS gm 0 us) := hcm
                have Hul : Hid (us.length = k) := hul
                have hBw : Below w2.heap.size w2 wS := chain (chain hB hBk) hBS
                rw [hul]
                clear hOm hcm hul
                go_wp2
                go_loopw [71] (fun i wq => ∃ (q : Nat), q ≤ k ∧ i = .int .i64 q ∧ Below wS.heap.size wS wq) (fun i _ => k - (intOf i).toNat)
                case atStart => exact ⟨0, by omega, rfl, Below.refl _ _⟩
                case round =>
                  obtain ⟨q, hq, rfl, hBq⟩ := hrel
                  by_cases hql : q < k
                  · obtain ⟨u, hu⟩ := get_some (l := us) (k := q) (by rw [Hul.out]; exact hql)
                    obtain ⟨t, ht⟩ := get_some (l := ts) (k := q) (by rw [← Hn.out]; exact hql)
                    have hkt : ktT u = ktT t := by
                      have := congrArg (fun l => l[q]?) HR.out
                      simpa [hu, ht] using this
                    have hkk : u.kind = t.kind := congrArg Prod.fst hkt
                    have hkx : u.text = t.text := congrArg Prod.snd hkt
                    obtain ⟨a0, a1, _⟩ := (CellsT.below HC.out (chain hBw hBq) hg) q t ht
                    obtain ⟨b0, b1, _⟩ := (CellsT.below HCm.out hBq hgm) q u hu
                    simp only [Nat.zero_add] at a0 a1 b0 b1
                    rw [hkk] at b0
                    rw [hkx] at b1
                    clear hu ht hkt hkk hkx
                    generalize bs t.text = T at *
                    generalize ((t.kind : Nat) : Int) = K at *
                    go_wp2
                    go_quiet (fail)
                    go_wp2
                    go_roundw
                    case rel => exact ⟨q + 1, by omega, by go_num, below_drewN hBq _⟩
                    case measure => simp [intOf]; omega
                  · go_wp2
                    go_roundw
                    case rel => exact ⟨j + 1, by omega, by go_num, cells3.below H3.out hsz (chain hBk (chain hBS hBq)), chain hBw hBq, by have h1 := hBk.size; have h2 := hBS.size; have h3 := hBq.size; omega⟩
                    case measure => simp [intOf]; omega
        · go_wp2
          go_ret
          exact ⟨rfl, chain hB12 hB⟩
    · have hbad : ¬ (((scanF (tl s)).2.2 : Int) = 0) := by omega
      generalize (scanF (tl s)).2.2 = E at *
      generalize (scanF (tl s)).2.1 = P at *
      clear hok hs hbig
      go_enter Tryd.func5, Tryd.ntmps5
      go_wp2_with fail
      refine c0.mono ?_
      rintro e w1 ⟨rfl, hB1⟩
      go_wp2_with fail
      refine (c1 w1 (hT.below hB1)).mono ?_
      rintro e w2 ⟨v, rfl, hO, hB2⟩
      clear c0 c1
      go_wp2_with fail
      go_ret
      exact ⟨rfl, chain hB1 hB2⟩
end Go.Proofs.YtagofkcjpmgmjaaDoor
