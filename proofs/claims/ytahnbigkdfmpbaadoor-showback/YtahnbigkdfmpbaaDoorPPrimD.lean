/- What stands behind a bracket that is next; binders that are seen beforehand. -/
import Derived.Test.YtahnbigkdfmpbaaDoorPPrimC
namespace Go.Proofs.YtahnbigkdfmpbaaDoor
open Go.RowKit
set_option linter.unusedVariables false
set_option linter.unusedSimpArgs false

theorem Tryd.sizeTok (w : World) : (sizeOf (Tryd.prog.elem 59)).run Tryd.prog w = .ok 3 w := by
  obtain ⟨i0, hi, hz0, hz1, hz2⟩ := info_parts Tryd.infoT
  have he : Tryd.prog.elem 59 = 68 := by kernel_rfl
  rw [he]
  simp [sizeOf, typeInfo, hi, hz1]
theorem slice_toks (g n N cap : Nat) (h1 : n ≤ N) (h2 : N < cap) (w : World) :
    (Instr.slice 59 (.slice (some ⟨g, 0, none⟩) (N + 1) cap) (some (.int .i64 (n : Int))) none none).run Tryd.prog w = .ok (.slice (some ⟨g, n * 3, none⟩) (N + 1 - n) (cap - n)) w := by
  rw [run_slice_l w 59 _ _ _ (by kernel_rfl) .i64 n (by omega) (by omega), Tryd.sizeTok]
  have : ¬ cap = n := by omega
  simp only [Result.andThen, sliced, this, if_false, Option.map_some, Int.toNat_natCast, Addr.add_lit, Nat.zero_add]
theorem stepO_bd (o : Int) (t : Tok) : o - 1 ≤ stepO o t ∧ stepO o t ≤ o + 1 := by unfold stepO; split <;> (try split) <;> omega
theorem tok_drop (R : Ts) (e k : Nat) (h : k ≤ R.length) : (R ++ [⟨0, [], e⟩])[k]? = some (hd e (R.drop k)) := by
  rcases Nat.lt_or_ge k R.length with h1 | h1
  · rw [List.getElem?_append_left h1, List.drop_eq_getElem_cons h1, List.getElem?_eq_getElem h1]; rfl
  · obtain rfl : k = R.length := by omega
    simp [hd]
theorem bs_beq1 (a b : Bs) : ((bs a).toList == b) = decide (a = b) := by
  rw [Lib.toList_data, tl_def, tl_bs, Bool.eq_iff_iff]; simp
def stepT (o : Int) (T : Bs) : Int := if T = [40] then o + 1 else if T = [41] then o - 1 else o
theorem sees_eq {s : Bs} {R : Ts} : (sees s R = true) = (txt R = s) := by rw [sees_txt]; simp
theorem behind_drop {R : Ts} {k : Nat} (h : k < R.length) (z : Int) : behindL z (R.drop k) = if stepT z (txt (R.drop k)) = 0 then txt (R.drop (k + 1)) else behindL (stepT z (txt (R.drop k))) (R.drop (k + 1)) := by
  rw [List.drop_eq_getElem_cons h]; rfl
theorem behind_zero {R : Ts} {k L : Nat} {z y : Int} {X : Bs} (h1 : 1 ≤ R.length) (hL : L = R.length) (h0 : k = 0 ∨ z ≠ 0) (hk : k ≤ L) (hx : behindL z (R.drop k) = X) (hs : stepT z (txt (R.drop k)) = y) (hy : y = 0) : X = txt (R.drop (k + 1)) ∧ k + 1 ≤ L := by
  rcases Nat.lt_or_ge k L with h | h
  · rw [behind_drop (by omega), hs, if_pos hy] at hx
    exact ⟨hx.symm, h⟩
  · exfalso
    rw [List.drop_of_length_le (by omega)] at hs
    have : stepT z (txt []) = z := rfl
    rw [this] at hs
    rcases h0 with h0 | h0
    · omega
    · exact h0 (hs.trans hy)
theorem behind_more {R : Ts} {k L : Nat} {z y : Int} {X : Bs} (hL : L = R.length) (hk : k ≤ L) (hx : behindL z (R.drop k) = X) (hs : stepT z (txt (R.drop k)) = y) (hy : ¬ y = 0) : y ≠ 0 ∧ (k + 1 ≤ L → behindL y (R.drop (k + 1)) = X) ∧ (k = L → X = []) := by
  refine ⟨hy, fun h => ?_, fun h => ?_⟩
  · rw [behind_drop (by omega), hs, if_neg hy] at hx
    exact hx
  · rw [List.drop_of_length_le (by omega)] at hx
    exact hx.symm
set_option maxRecDepth 100000 in
set_option maxHeartbeats 4000000 in
theorem behind_any (r : Rdr) (w : World) (R : Ts) (hR : r.In w R) (hwf : r.wf) (hop : sees [40] R = true) :
    Calls Tryd.prog 69 #[r.ptr] w fun e w' => e = .returned (.string (bs (behindL 0 R))) ∧ Below w.heap.size w w' := by
  obtain ⟨P, hP, c1⟩ := hR.pre
  have c0 := hR.c0
  have hcap := hwf.2.2.2
  have hA := hwf.1
  have hlen : r.A.length = P.length + R.length := by rw [hP]; simp
  have hgl : r.g < w.heap.size := by have := hR.lt; omega
  have hbl : r.b < w.heap.size := hR.lt.2
  have hT : ∀ k, k ≤ R.length → ∀ wr, Below w.heap.size w wr → wr.cell? ⟨r.g, (P.length + k) * 3, none⟩ = some (.int .i64 ((hd r.e (R.drop k)).kind : Nat)) ∧ wr.cell? ⟨r.g, (P.length + k) * 3 + 1, none⟩ = some (.string (bs (txt (R.drop k)))) ∧ wr.cell? ⟨r.g, (P.length + k) * 3 + 2, none⟩ = some (.int .i64 ((hd r.e (R.drop k)).at_ : Nat)) := by
    intro k hk wr hb
    have hj : r.all[P.length + k]? = some (hd r.e (R.drop k)) := by
      rw [Rdr.all, hP, List.append_assoc, List.getElem?_append_right (by omega), Nat.add_sub_cancel_left]
      exact tok_drop R r.e k hk
    obtain ⟨a, b, c⟩ := hR.toks.below hb hgl _ _ hj
    simp only [Nat.zero_add, hd_txt] at a b c
    exact ⟨a, b, c⟩
  have HT : Hid (_) := hT
  have HO : Hid (sees [40] R = true) := hop
  obtain ⟨X, hX⟩ : ∃ X, behindL 0 R = X := ⟨_, rfl⟩
  rw [hX]
  have HX : Hid (behindL 0 R = X) := hX
  clear hX hT hop hR hP
  obtain ⟨n, hn⟩ : ∃ n, n = P.length := ⟨_, rfl⟩
  rw [← hn] at c1 HT hlen
  obtain ⟨L, hL⟩ : ∃ L, L = R.length := ⟨_, rfl⟩
  have HL : Hid (L = R.length) := hL
  rw [← hL] at hlen
  rw [hlen] at c0 hcap hA
  have sl := slice_toks r.g n (n + L) r.cap (by omega) hcap
  have e2 : n + L + 1 - n = L + 1 := by omega
  rw [e2] at sl
  clear hn hL e2 hwf
  go_enter Tryd.func69, Tryd.ntmps69
  go_wp2_with fail
  go_quiet (fail)
  obtain ⟨w1, hw1⟩ : ∃ w1, w1 = w.drewN nq := ⟨_, rfl⟩
  have hB1 : Below w.heap.size w w1 := by rw [hw1]; exact drewN_below _ _
  rw [← hw1]
  clear hw1
  go_wp2_with fail
  have HR1 : Hid (1 ≤ R.length) := by
    obtain ⟨t, R', rfl, _⟩ := sees_cons (by simp) HO.out
    show 1 ≤ _; simp
  go_loopg [3, 16] (L + 1) (fun m o i wr => ∃ (k : Nat) (z : Int), m = L + 1 - k ∧ k ≤ L + 1 ∧ i = .int .i64 k ∧ o = .int .i64 z ∧ -(k : Int) ≤ z ∧ z ≤ (k : Int) ∧ Below w.heap.size w wr ∧ Hid ((k = 0 ∨ z ≠ 0) ∧ (k ≤ L → behindL z (R.drop k) = X) ∧ (k = L + 1 → X = [])))
  case atStart => exact ⟨0, 0, rfl, by omega, rfl, rfl, by omega, by omega, hB1, ⟨.inl rfl, fun _ => HX.out, fun h => by omega⟩⟩
  case round =>
    obtain ⟨k, z, hm, hk, rfl, rfl, hz1, hz2, hB, HK⟩ := hrel
    clear hB1 HX
    by_cases hkl : k ≤ L
    · obtain ⟨t0, t1, t2⟩ := HT.out k (by rw [← HL.out]; exact hkl) wr hB
      have c0' := (hB.cell (p := ⟨r.b, 0, none⟩) hbl).trans c0
      have c1' := (hB.cell (p := ⟨r.b, 1, none⟩) hbl).trans c1
      have A : Aside (gk = L + 1 - k) := hm
      have hkI : (k : Int) < (L : Int) + 1 := by omega
      have t0' : wr.cell? ⟨r.g, n * 3 + k * 3, none⟩ = some (.int .i64 ((hd r.e (R.drop k)).kind : Nat)) := by rw [← Nat.add_mul]; exact t0
      have t1' : wr.cell? ⟨r.g, n * 3 + k * 3 + 1, none⟩ = some (.string (bs (txt (R.drop k)))) := by rw [← Nat.add_mul]; exact t1
      have t2' : wr.cell? ⟨r.g, n * 3 + k * 3 + 2, none⟩ = some (.int .i64 ((hd r.e (R.drop k)).at_ : Nat)) := by rw [← Nat.add_mul]; exact t2
      clear t0 t1 t2 c0 c1 hm
      by_cases h40 : txt (R.drop k) = [40]
      · have q40 := bs_beq1 (txt (R.drop k)) [40]
        rw [decide_eq_true h40] at q40
        have hst : stepT z (txt (R.drop k)) = z + 1 := by rw [stepT, if_pos h40]
        have Hst : Hid (_ = _) := hst
        clear h40 hst
        generalize (hd r.e (R.drop k)).kind = V0 at *
        generalize bs (txt (R.drop k)) = V1 at *
        generalize (hd r.e (R.drop k)).at_ = V2 at *
        by_cases hz : z + 1 = 0
        · have HV : Hid (X = txt (R.drop (k + 1)) ∧ k + 1 ≤ L) := by
            have hx := HK.out.2.1 hkl
            exact behind_zero HR1.out HL.out HK.out.1 hkl hx (Hst.out) hz
          have hz' : (z + 1 == 0) = true := by simp only [beq_iff_eq]; exact hz
          obtain ⟨s0, s1, s2⟩ := HT.out (k + 1) (by rw [← HL.out]; exact HV.out.2) _ (chain hB (below_alloc wr (.cells #[.int .i64 (V0 : Nat), .string V1, .int .i64 (V2 : Nat)] 68)))
          have s1' : (wr.alloc (.cells #[.int .i64 (V0 : Nat), .string V1, .int .i64 (V2 : Nat)] 68)).cell? ⟨r.g, (n + k + 1) * 3 + 1, none⟩ = some (.string (bs X)) := by rw [HV.out.1]; exact s1
          have g1 : IntKind.i64.wrap ((n : Int) + (k : Int)) = (n : Int) + (k : Int) := wrap_in (by omega) (by omega)
          have g2 : IntKind.i64.wrap ((n : Int) + (k : Int) + 1) = (((n + k + 1 : Nat)) : Int) := by rw [wrap_in (by omega) (by omega)]; omega
          have g3 : ((n + k + 1 : Nat) : Int) < (n : Int) + (L : Int) + 1 := by have := HV.out.2; omega
          have c0'' := (alloc_cell (o := .cells #[.int .i64 (V0 : Nat), .string V1, .int .i64 (V2 : Nat)] 68) (p := ⟨r.b, 0, none⟩) (Nat.lt_of_lt_of_le hbl hB.size)).trans c0'
          have c1'' := (alloc_cell (o := .cells #[.int .i64 (V0 : Nat), .string V1, .int .i64 (V2 : Nat)] 68) (p := ⟨r.b, 1, none⟩) (Nat.lt_of_lt_of_le hbl hB.size)).trans c1'
          have hBn := chain hB (below_alloc wr (.cells #[.int .i64 (V0 : Nat), .string V1, .int .i64 (V2 : Nat)] 68))
          clear s0 s1 s2 hz HK
          go_wp2_with fail
          generalize wr.alloc (.cells #[.int .i64 (V0 : Nat), .string V1, .int .i64 (V2 : Nat)] 68) = w5 at *
          clear t0' t1' t2' c0' c1'
          generalize n + k + 1 = q at *
          go_quiet (fail)
          go_wp2
          go_ret
          exact ⟨rfl, chain hBn (drewN_below _ _)⟩
        · have HV : Hid ((z + 1 ≠ 0) ∧ (k + 1 ≤ L → behindL (z + 1) (R.drop (k + 1)) = X) ∧ (k = L → X = [])) := by
            have hx := HK.out.2.1 hkl
            exact behind_more HL.out hkl hx (Hst.out) hz
          have hz' : (z + 1 == 0) = false := by simp only [beq_eq_false_iff_ne]; exact hz
          clear hz HK
          go_wp2_with fail
          go_roundg (L + 1 - (k + 1))
          case measure => have := A.out; omega
          case rel => exact ⟨k + 1, z + 1, rfl, by omega, by go_num, rfl, by omega, by omega, chain hB (below_alloc _ _), ⟨.inr HV.out.1, fun h => HV.out.2.1 h, fun h => HV.out.2.2 (by omega)⟩⟩
      · have q40 := bs_beq1 (txt (R.drop k)) [40]
        rw [decide_eq_false h40] at q40
        by_cases h41 : txt (R.drop k) = [41]
        · have q41 := bs_beq1 (txt (R.drop k)) [41]
          rw [decide_eq_true h41] at q41
          have hst : stepT z (txt (R.drop k)) = z - 1 := by rw [stepT, if_neg h40, if_pos h41]
          have Hst : Hid (_ = _) := hst
          clear h40 h41 hst
          generalize (hd r.e (R.drop k)).kind = V0 at *
          generalize bs (txt (R.drop k)) = V1 at *
          generalize (hd r.e (R.drop k)).at_ = V2 at *
          by_cases hz : z - 1 = 0
          · have HV : Hid (X = txt (R.drop (k + 1)) ∧ k + 1 ≤ L) := by
              have hx := HK.out.2.1 hkl
              exact behind_zero HR1.out HL.out HK.out.1 hkl hx (Hst.out) hz
            have hz' : (z - 1 == 0) = true := by simp only [beq_iff_eq]; exact hz
            obtain ⟨s0, s1, s2⟩ := HT.out (k + 1) (by rw [← HL.out]; exact HV.out.2) _ (chain hB (below_alloc wr (.cells #[.int .i64 (V0 : Nat), .string V1, .int .i64 (V2 : Nat)] 68)))
            have s1' : (wr.alloc (.cells #[.int .i64 (V0 : Nat), .string V1, .int .i64 (V2 : Nat)] 68)).cell? ⟨r.g, (n + k + 1) * 3 + 1, none⟩ = some (.string (bs X)) := by rw [HV.out.1]; exact s1
            have g1 : IntKind.i64.wrap ((n : Int) + (k : Int)) = (n : Int) + (k : Int) := wrap_in (by omega) (by omega)
            have g2 : IntKind.i64.wrap ((n : Int) + (k : Int) + 1) = (((n + k + 1 : Nat)) : Int) := by rw [wrap_in (by omega) (by omega)]; omega
            have g3 : ((n + k + 1 : Nat) : Int) < (n : Int) + (L : Int) + 1 := by have := HV.out.2; omega
            have c0'' := (alloc_cell (o := .cells #[.int .i64 (V0 : Nat), .string V1, .int .i64 (V2 : Nat)] 68) (p := ⟨r.b, 0, none⟩) (Nat.lt_of_lt_of_le hbl hB.size)).trans c0'
            have c1'' := (alloc_cell (o := .cells #[.int .i64 (V0 : Nat), .string V1, .int .i64 (V2 : Nat)] 68) (p := ⟨r.b, 1, none⟩) (Nat.lt_of_lt_of_le hbl hB.size)).trans c1'
            have hBn := chain hB (below_alloc wr (.cells #[.int .i64 (V0 : Nat), .string V1, .int .i64 (V2 : Nat)] 68))
            clear s0 s1 s2 hz HK
            go_wp2_with fail
            generalize wr.alloc (.cells #[.int .i64 (V0 : Nat), .string V1, .int .i64 (V2 : Nat)] 68) = w5 at *
            clear t0' t1' t2' c0' c1'
            generalize n + k + 1 = q at *
            go_quiet (fail)
            go_wp2
            go_ret
            exact ⟨rfl, chain hBn (drewN_below _ _)⟩
          · have HV : Hid ((z - 1 ≠ 0) ∧ (k + 1 ≤ L → behindL (z - 1) (R.drop (k + 1)) = X) ∧ (k = L → X = [])) := by
              have hx := HK.out.2.1 hkl
              exact behind_more HL.out hkl hx (Hst.out) hz
            have hz' : (z - 1 == 0) = false := by simp only [beq_eq_false_iff_ne]; exact hz
            clear hz HK
            go_wp2_with fail
            go_roundg (L + 1 - (k + 1))
            case measure => have := A.out; omega
            case rel => exact ⟨k + 1, z - 1, rfl, by omega, by go_num, rfl, by omega, by omega, chain hB (below_alloc _ _), ⟨.inr HV.out.1, fun h => HV.out.2.1 h, fun h => HV.out.2.2 (by omega)⟩⟩
        · have q41 := bs_beq1 (txt (R.drop k)) [41]
          rw [decide_eq_false h41] at q41
          have hst : stepT z (txt (R.drop k)) = z := by rw [stepT, if_neg h40, if_neg h41]
          have Hst : Hid (_ = _) := hst
          clear hst
          by_cases hz : z = 0
          · exfalso
            have h0 : k = 0 := by
              rcases HK.out.1 with h | h
              · exact h
              · exact absurd hz h
            apply h40
            rw [h0, List.drop_zero, ← sees_eq]
            exact HO.out
          · clear h40 h41
            generalize (hd r.e (R.drop k)).kind = V0 at *
            generalize bs (txt (R.drop k)) = V1 at *
            generalize (hd r.e (R.drop k)).at_ = V2 at *
            have HV : Hid ((z ≠ 0) ∧ (k + 1 ≤ L → behindL (z) (R.drop (k + 1)) = X) ∧ (k = L → X = [])) := by
              have hx := HK.out.2.1 hkl
              exact behind_more HL.out hkl hx (Hst.out) hz
            have hz' : (z == 0) = false := by simp only [beq_eq_false_iff_ne]; exact hz
            clear hz HK
            go_wp2_with fail
            go_roundg (L + 1 - (k + 1))
            case measure => have := A.out; omega
            case rel => exact ⟨k + 1, z, rfl, by omega, by go_num, rfl, by omega, by omega, chain hB (below_alloc _ _), ⟨.inr HV.out.1, fun h => HV.out.2.1 h, fun h => HV.out.2.2 (by omega)⟩⟩
    · have HE : Hid (X = []) := HK.out.2.2 (by omega)
      obtain rfl : k = L + 1 := by omega
      have eb : bs [] = ⟨#[]⟩ := rfl
      clear HK
      go_wp2_with fail
      go_ret
      exact ⟨by rw [HE.out]; rfl, hB⟩
/-- The tokens further on, in memory. -/
theorem Rdr.In.ahead {r : Rdr} {w : World} {R : Ts} (h : r.In w R) : ∃ n : Nat, n + R.length = r.A.length ∧ w.cell? ⟨r.b, 1, none⟩ = some (.int .i64 n) ∧ ∀ k, k ≤ R.length → w.cell? ⟨r.g, (n + k) * 3, none⟩ = some (.int .i64 ((hd r.e (R.drop k)).kind : Nat)) ∧ w.cell? ⟨r.g, (n + k) * 3 + 1, none⟩ = some (.string (bs (txt (R.drop k)))) := by
  obtain ⟨P, hP, c1⟩ := h.pre
  refine ⟨P.length, by rw [hP]; simp, c1, fun k hk => ?_⟩
  have hj : r.all[P.length + k]? = some (hd r.e (R.drop k)) := by
    rw [Rdr.all, hP, List.append_assoc, List.getElem?_append_right (by omega), Nat.add_sub_cancel_left]
    exact tok_drop R r.e k hk
  obtain ⟨a, b, c⟩ := h.toks _ _ hj
  simp only [Nat.zero_add, hd_txt] at a b c
  exact ⟨a, b⟩
set_option maxRecDepth 100000 in
set_option maxHeartbeats 4000000 in
theorem seesBinder_any (r : Rdr) (w : World) (R : Ts) (hR : r.In w R) (hwf : r.wf) :
    Calls Tryd.prog 49 #[r.ptr] w fun e w' => e = .returned (.bool (binderQ R)) ∧ Below w.heap.size w w' := by
  have cS := fun m => sees_q [40] r (w.drewN m) R (hR.below (drewN_below w m)) hwf
  obtain ⟨X, hX⟩ : ∃ X, binderQ R = X := ⟨_, rfl⟩
  rw [hX]
  unfold binderQ at hX
  have c0 := hR.c0
  obtain ⟨n, hn, c1, hC⟩ := hR.ahead
  have hA := hwf.1
  have g1 : IntKind.i64.wrap ((n : Int) + 1) = ((n + 1 : Nat) : Int) := by rw [wrap_in (by omega) (by omega)]; omega
  have g2 : IntKind.i64.wrap ((n : Int) + 2) = ((n + 2 : Nat) : Int) := by rw [wrap_in (by omega) (by omega)]; omega
  by_cases h0 : sees [40] R = true
  · have hB := fun w' (h : r.In w' R) => behind_any r w' R h hwf h0
    rw [h0] at cS hX
    obtain ⟨t, R1, rfl, _⟩ := sees_cons (by simp) h0
    obtain ⟨k0, k1⟩ := hC 1 (by simp)
    have e1 : ((n + 1 : Nat) : Int) < (r.A.length : Int) + 1 := by simp at hn; omega
    simp only [List.tail_cons, Bool.true_and] at hX
    simp only [List.drop_succ_cons, List.drop_zero] at k0 k1
    by_cases hN : isN R1 = true
    · obtain ⟨t1, R2, rfl, ht1⟩ := isN_cons hN
      obtain ⟨j0, j1⟩ := hC 2 (by simp)
      have e2 : ((n + 2 : Nat) : Int) < (r.A.length : Int) + 1 := by simp at hn; omega
      simp only [List.drop_succ_cons, List.drop_zero] at j0 j1
      rw [hN] at hX
      simp only [List.tail_cons, Bool.true_and] at hX
      have hK : (hd r.e (t1 :: R2)).kind = 1 := ht1
      rw [hK] at k0
      have q1 := bs_beq1 (txt R2) [58]
      rw [← sees_txt] at q1
      by_cases h3 : sees [58] R2 = true
      · rw [h3] at hX q1
        simp only [Bool.true_and] at hX
        have q2 := bs_beq1 (behindL 0 (t :: t1 :: R2)) [45, 62]
        have q3 := bs_beq1 (behindL 0 (t :: t1 :: R2)) [42]
        clear hC h0 hN ht1 hK h3 j0 k1
        generalize bs (txt R2) = V at *
        generalize n + 1 = n1 at *
        generalize n + 2 = n2 at *
        generalize r.A.length = N at *
        go_enter Tryd.func49, Tryd.ntmps49
        go_wp2_with fail
        go_quiet (first | (go_at_call 47; exact Calls.quiet_of (cS _)))
        clear cS
        go_wp2_with fail
        refine (hB _ (hR.below (drewN_below w _))).mono ?_
        rintro e w2 ⟨rfl, hb⟩
        clear hB
        have hX2 : X = (((bs (behindL 0 (t :: t1 :: R2))).toList == [45, 62]) || ((bs (behindL 0 (t :: t1 :: R2))).toList == [42])) := by rw [q2, q3]; exact hX.symm
        have HX : Hid (_ = _) := hX2
        clear hX q2 q3 hX2
        generalize bs (behindL 0 (t :: t1 :: R2)) = Y at *
        go_wp2_with fail
        all_goals
          go_ret
          refine ⟨ret_bool ?_, chain (drewN_below w _) hb⟩
          rw [HX.out]
          try simp [*]
      · have h3 : sees [58] R2 = false := by simpa using h3
        rw [h3] at hX q1
        simp only [Bool.false_and] at hX
        subst hX
        clear hC h0 hN ht1 hK h3 j0 k1 hB
        generalize bs (txt R2) = V at *
        generalize n + 1 = n1 at *
        generalize n + 2 = n2 at *
        generalize r.A.length = N at *
        go_enter Tryd.func49, Tryd.ntmps49
        go_wp2_with fail
        go_quiet (first | (go_at_call 47; exact Calls.quiet_of (cS _)))
        clear cS
        go_wp2_with fail
        go_ret
        exact ⟨rfl, drewN_below w _⟩
    · have hN : isN R1 = false := by simpa using hN
      rw [hN] at hX
      simp only [Bool.false_and] at hX
      subst hX
      have hk := hd_kind r.e R1
      rw [hN] at hk
      clear hC h0 hN hB k1
      generalize (hd r.e R1).kind = K at *
      have q1 : ((K : Int) == 1) = false := by
        simp only [decide_eq_false_iff_not] at hk
        simp only [beq_eq_false_iff_ne]; omega
      have q2 : ((K : Int) != 1) = true := by simp only [bne, q1]; rfl
      clear hk
      generalize n + 1 = n1 at *
      generalize n + 2 = n2 at *
      generalize r.A.length = N at *
      go_enter Tryd.func49, Tryd.ntmps49
      go_wp2_with fail
      go_quiet (first | (go_at_call 47; exact Calls.quiet_of (cS _)))
      clear cS
      go_wp2_with fail
      go_ret
      exact ⟨rfl, drewN_below w _⟩
  · have h0 : sees [40] R = false := by simpa using h0
    rw [h0] at cS hX
    simp only [Bool.false_and] at hX
    subst hX
    clear hC h0 g1 g2 hn
    go_enter Tryd.func49, Tryd.ntmps49
    go_wp2_with fail
    go_quiet (first | (go_at_call 47; exact Calls.quiet_of (cS _)))
    clear cS
    go_wp2_with fail
    go_ret
    exact ⟨rfl, drewN_below w _⟩
end Go.Proofs.YtahnbigkdfmpbaaDoor
