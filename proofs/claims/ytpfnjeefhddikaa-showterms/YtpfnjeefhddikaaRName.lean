/- Names by the document's answer for layer 8. -/
import Derived.Test.YtpfnjeefhddikaaRScan
import Derived.Test.YtpfnjeefhddikaaSRule
namespace Go.Proofs.Ytpfnjeefhddikaa
open Go.RowKit
set_option linter.unusedVariables false
set_option linter.unusedSimpArgs false

theorem bs_beq2 (a b : Bs) : ((bs a).toList == (bs b).toList) = decide (a = b) := by
  rw [Lib.toList_data, Lib.toList_data, tl_def, tl_def, tl_bs, tl_bs]
  rw [Bool.eq_iff_iff]; simp
set_option maxRecDepth 100000 in
set_option maxHeartbeats 1000000 in
theorem rNamed_any (s : Bs) (w : World) (hs : s.length ≤ 65536) : Calls Try.prog 27 #[.string (bs s)] w fun e w' => e = .returned (.bool (nameB s)) ∧ Below w.heap.size w w' := by
  have c := rscan_any (bs s) w (by rw [bs_size]; unfold maxLen; omega)
  rw [tl_bs] at c
  obtain ⟨r, hr⟩ : ∃ r, nameB s = r := ⟨_, rfl⟩
  rw [hr]
  have Hr : Hid (nameB s = r) := hr
  clear hr
  have HF : Hid (∀ t0 t1, (scanF s).1 = [t0, t1] → (scanF s).2.2 = 0 → (decide (t0.kind = 1) && decide (t0.text = s)) = r) := fun t0 t1 h1 h2 => by
    rw [← Hr.out]
    have hq : scanF s = ([t0, t1], (scanF s).2.1, 0) := by rw [← h1, ← h2]
    by_cases hk : t0.kind = 1
    · by_cases ht : t0.text = s
      · rw [decide_eq_true hk, decide_eq_true ht, named_back hq hk ht]; rfl
      · rw [decide_eq_false ht, Bool.and_false]
        cases hn : nameB s with
        | false => rfl
        | true =>
          rw [scan_name hn hs] at h1
          injection h1 with h1 _
          exact absurd (by rw [← h1]) ht
    · rw [decide_eq_false hk, Bool.false_and]
      cases hn : nameB s with
      | false => rfl
      | true =>
        rw [scan_name hn hs] at h1
        injection h1 with h1 _
        exact absurd (by rw [← h1]) hk
  have HN : Hid (((scanF s).2.2 ≠ 0 ∨ (scanF s).1.length ≠ 2) → false = r) := fun h => by
    rw [← Hr.out]
    cases hn : nameB s with
    | false => rfl
    | true =>
      rw [scan_name hn hs] at h
      simp at h
  generalize scanF s = Z at *
  obtain ⟨ts, P, E⟩ := Z
  simp only at c HF HN
  clear Hr hs
  by_cases hE : E = 0
  · subst hE
    by_cases hlen : ts.length = 2
    · obtain ⟨t0, t1, rfl⟩ : ∃ t0 t1, ts = [t0, t1] := by
        match ts, hlen with
        | [a, b], _ => exact ⟨a, b, rfl⟩
      have HX : Hid ((decide (t0.kind = 1) && decide (t0.text = s)) = r) := HF.out t0 t1 rfl rfl
      clear HF HN hlen
      go_enter Try.func27, Try.ntmps27
      go_wp2_with fail
      refine c.mono ?_
      rintro e w1 ⟨v, rfl, hO, hb⟩
      rcases OwnsT.form hO with ⟨_, h⟩ | ⟨g, cap, rfl, hg0, hg, hc⟩
      · cases h
      obtain ⟨a0, a1, a2⟩ := hc 0 t0 rfl
      simp only [Nat.zero_mul, Nat.add_zero] at a0 a1 a2
      have q1 : decide (t0.kind = 1) = (((t0.kind : Nat) : Int) == 1) := by rw [Bool.eq_iff_iff]; simp; omega
      have q2 := bs_beq2 t0.text s
      rw [q1] at HX
      clear hc hO q1 c
      generalize ((t0.kind : Nat) : Int) = K at *
      generalize bs t0.text = T at *
      generalize bs s = S at *
      generalize decide (t0.text = s) = z at *
      cases hK : (K == 1)
      all_goals
        rw [hK] at HX
        go_wp2_with fail
        go_ret
        exact ⟨ret_bool (by have := HX.out; first | (simpa using this) | (simp at this; rw [← this]; exact q2) | (simp_all)), hb⟩
    · have hl1 : ((ts.length : Int) == 2) = false := by simp; omega
      have HX := HN.out (.inr hlen)
      have HX2 : Hid (false = r) := HX
      clear HN HF HX
      go_enter Try.func27, Try.ntmps27
      go_wp2_with fail
      refine c.mono ?_
      rintro e w1 ⟨v, rfl, hO, hb⟩
      obtain ⟨aa, cp, rfl⟩ : ∃ aa cp, v = .slice aa ts.length cp := by
        rcases OwnsT.form hO with ⟨h1, h2⟩ | ⟨g, cap, h1, _⟩
        · exact ⟨none, 0, by rw [h1, h2]; rfl⟩
        · exact ⟨_, _, h1⟩
      clear hO c
      generalize ts.length = n at *
      clear hlen
      go_wp2_with fail
      go_ret
      exact ⟨ret_bool HX2.out, hb⟩
  · have hE2 : ((E : Int) == 0) = false := by simp; omega
    have HX := HN.out (.inl hE)
    have HX2 : Hid (false = r) := HX
    clear HN HF HX hE
    go_enter Try.func27, Try.ntmps27
    go_wp2_with fail
    refine c.mono ?_
    rintro e w1 ⟨v, rfl, hO, hb⟩
    clear c hO
    generalize (E : Int) = E' at *
    go_wp2_with fail
    go_ret
    exact ⟨ret_bool HX2.out, hb⟩
set_option maxRecDepth 100000 in
set_option maxHeartbeats 1000000 in
theorem rNames_any (n : Nat) (w : World) (ns : List Bs) (v : Value) (h : NmS n w ns v) (hn : n ≤ w.heap.size) (hb : ns.length ≤ 1000000) (hc : ∀ x ∈ ns, x.length ≤ 65536) : Calls Try.prog 23 #[v] w fun e w' => e = .returned (.bool (ns.all nameB)) ∧ Below w.heap.size w w' := by
  obtain ⟨a, cap, rfl⟩ : ∃ a cap, v = .slice a ns.length cap := let ⟨a, cap, e, _⟩ := h; ⟨a, cap, e⟩
  obtain ⟨L, hL⟩ : ∃ L, L = ns.length := ⟨_, rfl⟩
  have HL : Hid (L = ns.length) := hL
  rw [← hL] at h hb ⊢
  clear hL
  have HN : Hid (NmS n w ns (.slice a L cap)) := h
  clear h
  obtain ⟨r, hr⟩ : ∃ r, ns.all nameB = r := ⟨_, rfl⟩
  rw [hr]
  have H0 : Hid ((ns.drop 0).all nameB = r) := hr
  clear hr
  go_enter Try.func23, Try.ntmps23
  go_wp2
  go_loopw [3] (fun i wr => ∃ k : Nat, k ≤ L ∧ i = .int .i64 k ∧ Hid ((ns.drop k).all nameB = r) ∧ Below w.heap.size w wr) (fun i _ => L - (intOf i).toNat)
  case atStart => exact ⟨0, Nat.zero_le _, rfl, H0, Below.refl _ _⟩
  case round =>
    obtain ⟨k, hk, rfl, HK, hB⟩ := hrel
    clear H0
    by_cases hlt : k < L
    · obtain ⟨x, hx⟩ := someS (l := ns) (k := k) (by rw [← HL.out]; exact hlt)
      obtain ⟨g, off, rfl, hg, c0⟩ := HN.out.at hx
      have c0' := (hB.cell (p := ⟨g, off + k, none⟩) (by show g < _; omega)).trans c0
      have cN := fun w => rNamed_any x w (hc x (List.mem_of_getElem? hx))
      have HS : Hid (((nameB x) && (ns.drop (k + 1)).all nameB) = r) := by rw [← HK.out]; exact (all_drop _ hx).symm
      clear HK c0 hx
      generalize bs x = X at *
      generalize nameB x = q at *
      cases q
      · go_wp2_with fail
        refine (cN _).mono ?_
        rintro e w2 ⟨rfl, hb2⟩
        go_wp2_with fail
        go_ret
        exact ⟨ret_bool (by have := HS.out; simpa using this), chain hB hb2⟩
      · go_wp2_with fail
        refine (cN _).mono ?_
        rintro e w2 ⟨rfl, hb2⟩
        go_wp2_with fail
        go_roundw
        case rel => exact ⟨k + 1, by omega, by go_num, (by have := HS.out; simpa using this : (ns.drop (k + 1)).all nameB = r), chain hB hb2⟩
        case measure => simp [intOf]; omega
    · have hR : Hid (true = r) := by
        have h := HK.out
        rw [List.drop_of_length_le (by rw [← HL.out]; omega)] at h
        exact h
      clear HK
      go_wp2
      go_ret
      exact ⟨ret_bool hR.out, hB⟩
end Go.Proofs.Ytpfnjeefhddikaa
