/- The dimensions of a term, by the document. -/
import Derived.Test.YthhnkpgagfjdbaaYRHas
import Derived.Test.YthhnkpgagfjdbaaFB
namespace Go.Proofs.Ythhnkpgagfjdbaa
open Go.RowKit
set_option linter.unusedVariables false
set_option linter.unusedSimpArgs false

def hsTo (t : Tm) (k : Nat) : List Nat := (List.range k).filter (fun j => hsT t j)
theorem hsTo_hit {t : Tm} {k : Nat} (h : hsT t k = true) : hsTo t (k + 1) = hsTo t k ++ [k] := by simp [hsTo, List.range_succ, h]
theorem hsTo_miss {t : Tm} {k : Nat} (h : hsT t k = false) : hsTo t (k + 1) = hsTo t k := by simp [hsTo, List.range_succ, h]
theorem hsTo_length (t : Tm) (k : Nat) : (hsTo t k).length ≤ k := by
  have := List.length_filter_le (fun j => hsT t j) (List.range k)
  simpa [hsTo] using this
theorem hsTo_sum (t : Tm) : sumAll (hsTo t 24) = dmT t 0 := by
  unfold hsTo
  rw [sumAll_eq (List.Nodup.sublist List.filter_sublist List.nodup_range)]
  apply Nat.eq_of_testBit_eq
  intro k
  rw [testBit_orAll, dm_bit _ t (Nat.le_refl _), Bool.eq_iff_iff]
  simp only [List.mem_filter, List.mem_range, decide_eq_true_eq, Nat.add_zero]
  constructor
  · exact fun h => h.2
  · intro h
    refine ⟨?_, h⟩
    rcases Nat.lt_or_ge k 24 with h1 | h1
    · exact h1
    · rw [hs_hi _ t (Nat.le_refl _) _ h1] at h; cases h
theorem own_below {w w' : World} {base : Nat} {v : Value} {l : List Nat} (h : w.ownsRow base 3 1 v l.length (l.map encI)) (b : Below w.heap.size w w') : w'.ownsRow base 3 1 v l.length (l.map encI) := by
  unfold World.ownsRow at *
  obtain ⟨h1, h2 | ⟨g, cap, cur, e1, e2, e3, e4⟩⟩ := h
  · exact ⟨h1, .inl h2⟩
  · exact ⟨h1, .inr ⟨g, cap, cur, e1, e2, (b.block g (Array.getElem?_eq_some_iff.1 e3).1).trans e3, e4⟩⟩
set_option maxRecDepth 100000 in
set_option maxHeartbeats 4000000 in
theorem rDimT_any (t : Tm) (v : Value) (w0 : World) (hv0 : TmIn Tt w0 t v) (hb : blk t ≤ 40000) :
    Calls Try.prog 27 #[v] w0 fun e w' => e = .returned (.int .u32 ((dmT t 0 : Nat) : Int)) ∧ Below w0.heap.size w0 w' := by
  obtain ⟨i0, hi, hz0, hz1, hz2⟩ := info_parts Try.infoInt
  obtain ⟨ra, rc, ka, kc, sa, sc, rfl, ht⟩ := hv0.form
  obtain ⟨w, hW⟩ : ∃ W, W = w0.alloc (.cells #[.int .i64 t.kind, .int .i64 t.n, .string t.name, .slice ra t.r.length rc, .slice ka t.kids.length kc, .slice sa t.sys.length sc] 26) := ⟨_, rfl⟩
  have bW : Below w0.heap.size w0 w := by rw [hW]; exact belowA _ _
  have HC : Hid (Cs6 w w0.heap.size 0 t ra rc ka kc sa sc) := by rw [hW]; exact cs6_new w0 t ra rc ka kc sa sc
  have HT : Hid (TmTop Tt w t ra rc ka kc sa sc) := ht.blw bW
  have H1 : Hid (_ = _) := hW
  clear hW hv0 ht
  go_enter Try.func27, Try.ntmps27
  go_upto_region 1 with fail
  rw [← H1.out]
  clear H1
  go_wp2
  go_loopw [3, 4] (fun v i wr => ∃ k : Nat, k ≤ 24 ∧ i = .int .i64 k ∧ wr.ownsRow w.heap.size 3 1 v (hsTo t k).length ((hsTo t k).map encI) ∧ Below w.heap.size w wr) (fun _ i _ => 24 - (intOf i).toNat)
  case atStart => exact ⟨0, by omega, rfl, World.ownsRow_nil _ _ _ _, Below.refl _ _⟩
  case round =>
    obtain ⟨wo, hwo⟩ : ∃ wo, wo = wr := ⟨_, rfl⟩
    subst hwo
    obtain ⟨k, hk, rfl, hown, hB⟩ := hrel
    have hul := hsTo_length t k
    by_cases hlt : k < 24
    · have hlt' : (k : Int) < 24 := by omega
      obtain ⟨_, y0, y1, y2, y3, y4, y5⟩ := HC.out.blw hB
      simp only [Nat.zero_add] at y1 y2 y3 y4 y5
      have cc := rhas_any (blk t) t _ k wo (Nat.le_refl _) (by omega) (by omega) (HT.out.blw hB).value
      cases hbk : hsT t k with
      | false =>
        have HU : Hid (hsTo t (k + 1) = hsTo t k) := hsTo_miss hbk
        rw [hbk] at cc
        clear hbk
        go_wp2_with fail
        refine cc.mono ?_
        rintro e w3 ⟨rfl, b3⟩
        clear cc y0 y1 y2 y3 y4 y5
        have hown3 := own_below hown b3
        go_wp2_with fail
        go_roundw
        case rel => exact ⟨k + 1, by omega, by go_num, by rw [HU.out]; exact hown3, bchain hB b3⟩
        case measure => simp [intOf]; omega
      | true =>
        have HU : Hid (hsTo t (k + 1) = hsTo t k ++ [k]) := hsTo_hit hbk
        rw [hbk] at cc
        clear hbk
        go_wp2_with fail
        refine cc.mono ?_
        rintro e w3 ⟨rfl, b3⟩
        clear cc y0 y1 y2 y3 y4 y5
        have hown3 := own_below hown b3
        have hB3 := bchain hB b3
        clear hown hB b3
        obtain ⟨wr, hwr⟩ : ∃ wr, wr = w3 := ⟨_, rfl⟩
        replace hwr := hwr.symm
        subst hwr
        have hown := hown3
        have hB := hB3
        go_wp2_with (at_builtin; refine wpList_append_own _ rfl _ _ 70 rfl w.heap.size 3 i0 (.int .i64 0) 1 8 Try.underlying70 hi hz0 hz1 hz2 rfl (by decide) _ _ _ rfl (hown.alloc _) ⟨_, 0, none⟩ 1 1 [.int .i64 k] rfl rfl (cell_one_new _ _ _) (by simp [Value.oneCell']) (by unfold maxLen; omega) (by omega) (by have := hB.size; simp; omega) ?_; intro v' w1 hown' hgrow _)
        go_roundw
        case rel => exact ⟨k + 1, by omega, by go_num, by rw [HU.out]; simpa [encI] using hown', (hB.alloc hB.size _).grown hgrow (by have := hB.size; simp; omega) (fun k' e => (World.ownsRow.lt hown k' e).1)⟩
        case measure => simp [intOf]; omega
    · obtain rfl : k = 24 := by omega
      have hrow : RowAt wo _ (hsTo t 24) := OwnsL.rowAt hown
      have cS := refSet_any (hsTo t 24) _ wo hrow (fun j hj => by have := (List.mem_filter.1 hj).1; simpa using this) (by omega)
      rw [hsTo_sum] at cS
      have hlen := World.ownsRow.lt hown
      go_wp2_with fail
      refine cS.mono ?_
      rintro e w1 ⟨rfl, hw1⟩
      have hB1 : Below w.heap.size w w1 := by rw [hw1]; exact hB
      clear cS hw1
      go_wp2
      go_ret
      exact ⟨rfl, bchain bW hB1⟩
end Go.Proofs.Ythhnkpgagfjdbaa
