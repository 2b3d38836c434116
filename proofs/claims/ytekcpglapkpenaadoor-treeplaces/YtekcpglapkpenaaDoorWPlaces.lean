/- TreePlaces. -/
import Derived.Test.YtekcpglapkpenaaDoorQWorks
import Derived.Test.YtekcpglapkpenaaDoorQWithin
namespace Go.Proofs.YtekcpglapkpenaaDoor
open Go.RowKit
set_option linter.unusedVariables false
set_option linter.unusedSimpArgs false

set_option maxRecDepth 100000 in
set_option maxHeartbeats 2000000 in
theorem walk_TreePlaces (s : ByteArray) (w : World) (hs : s.size ≤ maxLen) (hT : Tabs w) :
    Calls Tryd.prog 4 #[.string s] w fun e w' => e = .returned (.bool true) ∧ Below w.heap.size w w' := by
  have c0 := works_any w hT
  have hs4 : s.size ≤ 4 * maxLen := by omega
  by_cases hbig : 3000 < s.size
  · have e1 : (3000 : Int) < (s.size : Int) := by omega
    clear hs hs4
    go_enter Tryd.func4, Tryd.ntmps4
    go_wp2_with fail
    refine c0.mono ?_
    rintro e w1 ⟨rfl, hB1⟩
    go_wp2_with fail
    go_ret
    exact ⟨rfl, hB1⟩
  · have e1 : ¬ ((3000 : Int) < (s.size : Int)) := by omega
    have c1 := fun w (h : Tabs w) => term_any 700000 (by omega) (by omega) s w hs4 h
    have c2 := fun w (h : Tabs w) => scan_any s w hs h
    obtain ⟨p1, p2⟩ := places_text (f := 700000) (s := tl s) (by omega)
    generalize termA 700000 (tl s) = Z at *
    obtain ⟨T, P, E⟩ := Z
    simp only at c1 p1 p2
    clear hs hs4
    by_cases hE : E = 0
    · obtain ⟨q1, q2, q3⟩ := p2 hE
      have hpl := (scanF_ok q1).2.2.2
      have hcount := tok_count q1
      rw [q1, hpl] at c2
      have hLk : ∀ p, lkS (tl s) p = ((scanF (tl s)).1.find? fun t => decide (t.at_ = p)).map (·.text) := fun _ => rfl
      have hcw := fun (g cap : Nat) (v : Value) (w' : World) hv hg hc => within_all (scanF (tl s)).1 g cap (by omega) (lkS (tl s)) hLk _ T 0 (From 0) v w' (Nat.le_refl _) q3 hv hg hc
      generalize (scanF (tl s)).1 = ts at *
      subst hE
      clear p1 p2 q1 hpl hLk q3
      have HW : Hid _ := hcw
      clear hcw
      go_enter Tryd.func4, Tryd.ntmps4
      go_wp2_with fail
      refine c0.mono ?_
      rintro e w1 ⟨rfl, hB1⟩
      go_wp2_with fail
      refine (c1 w1 (hT.below hB1)).mono ?_
      rintro e w2 ⟨v2, rfl, ht2, hb2⟩
      clear c0 c1
      obtain ⟨vk, vn, rfl, hf, ka, kc, rfl⟩ := ht2.form
      obtain ⟨na, nc, rfl⟩ := hf.form
      clear hf
      have hal := below_alloc w2 (.cells #[.int .i64 (T.kind : Nat), .string (bs T.name), .slice ka T.kids.length kc, .slice na T.names.length nc, .int .i64 (T.at_ : Nat)] 26)
      have k3 := blk_new w2 (.int .i64 (T.kind : Nat)) (.string (bs T.name)) (.slice ka T.kids.length kc) (.slice na T.names.length nc) (.int .i64 (T.at_ : Nat))
      replace ht2 := (ht2.from (Nat.zero_le _)).blw hal
      have hB3 := chain (chain hB1 hb2) hal
      obtain ⟨w3, hw3⟩ : ∃ w0, w0 = w2.alloc (.cells #[.int .i64 (T.kind : Nat), .string (bs T.name), .slice ka T.kids.length kc, .slice na T.names.length nc, .int .i64 (T.at_ : Nat)] 26) := ⟨_, rfl⟩
      rw [← hw3] at k3 ht2 hB3
      have Hw3 : Hid (_ = _) := hw3
      clear hw3 hal hB1 hb2
      go_wp2_with fail
      rw [← Hw3.out]
      clear Hw3
      refine (c2 w3 (hT.below hB3)).mono ?_
      rintro e w4 ⟨v4, rfl, hO, hb4⟩
      clear c2
      rcases OwnsT.form hO with ⟨_, h⟩ | ⟨g, cap, rfl, hg0, hg, hc⟩
      · rw [h] at q2; simp at q2
      clear hO
      have cW := HW.out g cap _ w4 (ht2.blw hb4) hg hc
      obtain ⟨a0, a1, a2, a3, a4, _⟩ := (k3.bl2 hb4).cells
      have hB4 := chain hB3 hb4
      have e2 : ¬ ((ts.length : Int) < 2) := by omega
      clear HW hc hb4 ht2 k3 hB3
      generalize ts.length = n at *
      go_wp2_with fail
      refine cW.mono ?_
      rintro e w5 ⟨rfl, hb5⟩
      go_wp2_with fail
      go_ret
      exact ⟨rfl, chain hB4 hb5⟩
    · have hP := p1 hE
      rw [tl_len] at hP
      have hE2 : ((E : Int) != 0) = true := by simp only [bne_iff_ne]; omega
      have hP2 : (P : Int) ≤ (s.size : Int) := by omega
      clear p1 p2 c2
      go_enter Tryd.func4, Tryd.ntmps4
      go_wp2_with fail
      refine c0.mono ?_
      rintro e w1 ⟨rfl, hB1⟩
      go_wp2_with fail
      refine (c1 w1 (hT.below hB1)).mono ?_
      rintro e w2 ⟨v2, rfl, ht2, hb2⟩
      clear c0 c1
      obtain ⟨vk, vn, rfl, hf, ka, kc, rfl⟩ := ht2.form
      obtain ⟨na, nc, rfl⟩ := hf.form
      clear hf
      go_wp2_with fail
      go_ret
      exact ⟨rfl, chain (chain hB1 hb2) (below_alloc _ _)⟩
end Go.Proofs.YtekcpglapkpenaaDoor
