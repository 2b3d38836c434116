/- TreeFiles. -/
import Derived.Test.YtekcpglapkpenaaDoorQCls
namespace Go.Proofs.YtekcpglapkpenaaDoor
open Go.RowKit
set_option linter.unusedVariables false
set_option linter.unusedSimpArgs false

theorem file_place {f g : Nat} {s : Bs} (hf : 655364 ≤ f) (hg : 65537 ≤ g) (h : (fileA f g s).2.2 ≠ 0) : (fileA f g s).2.1 ≤ s.length := by
  unfold fileA at h ⊢
  by_cases h0 : (scanF s).2.2 = 0
  · rw [if_pos h0] at h ⊢
    obtain ⟨h1, h2, h3, h4, h5, _⟩ := scan_form h0
    rcases file_inv (e := s.length) (f := f) g [] (rdA s) (by omega) (by omega) (good_scan h0) with ⟨p, x, e1, hb⟩ | ⟨l, e1⟩
    · rw [e1]
      show p ≤ _
      rcases hb.2 with rfl | ⟨t, ht, rfl⟩
      · exact Nat.le_refl _
      · exact Nat.le_of_lt (h3 t ht).2
    · rw [e1] at h
      exact absurd rfl h
  · rw [if_neg h0] at h ⊢
    exact (scanF_bad h0).2
/-- The first part of a row of trees. -/
theorem ls_take {ok : Nat → Prop} {w : World} {L l m : List Tr} {z0 z1 z3 z4 : Value} {a : Option Addr} {k cap : Nat} (cap' : Nat) (h : TrIn ok w (.mk 0 [] L [] 0) (.agg #[z0, z1, .slice a k cap, z3, z4])) (hL : L = l ++ m) : TrIn ok w (.mk 0 [] l [] 0) (.agg #[z0, z1, .slice a l.length cap', z3, z4]) := by
  rcases h.inv with ⟨_, _, _, _, a, cap, vn, hn, e1, e2⟩ | ⟨_, _, _, _, _, vn, g, off, cap, U, hb, hn, hok, hg, hc, hk, e1, e2⟩
  · cases e1; cases e2
    obtain ⟨rfl, _⟩ : l = [] ∧ m = [] := by simpa using hL.symm
    exact .leaf 0 [] [] 0 _ cap' _ hn
  · cases e1; cases e2
    subst hL
    rw [List.length_append] at hb
    exact .node 0 [] l [] 0 _ g off cap' U (by omega) hn hok hg (fun j hj i hi => hc j (by rw [List.length_append]; omega) i hi) (fun j kid hj => hk j kid (by
      have hlt : j < l.length := by
        rcases Nat.lt_or_ge j l.length with h1 | h1
        · exact h1
        · rw [List.getElem?_eq_none h1] at hj; cases hj
      rw [List.getElem?_append_left hlt]; exact hj))
/-- The rest of a row of trees. -/
theorem ls_drop {ok : Nat → Prop} {w : World} {L l m : List Tr} {z0 z1 z3 z4 : Value} {g off k cap : Nat} (cap' : Nat) (h : TrIn ok w (.mk 0 [] L [] 0) (.agg #[z0, z1, .slice (some ⟨g, off, none⟩) k cap, z3, z4])) (hL : L = l ++ m) : TrIn ok w (.mk 0 [] m [] 0) (.agg #[z0, z1, .slice (some ⟨g, off + l.length * 5, none⟩) m.length cap', z3, z4]) := by
  rcases h.inv with ⟨_, _, _, _, a, cap, vn, hn, e1, e2⟩ | ⟨_, _, _, _, _, vn, g, off, cap, U, hb, hn, hok, hg, hc, hk, e1, e2⟩
  · cases e1; cases e2
    obtain ⟨_, rfl⟩ : l = [] ∧ m = [] := by simpa using hL.symm
    exact .leaf 0 [] [] 0 _ cap' _ hn
  · cases e1; cases e2
    subst hL
    rw [List.length_append] at hb
    refine .node 0 [] m [] 0 _ g (off + l.length * 5) cap' (fun j i => U (l.length + j) i) (by omega) hn hok hg (fun j hj i hi => ?_) (fun j kid hj => hk (l.length + j) kid (by rw [List.getElem?_append_right (by omega), Nat.add_sub_cancel_left]; exact hj))
    have h := hc (l.length + j) (by rw [List.length_append]; omega) i hi
    rw [Nat.add_mul, ← Nat.add_assoc] at h
    exact h
theorem ls_some {ok : Nat → Prop} {w : World} {L : List Tr} {z0 z1 z3 z4 : Value} {a : Option Addr} {k cap : Nat} (h : TrIn ok w (.mk 0 [] L [] 0) (.agg #[z0, z1, .slice a k cap, z3, z4])) (hL : L ≠ []) : ∃ g off, a = some ⟨g, off, none⟩ := by
  rcases h.inv with ⟨_, _, _, _, a, cap, vn, hn, e1, e2⟩ | ⟨_, _, _, _, _, vn, g, off, cap, U, hb, hn, hok, hg, hc, hk, e1, e2⟩
  · cases e1; exact absurd rfl hL
  · cases e1; cases e2; exact ⟨g, off, rfl⟩
theorem ls_len {n : Nat} {w : World} {l : List Tr} {v : Value} (h : LsIn n w l v) : l.length ≤ 3000000 := h.1.short
theorem ers_len {l m : List Tr} (h : erTrs m = erTrs l) : m.length = l.length := by
  rw [erTrs_map, erTrs_map] at h
  simpa using congrArg List.length h
set_option maxRecDepth 100000 in
set_option maxHeartbeats 4000000 in
theorem walk_TreeFiles (s u : ByteArray) (w : World) (hs : s.size + u.size ≤ 1000000000000000) (hT : Tabs w) :
    Calls Tryd.prog 5 #[.string s, .string u] w fun e w' => e = .returned (.bool true) ∧ Below w.heap.size w w' := by
  have c0 := works_any w hT
  have c1 := fun w (h : Tabs w) => parse_any 700000 100000 (by omega) (by omega) (by omega) (by omega) s w (by unfold maxLen; omega) h
  have c2 := fun w (h : Tabs w) => parse_any 700000 100000 (by omega) (by omega) (by omega) (by omega) u w (by unfold maxLen; omega) h
  obtain ⟨S1, S2, ad1, ad2, hS2, hz2⟩ := sum3 s ⟨#[10]⟩ u (by show s.size + 1 + u.size ≤ _; omega)
  have hz3 : S2.size ≤ 4 * maxLen := by rw [hz2]; show s.size + 1 + u.size ≤ _; unfold maxLen; omega
  have hS2' : tl S2 = tl s ++ 10 :: tl u := hS2
  have c3 := fun (gg : Nat) (h1 : 65537 ≤ gg) (h2 : gg ≤ 1000000) w (h : Tabs w) => parse_any 700000 gg (by omega) (by omega) h1 h2 S2 w hz3 h
  rw [hS2'] at c3
  have hpu := file_place (f := 700000) (g := 100000) (s := tl u) (by omega) (by omega)
  have hok := fun h => scan_form (file_ok (f := 700000) (g := 100000) (s := tl s) (by omega) (by omega) h).1
  have hft := fun hl h => files_text (f := 700000) (g := 100000) (s := tl s) (u := tl u) (by omega) (by omega) hl h
  have hlu : (tl u).length = u.size := tl_len u
  have hls : (tl s).length = s.size := tl_len s
  rw [hls] at hok hft
  rw [hlu] at hpu hft
  generalize fileA 700000 100000 (tl s) = Z at *
  obtain ⟨La, Pa, Ea⟩ := Z
  generalize fileA 700000 100000 (tl u) = Z at *
  obtain ⟨Lb, Pb, Eb⟩ := Z
  simp only at c1 c2 hpu hok hft
  clear hz2 hS2 hS2' hz3 hlu hls
  by_cases hEa : Ea = 0
  · obtain ⟨hsz, _⟩ := hok hEa
    have hw1 : IntKind.i64.wrap ((s.size : Int) + (u.size : Int)) = (s.size : Int) + (u.size : Int) := wrap_in (by omega) (by omega)
    by_cases hbig : 65536 ≤ s.size + u.size
    · have hq : decide ((65536 : Int) ≤ (u.size : Int)) = true ∨ (decide ((65536 : Int) ≤ (u.size : Int)) = false ∧ decide ((65536 : Int) ≤ (s.size : Int) + (u.size : Int)) = true) := by
        by_cases h : 65536 ≤ u.size
        · exact .inl (decide_eq_true (by omega))
        · exact .inr ⟨decide_eq_false (by omega), decide_eq_true (by omega)⟩
      have c4 := c3 100000 (by omega) (by omega)
      generalize fileA 700000 100000 (tl s ++ 10 :: tl u) = Y at *
      subst hEa
      clear hft hok hpu hbig c3
      rcases hq with q1 | ⟨q1, q2⟩
      all_goals
        go_enter Tryd.func5, Tryd.ntmps5
        go_wp2_with fail
        refine c0.mono ?_
        rintro e w1 ⟨rfl, hB1⟩
        go_wp2_with fail
        refine (c1 w1 (hT.below hB1)).mono ?_
        rintro e w2 ⟨v2, rfl, hl2, hb2⟩
        clear c0 c1
        obtain ⟨a2, p2, rfl⟩ := hl2.form
        have hB2 := chain hB1 hb2
        go_wp2_with fail
        refine (c2 w2 (hT.below hB2)).mono ?_
        rintro e w3 ⟨v3, rfl, hl3, hb3⟩
        clear c2
        obtain ⟨a3, p3, rfl⟩ := hl3.form
        have hB3 := chain hB2 hb3
        go_wp2_with (first
          | (refine wpList_add_str rfl _ _ rfl s ⟨#[10]⟩ S1 rfl rfl ad1 ?_)
          | (refine wpList_add_str rfl _ _ rfl S1 u S2 rfl rfl ad2 ?_))
        refine (c4 w3 (hT.below hB3)).mono ?_
        rintro e w4 ⟨v4, rfl, hl4, hb4⟩
        clear c4
        obtain ⟨a4, p4, rfl⟩ := hl4.form
        go_wp2_with fail
        go_ret
        exact ⟨rfl, chain hB3 hb4⟩
    · have q1 : decide ((65536 : Int) ≤ (u.size : Int)) = false := decide_eq_false (by omega)
      have q2 : decide ((65536 : Int) ≤ (s.size : Int) + (u.size : Int)) = false := decide_eq_false (by omega)
      obtain ⟨k, hk, hbad, hgood⟩ := hft (by omega) hEa
      have c4 := c3 (k + 100000) (by omega) (by omega)
      subst hEa
      clear hft hok c3
      by_cases hEb : Eb = 0
      · obtain ⟨m, hm, hmm⟩ := hgood hEb
        rw [hm] at c4
        subst hEb
        clear hbad hgood hm hpu
        have sm1 : SmT true (.mk 0 [] La [] 0) (.mk 0 [] La [] 0) := ⟨fun _ => rfl, rfl⟩
        have sm2 : SmT false (.mk 0 [] m [] 0) (.mk 0 [] Lb [] 0) := ⟨by simp, by rw [erTr_mk, erTr_mk, hmm]⟩
        have hml := ers_len hmm
        clear hmm
        go_enter Tryd.func5, Tryd.ntmps5
        go_wp2_with fail
        refine c0.mono ?_
        rintro e w1 ⟨rfl, hB1⟩
        go_wp2_with fail
        refine (c1 w1 (hT.below hB1)).mono ?_
        rintro e w2 ⟨v2, rfl, hl2, hb2⟩
        clear c0 c1
        obtain ⟨a2, p2, rfl⟩ := hl2.form
        have hB2 := chain hB1 hb2
        go_wp2_with fail
        refine (c2 w2 (hT.below hB2)).mono ?_
        rintro e w3 ⟨v3, rfl, hl3, hb3⟩
        clear c2
        obtain ⟨a3, p3, rfl⟩ := hl3.form
        have hB3 := chain hB2 hb3
        go_wp2_with (first
          | (refine wpList_add_str rfl _ _ rfl s ⟨#[10]⟩ S1 rfl rfl ad1 ?_)
          | (refine wpList_add_str rfl _ _ rfl S1 u S2 rfl rfl ad2 ?_))
        refine (c4 w3 (hT.below hB3)).mono ?_
        rintro e w4 ⟨v4, rfl, hl4, hb4⟩
        clear c4
        obtain ⟨t4, a4, p4, rfl, hcap⟩ := hl4
        have hB4 := chain hB3 hb4
        have t2 := (hl2.1.blw hb3).blw hb4
        have t3 := hl3.1.blw hb4
        have n2 := ls_len hl2
        have n3 := ls_len hl3
        clear hl2 hl3 hb2 hb3 hb4 hB1 hB2 hB3 ad1 ad2
        have hw2 : IntKind.i64.wrap ((La.length : Int) + (Lb.length : Int)) = (La.length : Int) + (Lb.length : Int) := wrap_in (by omega) (by omega)
        rw [List.length_append, hml] at hcap t4 ⊢
        have k1 := ls_take p4 t4 rfl
        by_cases hz : La.length + Lb.length = 0
        · obtain rfl : La = [] := List.length_eq_zero_iff.1 (by omega)
          obtain rfl : Lb = [] := List.length_eq_zero_iff.1 (by omega)
          obtain rfl : m = [] := List.length_eq_zero_iff.1 (by omega)
          have cL := fun (w5 : World) (hb : Below w4.heap.size w4 w5) (wh : Bool) (a b : Option Addr) (p q : Nat) => lists_any wh [] [] (From 0) (From 0) (.slice a 0 p) (.slice b 0 q) w5 ⟨fun _ => rfl, rfl⟩ (.leaf 0 [] [] 0 a p _ (.nil none 0)) (.leaf 0 [] [] 0 b q _ (.nil none 0))
          have HL : Hid _ := cL
          clear sm1 sm2 k1 t2 t3 t4 hz hml cL
          simp only [List.length_nil, Nat.add_zero] at hw2 hcap n2 n3 ⊢
          rcases a4 with _ | ad
          all_goals
            go_wp2_with fail
            refine (HL.out w4 (Below.refl _ _) _ _ _ _ _).mono ?_
            rintro e w5 ⟨rfl, hb5⟩
            go_wp2_with fail
            all_goals
              refine (HL.out w5 hb5 _ _ _ _ _).mono ?_
              rintro e w6 ⟨rfl, hb6⟩
              go_wp2_with fail
              go_ret
              exact ⟨rfl, chain (chain hB4 hb5) hb6⟩
        · obtain ⟨g4, o4, rfl⟩ := ls_some t4 (fun h => hz (by rw [← hml, ← List.length_append, h]; rfl))
          have hle : La.length ≤ p4 := by omega
          have hle2 : La.length ≤ La.length + Lb.length := by omega
          have cL := lists_any true La La _ _ _ _ w4 sm1 k1 t2
          by_cases hcc : La.length = p4
          · obtain rfl : Lb = [] := List.length_eq_zero_iff.1 (by omega)
            obtain rfl : m = [] := List.length_eq_zero_iff.1 (by rw [hml]; rfl)
            have hC2 : Hid _ := fun w5 (hb : Below w4.heap.size w4 w5) => lists_any false [] [] (From 0) _ (.slice (some ⟨g4, o4, none⟩) 0 0) _ w5 sm2 (.leaf 0 [] [] 0 _ 0 _ (.nil none 0)) (t3.blw hb)
            clear sm1 sm2 k1 t2 t3 t4 hml
            simp only [List.length_nil, Nat.add_zero] at hw2 hcap hz hle2 hC2 ⊢
            generalize La.length = la at *
            subst hcc
            go_wp2_with fail
            refine cL.mono ?_
            rintro e w5 ⟨rfl, hb5⟩
            go_wp2_with fail
            refine (hC2.out w5 hb5).mono ?_
            rintro e w6 ⟨rfl, hb6⟩
            go_wp2_with fail
            go_ret
            exact ⟨rfl, chain (chain hB4 hb5) hb6⟩
          · have k2 := ls_drop (p4 - La.length) t4 rfl
            rw [hml] at k2
            have hC2 : Hid _ := fun w5 (hb : Below w4.heap.size w4 w5) => lists_any false m Lb _ _ _ _ w5 sm2 (k2.blw hb) (t3.blw hb)
            clear sm1 sm2 k1 k2 t2 t3 t4
            generalize La.length = la at *
            generalize Lb.length = lb at *
            have hcd : ¬ p4 = la := fun h => hcc h.symm
            go_wp2_with fail
            refine cL.mono ?_
            rintro e w5 ⟨rfl, hb5⟩
            go_wp2_with fail
            refine (hC2.out w5 hb5).mono ?_
            rintro e w6 ⟨rfl, hb6⟩
            go_wp2_with fail
            go_ret
            exact ⟨rfl, chain (chain hB4 hb5) hb6⟩
      · have hbad := hbad hEb
        have hP := hpu hEb
        rw [hbad] at c4
        have e1 : ((Eb : Int) != 0) = true := by simp only [bne_iff_ne]; omega
        have hw2 : IntKind.i64.wrap ((Pb : Int) + (s.size : Int)) = (Pb : Int) + (s.size : Int) := wrap_in (by omega) (by omega)
        have hw3 : IntKind.i64.wrap ((Pb : Int) + (s.size : Int) + 1) = (Pb : Int) + (s.size : Int) + 1 := wrap_in (by omega) (by omega)
        have e2 : (((Pb + (s.size + 1) : Nat) : Int) == (Pb : Int) + (s.size : Int) + 1) = true := by rw [beq_iff_eq]; omega
        simp only at c4
        obtain ⟨X, hX⟩ : ∃ X : Int, ((Pb + (s.size + 1) : Nat) : Int) = X := ⟨_, rfl⟩
        rw [hX] at e2
        simp only [hX] at c4
        clear hbad hgood hpu hP hX hEb
        go_enter Tryd.func5, Tryd.ntmps5
        go_wp2_with fail
        refine c0.mono ?_
        rintro e w1 ⟨rfl, hB1⟩
        go_wp2_with fail
        refine (c1 w1 (hT.below hB1)).mono ?_
        rintro e w2 ⟨v2, rfl, hl2, hb2⟩
        clear c0 c1
        obtain ⟨a2, p2, rfl⟩ := hl2.form
        have hB2 := chain hB1 hb2
        go_wp2_with fail
        refine (c2 w2 (hT.below hB2)).mono ?_
        rintro e w3 ⟨v3, rfl, hl3, hb3⟩
        clear c2
        obtain ⟨a3, p3, rfl⟩ := hl3.form
        have hB3 := chain hB2 hb3
        go_wp2_with (first
          | (refine wpList_add_str rfl _ _ rfl s ⟨#[10]⟩ S1 rfl rfl ad1 ?_)
          | (refine wpList_add_str rfl _ _ rfl S1 u S2 rfl rfl ad2 ?_))
        refine (c4 w3 (hT.below hB3)).mono ?_
        rintro e w4 ⟨v4, rfl, hl4, hb4⟩
        clear c4
        obtain ⟨a4, p4, rfl⟩ := hl4.form
        go_wp2_with fail
        go_ret
        exact ⟨rfl, chain hB3 hb4⟩
  · have e1 : ((Ea : Int) != 0) = true := by simp only [bne_iff_ne]; omega
    have c4 := c3 100000 (by omega) (by omega)
    generalize fileA 700000 100000 (tl s ++ 10 :: tl u) = Y at *
    clear hft hok hpu hEa c3
    go_enter Tryd.func5, Tryd.ntmps5
    go_wp2_with fail
    refine c0.mono ?_
    rintro e w1 ⟨rfl, hB1⟩
    go_wp2_with fail
    refine (c1 w1 (hT.below hB1)).mono ?_
    rintro e w2 ⟨v2, rfl, hl2, hb2⟩
    clear c0 c1
    obtain ⟨a2, p2, rfl⟩ := hl2.form
    have hB2 := chain hB1 hb2
    go_wp2_with fail
    refine (c2 w2 (hT.below hB2)).mono ?_
    rintro e w3 ⟨v3, rfl, hl3, hb3⟩
    clear c2
    obtain ⟨a3, p3, rfl⟩ := hl3.form
    have hB3 := chain hB2 hb3
    go_wp2_with (first
      | (refine wpList_add_str rfl _ _ rfl s ⟨#[10]⟩ S1 rfl rfl ad1 ?_)
      | (refine wpList_add_str rfl _ _ rfl S1 u S2 rfl rfl ad2 ?_))
    refine (c4 w3 (hT.below hB3)).mono ?_
    rintro e w4 ⟨v4, rfl, hl4, hb4⟩
    clear c4
    obtain ⟨a4, p4, rfl⟩ := hl4.form
    go_wp2_with fail
    go_ret
    exact ⟨rfl, chain hB3 hb4⟩
end Go.Proofs.YtekcpglapkpenaaDoor
