/- The same tokens with more behind them, further: terms. -/
import Derived.Test.YtahnbigkdfmpbaaDoorPSim
namespace Go.Proofs.YtahnbigkdfmpbaaDoor
set_option linter.unusedVariables false
set_option linter.unusedSimpArgs false

theorem binderQ_eq {a : Tok} {R : Ts} (ha : a.text = [40]) (b : Bs) (hb : behindL 0 (a :: R) = b) : binderQ (a :: R) = (isN R && (sees [58] R.tail && (decide (b = [45, 62]) || decide (b = [42])))) := by
  unfold binderQ
  rw [hb]
  have : sees [40] (a :: R) = true := by simp [sees, ha]
  rw [this]; rfl
theorem arr_txt {R : Ts} (h : txt R = [45, 62] ∨ txt R = [42]) : arrB R = true ∧ R ≠ [] := by
  cases R with
  | nil => rcases h with h | h <;> simp [txt] at h
  | cons t R =>
    refine ⟨?_, by simp⟩
    have : t.text = [45, 62] ∨ t.text = [42] := h
    unfold arrB
    rcases this with h | h <;> simp [sees, h]
theorem terms_sim {Lk : Nat → Option Bs} (Dp : Prop) (e1 e2 : Nat) : ∀ f : Nat,
    (∀ l l2 A B X t, 10 * A.length + 4 ≤ f → GoodR Lk A → (l2 = l ∨ Dp) → termP e1 f l A = .ok t B → Cnd B X → Sm Dp (termP e2 f l2 (A ++ X)) t (B ++ X)) ∧
    (∀ k to l l2 a R B X t, 10 * R.length + 1 ≤ f → GoodR Lk (a :: R) → to ≠ [] → (l2 = l ∨ Dp) → bindsP e1 f k to l (a :: R) = .ok t B → Cnd B X → Sm Dp (bindsP e2 f k to l2 (a :: (R ++ X))) t (B ++ X)) ∧
    (∀ l l2 a R B X t, 10 * R.length + 1 ≤ f → GoodR Lk (a :: R) → a.text = [40] → binderQ (a :: R) = true → (l2 = l ∨ Dp) → binderP e1 f l (a :: R) = .ok t B → Cnd B X → binderQ (a :: (R ++ X)) = true ∧ Sm Dp (binderP e2 f l2 (a :: (R ++ X))) t (B ++ X)) ∧
    (∀ l l2 A B X t, 10 * A.length + 3 ≤ f → GoodR Lk A → (l2 = l ∨ Dp) → appP e1 f l A = .ok t B → Cnd B X → Sm Dp (appP e2 f l2 (A ++ X)) t (B ++ X)) ∧
    (∀ l l2 m A B X t, 10 * A.length + 3 ≤ f → GoodR Lk A → (l2 = l ∨ Dp) → appL e1 f l m A = .ok t B → Step A B ∧ (Cnd B X → Sm Dp (appL e2 f l2 m (A ++ X)) t (B ++ X))) ∧
    (∀ l l2 A B X t, 10 * A.length + 2 ≤ f → GoodR Lk A → (l2 = l ∨ Dp) → atomP e1 f l A = .ok t B → Cnd B X → Sm Dp (atomP e2 f l2 (A ++ X)) t (B ++ X)) ∧
    (∀ l l2 A B X t, 10 * A.length + 1 ≤ f → GoodR Lk A → (l2 = l ∨ Dp) → brackP e1 f l A = .ok t B → Cnd B X → Sm Dp (brackP e2 f l2 (A ++ X)) t (B ++ X)) ∧
    (∀ l l2 a R B X t, 10 * R.length + 3 ≤ f → GoodR Lk (a :: R) → a.text = [91] → (l2 = l ∨ Dp) → boxP e1 f l (a :: R) = .ok t B → Cnd B X → Sm Dp (boxP e2 f l2 (a :: (R ++ X))) t (B ++ X)) ∧
    (∀ l l2 p acc A B X t, 10 * A.length + 1 ≤ f → GoodR Lk A → (l2 = l ∨ Dp) → boxL e1 f l p acc A = .ok t B → Step A B ∧ (Cnd B X → Sm Dp (boxL e2 f l2 p acc (A ++ X)) t (B ++ X))) ∧
    (∀ l l2 A B X t, 10 * A.length + 2 ≤ f → GoodR Lk A → (l2 = l ∨ Dp) → elemP e1 f l A = .ok t B → Cnd B X → Sm Dp (elemP e2 f l2 (A ++ X)) t (B ++ X)) := by
  intro f
  induction f with
  | zero => exact ⟨fun _ _ _ _ _ _ h => by omega, fun _ _ _ _ _ _ _ _ _ h => by omega, fun _ _ _ _ _ _ _ h => by omega, fun _ _ _ _ _ _ h => by omega, fun _ _ _ _ _ _ _ h => by omega, fun _ _ _ _ _ _ h => by omega, fun _ _ _ _ _ _ h => by omega, fun _ _ _ _ _ _ _ h => by omega, fun _ _ _ _ _ _ _ _ h => by omega, fun _ _ _ _ _ _ h => by omega⟩
  | succ f ih =>
    obtain ⟨st, sb, sn, sa, sal, so, sk, sx, sxl, se⟩ := ih
    obtain ⟨nt, nb, nn, na, nal, no, nk, nx, nxl, ne⟩ := terms_inv (Lk := Lk) e1 f
    have sd := (dims_sim (Lk := Lk) Dp e1 e2 f).1
    have nd := (dims_inv (Lk := Lk) e1 f).1
    have up : ∀ {l l2 : Nat}, (l2 = l ∨ Dp) → (l2 + 1 = l + 1 ∨ Dp) := fun h => h.elim (fun h => .inl (by omega)) .inr
    refine ⟨?_, ?_, ?_, ?_, ?_, ?_, ?_, ?_, ?_, ?_⟩
    · -- term
      intro l l2 A B X t hf hg hl h hc
      have hi := (terms_inv (Lk := Lk) e1 (f + 1)).1 l A hf hg
      rw [h] at hi
      obtain ⟨hiS, hiL, _, _⟩ := hi
      rw [termP_s] at h
      obtain ⟨hb, hle, h⟩ := enter_ok h
      obtain ⟨a, R, rfl⟩ : ∃ a R, A = a :: R := by
        cases A with
        | nil => simp at hiL
        | cons a R => exact ⟨a, R, rfl⟩
      rw [termP_s]
      refine enter_app (by decide) hb X hle hl (fun hl2 => ?_)
      by_cases h1 : sees [92] (a :: R) = true
      · rw [if_pos h1] at h
        rw [if_pos (show sees [92] (a :: R ++ X) = true from h1)]
        exact sb 2 [46] l l2 a R B X t (by simp at hf; omega) hg (by simp) hl h hc
      · rw [if_neg h1] at h
        rw [if_neg (show ¬ sees [92] (a :: R ++ X) = true from h1)]
        by_cases h2 : sees [60] (a :: R) = true
        · rw [if_pos h2] at h
          rw [if_pos (show sees [60] (a :: R ++ X) = true from h2)]
          exact sb 3 [62] l l2 a R B X t (by simp at hf; omega) hg (by simp) hl h hc
        · rw [if_neg h2] at h
          rw [if_neg (show ¬ sees [60] (a :: R ++ X) = true from h2)]
          by_cases h3 : binderQ (a :: R) = true
          · rw [if_pos h3] at h
            have ha : a.text = [40] := by simpa [sees] using binderQ_split h3
            obtain ⟨hbq, hsm⟩ := sn l l2 a R B X t (by simp at hf; omega) hg ha h3 hl h hc
            rw [if_pos (show binderQ (a :: R ++ X) = true from hbq)]
            exact hsm
          · rw [if_neg h3] at h
            obtain ⟨u, R1, q1, h⟩ := bnd_inv h
            have hj := na l (a :: R) (by omega) hg
            rw [q1] at hj
            obtain ⟨hjS, hjL, _, _⟩ := hj
            -- what is left behind the app
            have hR1 : Step R1 B := by
              by_cases h4 : arrB R1 = true
              · rw [if_pos h4] at h
                obtain ⟨b, R2, rfl, hb2⟩ := arr_split h4
                obtain ⟨v, R3, q2, h5⟩ := bnd_inv h
                have hr := nt (l + 1) R2 (by simp at hjL hf; omega) (hg.step hjS).tail
                have q2' : termP e1 f (l + 1) R2 = .ok v R3 := q2
                rw [q2'] at hr
                cases h5
                exact (Step.pass (by rcases hb2 with h | h <;> rw [h] <;> decide) (by rcases hb2 with h | h <;> rw [h] <;> decide)).trans hr.1
              · rw [if_neg h4] at h; cases h; exact Step.refl _
            have hc1 := hc.back hR1
            have hnb : ¬ binderQ (a :: R ++ X) = true := by
              intro hbq
              have ha : a.text = [40] := by simpa [sees] using binderQ_split hbq
              -- the atom is in brackets
              cases f with
              | zero => simp at hf
              | succ f =>
                rw [appP_s] at q1
                obtain ⟨u2, R4, q4, q5⟩ := bnd_inv q1
                cases f with
                | zero => simp at hf
                | succ f =>
                  have q4c := q4
                  rw [atomP_s] at q4
                  have hN : ¬ isN (a :: R) = true := by
                    intro hk
                    have hk1 : a.kind = 1 := by simpa [isN] using hk
                    exact (name_not (hg.nam a (by simp) hk1)).1 ha
                  have h91 : ¬ sees [91] (a :: R) = true := by simp [sees, ha]
                  rw [if_neg hN, if_neg h91] at q4
                  cases f with
                  | zero => simp at hf
                  | succ f =>
                    rw [brackP_s] at q4
                    obtain ⟨_, R5, q6, q7⟩ := bnd_inv q4
                    rw [must_t ha] at q6
                    obtain rfl : R5 = R := by cases q6; rfl
                    obtain ⟨t6, R6, q8, q9⟩ := bnd_inv q7
                    have h6 := (terms_inv (Lk := Lk) e1 f).1 (l + 1) R5 (by simp at hf; omega) hg.tail
                    rw [q8] at h6
                    obtain ⟨s6, l6, _, _⟩ := h6
                    have hclose : ∃ c, ∃ R8, Step R5 (c :: R8) ∧ c.text = [41] ∧ R4 = R8 := by
                      have two_case : ∀ (k : Nat) (s : Bs), s ≠ [] → s ≠ [40] → s ≠ [41] → sees s R6 = true → ((termP e1 f (l + 1) R6.tail).bnd fun u R3 => (mustP e1 [41] R3).bnd fun _ R4 => .ok (.mk k [] [t6, u] [] (atP e1 (a :: R5))) R4) = Rs.ok u2 R4 → ∃ c, ∃ R8, Step R5 (c :: R8) ∧ c.text = [41] ∧ R4 = R8 := by
                        intro k s hs hs1 hs2 hsee q
                        obtain ⟨b, R7, rfl, hb7⟩ := sees_split hs hsee
                        obtain ⟨v, R9, p1, p2⟩ := bnd_inv q
                        have s7 : Step R5 R7 := s6.trans (Step.pass (by rw [hb7]; exact hs1) (by rw [hb7]; exact hs2))
                        have h7 := (terms_inv (Lk := Lk) e1 f).1 (l + 1) R7 (by simp at hf l6; omega) (hg.tail.step s7)
                        have p1' : termP e1 f (l + 1) R7 = .ok v R9 := p1
                        rw [p1'] at h7
                        obtain ⟨_, R10, p3, p4⟩ := bnd_inv p2
                        obtain ⟨c, e9, hcc⟩ := must_ok (by simp) p3
                        cases p4
                        exact ⟨c, R4, by rw [← e9]; exact s7.trans h7.1, hcc, rfl⟩
                      by_cases w1 : sees [44] R6 = true
                      · rw [if_pos w1] at q9; exact two_case 8 [44] (by simp) (by decide) (by decide) w1 q9
                      · rw [if_neg w1] at q9
                        by_cases w2 : sees [58] R6 = true
                        · rw [if_pos w2] at q9; exact two_case 9 [58] (by simp) (by decide) (by decide) w2 q9
                        · rw [if_neg w2] at q9
                          obtain ⟨_, R7, p3, p4⟩ := bnd_inv q9
                          obtain ⟨c, rfl, hcc⟩ := must_ok (by simp) p3
                          cases p4
                          exact ⟨c, R4, s6, hcc, rfl⟩
                    obtain ⟨c, R8, s8, hcc, rfl⟩ := hclose
                    have hba : behindL 0 (a :: R5) = txt R4 := Step.behind ha hcc s8
                    have s8x : ∃ C, R5 = C ++ c :: R4 ∧ Bal C := s8
                    obtain ⟨C, hC, hbal⟩ := s8x
                    have hbx : behindL 0 (a :: (R5 ++ X)) = txt (R4 ++ X) := Step.behind ha hcc ⟨C, by rw [hC]; simp, hbal⟩
                    -- what is left behind the first atom
                    have hia := (terms_inv (Lk := Lk) e1 (f + 1 + 1)).2.2.2.2.2.1 l (a :: R5) (by simp at hf ⊢; omega) hg
                    rw [q4c] at hia
                    have hlR4 := hia.2.1
                    have hil := (terms_inv (Lk := Lk) e1 (f + 1 + 1)).2.2.2.2.1 l u2 (atP e1 (a :: R5)) R4 (by simp at hf hlR4 ⊢; omega) (hg.step hia.1) hia.2.2.1 hia.2.2.2
                    rw [q5] at hil
                    have s4 : Step R4 R1 := hil.1
                    have hc4 := hc1.back s4
                    have htx : (txt (R4 ++ X) = [45, 62] ∨ txt (R4 ++ X) = [42]) → txt R4 = txt (R4 ++ X) := by
                      intro hh
                      cases R4 with
                      | cons y R4 => rfl
                      | nil =>
                        exfalso
                        rcases hc4 with h | ⟨_, h⟩
                        · exact h rfl
                        · rw [List.nil_append] at hh
                          rcases hh with e | e <;> rw [e] at h <;> rcases h with h | h | h | h <;> revert h <;> decide
                    rw [List.cons_append, binderQ_eq ha _ hbx] at hbq
                    have hlast : txt (R4 ++ X) = [45, 62] ∨ txt (R4 ++ X) = [42] := by
                      simp only [Bool.and_eq_true, Bool.or_eq_true, decide_eq_true_eq] at hbq
                      exact hbq.2.2
                    apply h3
                    rw [binderQ_eq ha _ hba, htx hlast]
                    rw [hC] at hbq ⊢
                    match C with
                    | [] =>
                      exfalso
                      simp only [List.nil_append, List.cons_append, Bool.and_eq_true] at hbq
                      have hk1 : c.kind = 1 := by simpa [isN] using hbq.1
                      have hcm : c ∈ a :: R5 := by rw [hC]; simp
                      exact (name_not (hg.nam c hcm hk1)).2 hcc
                    | [x] =>
                      exfalso
                      simp only [List.cons_append, List.nil_append, List.tail_cons, Bool.and_eq_true] at hbq
                      have h58 : c.text = [58] := by simpa [sees] using hbq.2.1
                      rw [hcc] at h58
                      revert h58; decide
                    | x :: y :: C' => exact hbq
            rw [if_neg hnb]
            refine Sm.bnd (sa l l2 (a :: R) R1 X u (by omega) hg hl q1 hc1) ?_
            rw [arrB_app hc1]
            by_cases h4 : arrB R1 = true
            · rw [if_pos h4] at h ⊢
              obtain ⟨b, R2, rfl, hb2⟩ := arr_split h4
              obtain ⟨v, R3, q2, h5⟩ := bnd_inv h
              cases h5
              exact Sm.bnd (st (l + 1) (l2 + 1) R2 B X v (by simp at hjL hf; omega) (hg.step hjS).tail (up hl) q2 hc) (.inl rfl)
            · rw [if_neg h4] at h ⊢
              cases h
              exact .inl rfl
    · -- binds
      intro k to l l2 a R B X t hf hg hto hl h hc
      rw [bindsP_s] at h ⊢
      obtain ⟨ns, R1, q1, h1⟩ := bnd_inv h
      obtain ⟨_, R2, q2, h2⟩ := bnd_inv h1
      obtain ⟨u, R3, q3, h3⟩ := bnd_inv h2
      clear h h1 h2
      obtain ⟨b, hR1, hb⟩ := must_ok hto q2
      cases h3
      have q1' : namesP e1 R = .ok ns R1 := q1
      rcases names_cases e1 R hg.tail with ⟨ns', R1', e, s1⟩ | e
      · rw [e] at q1'
        obtain ⟨rfl, rfl⟩ : ns' = ns ∧ R1' = R1 := by cases q1'; exact ⟨rfl, rfl⟩
        have hnx : namesP e2 (R ++ X) = .ok ns' (R1' ++ X) := by
          unfold namesP at e ⊢
          obtain ⟨n, R4, p1, p2⟩ := bnd_inv e
          obtain ⟨c, rfl, hck, rfl⟩ := name_ok p1
          rw [List.cons_append, name_t hck, bnd_ok]
          exact namesL_app R4 _ _ _ X p2 (by rw [hR1]; simp)
        show Sm Dp ((namesP e2 (R ++ X)).bnd _) _ _
        rw [hnx, bnd_ok]
        subst hR1
        show Sm Dp ((mustP e2 to (b :: (R2 ++ X))).bnd _) _ _
        rw [must_t hb, bnd_ok]
        have hl2 := s1.len
        exact Sm.bnd (st (l + 1) (l2 + 1) R2 B X u (by simp at hl2; omega) (GoodR.tail (t := b) (hg.tail.step s1)) (up hl) q3 hc) (.inl rfl)
      · rw [e] at q1'; cases q1'
    · -- binder
      intro l l2 a R B X t hf hg ha hbq hl h hc
      rw [binderP_s] at h
      obtain ⟨n, R1, q1, h1⟩ := bnd_inv h
      obtain ⟨_, R2, q2, h2⟩ := bnd_inv h1
      obtain ⟨u, R3, q3, h3⟩ := bnd_inv h2
      obtain ⟨_, R4, q4, h4⟩ := bnd_inv h3
      obtain ⟨v, R5, q5, h5⟩ := bnd_inv h4
      clear h h1 h2 h3 h4
      obtain ⟨nt1, hR, hnk, rfl⟩ := name_ok (R := R) q1
      subst hR
      obtain ⟨b, rfl, hb⟩ := must_ok (by simp) q2
      obtain ⟨c, rfl, hcc⟩ := must_ok (by simp) q4
      cases h5
      have hnn := name_not (hg.nam nt1 (by simp) hnk)
      have s2 : Step (nt1 :: b :: R2) R2 := (Step.pass hnn.1 hnn.2).trans (Step.pass (by rw [hb]; decide) (by rw [hb]; decide))
      have hr := nt (l + 1) R2 (by simp at hf; omega) (hg.tail.step s2)
      rw [q3] at hr
      obtain ⟨r1, r2, _, _⟩ := hr
      have hba : behindL 0 (a :: nt1 :: b :: R2) = txt R4 := Step.behind ha hcc (s2.trans r1)
      have harr : txt R4 = [45, 62] ∨ txt R4 = [42] := by
        rw [binderQ_eq ha _ hba] at hbq
        simp only [Bool.and_eq_true, Bool.or_eq_true, decide_eq_true_eq] at hbq
        exact hbq.2.2
      obtain ⟨hA4, hne4⟩ := arr_txt harr
      obtain ⟨C, hC, hbal⟩ := s2.trans r1
      have hbx : behindL 0 (a :: (nt1 :: b :: R2 ++ X)) = txt (R4 ++ X) := Step.behind ha hcc ⟨C, by rw [hC]; simp, hbal⟩
      refine ⟨?_, ?_⟩
      · rw [binderQ_eq ha _ hbx, txt_app hne4]
        rw [binderQ_eq ha _ hba] at hbq
        exact hbq
      · rw [binderP_s]
        show Sm Dp ((nameP e2 (nt1 :: (b :: R2 ++ X))).bnd _) _ _
        rw [name_t hnk, bnd_ok]
        show Sm Dp ((mustP e2 [58] (b :: (R2 ++ X))).bnd _) _ _
        rw [must_t hb, bnd_ok]
        refine Sm.bnd (st (l + 1) (l2 + 1) R2 (c :: R4) X u (by simp at hf; omega) (hg.tail.step s2) (up hl) q3 (.inl (by simp))) ?_
        show Sm Dp ((mustP e2 [41] (c :: (R4 ++ X))).bnd _) _ _
        rw [must_t hcc, bnd_ok]
        have hk : arrK (R4 ++ X) = arrK R4 := by
          cases R4 with
          | nil => exact absurd rfl hne4
          | cons y R4 => rfl
        have harR : arrR (R4 ++ X) = arrR R4 ++ X := by
          unfold arrR
          rw [arrB_app (.inl hne4), hA4]
          simp only [if_true]
          exact tail_app hne4
        rw [hk, harR]
        have s4 : Step (a :: nt1 :: b :: R2) R4 := Step.paren ha hcc (s2.trans r1)
        have hl4 := (arrR_step R4).len
        exact Sm.bnd (st (l + 1) (l2 + 1) (arrR R4) B X v (by simp at hf r2; omega) (hg.step (s4.trans (arrR_step R4))) (up hl) q5 hc) (.inl rfl)
    · -- app
      intro l l2 A B X t hf hg hl h hc
      rw [appP_s] at h ⊢
      obtain ⟨m, R1, q1, h⟩ := bnd_inv h
      have hi := no l A (by omega) hg
      rw [q1] at hi
      have hr := sal l l2 m R1 B X t (by have := hi.2.1; omega) (hg.step hi.1) hl h
      exact Sm.bnd (so l l2 A R1 X m (by omega) hg hl q1 (hc.back hr.1)) (hr.2 hc)
    · -- appL
      intro l l2 m A B X t hf hg hl h
      rw [appL_s] at h
      by_cases h1 : sees [64] A = true
      · rw [if_pos h1] at h
        obtain ⟨a, R, rfl, ha⟩ := sees_split (by simp) h1
        obtain ⟨x, R1, q1, h⟩ := bnd_inv h
        have hi := nd (l + 1) R (by simp at hf; omega) hg.tail
        have q1' : dimP e1 f (l + 1) R = .ok x R1 := q1
        rw [q1'] at hi
        have hr := sal l l2 (two 7 m x) R1 B X t (by have := hi.2.1; simp at hf; omega) (hg.tail.step hi.1) hl h
        have hs : Step (a :: R) R := Step.pass (by rw [ha]; decide) (by rw [ha]; decide)
        refine ⟨(hs.trans hi.1).trans hr.1, fun hc => ?_⟩
        rw [appL_s, if_pos (show sees [64] (a :: R ++ X) = true from h1)]
        exact Sm.bnd (sd (l + 1) (l2 + 1) R R1 X x (by simp at hf; omega) hg.tail (up hl) q1' (hc.back hr.1)) (hr.2 hc)
      · rw [if_neg h1] at h
        by_cases h2 : (isN A || (sees [40] A || sees [91] A)) = true
        · rw [if_pos h2] at h
          obtain ⟨x, R1, q1, h⟩ := bnd_inv h
          have hi := no l A (by omega) hg
          rw [q1] at hi
          have hr := sal l l2 (two 6 m x) R1 B X t (by have := hi.2.1; omega) (hg.step hi.1) hl h
          refine ⟨hi.1.trans hr.1, fun hc => ?_⟩
          have hcA := hc.back (hi.1.trans hr.1)
          rw [appL_s, sees_app (by simp) (by decide) (by decide) (by decide) hcA, if_neg h1, isN_app hcA, sees_app (by simp) (by decide) (by decide) (by decide) hcA, sees_app (by simp) (by decide) (by decide) (by decide) hcA, if_pos h2]
          exact Sm.bnd (so l l2 A R1 X x (by omega) hg hl q1 (hc.back hr.1)) (hr.2 hc)
        · rw [if_neg h2] at h
          cases h
          refine ⟨Step.refl _, fun hcA => ?_⟩
          rw [appL_s, sees_app (by simp) (by decide) (by decide) (by decide) hcA, if_neg h1, isN_app hcA, sees_app (by simp) (by decide) (by decide) (by decide) hcA, sees_app (by simp) (by decide) (by decide) (by decide) hcA, if_neg h2]
          exact .inl rfl
    · -- atom
      intro l l2 A B X t hf hg hl h hc
      have hi := (terms_inv (Lk := Lk) e1 (f + 1)).2.2.2.2.2.1 l A hf hg
      rw [h] at hi
      obtain ⟨a, R, rfl⟩ : ∃ a R, A = a :: R := by
        cases A with
        | nil => have := hi.2.1; simp at this
        | cons a R => exact ⟨a, R, rfl⟩
      rw [atomP_s] at h ⊢
      by_cases h1 : isN (a :: R) = true
      · rw [if_pos h1] at h
        rw [if_pos (show isN (a :: R ++ X) = true from h1)]
        cases h
        exact .inl rfl
      · rw [if_neg h1] at h
        rw [if_neg (show ¬ isN (a :: R ++ X) = true from h1)]
        by_cases h2 : sees [91] (a :: R) = true
        · rw [if_pos h2] at h
          rw [if_pos (show sees [91] (a :: R ++ X) = true from h2)]
          exact sx l l2 a R B X t (by simp at hf; omega) hg (by simpa [sees] using h2) hl h hc
        · rw [if_neg h2] at h
          rw [if_neg (show ¬ sees [91] (a :: R ++ X) = true from h2)]
          exact sk l l2 (a :: R) B X t (by omega) hg hl h hc
    · -- brackets
      intro l l2 A B X t hf hg hl h hc
      rw [brackP_s] at h ⊢
      obtain ⟨_, R1, q1, h1⟩ := bnd_inv h
      obtain ⟨u, R2, q2, h2⟩ := bnd_inv h1
      clear h h1
      obtain ⟨a, rfl, ha⟩ := must_ok (by simp) q1
      show Sm Dp ((mustP e2 [40] (a :: (R1 ++ X))).bnd _) _ _
      rw [must_t ha, bnd_ok]
      have hi := nt (l + 1) R1 (by simp at hf; omega) hg.tail
      rw [q2] at hi
      obtain ⟨i1, i2, _, _⟩ := hi
      have hne : R2 ≠ [] := by
        rintro rfl
        have w1 : sees [44] [] = false := by decide
        have w2 : sees [58] [] = false := by decide
        rw [if_neg (by rw [w1]; simp), if_neg (by rw [w2]; simp)] at h2
        obtain ⟨_, R3, q3, _⟩ := bnd_inv h2
        obtain ⟨c, hh, _⟩ := must_ok (by simp) q3
        cases hh
      refine Sm.bnd (st (l + 1) (l2 + 1) R1 R2 X u (by simp at hf; omega) hg.tail (up hl) q2 (.inl hne)) ?_
      have hc2 : Cnd R2 X := .inl hne
      have hat : atP e2 (a :: R1 ++ X) = atP e1 (a :: R1) := rfl
      rw [hat]
      have two_case : ∀ (k : Nat) (s : Bs), s ≠ [] → s ≠ [40] → s ≠ [41] → sees s R2 = true → ((termP e1 f (l + 1) R2.tail).bnd fun u_1 R3 => (mustP e1 [41] R3).bnd fun _ R4 => .ok (.mk k [] [u, u_1] [] (atP e1 (a :: R1))) R4) = Rs.ok t B →
          Sm Dp ((termP e2 f (l2 + 1) (R2 ++ X).tail).bnd fun u_1 R3 => (mustP e2 [41] R3).bnd fun _ R4 => .ok (.mk k [] [u, u_1] [] (atP e1 (a :: R1))) R4) t (B ++ X) := by
        intro k s hs hs1 hs2 hsee q
        obtain ⟨b, R7, rfl, hb7⟩ := sees_split hs hsee
        obtain ⟨v, R9, p1, p2⟩ := bnd_inv q
        obtain ⟨_, R10, p3, p4⟩ := bnd_inv p2
        obtain ⟨c, e9, hcc⟩ := must_ok (by simp) p3
        cases p4
        subst e9
        have s7 : Step R1 R7 := i1.trans (Step.pass (by rw [hb7]; exact hs1) (by rw [hb7]; exact hs2))
        refine Sm.bnd (st (l + 1) (l2 + 1) R7 (c :: B) X v (by simp at hf i2; omega) (hg.tail.step s7) (up hl) p1 (.inl (by simp))) ?_
        show Sm Dp ((mustP e2 [41] (c :: (B ++ X))).bnd _) _ _
        rw [must_t hcc, bnd_ok]
        exact .inl rfl
      by_cases w1 : sees [44] R2 = true
      · rw [if_pos w1] at h2
        rw [sees_app (by simp) (by decide) (by decide) (by decide) hc2, if_pos w1]
        exact two_case 8 [44] (by simp) (by decide) (by decide) w1 h2
      · rw [if_neg w1] at h2
        rw [sees_app (by simp) (by decide) (by decide) (by decide) hc2, if_neg w1]
        by_cases w2 : sees [58] R2 = true
        · rw [if_pos w2] at h2
          rw [sees_app (by simp) (by decide) (by decide) (by decide) hc2, if_pos w2]
          exact two_case 9 [58] (by simp) (by decide) (by decide) w2 h2
        · rw [if_neg w2] at h2
          rw [sees_app (by simp) (by decide) (by decide) (by decide) hc2, if_neg w2]
          obtain ⟨_, R3, q3, h5⟩ := bnd_inv h2
          obtain ⟨c, e9, hcc⟩ := must_ok (by simp) q3
          cases h5
          subst e9
          show Sm Dp ((mustP e2 [41] (c :: (B ++ X))).bnd _) _ _
          rw [must_t hcc, bnd_ok]
          exact .inl rfl
    · -- box
      intro l l2 a R B X t hf hg ha hl h hc
      rw [boxP_s] at h ⊢
      have h' : (if sees [93] R = true then Rs.ok (Tr.mk 10 [] [] [] (atP e1 (a :: R))) R.tail else (elemP e1 f l R).bnd fun x R1 => boxL e1 f l (atP e1 (a :: R)) [x] R1) = .ok t B := h
      show Sm Dp (if sees [93] (R ++ X) = true then Rs.ok (Tr.mk 10 [] [] [] (atP e1 (a :: R))) (R ++ X).tail else (elemP e2 f l2 (R ++ X)).bnd fun x R1 => boxL e2 f l2 (atP e1 (a :: R)) [x] R1) t (B ++ X)
      by_cases h1 : sees [93] R = true
      · rw [if_pos h1] at h'
        obtain ⟨b, R1, rfl, hb⟩ := sees_split (by simp) h1
        cases h'
        rw [if_pos (show sees [93] (b :: R1 ++ X) = true from h1)]
        exact .inl rfl
      · rw [if_neg h1] at h'
        obtain ⟨x, R1, q1, h⟩ := bnd_inv h'
        have hi := ne l R (by omega) hg.tail
        rw [q1] at hi
        have hr := sxl l l2 (atP e1 (a :: R)) [x] R1 B X t (by have := hi.2.1; omega) (hg.tail.step hi.1) hl h
        have hneR : R ≠ [] := ne_of_lt hi.2.1
        rw [sees_app (by simp) (by decide) (by decide) (by decide) (.inl hneR), if_neg h1]
        exact Sm.bnd (se l l2 R R1 X x (by omega) hg.tail hl q1 (hc.back hr.1)) (hr.2 hc)
    · -- boxL
      intro l l2 p acc A B X t hf hg hl h
      rw [boxL_s] at h
      by_cases h1 : sees [44] A = true
      · rw [if_pos h1] at h
        obtain ⟨a, R, rfl, ha⟩ := sees_split (by simp) h1
        obtain ⟨x, R1, q1, h⟩ := bnd_inv h
        have hi := ne l R (by simp at hf; omega) hg.tail
        have q1' : elemP e1 f l R = .ok x R1 := q1
        rw [q1'] at hi
        have hr := sxl l l2 p (acc ++ [x]) R1 B X t (by have := hi.2.1; simp at hf; omega) (hg.tail.step hi.1) hl h
        have hs : Step (a :: R) R := Step.pass (by rw [ha]; decide) (by rw [ha]; decide)
        refine ⟨(hs.trans hi.1).trans hr.1, fun hc => ?_⟩
        rw [boxL_s, if_pos (show sees [44] (a :: R ++ X) = true from h1)]
        exact Sm.bnd (se l l2 R R1 X x (by simp at hf; omega) hg.tail hl q1' (hc.back hr.1)) (hr.2 hc)
      · rw [if_neg h1] at h
        obtain ⟨_, R1, q1, h5⟩ := bnd_inv h
        obtain ⟨b, rfl, hb⟩ := must_ok (by simp) q1
        cases h5
        refine ⟨Step.pass (by rw [hb]; decide) (by rw [hb]; decide), fun hc => ?_⟩
        rw [boxL_s, if_neg (show ¬ sees [44] (b :: B ++ X) = true from h1)]
        show Sm Dp ((mustP e2 [93] (b :: (B ++ X))).bnd _) _ _
        rw [must_t hb, bnd_ok]
        exact .inl rfl
    · -- elem
      intro l l2 A B X t hf hg hl h hc
      rw [elemP_s] at h ⊢
      obtain ⟨c, R1, q1, h⟩ := bnd_inv h
      have hi := face_inv (Lk := Lk) e1 f A (by omega) hg
      rw [q1] at hi
      obtain ⟨i1, i2, _, _⟩ := hi
      have hneA := ne_of_lt i2
      have hR1 : Step R1 B := by
        by_cases h1 : sees [45, 62] R1 = true
        · rw [if_pos h1] at h
          obtain ⟨b, R2, rfl, hb⟩ := sees_split (by simp) h1
          obtain ⟨u, R3, q2, h5⟩ := bnd_inv h
          have hr := nt (l + 1) R2 (by simp at i2; omega) (hg.step i1).tail
          have q2' : termP e1 f (l + 1) R2 = .ok u R3 := q2
          rw [q2'] at hr
          cases h5
          exact (Step.pass (by rw [hb]; decide) (by rw [hb]; decide)).trans hr.1
        · rw [if_neg h1] at h; cases h; exact Step.refl _
      have hc1 := hc.back hR1
      rw [face_app (Lk := Lk) (e2 := e2) (by omega) hg q1 hc1, bnd_ok, sees_app (by simp) (by decide) (by decide) (by decide) hc1, at_app (e1 := e1) hneA]
      by_cases h1 : sees [45, 62] R1 = true
      · rw [if_pos h1] at h ⊢
        obtain ⟨b, R2, rfl, hb⟩ := sees_split (by simp) h1
        obtain ⟨u, R3, q2, h5⟩ := bnd_inv h
        cases h5
        exact Sm.bnd (st (l + 1) (l2 + 1) R2 B X u (by simp at i2; omega) (hg.step i1).tail (up hl) q2 hc) (.inl rfl)
      · rw [if_neg h1] at h ⊢
        cases h
        exact .inl rfl
end Go.Proofs.YtahnbigkdfmpbaaDoor
