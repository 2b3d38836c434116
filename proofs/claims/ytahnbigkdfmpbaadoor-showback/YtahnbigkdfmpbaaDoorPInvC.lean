/- What every rule keeps, further: terms, declarations, files. -/
import Derived.Test.YtahnbigkdfmpbaaDoorPInvB
namespace Go.Proofs.YtahnbigkdfmpbaaDoor
set_option linter.unusedVariables false
set_option linter.unusedSimpArgs false

theorem arrK_bd (R : Ts) : 4 ≤ arrK R ∧ arrK R ≤ 5 := by unfold arrK; split <;> omega
theorem arr_split {R : Ts} (h : arrB R = true) : ∃ t R', R = t :: R' ∧ (t.text = [45, 62] ∨ t.text = [42]) := by
  unfold arrB at h
  cases h1 : sees [45, 62] R with
  | true => obtain ⟨t, R', rfl, ht⟩ := sees_split (by simp) h1; exact ⟨t, R', rfl, .inl ht⟩
  | false =>
    rw [h1] at h
    obtain ⟨t, R', rfl, ht⟩ := sees_split (s := [42]) (by simp) (by simpa using h)
    exact ⟨t, R', rfl, .inr ht⟩
theorem binderQ_split {R : Ts} (h : binderQ R = true) : sees [40] R = true := by
  unfold binderQ at h
  cases hq : sees [40] R with
  | true => rfl
  | false => rw [hq] at h; simp at h
theorem arrR_step (R : Ts) : Step R (arrR R) := by
  unfold arrR
  split
  · rename_i h
    obtain ⟨t, R', rfl, ht⟩ := arr_split h
    exact Step.pass (by rcases ht with h | h <;> rw [h] <;> decide) (by rcases ht with h | h <;> rw [h] <;> decide)
  · exact Step.refl _
theorem terms_inv {Lk : Nat → Option Bs} (e : Nat) : ∀ f : Nat,
    (∀ l R, 10 * R.length + 4 ≤ f → GoodR Lk R → Inv Lk e R (termP e f l R)) ∧
    (∀ k to l t R, 10 * R.length + 1 ≤ f → GoodR Lk (t :: R) → t.text ≠ [40] → t.text ≠ [41] → to ≠ [] → to ≠ [40] → to ≠ [41] → 2 ≤ k → k ≤ 17 → Inv Lk e (t :: R) (bindsP e f k to l (t :: R))) ∧
    (∀ l t R, 10 * R.length + 1 ≤ f → GoodR Lk (t :: R) → t.text = [40] → Inv Lk e (t :: R) (binderP e f l (t :: R))) ∧
    (∀ l R, 10 * R.length + 3 ≤ f → GoodR Lk R → Inv Lk e R (appP e f l R)) ∧
    (∀ l t a R, 10 * R.length + 3 ≤ f → GoodR Lk R → Wt Lk a t → (∀ v ∈ R, t.at_ ≤ v.at_) → InvL Lk e a R (appL e f l t R)) ∧
    (∀ l R, 10 * R.length + 2 ≤ f → GoodR Lk R → Inv Lk e R (atomP e f l R)) ∧
    (∀ l R, 10 * R.length + 1 ≤ f → GoodR Lk R → Inv Lk e R (brackP e f l R)) ∧
    (∀ l t R, 10 * R.length + 3 ≤ f → GoodR Lk (t :: R) → t.text = [91] → Inv Lk e (t :: R) (boxP e f l (t :: R))) ∧
    (∀ l p acc R tx, 10 * R.length + 1 ≤ f → GoodR Lk R → Lk p = some tx → (∀ kid ∈ acc, Wt Lk p kid) → (∀ v ∈ R, p ≤ v.at_) → InvL Lk e p R (boxL e f l p acc R)) ∧
    (∀ l R, 10 * R.length + 2 ≤ f → GoodR Lk R → Inv Lk e R (elemP e f l R)) := by
  intro f
  induction f with
  | zero => exact ⟨fun _ _ h => by omega, fun _ _ _ _ _ h => by omega, fun _ _ _ h => by omega, fun _ _ h => by omega, fun _ _ _ _ h => by omega, fun _ _ h => by omega, fun _ _ h => by omega, fun _ _ _ h => by omega, fun _ _ _ _ _ h => by omega, fun _ _ h => by omega⟩
  | succ f ih =>
    obtain ⟨iht, ihb, ihn, iha, ihal, iho, ihk, ihx, ihxl, ihe⟩ := ih
    have ihd := (dims_inv (Lk := Lk) e f).1
    refine ⟨?_, ?_, ?_, ?_, ?_, ?_, ?_, ?_, ?_, ?_⟩
    · -- term
      intro l R hf hg
      rw [termP_s]
      rcases enter_cases e l [[92], [60], [40], [91]] R (if sees [92] R then bindsP e f 2 [46] l R
     else if sees [60] R then bindsP e f 3 [62] l R
     else if binderQ R then binderP e f l R
     else (appP e f l R).bnd fun t R1 => if arrB R1 then (termP e f (l + 1) R1.tail).bnd fun u R2 => .ok (two (arrK R1) t u) R2 else .ok t R1) with ⟨x, hx, e1⟩ | ⟨hb, _, e1⟩
      · rw [e1]; exact bad_here e x R hx
      · rw [e1]
        by_cases h1 : sees [92] R = true
        · rw [if_pos h1]
          obtain ⟨t, R1, rfl, ht⟩ := sees_split (by simp) h1
          exact ihb 2 [46] l t R1 (by simp at hf; omega) hg (by rw [ht]; decide) (by rw [ht]; decide) (by simp) (by decide) (by decide) (by omega) (by omega)
        · rw [if_neg h1]
          by_cases h2 : sees [60] R = true
          · rw [if_pos h2]
            obtain ⟨t, R1, rfl, ht⟩ := sees_split (by simp) h2
            exact ihb 3 [62] l t R1 (by simp at hf; omega) hg (by rw [ht]; decide) (by rw [ht]; decide) (by simp) (by decide) (by decide) (by omega) (by omega)
          · rw [if_neg h2]
            by_cases h3 : binderQ R = true
            · rw [if_pos h3]
              obtain ⟨t, R1, rfl, ht⟩ := sees_split (by simp) (binderQ_split h3)
              exact ihn l t R1 (by simp at hf; omega) hg ht
            · rw [if_neg h3]
              have hi := iha l R (by omega) hg
              cases hq : appP e f l R using Rs.cs with
              | bad p x => rw [hq] at hi; exact hi
              | ok t R1 =>
                rw [hq] at hi
                obtain ⟨i1, i2, i3, i4⟩ := hi
                rw [bnd_ok]
                by_cases h4 : arrB R1 = true
                · rw [if_pos h4]
                  obtain ⟨b, R2, rfl, hb⟩ := arr_split h4
                  have hr := iht (l + 1) R2 (by simp at i2; omega) (hg.step i1).tail
                  show Inv Lk e R ((termP e f (l + 1) R2).bnd _)
                  have hbs : ∀ v ∈ R2, v ∈ R := fun v hv => i1.mem (by simp [hv])
                  cases hq2 : termP e f (l + 1) R2 using Rs.cs with
                  | bad p x => rw [hq2] at hr; exact BadIn.up hr hbs
                  | ok u R3 =>
                    rw [hq2] at hr
                    obtain ⟨j1, j2, j3, j4⟩ := hr
                    rw [bnd_ok]
                    have hk := arrK_bd (b :: R2)
                    have hu : Wt Lk t.at_ u := by
                      refine j3.low ?_
                      cases R2 with
                      | nil => simp at j2
                      | cons c R2 => exact i4 c (by simp)
                    refine ⟨i1.trans ((Step.pass (by rcases hb with h | h <;> rw [h] <;> decide) (by rcases hb with h | h <;> rw [h] <;> decide)).trans j1), by simp at i2; omega, i3.two hu (by omega) (by omega), fun v hv => i4 v (by simp [j1.mem hv])⟩
                · rw [if_neg h4]; exact ⟨i1, i2, i3, i4⟩
    · -- binds
      intro k to l t R hf hg ht1 ht2 hto h40 h41 hk hk2
      rw [bindsP_s]
      show Inv Lk e _ ((namesP e R).bnd _)
      rcases names_cases e R hg.tail with ⟨ns, R1, e1, s1⟩ | e1
      · rw [e1, bnd_ok]
        rcases must_cases e to hto R1 with ⟨b, R2, rfl, hb, e2⟩ | e2
        · rw [e2, bnd_ok]
          have s2 := s1.trans (Step.pass (t := b) (R := R2) (by rw [hb]; exact h40) (by rw [hb]; exact h41))
          have hl := s2.len
          have hl2 := s1.len
          have hr := iht (l + 1) R2 (by simp at hl2; omega) (hg.tail.step s2)
          cases hq : termP e f (l + 1) R2 using Rs.cs with
          | bad p x => rw [hq] at hr; exact BadIn.up hr (fun v hv => by simp [s2.mem hv])
          | ok u R3 =>
            rw [hq] at hr
            obtain ⟨j1, j2, j3, j4⟩ := hr
            rw [bnd_ok]
            refine ⟨(Step.pass ht1 ht2).trans (s2.trans j1), by simp; omega, wt_here hg k _ _ _ (by omega) hk2 (fun h => by omega) (fun kid hm => ?_), fun v hv => hg.up.1 v (s2.mem (j1.mem hv))⟩
            simp at hm; subst hm
            exact part_low hg (fun v hv => s2.mem hv) j3 (ne_of_lt j2)
        · rw [e2]; exact (bad_here e 61 _ (.inl rfl)).up (fun v hv => by simp [s1.mem hv])
      · rw [e1]; exact (bad_here e 61 _ (.inl rfl)).up (fun v hv => by simp [hv])
    · -- binder
      intro l t R hf hg ht
      rw [binderP_s]
      show Inv Lk e _ ((nameP e R).bnd _)
      rcases name_cases e R with ⟨n, R1, rfl, hn, e1⟩ | e1
      · rw [e1, bnd_ok]
        have hnn := name_not (hg.nam n (by simp) hn)
        rcases must_cases e [58] (by simp) R1 with ⟨b, R2, rfl, hb, e2⟩ | e2
        · rw [e2, bnd_ok]
          have s2 : Step (n :: b :: R2) R2 := (Step.pass hnn.1 hnn.2).trans (Step.pass (by rw [hb]; decide) (by rw [hb]; decide))
          have hr := iht (l + 1) R2 (by simp at hf; omega) (hg.tail.step s2)
          cases hq : termP e f (l + 1) R2 using Rs.cs with
          | bad p x => rw [hq] at hr; exact BadIn.up hr (fun v hv => by simp [hv])
          | ok a R3 =>
            rw [hq] at hr
            obtain ⟨j1, j2, j3, j4⟩ := hr
            rw [bnd_ok]
            rcases must_cases e [41] (by simp) R3 with ⟨c, R4, rfl, hc, e3⟩ | e3
            · rw [e3, bnd_ok]
              have s4 : Step (t :: n :: b :: R2) R4 := Step.paren ht hc (s2.trans j1)
              have s5 := s4.trans (arrR_step R4)
              have hl := (arrR_step R4).len
              have hr2 := iht (l + 1) (arrR R4) (by simp at hf j2; omega) (hg.step s5)
              cases hq2 : termP e f (l + 1) (arrR R4) using Rs.cs with
              | bad p x => rw [hq2] at hr2; exact BadIn.up hr2 (fun v hv => s5.mem hv)
              | ok d R5 =>
                rw [hq2] at hr2
                obtain ⟨q1, q2, q3, q4⟩ := hr2
                rw [bnd_ok]
                have hk := arrK_bd R4
                have hs45 : ∀ v ∈ arrR R4, v ∈ n :: b :: R2 := fun v hv => by
                  have h1 := (arrR_step R4).mem hv
                  have h2 : v ∈ c :: R4 := by simp [h1]
                  exact s2.mem (j1.mem h2)
                refine ⟨s5.trans q1, by simp at j2 ⊢; omega, wt_here hg _ _ _ _ (by omega) (by omega) (fun h => by omega) (fun kid hm => ?_), fun v hv => hg.up.1 v (hs45 v (q1.mem hv))⟩
                simp at hm
                rcases hm with rfl | rfl
                · exact part_low hg (fun v hv => s2.mem hv) j3 (ne_of_lt j2)
                · exact part_low hg hs45 q3 (ne_of_lt q2)
            · rw [e3]; exact (bad_here e 61 _ (.inl rfl)).up (fun v hv => by simp [j1.mem hv])
        · rw [e2]; exact (bad_here e 61 _ (.inl rfl)).up (fun v hv => by simp [hv])
      · rw [e1]; exact (bad_here e 61 _ (.inl rfl)).up (fun v hv => by simp [hv])
    · -- app
      intro l R hf hg
      rw [appP_s]
      have hi := iho l R (by omega) hg
      cases hq : atomP e f l R using Rs.cs with
      | bad p x => rw [hq] at hi; exact hi
      | ok u R1 =>
        rw [hq] at hi
        obtain ⟨i1, i2, i3, i4⟩ := hi
        rw [bnd_ok]
        have hr := ihal l u (atP e R) R1 (by omega) (hg.step i1) i3 i4
        cases hq2 : appL e f l u R1 using Rs.cs with
        | bad p x => rw [hq2] at hr; exact BadIn.up hr (fun v hv => i1.mem hv)
        | ok t R2 => rw [hq2] at hr; exact ⟨i1.trans hr.1, by have := hr.1.len; omega, hr.2⟩
    · -- appL
      intro l t a R hf hg ht hv
      rw [appL_s]
      by_cases h1 : sees [64] R = true
      · rw [if_pos h1]
        obtain ⟨b, R1, rfl, hb⟩ := sees_split (by simp) h1
        have hi := ihd (l + 1) R1 (by simp at hf; omega) hg.tail
        show InvL Lk e a _ ((dimP e f (l + 1) R1).bnd _)
        cases hq : dimP e f (l + 1) R1 using Rs.cs with
        | bad p x => rw [hq] at hi; exact BadIn.up hi (fun v hv => by simp [hv])
        | ok u R2 =>
          rw [hq] at hi
          obtain ⟨i1, i2, i3, i4⟩ := hi
          rw [bnd_ok]
          have hu : Wt Lk t.at_ u := (part_low hg (fun v hv => hv) i3 (ne_of_lt i2)).low (hv b (by simp))
          have hr := ihal l (two 7 t u) a R2 (by simp at hf; omega) (hg.tail.step i1) (ht.two hu (by omega) (by omega)) (fun v hm => hv v (by simp [i1.mem hm]))
          cases hq2 : appL e f l (two 7 t u) R2 using Rs.cs with
          | bad p x => rw [hq2] at hr; exact BadIn.up hr (fun v hv => by simp [i1.mem hv])
          | ok t3 R3 => rw [hq2] at hr; exact ⟨((Step.pass (by rw [hb]; decide) (by rw [hb]; decide)).trans i1).trans hr.1, hr.2⟩
      · rw [if_neg h1]
        by_cases h2 : (isN R || (sees [40] R || sees [91] R)) = true
        · rw [if_pos h2]
          have hi := iho l R (by omega) hg
          cases hq : atomP e f l R using Rs.cs with
          | bad p x => rw [hq] at hi; exact hi
          | ok u R2 =>
            rw [hq] at hi
            obtain ⟨i1, i2, i3, i4⟩ := hi
            rw [bnd_ok]
            have hu : Wt Lk t.at_ u := by
              refine i3.low ?_
              cases R with
              | nil => simp at i2
              | cons c R => exact hv c (by simp)
            have hr := ihal l (two 6 t u) a R2 (by omega) (hg.step i1) (ht.two hu (by omega) (by omega)) (fun v hm => hv v (i1.mem hm))
            cases hq2 : appL e f l (two 6 t u) R2 using Rs.cs with
            | bad p x => rw [hq2] at hr; exact BadIn.up hr (fun v hv => i1.mem hv)
            | ok t3 R3 => rw [hq2] at hr; exact ⟨i1.trans hr.1, hr.2⟩
        · rw [if_neg h2]; exact ⟨Step.refl _, ht, hv⟩
    · -- atom
      intro l R hf hg
      rw [atomP_s]
      by_cases h1 : isN R = true
      · rw [if_pos h1]
        obtain ⟨t, R1, rfl, hk⟩ := isN_split h1
        have hn := name_not (hg.nam t (by simp) hk)
        exact ⟨Step.pass hn.1 hn.2, by simp, wt_here hg 1 _ _ _ (by omega) (by omega) (fun _ => rfl) (fun k hk => by simp at hk), fun v hv => hg.up.1 v hv⟩
      · rw [if_neg h1]
        by_cases h2 : sees [91] R = true
        · rw [if_pos h2]
          obtain ⟨t, R1, rfl, ht⟩ := sees_split (by simp) h2
          exact ihx l t R1 (by simp at hf; omega) hg ht
        · rw [if_neg h2]
          exact ihk l R (by omega) hg
    · -- brackets
      intro l R hf hg
      rw [brackP_s]
      rcases must_cases e [40] (by simp) R with ⟨a, R1, rfl, ha, e1⟩ | e1
      · rw [e1, bnd_ok]
        have hi := iht (l + 1) R1 (by simp at hf; omega) hg.tail
        cases hq : termP e f (l + 1) R1 using Rs.cs with
        | bad p x => rw [hq] at hi; exact BadIn.up hi (fun v hv => by simp [hv])
        | ok t R2 =>
          rw [hq] at hi
          obtain ⟨i1, i2, i3, i4⟩ := hi
          rw [bnd_ok]
          have two_case : ∀ (k : Nat) (s : Bs), 2 ≤ k → k ≤ 17 → s ≠ [] → s ≠ [40] → s ≠ [41] → sees s R2 = true →
              Inv Lk e (a :: R1) ((termP e f (l + 1) R2.tail).bnd fun u R3 => (mustP e [41] R3).bnd fun _ R4 => .ok (.mk k [] [t, u] [] (atP e (a :: R1))) R4) := by
            intro k s hk hk2 hs hs1 hs2 hsee
            obtain ⟨b, R3, rfl, hb⟩ := sees_split hs hsee
            have s3 : Step R1 R3 := i1.trans (Step.pass (by rw [hb]; exact hs1) (by rw [hb]; exact hs2))
            have hr := iht (l + 1) R3 (by simp at hf i2; omega) (hg.tail.step s3)
            show Inv Lk e (a :: R1) ((termP e f (l + 1) R3).bnd _)
            cases hq2 : termP e f (l + 1) R3 using Rs.cs with
            | bad p x => rw [hq2] at hr; exact BadIn.up hr (fun v hv => by simp [s3.mem hv])
            | ok u R4 =>
              rw [hq2] at hr
              obtain ⟨j1, j2, j3, j4⟩ := hr
              rw [bnd_ok]
              rcases must_cases e [41] (by simp) R4 with ⟨c, R5, rfl, hc, e2⟩ | e2
              · rw [e2, bnd_ok]
                refine ⟨Step.paren ha hc (s3.trans j1), by simp at i2 j2 ⊢; omega, wt_here hg k _ _ _ (by omega) hk2 (fun h => by omega) (fun kid hm => ?_), fun v hv => hg.up.1 v (s3.mem (j1.mem (by simp [hv])))⟩
                simp at hm
                rcases hm with rfl | rfl
                · exact part_low hg (fun v hv => hv) i3 (ne_of_lt i2)
                · exact part_low hg (fun v hv => s3.mem hv) j3 (ne_of_lt j2)
              · rw [e2]; exact (bad_here e 61 _ (.inl rfl)).up (fun v hv => by simp [s3.mem (j1.mem hv)])
          by_cases h1 : sees [44] R2 = true
          · rw [if_pos h1]; exact two_case 8 [44] (by omega) (by omega) (by simp) (by decide) (by decide) h1
          · rw [if_neg h1]
            by_cases h2 : sees [58] R2 = true
            · rw [if_pos h2]; exact two_case 9 [58] (by omega) (by omega) (by simp) (by decide) (by decide) h2
            · rw [if_neg h2]
              rcases must_cases e [41] (by simp) R2 with ⟨c, R5, rfl, hc, e2⟩ | e2
              · rw [e2, bnd_ok]
                exact ⟨Step.paren ha hc i1, by simp at i2 ⊢; omega, (part_low hg (fun v hv => hv) i3 (ne_of_lt i2)), fun v hv => i4 v (by simp [hv])⟩
              · rw [e2]; exact (bad_here e 61 _ (.inl rfl)).up (fun v hv => by simp [i1.mem hv])
      · rw [e1]; exact bad_here e 61 _ (.inl rfl)
    · -- box
      intro l t R hf hg ht
      rw [boxP_s]
      have s0 : Step (t :: R) R := Step.pass (by rw [ht]; decide) (by rw [ht]; decide)
      show Inv Lk e (t :: R) (if sees [93] R = true then _ else (elemP e f l R).bnd _)
      by_cases h1 : sees [93] R = true
      · rw [if_pos h1]
        obtain ⟨b, R1, rfl, hb⟩ := sees_split (by simp) h1
        exact ⟨s0.trans (Step.pass (by rw [hb]; decide) (by rw [hb]; decide)), by simp; omega, wt_here hg 10 _ _ _ (by omega) (by omega) (fun h => by omega) (fun k hk => by simp at hk), fun v hv => hg.up.1 v (by simp [show v ∈ R1 from hv])⟩
      · rw [if_neg h1]
        have hi := ihe l R (by omega) hg.tail
        cases hq : elemP e f l R using Rs.cs with
        | bad p x => rw [hq] at hi; exact BadIn.up hi (fun v hv => by simp [hv])
        | ok u R1 =>
          rw [hq] at hi
          obtain ⟨i1, i2, i3, i4⟩ := hi
          rw [bnd_ok]
          have hr := ihxl l t.at_ [u] R1 t.text (by omega) (hg.tail.step i1) (hg.lk t (by simp)) (fun kid hm => by simp at hm; subst hm; exact part_low hg (fun v hv => hv) i3 (ne_of_lt i2)) (fun v hv => hg.up.1 v (i1.mem hv))
          show Inv Lk e (t :: R) (boxL e f l t.at_ [u] R1)
          cases hq2 : boxL e f l t.at_ [u] R1 using Rs.cs with
          | bad p x => rw [hq2] at hr; exact BadIn.up hr (fun v hv => by simp [i1.mem hv])
          | ok t3 R3 => rw [hq2] at hr; exact ⟨s0.trans (i1.trans hr.1), by have := hr.1.len; simp; omega, hr.2⟩
    · -- boxL
      intro l p acc R tx hf hg hp hacc hv
      rw [boxL_s]
      by_cases h1 : sees [44] R = true
      · rw [if_pos h1]
        obtain ⟨b, R1, rfl, hb⟩ := sees_split (by simp) h1
        have hi := ihe l R1 (by simp at hf; omega) hg.tail
        show InvL Lk e p _ ((elemP e f l R1).bnd _)
        cases hq : elemP e f l R1 using Rs.cs with
        | bad q x => rw [hq] at hi; exact BadIn.up hi (fun v hv => by simp [hv])
        | ok u R2 =>
          rw [hq] at hi
          obtain ⟨i1, i2, i3, i4⟩ := hi
          rw [bnd_ok]
          have hu : Wt Lk p u := (part_low hg (fun v hv => hv) i3 (ne_of_lt i2)).low (hv b (by simp))
          have hr := ihxl l p (acc ++ [u]) R2 tx (by simp at hf; omega) (hg.tail.step i1) hp (fun kid hm => by
            rcases List.mem_append.1 hm with hm | hm
            · exact hacc kid hm
            · simp at hm; subst hm; exact hu) (fun v hm => hv v (by simp [i1.mem hm]))
          cases hq2 : boxL e f l p (acc ++ [u]) R2 using Rs.cs with
          | bad q x => rw [hq2] at hr; exact BadIn.up hr (fun v hv => by simp [i1.mem hv])
          | ok t3 R3 => rw [hq2] at hr; exact ⟨((Step.pass (by rw [hb]; decide) (by rw [hb]; decide)).trans i1).trans hr.1, hr.2⟩
      · rw [if_neg h1]
        rcases must_cases e [93] (by simp) R with ⟨b, R1, rfl, hb, e2⟩ | e2
        · rw [e2, bnd_ok]
          exact ⟨Step.pass (by rw [hb]; decide) (by rw [hb]; decide), .mk _ 10 _ _ _ _ tx hp (fun h => by omega) (Nat.le_refl _) (by omega) (by omega) hacc, fun v hm => hv v (by simp [hm])⟩
        · rw [e2]; exact bad_here e 61 _ (.inl rfl)
    · -- elem
      intro l R hf hg
      rw [elemP_s]
      have hi := face_inv (Lk := Lk) e f R (by omega) hg
      cases hq : faceP e f R using Rs.cs with
      | bad p x => rw [hq] at hi; exact hi
      | ok c R1 =>
        rw [hq] at hi
        obtain ⟨i1, i2, i3, i4⟩ := hi
        rw [bnd_ok]
        obtain ⟨t, R0, rfl⟩ : ∃ t R0, R = t :: R0 := by
          cases R with
          | nil => simp at i2
          | cons t R0 => exact ⟨t, R0, rfl⟩
        have hup : ∀ v ∈ R1, atP e (t :: R0) ≤ v.at_ := fun v hv => up_head hg v (i1.mem hv)
        by_cases h1 : sees [45, 62] R1 = true
        · rw [if_pos h1]
          obtain ⟨b, R2, rfl, hb⟩ := sees_split (by simp) h1
          have s2 : Step (t :: R0) R2 := i1.trans (Step.pass (by rw [hb]; decide) (by rw [hb]; decide))
          have hr := iht (l + 1) R2 (by simp at i2; simp at hf; omega) (hg.step s2)
          show Inv Lk e (t :: R0) ((termP e f (l + 1) R2).bnd _)
          cases hq2 : termP e f (l + 1) R2 using Rs.cs with
          | bad p x => rw [hq2] at hr; exact BadIn.up hr (fun v hv => s2.mem hv)
          | ok u R3 =>
            rw [hq2] at hr
            obtain ⟨j1, j2, j3, j4⟩ := hr
            rw [bnd_ok]
            refine ⟨s2.trans j1, by have := s2.len; omega, wt_here hg 11 _ _ _ (by omega) (by omega) (fun h => by omega) (fun kid hm => ?_), fun v hv => hup v (by simp [j1.mem hv])⟩
            simp at hm
            rcases hm with rfl | rfl
            · exact i3
            · refine j3.low ?_
              cases R2 with
              | nil => simp at j2
              | cons d R2 => exact hup d (by simp)
        · rw [if_neg h1]
          exact ⟨i1, i2, wt_here hg 11 _ _ _ (by omega) (by omega) (fun h => by omega) (fun kid hm => by simp at hm; subst hm; exact i3), hup⟩
end Go.Proofs.YtahnbigkdfmpbaaDoor
