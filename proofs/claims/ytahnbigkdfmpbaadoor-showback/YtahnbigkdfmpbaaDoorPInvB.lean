/- What every rule keeps, further: dims and terms. -/
import Derived.Test.YtahnbigkdfmpbaaDoorPInv
namespace Go.Proofs.YtahnbigkdfmpbaaDoor
set_option linter.unusedVariables false
set_option linter.unusedSimpArgs false

theorem enter_cases (e l : Nat) (S : List Bs) (R : Ts) (k : Rs Tr) : (∃ x, (x = 61 ∨ x = 62) ∧ enterQ e l S R k = .bad (atP e R) x) ∨ ((isN R = true ∨ txt R ∈ S) ∧ l ≤ 200 ∧ enterQ e l S R k = k) := by
  unfold enterQ
  by_cases h : (isN R || decide (txt R ∈ S)) = true
  · rw [if_pos h]
    by_cases h2 : 200 < l
    · left; exact ⟨62, .inr rfl, by rw [if_pos h2]; rfl⟩
    · right
      refine ⟨?_, by omega, by rw [if_neg h2]⟩
      simpa using h
  · left; exact ⟨61, .inl rfl, by rw [if_neg h]; rfl⟩
theorem lk_head {Lk : Nat → Option Bs} {e : Nat} {t : Tok} {R : Ts} (hg : GoodR Lk (t :: R)) : Lk (atP e (t :: R)) = some t.text := hg.lk t (by simp)
/-- A tree that begins at the token that is next. -/
theorem wt_here {Lk : Nat → Option Bs} {e : Nat} {t : Tok} {R : Ts} (hg : GoodR Lk (t :: R)) (k : Nat) (nm : Bs) (kids : List Tr) (ns : List Bs) (hk1 : 1 ≤ k) (hk2 : k ≤ 17) (hn : k = 1 → t.text = nm) (hkids : ∀ kid ∈ kids, Wt Lk t.at_ kid) : Wt Lk (atP e (t :: R)) (.mk k nm kids ns (atP e (t :: R))) :=
  .mk _ k nm kids ns _ _ (lk_head hg) hn (Nat.le_refl _) hk1 hk2 hkids
/-- A part that was read behind the token that is next begins behind it. -/
theorem part_low {Lk : Nat → Option Bs} {e : Nat} {t : Tok} {R R1 : Ts} {u : Tr} (hg : GoodR Lk (t :: R)) (hs : ∀ v ∈ R1, v ∈ R) (hw : Wt Lk (atP e R1) u) (hl : R1 ≠ []) : Wt Lk t.at_ u := by
  refine hw.low ?_
  cases R1 with
  | nil => exact absurd rfl hl
  | cons a R1 => exact hg.up.1 a (hs a (by simp))
theorem ne_of_lt {R R' : Ts} (h : R'.length < R.length) : R ≠ [] := by rintro rfl; simp at h

theorem dims_inv {Lk : Nat → Option Bs} (e : Nat) : ∀ f : Nat,
    (∀ l R, 10 * R.length + 1 ≤ f → GoodR Lk R → Inv Lk e R (dimP e f l R)) ∧
    (∀ l R, 10 * R.length + 3 ≤ f → GoodR Lk R → Inv Lk e R (joinP e f l R)) ∧
    (∀ l t a R, 10 * R.length + 1 ≤ f → GoodR Lk R → Wt Lk a t → (∀ v ∈ R, t.at_ ≤ v.at_) → InvL Lk e a R (joinL e f l t R)) ∧
    (∀ l R, 10 * R.length + 2 ≤ f → GoodR Lk R → Inv Lk e R (meetP e f l R)) ∧
    (∀ l t a R, 10 * R.length + 1 ≤ f → GoodR Lk R → Wt Lk a t → (∀ v ∈ R, t.at_ ≤ v.at_) → InvL Lk e a R (meetL e f l t R)) := by
  intro f
  induction f with
  | zero => exact ⟨fun _ _ h => by omega, fun _ _ h => by omega, fun _ _ _ _ h => by omega, fun _ _ h => by omega, fun _ _ _ _ h => by omega⟩
  | succ f ih =>
    obtain ⟨ihd, ihj, ihjl, ihm, ihml⟩ := ih
    refine ⟨?_, ?_, ?_, ?_, ?_⟩
    · intro l R hf hg
      rw [dimP_s]
      rcases enter_cases e l [[48], [49], [126], [40]] R (if isN R then .ok (.mk 1 (txt R) [] [] (atP e R)) R.tail
     else if sees [126] R then (dimP e f (l + 1) R.tail).bnd fun d R1 => .ok (.mk 16 [] [d] [] (atP e R)) R1
     else if sees [40] R then (joinP e f (l + 1) R.tail).bnd fun j R1 => (mustP e [41] R1).bnd fun _ R2 => .ok j R2
     else (digitP e R).bnd fun d R1 => .ok (.mk 17 d [] [] (atP e R)) R1) with ⟨x, hx, e1⟩ | ⟨hb, _, e1⟩
      · rw [e1]; exact bad_here e x R hx
      · rw [e1]
        by_cases hN : isN R = true
        · rw [if_pos hN]
          obtain ⟨t, R1, rfl, hk⟩ := isN_split hN
          have hn := name_not (hg.nam t (by simp) hk)
          exact ⟨Step.pass hn.1 hn.2, by simp, wt_here hg 1 _ _ _ (by omega) (by omega) (fun _ => rfl) (fun k hk => by simp at hk), fun v hv => hg.up.1 v hv⟩
        · rw [if_neg hN]
          by_cases h1 : sees [126] R = true
          · rw [if_pos h1]
            obtain ⟨t, R1, rfl, ht⟩ := sees_split (by simp) h1
            have hi := ihd (l + 1) R1 (by simp at hf; omega) hg.tail
            show Inv Lk e _ ((dimP e f (l + 1) R1).bnd _)
            cases hq : dimP e f (l + 1) R1 using Rs.cs with
            | bad p x => rw [hq] at hi; exact BadIn.up hi (fun v hv => by simp [hv])
            | ok u R2 =>
              rw [hq] at hi
              obtain ⟨i1, i2, i3, i4⟩ := hi
              rw [bnd_ok]
              refine ⟨(Step.pass (by rw [ht]; decide) (by rw [ht]; decide)).trans i1, by simp; omega, wt_here hg 16 _ _ _ (by omega) (by omega) (fun h => by omega) (fun k hk => ?_), fun v hv => hg.up.1 v (i1.mem hv)⟩
              simp at hk; subst hk
              exact part_low hg (fun v hv => hv) i3 (ne_of_lt i2)
          · rw [if_neg h1]
            by_cases h2 : sees [40] R = true
            · rw [if_pos h2]
              obtain ⟨t, R1, rfl, ht⟩ := sees_split (by simp) h2
              have hi := ihj (l + 1) R1 (by simp at hf; omega) hg.tail
              show Inv Lk e _ ((joinP e f (l + 1) R1).bnd _)
              cases hq : joinP e f (l + 1) R1 using Rs.cs with
              | bad p x => rw [hq] at hi; exact BadIn.up hi (fun v hv => by simp [hv])
              | ok u R2 =>
                rw [hq] at hi
                obtain ⟨i1, i2, i3, i4⟩ := hi
                rw [bnd_ok]
                rcases must_cases e [41] (by simp) R2 with ⟨c, R3, rfl, hc, e2⟩ | e2
                · rw [e2, bnd_ok]
                  exact ⟨Step.paren ht hc i1, by simp at i2 ⊢; omega, (part_low hg (fun v hv => hv) i3 (ne_of_lt i2)), fun v hv => i4 v (by simp [hv])⟩
                · rw [e2]; exact (bad_here e 61 _ (.inl rfl)).up (fun v hv => by simp [i1.mem hv])
            · rw [if_neg h2]
              rcases digit_cases e R with ⟨d, R1, rfl, hd, e2⟩ | e2
              · rw [e2, bnd_ok]
                exact ⟨Step.pass (by rcases hd with h | h <;> rw [h] <;> decide) (by rcases hd with h | h <;> rw [h] <;> decide), by simp, wt_here hg 17 _ _ _ (by omega) (by omega) (fun h => by omega) (fun k hk => by simp at hk), fun v hv => hg.up.1 v hv⟩
              · rw [e2]; exact bad_here e 61 _ (.inl rfl)
    · intro l R hf hg
      rw [joinP_s]
      have hi := ihm l R (by omega) hg
      cases hq : meetP e f l R using Rs.cs with
      | bad p x => rw [hq] at hi; exact hi
      | ok u R1 =>
        rw [hq] at hi
        obtain ⟨i1, i2, i3, i4⟩ := hi
        rw [bnd_ok]
        have hr := ihjl l u (atP e R) R1 (by omega) (hg.step i1) i3 i4
        cases hq2 : joinL e f l u R1 using Rs.cs with
        | bad p x => rw [hq2] at hr; exact BadIn.up hr (fun v hv => i1.mem hv)
        | ok t R2 => rw [hq2] at hr; exact ⟨i1.trans hr.1, by have := hr.1.len; omega, hr.2⟩
    · intro l t a R hf hg ht hv
      rw [joinL_s]
      by_cases h1 : sees [92, 47] R = true
      · rw [if_pos h1]
        obtain ⟨b, R1, rfl, hb⟩ := sees_split (by simp) h1
        have hi := ihm l R1 (by simp at hf; omega) hg.tail
        show InvL Lk e a _ ((meetP e f l R1).bnd _)
        cases hq : meetP e f l R1 using Rs.cs with
        | bad p x => rw [hq] at hi; exact BadIn.up hi (fun v hv => by simp [hv])
        | ok u R2 =>
          rw [hq] at hi
          obtain ⟨i1, i2, i3, i4⟩ := hi
          rw [bnd_ok]
          have hu : Wt Lk t.at_ u := (part_low hg (fun v hv => hv) i3 (ne_of_lt i2)).low (hv b (by simp))
          have hr := ihjl l (two 14 t u) a R2 (by simp at hf; omega) (hg.tail.step i1) (ht.two hu (by omega) (by omega)) (fun v hm => hv v (by simp [i1.mem hm]))
          cases hq2 : joinL e f l (two 14 t u) R2 using Rs.cs with
          | bad p x => rw [hq2] at hr; exact BadIn.up hr (fun v hv => by simp [i1.mem hv])
          | ok t3 R3 => rw [hq2] at hr; exact ⟨((Step.pass (by rw [hb]; decide) (by rw [hb]; decide)).trans i1).trans hr.1, hr.2⟩
      · rw [if_neg h1]; exact ⟨Step.refl _, ht, hv⟩
    · intro l R hf hg
      rw [meetP_s]
      have hi := ihd l R (by omega) hg
      cases hq : dimP e f l R using Rs.cs with
      | bad p x => rw [hq] at hi; exact hi
      | ok u R1 =>
        rw [hq] at hi
        obtain ⟨i1, i2, i3, i4⟩ := hi
        rw [bnd_ok]
        have hr := ihml l u (atP e R) R1 (by omega) (hg.step i1) i3 i4
        cases hq2 : meetL e f l u R1 using Rs.cs with
        | bad p x => rw [hq2] at hr; exact BadIn.up hr (fun v hv => i1.mem hv)
        | ok t R2 => rw [hq2] at hr; exact ⟨i1.trans hr.1, by have := hr.1.len; omega, hr.2⟩
    · intro l t a R hf hg ht hv
      rw [meetL_s]
      by_cases h1 : sees [47, 92] R = true
      · rw [if_pos h1]
        obtain ⟨b, R1, rfl, hb⟩ := sees_split (by simp) h1
        have hi := ihd l R1 (by simp at hf; omega) hg.tail
        show InvL Lk e a _ ((dimP e f l R1).bnd _)
        cases hq : dimP e f l R1 using Rs.cs with
        | bad p x => rw [hq] at hi; exact BadIn.up hi (fun v hv => by simp [hv])
        | ok u R2 =>
          rw [hq] at hi
          obtain ⟨i1, i2, i3, i4⟩ := hi
          rw [bnd_ok]
          have hu : Wt Lk t.at_ u := (part_low hg (fun v hv => hv) i3 (ne_of_lt i2)).low (hv b (by simp))
          have hr := ihml l (two 15 t u) a R2 (by simp at hf; omega) (hg.tail.step i1) (ht.two hu (by omega) (by omega)) (fun v hm => hv v (by simp [i1.mem hm]))
          cases hq2 : meetL e f l (two 15 t u) R2 using Rs.cs with
          | bad p x => rw [hq2] at hr; exact BadIn.up hr (fun v hv => by simp [i1.mem hv])
          | ok t3 R3 => rw [hq2] at hr; exact ⟨((Step.pass (by rw [hb]; decide) (by rw [hb]; decide)).trans i1).trans hr.1, hr.2⟩
      · rw [if_neg h1]; exact ⟨Step.refl _, ht, hv⟩
end Go.Proofs.YtahnbigkdfmpbaaDoor
