/- For ShowBack: the text of a tree that may be scans to its tokens. -/
import Derived.Test.YtahnbigkdfmpbaaDoorBTok
namespace Go.Proofs.YtahnbigkdfmpbaaDoor
set_option linter.unusedVariables false
set_option linter.unusedSimpArgs false

theorem not47_names {ns : List Bs} (h : ns.all nameB = true) (h0 : ns ≠ []) (r : Bs) : Not1 47 (jn [32] ns ++ r) := by
  match ns, h0 with
  | x :: l, _ =>
    rw [List.all_cons, Bool.and_eq_true] at h
    match x, h.1 with
    | c :: t, hx =>
      unfold nameB at hx
      rw [Bool.and_eq_true] at hx
      intro d u e
      simp only [jn, List.cons_append] at e
      injection e with e _
      rw [← e]
      intro e2
      have h9 := hx.1
      unfold letterB at h9
      rw [e2] at h9
      simp at h9
theorem lx_digit {s : Bs} (h : digB s = true) : LxOK s [sg s] := by
  intro r us hr hs
  unfold digB at h
  simp only [Bool.or_eq_true, decide_eq_true_eq] at h
  rcases h with rfl | rfl
  · exact sc_zero hs
  · exact sc_unit hs
theorem lx_kids {line : Sx → Bs} {lk : Sx → List Kt} {l : List Sx} (h : ∀ x ∈ l, LxOK (line x) (lk x)) : LxOK (jn [44, 32] (l.map line)) (jnK (sg [44]) (l.map lk)) := by
  intro r us hr hs
  cases l with
  | nil => simpa [jn, jnK] using hs
  | cons x l =>
    have tail : ∀ m : List Sx, (∀ y ∈ m, LxOK (line y) (lk y)) → Sc (((m.map line).map fun y => [44, 32] ++ y).flatten ++ r) (((m.map lk).map fun y => sg [44] :: y).flatten ++ us) ∧ Brk (((m.map line).map fun y => [44, 32] ++ y).flatten ++ r) := by
      intro m
      induction m with
      | nil => intro _; exact ⟨by simpa using hs, by simpa using hr⟩
      | cons y m ih =>
        intro hm
        obtain ⟨h1, h2⟩ := ih (fun z hz => hm z (by simp [hz]))
        refine ⟨?_, ?_⟩
        · have := sc_comma (sc_gap (hm y (by simp) _ _ h2 h1))
          simpa [sg] using this
        · have := brk_of (32 :: (line y ++ (((m.map line).map fun y => [44, 32] ++ y).flatten ++ r))) (c := 44) (by decide)
          simpa using this
    obtain ⟨h1, h2⟩ := tail l (fun z hz => h z (by simp [hz]))
    have := h x (by simp) _ _ h2 h1
    simpa [jn, jnK] using this
theorem lx_eq {q : Sx} (h : eqB q = true) : LxOK (eqR q) [sg [40], nk q.name, sg [61], sg (q.names.headD []), sg [41]] := by
  unfold eqB at h
  simp only [Bool.and_eq_true, decide_eq_true_eq] at h
  obtain ⟨_, hn, hd, _⟩ := h
  unfold digitsB at hd
  match hq : q.names, hd with
  | [d], hd =>
    intro r us hr hs
    unfold eqR
    rw [hq]
    have h1 := lx_digit hd (41 :: r) _ (brk_of r (by decide)) (sc_shut hs)
    have h2 := sc_open (sc_name hn (brk_of _ (c := 61) (by decide)) (sc_equal h1))
    simpa [sg, nk] using h2
/-- The text of a tree that may be scans to its tokens. -/
theorem lx_line (f : Nat) : ∀ (g : Nat) (t : Sx), okF f g t = true → LxOK (lineF f t) (lineK f t) := by
  induction f with
  | zero => intro g t h; rw [okF_z] at h; cases h
  | succ f ih =>
    intro g t h
    rw [okF_s] at h
    rw [lineF_s, show lineK (f + 1) t = lineKR (lineK f) t from rfl]
    have hp : ∀ (pl g : Nat) (x : Sx), okF f g x = true → LxOK (partF f pl x) (partK f pl x) := fun pl g x hx => lx_part (ih g x hx)
    have name1 : t.kind = 1 → nameTreeB t = true → LxOK (lineR (lineF f) t) (lineKR (lineK f) t) := fun hk hn => by
      unfold nameTreeB at hn
      rw [Bool.and_eq_true] at hn
      unfold lineR lineKR
      rw [if_pos (by omega), if_pos hk]
      intro r us hr hs
      exact sc_name hn.1 hr hs
    unfold okR at h
    by_cases g0 : g = 0
    · rw [if_pos g0] at h
      unfold termB at h
      by_cases h1 : t.kind = 1
      · rw [if_pos h1] at h; exact name1 h1 h
      rw [if_neg h1] at h
      by_cases h2 : t.kind = 2 ∨ t.kind = 3
      · rw [if_pos h2] at h
        simp only [Bool.and_eq_true, decide_eq_true_eq] at h
        obtain ⟨_, hne, hna, hka⟩ := h
        obtain ⟨a, hl, hoa⟩ := are1_inv hka
        have k0 : kd t 0 = a := by unfold kd; rw [hl]; rfl
        intro r us hr hs
        have q := hp 0 0 a hoa r us hr hs
        rcases h2 with h2 | h2
        · unfold lineR lineKR
          rw [if_neg (by omega), if_pos h2, if_neg (by omega), if_neg (by omega), if_pos h2, k0]
          have q2 := sc_lam (not47_names hna hne _) (sc_names hna hne _ _ (brk_of _ (c := 46) (by decide)) (sc_dot (sc_gap q)))
          simpa [sg, partF, partK] using q2
        · unfold lineR lineKR
          rw [if_neg (by omega), if_neg (by omega), if_pos h2, if_neg (by omega), if_neg (by omega), if_neg (by omega), if_pos h2, k0]
          have q2 := sc_less (sc_names hna hne _ _ (brk_of _ (c := 62) (by decide)) (sc_more (sc_gap q)))
          simpa [sg, partF, partK] using q2
      rw [if_neg h2] at h
      by_cases h3 : t.kind = 4 ∨ t.kind = 5
      · rw [if_pos h3] at h
        simp only [Bool.and_eq_true, decide_eq_true_eq] at h
        obtain ⟨_, hlt, hna, hka⟩ := h
        obtain ⟨a, c, hl, hoa, hoc⟩ := are2_inv hka
        have k0 : kd t 0 = a := by unfold kd; rw [hl]; rfl
        have k1 : kd t 1 = c := by unfold kd; rw [hl]; rfl
        have arr : ∀ (sgn : Bs) (sk : Bs), (∀ r us, Sc r us → Sc (sgn ++ r) (sg sk :: us)) → (∀ r, Brk (sgn ++ r)) → LxOK (arrowR (lineF f) t sgn) (arrowK (lineK f) t sk) := by
          intro sgn sk hsg hbk r us hr hs
          have q := hsg _ _ (hp 0 0 c hoc r us hr hs)
          unfold arrowR arrowK
          rw [k0, k1]
          match hnm : t.names, hlt with
          | [], _ =>
            rw [if_pos rfl, if_pos rfl]
            have q2 := hp 1 0 a hoa _ _ (hbk _) q
            simpa [sg, partF, partK] using q2
          | [x], _ =>
            rw [if_neg (by simp), if_neg (by simp)]
            rw [hnm] at hna
            simp only [List.all_cons, List.all_nil, Bool.and_true] at hna
            have q2 := hp 0 0 a hoa _ _ (brk_of _ (c := 41) (by decide)) (sc_shut q)
            have q3 := sc_open (sc_name hna (brk_of _ (c := 32) (by decide)) (sc_gap (sc_colon (sc_gap q2))))
            simpa [sg, nk, partF, partK] using q3
        rcases h3 with h3 | h3
        · unfold lineR lineKR
          rw [if_neg (by omega), if_neg (by omega), if_neg (by omega), if_pos h3, if_neg (by omega), if_neg (by omega), if_neg (by omega), if_neg (by omega), if_pos h3]
          exact arr [32, 45, 62, 32] [45, 62] (fun r us hs => sc_gap (sc_arrow (sc_gap hs))) (fun r => brk_of _ (c := 32) (by decide))
        · unfold lineR lineKR
          rw [if_neg (by omega), if_neg (by omega), if_neg (by omega), if_neg (by omega), if_pos h3, if_neg (by omega), if_neg (by omega), if_neg (by omega), if_neg (by omega), if_neg (by omega), if_pos h3]
          exact arr [32, 42, 32] [42] (fun r us hs => sc_gap (sc_star (sc_gap hs))) (fun r => brk_of _ (c := 32) (by decide))
      rw [if_neg h3] at h
      by_cases h4 : t.kind = 6 ∨ t.kind = 8 ∨ t.kind = 9
      · rw [if_pos h4, Bool.and_eq_true] at h
        obtain ⟨a, c, hl, hoa, hoc⟩ := are2_inv h.2
        have k0 : kd t 0 = a := by unfold kd; rw [hl]; rfl
        have k1 : kd t 1 = c := by unfold kd; rw [hl]; rfl
        intro r us hr hs
        rcases h4 with h4 | h4 | h4
        · unfold lineR lineKR
          rw [if_neg (by omega), if_neg (by omega), if_neg (by omega), if_neg (by omega), if_neg (by omega), if_pos h4, if_neg (by omega), if_neg (by omega), if_neg (by omega), if_neg (by omega), if_neg (by omega), if_neg (by omega), if_pos h4, k0, k1]
          have q := hp 2 0 a hoa _ _ (brk_of _ (c := 32) (by decide)) (sc_gap (hp 3 0 c hoc r us hr hs))
          simpa [sg, partF, partK] using q
        · unfold lineR lineKR
          rw [if_neg (by omega), if_neg (by omega), if_neg (by omega), if_neg (by omega), if_neg (by omega), if_neg (by omega), if_neg (by omega), if_pos h4, if_neg (by omega), if_neg (by omega), if_neg (by omega), if_neg (by omega), if_neg (by omega), if_neg (by omega), if_neg (by omega), if_neg (by omega), if_pos h4, k0, k1]
          have q := sc_open (hp 0 0 a hoa _ _ (brk_of _ (c := 44) (by decide)) (sc_comma (sc_gap (hp 0 0 c hoc _ _ (brk_of _ (c := 41) (by decide)) (sc_shut hs)))))
          simpa [sg, partF, partK] using q
        · unfold lineR lineKR
          rw [if_neg (by omega), if_neg (by omega), if_neg (by omega), if_neg (by omega), if_neg (by omega), if_neg (by omega), if_neg (by omega), if_neg (by omega), if_pos h4, if_neg (by omega), if_neg (by omega), if_neg (by omega), if_neg (by omega), if_neg (by omega), if_neg (by omega), if_neg (by omega), if_neg (by omega), if_neg (by omega), if_pos h4, k0, k1]
          have q := sc_open (hp 0 0 a hoa _ _ (brk_of _ (c := 32) (by decide)) (sc_gap (sc_colon (sc_gap (hp 0 0 c hoc _ _ (brk_of _ (c := 41) (by decide)) (sc_shut hs))))))
          simpa [sg, partF, partK] using q
      rw [if_neg h4] at h
      by_cases h7 : t.kind = 7
      · rw [if_pos h7, Bool.and_eq_true] at h
        obtain ⟨a, c, hl, hoa, hoc⟩ := are2_inv h.2
        have k0 : kd t 0 = a := by unfold kd; rw [hl]; rfl
        have k1 : kd t 1 = c := by unfold kd; rw [hl]; rfl
        intro r us hr hs
        unfold lineR lineKR
        rw [if_neg (by omega), if_neg (by omega), if_neg (by omega), if_neg (by omega), if_neg (by omega), if_neg (by omega), if_pos h7, if_neg (by omega), if_neg (by omega), if_neg (by omega), if_neg (by omega), if_neg (by omega), if_neg (by omega), if_neg (by omega), if_pos h7, k0, k1]
        have q := hp 2 0 a hoa _ _ (brk_of _ (c := 32) (by decide)) (sc_gap (sc_at (sc_gap (hp 6 1 c hoc r us hr hs))))
        simpa [sg, partF, partK] using q
      rw [if_neg h7] at h
      by_cases h10 : t.kind = 10
      · rw [if_pos h10, Bool.and_eq_true] at h
        intro r us hr hs
        unfold lineR lineKR
        rw [if_neg (by omega), if_neg (by omega), if_neg (by omega), if_neg (by omega), if_neg (by omega), if_neg (by omega), if_neg (by omega), if_neg (by omega), if_neg (by omega), if_pos h10, if_neg (by omega), if_neg (by omega), if_neg (by omega), if_neg (by omega), if_neg (by omega), if_neg (by omega), if_neg (by omega), if_neg (by omega), if_neg (by omega), if_neg (by omega), if_pos h10]
        have q := sc_bopen (lx_kids (fun x hx => ih 2 x (List.all_eq_true.1 h.2 x hx)) _ _ (brk_of _ (c := 93) (by decide)) (sc_bshut hs))
        simpa [sg] using q
      rw [if_neg h10] at h
      cases h
    rw [if_neg g0] at h
    by_cases g1 : g = 1
    · rw [if_pos g1] at h
      unfold dimB at h
      by_cases h1 : t.kind = 1
      · rw [if_pos h1] at h; exact name1 h1 h
      rw [if_neg h1] at h
      by_cases h17 : t.kind = 17
      · rw [if_pos h17, Bool.and_eq_true] at h
        unfold lineR lineKR
        rw [if_pos (by omega), if_neg (by omega), if_pos (by omega)]
        exact lx_digit h.1
      rw [if_neg h17] at h
      by_cases h16 : t.kind = 16
      · rw [if_pos h16, Bool.and_eq_true] at h
        obtain ⟨a, hl, hoa⟩ := are1_inv h.2
        have k0 : kd t 0 = a := by unfold kd; rw [hl]; rfl
        intro r us hr hs
        unfold lineR lineKR
        rw [if_neg (by omega), if_neg (by omega), if_neg (by omega), if_neg (by omega), if_neg (by omega), if_neg (by omega), if_neg (by omega), if_neg (by omega), if_neg (by omega), if_neg (by omega), if_neg (by omega), if_neg (by omega), if_neg (by omega), if_neg (by omega), if_neg (by omega), if_pos (by omega), if_neg (by omega), if_neg (by omega), if_neg (by omega), if_neg (by omega), if_neg (by omega), if_neg (by omega), if_neg (by omega), if_neg (by omega), if_neg (by omega), if_neg (by omega), if_neg (by omega), if_neg (by omega), if_neg (by omega), if_neg (by omega), if_neg (by omega), if_neg (by omega), if_pos (by omega), k0]
        have q := sc_not (hp 6 1 a hoa r us hr hs)
        simpa [sg, partF, partK] using q
      rw [if_neg h16] at h
      by_cases h14 : t.kind = 15 ∨ t.kind = 14
      · rw [if_pos h14, Bool.and_eq_true] at h
        obtain ⟨a, c, hl, hoa, hoc⟩ := are2_inv h.2
        have k0 : kd t 0 = a := by unfold kd; rw [hl]; rfl
        have k1 : kd t 1 = c := by unfold kd; rw [hl]; rfl
        intro r us hr hs
        rcases h14 with h14 | h14
        · unfold lineR lineKR
          rw [if_neg (by omega), if_neg (by omega), if_neg (by omega), if_neg (by omega), if_neg (by omega), if_neg (by omega), if_neg (by omega), if_neg (by omega), if_neg (by omega), if_neg (by omega), if_neg (by omega), if_neg (by omega), if_neg (by omega), if_neg (by omega), if_pos (by omega), if_neg (by omega), if_neg (by omega), if_neg (by omega), if_neg (by omega), if_neg (by omega), if_neg (by omega), if_neg (by omega), if_neg (by omega), if_neg (by omega), if_neg (by omega), if_neg (by omega), if_neg (by omega), if_neg (by omega), if_neg (by omega), if_neg (by omega), if_pos (by omega), k0, k1]
          have q := hp 5 1 a hoa _ _ (brk_of _ (c := 32) (by decide)) (sc_gap (sc_and (sc_gap (hp 6 1 c hoc r us hr hs))))
          simpa [sg, partF, partK] using q
        · unfold lineR lineKR
          rw [if_neg (by omega), if_neg (by omega), if_neg (by omega), if_neg (by omega), if_neg (by omega), if_neg (by omega), if_neg (by omega), if_neg (by omega), if_neg (by omega), if_neg (by omega), if_neg (by omega), if_neg (by omega), if_neg (by omega), if_pos (by omega), if_neg (by omega), if_neg (by omega), if_neg (by omega), if_neg (by omega), if_neg (by omega), if_neg (by omega), if_neg (by omega), if_neg (by omega), if_neg (by omega), if_neg (by omega), if_neg (by omega), if_neg (by omega), if_neg (by omega), if_neg (by omega), if_pos (by omega), k0, k1]
          have q := hp 4 1 a hoa _ _ (brk_of _ (c := 32) (by decide)) (sc_gap (sc_or (sc_gap (hp 5 1 c hoc r us hr hs))))
          simpa [sg, partF, partK] using q
      rw [if_neg h14] at h
      cases h
    rw [if_neg g1] at h
    by_cases g2 : g = 2
    · rw [if_pos g2] at h
      unfold elemB at h
      simp only [Bool.and_eq_true, decide_eq_true_eq, Bool.or_eq_true] at h
      obtain ⟨hk, _, hq⟩ := h
      intro r us hr hs
      unfold lineR lineKR
      rw [if_neg (by omega), if_neg (by omega), if_neg (by omega), if_neg (by omega), if_neg (by omega), if_neg (by omega), if_neg (by omega), if_neg (by omega), if_neg (by omega), if_neg (by omega), if_pos (by omega), if_neg (by omega), if_neg (by omega), if_neg (by omega), if_neg (by omega), if_neg (by omega), if_neg (by omega), if_neg (by omega), if_neg (by omega), if_neg (by omega), if_neg (by omega), if_neg (by omega), if_pos (by omega)]
      unfold elemR
      rcases hq with hq | hq
      · obtain ⟨c, hl, hc⟩ := are1_inv hq
        have k0 : kd t 0 = c := by unfold kd; rw [hl]; rfl
        rw [k0, hl, if_neg (by simp), if_neg (by simp), List.append_nil, List.append_nil]
        exact ih 3 c hc r us hr hs
      · obtain ⟨c, b, hl, hc, hb⟩ := are2_inv hq
        have k0 : kd t 0 = c := by unfold kd; rw [hl]; rfl
        have k1 : kd t 1 = b := by unfold kd; rw [hl]; rfl
        rw [k0, k1, hl, if_pos (show [c, b].length = 2 from rfl), if_pos (show [c, b].length = 2 from rfl)]
        have q := ih 3 c hc _ _ (brk_of _ (c := 32) (by decide)) (sc_gap (sc_arrow (sc_gap (hp 0 0 b hb r us hr hs))))
        simpa [sg, partF, partK] using q
    rw [if_neg g2] at h
    by_cases g3 : g = 3
    · rw [if_pos g3] at h
      unfold faceB at h
      simp only [Bool.and_eq_true, decide_eq_true_eq] at h
      obtain ⟨hk, _, hq⟩ := h
      intro r us hr hs
      unfold lineR lineKR
      rw [if_neg (by omega), if_neg (by omega), if_neg (by omega), if_neg (by omega), if_neg (by omega), if_neg (by omega), if_neg (by omega), if_neg (by omega), if_neg (by omega), if_neg (by omega), if_neg (by omega), if_pos (by omega), if_neg (by omega), if_neg (by omega), if_neg (by omega), if_neg (by omega), if_neg (by omega), if_neg (by omega), if_neg (by omega), if_neg (by omega), if_neg (by omega), if_neg (by omega), if_neg (by omega), if_neg (by omega), if_pos (by omega)]
      unfold faceR
      by_cases he : t.kids = []
      · rw [if_pos he, if_pos he]
        exact sc_unit hs
      · rw [if_neg he, if_neg he]
        have all : ∀ m : List Sx, (∀ y ∈ m, okF f 4 y = true) → Sc ((m.map (lineF f)).flatten ++ r) ((m.map (lineK f)).flatten ++ us) ∧ Brk ((m.map (lineF f)).flatten ++ r) := by
          intro m
          induction m with
          | nil => intro _; exact ⟨by simpa using hs, by simpa using hr⟩
          | cons y m ihm =>
            intro hm
            obtain ⟨q1, q2⟩ := ihm (fun z hz => hm z (by simp [hz]))
            have hy := hm y (by simp)
            refine ⟨?_, ?_⟩
            · have := ih 4 y hy _ _ q2 q1
              simpa using this
            · obtain ⟨f', rfl⟩ : ∃ k, f = k + 1 := by
                cases f with
                | zero => rw [okF_z] at hy; cases hy
                | succ f => exact ⟨f, rfl⟩
              rw [okF_s] at hy
              have hy : eqB y = true := hy
              unfold eqB at hy
              simp only [Bool.and_eq_true, decide_eq_true_eq] at hy
              have hk13 := hy.1
              have el : lineF (f' + 1) y = eqR y := by
                rw [lineF_s]; unfold lineR
                rw [if_neg (by omega), if_neg (by omega), if_neg (by omega), if_neg (by omega), if_neg (by omega), if_neg (by omega), if_neg (by omega), if_neg (by omega), if_neg (by omega), if_neg (by omega), if_neg (by omega), if_neg (by omega), if_pos (by omega)]
              rw [List.map_cons, List.flatten_cons, el]
              unfold eqR
              exact brk_of _ (c := 40) (by decide)
        exact (all t.kids (fun y hy => List.all_eq_true.1 hq y hy)).1
    rw [if_neg g3] at h
    have hk : t.kind = 13 := by
      have h9 := h
      unfold eqB at h9
      simp only [Bool.and_eq_true, decide_eq_true_eq] at h9
      exact h9.1
    unfold lineR lineKR
    rw [if_neg (by omega), if_neg (by omega), if_neg (by omega), if_neg (by omega), if_neg (by omega), if_neg (by omega), if_neg (by omega), if_neg (by omega), if_neg (by omega), if_neg (by omega), if_neg (by omega), if_neg (by omega), if_pos (by omega), if_neg (by omega), if_neg (by omega), if_neg (by omega), if_neg (by omega), if_neg (by omega), if_neg (by omega), if_neg (by omega), if_neg (by omega), if_neg (by omega), if_neg (by omega), if_neg (by omega), if_neg (by omega), if_neg (by omega), if_pos (by omega)]
    exact lx_eq h
end Go.Proofs.YtahnbigkdfmpbaaDoor
