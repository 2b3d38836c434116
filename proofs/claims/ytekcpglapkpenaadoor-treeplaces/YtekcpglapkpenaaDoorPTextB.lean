/- Texts as trees, further: with a declaration around; files behind one another. -/
import Derived.Test.YtekcpglapkpenaaDoorPText
namespace Go.Proofs.YtekcpglapkpenaaDoor
set_option linter.unusedVariables false
set_option linter.unusedSimpArgs false

theorem name_alone {e f : Nat} {n b : Tok} (hn : n.kind = 1) (hns : n.text = [85]) (hb : b.text = [59]) (hbk : b.kind = 2) : termP e (f + 4) 1 [n, b] = .ok (.mk 1 n.text [] [] n.at_) [b] := by
  have hN : isN [n, b] = true := by simp [isN, hn]
  rw [termP_s, enterQ, if_pos (by rw [hN]; rfl), if_neg (by omega), if_neg (by simp [sees, hns]), if_neg (by simp [sees, hns]), if_neg (by simp [binderQ, sees, hns]), appP_s, atomP_s, if_pos hN, bnd_ok]
  show ((appL e (f + 2) 1 _ [b]).bnd _) = _
  rw [appL_s, if_neg (by simp [sees, hb]), if_neg (by simp [isN, hbk, sees, hb]), bnd_ok, if_neg (by simp [arrB, sees, hb])]
  rfl
theorem term_ok {f : Nat} {s : Bs} (hf : 655364 ≤ f) (h : (termA f s).2.2 = 0) : (scanF s).2.2 = 0 ∧ termP s.length f 1 (rdA s) = .ok (termA f s).1 [] := by
  have h0 : (scanF s).2.2 = 0 := by
    unfold termA at h
    by_cases h0 : (scanF s).2.2 = 0
    · exact h0
    · rw [if_neg h0] at h; exact absurd h h0
  refine ⟨h0, ?_⟩
  unfold termA at h ⊢
  rw [if_pos h0] at h ⊢
  rcases term_cases hf h0 with ⟨p, x, e1, hx, hp⟩ | ⟨t, e1, e2, e3, e4⟩
  · rw [e1] at h
    have h' : x = 0 := h
    omega
  · rw [e1]; exact e2
theorem scan_decl {s : Bs} (hs : s.length ≤ 60000) (h : (scanF s).2.2 = 0) : scanF (120 :: 32 :: 58 :: 32 :: (s ++ [10, 61, 32, 85, 59])) = (⟨1, [120], 0⟩ :: ⟨2, [58], 2⟩ :: (shL 4 (rdA s) ++ [⟨2, [61], s.length + 5⟩, ⟨1, [85], s.length + 7⟩, ⟨2, [59], s.length + 8⟩, ⟨0, [], s.length + 9⟩]), 0, 0) := by
  obtain ⟨_, _, _, _, _, h6, _⟩ := scan_form h
  have e1 : U (120 :: 32 :: 58 :: 32 :: (s ++ [10, 61, 32, 85, 59])) = s.length + 9 := by
    rw [U_ascii _ _ (by decide), U_ascii _ _ (by decide), U_ascii _ _ (by decide), U_ascii _ _ (by decide), U_line s [61, 32, 85, 59], if_neg (by omega), U_ascii _ _ (by decide), U_ascii _ _ (by decide), U_ascii _ _ (by decide), U_ascii _ _ (by decide), U_nil]; omega
  rw [scanF_of (by simp; omega) (by rw [e1]; simp)]
  have hl : (120 :: 32 :: 58 :: 32 :: (s ++ [10, 61, 32, 85, 59])).length + 1 = (s.length + 8) + 2 := by simp
  rw [hl, scan_letter 120 32 _ _ _ (by decide) (by decide), scan_blank 32 _ _ _ (by decide), scan_sign 58 _ _ _ (by decide) (by decide), scan_blank 32 _ _ _ (by decide)]
  obtain ⟨g', hg', e⟩ := scan_part (r := [61, 32, 85, 59]) h (s.length + 8) 4 (by simp)
  have e0 : scanQ (s.length + 8) (0 + 1 + 1 + 1 + 1) (s ++ [10, 61, 32, 85, 59]) = finR (shL 4 (rdA s)) (scanQ g' (4 + s.length + 1) [61, 32, 85, 59]) := e
  rw [e0]
  obtain ⟨g, rfl⟩ : ∃ k, g' = k + 4 := ⟨g' - 4, by simp at hg'; omega⟩
  rw [scan_sign 61 _ _ _ (by decide) (by decide), scan_blank 32 _ _ _ (by decide), scan_letter 85 59 _ _ _ (by decide) (by decide), scan_sign 59 _ _ _ (by decide) (by decide), scan_end]
  have e2 : 4 + s.length + 1 = s.length + 5 := by omega
  rw [e2]
  simp [finR, ansOf]
/-- What TreeBrackets asks, second: a declaration around. -/
theorem decl_text {f g : Nat} {s : Bs} (hf : 655364 ≤ f) (hg : 2 ≤ g) (hs : s.length ≤ 60000) (h : (termA f s).2.2 = 0) : ∃ d t3 u3, fileA f g (120 :: 32 :: 58 :: 32 :: (s ++ [10, 61, 32, 85, 59])) = ([d], 0, 0) ∧ d = .mk 18 [120] [t3, u3] [] 0 ∧ erTr t3 = erTr (termA f s).1 := by
  obtain ⟨h0, ht⟩ := term_ok hf h
  obtain ⟨hl, h2, h3, h4, h5, _⟩ := scan_form h0
  have hsc := scan_decl hs h0
  obtain ⟨g1, g2⟩ := sh_good (Lk := lkS s) 4 (fun t ht => (h3 t ht).1) h4
  have hgo := good_own g1 g2
  have hts := term_shifted (d := 4) hf h0 ht
  have hlA : (shL 4 (rdA s)).length = (rdA s).length := by simp [shL]
  have hrd : rdA (120 :: 32 :: 58 :: 32 :: (s ++ [10, 61, 32, 85, 59])) = ⟨1, [120], 0⟩ :: ⟨2, [58], 2⟩ :: (shL 4 (rdA s) ++ [⟨2, [61], s.length + 5⟩, ⟨1, [85], s.length + 7⟩, ⟨2, [59], s.length + 8⟩]) := by
    have hx : (⟨1, [120], 0⟩ :: ⟨2, [58], 2⟩ :: (shL 4 (rdA s) ++ [⟨2, [61], s.length + 5⟩, ⟨1, [85], s.length + 7⟩, ⟨2, [59], s.length + 8⟩, ⟨0, [], s.length + 9⟩]) : Ts) = (⟨1, [120], 0⟩ :: ⟨2, [58], 2⟩ :: (shL 4 (rdA s) ++ [⟨2, [61], s.length + 5⟩, ⟨1, [85], s.length + 7⟩, ⟨2, [59], s.length + 8⟩])) ++ [⟨0, [], s.length + 9⟩] := by simp
    show (scanF (120 :: 32 :: 58 :: 32 :: (s ++ [10, 61, 32, 85, 59]))).1.dropLast = _
    rw [hsc]
    show (⟨1, [120], 0⟩ :: ⟨2, [58], 2⟩ :: (shL 4 (rdA s) ++ [⟨2, [61], s.length + 5⟩, ⟨1, [85], s.length + 7⟩, ⟨2, [59], s.length + 8⟩, ⟨0, [], s.length + 9⟩]) : Ts).dropLast = _
    rw [hx, List.dropLast_concat]
  have hsim := (terms_sim (Lk := lkR (shL 4 (rdA s))) False (s.length + 4) (s.length + 9) f).1 1 1 (shL 4 (rdA s)) [] [⟨2, [61], s.length + 5⟩, ⟨1, [85], s.length + 7⟩, ⟨2, [59], s.length + 8⟩] (shTr 4 (termA f s).1) (by rw [hlA]; omega) hgo (.inl rfl) hts (.inr ⟨rfl, .inr (.inr (.inl rfl))⟩)
  have hterm : termP (s.length + 9) f 1 (shL 4 (rdA s) ++ [⟨2, [61], s.length + 5⟩, ⟨1, [85], s.length + 7⟩, ⟨2, [59], s.length + 8⟩]) = .ok (shTr 4 (termA f s).1) [⟨2, [61], s.length + 5⟩, ⟨1, [85], s.length + 7⟩, ⟨2, [59], s.length + 8⟩] := by
    rcases hsim with e | ⟨h, _⟩
    · exact e
    · exact h.elim
  have hdecl : declP (s.length + 9) f (⟨1, [120], 0⟩ :: ⟨2, [58], 2⟩ :: (shL 4 (rdA s) ++ [⟨2, [61], s.length + 5⟩, ⟨1, [85], s.length + 7⟩, ⟨2, [59], s.length + 8⟩])) = .ok (.mk 18 [120] [shTr 4 (termA f s).1, .mk 1 [85] [] [] (s.length + 7)] [] 0) [] := by
    obtain ⟨f', rfl⟩ : ∃ k, f = k + 4 := ⟨f - 4, by omega⟩
    unfold declP
    rw [name_t (t := ⟨1, [120], 0⟩) rfl, bnd_ok, must_t (t := ⟨2, [58], 2⟩) (s := [58]) rfl, bnd_ok, hterm, bnd_ok, must_t (t := ⟨2, [61], s.length + 5⟩) (s := [61]) rfl, bnd_ok, name_alone (n := ⟨1, [85], s.length + 7⟩) (b := ⟨2, [59], s.length + 8⟩) rfl rfl rfl rfl, bnd_ok, must_t (t := ⟨2, [59], s.length + 8⟩) (s := [59]) rfl, bnd_ok]
    rfl
  have hlen : (120 :: 32 :: 58 :: 32 :: (s ++ [10, 61, 32, 85, 59])).length = s.length + 9 := by simp
  refine ⟨_, shTr 4 (termA f s).1, .mk 1 [85] [] [] (s.length + 7), ?_, rfl, er_sh 4 _⟩
  obtain ⟨g', rfl⟩ : ∃ k, g = k + 2 := ⟨g - 2, by omega⟩
  show (if (scanF (120 :: 32 :: 58 :: 32 :: (s ++ [10, 61, 32, 85, 59]))).2.2 = 0 then _ else _) = _
  rw [if_pos (by rw [hsc]), hrd, hlen, fileL, if_neg (by simp), hdecl, bnd_ok, fileL, if_pos rfl]
  rfl
/-! ### files behind one another -/
theorem decl_app {Lk : Nat → Option Bs} {e1 e2 f : Nat} {A B X : Ts} {t : Tr} (hf : 10 * A.length + 4 ≤ f) (hg : GoodR Lk A) (h : declP e1 f A = .ok t B) : declP e2 f (A ++ X) = .ok t (B ++ X) := by
  unfold declP at h
  obtain ⟨n, R1, q1, h1⟩ := bnd_inv h
  obtain ⟨_, R2, q2, h2⟩ := bnd_inv h1
  obtain ⟨a, R3, q3, h3⟩ := bnd_inv h2
  obtain ⟨_, R4, q4, h4⟩ := bnd_inv h3
  obtain ⟨c, R5, q5, h5⟩ := bnd_inv h4
  obtain ⟨_, R6, q6, h6⟩ := bnd_inv h5
  clear h h1 h2 h3 h4 h5
  obtain ⟨nt, rfl, hnk, rfl⟩ := name_ok q1
  obtain ⟨b, rfl, hb⟩ := must_ok (by simp) q2
  obtain ⟨d, rfl, hd⟩ := must_ok (by simp) q4
  obtain ⟨g, rfl, hg6⟩ := must_ok (by simp) q6
  cases h6
  have hnn := name_not (hg.nam nt (by simp) hnk)
  have s2 : Step (nt :: b :: R2) R2 := (Step.pass hnn.1 hnn.2).trans (Step.pass (by rw [hb]; decide) (by rw [hb]; decide))
  have hi := (terms_inv (Lk := Lk) e1 f).1 1 R2 (by simp at hf; omega) (hg.step s2)
  rw [q3] at hi
  obtain ⟨i1, i2, _, _⟩ := hi
  have s4 : Step (nt :: b :: R2) R4 := (s2.trans i1).trans (Step.pass (by rw [hd]; decide) (by rw [hd]; decide))
  have w1 := (terms_sim (Lk := Lk) False e1 e2 f).1 1 1 R2 (d :: R4) X a (by simp at hf; omega) (hg.step s2) (.inl rfl) q3 (.inl (by simp))
  have w2 := (terms_sim (Lk := Lk) False e1 e2 f).1 1 1 R4 (g :: B) X c (by simp at hf i2; omega) (hg.step s4) (.inl rfl) q5 (.inl (by simp))
  have w1' : termP e2 f 1 (R2 ++ X) = .ok a (d :: (R4 ++ X)) := by
    rcases w1 with e | ⟨h, _⟩
    · exact e
    · exact h.elim
  have w2' : termP e2 f 1 (R4 ++ X) = .ok c (g :: (B ++ X)) := by
    rcases w2 with e | ⟨h, _⟩
    · exact e
    · exact h.elim
  unfold declP
  simp only [List.cons_append]
  rw [name_t hnk, bnd_ok, must_t hb, bnd_ok, w1', bnd_ok, must_t hd, bnd_ok, w2', bnd_ok, must_t hg6, bnd_ok]
  rfl
theorem file_app {Lk : Nat → Option Bs} {e1 e2 f : Nat} (X : Ts) : ∀ (g : Nat) (acc l : List Tr) (A : Ts), 10 * A.length + 4 ≤ f → GoodR Lk A → fileL e1 f g acc A = .ok l [] → ∃ k, k ≤ A.length ∧ ∀ m, fileL e2 f (k + m) acc (A ++ X) = fileL e2 f m l X := by
  intro g
  induction g with
  | zero => intro acc l A _ _ h; rw [fileL] at h; cases h
  | succ g ih =>
    intro acc l A hf hg h
    rw [fileL] at h
    cases A with
    | nil =>
      rw [if_pos rfl] at h
      cases h
      exact ⟨0, by simp, fun m => by rw [Nat.zero_add]; rfl⟩
    | cons a A =>
      rw [if_neg (by simp)] at h
      obtain ⟨d, R1, q1, h1⟩ := bnd_inv h
      rcases decl_inv (Lk := Lk) (e := e1) hf hg with ⟨p, x, e, hb⟩ | ⟨t, R', e, s1, l1⟩
      · rw [e] at q1; cases q1
      · rw [e] at q1
        obtain ⟨rfl, rfl⟩ : t = d ∧ R' = R1 := by cases q1; exact ⟨rfl, rfl⟩
        obtain ⟨k, hk, hm⟩ := ih (acc ++ [t]) l R' (by omega) (hg.step s1) h1
        refine ⟨k + 1, by omega, fun m => ?_⟩
        have e9 : k + 1 + m = (k + m) + 1 := by omega
        rw [e9, fileL, if_neg (by simp), decl_app (e2 := e2) (X := X) hf hg e, bnd_ok]
        exact hm m
def preL (l : List Tr) : Rs (List Tr) → Rs (List Tr)
  | .inl (p, x) => .bad p x
  | .inr (m, R) => .ok (l ++ m) R
theorem file_acc {e f : Nat} (l : List Tr) : ∀ (g : Nat) (acc : List Tr) (R : Ts), fileL e f g (l ++ acc) R = preL l (fileL e f g acc R) := by
  intro g
  induction g with
  | zero => intro acc R; rfl
  | succ g ih =>
    intro acc R
    rw [fileL, fileL]
    by_cases h : R = []
    · rw [if_pos h, if_pos h]; rfl
    · rw [if_neg h, if_neg h]
      cases declP e f R using Rs.cs with
      | bad p x => rfl
      | ok d R1 =>
        rw [bnd_ok, bnd_ok, List.append_assoc]
        exact ih _ _
theorem file_ok {f g : Nat} {s : Bs} (hf : 655364 ≤ f) (hg : 65537 ≤ g) (h : (fileA f g s).2.2 = 0) : (scanF s).2.2 = 0 ∧ fileL s.length f g [] (rdA s) = .ok (fileA f g s).1 [] := by
  have h0 : (scanF s).2.2 = 0 := by
    unfold fileA at h
    by_cases h0 : (scanF s).2.2 = 0
    · exact h0
    · rw [if_neg h0] at h; exact absurd h h0
  refine ⟨h0, ?_⟩
  unfold fileA at h ⊢
  rw [if_pos h0] at h ⊢
  rcases file_cases hf hg h0 with ⟨p, x, e1, hx⟩ | ⟨l, e1⟩
  · rw [e1] at h
    have h' : x = 0 := h
    omega
  · rw [e1]; rfl
theorem shL_zero (R : Ts) : shL 0 R = R := by
  unfold shL
  rw [show shT 0 = id from funext fun t => rfl, List.map_id]
/-- What TreeFiles asks. -/
theorem files_text {f g : Nat} {s u : Bs} (hf : 655364 ≤ f) (hg : 65537 ≤ g) (hl : s.length + u.length < 65536) (h : (fileA f g s).2.2 = 0) : ∃ k, k ≤ 65536 ∧
    ((fileA f g u).2.2 ≠ 0 → fileA f (k + g) (s ++ 10 :: u) = ([], (fileA f g u).2.1 + (s.length + 1), (fileA f g u).2.2)) ∧
    ((fileA f g u).2.2 = 0 → ∃ m, fileA f (k + g) (s ++ 10 :: u) = ((fileA f g s).1 ++ m, 0, 0) ∧ erTrs m = erTrs (fileA f g u).1) := by
  obtain ⟨h0, hfs⟩ := file_ok hf hg h
  obtain ⟨hl1, h2, h3, h4, h5, h6, h7⟩ := scan_form h0
  have hlen : (s ++ 10 :: u).length = u.length + (s.length + 1) := by simp; omega
  obtain ⟨k, hk, hm⟩ := file_app (Lk := lkS s) (e1 := s.length) (e2 := u.length + (s.length + 1)) (shL (s.length + 1) (rdA u)) g [] (fileA f g s).1 (rdA s) (by omega) (good_scan h0) hfs
  refine ⟨k, by omega, ?_⟩
  have hU : U (s ++ 10 :: u) = s.length + 1 + U u := by rw [U_line, if_neg (by omega)]
  by_cases hu0 : (scanF u).2.2 = 0
  · -- both have tokens
    obtain ⟨k1, k2, k3, k4, k5, k6, k7⟩ := scan_form hu0
    have hsc : scanF (s ++ 10 :: u) = (rdA s ++ shL (s.length + 1) (scanF u).1, 0, 0) := by
      rw [scanF_of (by rw [hlen]; omega) (by rw [hU, hlen]; omega)]
      obtain ⟨g', hg', e⟩ := scan_part (r := u) h0 ((s ++ 10 :: u).length + 1) 0 (by rw [hlen]; omega)
      rw [e]
      have e1 : scanQ g' (0 + s.length + 1) u = .inr (shL (s.length + 1) (scanF u).1) := by
        rw [scanQ_fuel (g := u.length + 1) (by omega) (by omega)]
        have := scanQ_sh (s.length + 1) (u.length + 1) 0 u
        rw [k7] at this
        have e2 : 0 + (s.length + 1) = 0 + s.length + 1 := by omega
        rw [e2] at this
        exact this
      rw [e1]
      rw [shL_zero]
      rfl
    have hrd : rdA (s ++ 10 :: u) = rdA s ++ shL (s.length + 1) (rdA u) := by
      show (scanF (s ++ 10 :: u)).1.dropLast = _
      rw [hsc]
      show (rdA s ++ shL (s.length + 1) (scanF u).1).dropLast = _
      rw [k2]
      have : rdA s ++ shL (s.length + 1) (rdA u ++ [⟨0, [], u.length⟩]) = (rdA s ++ shL (s.length + 1) (rdA u)) ++ [⟨0, [], u.length + (s.length + 1)⟩] := by simp [shL, shT]
      rw [this, List.dropLast_concat]
    have hfile : fileA f (k + g) (s ++ 10 :: u) = ansL (preL (fileA f g s).1 ((fileL u.length f g [] (rdA u)).sh (s.length + 1) (shTrs (s.length + 1)))) := by
      show (if (scanF (s ++ 10 :: u)).2.2 = 0 then _ else _) = _
      rw [if_pos (by rw [hsc]), hlen, hrd, hm g]
      have := file_acc (e := u.length + (s.length + 1)) (f := f) (fileA f g s).1 g [] (shL (s.length + 1) (rdA u))
      rw [List.append_nil] at this
      rw [this]
      have e9 := fileL_sh (s.length + 1) u.length f g [] (rdA u)
      rw [← e9]; rfl
    rw [hfile]
    rcases file_cases hf hg hu0 with ⟨p, x, e1, hx⟩ | ⟨l, e1⟩
    · have hfu : fileA f g u = ([], p, x) := by unfold fileA; rw [if_pos hu0, e1]; rfl
      rw [hfu, e1]
      refine ⟨fun _ => ?_, fun h => ?_⟩
      · show ([], (if x = 999 then p else p + (s.length + 1)), x) = _
        rw [if_neg (by omega)]
      · have h' : x = 0 := h
        omega
    · have hfu : fileA f g u = (l, 0, 0) := by unfold fileA; rw [if_pos hu0, e1]; rfl
      rw [hfu, e1]
      exact ⟨fun h => absurd rfl h, fun _ => ⟨shTrs (s.length + 1) l, rfl, ers_sh _ _⟩⟩
  · -- the second is no text, or has no tokens
    have hfu : fileA f g u = ([], (scanF u).2) := by unfold fileA; rw [if_neg hu0]
    rw [hfu]
    refine ⟨fun _ => ?_, fun h => absurd h hu0⟩
    have hsc : (scanF (s ++ 10 :: u)).2 = ((scanF u).2.1 + (s.length + 1), (scanF u).2.2) := by
      by_cases hut : U u < u.length
      · rw [scanF_utf' (by rw [hlen]; omega) (by rw [hU, hlen]; omega), scanF_utf' (by omega) hut, hU]
        show (s.length + 1 + U u, 60) = (U u + (s.length + 1), 60)
        rw [Nat.add_comm]
      · have hUu : U u ≤ u.length := utfP_le _ _
        rw [scanF_of (by rw [hlen]; omega) (by rw [hU, hlen]; omega)]
        obtain ⟨g', hg', e⟩ := scan_part (r := u) h0 ((s ++ 10 :: u).length + 1) 0 (by rw [hlen]; omega)
        rw [e]
        have hsu := scanF_of (by omega) hut
        have e1 : scanQ g' (0 + s.length + 1) u = shS (s.length + 1) (scanQ (u.length + 1) 0 u) := by
          rw [scanQ_fuel (g := u.length + 1) (by omega) (by omega), ← scanQ_sh]
          congr 1
        rw [e1]
        rw [hsu] at hu0 ⊢
        cases hq : scanQ (u.length + 1) 0 u with
        | inr ts => rw [hq] at hu0; exact absurd rfl hu0
        | inl p => rfl
    show (if (scanF (s ++ 10 :: u)).2.2 = 0 then _ else _) = _
    rw [if_neg (by rw [hsc]; exact hu0), hsc]
end Go.Proofs.YtekcpglapkpenaaDoor
