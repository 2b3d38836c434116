/- For ShowBack: the tokens of a dim are read as that dim, or as what is too deep. -/
import Derived.Test.YtahnbigkdfmpbaaDoorBRdB
namespace Go.Proofs.YtahnbigkdfmpbaaDoor
set_option linter.unusedVariables false
set_option linter.unusedSimpArgs false

def stJ : List Bs := [[41], [92, 47]]
theorem er_two {k : Nat} {a c : Tr} : erTr (two k a c) = .mk k [] [erTr a, erTr c] [] 0 := by
  unfold two
  rw [erTr_mk]; rfl
theorem Rg.mono {t : Sx} {r : Rs Tr} {k : Nat → Tr → Rs Tr} {m n : Nat} (h : Rg t r k m) (hn : n ≤ m) : Rg t r k n := h.imp id fun ⟨u, f, h1, h2, h3⟩ => ⟨u, f, h1, h2, by omega⟩
theorem meetL_st {e f l : Nat} {m : Tr} {X : Ts} (hf : 1 ≤ f) (h : sees [47, 92] X = false) : meetL e f l m X = .ok m X := by
  obtain ⟨f, rfl⟩ : ∃ k, f = k + 1 := ⟨f - 1, by omega⟩
  rw [meetL_s, if_neg (by rw [h]; simp)]
theorem joinL_st {e f l : Nat} {m : Tr} {X : Ts} (hf : 1 ≤ f) (h : sees [92, 47] X = false) : joinL e f l m X = .ok m X := by
  obtain ⟨f, rfl⟩ : ∃ k, f = k + 1 := ⟨f - 1, by omega⟩
  rw [joinL_s, if_neg (by rw [h]; simp)]
/-- What is read of a dim's tokens: by itself, as what is met, as what is joined. -/
structure DimA (e f : Nat) : Prop where
  D : ∀ t, okF f 1 t = true → ∀ A X l F, A.map ktT = partK f 6 t → 10 * A.length ≤ F + 5 → Rd t X (dimP e F l (A ++ X))
  M : ∀ t, okF f 1 t = true → ∀ A X l F, A.map ktT = partK f 5 t → 10 * A.length ≤ F + 4 → Rg t (meetP e F l (A ++ X)) (fun F u => meetL e F l u X) (F - 1 - A.length)
  J : ∀ t, okF f 1 t = true → ∀ A X l F, A.map ktT = partK f 4 t → stB stJ X → 10 * A.length ≤ F + 3 → Rg t (joinP e F l (A ++ X)) (fun F u => joinL e F l u X) (F - 1 - A.length)
theorem dimA_z (e : Nat) : DimA e 0 := ⟨fun t h => (by cases h), fun t h => (by cases h), fun t h => (by cases h)⟩
theorem dimA_s {e f : Nat} (ih : DimA e f) : DimA e (f + 1) := by
  -- by itself, where no brackets are wanted
  have core : ∀ t, okF (f + 1) 1 t = true → needB t 6 = false → ∀ A X l F, A.map ktT = lineK (f + 1) t → 10 * A.length ≤ F + 5 → Rd t X (dimP e F l (A ++ X)) := by
    intro t h q A X l F hA hF
    have hen := hd_enter (partN (f := f + 1) q ▸ hA) (hd_dim _ t h 6) X
    obtain ⟨F, rfl⟩ : ∃ k, F = k + 1 := ⟨F - 1, by have := hd_len (partN (f := f + 1) q ▸ hA) (hd_dim _ t h 6); omega⟩
    rw [dimP_s]
    refine enter_rd (X := X) hen ?_
    obtain ⟨p, h⟩ := sx_dim h
    rcases h with ⟨n, hn, rfl⟩ | ⟨n, hn, rfl⟩ | ⟨a, ha, rfl⟩ | ⟨a, c, ha, hc, rfl⟩ | ⟨a, c, ha, hc, rfl⟩
    · rw [line1] at hA
      obtain ⟨b, A2, rfl, hb, h2⟩ := spC hA
      rw [spN h2]
      show Rd _ X (if isN (b :: X) then _ else _)
      rw [if_pos (by rw [isN_k hb]; rfl)]
      refine .inr ⟨_, rfl, ?_⟩
      rw [erTr_mk, toTr_mk, show txt ([b] ++ X) = n from txt_k hb X]; rfl
    · rw [line17] at hA
      obtain ⟨b, A2, rfl, hb, h2⟩ := spC hA
      rw [spN h2]
      show Rd _ X (if isN (b :: X) then _ else if sees [126] (b :: X) then _ else if sees [40] (b :: X) then _ else _)
      unfold digB at hn
      simp only [Bool.or_eq_true, decide_eq_true_eq] at hn
      rcases hn with rfl | rfl
      · rw [if_neg (by rw [isN_k hb]; decide), if_neg (by rw [sees_k hb]; decide), if_neg (by rw [sees_k hb]; decide)]
        unfold digitP
        rw [if_pos (by show sees [48] (b :: X) = true; rw [sees_k hb]; rfl)]
        refine .inr ⟨_, rfl, ?_⟩
        rw [erTr_mk, toTr_mk]; rfl
      · rw [if_neg (by rw [isN_k hb]; decide), if_neg (by rw [sees_k hb]; decide), if_neg (by rw [sees_k hb]; decide)]
        unfold digitP
        rw [if_neg (by show ¬ sees [48] (b :: X) = true; rw [sees_k hb]; decide), if_pos (by show sees [49] (b :: X) = true; rw [sees_k hb]; rfl)]
        refine .inr ⟨_, rfl, ?_⟩
        rw [erTr_mk, toTr_mk]; rfl
    · rw [line16] at hA
      obtain ⟨b, A2, rfl, hb, h2⟩ := spC hA
      show Rd _ X (if isN (b :: (A2 ++ X)) then _ else if sees [126] (b :: (A2 ++ X)) then _ else _)
      rw [if_neg (by rw [isN_k hb]; decide), if_pos (by rw [sees_k hb]; rfl)]
      refine (ih.D a ha A2 X (l + 1) F h2 (by simp at hF; omega)).bnd fun u hu => .inr ⟨_, rfl, ?_⟩
      rw [erTr_mk, erTrs_map, List.map_cons, List.map_nil, hu, toTr_mk]; rfl
    · cases q
    · cases q
  -- as what is joined, an Or
  have j14 : ∀ a c p, okF f 1 a = true → okF f 1 c = true → ∀ A X l F, A.map ktT = lineK (f + 1) (.mk 14 [] [a, c] [] p) → stB stJ X → 10 * A.length ≤ F + 3 → Rg (.mk 14 [] [a, c] [] p) (joinP e F l (A ++ X)) (fun F u => joinL e F l u X) (F - 1 - A.length) := by
    intro a c p ha hc A X l F hA hX hF
    rw [line14] at hA
    obtain ⟨A1, A2, rfl, h1, h2⟩ := spA hA
    obtain ⟨b, A3, rfl, hb, h3⟩ := spC h2
    have l1 := hd_len h1 (hd_dim f a ha 4)
    have l3 := hd_len h3 (hd_dim f c hc 5)
    simp only [List.length_append, List.length_cons] at hF ⊢
    rw [List.append_assoc]
    rcases ih.J a ha A1 ((b :: A3) ++ X) l F h1 (st_cons hb (by decide) _) (by omega) with hp | ⟨u, G, hu, eu, hG⟩
    · exact .inl hp
    · rw [hu]
      obtain ⟨G, rfl⟩ : ∃ k, G = k + 1 := ⟨G - 1, by omega⟩
      show Rg _ (joinL e (G + 1) l u (b :: (A3 ++ X))) _ _
      rw [joinL_s, if_pos (by rw [sees_k hb]; rfl)]
      show Rg _ ((meetP e G l (A3 ++ X)).bnd _) _ _
      rcases ih.M c hc A3 X l G h3 (by omega) with ⟨q, hq⟩ | ⟨v, H, hv, ev, hH⟩
      · rw [hq]; exact .inl ⟨q, rfl⟩
      · rw [hv]
        show Rg _ ((meetL e H l v X).bnd _) _ _
        rw [meetL_st (by omega) (st_sees hX (by decide) (by decide)), bnd_ok]
        refine .inr ⟨_, G, rfl, ?_, by omega⟩
        rw [er_two, eu, ev, toTr_mk]; rfl
  -- brackets round what is joined
  have brk : ∀ t, (∀ A X l F, A.map ktT = lineK (f + 1) t → stB stJ X → 10 * A.length ≤ F + 3 → Rg t (joinP e F l (A ++ X)) (fun F u => joinL e F l u X) (F - 1 - A.length)) → 1 ≤ (lineK (f + 1) t).length →
      ∀ A X l F, A.map ktT = sg [40] :: (lineK (f + 1) t ++ [sg [41]]) → 10 * A.length ≤ F + 5 → Rd t X (dimP e F l (A ++ X)) := by
    intro t hj hl A X l F hA hF
    obtain ⟨b, A2, rfl, hb, h2⟩ := spC hA
    obtain ⟨A3, A4, rfl, h3, h4⟩ := spA h2
    obtain ⟨c, A5, rfl, hc, h5⟩ := spC h4
    rw [spN h5] at hF ⊢
    have hl3 : A3.length = (lineK (f + 1) t).length := by rw [← h3, List.length_map]
    simp only [List.length_append, List.length_cons, List.length_nil] at hF
    obtain ⟨F, rfl⟩ : ∃ k, F = k + 1 := ⟨F - 1, by omega⟩
    rw [dimP_s]
    have eq : (b :: (A3 ++ [c])) ++ X = b :: (A3 ++ (c :: X)) := by simp
    rw [eq]
    refine enter_rd (X := X) (by rw [isN_k hb, txt_k hb]; decide) ?_
    rw [if_neg (by rw [isN_k hb]; decide), if_neg (by rw [sees_k hb]; decide), if_pos (by rw [sees_k hb]; rfl)]
    show Rd t X ((joinP e F (l + 1) (A3 ++ (c :: X))).bnd _)
    rcases hj A3 (c :: X) (l + 1) F h3 (st_cons hc (by decide) _) (by omega) with ⟨q, hq⟩ | ⟨u, G, hu, eu, hG⟩
    · rw [hq]; exact .inl ⟨q, rfl⟩
    · rw [hu]
      show Rd t X ((joinL e G (l + 1) u (c :: X)).bnd _)
      rw [joinL_st (by omega) (by rw [sees_k hc]; rfl), bnd_ok, must_k hc, bnd_ok]
      exact .inr ⟨u, rfl, eu⟩
  have M : ∀ t, okF (f + 1) 1 t = true → ∀ A X l F, A.map ktT = partK (f + 1) 5 t → 10 * A.length ≤ F + 4 → Rg t (meetP e F l (A ++ X)) (fun F u => meetL e F l u X) (F - 1 - A.length) := by
    intro t h A X l F hA hF
    have l0 := hd_len hA (hd_dim _ t h 5)
    have one : (∀ F, 10 * A.length ≤ F + 5 → Rd t (X) (dimP e F l (A ++ X))) → Rg t (meetP e F l (A ++ X)) (fun F u => meetL e F l u X) (F - 1 - A.length) := by
      intro hd
      obtain ⟨F, rfl⟩ : ∃ k, F = k + 1 := ⟨F - 1, by omega⟩
      rw [meetP_s]
      rcases hd F (by omega) with ⟨q, hq⟩ | ⟨u, hu, eu⟩
      · rw [hq]; exact .inl ⟨q, rfl⟩
      · rw [hu, bnd_ok]
        exact .inr ⟨u, F, rfl, eu, by omega⟩
    have hh := h
    obtain ⟨p, h⟩ := sx_dim h
    rcases h with ⟨n, hn, rfl⟩ | ⟨n, hn, rfl⟩ | ⟨a, ha, rfl⟩ | ⟨a, c, ha, hc, rfl⟩ | ⟨a, c, ha, hc, rfl⟩
    · exact one fun F hF => core _ hh rfl A X l F (by rw [hA, partN rfl]) hF
    · exact one fun F hF => core _ hh rfl A X l F (by rw [hA, partN rfl]) hF
    · exact one fun F hF => core _ hh rfl A X l F (by rw [hA, partN rfl]) hF
    · rw [partN rfl, line15] at hA
      obtain ⟨A1, A2, rfl, h1, h2⟩ := spA hA
      obtain ⟨b, A3, rfl, hb, h3⟩ := spC h2
      have l1 := hd_len h1 (hd_dim f a ha 5)
      have l3 := hd_len h3 (hd_dim f c hc 6)
      simp only [List.length_append, List.length_cons] at hF ⊢
      rw [List.append_assoc]
      rcases ih.M a ha A1 ((b :: A3) ++ X) l F h1 (by omega) with hp | ⟨u, G, hu, eu, hG⟩
      · exact .inl hp
      · rw [hu]
        obtain ⟨G, rfl⟩ : ∃ k, G = k + 1 := ⟨G - 1, by omega⟩
        show Rg _ (meetL e (G + 1) l u (b :: (A3 ++ X))) _ _
        rw [meetL_s, if_pos (by rw [sees_k hb]; rfl)]
        show Rg _ ((dimP e G l (A3 ++ X)).bnd _) _ _
        rcases ih.D c hc A3 X l G h3 (by omega) with ⟨q, hq⟩ | ⟨v, hv, ev⟩
        · rw [hq]; exact .inl ⟨q, rfl⟩
        · rw [hv, bnd_ok]
          refine .inr ⟨_, G, rfl, ?_, by omega⟩
          rw [er_two, eu, ev, toTr_mk]; rfl
    · rw [partY rfl] at hA
      have hl : 1 ≤ (lineK (f + 1) (.mk 14 [] [a, c] [] p)).length := by
        have h4 := hd_dim (f + 1) _ hh 0
        rw [part_0] at h4
        exact List.length_pos_iff.2 (hd_ne h4)
      exact one fun F hF => brk _ (j14 a c p ha hc) hl A X l F hA hF
  have J : ∀ t, okF (f + 1) 1 t = true → ∀ A X l F, A.map ktT = lineK (f + 1) t → stB stJ X → 10 * A.length ≤ F + 3 → Rg t (joinP e F l (A ++ X)) (fun F u => joinL e F l u X) (F - 1 - A.length) := by
    intro t h A X l F hA hX hF
    have more : needB t 5 = false → Rg t (joinP e F l (A ++ X)) (fun F u => joinL e F l u X) (F - 1 - A.length) := by
      intro q
      have hA2 : A.map ktT = partK (f + 1) 5 t := by rw [partN q, hA]
      have l0 := hd_len hA2 (hd_dim _ t h 5)
      obtain ⟨F, rfl⟩ : ∃ k, F = k + 1 := ⟨F - 1, by omega⟩
      rw [joinP_s]
      rcases M t h A X l F hA2 (by omega) with ⟨q, hq⟩ | ⟨u, G, hu, eu, hG⟩
      · rw [hq]; exact .inl ⟨q, rfl⟩
      · rw [hu]
        show Rg t ((meetL e G l u X).bnd _) _ _
        rw [meetL_st (by omega) (st_sees hX (by decide) (by decide)), bnd_ok]
        exact .inr ⟨u, F, rfl, eu, by omega⟩
    have hh := h
    obtain ⟨p, h⟩ := sx_dim h
    rcases h with ⟨n, hn, rfl⟩ | ⟨n, hn, rfl⟩ | ⟨a, ha, rfl⟩ | ⟨a, c, ha, hc, rfl⟩ | ⟨a, c, ha, hc, rfl⟩
    · exact more rfl
    · exact more rfl
    · exact more rfl
    · exact more rfl
    · exact j14 a c p ha hc A X l F hA hX hF
  refine ⟨?_, M, ?_⟩
  · intro t h A X l F hA hF
    cases q : needB t 6
    · exact core t h q A X l F (by rw [hA, partN q]) hF
    · rw [partY q] at hA
      have hl : 1 ≤ (lineK (f + 1) t).length := by
        have h4 := hd_dim (f + 1) t h 0
        rw [part_0] at h4
        exact List.length_pos_iff.2 (hd_ne h4)
      exact brk t (J t h) hl A X l F hA hF
  · intro t h A X l F hA hX hF
    have q : needB t 4 = false := by
      obtain ⟨p, h⟩ := sx_dim h
      rcases h with ⟨n, hn, rfl⟩ | ⟨n, hn, rfl⟩ | ⟨a, ha, rfl⟩ | ⟨a, c, ha, hc, rfl⟩ | ⟨a, c, ha, hc, rfl⟩ <;> rfl
    exact J t h A X l F (by rw [hA, partN q]) hX hF
theorem dimA_all (e f : Nat) : DimA e f := by
  induction f with
  | zero => exact dimA_z e
  | succ f ih => exact dimA_s ih
end Go.Proofs.YtahnbigkdfmpbaaDoor
