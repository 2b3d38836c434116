/- For ShowBack: the tokens of a term are read as that term, or as what is too deep. -/
import Derived.Test.YtahnbigkdfmpbaaDoorBRdC
namespace Go.Proofs.YtahnbigkdfmpbaaDoor
set_option linter.unusedVariables false
set_option linter.unusedSimpArgs false

def stE : List Bs := [[44], [93]]
theorem appL_st {e f l : Nat} {m : Tr} {X : Ts} (hf : 1 ≤ f) (h1 : sees [64] X = false) (h2 : isN X = false) (h3 : sees [40] X = false) (h4 : sees [91] X = false) : appL e f l m X = .ok m X := by
  obtain ⟨f, rfl⟩ : ∃ k, f = k + 1 := ⟨f - 1, by omega⟩
  rw [appL_s, if_neg (by rw [h1]; simp), if_neg (by rw [h2, h3, h4]; simp)]
theorem namesL_k {ns : List Bs} : ∀ {A : Ts} {c : Tok} {Y : Ts} (acc : List Bs), A.map ktT = ns.map nk → c.kind ≠ 1 → namesL acc (A ++ c :: Y) = .ok (acc ++ ns) (c :: Y) := by
  induction ns with
  | nil =>
    intro A c Y acc h hc
    rw [spN h, List.append_nil]
    show (if c.kind = 1 then _ else _) = _
    rw [if_neg hc]
  | cons n ns ih =>
    intro A c Y acc h hc
    obtain ⟨a, A2, rfl, ha, h2⟩ := spC h
    show (if a.kind = 1 then namesL (acc ++ [a.text]) (A2 ++ c :: Y) else _) = _
    rw [if_pos (tk ha).1, (tk ha).2, ih (acc ++ [n]) h2 hc]
    simp
theorem namesP_k {ns : List Bs} {A : Ts} {c : Tok} {Y : Ts} (e : Nat) (h0 : ns ≠ []) (h : A.map ktT = ns.map nk) (hc : c.kind ≠ 1) : namesP e (A ++ c :: Y) = .ok ns (c :: Y) := by
  match ns, h0 with
  | n :: ns, _ =>
    obtain ⟨a, A2, rfl, ha, h2⟩ := spC h
    unfold namesP
    show (nameP e (a :: (A2 ++ c :: Y))).bnd _ = _
    rw [name_k ha, bnd_ok, namesL_k [n] h2 hc]
    rfl
/-! ### faces -/
theorem eq_rd {e f : Nat} {t : Sx} (h : okF f 4 t = true) {A : Ts} (hA : A.map ktT = lineK f t) (X : Ts) : ∃ u, eqP e (A ++ X) = .ok u X ∧ erTr u = toTr t := by
  cases f with
  | zero => cases h
  | succ f =>
    obtain ⟨p, n, d, hn, hd, rfl⟩ := sx_eq h
    rw [line13] at hA
    obtain ⟨a1, A2, rfl, h1, hA⟩ := spC hA
    obtain ⟨a2, A3, rfl, h2, hA⟩ := spC hA
    obtain ⟨a3, A4, rfl, h3, hA⟩ := spC hA
    obtain ⟨a4, A5, rfl, h4, hA⟩ := spC hA
    obtain ⟨a5, A6, rfl, h5, hA⟩ := spC hA
    rw [spN hA]
    unfold eqP
    show ∃ u, (mustP e [40] (a1 :: a2 :: a3 :: a4 :: a5 :: X)).bnd _ = _ ∧ _
    rw [must_k h1, bnd_ok, name_k h2, bnd_ok, must_k h3, bnd_ok]
    have hdig : digitP e (a4 :: a5 :: X) = .ok d (a5 :: X) := by
      unfold digitP
      unfold digB at hd
      simp only [Bool.or_eq_true, decide_eq_true_eq] at hd
      rcases hd with rfl | rfl
      · rw [if_pos (by rw [sees_k h4]; rfl)]; rfl
      · rw [if_neg (by rw [sees_k h4]; decide), if_pos (by rw [sees_k h4]; rfl)]; rfl
    rw [hdig, bnd_ok, must_k h5, bnd_ok]
    refine ⟨_, rfl, ?_⟩
    rw [erTr_mk, toTr_mk]; rfl
theorem eq_hd {f : Nat} {t : Sx} (h : okF f 4 t = true) : ∃ r, lineK f t = sg [40] :: r := by
  cases f with
  | zero => cases h
  | succ f =>
    obtain ⟨p, n, d, hn, hd, rfl⟩ := sx_eq h
    exact ⟨_, line13 f n d p⟩
theorem faceL_rd {e f : Nat} : ∀ (l : List Sx), l.all (okF f 4) = true → ∀ (A X : Ts) (F p : Nat) (acc : List Tr) (dn : List Sx), A.map ktT = (l.map (lineK f)).flatten → sees [40] X = false → A.length < F → acc.map erTr = dn.map toTr →
    ∃ u, faceL e F p acc (A ++ X) = .ok u X ∧ erTr u = .mk 12 [] ((dn ++ l).map toTr) [] 0 := by
  intro l
  induction l with
  | nil =>
    intro _ A X F p acc dn hA hX hF hacc
    obtain ⟨F, rfl⟩ : ∃ k, F = k + 1 := ⟨F - 1, by omega⟩
    rw [spN hA]
    refine ⟨.mk 12 [] acc [] p, ?_, ?_⟩
    · show (if sees [40] X then _ else _) = _
      rw [if_neg (by rw [hX]; simp)]
      rfl
    · rw [erTr_mk, erTrs_map, hacc, List.append_nil]
  | cons x l ih =>
    intro hl A X F p acc dn hA hX hF hacc
    rw [List.all_cons, Bool.and_eq_true] at hl
    rw [List.map_cons, List.flatten_cons] at hA
    obtain ⟨A1, A2, rfl, h1, h2⟩ := spA hA
    obtain ⟨F, rfl⟩ : ∃ k, F = k + 1 := ⟨F - 1, by omega⟩
    obtain ⟨u, hu, eu⟩ := eq_rd (e := e) hl.1 h1 (A2 ++ X)
    obtain ⟨r, hr⟩ := eq_hd hl.1
    have hs : sees [40] (A1 ++ (A2 ++ X)) = true := by
      rw [hr] at h1
      obtain ⟨a, A3, rfl, ha, _⟩ := spC h1
      show sees [40] (a :: (A3 ++ (A2 ++ X))) = true
      rw [sees_k ha]; rfl
    have hlen : 1 ≤ A1.length := by rw [hr] at h1; obtain ⟨a, A3, rfl, ha, _⟩ := spC h1; simp
    obtain ⟨v, hv, ev⟩ := ih hl.2 A2 X F p (acc ++ [u]) (dn ++ [x]) h2 hX (by rw [List.length_append] at hF; omega) (by simp [hacc, eu])
    refine ⟨v, ?_, by rw [ev]; simp⟩
    rw [List.append_assoc]
    show (if sees [40] (A1 ++ (A2 ++ X)) then (eqP e (A1 ++ (A2 ++ X))).bnd _ else _) = _
    rw [if_pos hs, hu, bnd_ok, hv]
theorem face_rd {e f : Nat} {t : Sx} (h : okF f 3 t = true) {A : Ts} (hA : A.map ktT = lineK f t) {X : Ts} (hX : sees [40] X = false) {F : Nat} (hF : A.length < F) : ∃ u, faceP e F (A ++ X) = .ok u X ∧ erTr u = toTr t := by
  cases f with
  | zero => cases h
  | succ f =>
    obtain ⟨p, l, hl, rfl⟩ := sx_face h
    rw [line12] at hA
    cases l with
    | nil =>
      rw [if_pos rfl] at hA
      obtain ⟨a, A2, rfl, ha, h2⟩ := spC hA
      rw [spN h2]
      unfold faceP
      show ∃ u, (if sees [49] (a :: X) then _ else _) = _ ∧ _
      rw [if_pos (by rw [sees_k ha]; rfl)]
      refine ⟨_, rfl, ?_⟩
      rw [erTr_mk, toTr_mk]; rfl
    | cons x l =>
      rw [if_neg (by simp), List.map_cons, List.flatten_cons] at hA
      rw [List.all_cons, Bool.and_eq_true] at hl
      obtain ⟨A1, A2, rfl, h1, h2⟩ := spA hA
      obtain ⟨u, hu, eu⟩ := eq_rd (e := e) hl.1 h1 (A2 ++ X)
      obtain ⟨r, hr⟩ := eq_hd hl.1
      have hs : sees [49] (A1 ++ (A2 ++ X)) = false := by
        rw [hr] at h1
        obtain ⟨a, A3, rfl, ha, _⟩ := spC h1
        show sees [49] (a :: (A3 ++ (A2 ++ X))) = false
        rw [sees_k ha]; rfl
      rw [List.length_append] at hF
      obtain ⟨v, hv, ev⟩ := faceL_rd (e := e) l hl.2 A2 X F (atP e (A1 ++ (A2 ++ X))) [u] [x] h2 hX (by omega) (by simp [eu])
      refine ⟨v, ?_, by rw [ev, toTr_mk]; rfl⟩
      rw [List.append_assoc]
      unfold faceP
      rw [if_neg (by rw [hs]; simp), hu, bnd_ok, hv]
theorem hd_face {f : Nat} {t : Sx} (h : okF f 3 t = true) : hdB [[49], [40]] (lineK f t) = true := by
  cases f with
  | zero => cases h
  | succ f =>
    obtain ⟨p, l, hl, rfl⟩ := sx_face h
    rw [line12]
    cases l with
    | nil => rfl
    | cons x l =>
      rw [if_neg (by simp), List.map_cons, List.flatten_cons]
      rw [List.all_cons, Bool.and_eq_true] at hl
      obtain ⟨r, hr⟩ := eq_hd hl.1
      rw [hr]; rfl
theorem hd_elem {f : Nat} {t : Sx} (h : okF f 2 t = true) : hdB [[49], [40]] (lineK f t) = true := by
  cases f with
  | zero => cases h
  | succ f =>
    obtain ⟨p, c, hc, rfl | ⟨a, ha, rfl⟩⟩ := sx_elem h
    · rw [line11]; exact hd_face hc
    · rw [line11t]; exact hd_app (hd_face hc) _
/-! ### terms -/
/-- What is read of a term's tokens: by itself, as an app's first part, as an atom; of an elem's. -/
structure TrmA (e f : Nat) : Prop where
  T : ∀ t, okF f 0 t = true → ∀ A X l F, A.map ktT = lineK f t → stB stT X → 10 * A.length ≤ F → Rd t X (termP e F l (A ++ X))
  C : ∀ t, okF f 0 t = true → ∀ A X l F, A.map ktT = partK f 2 t → 10 * A.length ≤ F + 4 → Rg t (appP e F l (A ++ X)) (fun F u => appL e F l u X) (F - 1 - A.length)
  B : ∀ t, okF f 0 t = true → ∀ A X l F, A.map ktT = partK f 3 t → 10 * A.length ≤ F + 5 → Rd t X (atomP e F l (A ++ X))
  E : ∀ t, okF f 2 t = true → ∀ A X l F, A.map ktT = lineK f t → stB stE X → 10 * A.length ≤ F + 5 → Rd t X (elemP e F l (A ++ X))
/-- Brackets round a term. -/
theorem brk_rd {e f : Nat} {t : Sx} (ok : okF f 0 t = true) (hT : ∀ A X l F, A.map ktT = lineK f t → stB stT X → 10 * A.length ≤ F → Rd t X (termP e F l (A ++ X))) :
    ∀ A X l F, A.map ktT = sg [40] :: (lineK f t ++ [sg [41]]) → 10 * A.length ≤ F + 5 → Rd t X (atomP e F l (A ++ X)) := by
  intro A X l F hA hF
  obtain ⟨b, A2, rfl, hb, h2⟩ := spC hA
  obtain ⟨A3, A4, rfl, h3, h4⟩ := spA h2
  obtain ⟨c, A5, rfl, hc, h5⟩ := spC h4
  rw [spN h5] at hF ⊢
  have l3 := hd_len h3 (hd_term f t ok).1
  simp only [List.length_append, List.length_cons, List.length_nil] at hF
  obtain ⟨F, rfl⟩ : ∃ k, F = k + 2 := ⟨F - 2, by omega⟩
  have eq : (b :: (A3 ++ [c])) ++ X = b :: (A3 ++ (c :: X)) := by simp
  rw [eq, atomP_s, if_neg (by rw [isN_k hb]; decide), if_neg (by rw [sees_k hb]; decide), brackP_s, must_k hb, bnd_ok]
  refine (hT A3 (c :: X) (l + 1) F h3 (st_cons hc (by decide) _) (by omega)).bnd fun u hu => ?_
  rw [if_neg (by rw [sees_k hc]; decide), if_neg (by rw [sees_k hc]; decide), must_k hc, bnd_ok]
  exact .inr ⟨u, rfl, hu⟩
theorem app_one {e F l : Nat} {t : Sx} {A X : Ts} (h0 : 1 ≤ A.length) (hF : 10 * A.length ≤ F + 4) (h : ∀ F, 10 * A.length ≤ F + 5 → Rd t X (atomP e F l (A ++ X))) : Rg t (appP e F l (A ++ X)) (fun F u => appL e F l u X) (F - 1 - A.length) := by
  obtain ⟨F, rfl⟩ : ∃ k, F = k + 1 := ⟨F - 1, by omega⟩
  rw [appP_s]
  rcases h F (by omega) with ⟨q, hq⟩ | ⟨u, hu, eu⟩
  · rw [hq]; exact .inl ⟨q, rfl⟩
  · rw [hu, bnd_ok]
    exact .inr ⟨u, F, rfl, eu, by omega⟩
theorem need12 {f : Nat} {t : Sx} (h : okF f 0 t = true) (q : needB t 1 = false) : needB t 2 = false ∧ frontB t = false := by
  cases f with
  | zero => cases h
  | succ f =>
    unfold needB at q ⊢
    rw [Bool.or_eq_false_iff] at q
    obtain ⟨q1, q2⟩ := q
    have q2 : frontB t = false := by simpa using q2
    refine ⟨?_, q2⟩
    obtain ⟨p, h⟩ := sx_term h
    rcases h with ⟨n, hn, rfl⟩ | ⟨ns, a, k, h0, hns, ha, hk, rfl⟩ | ⟨a, c, k, ha, hc, hk, rfl⟩ | ⟨n, a, c, k, hn, ha, hc, hk, rfl⟩ | ⟨a, c, ha, hc, rfl⟩ | ⟨a, c, ha, hc, rfl⟩ | ⟨a, c, k, ha, hc, hk, rfl⟩ | ⟨l, hl, rfl⟩
    · rfl
    · rcases hk with rfl | rfl <;> cases q1
    · rcases hk with rfl | rfl <;> cases q1
    · rcases hk with rfl | rfl <;> cases q1
    · rfl
    · rfl
    · rcases hk with rfl | rfl <;> rfl
    · rfl
/-- The first part of an arrow. -/
theorem front_rd {e f : Nat} (ih : TrmA e f) {t : Sx} (ok : okF f 0 t = true) {A X : Ts} {l F : Nat} (hA : A.map ktT = partK f 1 t) (hF : 10 * A.length ≤ F + 4) :
    Rg t (appP e F l (A ++ X)) (fun F u => appL e F l u X) (F - 1 - A.length) ∧ binderQ (A ++ X) = false ∧ hdB fsA (partK f 1 t) = true := by
  cases q : needB t 1
  · obtain ⟨q2, q3⟩ := need12 ok q
    have hA2 : A.map ktT = partK f 2 t := by rw [hA, partN q, partN q2]
    exact ⟨ih.C t ok A X l F hA2 hF, no_binder f t ok A X hA2 (fun h => by rw [q3] at h; cases h), by rw [partN q, ← partN (pl := 2) q2]; exact (hd_term f t ok).2.1⟩
  · rw [partY q] at hA ⊢
    refine ⟨app_one ?_ hF fun F hF => brk_rd ok (ih.T t ok) A X l F hA hF, ?_, hd_sg (by decide) _⟩
    · obtain ⟨b, A2, rfl, _⟩ := spC hA; simp
    · obtain ⟨a, A2, rfl, ha, h3⟩ := spC hA
      obtain ⟨A3, A4, rfl, h4, h5⟩ := spA h3
      obtain ⟨c, A5, rfl, hc, h6⟩ := spC h5
      show binderQ (a :: ((A3 ++ c :: A5) ++ X)) = false
      rw [List.append_assoc]
      exact nb_sec (sec_more h4 (sec_line _ t ok).1 (hd_ne (hd_term _ t ok).1) (by rw [(tk hc).2]; decide))
theorem boxL_rd {e f : Nat} (ih : TrmA e f) : ∀ (l : List Sx), l.all (okF f 2) = true → ∀ (A X : Ts) (lv F p : Nat) (acc : List Tr) (dn : List Sx), A.map ktT = (l.map fun x => sg [44] :: lineK f x).flatten ++ [sg [93]] → 10 * A.length ≤ F + 5 → acc.map erTr = dn.map toTr →
    (∃ q, boxL e F lv p acc (A ++ X) = .bad q 62) ∨ ∃ u, boxL e F lv p acc (A ++ X) = .ok u X ∧ erTr u = .mk 10 [] ((dn ++ l).map toTr) [] 0 := by
  intro l
  induction l with
  | nil =>
    intro _ A X lv F p acc dn hA hF hacc
    obtain ⟨a, A2, rfl, ha, h2⟩ := spC hA
    obtain ⟨F, rfl⟩ : ∃ k, F = k + 1 := ⟨F - 1, by simp at hF; omega⟩
    rw [spN h2]
    refine .inr ⟨.mk 10 [] acc [] p, ?_, ?_⟩
    · show boxL e (F + 1) lv p acc (a :: X) = _
      rw [boxL_s, if_neg (by rw [sees_k ha]; decide), must_k ha, bnd_ok]
    · rw [erTr_mk, erTrs_map, hacc, List.append_nil]
  | cons x l lh =>
    intro hl A X lv F p acc dn hA hF hacc
    rw [List.all_cons, Bool.and_eq_true] at hl
    rw [List.map_cons, List.flatten_cons] at hA
    simp only [List.cons_append, List.append_assoc] at hA
    obtain ⟨a, A2, rfl, ha, h2⟩ := spC hA
    obtain ⟨A3, A4, rfl, h3, h4⟩ := spA h2
    have l4 : 1 ≤ A4.length := by rw [← List.length_map ktT, h4]; simp
    simp only [List.length_cons, List.length_append] at hF
    obtain ⟨F, rfl⟩ : ∃ k, F = k + 1 := ⟨F - 1, by omega⟩
    have eq : (a :: (A3 ++ A4)) ++ X = a :: (A3 ++ (A4 ++ X)) := by simp
    rw [eq, boxL_s, if_pos (by rw [sees_k ha]; rfl)]
    have hst : stB stE (A4 ++ X) := by
      cases l with
      | nil => obtain ⟨b, A5, rfl, hb, _⟩ := spC h4; exact st_cons hb (by decide) _
      | cons y l => obtain ⟨b, A5, rfl, hb, _⟩ := spC h4; exact st_cons hb (by decide) _
    show (∃ q, ((elemP e F lv (A3 ++ (A4 ++ X))).bnd _) = _) ∨ ∃ u, ((elemP e F lv (A3 ++ (A4 ++ X))).bnd _) = _ ∧ _
    rcases ih.E x hl.1 A3 (A4 ++ X) lv F h3 hst (by omega) with ⟨q, hq⟩ | ⟨u, hu, eu⟩
    · rw [hq]; exact .inl ⟨q, rfl⟩
    · rw [hu, bnd_ok]
      have := lh hl.2 A4 X lv F p (acc ++ [u]) (dn ++ [x]) h4 (by omega) (by simp [hacc, eu])
      rw [List.append_assoc] at this
      exact this
theorem trmA_s {e f : Nat} (ih : TrmA e f) : TrmA e (f + 1) := by
  have E : ∀ t, okF (f + 1) 2 t = true → ∀ A X l F, A.map ktT = lineK (f + 1) t → stB stE X → 10 * A.length ≤ F + 5 → Rd t X (elemP e F l (A ++ X)) := by
    intro t h A X l F hA hX hF
    have l0 := hd_len hA (hd_elem h)
    obtain ⟨F, rfl⟩ : ∃ k, F = k + 1 := ⟨F - 1, by omega⟩
    rw [elemP_s]
    obtain ⟨p, c, hc, rfl | ⟨a, ha, rfl⟩⟩ := sx_elem h
    · rw [line11] at hA
      obtain ⟨u, hu, eu⟩ := face_rd (e := e) hc hA (X := X) (st_sees hX (by decide) (by decide)) (F := F) (by omega)
      rw [hu, bnd_ok, if_neg (by rw [st_sees hX (by decide) (by decide)]; simp)]
      refine .inr ⟨_, rfl, ?_⟩
      rw [erTr_mk, erTrs_map, List.map_cons, List.map_nil, eu, toTr_mk]; rfl
    · rw [line11t] at hA
      obtain ⟨A1, A2, rfl, h1, h2⟩ := spA hA
      obtain ⟨b, A3, rfl, hb, h3⟩ := spC h2
      simp only [List.length_append, List.length_cons] at hF
      have eq : (A1 ++ (b :: A3)) ++ X = A1 ++ (b :: (A3 ++ X)) := by simp
      rw [eq]
      obtain ⟨u, hu, eu⟩ := face_rd (e := e) hc h1 (X := b :: (A3 ++ X)) (by rw [sees_k hb]; rfl) (F := F) (by omega)
      rw [hu, bnd_ok, if_pos (by rw [sees_k hb]; rfl)]
      rw [part_0] at h3
      refine (ih.T a ha A3 X (l + 1) F h3 (st_sub hX (by decide)) (by omega)).bnd fun v hv => .inr ⟨_, rfl, ?_⟩
      rw [erTr_mk, erTrs_map, List.map_cons, List.map_cons, List.map_nil, eu, hv, toTr_mk]; rfl
  -- atoms as they stand
  have core : ∀ t, okF (f + 1) 0 t = true → needB t 3 = false → ∀ A X l F, A.map ktT = lineK (f + 1) t → 10 * A.length ≤ F + 5 → Rd t X (atomP e F l (A ++ X)) := by
    intro t h q A X l F hA hF
    have l0 := hd_len hA (hd_term _ t h).1
    obtain ⟨F, rfl⟩ : ∃ k, F = k + 1 := ⟨F - 1, by omega⟩
    rw [atomP_s]
    obtain ⟨p, h⟩ := sx_term h
    rcases h with ⟨n, hn, rfl⟩ | ⟨ns, a, k, h0, hns, ha, hk, rfl⟩ | ⟨a, c, k, ha, hc, hk, rfl⟩ | ⟨n, a, c, k, hn, ha, hc, hk, rfl⟩ | ⟨a, c, ha, hc, rfl⟩ | ⟨a, c, ha, hc, rfl⟩ | ⟨a, c, k, ha, hc, hk, rfl⟩ | ⟨ls, hl, rfl⟩
    · rw [line1] at hA
      obtain ⟨b, A2, rfl, hb, h2⟩ := spC hA
      rw [spN h2]
      show Rd _ X (if isN (b :: X) then _ else _)
      rw [if_pos (by rw [isN_k hb]; rfl)]
      refine .inr ⟨_, rfl, ?_⟩
      rw [erTr_mk, toTr_mk, show txt ([b] ++ X) = n from txt_k hb X]; rfl
    · rcases hk with rfl | rfl <;> cases q
    · rcases hk with rfl | rfl <;> cases q
    · rcases hk with rfl | rfl <;> cases q
    · cases q
    · cases q
    · have hk2 : lineK (f + 1) (.mk k [] [a, c] [] p) = sg [40] :: (lineK f a ++ (sg (if k = 8 then [44] else [58]) :: (lineK f c ++ [sg [41]]))) := by
        rcases hk with rfl | rfl
        · rw [line8, part_0, part_0]; rfl
        · rw [line9, part_0, part_0]; rfl
      rw [hk2] at hA
      obtain ⟨b, A2, rfl, hb, hA⟩ := spC hA
      obtain ⟨A3, A4, rfl, h3, hA⟩ := spA hA
      obtain ⟨d, A5, rfl, hd, hA⟩ := spC hA
      obtain ⟨A6, A7, rfl, h6, hA⟩ := spA hA
      obtain ⟨g, A8, rfl, hg, hA⟩ := spC hA
      rw [spN hA] at hF ⊢
      simp only [List.length_append, List.length_cons, List.length_nil] at hF
      obtain ⟨F, rfl⟩ : ∃ k, F = k + 1 := ⟨F - 1, by omega⟩
      have eq : (b :: (A3 ++ d :: (A6 ++ [g]))) ++ X = b :: (A3 ++ (d :: (A6 ++ (g :: X)))) := by simp
      rw [eq, if_neg (by rw [isN_k hb]; decide), if_neg (by rw [sees_k hb]; decide), brackP_s, must_k hb, bnd_ok]
      refine (ih.T a ha A3 _ (l + 1) F h3 (st_cons hd (by rcases hk with rfl | rfl <;> decide) _) (by omega)).bnd fun u hu => ?_
      have hc2 := ih.T c hc A6 (g :: X) (l + 1) F h6 (st_cons hg (by decide) _) (by omega)
      rcases hk with rfl | rfl
      · rw [if_pos (by rw [sees_k hd]; rfl)]
        refine hc2.bnd fun v hv => ?_
        rw [must_k hg, bnd_ok]
        refine .inr ⟨_, rfl, ?_⟩
        rw [erTr_mk, erTrs_map, List.map_cons, List.map_cons, List.map_nil, hu, hv, toTr_mk]; rfl
      · rw [if_neg (by rw [sees_k hd]; decide), if_pos (by rw [sees_k hd]; rfl)]
        refine hc2.bnd fun v hv => ?_
        rw [must_k hg, bnd_ok]
        refine .inr ⟨_, rfl, ?_⟩
        rw [erTr_mk, erTrs_map, List.map_cons, List.map_cons, List.map_nil, hu, hv, toTr_mk]; rfl
    · rw [line10] at hA
      obtain ⟨b, A2, rfl, hb, hA⟩ := spC hA
      have l2 : 1 ≤ A2.length := by rw [← List.length_map ktT, hA]; simp
      simp only [List.length_cons] at hF
      obtain ⟨F, rfl⟩ : ∃ k, F = k + 1 := ⟨F - 1, by omega⟩
      show Rd _ X (if isN (b :: (A2 ++ X)) then _ else if sees [91] (b :: (A2 ++ X)) then boxP e (F + 1) l (b :: (A2 ++ X)) else _)
      rw [if_neg (by rw [isN_k hb]; decide), if_pos (by rw [sees_k hb]; rfl), boxP_s]
      show Rd _ X (if sees [93] (A2 ++ X) then _ else (elemP e F l (A2 ++ X)).bnd _)
      cases ls with
      | nil =>
        obtain ⟨c, A3, rfl, hc, h3⟩ := spC hA
        rw [spN h3, if_pos (by show sees [93] (c :: X) = true; rw [sees_k hc]; rfl)]
        refine .inr ⟨_, rfl, ?_⟩
        rw [erTr_mk, toTr_mk]; rfl
      | cons x ls =>
        rw [List.all_cons, Bool.and_eq_true] at hl
        have hA : A2.map ktT = lineK f x ++ ((ls.map fun x => sg [44] :: lineK f x).flatten ++ [sg [93]]) := by
          rw [hA]
          show (lineK f x ++ ((ls.map (lineK f)).map fun y => sg [44] :: y).flatten) ++ _ = _
          rw [List.map_map, List.append_assoc]; rfl
        obtain ⟨A3, A4, rfl, h3, h4⟩ := spA hA
        have l3 := hd_len h3 (hd_elem hl.1)
        rw [List.length_append] at hF
        rw [List.append_assoc, if_neg (by rw [hd_sees h3 (hd_elem hl.1) (by decide) (by decide)]; simp)]
        have hst : stB stE (A4 ++ X) := by
          cases ls with
          | nil => obtain ⟨b, A5, rfl, hb, _⟩ := spC h4; exact st_cons hb (by decide) _
          | cons y l => obtain ⟨b, A5, rfl, hb, _⟩ := spC h4; exact st_cons hb (by decide) _
        refine (ih.E x hl.1 A3 (A4 ++ X) l F h3 hst (by omega)).bnd fun u hu => ?_
        rcases boxL_rd ih ls hl.2 A4 X l F (atP e (b :: (A3 ++ A4) ++ X)) [u] [x] h4 (by omega) (by simp [hu]) with ⟨q, hq⟩ | ⟨v, hv, ev⟩
        · exact .inl ⟨q, hq⟩
        · exact .inr ⟨v, hv, by rw [ev, toTr_mk]; rfl⟩
  -- terms that bind
  have bind : ∀ t, okF (f + 1) 0 t = true → needB t 2 = true → ∀ A X l F, A.map ktT = lineK (f + 1) t → stB stT X → 10 * A.length ≤ F → Rd t X (termP e F l (A ++ X)) := by
    intro t h q A X l F hA hX hF
    have l0 := hd_len hA (hd_term _ t h).1
    have hen := hd_enter hA (hd_term _ t h).1 X
    obtain ⟨F, rfl⟩ : ∃ k, F = k + 2 := ⟨F - 2, by omega⟩
    rw [termP_s]
    refine enter_rd (X := X) hen ?_
    obtain ⟨p, h⟩ := sx_term h
    rcases h with ⟨n, hn, rfl⟩ | ⟨ns, a, k, h0, hns, ha, hk, rfl⟩ | ⟨a, c, k, ha, hc, hk, rfl⟩ | ⟨n, a, c, k, hn, ha, hc, hk, rfl⟩ | ⟨a, c, ha, hc, rfl⟩ | ⟨a, c, ha, hc, rfl⟩ | ⟨a, c, k, ha, hc, hk, rfl⟩ | ⟨ls, hl, rfl⟩
    · cases q
    · have hk2 : lineK (f + 1) (.mk k [] [a] ns p) = sg (if k = 2 then [92] else [60]) :: (ns.map nk ++ (sg (if k = 2 then [46] else [62]) :: lineK f a)) := by
        rcases hk with rfl | rfl
        · rw [line2, part_0]; rfl
        · rw [line3, part_0]; rfl
      rw [hk2] at hA
      obtain ⟨b, A2, rfl, hb, hA⟩ := spC hA
      obtain ⟨A3, A4, rfl, h3, hA⟩ := spA hA
      obtain ⟨d, A5, rfl, hd, hA⟩ := spC hA
      simp only [List.length_append, List.length_cons] at hF
      have hIH := ih.T a ha A5 X (l + 1) F hA hX (by omega)
      have eq : (b :: (A3 ++ d :: A5)) ++ X = b :: (A3 ++ (d :: (A5 ++ X))) := by simp
      rw [eq]
      have hns2 := namesP_k e (Y := A5 ++ X) h0 h3 (c := d) (by rw [(tk hd).1]; decide)
      rcases hk with rfl | rfl
      · rw [if_pos (by rw [sees_k hb]; rfl), bindsP_s]
        show Rd _ X ((namesP e (A3 ++ (d :: (A5 ++ X)))).bnd _)
        rw [hns2, bnd_ok, must_k (show ktT d = sg [46] from hd), bnd_ok]
        refine hIH.bnd fun u hu => .inr ⟨_, rfl, ?_⟩
        rw [erTr_mk, erTrs_map, List.map_cons, List.map_nil, hu, toTr_mk]; rfl
      · rw [if_neg (by rw [sees_k hb]; decide), if_pos (by rw [sees_k hb]; rfl), bindsP_s]
        show Rd _ X ((namesP e (A3 ++ (d :: (A5 ++ X)))).bnd _)
        rw [hns2, bnd_ok, must_k (show ktT d = sg [62] from hd), bnd_ok]
        refine hIH.bnd fun u hu => .inr ⟨_, rfl, ?_⟩
        rw [erTr_mk, erTrs_map, List.map_cons, List.map_nil, hu, toTr_mk]; rfl
    · have hk2 : lineK (f + 1) (.mk k [] [a, c] [] p) = partK f 1 a ++ (sg (if k = 4 then [45, 62] else [42]) :: lineK f c) := by
        rcases hk with rfl | rfl
        · rw [line4, part_0]; rfl
        · rw [line5, part_0]; rfl
      rw [hk2] at hA
      obtain ⟨A3, A4, rfl, h3, hA⟩ := spA hA
      obtain ⟨d, A5, rfl, hd, hA⟩ := spC hA
      simp only [List.length_append, List.length_cons] at hF
      have hIH := ih.T c hc A5 X (l + 1) (F + 1) hA hX (by omega)
      have eq : (A3 ++ d :: A5) ++ X = A3 ++ (d :: (A5 ++ X)) := by simp
      rw [eq]
      obtain ⟨q1, q2, q3⟩ := front_rd ih ha (X := d :: (A5 ++ X)) (l := l) (F := F + 1) h3 (by omega)
      rw [if_neg (by rw [hd_sees h3 q3 (by decide) (by decide)]; simp), if_neg (by rw [hd_sees h3 q3 (by decide) (by decide)]; simp), if_neg (by rw [q2]; simp)]
      rcases q1 with ⟨q, hq⟩ | ⟨u, G, hu, eu, hG⟩
      · rw [hq]; exact .inl ⟨q, rfl⟩
      · rw [hu]
        show Rd _ X ((appL e G l u (d :: (A5 ++ X))).bnd _)
        rcases hk with rfl | rfl
        · rw [appL_st (by omega) (by rw [sees_k hd]; rfl) (by rw [isN_k hd]; rfl) (by rw [sees_k hd]; rfl) (by rw [sees_k hd]; rfl), bnd_ok]
          rw [if_pos (by unfold arrB; rw [sees_k hd]; rfl)]
          refine hIH.bnd fun v hv => .inr ⟨_, rfl, ?_⟩
          rw [er_two, eu, hv, toTr_mk]
          unfold arrK
          rw [if_pos (by rw [sees_k hd]; rfl)]; rfl
        · rw [appL_st (by omega) (by rw [sees_k hd]; rfl) (by rw [isN_k hd]; rfl) (by rw [sees_k hd]; rfl) (by rw [sees_k hd]; rfl), bnd_ok]
          rw [if_pos (by unfold arrB; rw [sees_k hd, sees_k hd]; rfl)]
          refine hIH.bnd fun v hv => .inr ⟨_, rfl, ?_⟩
          rw [er_two, eu, hv, toTr_mk]
          unfold arrK
          rw [if_neg (by rw [sees_k hd]; decide)]; rfl
    · have hk2 : lineK (f + 1) (.mk k [] [a, c] [n] p) = sg [40] :: nk n :: sg [58] :: (lineK f a ++ (sg [41] :: sg (if k = 4 then [45, 62] else [42]) :: lineK f c)) := by
        rcases hk with rfl | rfl
        · rw [line4n, part_0, part_0]; rfl
        · rw [line5n, part_0, part_0]; rfl
      rw [hk2] at hA
      obtain ⟨b, A2, rfl, hb, hA⟩ := spC hA
      obtain ⟨m, A3, rfl, hm, hA⟩ := spC hA
      obtain ⟨g, A4, rfl, hg, hA⟩ := spC hA
      obtain ⟨A5, A6, rfl, h5, hA⟩ := spA hA
      obtain ⟨s, A7, rfl, hs, hA⟩ := spC hA
      obtain ⟨d, A8, rfl, hd, hA⟩ := spC hA
      simp only [List.length_append, List.length_cons] at hF
      have eq : (b :: m :: g :: (A5 ++ s :: d :: A8)) ++ X = b :: m :: g :: (A5 ++ (s :: d :: (A8 ++ X))) := by simp
      rw [eq]
      have hbeh : behindL 0 (b :: m :: g :: (A5 ++ (s :: d :: (A8 ++ X)))) = txt (d :: (A8 ++ X)) :=
        behind_in (A := m :: g :: A5) (ks := nk n :: sg [58] :: lineK f a) hb hs (by rw [List.map_cons, List.map_cons, hm, hg, h5]) (bk_nk hn (bk_sg (by decide) (by decide) (bk_line f 0 a (by omega) ha)))
      have hq : binderQ (b :: m :: g :: (A5 ++ (s :: d :: (A8 ++ X)))) = true := by
        unfold binderQ
        rw [hbeh, arr_tx2]
        show (sees [40] (b :: _) && (isN (m :: _) && (sees [58] (g :: _) && _))) = true
        rw [sees_k hb, isN_k hm, sees_k hg]
        unfold arrB
        rw [sees_k hd, sees_k hd]
        rcases hk with rfl | rfl <;> rfl
      rw [if_neg (by rw [sees_k hb]; decide), if_neg (by rw [sees_k hb]; decide), if_pos hq, binderP_s]
      show Rd _ X ((nameP e (m :: g :: (A5 ++ (s :: d :: (A8 ++ X))))).bnd _)
      rw [name_k hm, bnd_ok, must_k hg, bnd_ok]
      refine (ih.T a ha A5 _ (l + 1) F h5 (st_cons hs (by decide) _) (by omega)).bnd fun u hu => ?_
      rw [must_k hs, bnd_ok]
      have har : arrB (d :: (A8 ++ X)) = true := by
        unfold arrB
        rw [sees_k hd, sees_k hd]
        rcases hk with rfl | rfl <;> rfl
      have hark : arrK (d :: (A8 ++ X)) = k.toNat := by
        unfold arrK
        rw [sees_k hd]
        rcases hk with rfl | rfl <;> rfl
      have harr : arrR (d :: (A8 ++ X)) = A8 ++ X := by
        unfold arrR
        rw [if_pos har]; rfl
      rw [harr, hark]
      refine (ih.T c hc A8 X (l + 1) F hA hX (by omega)).bnd fun v hv => .inr ⟨_, rfl, ?_⟩
      rw [erTr_mk, erTrs_map, List.map_cons, List.map_cons, List.map_nil, hu, hv, toTr_mk]; rfl
    · cases q
    · cases q
    · rcases hk with rfl | rfl <;> cases q
    · cases q
  have C : ∀ t, okF (f + 1) 0 t = true → ∀ A X l F, A.map ktT = partK (f + 1) 2 t → 10 * A.length ≤ F + 4 → Rg t (appP e F l (A ++ X)) (fun F u => appL e F l u X) (F - 1 - A.length) := by
    intro t h A X l F hA hF
    have l0 := hd_len hA (hd_term _ t h).2.1
    cases q : needB t 2
    · cases q3 : needB t 3
      · exact app_one l0 hF fun F hF => core t h q3 A X l F (by rw [hA, partN q]) hF
      · rw [partN q] at hA
        obtain ⟨p, h⟩ := sx_term h
        rcases h with ⟨n, hn, rfl⟩ | ⟨ns, a, k, h0, hns, ha, hk, rfl⟩ | ⟨a, c, k, ha, hc, hk, rfl⟩ | ⟨n, a, c, k, hn, ha, hc, hk, rfl⟩ | ⟨a, c, ha, hc, rfl⟩ | ⟨a, c, ha, hc, rfl⟩ | ⟨a, c, k, ha, hc, hk, rfl⟩ | ⟨ls, hl, rfl⟩
        · cases q3
        · rcases hk with rfl | rfl <;> cases q
        · rcases hk with rfl | rfl <;> cases q
        · rcases hk with rfl | rfl <;> cases q
        · rw [line6] at hA
          obtain ⟨A1, A2, rfl, h1, h2⟩ := spA hA
          have l1 := hd_len h1 (hd_term f a ha).2.1
          have l2 := hd_len h2 (hd_term f c hc).2.2
          simp only [List.length_append] at hF ⊢
          rw [List.append_assoc]
          rcases ih.C a ha A1 (A2 ++ X) l F h1 (by omega) with hp | ⟨u, G, hu, eu, hG⟩
          · exact .inl hp
          · rw [hu]
            obtain ⟨G, rfl⟩ : ∃ k, G = k + 1 := ⟨G - 1, by omega⟩
            show Rg _ (appL e (G + 1) l u (A2 ++ X)) _ _
            have hh := (hd_term f c hc).2.2
            have hen := hd_enter h2 hh X
            have hen2 : (isN (A2 ++ X) || (sees [40] (A2 ++ X) || sees [91] (A2 ++ X))) = true := by
              match A2, l2, hen with
              | b :: A2, _, hen =>
                rw [Bool.or_eq_true, decide_eq_true_eq] at hen
                rw [Bool.or_eq_true, Bool.or_eq_true]
                rcases hen with hen | hen
                · exact .inl hen
                · rcases List.mem_cons.1 hen with e1 | hen
                  · exact .inr (.inl (decide_eq_true e1))
                  · rcases List.mem_cons.1 hen with e1 | hen
                    · exact .inr (.inr (decide_eq_true e1))
                    · cases hen
            rw [appL_s, if_neg (by rw [hd_sees h2 hh (by decide) (by decide)]; simp), if_pos hen2]
            rcases ih.B c hc A2 X l G h2 (by omega) with ⟨q, hq⟩ | ⟨v, hv, ev⟩
            · rw [hq]; exact .inl ⟨q, rfl⟩
            · rw [hv, bnd_ok]
              refine .inr ⟨_, G, rfl, ?_, by omega⟩
              rw [er_two, eu, ev, toTr_mk]; rfl
        · rw [line7] at hA
          obtain ⟨A1, A2, rfl, h1, h2⟩ := spA hA
          obtain ⟨b, A3, rfl, hb, h3⟩ := spC h2
          have l1 := hd_len h1 (hd_term f a ha).2.1
          have l3 := hd_len h3 (hd_dim f c hc 6)
          simp only [List.length_append, List.length_cons] at hF ⊢
          rw [List.append_assoc]
          rcases ih.C a ha A1 ((b :: A3) ++ X) l F h1 (by omega) with hp | ⟨u, G, hu, eu, hG⟩
          · exact .inl hp
          · rw [hu]
            obtain ⟨G, rfl⟩ : ∃ k, G = k + 1 := ⟨G - 1, by omega⟩
            show Rg _ (appL e (G + 1) l u (b :: (A3 ++ X))) _ _
            rw [appL_s, if_pos (by rw [sees_k hb]; rfl)]
            show Rg _ ((dimP e G (l + 1) (A3 ++ X)).bnd _) _ _
            rcases (dimA_all e f).D c hc A3 X (l + 1) G h3 (by omega) with ⟨q, hq⟩ | ⟨v, hv, ev⟩
            · rw [hq]; exact .inl ⟨q, rfl⟩
            · rw [hv, bnd_ok]
              refine .inr ⟨_, G, rfl, ?_, by omega⟩
              rw [er_two, eu, ev, toTr_mk]; rfl
        · rcases hk with rfl | rfl <;> cases q3
        · cases q3
    · rw [partY q] at hA
      exact app_one l0 hF fun F hF => brk_rd h (bind t h q) A X l F hA hF
  have T : ∀ t, okF (f + 1) 0 t = true → ∀ A X l F, A.map ktT = lineK (f + 1) t → stB stT X → 10 * A.length ≤ F → Rd t X (termP e F l (A ++ X)) := by
    intro t h A X l F hA hX hF
    cases q : needB t 2
    · have hA2 : A.map ktT = partK (f + 1) 2 t := by rw [partN q, hA]
      have hh := (hd_term _ t h).2.1
      have l0 := hd_len hA2 hh
      have hen := hd_enter hA (hd_term _ t h).1 X
      obtain ⟨F, rfl⟩ : ∃ k, F = k + 1 := ⟨F - 1, by omega⟩
      rw [termP_s]
      refine enter_rd (X := X) hen ?_
      have harr : arrB X = false := by
        unfold arrB
        rw [st_sees hX (by decide) (by decide), st_sees hX (by decide) (by decide)]; rfl
      rw [if_neg (by rw [hd_sees hA2 hh (by decide) (by decide)]; simp), if_neg (by rw [hd_sees hA2 hh (by decide) (by decide)]; simp), if_neg (by rw [no_binder _ t h A X hA2 fun _ => harr]; simp)]
      rcases C t h A X l F hA2 (by omega) with ⟨q, hq⟩ | ⟨u, G, hu, eu, hG⟩
      · rw [hq]; exact .inl ⟨q, rfl⟩
      · rw [hu]
        show Rd _ X ((appL e G l u X).bnd _)
        rw [appL_st (by omega) (st_sees hX (by decide) (by decide)) (st_isN hX) (st_sees hX (by decide) (by decide)) (st_sees hX (by decide) (by decide)), bnd_ok, if_neg (by rw [harr]; simp)]
        exact .inr ⟨u, rfl, eu⟩
    · exact bind t h q A X l F hA hX hF
  refine ⟨T, C, ?_, E⟩
  intro t h A X l F hA hF
  cases q : needB t 3
  · exact core t h q A X l F (by rw [hA, partN q]) hF
  · rw [partY q] at hA
    exact brk_rd h (T t h) A X l F hA hF
theorem trmA_all (e f : Nat) : TrmA e f := by
  induction f with
  | zero => exact ⟨fun t h => (by cases h), fun t h => (by cases h), fun t h => (by cases h), fun t h => (by cases h)⟩
  | succ f ih => exact trmA_s ih
/-- The text of a tree that may be is read as that tree, but for places, or is too deep. -/
theorem back_text {f F : Nat} {t : Sx} (h : okF f 0 t = true) (hl : (lineF f t).length ≤ 65536) (hF : 655364 ≤ F) :
    (termA F (lineF f t)).2.2 = 62 ∨ ((termA F (lineF f t)).2.2 = 0 ∧ erTr (termA F (lineF f t)).1 = toTr t) := by
  have hs : Sc (lineF f t) (lineK f t ++ [(0, [])]) := by
    have := lx_line f 0 t h [] [(0, [])] (fun c t e => by cases e) sc_nil
    rwa [List.append_nil] at this
  obtain ⟨h0, hk⟩ := scanF_sc (as_line f 0 t h) hl hs
  have hA : (rdA (lineF f t)).map ktT = lineK f t := by
    unfold rdA
    rw [List.map_dropLast, hk, List.dropLast_concat]
  have hlen : (rdA (lineF f t)).length ≤ 65536 := by
    obtain ⟨h1, _, _, _, h2, _⟩ := scan_form h0
    omega
  have r := (trmA_all (lineF f t).length f).T t h (rdA (lineF f t)) [] 1 F hA (st_nil _) (by omega)
  rw [List.append_nil] at r
  unfold termA
  rw [if_pos h0]
  unfold singleP
  rcases r with ⟨q, hq⟩ | ⟨u, hu, eu⟩
  · rw [hq]; exact .inl rfl
  · rw [hu, bnd_ok, if_pos rfl]
    exact .inr ⟨rfl, eu⟩
end Go.Proofs.YtahnbigkdfmpbaaDoor
