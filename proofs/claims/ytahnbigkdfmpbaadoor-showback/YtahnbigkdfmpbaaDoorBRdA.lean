/- For ShowBack: what a tree that may be is, by its kind; the tokens of its text, as the rules of reading meet them. -/
import Derived.Test.YtahnbigkdfmpbaaDoorBAsc
import Derived.Test.YtahnbigkdfmpbaaDoorPText
namespace Go.Proofs.YtahnbigkdfmpbaaDoor
set_option linter.unusedVariables false
set_option linter.unusedSimpArgs false

/-- The tree without its places. -/
def toTr : Sx → Tr
  | .mk k n kids ns _ => .mk k.toNat n (kids.map fun x => toTr x) ns 0
theorem toTr_mk (k : Int) (n : Bs) (kids : List Sx) (ns : List Bs) (a : Int) : toTr (.mk k n kids ns a) = .mk k.toNat n (kids.map toTr) ns 0 := by rw [toTr]
/-- What a rule tells of a tree's tokens: that it is too deep, or the tree. -/
def Rd (t : Sx) (X : Ts) (r : Rs Tr) : Prop := (∃ p, r = .bad p 62) ∨ ∃ u, r = .ok u X ∧ erTr u = toTr t
theorem Rd.bnd {t t2 : Sx} {X Y : Ts} {r : Rs Tr} {k : Tr → Ts → Rs Tr} (h : Rd t X r) (hk : ∀ u, erTr u = toTr t → Rd t2 Y (k u X)) : Rd t2 Y (r.bnd k) := by
  rcases h with ⟨p, rfl⟩ | ⟨u, rfl, hu⟩
  · exact .inl ⟨p, rfl⟩
  · exact hk u hu
/-- The same, where the rule goes on as another one. -/
def Rg (t : Sx) (r : Rs Tr) (k : Nat → Tr → Rs Tr) (m : Nat) : Prop := (∃ p, r = .bad p 62) ∨ ∃ u f, r = k f u ∧ erTr u = toTr t ∧ m ≤ f

/-! ### tokens -/
theorem tk {a : Tok} {n : Nat} {s : Bs} (h : ktT a = (n, s)) : a.kind = n ∧ a.text = s := by
  unfold ktT at h
  injection h with h1 h2
  exact ⟨h1, h2⟩
theorem spA {A : Ts} {k1 k2 : List Kt} (h : A.map ktT = k1 ++ k2) : ∃ A1 A2, A = A1 ++ A2 ∧ A1.map ktT = k1 ∧ A2.map ktT = k2 := by
  obtain ⟨A1, A2, h0, h1, h2⟩ := List.map_eq_append_iff.1 h
  exact ⟨A1, A2, h0, h1, h2⟩
theorem spC {A : Ts} {k : Kt} {ks : List Kt} (h : A.map ktT = k :: ks) : ∃ a A2, A = a :: A2 ∧ ktT a = k ∧ A2.map ktT = ks := by
  obtain ⟨a, A2, h0, h1, h2⟩ := List.map_eq_cons_iff.1 h
  exact ⟨a, A2, h0, h1, h2⟩
theorem spN {A : Ts} (h : A.map ktT = []) : A = [] := List.map_eq_nil_iff.1 h
theorem sees_k {a : Tok} {n : Nat} {s : Bs} (h : ktT a = (n, s)) (x : Bs) (R : Ts) : sees x (a :: R) = decide (s = x) := by
  show decide (a.text = x) = _
  rw [(tk h).2]
theorem isN_k {a : Tok} {n : Nat} {s : Bs} (h : ktT a = (n, s)) (R : Ts) : isN (a :: R) = decide (n = 1) := by
  show decide (a.kind = 1) = _
  rw [(tk h).1]
theorem txt_k {a : Tok} {n : Nat} {s : Bs} (h : ktT a = (n, s)) (R : Ts) : txt (a :: R) = s := (tk h).2
theorem must_k {a : Tok} {n : Nat} {s : Bs} (h : ktT a = (n, s)) (e : Nat) (R : Ts) : mustP e s (a :: R) = .ok () R := by
  unfold mustP
  rw [if_pos (by rw [sees_k h]; simp)]
  rfl
theorem name_k {a : Tok} {s : Bs} (h : ktT a = nk s) (e : Nat) (R : Ts) : nameP e (a :: R) = .ok s R := by
  unfold nameP
  rw [if_pos (by rw [isN_k h]; rfl), txt_k h]
  rfl
theorem name_ne {s x : Bs} (h : nameB s = true) (hx : nameB x = false) : s ≠ x := fun e => by rw [e, hx] at h; cases h
theorem seesN {a : Tok} {s x : Bs} (h : ktT a = nk s) (hs : nameB s = true) (hx : nameB x = false) (R : Ts) : sees x (a :: R) = false := by
  rw [sees_k h]
  exact decide_eq_false (name_ne hs hx)
/-- How tokens begin: with a name, or one of these signs. -/
def hdB (signs : List Bs) : List Kt → Bool
  | [] => false
  | k :: _ => (decide (k.1 = 1) && nameB k.2) || (decide (k.1 = 2) && decide (k.2 ∈ signs))
theorem hd_app {signs : List Bs} {ks : List Kt} (h : hdB signs ks = true) (r : List Kt) : hdB signs (ks ++ r) = true := by
  match ks, h with
  | k :: ks, h => exact h
theorem hd_sub {s1 s2 : List Bs} {ks : List Kt} (h : hdB s1 ks = true) (hs : ∀ x ∈ s1, x ∈ s2) : hdB s2 ks = true := by
  match ks, h with
  | k :: ks, h =>
    unfold hdB at h ⊢
    simp only [Bool.or_eq_true, Bool.and_eq_true, decide_eq_true_eq] at h ⊢
    exact h.imp id fun h => ⟨h.1, hs _ h.2⟩
theorem hd_ne {signs : List Bs} {ks : List Kt} (h : hdB signs ks = true) : ks ≠ [] := by
  intro e
  rw [e] at h
  cases h
theorem hd_len {signs : List Bs} {A : Ts} {ks : List Kt} (hA : A.map ktT = ks) (h : hdB signs ks = true) : 1 ≤ A.length := by
  cases A with
  | nil => rw [← hA] at h; cases h
  | cons a A => simp
theorem hd_sees {signs : List Bs} {A : Ts} {ks : List Kt} (hA : A.map ktT = ks) (h : hdB signs ks = true) {x : Bs} (hx : x ∉ signs) (hn : nameB x = false) (X : Ts) : sees x (A ++ X) = false := by
  subst hA
  cases A with
  | nil => cases h
  | cons a A =>
    show decide (a.text = x) = false
    refine decide_eq_false fun e => ?_
    simp only [List.map_cons, hdB, ktT, Bool.or_eq_true, Bool.and_eq_true, decide_eq_true_eq] at h
    rcases h with h | h
    · rw [e, hn] at h; cases h.2
    · rw [e] at h; exact hx h.2
theorem hd_enter {signs : List Bs} {A : Ts} {ks : List Kt} (hA : A.map ktT = ks) (h : hdB signs ks = true) (X : Ts) : (isN (A ++ X) || decide (txt (A ++ X) ∈ signs)) = true := by
  subst hA
  cases A with
  | nil => cases h
  | cons a A =>
    simp only [List.map_cons, hdB, ktT, Bool.or_eq_true, Bool.and_eq_true, decide_eq_true_eq] at h
    show (decide (a.kind = 1) || decide (a.text ∈ signs)) = true
    rw [Bool.or_eq_true, decide_eq_true_eq, decide_eq_true_eq]
    exact h.imp And.left And.right
theorem enter_rd {t : Sx} {X Y R : Ts} {e l : Nat} {signs : List Bs} {k : Rs Tr} (h : (isN R || decide (txt R ∈ signs)) = true) (hk : Rd t Y k) : Rd t Y (enterQ e l signs R k) := by
  unfold enterQ
  rw [if_pos h]
  split
  · exact .inl ⟨_, rfl⟩
  · exact hk
/-- What ends a part: nothing more, or one of these signs. -/
def stB (l : List Bs) (X : Ts) : Prop := X = [] ∨ ∃ a R, X = a :: R ∧ a.kind ≠ 1 ∧ a.text ∈ l
theorem st_nil (l : List Bs) : stB l [] := .inl rfl
theorem st_cons {l : List Bs} {a : Tok} {s : Bs} (h : ktT a = sg s) (hs : s ∈ l) (R : Ts) : stB l (a :: R) := .inr ⟨a, R, rfl, by rw [(tk h).1]; decide, by rw [(tk h).2]; exact hs⟩
theorem st_sub {l m : List Bs} {X : Ts} (h : stB l X) (hs : ∀ x ∈ l, x ∈ m) : stB m X := h.imp id fun ⟨a, R, h1, h2, h3⟩ => ⟨a, R, h1, h2, hs _ h3⟩
theorem st_sees {l : List Bs} {X : Ts} (h : stB l X) {x : Bs} (hx : x ∉ l) (h0 : x ≠ []) : sees x X = false := by
  rcases h with rfl | ⟨a, R, rfl, _, h3⟩
  · exact decide_eq_false h0
  · exact decide_eq_false fun e => hx (e ▸ h3)
theorem st_isN {l : List Bs} {X : Ts} (h : stB l X) : isN X = false := by
  rcases h with rfl | ⟨a, R, rfl, h2, _⟩
  · rfl
  · exact decide_eq_false h2
/-- The ends of terms. -/
def stT : List Bs := [[41], [44], [58], [93]]

/-! ### trees by their kinds -/
theorem sx_term {f : Nat} {t : Sx} (h : okF (f + 1) 0 t = true) : ∃ p,
    (∃ n, nameB n = true ∧ t = .mk 1 n [] [] p) ∨
    (∃ ns a k, ns ≠ [] ∧ ns.all nameB = true ∧ okF f 0 a = true ∧ (k = 2 ∨ k = 3) ∧ t = .mk k [] [a] ns p) ∨
    (∃ a c k, okF f 0 a = true ∧ okF f 0 c = true ∧ (k = 4 ∨ k = 5) ∧ t = .mk k [] [a, c] [] p) ∨
    (∃ n a c k, nameB n = true ∧ okF f 0 a = true ∧ okF f 0 c = true ∧ (k = 4 ∨ k = 5) ∧ t = .mk k [] [a, c] [n] p) ∨
    (∃ a c, okF f 0 a = true ∧ okF f 0 c = true ∧ t = .mk 6 [] [a, c] [] p) ∨
    (∃ a c, okF f 0 a = true ∧ okF f 1 c = true ∧ t = .mk 7 [] [a, c] [] p) ∨
    (∃ a c k, okF f 0 a = true ∧ okF f 0 c = true ∧ (k = 8 ∨ k = 9) ∧ t = .mk k [] [a, c] [] p) ∨
    (∃ l, l.all (okF f 2) = true ∧ t = .mk 10 [] l [] p) := by
  obtain ⟨k, n, kids, ns, p⟩ := t
  refine ⟨p, ?_⟩
  rw [okF_s] at h
  have h : termB (okF f) (.mk k n kids ns p) = true := h
  unfold termB nameTreeB namelessB at h
  simp only at h
  by_cases h1 : k = 1
  · subst h1
    rw [if_pos rfl] at h
    simp only [Bool.and_eq_true, decide_eq_true_eq] at h
    obtain ⟨h1, rfl, rfl⟩ := h
    exact .inl ⟨n, h1, rfl⟩
  rw [if_neg h1] at h
  refine .inr ?_
  by_cases h2 : k = 2 ∨ k = 3
  · rw [if_pos h2] at h
    simp only [Bool.and_eq_true, decide_eq_true_eq] at h
    obtain ⟨rfl, h3, h4, h5⟩ := h
    obtain ⟨a, rfl, ha⟩ := are1_inv h5
    exact .inl ⟨ns, a, k, h3, h4, ha, h2, rfl⟩
  rw [if_neg h2] at h
  refine .inr ?_
  by_cases h3 : k = 4 ∨ k = 5
  · rw [if_pos h3] at h
    simp only [Bool.and_eq_true, decide_eq_true_eq] at h
    obtain ⟨rfl, h4, h5, h6⟩ := h
    obtain ⟨a, c, rfl, ha, hc⟩ := are2_inv h6
    match ns, h4, h5 with
    | [], _, _ => exact .inl ⟨a, c, k, ha, hc, h3, rfl⟩
    | [n], _, h5 => exact .inr (.inl ⟨n, a, c, k, by simpa using h5, ha, hc, h3, rfl⟩)
    | _ :: _ :: _, h4, _ => exact absurd h4 (by simp only [List.length_cons]; omega)
  rw [if_neg h3] at h
  refine .inr (.inr ?_)
  by_cases h4 : k = 6 ∨ k = 8 ∨ k = 9
  · rw [if_pos h4] at h
    simp only [Bool.and_eq_true, decide_eq_true_eq] at h
    obtain ⟨⟨rfl, rfl⟩, h5⟩ := h
    obtain ⟨a, c, rfl, ha, hc⟩ := are2_inv h5
    rcases h4 with rfl | h4
    · exact .inl ⟨a, c, ha, hc, rfl⟩
    · exact .inr (.inr (.inl ⟨a, c, k, ha, hc, h4, rfl⟩))
  rw [if_neg h4] at h
  by_cases h5 : k = 7
  · subst h5
    rw [if_pos rfl] at h
    simp only [Bool.and_eq_true, decide_eq_true_eq] at h
    obtain ⟨⟨rfl, rfl⟩, h5⟩ := h
    obtain ⟨a, c, rfl, ha, hc⟩ := are2_inv h5
    exact .inr (.inl ⟨a, c, ha, hc, rfl⟩)
  rw [if_neg h5] at h
  by_cases h6 : k = 10
  · subst h6
    rw [if_pos rfl] at h
    simp only [Bool.and_eq_true, decide_eq_true_eq] at h
    obtain ⟨⟨rfl, rfl⟩, h5⟩ := h
    exact .inr (.inr (.inr ⟨kids, h5, rfl⟩))
  rw [if_neg h6] at h
  cases h
theorem sx_dim {f : Nat} {t : Sx} (h : okF (f + 1) 1 t = true) : ∃ p,
    (∃ n, nameB n = true ∧ t = .mk 1 n [] [] p) ∨
    (∃ n, digB n = true ∧ t = .mk 17 n [] [] p) ∨
    (∃ a, okF f 1 a = true ∧ t = .mk 16 [] [a] [] p) ∨
    (∃ a c, okF f 1 a = true ∧ okF f 1 c = true ∧ t = .mk 15 [] [a, c] [] p) ∨
    (∃ a c, okF f 1 a = true ∧ okF f 1 c = true ∧ t = .mk 14 [] [a, c] [] p) := by
  obtain ⟨k, n, kids, ns, p⟩ := t
  refine ⟨p, ?_⟩
  rw [okF_s] at h
  have h : dimB (okF f) (.mk k n kids ns p) = true := h
  unfold dimB nameTreeB namelessB at h
  simp only at h
  by_cases h1 : k = 1
  · subst h1
    rw [if_pos rfl] at h
    simp only [Bool.and_eq_true, decide_eq_true_eq] at h
    obtain ⟨h1, rfl, rfl⟩ := h
    exact .inl ⟨n, h1, rfl⟩
  rw [if_neg h1] at h
  refine .inr ?_
  by_cases h2 : k = 17
  · subst h2
    rw [if_pos rfl] at h
    simp only [Bool.and_eq_true, decide_eq_true_eq] at h
    obtain ⟨h1, rfl, rfl⟩ := h
    exact .inl ⟨n, h1, rfl⟩
  rw [if_neg h2] at h
  refine .inr ?_
  by_cases h3 : k = 16
  · subst h3
    rw [if_pos rfl] at h
    simp only [Bool.and_eq_true, decide_eq_true_eq] at h
    obtain ⟨⟨rfl, rfl⟩, h5⟩ := h
    obtain ⟨a, rfl, ha⟩ := are1_inv h5
    exact .inl ⟨a, ha, rfl⟩
  rw [if_neg h3] at h
  refine .inr ?_
  by_cases h4 : k = 15 ∨ k = 14
  · rw [if_pos h4] at h
    simp only [Bool.and_eq_true, decide_eq_true_eq] at h
    obtain ⟨⟨rfl, rfl⟩, h5⟩ := h
    obtain ⟨a, c, rfl, ha, hc⟩ := are2_inv h5
    rcases h4 with rfl | rfl
    · exact .inl ⟨a, c, ha, hc, rfl⟩
    · exact .inr ⟨a, c, ha, hc, rfl⟩
  rw [if_neg h4] at h
  cases h
theorem sx_elem {f : Nat} {t : Sx} (h : okF (f + 1) 2 t = true) : ∃ p c, okF f 3 c = true ∧ (t = .mk 11 [] [c] [] p ∨ ∃ a, okF f 0 a = true ∧ t = .mk 11 [] [c, a] [] p) := by
  obtain ⟨k, n, kids, ns, p⟩ := t
  rw [okF_s] at h
  have h : elemB (okF f) (.mk k n kids ns p) = true := h
  unfold elemB namelessB at h
  simp only [Bool.and_eq_true, decide_eq_true_eq] at h
  obtain ⟨rfl, ⟨rfl, rfl⟩, h⟩ := h
  rcases (Bool.or_eq_true _ _).mp h with h | h
  · obtain ⟨c, rfl, hc⟩ := are1_inv h
    exact ⟨p, c, hc, .inl rfl⟩
  · obtain ⟨c, a, rfl, hc, ha⟩ := are2_inv h
    exact ⟨p, c, hc, .inr ⟨a, ha, rfl⟩⟩
theorem sx_face {f : Nat} {t : Sx} (h : okF (f + 1) 3 t = true) : ∃ p l, l.all (okF f 4) = true ∧ t = .mk 12 [] l [] p := by
  obtain ⟨k, n, kids, ns, p⟩ := t
  rw [okF_s] at h
  have h : faceB (okF f) (.mk k n kids ns p) = true := h
  unfold faceB namelessB at h
  simp only [Bool.and_eq_true, decide_eq_true_eq] at h
  obtain ⟨rfl, ⟨rfl, rfl⟩, h⟩ := h
  exact ⟨p, kids, h, rfl⟩
theorem sx_eq {f : Nat} {t : Sx} (h : okF (f + 1) 4 t = true) : ∃ p n d, nameB n = true ∧ digB d = true ∧ t = .mk 13 n [] [d] p := by
  obtain ⟨k, n, kids, ns, p⟩ := t
  rw [okF_s] at h
  have h : eqB (.mk k n kids ns p) = true := h
  unfold eqB digitsB at h
  simp only [Bool.and_eq_true, decide_eq_true_eq] at h
  obtain ⟨rfl, h1, h2, rfl⟩ := h
  match ns, h2 with
  | [d], h2 => exact ⟨p, n, d, h1, h2, rfl⟩
theorem line1 (f : Nat) (n : Bs) (p : Int) : lineK (f + 1) (.mk 1 n [] [] p) = [nk n] := rfl
theorem line17 (f : Nat) (n : Bs) (p : Int) : lineK (f + 1) (.mk 17 n [] [] p) = [sg n] := rfl
theorem line2 (f : Nat) (a : Sx) (ns : List Bs) (p : Int) : lineK (f + 1) (.mk 2 [] [a] ns p) = sg [92] :: (ns.map nk ++ (sg [46] :: partK f 0 a)) := rfl
theorem line3 (f : Nat) (a : Sx) (ns : List Bs) (p : Int) : lineK (f + 1) (.mk 3 [] [a] ns p) = sg [60] :: (ns.map nk ++ (sg [62] :: partK f 0 a)) := rfl
theorem line4 (f : Nat) (a c : Sx) (p : Int) : lineK (f + 1) (.mk 4 [] [a, c] [] p) = partK f 1 a ++ (sg [45, 62] :: partK f 0 c) := rfl
theorem line5 (f : Nat) (a c : Sx) (p : Int) : lineK (f + 1) (.mk 5 [] [a, c] [] p) = partK f 1 a ++ (sg [42] :: partK f 0 c) := rfl
theorem line4n (f : Nat) (a c : Sx) (n : Bs) (p : Int) : lineK (f + 1) (.mk 4 [] [a, c] [n] p) = sg [40] :: nk n :: sg [58] :: (partK f 0 a ++ (sg [41] :: sg [45, 62] :: partK f 0 c)) := rfl
theorem line5n (f : Nat) (a c : Sx) (n : Bs) (p : Int) : lineK (f + 1) (.mk 5 [] [a, c] [n] p) = sg [40] :: nk n :: sg [58] :: (partK f 0 a ++ (sg [41] :: sg [42] :: partK f 0 c)) := rfl
theorem line6 (f : Nat) (a c : Sx) (p : Int) : lineK (f + 1) (.mk 6 [] [a, c] [] p) = partK f 2 a ++ partK f 3 c := rfl
theorem line7 (f : Nat) (a c : Sx) (p : Int) : lineK (f + 1) (.mk 7 [] [a, c] [] p) = partK f 2 a ++ (sg [64] :: partK f 6 c) := rfl
theorem line8 (f : Nat) (a c : Sx) (p : Int) : lineK (f + 1) (.mk 8 [] [a, c] [] p) = sg [40] :: (partK f 0 a ++ (sg [44] :: (partK f 0 c ++ [sg [41]]))) := rfl
theorem line9 (f : Nat) (a c : Sx) (p : Int) : lineK (f + 1) (.mk 9 [] [a, c] [] p) = sg [40] :: (partK f 0 a ++ (sg [58] :: (partK f 0 c ++ [sg [41]]))) := rfl
theorem line10 (f : Nat) (l : List Sx) (p : Int) : lineK (f + 1) (.mk 10 [] l [] p) = sg [91] :: (jnK (sg [44]) (l.map (lineK f)) ++ [sg [93]]) := rfl
theorem line11 (f : Nat) (c : Sx) (p : Int) : lineK (f + 1) (.mk 11 [] [c] [] p) = lineK f c := by
  show lineK f c ++ [] = _
  rw [List.append_nil]
theorem line11t (f : Nat) (c a : Sx) (p : Int) : lineK (f + 1) (.mk 11 [] [c, a] [] p) = lineK f c ++ (sg [45, 62] :: partK f 0 a) := rfl
theorem line12 (f : Nat) (l : List Sx) (p : Int) : lineK (f + 1) (.mk 12 [] l [] p) = if l = [] then [sg [49]] else (l.map (lineK f)).flatten := rfl
theorem line13 (f : Nat) (n d : Bs) (p : Int) : lineK (f + 1) (.mk 13 n [] [d] p) = [sg [40], nk n, sg [61], sg d, sg [41]] := rfl
theorem line14 (f : Nat) (a c : Sx) (p : Int) : lineK (f + 1) (.mk 14 [] [a, c] [] p) = partK f 4 a ++ (sg [92, 47] :: partK f 5 c) := rfl
theorem line15 (f : Nat) (a c : Sx) (p : Int) : lineK (f + 1) (.mk 15 [] [a, c] [] p) = partK f 5 a ++ (sg [47, 92] :: partK f 6 c) := rfl
theorem line16 (f : Nat) (a : Sx) (p : Int) : lineK (f + 1) (.mk 16 [] [a] [] p) = sg [126] :: partK f 6 a := rfl
theorem partN {f pl : Nat} {t : Sx} (h : needB t pl = false) : partK f pl t = lineK f t := by
  unfold partK partKR
  rw [if_neg (by rw [h]; simp)]
theorem partY {f pl : Nat} {t : Sx} (h : needB t pl = true) : partK f pl t = sg [40] :: (lineK f t ++ [sg [41]]) := by
  unfold partK partKR
  rw [if_pos h]
theorem part_0 (f : Nat) (t : Sx) : partK f 0 t = lineK f t := partN (by unfold needB; simp)
theorem part_bal (f pl : Nat) (t : Sx) : partK f pl t = lineK f t ∨ partK f pl t = sg [40] :: (lineK f t ++ [sg [41]]) := by
  cases h : needB t pl
  · exact .inl (partN h)
  · exact .inr (partY h)
end Go.Proofs.YtahnbigkdfmpbaaDoor
