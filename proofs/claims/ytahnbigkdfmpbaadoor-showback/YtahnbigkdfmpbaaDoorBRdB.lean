/- For ShowBack: how the tokens of a tree's text begin, that its brackets are even, and where no binder begins. -/
import Derived.Test.YtahnbigkdfmpbaaDoorBRdA
namespace Go.Proofs.YtahnbigkdfmpbaaDoor
set_option linter.unusedVariables false
set_option linter.unusedSimpArgs false

/-! ### first tokens -/
def fsT : List Bs := [[92], [60], [40], [91]]
def fsA : List Bs := [[40], [91]]
def fsD : List Bs := [[48], [49], [126], [40]]
theorem hd_nk {n : Bs} (h : nameB n = true) (s : List Bs) (r : List Kt) : hdB s (nk n :: r) = true := by simp [hdB, nk, h]
theorem hd_sg {x : Bs} {s : List Bs} (h : x ∈ s) (r : List Kt) : hdB s (sg x :: r) = true := by simp [hdB, sg, h]
theorem need_ann {t : Sx} (k : Int) (n : Bs) (kids : List Sx) (ns : List Bs) (p : Int) : lastP (Sx.mk k n kids ns p).kind = lastP k := rfl
/-- The tokens of a term, and of an app's part, begin so. -/
theorem hd_term (f : Nat) : ∀ t : Sx, okF f 0 t = true → hdB fsT (lineK f t) = true ∧ hdB fsA (partK f 2 t) = true ∧ hdB fsA (partK f 3 t) = true := by
  induction f with
  | zero => intro t h; cases h
  | succ f ih =>
    intro t h
    have top : hdB fsT (lineK (f + 1) t) = true ∧ (needB t 2 = false → hdB fsA (lineK (f + 1) t) = true) ∧ (needB t 3 = false → hdB fsA (lineK (f + 1) t) = true) := by
      have q4 : ∀ a : Sx, okF f 0 a = true → ∀ r, hdB fsT (partK f 1 a ++ r) = true := by
        intro a ha r
        rcases part_bal f 1 a with e | e
        · rw [e]; exact hd_app (ih a ha).1 r
        · rw [e]; exact hd_sg (by decide) _
      obtain ⟨p, h⟩ := sx_term h
      rcases h with ⟨n, hn, rfl⟩ | ⟨ns, a, k, h0, hns, ha, hk, rfl⟩ | ⟨a, c, k, ha, hc, hk, rfl⟩ | ⟨n, a, c, k, hn, ha, hc, hk, rfl⟩ | ⟨a, c, ha, hc, rfl⟩ | ⟨a, c, ha, hc, rfl⟩ | ⟨a, c, k, ha, hc, hk, rfl⟩ | ⟨l, hl, rfl⟩
      · rw [line1]; exact ⟨hd_nk hn _ _, fun _ => hd_nk hn _ _, fun _ => hd_nk hn _ _⟩
      · rcases hk with rfl | rfl
        · rw [line2]; exact ⟨hd_sg (by decide) _, fun h => (by cases h), fun h => (by cases h)⟩
        · rw [line3]; exact ⟨hd_sg (by decide) _, fun h => (by cases h), fun h => (by cases h)⟩
      · rcases hk with rfl | rfl
        · rw [line4]; exact ⟨q4 a ha _, fun h => (by cases h), fun h => (by cases h)⟩
        · rw [line5]; exact ⟨q4 a ha _, fun h => (by cases h), fun h => (by cases h)⟩
      · rcases hk with rfl | rfl
        · rw [line4n]; exact ⟨hd_sg (by decide) _, fun h => (by cases h), fun h => (by cases h)⟩
        · rw [line5n]; exact ⟨hd_sg (by decide) _, fun h => (by cases h), fun h => (by cases h)⟩
      · rw [line6]
        have := hd_app (ih a ha).2.1 (partK f 3 c)
        exact ⟨hd_sub this (by decide), fun _ => this, fun h => (by cases h)⟩
      · rw [line7]
        have := hd_app (ih a ha).2.1 (sg [64] :: partK f 6 c)
        exact ⟨hd_sub this (by decide), fun _ => this, fun h => (by cases h)⟩
      · rcases hk with rfl | rfl
        · rw [line8]; exact ⟨hd_sg (by decide) _, fun _ => hd_sg (by decide) _, fun _ => hd_sg (by decide) _⟩
        · rw [line9]; exact ⟨hd_sg (by decide) _, fun _ => hd_sg (by decide) _, fun _ => hd_sg (by decide) _⟩
      · rw [line10]; exact ⟨hd_sg (by decide) _, fun _ => hd_sg (by decide) _, fun _ => hd_sg (by decide) _⟩
    refine ⟨top.1, ?_, ?_⟩
    · cases q : needB t 2
      · rw [partN q]; exact top.2.1 q
      · rw [partY q]; exact hd_sg (by decide) _
    · cases q : needB t 3
      · rw [partN q]; exact top.2.2 q
      · rw [partY q]; exact hd_sg (by decide) _
theorem hd_dig {n : Bs} (h : digB n = true) (r : List Kt) : hdB fsD (sg n :: r) = true := by
  unfold digB at h
  simp only [Bool.or_eq_true, decide_eq_true_eq] at h
  rcases h with rfl | rfl <;> exact hd_sg (by decide) _
/-- The tokens of a dim begin so. -/
theorem hd_dim (f : Nat) : ∀ t : Sx, okF f 1 t = true → ∀ pl, hdB fsD (partK f pl t) = true := by
  induction f with
  | zero => intro t h; cases h
  | succ f ih =>
    intro t h pl
    have top : hdB fsD (lineK (f + 1) t) = true := by
      obtain ⟨p, h⟩ := sx_dim h
      rcases h with ⟨n, hn, rfl⟩ | ⟨n, hn, rfl⟩ | ⟨a, ha, rfl⟩ | ⟨a, c, ha, hc, rfl⟩ | ⟨a, c, ha, hc, rfl⟩
      · rw [line1]; exact hd_nk hn _ _
      · rw [line17]; exact hd_dig hn _
      · rw [line16]; exact hd_sg (by decide) _
      · rw [line15]; exact hd_app (ih a ha 5) _
      · rw [line14]; exact hd_app (ih a ha 4) _
    rcases part_bal (f + 1) pl t with e | e
    · rw [e]; exact top
    · rw [e]; exact hd_sg (by decide) _

/-! ### brackets are even -/
def BalK (ks : List Kt) : Prop := ∀ A : Ts, A.map ktT = ks → ∀ o : Int, 1 ≤ o → ∀ X, behindL o (A ++ X) = behindL o X
theorem bk_nil : BalK [] := by
  intro A h o ho X
  rw [spN h]; rfl
theorem bk_app {a c : List Kt} (ha : BalK a) (hc : BalK c) : BalK (a ++ c) := by
  intro A h o ho X
  obtain ⟨A1, A2, rfl, h1, h2⟩ := spA h
  rw [List.append_assoc, ha A1 h1 o ho, hc A2 h2 o ho]
theorem bk_cons {n : Nat} {s : Bs} {ks : List Kt} (h1 : s ≠ [40]) (h2 : s ≠ [41]) (h : BalK ks) : BalK ((n, s) :: ks) := by
  intro A hA o ho X
  obtain ⟨a, A2, rfl, ha, h3⟩ := spC hA
  have hs : stepO o a = o := by unfold stepO; rw [(tk ha).2, if_neg h1, if_neg h2]
  show (if stepO o a = 0 then _ else behindL (stepO o a) (A2 ++ X)) = _
  rw [hs, if_neg (by omega), h A2 h3 o ho]
theorem bk_sg {s : Bs} {ks : List Kt} (h1 : s ≠ [40]) (h2 : s ≠ [41]) (h : BalK ks) : BalK (sg s :: ks) := bk_cons h1 h2 h
theorem bk_nk {s : Bs} {ks : List Kt} (hs : nameB s = true) (h : BalK ks) : BalK (nk s :: ks) := bk_cons (name_ne hs (by decide)) (name_ne hs (by decide)) h
theorem bk_in {ks rs : List Kt} (h : BalK ks) (hr : BalK rs) : BalK (sg [40] :: (ks ++ (sg [41] :: rs))) := by
  intro A hA o ho X
  obtain ⟨a, A2, rfl, ha, h3⟩ := spC hA
  obtain ⟨A3, A4, rfl, h4, h5⟩ := spA h3
  obtain ⟨c, A5, rfl, hc, h6⟩ := spC h5
  have hs : stepO o a = o + 1 := by unfold stepO; rw [(tk ha).2, if_pos rfl]
  have hs2 : stepO (o + 1) c = o := by unfold stepO; rw [(tk hc).2, if_neg (by decide), if_pos rfl]; omega
  show (if stepO o a = 0 then _ else behindL (stepO o a) ((A3 ++ c :: A5) ++ X)) = _
  rw [hs, if_neg (by omega), List.append_assoc, h A3 h4 (o + 1) (by omega)]
  show (if stepO (o + 1) c = 0 then _ else behindL (stepO (o + 1) c) (A5 ++ X)) = _
  rw [hs2, if_neg (by omega), hr A5 h6 o ho]
theorem bk_part {f : Nat} {t : Sx} (h : BalK (lineK f t)) (pl : Nat) : BalK (partK f pl t) := by
  rcases part_bal f pl t with e | e
  · rw [e]; exact h
  · rw [e]; exact bk_in h bk_nil
theorem bk_names {ns : List Bs} {ks : List Kt} (h : ns.all nameB = true) (hk : BalK ks) : BalK (ns.map nk ++ ks) := by
  induction ns with
  | nil => exact hk
  | cons n ns ih =>
    rw [List.all_cons, Bool.and_eq_true] at h
    exact bk_nk h.1 (ih h.2)
theorem bk_flat {l : List (List Kt)} (h : ∀ x ∈ l, BalK x) : BalK l.flatten := by
  induction l with
  | nil => exact bk_nil
  | cons x l ih =>
    rw [List.flatten_cons]
    exact bk_app (h x (by simp)) (ih fun y hy => h y (by simp [hy]))
theorem bk_jn {l : List (List Kt)} (h : ∀ x ∈ l, BalK x) : BalK (jnK (sg [44]) l) := by
  cases l with
  | nil => exact bk_nil
  | cons x l =>
    refine bk_app (h x (by simp)) (bk_flat fun y hy => ?_)
    obtain ⟨z, hz, rfl⟩ := List.mem_map.1 hy
    exact bk_sg (by decide) (by decide) (h z (by simp [hz]))
theorem bk_line (f : Nat) : ∀ (g : Nat) (t : Sx), g < 5 → okF f g t = true → BalK (lineK f t) := by
  induction f with
  | zero => intro g t _ h; cases h
  | succ f ih =>
    intro g t hg h
    have i0 := fun (a : Sx) (ha : okF f 0 a = true) (pl : Nat) => bk_part (ih 0 a (by omega) ha) pl
    have i1 := fun (a : Sx) (ha : okF f 1 a = true) (pl : Nat) => bk_part (ih 1 a (by omega) ha) pl
    match g, hg with
    | 0, _ =>
      obtain ⟨p, h⟩ := sx_term h
      rcases h with ⟨n, hn, rfl⟩ | ⟨ns, a, k, h0, hns, ha, hk, rfl⟩ | ⟨a, c, k, ha, hc, hk, rfl⟩ | ⟨n, a, c, k, hn, ha, hc, hk, rfl⟩ | ⟨a, c, ha, hc, rfl⟩ | ⟨a, c, ha, hc, rfl⟩ | ⟨a, c, k, ha, hc, hk, rfl⟩ | ⟨l, hl, rfl⟩
      · rw [line1]; exact bk_nk hn bk_nil
      · rcases hk with rfl | rfl
        · rw [line2]; exact bk_sg (by decide) (by decide) (bk_names hns (bk_sg (by decide) (by decide) (i0 a ha 0)))
        · rw [line3]; exact bk_sg (by decide) (by decide) (bk_names hns (bk_sg (by decide) (by decide) (i0 a ha 0)))
      · rcases hk with rfl | rfl
        · rw [line4]; exact bk_app (i0 a ha 1) (bk_sg (by decide) (by decide) (i0 c hc 0))
        · rw [line5]; exact bk_app (i0 a ha 1) (bk_sg (by decide) (by decide) (i0 c hc 0))
      · rcases hk with rfl | rfl
        · rw [line4n]
          exact bk_in (ks := nk n :: sg [58] :: partK f 0 a) (bk_nk hn (bk_sg (by decide) (by decide) (i0 a ha 0))) (bk_sg (by decide) (by decide) (i0 c hc 0))
        · rw [line5n]
          exact bk_in (ks := nk n :: sg [58] :: partK f 0 a) (bk_nk hn (bk_sg (by decide) (by decide) (i0 a ha 0))) (bk_sg (by decide) (by decide) (i0 c hc 0))
      · rw [line6]; exact bk_app (i0 a ha 2) (i0 c hc 3)
      · rw [line7]; exact bk_app (i0 a ha 2) (bk_sg (by decide) (by decide) (i1 c hc 6))
      · rcases hk with rfl | rfl
        · rw [line8]
          have := bk_in (bk_app (i0 a ha 0) (bk_sg (s := [44]) (by decide) (by decide) (i0 c hc 0))) bk_nil
          simpa only [List.append_assoc, List.cons_append] using this
        · rw [line9]
          have := bk_in (bk_app (i0 a ha 0) (bk_sg (s := [58]) (by decide) (by decide) (i0 c hc 0))) bk_nil
          simpa only [List.append_assoc, List.cons_append] using this
      · rw [line10]
        refine bk_sg (by decide) (by decide) (bk_app (bk_jn fun y hy => ?_) (bk_sg (by decide) (by decide) bk_nil))
        obtain ⟨z, hz, rfl⟩ := List.mem_map.1 hy
        exact ih 2 z (by omega) (List.all_eq_true.1 hl z hz)
    | 1, _ =>
      obtain ⟨p, h⟩ := sx_dim h
      rcases h with ⟨n, hn, rfl⟩ | ⟨n, hn, rfl⟩ | ⟨a, ha, rfl⟩ | ⟨a, c, ha, hc, rfl⟩ | ⟨a, c, ha, hc, rfl⟩
      · rw [line1]; exact bk_nk hn bk_nil
      · rw [line17]
        unfold digB at hn
        simp only [Bool.or_eq_true, decide_eq_true_eq] at hn
        rcases hn with rfl | rfl <;> exact bk_sg (by decide) (by decide) bk_nil
      · rw [line16]; exact bk_sg (by decide) (by decide) (i1 a ha 6)
      · rw [line15]; exact bk_app (i1 a ha 5) (bk_sg (by decide) (by decide) (i1 c hc 6))
      · rw [line14]; exact bk_app (i1 a ha 4) (bk_sg (by decide) (by decide) (i1 c hc 5))
    | 2, _ =>
      obtain ⟨p, c, hc, rfl | ⟨a, ha, rfl⟩⟩ := sx_elem h
      · rw [line11]; exact ih 3 c (by omega) hc
      · rw [line11t]; exact bk_app (ih 3 c (by omega) hc) (bk_sg (by decide) (by decide) (i0 a ha 0))
    | 3, _ =>
      obtain ⟨p, l, hl, rfl⟩ := sx_face h
      rw [line12]
      split
      · exact bk_sg (by decide) (by decide) bk_nil
      · refine bk_flat fun y hy => ?_
        obtain ⟨z, hz, rfl⟩ := List.mem_map.1 hy
        exact ih 4 z (by omega) (List.all_eq_true.1 hl z hz)
    | 4, _ =>
      obtain ⟨p, n, d, hn, hd, rfl⟩ := sx_eq h
      rw [line13]
      unfold digB at hd
      simp only [Bool.or_eq_true, decide_eq_true_eq] at hd
      rcases hd with rfl | rfl <;> exact bk_in (ks := [nk n, sg [61], sg _]) (bk_nk hn (bk_sg (by decide) (by decide) (bk_sg (by decide) (by decide) bk_nil))) bk_nil
/-- What stands behind the brackets. -/
theorem behind_in {a c : Tok} {A X : Ts} {ks : List Kt} (ha : ktT a = sg [40]) (hc : ktT c = sg [41]) (hA : A.map ktT = ks) (hb : BalK ks) : behindL 0 (a :: (A ++ c :: X)) = txt X := by
  have hs : stepO 0 a = 1 := by unfold stepO; rw [(tk ha).2, if_pos rfl]; rfl
  have hs2 : stepO 1 c = 0 := by unfold stepO; rw [(tk hc).2, if_neg (by decide), if_pos rfl]; rfl
  show (if stepO 0 a = 0 then _ else behindL (stepO 0 a) (A ++ c :: X)) = _
  rw [hs, if_neg (by omega), hb A hA 1 (by omega)]
  show (if stepO 1 c = 0 then txt X else _) = _
  rw [hs2, if_pos rfl]

/-! ### where no binder begins -/
/-- If the first token is a name, the second one, if there is one, is no colon. -/
def Sec (ks : List Kt) : Prop := ∀ k1 k2 r, ks = k1 :: k2 :: r → k1.1 = 1 → k2.2 ≠ [58]
theorem sec_app {ks r : List Kt} {k : Kt} (h : Sec ks) (h0 : ks ≠ []) (hk : k.2 ≠ [58]) : Sec (ks ++ k :: r) := by
  intro k1 k2 q e h1
  match ks, h0 with
  | [x], _ =>
    injection e with _ e
    injection e with e _
    rw [← e]; exact hk
  | x :: y :: s, _ =>
    injection e with e0 e
    injection e with e _
    subst e0 e
    exact h x y s rfl h1
theorem sec_first {k : Kt} {r : List Kt} (h : k.1 ≠ 1) : Sec (k :: r) := by
  intro k1 k2 q e h1
  injection e with e _
  subst e
  exact absurd h1 h
theorem hd_not58 {s : List Bs} {ks : List Kt} (h : hdB s ks = true) (hs : [58] ∉ s) : ∃ k r, ks = k :: r ∧ k.2 ≠ [58] := by
  match ks, h with
  | k :: r, h =>
    refine ⟨k, r, rfl, fun e => ?_⟩
    simp only [hdB, Bool.or_eq_true, Bool.and_eq_true, decide_eq_true_eq] at h
    rcases h with h | h
    · rw [e] at h; exact absurd h.2 (by decide)
    · rw [e] at h; exact hs h.2
theorem sec_line (f : Nat) : ∀ t : Sx, okF f 0 t = true → Sec (lineK f t) ∧ (∀ k, lineK f t = [k] → t.kind = 1) := by
  induction f with
  | zero => intro t h; cases h
  | succ f ih =>
    intro t h
    have q1 : ∀ a : Sx, okF f 0 a = true → ∀ pl k r, k.2 ≠ [58] → Sec (partK f pl a ++ k :: r) := by
      intro a ha pl k r hk
      rcases part_bal f pl a with e | e
      · rw [e]; exact sec_app (ih a ha).1 (hd_ne (hd_term f a ha).1) hk
      · rw [e]; exact sec_first (by decide)
    have q2 : ∀ a : Sx, okF f 0 a = true → ∀ pl k r x, partK f pl a ++ k :: r ≠ [x] := by
      intro a ha pl k r x e
      have := congrArg List.length e
      have h0 : partK f pl a ≠ [] := by
        rcases part_bal f pl a with e | e
        · rw [e]; exact hd_ne (hd_term f a ha).1
        · rw [e]; simp
      have := List.length_pos_iff.2 h0
      simp at *
      omega
    obtain ⟨p, h⟩ := sx_term h
    rcases h with ⟨n, hn, rfl⟩ | ⟨ns, a, k, h0, hns, ha, hk, rfl⟩ | ⟨a, c, k, ha, hc, hk, rfl⟩ | ⟨n, a, c, k, hn, ha, hc, hk, rfl⟩ | ⟨a, c, ha, hc, rfl⟩ | ⟨a, c, ha, hc, rfl⟩ | ⟨a, c, k, ha, hc, hk, rfl⟩ | ⟨l, hl, rfl⟩
    · rw [line1]; exact ⟨fun k1 k2 r e _ => by simp at e, fun _ _ => rfl⟩
    · rcases hk with rfl | rfl
      · rw [line2]; exact ⟨sec_first (by decide), fun k e => by simp at e⟩
      · rw [line3]; exact ⟨sec_first (by decide), fun k e => by simp at e⟩
    · rcases hk with rfl | rfl
      · rw [line4]; exact ⟨q1 a ha 1 _ _ (by decide), fun k e => absurd e (q2 a ha 1 _ _ _)⟩
      · rw [line5]; exact ⟨q1 a ha 1 _ _ (by decide), fun k e => absurd e (q2 a ha 1 _ _ _)⟩
    · rcases hk with rfl | rfl
      · rw [line4n]; exact ⟨sec_first (by decide), fun k e => by simp at e⟩
      · rw [line5n]; exact ⟨sec_first (by decide), fun k e => by simp at e⟩
    · rw [line6]
      obtain ⟨k, r, e, hk⟩ := hd_not58 (hd_term f c hc).2.2 (by decide)
      rw [e]
      exact ⟨q1 a ha 2 _ _ hk, fun k e => absurd e (q2 a ha 2 _ _ _)⟩
    · rw [line7]; exact ⟨q1 a ha 2 _ _ (by decide), fun k e => absurd e (q2 a ha 2 _ _ _)⟩
    · rcases hk with rfl | rfl
      · rw [line8]; exact ⟨sec_first (by decide), fun k e => by simp at e⟩
      · rw [line9]; exact ⟨sec_first (by decide), fun k e => by simp at e⟩
    · rw [line10]; exact ⟨sec_first (by decide), fun k e => by simp at e⟩
theorem nb_first {R : Ts} (h : sees [40] R = false) : binderQ R = false := by
  unfold binderQ
  rw [h]; rfl
/-- Behind a bracket: tokens that are no name and a colon. -/
theorem nb_sec {a : Tok} {S : Ts} (h : Sec (S.map ktT)) : binderQ (a :: S) = false := by
  unfold binderQ
  rw [Bool.and_eq_false_iff]
  refine .inr ?_
  show (isN S && _) = false
  match S, h with
  | [], _ => rfl
  | [x], _ =>
    rw [Bool.and_eq_false_iff]
    exact .inr rfl
  | x :: y :: r, h =>
    by_cases hx : x.kind = 1
    · have hy : sees [58] (y :: r) = false := decide_eq_false (h (ktT x) (ktT y) (r.map ktT) rfl hx)
      show (_ && (sees [58] (y :: r) && _)) = false
      rw [hy]
      simp
    · have : isN (x :: y :: r) = false := decide_eq_false hx
      rw [this]; rfl
theorem arr_tx2 (X : Ts) : (decide (txt X = [45, 62]) || decide (txt X = [42])) = arrB X := by
  unfold arrB
  cases X with
  | nil => rfl
  | cons a X => rfl
theorem hd_arr {s : List Bs} {A : Ts} {ks : List Kt} (hA : A.map ktT = ks) (h : hdB s ks = true) (h1 : [45, 62] ∉ s) (h2 : [42] ∉ s) (X : Ts) : arrB (A ++ X) = false := by
  unfold arrB
  rw [hd_sees hA h h1 (by decide), hd_sees hA h h2 (by decide)]; rfl
theorem sec_more {S Y : Ts} {ks : List Kt} {c : Tok} (hS : S.map ktT = ks) (hs : Sec ks) (h0 : ks ≠ []) (hc : c.text ≠ [58]) : Sec ((S ++ c :: Y).map ktT) := by
  rw [List.map_append, hS, List.map_cons]
  exact sec_app hs h0 hc
/-- An app begins no binder, but for an Ann of a Name ahead of an arrow. -/
theorem no_binder (f : Nat) : ∀ t : Sx, okF f 0 t = true → ∀ A X : Ts, A.map ktT = partK f 2 t → (frontB t = true → arrB X = false) → binderQ (A ++ X) = false := by
  induction f with
  | zero => intro t h; cases h
  | succ f ih =>
    intro t h A X hA hX
    have brk : needB t 2 = true → binderQ (A ++ X) = false := by
      intro q
      rw [partY q] at hA
      obtain ⟨a, A2, rfl, ha, h3⟩ := spC hA
      obtain ⟨A3, A4, rfl, h4, h5⟩ := spA h3
      obtain ⟨c, A5, rfl, hc, h6⟩ := spC h5
      show binderQ (a :: ((A3 ++ c :: A5) ++ X)) = false
      rw [List.append_assoc]
      exact nb_sec (sec_more h4 (sec_line _ t h).1 (hd_ne (hd_term _ t h).1) (by rw [(tk hc).2]; decide))
    cases q : needB t 2
    · rw [partN q] at hA
      obtain ⟨p, h⟩ := sx_term h
      rcases h with ⟨n, hn, rfl⟩ | ⟨ns, a, k, h0, hns, ha, hk, rfl⟩ | ⟨a, c, k, ha, hc, hk, rfl⟩ | ⟨n, a, c, k, hn, ha, hc, hk, rfl⟩ | ⟨a, c, ha, hc, rfl⟩ | ⟨a, c, ha, hc, rfl⟩ | ⟨a, c, k, ha, hc, hk, rfl⟩ | ⟨l, hl, rfl⟩
      · rw [line1] at hA
        exact nb_first (hd_sees hA (hd_nk hn [] _) (by decide) (by decide) X)
      · rcases hk with rfl | rfl <;> cases q
      · rcases hk with rfl | rfl <;> cases q
      · rcases hk with rfl | rfl <;> cases q
      · rw [line6] at hA
        obtain ⟨A1, A2, rfl, h1, h2⟩ := spA hA
        rw [List.append_assoc]
        exact ih a ha A1 (A2 ++ X) h1 fun _ => hd_arr h2 (hd_term f c hc).2.2 (by decide) (by decide) X
      · rw [line7] at hA
        obtain ⟨A1, A2, rfl, h1, h2⟩ := spA hA
        obtain ⟨b, A3, rfl, hb, h3⟩ := spC h2
        rw [List.append_assoc]
        refine ih a ha A1 _ h1 fun _ => ?_
        show arrB (b :: (A3 ++ X)) = false
        unfold arrB
        rw [sees_k hb, sees_k hb]; decide
      · rcases hk with rfl | rfl
        · rw [line8] at hA
          obtain ⟨b, A2, rfl, hb, h3⟩ := spC hA
          obtain ⟨A3, A4, rfl, h4, h5⟩ := spA h3
          obtain ⟨d, A5, rfl, hd, h6⟩ := spC h5
          show binderQ (b :: ((A3 ++ d :: A5) ++ X)) = false
          rw [List.append_assoc]
          rw [part_0] at h4
          exact nb_sec (sec_more h4 (sec_line _ a ha).1 (hd_ne (hd_term _ a ha).1) (by rw [(tk hd).2]; decide))
        · rw [line9] at hA
          obtain ⟨b, A2, rfl, hb, h3⟩ := spC hA
          have h3' := h3
          obtain ⟨A3, A4, rfl, h4, h5⟩ := spA h3
          obtain ⟨d, A5, rfl, hd, h6⟩ := spC h5
          obtain ⟨A6, A7, rfl, h7, h8⟩ := spA h6
          obtain ⟨g, A8, rfl, hg, h9⟩ := spC h8
          rw [spN h9]
          by_cases h1 : a.kind = 1
          · have hf : frontB (.mk 9 [] [a, c] [] p) = true := by
              show (true && decide (a.kind = 1)) = true
              rw [decide_eq_true h1]; rfl
            have hb2 : behindL 0 (b :: ((A3 ++ d :: A6) ++ g :: X)) = txt X := by
              refine behind_in hb hg (ks := partK f 0 a ++ sg [58] :: partK f 0 c) ?_ (bk_app (bk_part (bk_line f 0 a (by omega) ha) 0) (bk_sg (by decide) (by decide) (bk_part (bk_line f 0 c (by omega) hc) 0)))
              rw [List.map_append, List.map_cons, h4, h7, hd]
            have e : b :: (A3 ++ d :: (A6 ++ [g])) ++ X = b :: ((A3 ++ d :: A6) ++ g :: X) := by simp
            rw [e]
            unfold binderQ
            rw [hb2, arr_tx2, hX hf]
            simp
          · rw [part_0] at h4
            show binderQ (b :: ((A3 ++ d :: (A6 ++ [g])) ++ X)) = false
            rw [List.append_assoc]
            refine nb_sec ?_
            rw [List.map_append, h4]
            intro k1 k2 r e hk1
            obtain ⟨s1, s2⟩ := sec_line f a ha
            match hl : lineK f a, hd_ne (hd_term _ a ha).1 with
            | [x], _ => exact absurd (s2 x hl) h1
            | x :: y :: s, _ =>
              rw [hl] at e
              injection e with e0 e
              injection e with e _
              subst e0 e
              exact s1 _ _ s hl hk1
      · rw [line10] at hA
        exact nb_first (hd_sees hA (hd_sg (x := [91]) (s := [[91]]) (by decide) _) (by decide) (by decide) X)
    · exact brk q
end Go.Proofs.YtahnbigkdfmpbaaDoor
