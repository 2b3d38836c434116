/- Tokens further on in a text: the same trees, further on. -/
import Derived.Test.YtkfeghminmhokaaDoorPSimB
namespace Go.Proofs.YtkfeghminmhokaaDoor
set_option linter.unusedVariables false
set_option linter.unusedSimpArgs false

def shT (d : Nat) (t : Tok) : Tok := ⟨t.kind, t.text, t.at_ + d⟩
def shL (d : Nat) (R : Ts) : Ts := R.map (shT d)
mutual
def shTr (d : Nat) : Tr → Tr
  | .mk k n kids ns a => .mk k n (shTrs d kids) ns (a + d)
def shTrs (d : Nat) : List Tr → List Tr
  | [] => []
  | t :: l => shTr d t :: shTrs d l
end
theorem shTrs_map (d : Nat) (l : List Tr) : shTrs d l = l.map (shTr d) := by
  induction l with
  | nil => rfl
  | cons t l ih => rw [shTrs, ih]; rfl
theorem shTrs_app (d : Nat) (l m : List Tr) : shTrs d (l ++ m) = shTrs d l ++ shTrs d m := by simp [shTrs_map]
def Rs.sh {α : Type} (d : Nat) (g : α → α) : Rs α → Rs α
  | .bad p x => .bad (if x = 999 then p else p + d) x
  | .ok a R => .ok (g a) (shL d R)
theorem sh_bnd {α β : Type} {d : Nat} {ga : α → α} {gb : β → β} {x : Rs α} {k1 k2 : α → Ts → Rs β} (h : ∀ a R, k2 (ga a) (shL d R) = (k1 a R).sh d gb) : ((x.sh d ga).bnd k2) = (x.bnd k1).sh d gb := by
  cases x with
  | bad p e => rfl
  | ok a R => exact h a R
theorem shL_nil (d : Nat) : shL d [] = [] := rfl
theorem shL_tail (d : Nat) (R : Ts) : (shL d R).tail = shL d R.tail := by cases R <;> rfl
theorem shL_isN (d : Nat) (R : Ts) : isN (shL d R) = isN R := by cases R <;> rfl
theorem shL_sees (d : Nat) (s : Bs) (R : Ts) : sees s (shL d R) = sees s R := by cases R <;> rfl
theorem shL_txt (d : Nat) (R : Ts) : txt (shL d R) = txt R := by cases R <;> rfl
theorem shL_at (d e : Nat) (R : Ts) : atP (e + d) (shL d R) = atP e R + d := by cases R <;> rfl
theorem shL_must (d e : Nat) (s : Bs) (R : Ts) : mustP (e + d) s (shL d R) = (mustP e s R).sh d id := by
  unfold mustP wrongP
  rw [shL_sees]
  split
  · rw [shL_tail]; rfl
  · rw [shL_at]; rfl
theorem shL_name (d e : Nat) (R : Ts) : nameP (e + d) (shL d R) = (nameP e R).sh d id := by
  unfold nameP wrongP
  rw [shL_isN]
  split
  · rw [shL_tail, shL_txt]; rfl
  · rw [shL_at]; rfl
theorem shL_namesL (d : Nat) (R : Ts) : ∀ acc, namesL acc (shL d R) = (namesL acc R).sh d id := by
  induction R with
  | nil => intro acc; rfl
  | cons t R ih =>
    intro acc
    show namesL acc (shT d t :: shL d R) = _
    rw [namesL, namesL]
    show (if t.kind = 1 then namesL (acc ++ [t.text]) (shL d R) else _) = _
    split
    · exact ih _
    · rfl
theorem shL_names (d e : Nat) (R : Ts) : namesP (e + d) (shL d R) = (namesP e R).sh d id := by
  unfold namesP
  rw [shL_name]
  exact sh_bnd (fun a R => shL_namesL d R _)
theorem shL_digit (d e : Nat) (R : Ts) : digitP (e + d) (shL d R) = (digitP e R).sh d id := by
  unfold digitP wrongP
  rw [shL_sees, shL_sees]
  split
  · rw [shL_tail]; rfl
  · split
    · rw [shL_tail]; rfl
    · rw [shL_at]; rfl
theorem shL_enter (d e l : Nat) (S : List Bs) (R : Ts) (k1 k2 : Rs Tr) (h : k2 = k1.sh d (shTr d)) : enterQ (e + d) l S (shL d R) k2 = (enterQ e l S R k1).sh d (shTr d) := by
  subst h
  unfold enterQ wrongP
  rw [shL_isN, shL_txt, shL_at]
  split
  · split <;> rfl
  · rfl
theorem shL_behind (d : Nat) (R : Ts) : ∀ o, behindL o (shL d R) = behindL o R := by
  induction R with
  | nil => intro o; rfl
  | cons t R ih =>
    intro o
    show behindL o (shT d t :: shL d R) = _
    rw [behindL, behindL, show stepO o (shT d t) = stepO o t from rfl, shL_txt, ih]
theorem shL_binder (d : Nat) (R : Ts) : binderQ (shL d R) = binderQ R := by
  unfold binderQ
  rw [shL_sees, shL_tail, shL_isN, shL_tail, shL_sees, shL_behind]
theorem shL_arrB (d : Nat) (R : Ts) : arrB (shL d R) = arrB R := by unfold arrB; rw [shL_sees, shL_sees]
theorem shL_arrK (d : Nat) (R : Ts) : arrK (shL d R) = arrK R := by unfold arrK; rw [shL_sees]
theorem shL_arrR (d : Nat) (R : Ts) : arrR (shL d R) = shL d (arrR R) := by
  unfold arrR
  rw [shL_arrB]
  split
  · exact shL_tail d R
  · rfl
theorem sh_at (d : Nat) (t : Tr) : (shTr d t).at_ = t.at_ + d := by cases t; rfl
theorem sh_two (d k : Nat) (a b : Tr) : shTr d (two k a b) = two k (shTr d a) (shTr d b) := by
  unfold two
  rw [shTr, sh_at]; rfl
theorem shL_eq (d e : Nat) (R : Ts) : eqP (e + d) (shL d R) = (eqP e R).sh d (shTr d) := by
  unfold eqP
  rw [shL_must, shL_at]
  refine sh_bnd (fun _ R1 => ?_)
  rw [shL_name]
  refine sh_bnd (fun n R2 => ?_)
  rw [shL_must]
  refine sh_bnd (fun _ R3 => ?_)
  rw [shL_digit]
  refine sh_bnd (fun x R4 => ?_)
  rw [shL_must]
  exact sh_bnd (fun _ R5 => rfl)
theorem shL_faceL (d e : Nat) : ∀ (f p : Nat) (acc : List Tr) (R : Ts), faceL (e + d) f (p + d) (shTrs d acc) (shL d R) = (faceL e f p acc R).sh d (shTr d) := by
  intro f
  induction f with
  | zero => intro p acc R; rfl
  | succ f ih =>
    intro p acc R
    rw [faceL, faceL, shL_sees]
    split
    · rw [shL_eq]
      refine sh_bnd (fun x R1 => ?_)
      rw [← ih, shTrs_app]; rfl
    · rfl
theorem shL_face (d e f : Nat) (R : Ts) : faceP (e + d) f (shL d R) = (faceP e f R).sh d (shTr d) := by
  unfold faceP
  rw [shL_sees, shL_at]
  split
  · rw [shL_tail]; rfl
  · rw [shL_eq]
    refine sh_bnd (fun x R1 => ?_)
    rw [← shL_faceL]; rfl
theorem dims_sh (d e : Nat) : ∀ f : Nat,
    (∀ l R, dimP (e + d) f l (shL d R) = (dimP e f l R).sh d (shTr d)) ∧
    (∀ l R, joinP (e + d) f l (shL d R) = (joinP e f l R).sh d (shTr d)) ∧
    (∀ l t R, joinL (e + d) f l (shTr d t) (shL d R) = (joinL e f l t R).sh d (shTr d)) ∧
    (∀ l R, meetP (e + d) f l (shL d R) = (meetP e f l R).sh d (shTr d)) ∧
    (∀ l t R, meetL (e + d) f l (shTr d t) (shL d R) = (meetL e f l t R).sh d (shTr d)) := by
  intro f
  induction f with
  | zero => exact ⟨fun _ _ => by rw [dimP, dimP]; rfl, fun _ _ => by rw [joinP, joinP]; rfl, fun _ _ _ => by rw [joinL, joinL]; rfl, fun _ _ => by rw [meetP, meetP]; rfl, fun _ _ _ => by rw [meetL, meetL]; rfl⟩
  | succ f ih =>
    obtain ⟨ihd, ihj, ihjl, ihm, ihml⟩ := ih
    refine ⟨?_, ?_, ?_, ?_, ?_⟩
    · intro l R
      rw [dimP, dimP]
      refine shL_enter d e l _ R _ _ ?_
      rw [shL_isN, shL_sees, shL_sees, shL_tail, shL_txt, shL_at]
      split
      · rfl
      · split
        · rw [ihd]; exact sh_bnd (fun x R1 => rfl)
        · split
          · rw [ihj]
            refine sh_bnd (fun x R1 => ?_)
            rw [shL_must]
            exact sh_bnd (fun _ R2 => rfl)
          · rw [shL_digit]; exact sh_bnd (fun x R1 => rfl)
    · intro l R
      rw [joinP, joinP, ihm]
      exact sh_bnd (fun x R1 => ihjl l x R1)
    · intro l t R
      rw [joinL, joinL, shL_sees, shL_tail]
      split
      · rw [ihm]
        refine sh_bnd (fun x R1 => ?_)
        rw [← sh_two]; exact ihjl l _ R1
      · rfl
    · intro l R
      rw [meetP, meetP, ihd]
      exact sh_bnd (fun x R1 => ihml l x R1)
    · intro l t R
      rw [meetL, meetL, shL_sees, shL_tail]
      split
      · rw [ihd]
        refine sh_bnd (fun x R1 => ?_)
        rw [← sh_two]; exact ihml l _ R1
      · rfl
theorem terms_sh (d e : Nat) : ∀ f : Nat,
    (∀ l R, termP (e + d) f l (shL d R) = (termP e f l R).sh d (shTr d)) ∧
    (∀ k to l R, bindsP (e + d) f k to l (shL d R) = (bindsP e f k to l R).sh d (shTr d)) ∧
    (∀ l R, binderP (e + d) f l (shL d R) = (binderP e f l R).sh d (shTr d)) ∧
    (∀ l R, appP (e + d) f l (shL d R) = (appP e f l R).sh d (shTr d)) ∧
    (∀ l t R, appL (e + d) f l (shTr d t) (shL d R) = (appL e f l t R).sh d (shTr d)) ∧
    (∀ l R, atomP (e + d) f l (shL d R) = (atomP e f l R).sh d (shTr d)) ∧
    (∀ l R, brackP (e + d) f l (shL d R) = (brackP e f l R).sh d (shTr d)) ∧
    (∀ l R, boxP (e + d) f l (shL d R) = (boxP e f l R).sh d (shTr d)) ∧
    (∀ l p acc R, boxL (e + d) f l (p + d) (shTrs d acc) (shL d R) = (boxL e f l p acc R).sh d (shTr d)) ∧
    (∀ l R, elemP (e + d) f l (shL d R) = (elemP e f l R).sh d (shTr d)) := by
  intro f
  induction f with
  | zero => exact ⟨fun _ _ => by rw [termP, termP]; rfl, fun _ _ _ _ => by rw [bindsP, bindsP]; rfl, fun _ _ => by rw [binderP, binderP]; rfl, fun _ _ => by rw [appP, appP]; rfl, fun _ _ _ => by rw [appL, appL]; rfl, fun _ _ => by rw [atomP, atomP]; rfl, fun _ _ => by rw [brackP, brackP]; rfl, fun _ _ => by rw [boxP, boxP]; rfl, fun _ _ _ _ => by rw [boxL, boxL]; rfl, fun _ _ => by rw [elemP, elemP]; rfl⟩
  | succ f ih =>
    obtain ⟨iht, ihb, ihn, iha, ihal, iho, ihk, ihx, ihxl, ihe⟩ := ih
    have ihd := (dims_sh d e f).1
    refine ⟨?_, ?_, ?_, ?_, ?_, ?_, ?_, ?_, ?_, ?_⟩
    · intro l R
      rw [termP, termP]
      refine shL_enter d e l _ R _ _ ?_
      rw [shL_sees, shL_sees, shL_binder]
      split
      · exact ihb _ _ _ _
      · split
        · exact ihb _ _ _ _
        · split
          · exact ihn _ _
          · rw [iha]
            refine sh_bnd (fun x R1 => ?_)
            rw [shL_arrB, shL_arrK, shL_tail]
            split
            · rw [iht]
              refine sh_bnd (fun y R2 => ?_)
              rw [← sh_two]; rfl
            · rfl
    · intro k to l R
      rw [bindsP, bindsP, shL_tail, shL_names, shL_at]
      refine sh_bnd (fun ns R1 => ?_)
      rw [shL_must]
      refine sh_bnd (fun _ R2 => ?_)
      rw [iht]
      exact sh_bnd (fun x R3 => rfl)
    · intro l R
      rw [binderP, binderP, shL_tail, shL_name, shL_at]
      refine sh_bnd (fun n R1 => ?_)
      rw [shL_must]
      refine sh_bnd (fun _ R2 => ?_)
      rw [iht]
      refine sh_bnd (fun x R3 => ?_)
      rw [shL_must]
      refine sh_bnd (fun _ R4 => ?_)
      rw [shL_arrR, shL_arrK, iht]
      exact sh_bnd (fun y R5 => rfl)
    · intro l R
      rw [appP, appP, iho]
      exact sh_bnd (fun x R1 => ihal l x R1)
    · intro l t R
      rw [appL, appL, shL_sees, shL_sees, shL_sees, shL_isN, shL_tail]
      split
      · rw [ihd]
        refine sh_bnd (fun x R1 => ?_)
        rw [← sh_two]; exact ihal l _ R1
      · split
        · rw [iho]
          refine sh_bnd (fun x R1 => ?_)
          rw [← sh_two]; exact ihal l _ R1
        · rfl
    · intro l R
      rw [atomP, atomP, shL_isN, shL_sees, shL_tail, shL_txt, shL_at]
      split
      · rfl
      · split
        · exact ihx l R
        · exact ihk l R
    · intro l R
      rw [brackP, brackP, shL_must, shL_at]
      refine sh_bnd (fun _ R1 => ?_)
      rw [iht]
      refine sh_bnd (fun t R2 => ?_)
      rw [shL_sees, shL_sees, shL_tail]
      split
      · rw [iht]
        refine sh_bnd (fun u R3 => ?_)
        rw [shL_must]
        exact sh_bnd (fun _ R4 => rfl)
      · split
        · rw [iht]
          refine sh_bnd (fun u R3 => ?_)
          rw [shL_must]
          exact sh_bnd (fun _ R4 => rfl)
        · rw [shL_must]
          exact sh_bnd (fun _ R3 => rfl)
    · intro l R
      rw [boxP, boxP, shL_tail, shL_sees, shL_tail, shL_at]
      split
      · rfl
      · rw [ihe]
        refine sh_bnd (fun x R1 => ?_)
        rw [← ihxl]; rfl
    · intro l p acc R
      rw [boxL, boxL, shL_sees, shL_tail]
      split
      · rw [ihe]
        refine sh_bnd (fun x R1 => ?_)
        rw [← ihxl, shTrs_app]; rfl
      · rw [shL_must]
        exact sh_bnd (fun _ R1 => rfl)
    · intro l R
      rw [elemP, elemP, shL_face, shL_at]
      refine sh_bnd (fun c R1 => ?_)
      rw [shL_sees, shL_tail]
      split
      · rw [iht]
        exact sh_bnd (fun t R2 => rfl)
      · rfl
theorem decl_sh (d e f : Nat) (R : Ts) : declP (e + d) f (shL d R) = (declP e f R).sh d (shTr d) := by
  have iht := (terms_sh d e f).1
  unfold declP
  rw [shL_name, shL_at]
  refine sh_bnd (fun n R1 => ?_)
  rw [shL_must]
  refine sh_bnd (fun _ R2 => ?_)
  rw [iht]
  refine sh_bnd (fun a R3 => ?_)
  rw [shL_must]
  refine sh_bnd (fun _ R4 => ?_)
  rw [iht]
  refine sh_bnd (fun c R5 => ?_)
  rw [shL_must]
  exact sh_bnd (fun _ R6 => rfl)
theorem fileL_sh (d e f : Nat) : ∀ (g : Nat) (acc : List Tr) (R : Ts), fileL (e + d) f g (shTrs d acc) (shL d R) = (fileL e f g acc R).sh d (shTrs d) := by
  intro g
  induction g with
  | zero => intro acc R; rfl
  | succ g ih =>
    intro acc R
    rw [fileL, fileL]
    cases R with
    | nil => rfl
    | cons t R =>
      rw [if_neg (by simp [shL]), if_neg (by simp), decl_sh]
      refine sh_bnd (fun x R1 => ?_)
      rw [← ih, shTrs_app]; rfl
/-! ### but for places -/
mutual
def erTr : Tr → Tr
  | .mk k n kids ns a => .mk k n (erTrs kids) ns 0
def erTrs : List Tr → List Tr
  | [] => []
  | t :: l => erTr t :: erTrs l
end
theorem erTrs_map (l : List Tr) : erTrs l = l.map erTr := by
  induction l with
  | nil => rfl
  | cons t l ih => rw [erTrs, ih]; rfl
mutual
theorem er_sh (d : Nat) : ∀ t : Tr, erTr (shTr d t) = erTr t
  | .mk k n kids ns a => by rw [shTr, erTr, erTr, ers_sh d kids]
theorem ers_sh (d : Nat) : ∀ l : List Tr, erTrs (shTrs d l) = erTrs l
  | [] => rfl
  | t :: l => by rw [shTrs, erTrs, erTrs, er_sh d t, ers_sh d l]
end
end Go.Proofs.YtkfeghminmhokaaDoor
