/- Tokens further on in a text: the same trees, further on. -/
import Derived.Test.YtahnbigkdfmpbaaDoorPSimB
namespace Go.Proofs.YtahnbigkdfmpbaaDoor
set_option linter.unusedVariables false
set_option linter.unusedSimpArgs false

def shT (d : Nat) (t : Tok) : Tok := ⟨t.kind, t.text, t.at_ + d⟩
def shL (d : Nat) (R : Ts) : Ts := R.map (shT d)
def shTr (d : Nat) : Tr → Tr
  | .mk k n kids ns a => .mk k n (kids.map fun x => shTr d x) ns (a + d)
def shTrs (d : Nat) (l : List Tr) : List Tr := l.map (shTr d)
theorem shTr_mk (d k : Nat) (n : Bs) (kids : List Tr) (ns : List Bs) (a : Nat) : shTr d (.mk k n kids ns a) = .mk k n (shTrs d kids) ns (a + d) := by
  rw [shTr]; rfl
theorem shTrs_map (d : Nat) (l : List Tr) : shTrs d l = l.map (shTr d) := rfl
theorem shTrs_nil (d : Nat) : shTrs d [] = [] := rfl
theorem shTrs_cons (d : Nat) (t : Tr) (l : List Tr) : shTrs d (t :: l) = shTr d t :: shTrs d l := rfl
theorem shTrs_app (d : Nat) (l m : List Tr) : shTrs d (l ++ m) = shTrs d l ++ shTrs d m := by simp [shTrs_map]
def Rs.sh {α : Type} (d : Nat) (g : α → α) : Rs α → Rs α
  | .inl (p, x) => .bad (if x = 999 then p else p + d) x
  | .inr (a, R) => .ok (g a) (shL d R)
theorem sh_bnd {α β : Type} {d : Nat} {ga : α → α} {gb : β → β} {x : Rs α} {k1 k2 : α → Ts → Rs β} (h : ∀ a R, k2 (ga a) (shL d R) = (k1 a R).sh d gb) : ((x.sh d ga).bnd k2) = (x.bnd k1).sh d gb := by
  cases x using Rs.cs with
  | bad p e => rfl
  | ok a R => exact h a R
theorem shL_nil (d : Nat) : shL d [] = [] := rfl
theorem shL_tail (d : Nat) (R : Ts) : (shL d R).tail = shL d R.tail := by cases R <;> rfl
theorem shL_isN (d : Nat) (R : Ts) : isN (shL d R) = isN R := by cases R <;> rfl
theorem shL_sees (d : Nat) (s : Bs) (R : Ts) : sees s (shL d R) = sees s R := by cases R <;> rfl
theorem shL_txt (d : Nat) (R : Ts) : txt (shL d R) = txt R := by cases R <;> rfl
theorem shL_at (d e : Nat) (R : Ts) : atP (e + d) (shL d R) = atP e R + d := by cases R <;> rfl
theorem shL_must (d e : Nat) (s : Bs) (R : Ts) : mustP (e + d) s (shL d R) = (mustP e s R).sh d id := by
  unfold mustP wrongP
  rw [shL_sees]
  split
  · rw [shL_tail]; rfl
  · rw [shL_at]; rfl
theorem shL_name (d e : Nat) (R : Ts) : nameP (e + d) (shL d R) = (nameP e R).sh d id := by
  unfold nameP wrongP
  rw [shL_isN]
  split
  · rw [shL_tail, shL_txt]; rfl
  · rw [shL_at]; rfl
theorem shL_namesL (d : Nat) (R : Ts) : ∀ acc, namesL acc (shL d R) = (namesL acc R).sh d id := by
  induction R with
  | nil => intro acc; rfl
  | cons t R ih =>
    intro acc
    show namesL acc (shT d t :: shL d R) = _
    rw [namesL, namesL]
    show (if t.kind = 1 then namesL (acc ++ [t.text]) (shL d R) else _) = _
    split
    · exact ih _
    · rfl
theorem shL_names (d e : Nat) (R : Ts) : namesP (e + d) (shL d R) = (namesP e R).sh d id := by
  unfold namesP
  rw [shL_name]
  exact sh_bnd (fun a R => shL_namesL d R _)
theorem shL_digit (d e : Nat) (R : Ts) : digitP (e + d) (shL d R) = (digitP e R).sh d id := by
  unfold digitP wrongP
  rw [shL_sees, shL_sees]
  split
  · rw [shL_tail]; rfl
  · split
    · rw [shL_tail]; rfl
    · rw [shL_at]; rfl
theorem shL_enter (d e l : Nat) (S : List Bs) (R : Ts) (k1 k2 : Rs Tr) (h : k2 = k1.sh d (shTr d)) : enterQ (e + d) l S (shL d R) k2 = (enterQ e l S R k1).sh d (shTr d) := by
  subst h
  unfold enterQ wrongP
  rw [shL_isN, shL_txt, shL_at]
  split
  · split <;> rfl
  · rfl
theorem shL_behind (d : Nat) (R : Ts) : ∀ o, behindL o (shL d R) = behindL o R := by
  induction R with
  | nil => intro o; rfl
  | cons t R ih =>
    intro o
    show behindL o (shT d t :: shL d R) = _
    rw [behindL, behindL, show stepO o (shT d t) = stepO o t from rfl, shL_txt, ih]
theorem shL_binder (d : Nat) (R : Ts) : binderQ (shL d R) = binderQ R := by
  unfold binderQ
  rw [shL_sees, shL_tail, shL_isN, shL_tail, shL_sees, shL_behind]
theorem shL_arrB (d : Nat) (R : Ts) : arrB (shL d R) = arrB R := by unfold arrB; rw [shL_sees, shL_sees]
theorem shL_arrK (d : Nat) (R : Ts) : arrK (shL d R) = arrK R := by unfold arrK; rw [shL_sees]
theorem shL_arrR (d : Nat) (R : Ts) : arrR (shL d R) = shL d (arrR R) := by
  unfold arrR
  rw [shL_arrB]
  split
  · exact shL_tail d R
  · rfl
theorem sh_at (d : Nat) (t : Tr) : (shTr d t).at_ = t.at_ + d := by cases t; rw [shTr_mk]
theorem sh_two (d k : Nat) (a b : Tr) : shTr d (two k a b) = two k (shTr d a) (shTr d b) := by
  unfold two
  rw [shTr_mk, sh_at]; rfl
theorem sh_ok (d k : Nat) (n : Bs) (kids : List Tr) (ns : List Bs) (a : Nat) (R : Ts) : (Rs.ok (.mk k n kids ns a) R : Rs Tr).sh d (shTr d) = .ok (.mk k n (shTrs d kids) ns (a + d)) (shL d R) := by
  show Rs.ok (shTr d (.mk k n kids ns a)) (shL d R) = _
  rw [shTr_mk]
theorem shL_eq (d e : Nat) (R : Ts) : eqP (e + d) (shL d R) = (eqP e R).sh d (shTr d) := by
  unfold eqP
  rw [shL_must, shL_at]
  refine sh_bnd (fun _ R1 => ?_)
  rw [shL_name]
  refine sh_bnd (fun n R2 => ?_)
  rw [shL_must]
  refine sh_bnd (fun _ R3 => ?_)
  rw [shL_digit]
  refine sh_bnd (fun x R4 => ?_)
  rw [shL_must]
  exact sh_bnd (fun _ R5 => by first | rfl | (rw [sh_ok]; try rfl))
theorem shL_faceL (d e : Nat) : ∀ (f p : Nat) (acc : List Tr) (R : Ts), faceL (e + d) f (p + d) (shTrs d acc) (shL d R) = (faceL e f p acc R).sh d (shTr d) := by
  intro f
  induction f with
  | zero => intro p acc R; all_goals (first | rfl | (rw [sh_ok]; try rfl))
  | succ f ih =>
    intro p acc R
    rw [faceL, faceL, shL_sees]
    split
    · rw [shL_eq]
      refine sh_bnd (fun x R1 => ?_)
      rw [← ih, shTrs_app]; all_goals (first | rfl | (rw [sh_ok]; try rfl))
    · first | rfl | (rw [sh_ok]; try rfl)
theorem shL_face (d e f : Nat) (R : Ts) : faceP (e + d) f (shL d R) = (faceP e f R).sh d (shTr d) := by
  unfold faceP
  rw [shL_sees, shL_at]
  split
  · rw [shL_tail]; all_goals (first | rfl | (rw [sh_ok]; try rfl))
  · rw [shL_eq]
    refine sh_bnd (fun x R1 => ?_)
    rw [← shL_faceL]; all_goals (first | rfl | (rw [sh_ok]; try rfl))
theorem dims_sh (d e : Nat) : ∀ f : Nat,
    (∀ l R, dimP (e + d) f l (shL d R) = (dimP e f l R).sh d (shTr d)) ∧
    (∀ l R, joinP (e + d) f l (shL d R) = (joinP e f l R).sh d (shTr d)) ∧
    (∀ l t R, joinL (e + d) f l (shTr d t) (shL d R) = (joinL e f l t R).sh d (shTr d)) ∧
    (∀ l R, meetP (e + d) f l (shL d R) = (meetP e f l R).sh d (shTr d)) ∧
    (∀ l t R, meetL (e + d) f l (shTr d t) (shL d R) = (meetL e f l t R).sh d (shTr d)) := by
  intro f
  induction f with
  | zero => exact ⟨fun _ _ => by rw [dimP_z, dimP_z]; rfl, fun _ _ => by rw [joinP_z, joinP_z]; rfl, fun _ _ _ => by rw [joinL_z, joinL_z]; rfl, fun _ _ => by rw [meetP_z, meetP_z]; rfl, fun _ _ _ => by rw [meetL_z, meetL_z]; rfl⟩
  | succ f ih =>
    obtain ⟨ihd, ihj, ihjl, ihm, ihml⟩ := ih
    refine ⟨?_, ?_, ?_, ?_, ?_⟩
    · intro l R
      rw [dimP_s, dimP_s]
      refine shL_enter d e l _ R _ _ ?_
      rw [shL_isN, shL_sees, shL_sees, shL_tail, shL_txt, shL_at]
      split
      · first | rfl | (rw [sh_ok]; try rfl)
      · split
        · rw [ihd]; exact sh_bnd (fun x R1 => by first | rfl | (rw [sh_ok]; try rfl))
        · split
          · rw [ihj]
            refine sh_bnd (fun x R1 => ?_)
            rw [shL_must]
            exact sh_bnd (fun _ R2 => by first | rfl | (rw [sh_ok]; try rfl))
          · rw [shL_digit]; exact sh_bnd (fun x R1 => by first | rfl | (rw [sh_ok]; try rfl))
    · intro l R
      rw [joinP_s, joinP_s, ihm]
      exact sh_bnd (fun x R1 => ihjl l x R1)
    · intro l t R
      rw [joinL_s, joinL_s, shL_sees, shL_tail]
      split
      · rw [ihm]
        refine sh_bnd (fun x R1 => ?_)
        rw [← sh_two]; exact ihjl l _ R1
      · first | rfl | (rw [sh_ok]; try rfl)
    · intro l R
      rw [meetP_s, meetP_s, ihd]
      exact sh_bnd (fun x R1 => ihml l x R1)
    · intro l t R
      rw [meetL_s, meetL_s, shL_sees, shL_tail]
      split
      · rw [ihd]
        refine sh_bnd (fun x R1 => ?_)
        rw [← sh_two]; exact ihml l _ R1
      · first | rfl | (rw [sh_ok]; try rfl)
theorem terms_sh (d e : Nat) : ∀ f : Nat,
    (∀ l R, termP (e + d) f l (shL d R) = (termP e f l R).sh d (shTr d)) ∧
    (∀ k to l R, bindsP (e + d) f k to l (shL d R) = (bindsP e f k to l R).sh d (shTr d)) ∧
    (∀ l R, binderP (e + d) f l (shL d R) = (binderP e f l R).sh d (shTr d)) ∧
    (∀ l R, appP (e + d) f l (shL d R) = (appP e f l R).sh d (shTr d)) ∧
    (∀ l t R, appL (e + d) f l (shTr d t) (shL d R) = (appL e f l t R).sh d (shTr d)) ∧
    (∀ l R, atomP (e + d) f l (shL d R) = (atomP e f l R).sh d (shTr d)) ∧
    (∀ l R, brackP (e + d) f l (shL d R) = (brackP e f l R).sh d (shTr d)) ∧
    (∀ l R, boxP (e + d) f l (shL d R) = (boxP e f l R).sh d (shTr d)) ∧
    (∀ l p acc R, boxL (e + d) f l (p + d) (shTrs d acc) (shL d R) = (boxL e f l p acc R).sh d (shTr d)) ∧
    (∀ l R, elemP (e + d) f l (shL d R) = (elemP e f l R).sh d (shTr d)) := by
  intro f
  induction f with
  | zero => exact ⟨fun _ _ => by rw [termP_z, termP_z]; rfl, fun _ _ _ _ => by rw [bindsP_z, bindsP_z]; rfl, fun _ _ => by rw [binderP_z, binderP_z]; rfl, fun _ _ => by rw [appP_z, appP_z]; rfl, fun _ _ _ => by rw [appL_z, appL_z]; rfl, fun _ _ => by rw [atomP_z, atomP_z]; rfl, fun _ _ => by rw [brackP_z, brackP_z]; rfl, fun _ _ => by rw [boxP_z, boxP_z]; rfl, fun _ _ _ _ => by rw [boxL_z, boxL_z]; rfl, fun _ _ => by rw [elemP_z, elemP_z]; rfl⟩
  | succ f ih =>
    obtain ⟨iht, ihb, ihn, iha, ihal, iho, ihk, ihx, ihxl, ihe⟩ := ih
    have ihd := (dims_sh d e f).1
    refine ⟨?_, ?_, ?_, ?_, ?_, ?_, ?_, ?_, ?_, ?_⟩
    · intro l R
      rw [termP_s, termP_s]
      refine shL_enter d e l _ R _ _ ?_
      rw [shL_sees, shL_sees, shL_binder]
      split
      · exact ihb _ _ _ _
      · split
        · exact ihb _ _ _ _
        · split
          · exact ihn _ _
          · rw [iha]
            refine sh_bnd (fun x R1 => ?_)
            rw [shL_arrB, shL_arrK, shL_tail]
            split
            · rw [iht]
              refine sh_bnd (fun y R2 => ?_)
              rw [← sh_two]; all_goals (first | rfl | (rw [sh_ok]; try rfl))
            · first | rfl | (rw [sh_ok]; try rfl)
    · intro k to l R
      rw [bindsP_s, bindsP_s, shL_tail, shL_names, shL_at]
      refine sh_bnd (fun ns R1 => ?_)
      rw [shL_must]
      refine sh_bnd (fun _ R2 => ?_)
      rw [iht]
      exact sh_bnd (fun x R3 => by first | rfl | (rw [sh_ok]; try rfl))
    · intro l R
      rw [binderP_s, binderP_s, shL_tail, shL_name, shL_at]
      refine sh_bnd (fun n R1 => ?_)
      rw [shL_must]
      refine sh_bnd (fun _ R2 => ?_)
      rw [iht]
      refine sh_bnd (fun x R3 => ?_)
      rw [shL_must]
      refine sh_bnd (fun _ R4 => ?_)
      rw [shL_arrR, shL_arrK, iht]
      exact sh_bnd (fun y R5 => by first | rfl | (rw [sh_ok]; try rfl))
    · intro l R
      rw [appP_s, appP_s, iho]
      exact sh_bnd (fun x R1 => ihal l x R1)
    · intro l t R
      rw [appL_s, appL_s, shL_sees, shL_sees, shL_sees, shL_isN, shL_tail]
      split
      · rw [ihd]
        refine sh_bnd (fun x R1 => ?_)
        rw [← sh_two]; exact ihal l _ R1
      · split
        · rw [iho]
          refine sh_bnd (fun x R1 => ?_)
          rw [← sh_two]; exact ihal l _ R1
        · first | rfl | (rw [sh_ok]; try rfl)
    · intro l R
      rw [atomP_s, atomP_s, shL_isN, shL_sees, shL_tail, shL_txt, shL_at]
      split
      · first | rfl | (rw [sh_ok]; try rfl)
      · split
        · exact ihx l R
        · exact ihk l R
    · intro l R
      rw [brackP_s, brackP_s, shL_must, shL_at]
      refine sh_bnd (fun _ R1 => ?_)
      rw [iht]
      refine sh_bnd (fun t R2 => ?_)
      rw [shL_sees, shL_sees, shL_tail]
      split
      · rw [iht]
        refine sh_bnd (fun u R3 => ?_)
        rw [shL_must]
        exact sh_bnd (fun _ R4 => by first | rfl | (rw [sh_ok]; try rfl))
      · split
        · rw [iht]
          refine sh_bnd (fun u R3 => ?_)
          rw [shL_must]
          exact sh_bnd (fun _ R4 => by first | rfl | (rw [sh_ok]; try rfl))
        · rw [shL_must]
          exact sh_bnd (fun _ R3 => by first | rfl | (rw [sh_ok]; try rfl))
    · intro l R
      rw [boxP_s, boxP_s, shL_tail, shL_sees, shL_tail, shL_at]
      split
      · first | rfl | (rw [sh_ok]; try rfl)
      · rw [ihe]
        refine sh_bnd (fun x R1 => ?_)
        rw [← ihxl]; all_goals (first | rfl | (rw [sh_ok]; try rfl))
    · intro l p acc R
      rw [boxL_s, boxL_s, shL_sees, shL_tail]
      split
      · rw [ihe]
        refine sh_bnd (fun x R1 => ?_)
        rw [← ihxl, shTrs_app]; all_goals (first | rfl | (rw [sh_ok]; try rfl))
      · rw [shL_must]
        exact sh_bnd (fun _ R1 => by first | rfl | (rw [sh_ok]; try rfl))
    · intro l R
      rw [elemP_s, elemP_s, shL_face, shL_at]
      refine sh_bnd (fun c R1 => ?_)
      rw [shL_sees, shL_tail]
      split
      · rw [iht]
        exact sh_bnd (fun t R2 => by first | rfl | (rw [sh_ok]; try rfl))
      · first | rfl | (rw [sh_ok]; try rfl)
theorem decl_sh (d e f : Nat) (R : Ts) : declP (e + d) f (shL d R) = (declP e f R).sh d (shTr d) := by
  have iht := (terms_sh d e f).1
  unfold declP
  rw [shL_name, shL_at]
  refine sh_bnd (fun n R1 => ?_)
  rw [shL_must]
  refine sh_bnd (fun _ R2 => ?_)
  rw [iht]
  refine sh_bnd (fun a R3 => ?_)
  rw [shL_must]
  refine sh_bnd (fun _ R4 => ?_)
  rw [iht]
  refine sh_bnd (fun c R5 => ?_)
  rw [shL_must]
  exact sh_bnd (fun _ R6 => by first | rfl | (rw [sh_ok]; try rfl))
theorem fileL_sh (d e f : Nat) : ∀ (g : Nat) (acc : List Tr) (R : Ts), fileL (e + d) f g (shTrs d acc) (shL d R) = (fileL e f g acc R).sh d (shTrs d) := by
  intro g
  induction g with
  | zero => intro acc R; all_goals (first | rfl | (rw [sh_ok]; try rfl))
  | succ g ih =>
    intro acc R
    rw [fileL, fileL]
    cases R with
    | nil => rfl
    | cons t R =>
      rw [if_neg (by simp [shL]), if_neg (by simp), decl_sh]
      refine sh_bnd (fun x R1 => ?_)
      rw [← ih, shTrs_app]; all_goals (first | rfl | (rw [sh_ok]; try rfl))
/-! ### but for places -/
def erTr : Tr → Tr
  | .mk k n kids ns a => .mk k n (kids.map fun x => erTr x) ns 0
def erTrs (l : List Tr) : List Tr := l.map erTr
theorem erTr_mk (k : Nat) (n : Bs) (kids : List Tr) (ns : List Bs) (a : Nat) : erTr (.mk k n kids ns a) = .mk k n (erTrs kids) ns 0 := by
  rw [erTr]; rfl
theorem erTrs_map (l : List Tr) : erTrs l = l.map erTr := rfl
theorem ers_of {d : Nat} {l : List Tr} (h : ∀ x ∈ l, erTr (shTr d x) = erTr x) : erTrs (shTrs d l) = erTrs l := by
  unfold erTrs shTrs
  rw [List.map_map]
  exact List.map_congr_left h
theorem er_sh (d : Nat) : ∀ t : Tr, erTr (shTr d t) = erTr t := Tr.ind fun k n kids ns a ih => by rw [shTr_mk, erTr_mk, erTr_mk, ers_of ih]
theorem ers_sh (d : Nat) (l : List Tr) : erTrs (shTrs d l) = erTrs l := ers_of fun x _ => er_sh d x
end Go.Proofs.YtahnbigkdfmpbaaDoor
