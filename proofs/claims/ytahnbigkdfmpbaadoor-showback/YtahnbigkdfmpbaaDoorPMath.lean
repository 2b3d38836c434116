/- The plain mathematics of layer 7: trees, and the reading of tokens as trees, rule by rule. -/
import Derived.Test.YtahnbigkdfmpbaaDoorLMathC
namespace Go.Proofs.YtahnbigkdfmpbaaDoor
set_option linter.unusedVariables false
set_option linter.unusedSimpArgs false

/-- A tree: kind, name, parts, names, place. -/
structure Tr where
  mk ::
  kind : Nat
  name : Bs
  kids : List Tr
  names : List Bs
  at_ : Nat
theorem Tr.ind {P : Tr → Prop} (h : ∀ k n kids ns a, (∀ x ∈ kids, P x) → P (.mk k n kids ns a)) : ∀ t, P t
  | .mk k n kids ns a => h k n kids ns a (fun x hx => Tr.ind h x)

abbrev Ts := List Tok
/-- What a rule tells: what is wrong (the place, the number), or what was read and what is left. -/
abbrev Rs (α : Type) := Sum (Nat × Nat) (α × Ts)
abbrev Rs.bad {α : Type} (p e : Nat) : Rs α := .inl (p, e)
abbrev Rs.ok {α : Type} (a : α) (R : Ts) : Rs α := .inr (a, R)
theorem Rs.cs {α : Type} {motive : Rs α → Prop} (r : Rs α) (bad : ∀ p e, motive (.bad p e)) (ok : ∀ a R, motive (.ok a R)) : motive r :=
  match r with
  | .inl (p, e) => bad p e
  | .inr (a, R) => ok a R
def Rs.bnd {α β : Type} (r : Rs α) (k : α → Ts → Rs β) : Rs β := match r with
  | .inl (p, e) => .bad p e
  | .inr (a, R) => k a R
theorem bnd_bad {α β : Type} (p e : Nat) (k : α → Ts → Rs β) : (Rs.bad p e : Rs α).bnd k = .bad p e := rfl
theorem bnd_ok {α β : Type} (a : α) (R : Ts) (k : α → Ts → Rs β) : (Rs.ok a R).bnd k = k a R := rfl

/-- The token that is next (e: the place of the end). -/
def hd (e : Nat) (R : Ts) : Tok := R.headD ⟨0, [], e⟩
def isN (R : Ts) : Bool := match R with | [] => false | t :: _ => decide (t.kind = 1)
def sees (s : Bs) (R : Ts) : Bool := match R with | [] => decide (s = []) | t :: _ => decide (t.text = s)
def atP (e : Nat) (R : Ts) : Nat := match R with | [] => e | t :: _ => t.at_
def txt (R : Ts) : Bs := match R with | [] => [] | t :: _ => t.text
def wrongP {α : Type} (e x : Nat) (R : Ts) : Rs α := .bad (atP e R) x
def mustP (e : Nat) (s : Bs) (R : Ts) : Rs Unit := if sees s R then .ok () R.tail else wrongP e 61 R
def nameP (e : Nat) (R : Ts) : Rs Bs := if isN R then .ok (txt R) R.tail else wrongP e 61 R
def namesL (acc : List Bs) : Ts → Rs (List Bs)
  | [] => .ok acc []
  | t :: R => if t.kind = 1 then namesL (acc ++ [t.text]) R else .ok acc (t :: R)
def namesP (e : Nat) (R : Ts) : Rs (List Bs) := (nameP e R).bnd fun n R => namesL [n] R
def digitP (e : Nat) (R : Ts) : Rs Bs := if sees [48] R then .ok [48] R.tail else if sees [49] R then .ok [49] R.tail else wrongP e 61 R
def enterQ (e : Nat) (l : Nat) (signs : List Bs) (R : Ts) (k : Rs Tr) : Rs Tr :=
  if isN R || decide (txt R ∈ signs) then (if 200 < l then wrongP e 62 R else k) else wrongP e 61 R
def stepO (o : Int) (t : Tok) : Int := if t.text = [40] then o + 1 else if t.text = [41] then o - 1 else o
def behindL (o : Int) : Ts → Bs
  | [] => []
  | t :: R => if stepO o t = 0 then txt R else behindL (stepO o t) R
def binderQ (R : Ts) : Bool := sees [40] R && (isN R.tail && (sees [58] R.tail.tail && (decide (behindL 0 R = [45, 62]) || decide (behindL 0 R = [42]))))
def arrK (R : Ts) : Nat := if sees [45, 62] R then 4 else 5
def arrB (R : Ts) : Bool := sees [45, 62] R || sees [42] R
def arrR (R : Ts) : Ts := if arrB R then R.tail else R
def two (k : Nat) (a b : Tr) : Tr := .mk k [] [a, b] [] a.at_

/-- The rules with fuel, all at once. -/
structure DimRl where
  dimP : Nat → Ts → Rs Tr
  joinP : Nat → Ts → Rs Tr
  joinL : Nat → Tr → Ts → Rs Tr
  meetP : Nat → Ts → Rs Tr
  meetL : Nat → Tr → Ts → Rs Tr
def dimRl (e : Nat) : Nat → DimRl
  | 0 => ⟨fun _ _ => .bad 0 999, fun _ _ => .bad 0 999, fun _ _ _ => .bad 0 999, fun _ _ => .bad 0 999, fun _ _ _ => .bad 0 999⟩
  | f + 1 => ⟨
    fun l R => enterQ e l [[48], [49], [126], [40]] R
    (if isN R then .ok (.mk 1 (txt R) [] [] (atP e R)) R.tail
     else if sees [126] R then ((dimRl e f).dimP (l + 1) R.tail).bnd fun d R1 => .ok (.mk 16 [] [d] [] (atP e R)) R1
     else if sees [40] R then ((dimRl e f).joinP (l + 1) R.tail).bnd fun j R1 => (mustP e [41] R1).bnd fun _ R2 => .ok j R2
     else (digitP e R).bnd fun d R1 => .ok (.mk 17 d [] [] (atP e R)) R1),
    fun l R => ((dimRl e f).meetP l R).bnd fun m R1 => (dimRl e f).joinL l m R1,
    fun l m R => if sees [92, 47] R then ((dimRl e f).meetP l R.tail).bnd fun x R1 => (dimRl e f).joinL l (two 14 m x) R1 else .ok m R,
    fun l R => ((dimRl e f).dimP l R).bnd fun m R1 => (dimRl e f).meetL l m R1,
    fun l m R => if sees [47, 92] R then ((dimRl e f).dimP l R.tail).bnd fun x R1 => (dimRl e f).meetL l (two 15 m x) R1 else .ok m R⟩
def dimP (e f : Nat) (l : Nat) (R : Ts) : Rs Tr := (dimRl e f).dimP l R
def joinP (e f : Nat) (l : Nat) (R : Ts) : Rs Tr := (dimRl e f).joinP l R
def joinL (e f : Nat) (l : Nat) (m : Tr) (R : Ts) : Rs Tr := (dimRl e f).joinL l m R
def meetP (e f : Nat) (l : Nat) (R : Ts) : Rs Tr := (dimRl e f).meetP l R
def meetL (e f : Nat) (l : Nat) (m : Tr) (R : Ts) : Rs Tr := (dimRl e f).meetL l m R
theorem dimP_z (e : Nat) (l : Nat) (R : Ts) : dimP e 0 l R = .bad 0 999 := rfl
theorem dimP_s (e f : Nat) (l : Nat) (R : Ts) : dimP e (f + 1) l R = enterQ e l [[48], [49], [126], [40]] R
    (if isN R then .ok (.mk 1 (txt R) [] [] (atP e R)) R.tail
     else if sees [126] R then (dimP e f (l + 1) R.tail).bnd fun d R1 => .ok (.mk 16 [] [d] [] (atP e R)) R1
     else if sees [40] R then (joinP e f (l + 1) R.tail).bnd fun j R1 => (mustP e [41] R1).bnd fun _ R2 => .ok j R2
     else (digitP e R).bnd fun d R1 => .ok (.mk 17 d [] [] (atP e R)) R1) := rfl
theorem joinP_z (e : Nat) (l : Nat) (R : Ts) : joinP e 0 l R = .bad 0 999 := rfl
theorem joinP_s (e f : Nat) (l : Nat) (R : Ts) : joinP e (f + 1) l R = (meetP e f l R).bnd fun m R1 => joinL e f l m R1 := rfl
theorem joinL_z (e : Nat) (l : Nat) (m : Tr) (R : Ts) : joinL e 0 l m R = .bad 0 999 := rfl
theorem joinL_s (e f : Nat) (l : Nat) (m : Tr) (R : Ts) : joinL e (f + 1) l m R = (if sees [92, 47] R then (meetP e f l R.tail).bnd fun x R1 => joinL e f l (two 14 m x) R1 else .ok m R) := rfl
theorem meetP_z (e : Nat) (l : Nat) (R : Ts) : meetP e 0 l R = .bad 0 999 := rfl
theorem meetP_s (e f : Nat) (l : Nat) (R : Ts) : meetP e (f + 1) l R = (dimP e f l R).bnd fun m R1 => meetL e f l m R1 := rfl
theorem meetL_z (e : Nat) (l : Nat) (m : Tr) (R : Ts) : meetL e 0 l m R = .bad 0 999 := rfl
theorem meetL_s (e f : Nat) (l : Nat) (m : Tr) (R : Ts) : meetL e (f + 1) l m R = (if sees [47, 92] R then (dimP e f l R.tail).bnd fun x R1 => meetL e f l (two 15 m x) R1 else .ok m R) := rfl

def eqP (e : Nat) (R : Ts) : Rs Tr :=
  (mustP e [40] R).bnd fun _ R1 => (nameP e R1).bnd fun n R2 => (mustP e [61] R2).bnd fun _ R3 => (digitP e R3).bnd fun d R4 => (mustP e [41] R4).bnd fun _ R5 => .ok (.mk 13 n [] [d] (atP e R)) R5
def faceL (e : Nat) : Nat → Nat → List Tr → Ts → Rs Tr
  | 0, _, _, _ => .bad 0 999
  | f + 1, p, acc, R => if sees [40] R then (eqP e R).bnd fun x R1 => faceL e f p (acc ++ [x]) R1 else .ok (.mk 12 [] acc [] p) R
def faceP (e f : Nat) (R : Ts) : Rs Tr := if sees [49] R then .ok (.mk 12 [] [] [] (atP e R)) R.tail else (eqP e R).bnd fun x R1 => faceL e f (atP e R) [x] R1

/-- The rules with fuel, all at once. -/
structure TermRl where
  termP : Nat → Ts → Rs Tr
  bindsP : Nat → Bs → Nat → Ts → Rs Tr
  binderP : Nat → Ts → Rs Tr
  appP : Nat → Ts → Rs Tr
  appL : Nat → Tr → Ts → Rs Tr
  atomP : Nat → Ts → Rs Tr
  brackP : Nat → Ts → Rs Tr
  boxP : Nat → Ts → Rs Tr
  boxL : Nat → Nat → List Tr → Ts → Rs Tr
  elemP : Nat → Ts → Rs Tr
def termRl (e : Nat) : Nat → TermRl
  | 0 => ⟨fun _ _ => .bad 0 999, fun _ _ _ _ => .bad 0 999, fun _ _ => .bad 0 999, fun _ _ => .bad 0 999, fun _ _ _ => .bad 0 999, fun _ _ => .bad 0 999, fun _ _ => .bad 0 999, fun _ _ => .bad 0 999, fun _ _ _ _ => .bad 0 999, fun _ _ => .bad 0 999⟩
  | f + 1 => ⟨
    fun l R => enterQ e l [[92], [60], [40], [91]] R
    (if sees [92] R then (termRl e f).bindsP 2 [46] l R
     else if sees [60] R then (termRl e f).bindsP 3 [62] l R
     else if binderQ R then (termRl e f).binderP l R
     else ((termRl e f).appP l R).bnd fun t R1 => if arrB R1 then ((termRl e f).termP (l + 1) R1.tail).bnd fun u R2 => .ok (two (arrK R1) t u) R2 else .ok t R1),
    fun k to l R => (namesP e R.tail).bnd fun ns R1 => (mustP e to R1).bnd fun _ R2 => ((termRl e f).termP (l + 1) R2).bnd fun t R3 => .ok (.mk k [] [t] ns (atP e R)) R3,
    fun l R => (nameP e R.tail).bnd fun n R1 => (mustP e [58] R1).bnd fun _ R2 => ((termRl e f).termP (l + 1) R2).bnd fun a R3 => (mustP e [41] R3).bnd fun _ R4 =>
    ((termRl e f).termP (l + 1) (arrR R4)).bnd fun c R5 => .ok (.mk (arrK R4) [] [a, c] [n] (atP e R)) R5,
    fun l R => ((termRl e f).atomP l R).bnd fun t R1 => (termRl e f).appL l t R1,
    fun l t R => if sees [64] R then (dimP e f (l + 1) R.tail).bnd fun d R1 => (termRl e f).appL l (two 7 t d) R1
    else if isN R || (sees [40] R || sees [91] R) then ((termRl e f).atomP l R).bnd fun u R1 => (termRl e f).appL l (two 6 t u) R1
    else .ok t R,
    fun l R => if isN R then .ok (.mk 1 (txt R) [] [] (atP e R)) R.tail
    else if sees [91] R then (termRl e f).boxP l R
    else (termRl e f).brackP l R,
    fun l R => (mustP e [40] R).bnd fun _ R1 => ((termRl e f).termP (l + 1) R1).bnd fun t R2 =>
    if sees [44] R2 then ((termRl e f).termP (l + 1) R2.tail).bnd fun u R3 => (mustP e [41] R3).bnd fun _ R4 => .ok (.mk 8 [] [t, u] [] (atP e R)) R4
    else if sees [58] R2 then ((termRl e f).termP (l + 1) R2.tail).bnd fun u R3 => (mustP e [41] R3).bnd fun _ R4 => .ok (.mk 9 [] [t, u] [] (atP e R)) R4
    else (mustP e [41] R2).bnd fun _ R3 => .ok t R3,
    fun l R => if sees [93] R.tail then .ok (.mk 10 [] [] [] (atP e R)) R.tail.tail
    else ((termRl e f).elemP l R.tail).bnd fun x R1 => (termRl e f).boxL l (atP e R) [x] R1,
    fun l p acc R => if sees [44] R then ((termRl e f).elemP l R.tail).bnd fun x R1 => (termRl e f).boxL l p (acc ++ [x]) R1
    else (mustP e [93] R).bnd fun _ R1 => .ok (.mk 10 [] acc [] p) R1,
    fun l R => (faceP e f R).bnd fun c R1 =>
    if sees [45, 62] R1 then ((termRl e f).termP (l + 1) R1.tail).bnd fun t R2 => .ok (.mk 11 [] [c, t] [] (atP e R)) R2
    else .ok (.mk 11 [] [c] [] (atP e R)) R1⟩
def termP (e f : Nat) (l : Nat) (R : Ts) : Rs Tr := (termRl e f).termP l R
def bindsP (e f : Nat) (k : Nat) (to : Bs) (l : Nat) (R : Ts) : Rs Tr := (termRl e f).bindsP k to l R
def binderP (e f : Nat) (l : Nat) (R : Ts) : Rs Tr := (termRl e f).binderP l R
def appP (e f : Nat) (l : Nat) (R : Ts) : Rs Tr := (termRl e f).appP l R
def appL (e f : Nat) (l : Nat) (t : Tr) (R : Ts) : Rs Tr := (termRl e f).appL l t R
def atomP (e f : Nat) (l : Nat) (R : Ts) : Rs Tr := (termRl e f).atomP l R
def brackP (e f : Nat) (l : Nat) (R : Ts) : Rs Tr := (termRl e f).brackP l R
def boxP (e f : Nat) (l : Nat) (R : Ts) : Rs Tr := (termRl e f).boxP l R
def boxL (e f : Nat) (l : Nat) (p : Nat) (acc : List Tr) (R : Ts) : Rs Tr := (termRl e f).boxL l p acc R
def elemP (e f : Nat) (l : Nat) (R : Ts) : Rs Tr := (termRl e f).elemP l R
theorem termP_z (e : Nat) (l : Nat) (R : Ts) : termP e 0 l R = .bad 0 999 := rfl
theorem termP_s (e f : Nat) (l : Nat) (R : Ts) : termP e (f + 1) l R = enterQ e l [[92], [60], [40], [91]] R
    (if sees [92] R then bindsP e f 2 [46] l R
     else if sees [60] R then bindsP e f 3 [62] l R
     else if binderQ R then binderP e f l R
     else (appP e f l R).bnd fun t R1 => if arrB R1 then (termP e f (l + 1) R1.tail).bnd fun u R2 => .ok (two (arrK R1) t u) R2 else .ok t R1) := rfl
theorem bindsP_z (e : Nat) (k : Nat) (to : Bs) (l : Nat) (R : Ts) : bindsP e 0 k to l R = .bad 0 999 := rfl
theorem bindsP_s (e f : Nat) (k : Nat) (to : Bs) (l : Nat) (R : Ts) : bindsP e (f + 1) k to l R = (namesP e R.tail).bnd fun ns R1 => (mustP e to R1).bnd fun _ R2 => (termP e f (l + 1) R2).bnd fun t R3 => .ok (.mk k [] [t] ns (atP e R)) R3 := rfl
theorem binderP_z (e : Nat) (l : Nat) (R : Ts) : binderP e 0 l R = .bad 0 999 := rfl
theorem binderP_s (e f : Nat) (l : Nat) (R : Ts) : binderP e (f + 1) l R = (nameP e R.tail).bnd fun n R1 => (mustP e [58] R1).bnd fun _ R2 => (termP e f (l + 1) R2).bnd fun a R3 => (mustP e [41] R3).bnd fun _ R4 =>
    (termP e f (l + 1) (arrR R4)).bnd fun c R5 => .ok (.mk (arrK R4) [] [a, c] [n] (atP e R)) R5 := rfl
theorem appP_z (e : Nat) (l : Nat) (R : Ts) : appP e 0 l R = .bad 0 999 := rfl
theorem appP_s (e f : Nat) (l : Nat) (R : Ts) : appP e (f + 1) l R = (atomP e f l R).bnd fun t R1 => appL e f l t R1 := rfl
theorem appL_z (e : Nat) (l : Nat) (t : Tr) (R : Ts) : appL e 0 l t R = .bad 0 999 := rfl
theorem appL_s (e f : Nat) (l : Nat) (t : Tr) (R : Ts) : appL e (f + 1) l t R = (if sees [64] R then (dimP e f (l + 1) R.tail).bnd fun d R1 => appL e f l (two 7 t d) R1
    else if isN R || (sees [40] R || sees [91] R) then (atomP e f l R).bnd fun u R1 => appL e f l (two 6 t u) R1
    else .ok t R) := rfl
theorem atomP_z (e : Nat) (l : Nat) (R : Ts) : atomP e 0 l R = .bad 0 999 := rfl
theorem atomP_s (e f : Nat) (l : Nat) (R : Ts) : atomP e (f + 1) l R = (if isN R then .ok (.mk 1 (txt R) [] [] (atP e R)) R.tail
    else if sees [91] R then boxP e f l R
    else brackP e f l R) := rfl
theorem brackP_z (e : Nat) (l : Nat) (R : Ts) : brackP e 0 l R = .bad 0 999 := rfl
theorem brackP_s (e f : Nat) (l : Nat) (R : Ts) : brackP e (f + 1) l R = (mustP e [40] R).bnd fun _ R1 => (termP e f (l + 1) R1).bnd fun t R2 =>
    if sees [44] R2 then (termP e f (l + 1) R2.tail).bnd fun u R3 => (mustP e [41] R3).bnd fun _ R4 => .ok (.mk 8 [] [t, u] [] (atP e R)) R4
    else if sees [58] R2 then (termP e f (l + 1) R2.tail).bnd fun u R3 => (mustP e [41] R3).bnd fun _ R4 => .ok (.mk 9 [] [t, u] [] (atP e R)) R4
    else (mustP e [41] R2).bnd fun _ R3 => .ok t R3 := rfl
theorem boxP_z (e : Nat) (l : Nat) (R : Ts) : boxP e 0 l R = .bad 0 999 := rfl
theorem boxP_s (e f : Nat) (l : Nat) (R : Ts) : boxP e (f + 1) l R = (if sees [93] R.tail then .ok (.mk 10 [] [] [] (atP e R)) R.tail.tail
    else (elemP e f l R.tail).bnd fun x R1 => boxL e f l (atP e R) [x] R1) := rfl
theorem boxL_z (e : Nat) (l : Nat) (p : Nat) (acc : List Tr) (R : Ts) : boxL e 0 l p acc R = .bad 0 999 := rfl
theorem boxL_s (e f : Nat) (l : Nat) (p : Nat) (acc : List Tr) (R : Ts) : boxL e (f + 1) l p acc R = (if sees [44] R then (elemP e f l R.tail).bnd fun x R1 => boxL e f l p (acc ++ [x]) R1
    else (mustP e [93] R).bnd fun _ R1 => .ok (.mk 10 [] acc [] p) R1) := rfl
theorem elemP_z (e : Nat) (l : Nat) (R : Ts) : elemP e 0 l R = .bad 0 999 := rfl
theorem elemP_s (e f : Nat) (l : Nat) (R : Ts) : elemP e (f + 1) l R = (faceP e f R).bnd fun c R1 =>
    if sees [45, 62] R1 then (termP e f (l + 1) R1.tail).bnd fun t R2 => .ok (.mk 11 [] [c, t] [] (atP e R)) R2
    else .ok (.mk 11 [] [c] [] (atP e R)) R1 := rfl
def declP (e f : Nat) (R : Ts) : Rs Tr :=
  (nameP e R).bnd fun n R1 => (mustP e [58] R1).bnd fun _ R2 => (termP e f 1 R2).bnd fun a R3 => (mustP e [61] R3).bnd fun _ R4 => (termP e f 1 R4).bnd fun c R5 => (mustP e [59] R5).bnd fun _ R6 => .ok (.mk 18 n [a, c] [] (atP e R)) R6
def fileL (e f : Nat) : Nat → List Tr → Ts → Rs (List Tr)
  | 0, _, _ => .bad 0 999
  | g + 1, acc, R => if R = [] then .ok acc [] else (declP e f R).bnd fun d R1 => fileL e f g (acc ++ [d]) R1
def singleP (e f : Nat) (R : Ts) : Rs Tr := (termP e f 1 R).bnd fun t R1 => if R1 = [] then .ok t [] else wrongP e 61 R1
end Go.Proofs.YtahnbigkdfmpbaaDoor
