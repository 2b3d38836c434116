/- The plain mathematics of layer 7: trees, and the reading of tokens as trees, rule by rule. -/
import Derived.Test.YtkfeghminmhokaaDoorLMathC
namespace Go.Proofs.YtkfeghminmhokaaDoor
set_option linter.unusedVariables false
set_option linter.unusedSimpArgs false

/-- A tree: kind, name, parts, names, place. -/
inductive Tr where
  | mk (kind : Nat) (name : Bs) (kids : List Tr) (names : List Bs) (at_ : Nat)
def Tr.kind : Tr → Nat | .mk k _ _ _ _ => k
def Tr.name : Tr → Bs | .mk _ n _ _ _ => n
def Tr.kids : Tr → List Tr | .mk _ _ k _ _ => k
def Tr.names : Tr → List Bs | .mk _ _ _ n _ => n
def Tr.at_ : Tr → Nat | .mk _ _ _ _ a => a

abbrev Ts := List Tok
/-- What a rule tells: what is wrong (the place, the number), or what was read and what is left. -/
inductive Rs (α : Type) where
  | bad (p e : Nat)
  | ok (a : α) (R : Ts)
def Rs.bnd {α β : Type} (r : Rs α) (k : α → Ts → Rs β) : Rs β := match r with
  | .bad p e => .bad p e
  | .ok a R => k a R
theorem bnd_bad {α β : Type} (p e : Nat) (k : α → Ts → Rs β) : (Rs.bad p e : Rs α).bnd k = .bad p e := rfl
theorem bnd_ok {α β : Type} (a : α) (R : Ts) (k : α → Ts → Rs β) : (Rs.ok a R).bnd k = k a R := rfl

/-- The token that is next (e: the place of the end). -/
def hd (e : Nat) (R : Ts) : Tok := R.headD ⟨0, [], e⟩
def isN (R : Ts) : Bool := match R with | [] => false | t :: _ => decide (t.kind = 1)
def sees (s : Bs) (R : Ts) : Bool := match R with | [] => decide (s = []) | t :: _ => decide (t.text = s)
def atP (e : Nat) (R : Ts) : Nat := match R with | [] => e | t :: _ => t.at_
def txt (R : Ts) : Bs := match R with | [] => [] | t :: _ => t.text
def wrongP {α : Type} (e x : Nat) (R : Ts) : Rs α := .bad (atP e R) x
def mustP (e : Nat) (s : Bs) (R : Ts) : Rs Unit := if sees s R then .ok () R.tail else wrongP e 61 R
def nameP (e : Nat) (R : Ts) : Rs Bs := if isN R then .ok (txt R) R.tail else wrongP e 61 R
def namesL (acc : List Bs) : Ts → Rs (List Bs)
  | [] => .ok acc []
  | t :: R => if t.kind = 1 then namesL (acc ++ [t.text]) R else .ok acc (t :: R)
def namesP (e : Nat) (R : Ts) : Rs (List Bs) := (nameP e R).bnd fun n R => namesL [n] R
def digitP (e : Nat) (R : Ts) : Rs Bs := if sees [48] R then .ok [48] R.tail else if sees [49] R then .ok [49] R.tail else wrongP e 61 R
def enterQ (e : Nat) (l : Nat) (signs : List Bs) (R : Ts) (k : Rs Tr) : Rs Tr :=
  if isN R || decide (txt R ∈ signs) then (if 200 < l then wrongP e 62 R else k) else wrongP e 61 R
def stepO (o : Int) (t : Tok) : Int := if t.text = [40] then o + 1 else if t.text = [41] then o - 1 else o
def behindL (o : Int) : Ts → Bs
  | [] => []
  | t :: R => if stepO o t = 0 then txt R else behindL (stepO o t) R
def binderQ (R : Ts) : Bool := sees [40] R && (isN R.tail && (sees [58] R.tail.tail && (decide (behindL 0 R = [45, 62]) || decide (behindL 0 R = [42]))))
def arrK (R : Ts) : Nat := if sees [45, 62] R then 4 else 5
def arrB (R : Ts) : Bool := sees [45, 62] R || sees [42] R
def arrR (R : Ts) : Ts := if arrB R then R.tail else R
def two (k : Nat) (a b : Tr) : Tr := .mk k [] [a, b] [] a.at_

mutual
def dimP (e : Nat) : Nat → Nat → Ts → Rs Tr
  | 0, _, _ => .bad 0 999
  | f + 1, l, R => enterQ e l [[48], [49], [126], [40]] R
    (if isN R then .ok (.mk 1 (txt R) [] [] (atP e R)) R.tail
     else if sees [126] R then (dimP e f (l + 1) R.tail).bnd fun d R1 => .ok (.mk 16 [] [d] [] (atP e R)) R1
     else if sees [40] R then (joinP e f (l + 1) R.tail).bnd fun j R1 => (mustP e [41] R1).bnd fun _ R2 => .ok j R2
     else (digitP e R).bnd fun d R1 => .ok (.mk 17 d [] [] (atP e R)) R1)
def joinP (e : Nat) : Nat → Nat → Ts → Rs Tr
  | 0, _, _ => .bad 0 999
  | f + 1, l, R => (meetP e f l R).bnd fun m R1 => joinL e f l m R1
def joinL (e : Nat) : Nat → Nat → Tr → Ts → Rs Tr
  | 0, _, _, _ => .bad 0 999
  | f + 1, l, m, R => if sees [92, 47] R then (meetP e f l R.tail).bnd fun x R1 => joinL e f l (two 14 m x) R1 else .ok m R
def meetP (e : Nat) : Nat → Nat → Ts → Rs Tr
  | 0, _, _ => .bad 0 999
  | f + 1, l, R => (dimP e f l R).bnd fun m R1 => meetL e f l m R1
def meetL (e : Nat) : Nat → Nat → Tr → Ts → Rs Tr
  | 0, _, _, _ => .bad 0 999
  | f + 1, l, m, R => if sees [47, 92] R then (dimP e f l R.tail).bnd fun x R1 => meetL e f l (two 15 m x) R1 else .ok m R
end

def eqP (e : Nat) (R : Ts) : Rs Tr :=
  (mustP e [40] R).bnd fun _ R1 => (nameP e R1).bnd fun n R2 => (mustP e [61] R2).bnd fun _ R3 => (digitP e R3).bnd fun d R4 => (mustP e [41] R4).bnd fun _ R5 => .ok (.mk 13 n [] [d] (atP e R)) R5
def faceL (e : Nat) : Nat → Nat → List Tr → Ts → Rs Tr
  | 0, _, _, _ => .bad 0 999
  | f + 1, p, acc, R => if sees [40] R then (eqP e R).bnd fun x R1 => faceL e f p (acc ++ [x]) R1 else .ok (.mk 12 [] acc [] p) R
def faceP (e f : Nat) (R : Ts) : Rs Tr := if sees [49] R then .ok (.mk 12 [] [] [] (atP e R)) R.tail else (eqP e R).bnd fun x R1 => faceL e f (atP e R) [x] R1

mutual
def termP (e : Nat) : Nat → Nat → Ts → Rs Tr
  | 0, _, _ => .bad 0 999
  | f + 1, l, R => enterQ e l [[92], [60], [40], [91]] R
    (if sees [92] R then bindsP e f 2 [46] l R
     else if sees [60] R then bindsP e f 3 [62] l R
     else if binderQ R then binderP e f l R
     else (appP e f l R).bnd fun t R1 => if arrB R1 then (termP e f (l + 1) R1.tail).bnd fun u R2 => .ok (two (arrK R1) t u) R2 else .ok t R1)
def bindsP (e : Nat) : Nat → Nat → Bs → Nat → Ts → Rs Tr
  | 0, _, _, _, _ => .bad 0 999
  | f + 1, k, to, l, R => (namesP e R.tail).bnd fun ns R1 => (mustP e to R1).bnd fun _ R2 => (termP e f (l + 1) R2).bnd fun t R3 => .ok (.mk k [] [t] ns (atP e R)) R3
def binderP (e : Nat) : Nat → Nat → Ts → Rs Tr
  | 0, _, _ => .bad 0 999
  | f + 1, l, R => (nameP e R.tail).bnd fun n R1 => (mustP e [58] R1).bnd fun _ R2 => (termP e f (l + 1) R2).bnd fun a R3 => (mustP e [41] R3).bnd fun _ R4 =>
    (termP e f (l + 1) (arrR R4)).bnd fun c R5 => .ok (.mk (arrK R4) [] [a, c] [n] (atP e R)) R5
def appP (e : Nat) : Nat → Nat → Ts → Rs Tr
  | 0, _, _ => .bad 0 999
  | f + 1, l, R => (atomP e f l R).bnd fun t R1 => appL e f l t R1
def appL (e : Nat) : Nat → Nat → Tr → Ts → Rs Tr
  | 0, _, _, _ => .bad 0 999
  | f + 1, l, t, R =>
    if sees [64] R then (dimP e f (l + 1) R.tail).bnd fun d R1 => appL e f l (two 7 t d) R1
    else if isN R || (sees [40] R || sees [91] R) then (atomP e f l R).bnd fun u R1 => appL e f l (two 6 t u) R1
    else .ok t R
def atomP (e : Nat) : Nat → Nat → Ts → Rs Tr
  | 0, _, _ => .bad 0 999
  | f + 1, l, R =>
    if isN R then .ok (.mk 1 (txt R) [] [] (atP e R)) R.tail
    else if sees [91] R then boxP e f l R
    else brackP e f l R
def brackP (e : Nat) : Nat → Nat → Ts → Rs Tr
  | 0, _, _ => .bad 0 999
  | f + 1, l, R => (mustP e [40] R).bnd fun _ R1 => (termP e f (l + 1) R1).bnd fun t R2 =>
    if sees [44] R2 then (termP e f (l + 1) R2.tail).bnd fun u R3 => (mustP e [41] R3).bnd fun _ R4 => .ok (.mk 8 [] [t, u] [] (atP e R)) R4
    else if sees [58] R2 then (termP e f (l + 1) R2.tail).bnd fun u R3 => (mustP e [41] R3).bnd fun _ R4 => .ok (.mk 9 [] [t, u] [] (atP e R)) R4
    else (mustP e [41] R2).bnd fun _ R3 => .ok t R3
def boxP (e : Nat) : Nat → Nat → Ts → Rs Tr
  | 0, _, _ => .bad 0 999
  | f + 1, l, R =>
    if sees [93] R.tail then .ok (.mk 10 [] [] [] (atP e R)) R.tail.tail
    else (elemP e f l R.tail).bnd fun x R1 => boxL e f l (atP e R) [x] R1
def boxL (e : Nat) : Nat → Nat → Nat → List Tr → Ts → Rs Tr
  | 0, _, _, _, _ => .bad 0 999
  | f + 1, l, p, acc, R =>
    if sees [44] R then (elemP e f l R.tail).bnd fun x R1 => boxL e f l p (acc ++ [x]) R1
    else (mustP e [93] R).bnd fun _ R1 => .ok (.mk 10 [] acc [] p) R1
def elemP (e : Nat) : Nat → Nat → Ts → Rs Tr
  | 0, _, _ => .bad 0 999
  | f + 1, l, R => (faceP e f R).bnd fun c R1 =>
    if sees [45, 62] R1 then (termP e f (l + 1) R1.tail).bnd fun t R2 => .ok (.mk 11 [] [c, t] [] (atP e R)) R2
    else .ok (.mk 11 [] [c] [] (atP e R)) R1
end
def declP (e f : Nat) (R : Ts) : Rs Tr :=
  (nameP e R).bnd fun n R1 => (mustP e [58] R1).bnd fun _ R2 => (termP e f 1 R2).bnd fun a R3 => (mustP e [61] R3).bnd fun _ R4 => (termP e f 1 R4).bnd fun c R5 => (mustP e [59] R5).bnd fun _ R6 => .ok (.mk 18 n [a, c] [] (atP e R)) R6
def fileL (e f : Nat) : Nat → List Tr → Ts → Rs (List Tr)
  | 0, _, _ => .bad 0 999
  | g + 1, acc, R => if R = [] then .ok acc [] else (declP e f R).bnd fun d R1 => fileL e f g (acc ++ [d]) R1
def singleP (e f : Nat) (R : Ts) : Rs Tr := (termP e f 1 R).bnd fun t R1 => if R1 = [] then .ok t [] else wrongP e 61 R1
end Go.Proofs.YtkfeghminmhokaaDoor
