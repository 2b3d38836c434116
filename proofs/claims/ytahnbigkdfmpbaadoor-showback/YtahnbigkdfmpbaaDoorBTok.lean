/- For ShowBack: the tokens of a tree's text. -/
import Derived.Test.YtahnbigkdfmpbaaDoorBLex
import Derived.Test.YtahnbigkdfmpbaaDoorSPart
namespace Go.Proofs.YtahnbigkdfmpbaaDoor
set_option linter.unusedVariables false
set_option linter.unusedSimpArgs false

def sg (l : Bs) : Kt := (2, l)
def nk (l : Bs) : Kt := (1, l)
def partKR (line : Sx → List Kt) (pl : Nat) (t : Sx) : List Kt := if needB t pl then sg [40] :: (line t ++ [sg [41]]) else line t
def arrowK (line : Sx → List Kt) (t : Sx) (sign : Bs) : List Kt :=
  if t.names = [] then partKR line 1 (kd t 0) ++ (sg sign :: partKR line 0 (kd t 1))
  else sg [40] :: nk (t.names.headD []) :: sg [58] :: (partKR line 0 (kd t 0) ++ (sg [41] :: sg sign :: partKR line 0 (kd t 1)))
/-- The texts' tokens, with a sign between. -/
def jnK (sep : Kt) : List (List Kt) → List Kt
  | [] => []
  | x :: l => x ++ (l.map fun y => sep :: y).flatten
def lineKR (line : Sx → List Kt) (t : Sx) : List Kt :=
  if t.kind = 1 then [nk t.name]
  else if t.kind = 17 then [sg t.name]
  else if t.kind = 2 then sg [92] :: (t.names.map nk ++ (sg [46] :: partKR line 0 (kd t 0)))
  else if t.kind = 3 then sg [60] :: (t.names.map nk ++ (sg [62] :: partKR line 0 (kd t 0)))
  else if t.kind = 4 then arrowK line t [45, 62]
  else if t.kind = 5 then arrowK line t [42]
  else if t.kind = 6 then partKR line 2 (kd t 0) ++ partKR line 3 (kd t 1)
  else if t.kind = 7 then partKR line 2 (kd t 0) ++ (sg [64] :: partKR line 6 (kd t 1))
  else if t.kind = 8 then sg [40] :: (partKR line 0 (kd t 0) ++ (sg [44] :: (partKR line 0 (kd t 1) ++ [sg [41]])))
  else if t.kind = 9 then sg [40] :: (partKR line 0 (kd t 0) ++ (sg [58] :: (partKR line 0 (kd t 1) ++ [sg [41]])))
  else if t.kind = 10 then sg [91] :: (jnK (sg [44]) (t.kids.map line) ++ [sg [93]])
  else if t.kind = 11 then line (kd t 0) ++ (if t.kids.length = 2 then sg [45, 62] :: partKR line 0 (kd t 1) else [])
  else if t.kind = 12 then (if t.kids = [] then [sg [49]] else (t.kids.map line).flatten)
  else if t.kind = 13 then [sg [40], nk t.name, sg [61], sg (t.names.headD []), sg [41]]
  else if t.kind = 14 then partKR line 4 (kd t 0) ++ (sg [92, 47] :: partKR line 5 (kd t 1))
  else if t.kind = 15 then partKR line 5 (kd t 0) ++ (sg [47, 92] :: partKR line 6 (kd t 1))
  else if t.kind = 16 then sg [126] :: partKR line 6 (kd t 0)
  else []
def lineK : Nat → Sx → List Kt
  | 0, _ => []
  | f + 1, t => lineKR (lineK f) t
def partK (f pl : Nat) (t : Sx) : List Kt := partKR (lineK f) pl t
/-- A text that scans to these tokens, whatever follows. -/
def LxOK (l : Bs) (ks : List Kt) : Prop := ∀ r us, Brk r → Sc r us → Sc (l ++ r) (ks ++ us)
theorem brk_of {c : UInt8} (r : Bs) (h : letterB c = false ∧ digitB c = false) : Brk (c :: r) := fun d t e => by injection e with e _; rw [← e]; exact h
theorem lx_part {f pl : Nat} {t : Sx} (h : LxOK (lineF f t) (lineK f t)) : LxOK (partF f pl t) (partK f pl t) := by
  intro r us hr hs
  unfold partF partK partR partKR
  split
  · have := h (41 :: r) (sg [41] :: us) (brk_of r (by decide)) (sc_shut hs)
    have := sc_open this
    simpa [sg] using this
  · exact h r us hr hs
theorem sc_names {ns : List Bs} (h : ns.all nameB = true) (h0 : ns ≠ []) : LxOK (jn [32] ns) (ns.map nk) := by
  match ns, h0 with
  | x :: l, _ =>
    rw [List.all_cons, Bool.and_eq_true] at h
    intro r us hr hs
    have tail : ∀ m : List Bs, m.all nameB = true → Sc ((m.map fun y => [32] ++ y).flatten ++ r) (m.map nk ++ us) ∧ Brk ((m.map fun y => [32] ++ y).flatten ++ r) := by
      intro m
      induction m with
      | nil => intro _; exact ⟨by simpa using hs, by simpa using hr⟩
      | cons y m ih =>
        intro hm
        rw [List.all_cons, Bool.and_eq_true] at hm
        obtain ⟨h1, h2⟩ := ih hm.2
        refine ⟨?_, ?_⟩
        · have := sc_gap (sc_name hm.1 h2 h1)
          simpa [nk] using this
        · have := brk_of (y ++ ((m.map fun y => [32] ++ y).flatten ++ r)) (c := 32) (by decide)
          simpa using this
    obtain ⟨h1, h2⟩ := tail l h.2
    have := sc_name h.1 h2 h1
    simpa [jn, nk] using this
end Go.Proofs.YtahnbigkdfmpbaaDoor
