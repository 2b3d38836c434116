/- The plain mathematics of layer 8: trees of any kinds, which of them may be, and their texts. -/
import Derived.Test.YtahnbigkdfmpbaaDoorLMathC
namespace Go.Proofs.YtahnbigkdfmpbaaDoor
set_option linter.unusedVariables false
set_option linter.unusedSimpArgs false

/-- A tree of any kind: kind, name, parts, names, place. -/
structure Sx where
  mk ::
  kind : Int
  name : Bs
  kids : List Sx
  names : List Bs
  at_ : Int
theorem Sx.ind {P : Sx → Prop} (h : ∀ k n kids ns a, (∀ x ∈ kids, P x) → P (.mk k n kids ns a)) : ∀ t, P t
  | .mk k n kids ns a => h k n kids ns a (fun x hx => Sx.ind h x)
def zS : Sx := .mk 0 [] [] [] 0
/-- How many parts and bytes. -/
def blk : Sx → Nat
  | .mk _ n kids ns _ => 1 + n.length + (ns.map fun s => 1 + s.length).sum + (kids.map fun x => blk x).sum
def blkN (ns : List Bs) : Nat := (ns.map fun s => 1 + s.length).sum
def blkK (l : List Sx) : Nat := (l.map blk).sum
theorem blk_mk (k : Int) (n : Bs) (kids : List Sx) (ns : List Bs) (a : Int) : blk (.mk k n kids ns a) = 1 + n.length + blkN ns + blkK kids := by rw [blk]; rfl
theorem blk_pos (t : Sx) : 1 ≤ blk t := by cases t; rw [blk_mk]; omega
theorem sum_mem {l : List Nat} {x : Nat} (h : x ∈ l) : x ≤ l.sum := by
  induction l with
  | nil => cases h
  | cons a l ih =>
    rw [List.sum_cons]
    rcases List.mem_cons.1 h with rfl | h
    · omega
    · have := ih h; omega
theorem blk_kid {t x : Sx} (h : x ∈ t.kids) : blk x < blk t := by
  obtain ⟨k, n, kids, ns, a⟩ := t
  rw [blk_mk]
  have := sum_mem (List.mem_map_of_mem (f := blk) h)
  have e : blkK kids = (kids.map blk).sum := rfl
  simp only at this
  omega
theorem blk_name (t : Sx) : t.name.length < blk t := by obtain ⟨k, n, kids, ns, a⟩ := t; rw [blk_mk]; simp only; omega
theorem blk_names {t : Sx} {s : Bs} (h : s ∈ t.names) : s.length < blk t := by
  obtain ⟨k, n, kids, ns, a⟩ := t
  rw [blk_mk]
  have := sum_mem (List.mem_map_of_mem (f := fun s : Bs => 1 + s.length) h)
  have e : blkN ns = (ns.map fun s => 1 + s.length).sum := rfl
  simp only at this
  omega
theorem sum_len {α : Type} (f : α → Nat) (hf : ∀ a, 1 ≤ f a) (l : List α) : l.length ≤ (l.map f).sum := by
  induction l with
  | nil => simp
  | cons a l ih => have := hf a; simp; omega
theorem blk_nlen (t : Sx) : t.names.length < blk t := by
  obtain ⟨k, n, kids, ns, a⟩ := t
  rw [blk_mk]
  have := sum_len (fun s : Bs => 1 + s.length) (fun _ => by omega) ns
  have e : blkN ns = (ns.map fun s => 1 + s.length).sum := rfl
  simp only
  omega
theorem blk_klen (t : Sx) : t.kids.length < blk t := by
  obtain ⟨k, n, kids, ns, a⟩ := t
  rw [blk_mk]
  have := sum_len blk blk_pos kids
  have e : blkK kids = (kids.map blk).sum := rfl
  simp only
  omega

/-! ### names -/
def nameB : Bs → Bool
  | [] => false
  | c :: l => letterB c && l.all (fun c => letterB c || digitB c)
def digB (s : Bs) : Bool := decide (s = [48]) || decide (s = [49])
theorem word_all (l : Bs) : (l.take (wordN l)).all (fun c => letterB c || digitB c) = true := by
  induction l with
  | nil => rfl
  | cons c t ih =>
    rw [wordN]
    by_cases h : (letterB c || digitB c) = true
    · rw [if_pos h, Nat.add_comm, List.take_succ_cons, List.all_cons, ih, h]; rfl
    · rw [if_neg h]; rfl
theorem all_word (l : Bs) (h : l.all (fun c => letterB c || digitB c) = true) : wordN l = l.length := by
  induction l with
  | nil => rfl
  | cons c t ih =>
    rw [List.all_cons, Bool.and_eq_true] at h
    rw [wordN, if_pos h.1, ih h.2, List.length_cons]; omega
theorem name_take {l : Bs} (h : 0 < nameN l) : nameB (l.take (nameN l)) = true := by
  obtain ⟨c, t, rfl, hc⟩ := (nameN_pos l).1 h
  have e : nameN (c :: t) = wordN t + 1 := by rw [nameN, if_pos hc]; omega
  rw [e, List.take_succ_cons, nameB, hc, word_all]; rfl
theorem nameB_form {s : Bs} (h : nameB s = true) : ∃ c t, s = c :: t ∧ letterB c = true ∧ t.all (fun c => letterB c || digitB c) = true := by
  cases s with
  | nil => cases h
  | cons c t =>
    rw [nameB, Bool.and_eq_true] at h
    exact ⟨c, t, rfl, h.1, h.2⟩
theorem nameB_len {s : Bs} (h : nameB s = true) : nameN s = s.length := by
  obtain ⟨c, t, rfl, h1, h2⟩ := nameB_form h
  rw [nameN, if_pos h1, all_word t h2, List.length_cons]; omega
theorem letter_ascii {c : UInt8} (h : (letterB c || digitB c) = true) : c.toNat < 128 := by
  unfold letterB digitB at h
  simp at h
  omega
theorem name_ascii {s : Bs} (h : nameB s = true) : ∀ x ∈ s, x.toNat < 128 := by
  obtain ⟨c, t, rfl, h1, h2⟩ := nameB_form h
  intro x hx
  rcases List.mem_cons.1 hx with rfl | hx
  · exact letter_ascii (by rw [h1]; rfl)
  · exact letter_ascii (List.all_eq_true.1 h2 x hx)
theorem scan_name {s : Bs} (h : nameB s = true) (hl : s.length ≤ 65536) : scanF s = ([⟨1, s, 0⟩, ⟨0, [], s.length⟩], 0, 0) := by
  have hn := nameB_len h
  obtain ⟨c, t, hs, h1, h2⟩ := nameB_form h
  have hU := utfP_ascii (s.length + 1) s (by omega) (name_ascii h)
  have hp : passN false s = 0 := by rw [hs]; exact letter_pass h1
  have hpos : 0 < s.length := by rw [hs]; simp
  have ht : tokN s = s.length := by rw [tokN, if_pos (by omega), hn]
  unfold scanF
  rw [if_neg (by omega), if_neg (by omega), hp, List.drop_zero, scanP_tok _ _ _ (by rw [hs]; simp) (by omega), ht, List.take_length, List.drop_length]
  have hk : kindN s = 1 := by rw [kindN, if_pos (by omega)]
  rw [hk]
  obtain ⟨m, hm⟩ : ∃ m, s.length = m + 1 := ⟨s.length - 1, by omega⟩
  have : scanQ s.length (0 + s.length) [] = .inr [⟨0, [], s.length⟩] := by
    rw [scanQ, hm, List.drop_nil, scanP_nil]; simp [passN]
  rw [this]; rfl
/-- A text is a name just if its one token is, but for the end. -/
theorem named_back {s : Bs} {t0 t1 : Tok} {p : Nat} (h : scanF s = ([t0, t1], p, 0)) (hk : t0.kind = 1) (ht : t0.text = s) : nameB s = true := by
  obtain ⟨_, _, hq, _⟩ := scanF_ok (s := s) (by rw [h])
  rw [h, scanQ] at hq
  generalize hl : s.drop (passN false s) = l at hq
  simp only at hq
  by_cases hl0 : l = []
  · subst hl0
    rw [scanP_nil] at hq
    injection hq with hq
    cases hq
  · by_cases ht0 : tokN l = 0
    · rw [scanP_bad _ _ _ hl0 ht0] at hq; cases hq
    · rw [scanP_tok _ _ _ hl0 ht0] at hq
      obtain ⟨u, _, hu⟩ := finR_right hq
      injection hu with hu _
      subst hu
      simp only at hk ht
      have hpos : 0 < nameN l := by
        unfold kindN at hk
        by_cases h0 : 0 < nameN l
        · exact h0
        · rw [if_neg h0] at hk; omega
      rw [tokN, if_pos hpos] at ht
      rw [← ht]
      exact name_take hpos

/-! ### which trees may be -/
def namelessB (t : Sx) : Bool := decide (t.name = []) && decide (t.names = [])
def nameTreeB (t : Sx) : Bool := nameB t.name && (decide (t.names = []) && decide (t.kids = []))
def areB (ok : Nat → Sx → Bool) : List Sx → List Nat → Bool
  | [], [] => true
  | k :: ks, g :: gs => ok g k && areB ok ks gs
  | [], _ :: _ => false
  | _ :: _, [] => false
def termB (ok : Nat → Sx → Bool) (t : Sx) : Bool :=
  if t.kind = 1 then nameTreeB t
  else if t.kind = 2 ∨ t.kind = 3 then decide (t.name = []) && (decide (t.names ≠ []) && (t.names.all nameB && areB ok t.kids [0]))
  else if t.kind = 4 ∨ t.kind = 5 then decide (t.name = []) && (decide (t.names.length < 2) && (t.names.all nameB && areB ok t.kids [0, 0]))
  else if t.kind = 6 ∨ t.kind = 8 ∨ t.kind = 9 then namelessB t && areB ok t.kids [0, 0]
  else if t.kind = 7 then namelessB t && areB ok t.kids [0, 1]
  else if t.kind = 10 then namelessB t && t.kids.all (ok 2)
  else false
def dimB (ok : Nat → Sx → Bool) (t : Sx) : Bool :=
  if t.kind = 1 then nameTreeB t
  else if t.kind = 17 then digB t.name && (decide (t.names = []) && decide (t.kids = []))
  else if t.kind = 16 then namelessB t && areB ok t.kids [1]
  else if t.kind = 15 ∨ t.kind = 14 then namelessB t && areB ok t.kids [1, 1]
  else false
def elemB (ok : Nat → Sx → Bool) (t : Sx) : Bool := decide (t.kind = 11) && (namelessB t && (areB ok t.kids [3] || areB ok t.kids [3, 0]))
def faceB (ok : Nat → Sx → Bool) (t : Sx) : Bool := decide (t.kind = 12) && (namelessB t && t.kids.all (ok 4))
def digitsB (l : List Bs) : Bool := match l with | [d] => digB d | _ => false
def eqB (t : Sx) : Bool := decide (t.kind = 13) && (nameB t.name && (digitsB t.names && decide (t.kids = [])))
/-- By which rule: 0 a term's, 1 a dim's, 2 an elem's, 3 a face's, 4 an eq's. -/
def okR (ok : Nat → Sx → Bool) (g : Nat) (t : Sx) : Bool :=
  if g = 0 then termB ok t else if g = 1 then dimB ok t else if g = 2 then elemB ok t else if g = 3 then faceB ok t else eqB t
def okF : Nat → Nat → Sx → Bool
  | 0, _, _ => false
  | f + 1, g, t => okR (okF f) g t
theorem okF_z (g : Nat) (t : Sx) : okF 0 g t = false := rfl
theorem okF_s (f g : Nat) (t : Sx) : okF (f + 1) g t = okR (okF f) g t := rfl
theorem are_congr {ok ok' : Nat → Sx → Bool} {l : List Sx} (h : ∀ g, ∀ x ∈ l, ok g x = ok' g x) (gs : List Nat) : areB ok l gs = areB ok' l gs := by
  induction l generalizing gs with
  | nil => cases gs <;> rfl
  | cons x l ih =>
    cases gs with
    | nil => rfl
    | cons g gs => rw [areB, areB, h g x (by simp), ih (fun g y hy => h g y (by simp [hy]))]
theorem all_congr {ok ok' : Nat → Sx → Bool} {l : List Sx} (h : ∀ g, ∀ x ∈ l, ok g x = ok' g x) (g : Nat) : l.all (ok g) = l.all (ok' g) := by
  induction l with
  | nil => rfl
  | cons x l ih => rw [List.all_cons, List.all_cons, h g x (by simp), ih (fun g y hy => h g y (by simp [hy]))]
theorem okR_congr {ok ok' : Nat → Sx → Bool} {t : Sx} (h : ∀ g, ∀ x ∈ t.kids, ok g x = ok' g x) (g : Nat) : okR ok g t = okR ok' g t := by
  unfold okR termB dimB elemB faceB
  rw [are_congr h, are_congr h, are_congr h, are_congr h, are_congr h, are_congr h, are_congr h, all_congr h, all_congr h]
/-- With fuel that is enough it is the same. -/
theorem okF_fuel : ∀ (f g h : Nat) (t : Sx), blk t ≤ f → blk t ≤ h → okF f g t = okF h g t := by
  intro f
  induction f with
  | zero => intro g h t ht; have := blk_pos t; omega
  | succ f ih =>
    intro g h t ht hh
    obtain ⟨h, rfl⟩ : ∃ k, h = k + 1 := ⟨h - 1, by have := blk_pos t; omega⟩
    rw [okF_s, okF_s]
    exact okR_congr (fun g x hx => ih g h x (by have := blk_kid hx; omega) (by have := blk_kid hx; omega)) g

/-! ### texts -/
def lastP (k : Int) : Nat :=
  if k = 2 ∨ k = 3 ∨ k = 4 ∨ k = 5 then 0 else if k = 6 ∨ k = 7 then 2 else if k = 8 ∨ k = 9 ∨ k = 10 then 3 else if k = 14 then 4 else if k = 15 then 5 else 6
def frontB (t : Sx) : Bool := decide (t.kind = 9) && (match t.kids with | a :: _ => decide (a.kind = 1) | [] => false)
def needB (t : Sx) (pl : Nat) : Bool := decide (lastP t.kind < pl) || (decide (pl = 1) && frontB t)
def partR (line : Sx → Bs) (pl : Nat) (t : Sx) : Bs := if needB t pl then 40 :: (line t ++ [41]) else line t
def kd (t : Sx) (j : Nat) : Sx := t.kids.getD j zS
def jn (sep : Bs) : List Bs → Bs
  | [] => []
  | x :: l => x ++ (l.map fun y => sep ++ y).flatten
def arrowR (line : Sx → Bs) (t : Sx) (sign : Bs) : Bs :=
  if t.names = [] then partR line 1 (kd t 0) ++ (sign ++ partR line 0 (kd t 1))
  else 40 :: (t.names.headD [] ++ ([32, 58, 32] ++ (partR line 0 (kd t 0) ++ (41 :: (sign ++ partR line 0 (kd t 1))))))
def elemR (line : Sx → Bs) (t : Sx) : Bs := line (kd t 0) ++ (if t.kids.length = 2 then [32, 45, 62, 32] ++ partR line 0 (kd t 1) else [])
def faceR (line : Sx → Bs) (t : Sx) : Bs := if t.kids = [] then [49] else (t.kids.map line).flatten
def eqR (t : Sx) : Bs := 40 :: (t.name ++ (61 :: (t.names.headD [] ++ [41])))
def lineR (line : Sx → Bs) (t : Sx) : Bs :=
  if t.kind = 1 ∨ t.kind = 17 then t.name
  else if t.kind = 2 then 92 :: (jn [32] t.names ++ ([46, 32] ++ partR line 0 (kd t 0)))
  else if t.kind = 3 then 60 :: (jn [32] t.names ++ ([62, 32] ++ partR line 0 (kd t 0)))
  else if t.kind = 4 then arrowR line t [32, 45, 62, 32]
  else if t.kind = 5 then arrowR line t [32, 42, 32]
  else if t.kind = 6 then partR line 2 (kd t 0) ++ ([32] ++ partR line 3 (kd t 1))
  else if t.kind = 7 then partR line 2 (kd t 0) ++ ([32, 64, 32] ++ partR line 6 (kd t 1))
  else if t.kind = 8 then 40 :: (partR line 0 (kd t 0) ++ ([44, 32] ++ (partR line 0 (kd t 1) ++ [41])))
  else if t.kind = 9 then 40 :: (partR line 0 (kd t 0) ++ ([32, 58, 32] ++ (partR line 0 (kd t 1) ++ [41])))
  else if t.kind = 10 then 91 :: (jn [44, 32] (t.kids.map line) ++ [93])
  else if t.kind = 11 then elemR line t
  else if t.kind = 12 then faceR line t
  else if t.kind = 13 then eqR t
  else if t.kind = 14 then partR line 4 (kd t 0) ++ ([32, 92, 47, 32] ++ partR line 5 (kd t 1))
  else if t.kind = 15 then partR line 5 (kd t 0) ++ ([32, 47, 92, 32] ++ partR line 6 (kd t 1))
  else if t.kind = 16 then 126 :: partR line 6 (kd t 0)
  else []
def lineF : Nat → Sx → Bs
  | 0, _ => []
  | f + 1, t => lineR (lineF f) t
theorem lineF_z (t : Sx) : lineF 0 t = [] := rfl
theorem lineF_s (f : Nat) (t : Sx) : lineF (f + 1) t = lineR (lineF f) t := rfl
def partF (f pl : Nat) (t : Sx) : Bs := partR (lineF f) pl t
def declR (f : Nat) (t : Sx) : Bs := t.name ++ ([32, 58, 32] ++ (partF f 0 (kd t 0) ++ ([32, 61, 32] ++ (partF f 0 (kd t 1) ++ [59, 10]))))
def declB (f : Nat) (t : Sx) : Bool := decide (t.kind = 18) && (nameB t.name && (decide (t.names = []) && areB (okF f) t.kids [0, 0]))
/-- At most one byte beyond the greatest length. -/
def cut (l : Bs) : Bs := l.take 65537
theorem cut_cut (a b : Bs) : cut (cut a ++ b) = cut (a ++ b) := by
  unfold cut
  rw [List.take_append, List.take_append, List.take_take, List.length_take]
  congr 1
  rcases Nat.le_total 65537 a.length with h | h
  · rw [Nat.min_eq_left h]; simp; omega
  · rw [Nat.min_eq_right h]
theorem cut_len (a : Bs) : (cut a).length ≤ 65537 := by unfold cut; rw [List.length_take]; omega
theorem cut_self {a : Bs} (h : a.length ≤ 65537) : cut a = a := List.take_of_length_le h
theorem cut_full {a b : Bs} (h : 65536 < (cut a).length) : cut (a ++ b) = cut a := by
  have : 65537 ≤ a.length := by unfold cut at h; rw [List.length_take] at h; omega
  unfold cut
  rw [List.take_append_of_le_length this]
theorem cut_big (a : Bs) : (65536 < (cut a).length) ↔ 65536 < a.length := by unfold cut; rw [List.length_take]; omega
theorem cut_nil : cut [] = [] := rfl
/-- What is told of a text. -/
def toldF (s : Bs) : Bs × Nat := if 65536 < s.length then ([], 3) else (s, 0)
theorem told_cut (a : Bs) : toldF (cut a) = toldF a := by
  unfold toldF
  by_cases h : 65536 < a.length
  · rw [if_pos ((cut_big a).2 h), if_pos h]
  · rw [if_neg (fun h2 => h ((cut_big a).1 h2)), if_neg h, cut_self (by omega)]
def termT (f : Nat) (t : Sx) : Bs × Nat := if okF f 0 t then toldF (partF f 0 t) else ([], 61)
def fileT (f : Nat) (l : List Sx) : Bs × Nat := if l.all (declB f) then toldF ((l.map (declR f)).flatten) else ([], 61)
theorem part0 (line : Sx → Bs) (t : Sx) : partR line 0 t = line t := by
  unfold partR needB
  rw [if_neg]
  simp
end Go.Proofs.YtahnbigkdfmpbaaDoor
