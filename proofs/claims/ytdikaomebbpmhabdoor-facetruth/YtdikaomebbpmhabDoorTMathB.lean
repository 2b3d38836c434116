/- Plain mathematics for the layer truth: rows of values in their order, the first row at which two formulas differ, and that formulas are their values. Nothing of the program is imported. -/
import Derived.Test.YtdikaomebbpmhabDoorTMath
namespace Go.Proofs.YtdikaomebbpmhabDoor
set_option linter.unusedVariables false
set_option linter.unusedSimpArgs false

/-- A dimension's value: of a row of numbers. -/
def atZ (l : List Int) (i : Nat) : Int := l[i]?.getD 0
def atN (l : List Nat) (i : Nat) : Int := ((l[i]?.getD 0 : Nat) : Int)
theorem atZ_map (l : List Nat) (i : Nat) : atZ (l.map Int.ofNat) i = atN l i := by
  unfold atZ atN
  rw [List.getElem?_map]
  cases l[i]? <;> rfl
def gN (l : List Nat) (i : Nat) : Nat := l[i]?.getD 0

/-- The next row, and whether there is one. -/
def turnL : List Nat → List Nat → List Nat × Bool
  | row, [] => (row, false)
  | row, i :: ds => if gN row i < 3 then (row.set i (gN row i + 1), true) else turnL (row.set i 0) ds
/-- A row's place in the order. -/
def numL (row : List Nat) : List Nat → Nat
  | [] => 0
  | i :: ds => gN row i + 4 * numL row ds
/-- A row of values. -/
structure Good (size : Nat) (row : List Nat) : Prop where
  len : row.length = size
  le : ∀ i, gN row i ≤ 3
theorem gN_set {row : List Nat} {i k x : Nat} : gN (row.set i x) k = if i = k then (if i < row.length then x else 0) else gN row k := by
  unfold gN
  rw [List.getElem?_set]
  by_cases h : i = k
  · subst h
    by_cases h2 : i < row.length
    · simp [h2]
    · simp [h2]
  · simp [h]
theorem Good.set {size : Nat} {row : List Nat} (h : Good size row) {i x : Nat} (hx : x ≤ 3) : Good size (row.set i x) :=
  ⟨by simp [h.len], fun k => by
    rw [gN_set]
    split
    · split <;> omega
    · exact h.le k⟩
theorem numL_off {row : List Nat} {i x : Nat} : ∀ {ds : List Nat}, i ∉ ds → numL (row.set i x) ds = numL row ds
  | [], _ => rfl
  | k :: ds, h => by
    have h1 : i ≠ k := fun e => h (by simp [e])
    have h2 : i ∉ ds := fun e => h (by simp [e])
    simp only [numL]
    rw [numL_off h2, gN_set, if_neg h1]
theorem numL_lt {size : Nat} {row : List Nat} (h : Good size row) : ∀ (ds : List Nat), numL row ds < 4 ^ ds.length
  | [] => by simp [numL]
  | i :: ds => by
    have h1 := numL_lt h ds
    have h2 := h.le i
    simp only [numL, List.length_cons, Nat.pow_succ]
    omega
theorem turnL_good {size : Nat} : ∀ {ds row : List Nat}, Good size row → Good size (turnL row ds).1
  | [], row, h => h
  | i :: ds, row, h => by
    unfold turnL
    split
    · exact h.set (by omega)
    · exact turnL_good (h.set (by omega))
theorem turnL_yes {size : Nat} : ∀ {ds row : List Nat}, Good size row → ds.Nodup → (∀ i ∈ ds, i < size) → (turnL row ds).2 = true → numL (turnL row ds).1 ds = numL row ds + 1
  | [], row, h, _, _, ht => by simp [turnL] at ht
  | i :: ds, row, h, hn, hd, ht => by
    have hi : i < row.length := by rw [h.len]; exact hd i (by simp)
    have hnd := List.nodup_cons.1 hn
    unfold turnL at ht ⊢
    by_cases hc : gN row i < 3
    · rw [if_pos hc] at ht ⊢
      simp only [numL]
      rw [numL_off hnd.1, gN_set, if_pos rfl, if_pos hi]
      omega
    · rw [if_neg hc] at ht ⊢
      have ih := turnL_yes (h.set (i := i) (x := 0) (by omega)) hnd.2 (fun k hk => hd k (by simp [hk])) ht
      rw [numL_off hnd.1] at ih
      have h3 : gN (turnL (row.set i 0) ds).1 i = 0 := by
        have key : ∀ (ds : List Nat) (row : List Nat), i ∉ ds → gN (turnL row ds).1 i = gN row i := by
          intro ds
          induction ds with
          | nil => intro row _; rfl
          | cons k ds ih =>
            intro row hk
            have h1 : ¬ k = i := fun e => hk (by simp [e])
            have h2 : i ∉ ds := fun e => hk (by simp [e])
            unfold turnL
            split
            · rw [gN_set, if_neg h1]
            · rw [ih _ h2, gN_set, if_neg h1]
        rw [key ds _ hnd.1, gN_set, if_pos rfl, if_pos hi]
      have h4 := h.le i
      simp only [numL]
      rw [ih, h3]
      omega
theorem turnL_no {size : Nat} : ∀ {ds row : List Nat}, Good size row → ds.Nodup → (turnL row ds).2 = false → numL row ds + 1 = 4 ^ ds.length
  | [], row, h, _, _ => by simp [numL]
  | i :: ds, row, h, hn, ht => by
    have hnd := List.nodup_cons.1 hn
    unfold turnL at ht
    by_cases hc : gN row i < 3
    · rw [if_pos hc] at ht; exact absurd ht (by simp)
    · rw [if_neg hc] at ht
      have ih := turnL_no (h.set (i := i) (x := 0) (by omega)) hnd.2 ht
      rw [numL_off hnd.1] at ih
      have h4 := h.le i
      simp only [numL, List.length_cons, Nat.pow_succ]
      omega
theorem numL_inj {size : Nat} {row t : List Nat} (h : Good size row) (h' : Good size t) : ∀ {ds : List Nat}, numL row ds = numL t ds → ∀ i ∈ ds, gN row i = gN t i
  | [], _, i, hi => by simp at hi
  | k :: ds, e, i, hi => by
    simp only [numL] at e
    have h1 := h.le k
    have h2 := h'.le k
    have e1 : gN row k = gN t k := by omega
    have e2 : numL row ds = numL t ds := by omega
    rcases List.mem_cons.1 hi with rfl | hi
    · exact e1
    · exact numL_inj h h' e2 i hi

/-- From a row on: the first one at which the two have unlike values, nothing if there is none. -/
def tellN (f g : List C) (ds : List Nat) : Nat → List Nat → List Nat
  | 0, _ => []
  | m + 1, row => if evF f (atN row) ds = evF g (atN row) ds then (if (turnL row ds).2 then tellN f g ds m (turnL row ds).1 else []) else row
theorem tellN_hit {f g : List C} {ds row : List Nat} {m : Nat} (hm : 0 < m) (h : evF f (atN row) ds ≠ evF g (atN row) ds) : tellN f g ds m row = row := by
  obtain ⟨k, rfl⟩ : ∃ k, m = k + 1 := ⟨m - 1, by omega⟩
  unfold tellN; rw [if_neg h]
theorem tellN_on {f g : List C} {ds row : List Nat} {m : Nat} (h : evF f (atN row) ds = evF g (atN row) ds) (ht : (turnL row ds).2 = true) : tellN f g ds (m + 1) row = tellN f g ds m (turnL row ds).1 := by
  show (if _ then _ else _) = _
  rw [if_pos h, if_pos ht]
theorem tellN_end {f g : List C} {ds row : List Nat} {m : Nat} (h : evF f (atN row) ds = evF g (atN row) ds) (ht : (turnL row ds).2 = false) : tellN f g ds m row = [] := by
  cases m with
  | zero => rfl
  | succ m =>
    show (if _ then _ else _) = _
    rw [if_pos h, ht]; rfl
/-- How long a row is. -/
def sizeD (ds : List Nat) : Nat := match ds.getLast? with
  | some k => k + 1
  | none => 1
theorem sizeD_pos (ds : List Nat) : 0 < sizeD ds := by unfold sizeD; split <;> omega
theorem sizeD_gt {ds : List Nat} (hs : ds.Pairwise (· < ·)) : ∀ i ∈ ds, i < sizeD ds := by
  intro i hi
  unfold sizeD
  induction ds using snoc_ind with
  | nil => simp at hi
  | snoc ds k _ =>
    rw [List.getLast?_concat]
    show i < k + 1
    rcases List.mem_append.1 hi with h | h
    · have := (List.pairwise_append.1 hs).2.2 i h k (by simp)
      omega
    · obtain rfl : i = k := by simpa using h
      omega
theorem sizeD_le {ds : List Nat} (h : ∀ i ∈ ds, i < 24) : sizeD ds ≤ 24 := by
  unfold sizeD
  cases e : ds.getLast? with
  | none => show 1 ≤ 24; omega
  | some k => have := h k (List.mem_of_getLast? e); show k + 1 ≤ 24; omega
def dimsFG (f g : List C) : List Nat := dimsOf (dimsN f ||| dimsN g)
def row0 (ds : List Nat) : List Nat := List.replicate (sizeD ds) 0
theorem row0_good (ds : List Nat) : Good (sizeD ds) (row0 ds) := ⟨by simp [row0], fun i => by
  unfold gN row0
  rw [List.getElem?_replicate]
  split <;> simp⟩
theorem row0_num (ds : List Nat) : ∀ l : List Nat, numL (row0 ds) l = 0
  | [] => rfl
  | i :: l => by
    have : gN (row0 ds) i = 0 := by
      unfold gN row0
      rw [List.getElem?_replicate]
      split <;> rfl
    simp only [numL]; rw [this, row0_num ds l]
def tellR (f g : List C) : List Nat := tellN f g (dimsFG f g) (4 ^ (dimsFG f g).length) (row0 (dimsFG f g))
/-- Where two formulas have unlike values; nothing, if nowhere; or why that is not told. -/
def tellF (f g : List C) : List Nat × Int := if rightF f && rightF g then (if 5 < (dimsFG f g).length then ([], 3) else (tellR f g, 0)) else ([], 2)
def sameV (f g : List C) : Bool := decide ((tellF f g).2 = 0) && decide ((tellF f g).1 = [])

theorem tellN_len {size : Nat} {f g : List C} {ds : List Nat} : ∀ {m : Nat} {row : List Nat}, Good size row → tellN f g ds m row = [] ∨ (tellN f g ds m row).length = size
  | 0, row, h => .inl rfl
  | m + 1, row, h => by
    by_cases e : evF f (atN row) ds = evF g (atN row) ds
    · cases ht : (turnL row ds).2
      · exact .inl (tellN_end e ht)
      · rw [tellN_on e ht]; exact tellN_len (turnL_good h)
    · rw [tellN_hit (by omega) e]; exact .inr h.len
theorem tellF_len (f g : List C) : (tellF f g).1.length ≤ 24 := by
  unfold tellF
  split
  · split
    · simp
    · unfold tellR
      rcases tellN_len (f := f) (g := g) (ds := dimsFG f g) (m := 4 ^ (dimsFG f g).length) (row0_good (dimsFG f g)) with h | h
      · show (tellN _ _ _ _ _).length ≤ 24
        rw [h]; simp
      · show (tellN _ _ _ _ _).length ≤ 24
        rw [h]; exact sizeD_le dimsOf_lt
  · simp
theorem tellN_self (f : List C) (ds : List Nat) : ∀ (m : Nat) (row : List Nat), tellN f f ds m row = []
  | 0, _ => rfl
  | m + 1, row => by
    cases ht : (turnL row ds).2
    · exact tellN_end rfl ht
    · rw [tellN_on rfl ht]; exact tellN_self f ds m _
theorem atN_gN (row : List Nat) (i : Nat) : atN row i = ((gN row i : Nat) : Int) := rfl
theorem tellN_none {size : Nat} {f g : List C} {ds : List Nat} (hn : ds.Nodup) (hd : ∀ i ∈ ds, i < size) (h0 : 0 < size) {t : List Nat} (ht : Good size t) :
    ∀ {m : Nat} {row : List Nat}, Good size row → m + numL row ds = 4 ^ ds.length → numL row ds ≤ numL t ds → tellN f g ds m row = [] → evF f (atN t) ds = evF g (atN t) ds
  | 0, row, h, hm, _, _ => by have := numL_lt h ds; omega
  | m + 1, row, h, hm, hle, he => by
    by_cases e : evF f (atN row) ds = evF g (atN row) ds
    · by_cases hnum : numL row ds = numL t ds
      · have hag := numL_inj h ht hnum
        have hv : ∀ i ∈ ds, atN row i = atN t i := fun i hi => by rw [atN_gN, atN_gN, hag i hi]
        rw [← evF_at hv, ← evF_at hv]; exact e
      · cases hT : (turnL row ds).2
        · have h1 := turnL_no h hn hT
          have h2 := numL_lt ht ds
          omega
        · rw [tellN_on e hT] at he
          have h1 := turnL_yes h hn hd hT
          exact tellN_none hn hd h0 ht (turnL_good h) (by omega) (by omega) he
    · rw [tellN_hit (by omega) e] at he
      have := h.len
      rw [he] at this
      simp at this
      omega
/-- Formulas are their values. -/
theorem tellR_none {f g : List C} (hf : rightF f = true) (hg : rightF g = true) (h : tellR f g = []) : f = g := by
  refine rightF_ext hf hg (fun c hc => ?_)
  have hs := dimsOf_sorted (dimsN f ||| dimsN g)
  have hd : ∀ i ∈ dimsFG f g, i < sizeD (dimsFG f g) := sizeD_gt hs
  have hV : ∀ i, 0 ≤ vOf (c.1.val.testBit i) (!c.2.val.testBit i) ∧ vOf (c.1.val.testBit i) (!c.2.val.testBit i) ≤ 3 := fun i => vOf_bd _ _
  have ht : Good (sizeD (dimsFG f g)) ((List.range (sizeD (dimsFG f g))).map (fun i => (vOf (c.1.val.testBit i) (!c.2.val.testBit i)).toNat)) := ⟨by simp, fun i => by
    unfold gN
    rw [List.getElem?_map]
    have := hV i
    cases e : (List.range (sizeD (dimsFG f g)))[i]? with
    | none => simp
    | some k =>
      have := hV k
      simp; omega⟩
  have key := tellN_none (f := f) (g := g) (ds := dimsFG f g) (sorted_nodup hs) hd (sizeD_pos _) ht (row0_good _) (by rw [row0_num]; rfl) (by rw [row0_num]; exact Nat.zero_le _) h
  have hv : ∀ i ∈ dimsFG f g, atN ((List.range (sizeD (dimsFG f g))).map (fun i => (vOf (c.1.val.testBit i) (!c.2.val.testBit i)).toNat)) i = vOf (c.1.val.testBit i) (!c.2.val.testBit i) := fun i hi => by
    have h1 := hd i hi
    have h2 := hV i
    unfold atN
    rw [List.getElem?_map, List.getElem?_range h1]
    simp; omega
  rw [evF_at hv, evF_at hv] at key
  have kA := congrArg pA key
  unfold dimsFG at kA
  rw [Bool.eq_iff_iff, pA_evF dimsOf_lt (hasAll_l f g), pA_evF dimsOf_lt (hasAll_r f g)] at kA
  have eC : ∀ l : List C, dn l (cA (fun i => vOf (c.1.val.testBit i) (!c.2.val.testBit i))) ↔ dn l c := fun l => by
    have : ∀ d : C, belC (cA (fun i => vOf (c.1.val.testBit i) (!c.2.val.testBit i))) d = true ↔ belC c d = true := fun d => by
      unfold cA
      rw [bel_mk, belC_iff]
      simp only [pA_vOf, pB_vOf, Bool.not_not]
      exact ⟨fun h => ⟨fun k hk => (h k hk).1, fun k hk => (h k hk).2⟩, fun h k hk => ⟨h.1 k hk, h.2 k hk⟩⟩
    exact ⟨fun ⟨d, hd, hb⟩ => ⟨d, hd, (this d).1 hb⟩, fun ⟨d, hd, hb⟩ => ⟨d, hd, (this d).2 hb⟩⟩
  rw [eC, eC] at kA
  exact kA
theorem sameV_iff {f g : List C} (h : (tellF f g).2 = 0) : sameV f g = decide (f = g) := by
  have hr : rightF f = true ∧ rightF g = true := by
    unfold tellF at h
    cases hf : rightF f <;> cases hg : rightF g <;> rw [hf, hg] at h <;> first | exact ⟨rfl, rfl⟩ | exact absurd h (show ¬ ((2 : Int) = 0) by decide)
  have h5 : ¬ 5 < (dimsFG f g).length := fun h5 => by
    unfold tellF at h
    rw [hr.1, hr.2] at h
    simp [h5] at h
  have e : tellF f g = (tellR f g, 0) := by
    unfold tellF
    rw [hr.1, hr.2]
    simp [h5]
  unfold sameV
  rw [e, Bool.eq_iff_iff]
  simp only [decide_true, Bool.true_and, decide_eq_true_eq]
  exact ⟨fun x => tellR_none hr.1 hr.2 x, fun x => by subst x; exact tellN_self _ _ _ _⟩
theorem tellF_er (f g : List C) : (tellF f g).2 = 0 ∨ (tellF f g).2 = 2 ∨ (tellF f g).2 = 3 := by
  unfold tellF
  split
  · split
    · exact .inr (.inr rfl)
    · exact .inl rfl
  · exact .inr (.inl rfl)
def evalF (f : List C) (v : Nat → Int) : Int × Int := if rightF f then (valF f v, 0) else (0, 2)
end Go.Proofs.YtdikaomebbpmhabDoor
