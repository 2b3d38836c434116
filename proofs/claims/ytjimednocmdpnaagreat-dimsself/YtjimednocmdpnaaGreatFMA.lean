/- Faces: mathematics. -/
import Derived.Test.YtjimednocmdpnaaGreatMA
namespace Go.Proofs.YtjimednocmdpnaaGreat
set_option linter.unusedVariables false
set_option linter.unusedSimpArgs false

/-! ### clauses that do not clash -/
def calmC (l : List C) : List C := l.filter okC
def singleC (c : C) : Bool := rightC c && okC c
theorem okC_iff {c : C} : okC c = true ↔ ∀ k, k < 24 → ¬ (c.1.val.testBit k = true ∧ c.2.val.testBit k = true) := by
  simp only [okC, clashC, Bool.not_eq_true', decide_eq_false_iff_not, Decidable.not_not]
  constructor
  · intro h k hk ⟨h1, h2⟩
    have := congrArg (fun z => Nat.testBit z k) h
    simp only [Nat.testBit_and, full_bit, h1, h2, hk, decide_true, Bool.and_self, Nat.zero_testBit] at this
    exact absurd this (by simp)
  · intro h
    refine Nat.eq_of_testBit_eq (fun k => ?_)
    simp only [Nat.testBit_and, full_bit, Nat.zero_testBit]
    by_cases hk : k < 24
    · have := h k hk
      cases h1 : c.1.val.testBit k <;> cases h2 : c.2.val.testBit k <;> simp_all
    · simp [hk]
theorem okC_up {c d : C} (h : okC c = true) (hb : belC c d = true) : okC d = true := by
  rw [okC_iff] at h ⊢; rw [belC_iff] at hb
  exact fun k hk x => h k hk ⟨hb.1 k hk x.1, hb.2 k hk x.2⟩
theorem rightA_ok {f : List C} (h : rightA f = true) : ∀ c ∈ f, okC c = true := (rightA_iff.1 h).2
theorem singleC_iff {c : C} : singleC c = true ↔ rightC c = true ∧ okC c = true := by simp [singleC]
theorem mem_calm {l : List C} {c : C} : c ∈ calmC l ↔ c ∈ l ∧ okC c = true := by simp [calmC]
theorem calm_right {l : List C} (h : l.all rightC = true) : (calmC l).all rightC = true := by
  rw [List.all_eq_true] at h ⊢; exact fun c hc => h c (mem_calm.1 hc).1
theorem calm_len (l : List C) : (calmC l).length ≤ l.length := List.length_filter_le _ _
theorem calm_same {l : List C} (h : ∀ c ∈ l, okC c = true) : calmC l = l := List.filter_eq_self.2 h
theorem calm_append (l m : List C) : calmC (l ++ m) = calmC l ++ calmC m := by simp [calmC]
theorem dn_calm {l : List C} {c : C} (h : okC c = true) : dn (calmC l) c ↔ dn l c :=
  ⟨fun ⟨d, hd, hb⟩ => ⟨d, (mem_calm.1 hd).1, hb⟩, fun ⟨d, hd, hb⟩ => ⟨d, mem_calm.2 ⟨hd, okC_up h hb⟩, hb⟩⟩
theorem rightA_calm (l : List C) : rightA (leastF (calmC l)).1 = true := rightA_least (fun c hc => (mem_calm.1 hc).2)
theorem least_small {l : List C} (hr : l.all rightC = true) (h : l.length ≤ 64) : (leastF l).2 = 0 := by rw [leastF_small hr h]

/-- below one of a row, as a truth value. -/
def undB (f : List C) (c : C) : Bool := f.any (fun b => belC c b)
theorem undB_iff {f : List C} {c : C} : undB f c = true ↔ dn f c := by simp [undB, dn]

/-! ### the answers -/
def ofF (f : List C) : List C × Int := if rightF f then leastF (calmC f) else ([], 2)
def ofZ (f : List C) : List C × Int := if (notF f).2 = 0 then leastF (calmC (notF f).1) else ([], (notF f).2)
def jnA (f g : List C) : List C × Int := if rightA f && rightA g then leastF (f ++ g) else ([], 2)
def mtR (f g : List C) : List C × Int := leastF (calmC (pairsC f g))
def mtA (f g : List C) : List C × Int := if rightA f && rightA g then mtR f g else ([], 2)
def entB (f g : List C) : Bool := f.all (undB g)
def entA (f g : List C) : Bool × Int := if rightA f && rightA g then (entB f g, 0) else (false, 2)
def hldA (f : List C) (c : C) : Bool × Int := if rightA f && singleC c then (undB f c, 0) else (false, 2)
def cutC (c a : C) : C := (⟨andNot32 a.1.val c.1.val, andNot32_lt _ _⟩, ⟨andNot32 a.2.val c.2.val, andNot32_lt _ _⟩)
def withC (c a : C) : Bool := okC (meetC a c)
def rstL (f : List C) (c : C) : List C := (f.filter (withC c)).map (cutC c)
def rstA (f : List C) (c : C) : List C × Int := if rightA f && singleC c then leastF (rstL f c) else ([], 2)
def neiB (i : Int) (a : C) : Bool := !hasB a.1.val i && !hasB a.2.val i
def allL (f : List C) (i : Int) : List C := f.filter (neiB i)
def allA (f : List C) (i : Int) : List C × Int := if rightA f && isDimB i then leastF (allL f i) else ([], 2)
/-- what Put makes of one clause: where i is 1 and where it is 0 (with why that is not told). -/
def prtA (c : C) (i : Int) (one : List C) (z : List C × Int) : List C × Int :=
  if hasB c.1.val i then mtR [outC c i] one else if hasB c.2.val i then (if z.2 = 0 then mtR [outC c i] z.1 else z) else ([outC c i], 0)
def stpA (i : Int) (one : List C) (z : List C × Int) (a : List C × Int) (c : C) : List C × Int :=
  if a.2 = 0 then (if (prtA c i one z).2 = 0 then leastF (a.1 ++ (prtA c i one z).1) else ([], (prtA c i one z).2)) else a
def ptS (f : List C) (i : Int) (one : List C) (z : List C × Int) : List C × Int := f.foldl (stpA i one z) ([], 0)
def ptA (f : List C) (i : Int) (r : List C) : List C × Int := if rightA f && isDimB i && rightF r then ptS f i (ofF r).1 (ofZ r) else ([], 2)

/-! ### what is right, and how long it is -/
theorem ofF_right (f : List C) : rightA (ofF f).1 = true := by unfold ofF; split; exact rightA_calm f; exact rightA_nil
theorem ofZ_right (f : List C) : rightA (ofZ f).1 = true := by unfold ofZ; split; exact rightA_calm _; exact rightA_nil
theorem ofF_told {f : List C} (h : rightF f = true) : (ofF f).2 = 0 := by
  simp only [ofF, h, if_true]; exact least_small (calm_right (rightF_all h)) (Nat.le_trans (calm_len f) (rightF_len h))
theorem ofF_er (f : List C) : (ofF f).2 = if rightF f then 0 else 2 := by
  by_cases h : rightF f = true
  · rw [ofF_told h]; simp [h]
  · simp only [Bool.not_eq_true] at h; simp [ofF, h]
theorem app_ok {f g : List C} (hf : ∀ c ∈ f, okC c = true) (hg : ∀ c ∈ g, okC c = true) : ∀ c ∈ f ++ g, okC c = true := fun c hc => (List.mem_append.1 hc).elim (hf c) (hg c)
theorem jnA_right (f g : List C) : rightA (jnA f g).1 = true := by
  unfold jnA; split
  · rename_i h; simp only [Bool.and_eq_true] at h; exact rightA_least (app_ok (rightA_ok h.1) (rightA_ok h.2))
  · exact rightA_nil
theorem mtR_right (f g : List C) : rightA (mtR f g).1 = true := rightA_calm _
theorem mtA_right (f g : List C) : rightA (mtA f g).1 = true := by unfold mtA; split; exact mtR_right f g; exact rightA_nil
theorem andNot32_lo {a b : Nat} (h : a < 16777216) : andNot32 a b < 16777216 := by
  unfold andNot32
  rw [BitVec.toNat_and, BitVec.toNat_ofNat]
  exact Nat.lt_of_le_of_lt (Nat.le_trans Nat.and_le_left (Nat.mod_le _ _)) h
theorem cut_right {c a : C} (h : rightC a = true) : rightC (cutC c a) = true := by
  have h := rightC_iff.1 h
  exact rightC_iff.2 ⟨andNot32_lo h.1, andNot32_lo h.2⟩
theorem cut_bits (c a : C) (k : Nat) : (cutC c a).1.val.testBit k = (a.1.val.testBit k && !c.1.val.testBit k) ∧ (cutC c a).2.val.testBit k = (a.2.val.testBit k && !c.2.val.testBit k) :=
  ⟨testBit_andNot32 _ _ _ a.1.isLt, testBit_andNot32 _ _ _ a.2.isLt⟩
theorem cut_ok {c a : C} (h : okC a = true) : okC (cutC c a) = true := by
  rw [okC_iff] at h ⊢
  intro k hk ⟨h1, h2⟩
  rw [(cut_bits c a k).1, Bool.and_eq_true] at h1; rw [(cut_bits c a k).2, Bool.and_eq_true] at h2
  exact h k hk ⟨h1.1, h2.1⟩
theorem mem_rst {f : List C} {c x : C} : x ∈ rstL f c ↔ ∃ a ∈ f, withC c a = true ∧ cutC c a = x := by simp [rstL, and_assoc]
theorem rst_ok {f : List C} (h : rightA f = true) (c : C) : ∀ x ∈ rstL f c, okC x = true := by
  intro x hx; obtain ⟨a, ha, _, rfl⟩ := mem_rst.1 hx; exact cut_ok (rightA_ok h a ha)
theorem rst_right {f : List C} (h : rightA f = true) (c : C) : (rstL f c).all rightC = true := by
  rw [List.all_eq_true]
  intro x hx; obtain ⟨a, ha, _, rfl⟩ := mem_rst.1 hx; exact cut_right (List.all_eq_true.1 (rightF_all (rightA_right h)) a ha)
theorem rst_len (f : List C) (c : C) : (rstL f c).length ≤ f.length := by simp only [rstL, List.length_map]; exact List.length_filter_le _ _
theorem rstA_right (f : List C) (c : C) : rightA (rstA f c).1 = true := by
  unfold rstA; split
  · rename_i h; simp only [Bool.and_eq_true] at h; exact rightA_least (rst_ok h.1 c)
  · exact rightA_nil
theorem rstA_told {f : List C} {c : C} (hf : rightA f = true) (hc : singleC c = true) : (rstA f c).2 = 0 := by
  simp only [rstA, hf, hc, Bool.and_self, if_true]; exact least_small (rst_right hf c) (Nat.le_trans (rst_len f c) (rightA_len hf))
theorem mem_all {f : List C} {i : Int} {c : C} : c ∈ allL f i ↔ c ∈ f ∧ neiB i c = true := by simp [allL]
theorem all_right {f : List C} (h : rightA f = true) (i : Int) : (allL f i).all rightC = true := by
  rw [List.all_eq_true]; exact fun c hc => List.all_eq_true.1 (rightF_all (rightA_right h)) c (mem_all.1 hc).1
theorem allA_right (f : List C) (i : Int) : rightA (allA f i).1 = true := by
  unfold allA; split
  · rename_i h; simp only [Bool.and_eq_true] at h; exact rightA_least (fun c hc => rightA_ok h.1 c (mem_all.1 hc).1)
  · exact rightA_nil
theorem allA_told {f : List C} {i : Int} (hf : rightA f = true) (hi : isDimB i = true) : (allA f i).2 = 0 := by
  simp only [allA, hf, hi, Bool.and_self, if_true]; exact least_small (all_right hf i) (Nat.le_trans (List.length_filter_le _ _) (rightA_len hf))

/-! ### told, or too great -/
theorem ToldA.mt (f g : List C) : ToldA (mtR f g) := ToldA.least (calm_right (pairs_right f g)) (fun c hc => (mem_calm.1 hc).2)
theorem ToldA.ofZ {f : List C} (h : rightF f = true) : ToldA (ofZ f) := by
  unfold Go.Proofs.YtjimednocmdpnaaGreat.ofZ
  rcases notR_cases f with x | x
  · have e : notF f = notR f := by simp [notF, h]
    rw [e, if_pos x.1]; exact ToldA.least (calm_right (rightF_all x.2)) (fun c hc => (mem_calm.1 hc).2)
  · have e : notF f = notR f := by simp [notF, h]
    rw [e, x]; exact .inr rfl
theorem out_ok {c : C} {i : Int} (h : okC c = true) : okC (outC c i) = true := by
  refine okC_up h (belC_iff.2 ⟨fun k hk x => ?_, fun k hk x => ?_⟩)
  · have : (withoutN c.1.val i).testBit k = true := x
    by_cases hi : isDimB i = true
    · have hi' : 0 ≤ i ∧ i < 24 := by simpa [isDimB] using hi
      obtain ⟨j, rfl⟩ := Int.eq_ofNat_of_zero_le hi'.1
      rw [testBit_withoutN_nat _ _ _ (by omega)] at this
      simp only [Bool.and_eq_true] at this; exact this.1.2
    · simp only [Bool.not_eq_true] at hi
      rw [withoutN_no hi, testBit_low] at this
      simp only [Bool.and_eq_true] at this; exact this.2
  · have : (withoutN c.2.val i).testBit k = true := x
    by_cases hi : isDimB i = true
    · have hi' : 0 ≤ i ∧ i < 24 := by simpa [isDimB] using hi
      obtain ⟨j, rfl⟩ := Int.eq_ofNat_of_zero_le hi'.1
      rw [testBit_withoutN_nat _ _ _ (by omega)] at this
      simp only [Bool.and_eq_true] at this; exact this.1.2
    · simp only [Bool.not_eq_true] at hi
      rw [withoutN_no hi, testBit_low] at this
      simp only [Bool.and_eq_true] at this; exact this.2
theorem rightA_one {c : C} (h : rightC c = true) (hk : okC c = true) : rightA [c] = true := rightA_iff.2 ⟨rightF_one h, fun x hx => by rw [List.mem_singleton.1 hx]; exact hk⟩
theorem rightA_out {c : C} (i : Int) (h : okC c = true) : rightA [outC c i] = true := rightA_one (out_right c i) (out_ok h)
theorem ToldA.prt {c : C} (i : Int) (one : List C) {z : List C × Int} (hc : okC c = true) (hz : ToldA z) : ToldA (prtA c i one z) := by
  unfold prtA
  split
  · exact ToldA.mt _ _
  · split
    · split
      · exact ToldA.mt _ _
      · exact hz
    · exact .inl ⟨rfl, rightA_out i hc⟩
theorem ToldA.stp (i : Int) (one : List C) {z a : List C × Int} {c : C} (hc : okC c = true) (hz : ToldA z) (ha : ToldA a) : ToldA (stpA i one z a c) := by
  unfold stpA
  have hp := ToldA.prt i one hc hz
  split
  · split
    · exact ToldA.least (append_right (rightA_right ha.right) (rightA_right hp.right)) (app_ok (rightA_ok ha.right) (rightA_ok hp.right))
    · rename_i h; rw [hp.no h]; exact .inr rfl
  · exact ha
theorem ptS_snoc (f : List C) (c : C) (i : Int) (one : List C) (z : List C × Int) : ptS (f ++ [c]) i one z = stpA i one z (ptS f i one z) c := by simp [ptS]
theorem ToldA.pts {f : List C} (i : Int) (one : List C) {z : List C × Int} (hf : ∀ c ∈ f, okC c = true) (hz : ToldA z) : ToldA (ptS f i one z) := by
  induction f using snoc_ind with
  | nil => exact .inl ⟨rfl, rightA_nil⟩
  | snoc o c ih => rw [ptS_snoc]; exact ToldA.stp i one (hf c (by simp)) hz (ih (fun x hx => hf x (by simp [hx])))
theorem ptA_right (f : List C) (i : Int) (r : List C) : rightA (ptA f i r).1 = true := by
  unfold ptA; split
  · rename_i h; simp only [Bool.and_eq_true] at h; exact (ToldA.pts i _ (rightA_ok h.1.1) (ToldA.ofZ h.2)).right
  · exact rightA_nil
/-- a clause with -i, and where r is 0 is not told: nothing is told. -/
theorem ptS_no {f : List C} {i : Int} {one : List C} {z : List C × Int} (hf : ∀ c ∈ f, okC c = true) (hz : ToldA z) (h0 : z.2 ≠ 0) (h : f.any (fun c => hasB c.2.val i) = true) : ptS f i one z = ([], 3) := by
  induction f using snoc_ind with
  | nil => simp at h
  | snoc o c ih =>
    have hf' : ∀ x ∈ o, okC x = true := fun x hx => hf x (by simp [hx])
    have ht := ToldA.pts i one hf' hz
    rw [ptS_snoc]; unfold stpA
    by_cases e : (ptS o i one z).2 = 0
    · rw [if_pos e]
      have ho : o.any (fun c => hasB c.2.val i) = false := by
        cases x : o.any (fun c => hasB c.2.val i)
        · rfl
        · rw [ih hf' x] at e; exact absurd e (by decide)
      have hc : hasB c.2.val i = true := by simpa [ho] using h
      have hp : hasB c.1.val i = false := by
        cases x : hasB c.1.val i
        · rfl
        · exfalso
          simp only [hasB, Bool.and_eq_true] at x hc
          have hi : 0 ≤ i ∧ i < 24 := by simpa [isDimB] using x.1
          exact okC_iff.1 (hf c (by simp)) i.toNat (by omega) ⟨x.2, hc.2⟩
      have : prtA c i one z = z := by simp [prtA, hp, hc, h0]
      rw [this, if_neg h0, hz.no h0]
    · rw [if_neg e]; exact ht.no e
theorem prtA_off {c : C} {i : Int} {one : List C} {z z' : List C × Int} (h : hasB c.2.val i = false) : prtA c i one z = prtA c i one z' := by simp [prtA, h]
theorem ptS_off {f : List C} {i : Int} {one : List C} {z z' : List C × Int} (h : f.any (fun c => hasB c.2.val i) = false) : ptS f i one z = ptS f i one z' := by
  induction f using snoc_ind with
  | nil => rfl
  | snoc o c ih =>
    simp only [List.any_append, List.any_cons, List.any_nil, Bool.or_false, Bool.or_eq_false_iff] at h
    rw [ptS_snoc, ptS_snoc, ih h.1]; unfold stpA; rw [prtA_off (z' := z') h.2]

/-! ### the laws of the order -/
theorem jnA_ok {f g : List C} (hf : rightA f = true) (hg : rightA g = true) : jnA f g = leastF (f ++ g) := by simp [jnA, hf, hg]
theorem mtA_ok {f g : List C} (hf : rightA f = true) (hg : rightA g = true) : mtA f g = mtR f g := by simp [mtA, hf, hg]
theorem entA_ok {f g : List C} (hf : rightA f = true) (hg : rightA g = true) : entA f g = (entB f g, 0) := by simp [entA, hf, hg]
theorem hldA_ok {f : List C} {c : C} (hf : rightA f = true) (hc : singleC c = true) : hldA f c = (undB f c, 0) := by simp [hldA, hf, hc]
theorem entB_mem {f g : List C} : entB f g = true ↔ ∀ c ∈ f, dn g c := by simp [entB, undB_iff]
theorem entB_iff {f g : List C} : entB f g = true ↔ ∀ c, dn f c → dn g c := by
  rw [entB_mem]
  exact ⟨fun h c ⟨d, hd, hb⟩ => dn_mono hb (h d hd), fun h c hc => h c ⟨c, hc, belC_refl c⟩⟩
theorem ent_refl (f : List C) : entB f f = true := entB_iff.2 (fun _ h => h)
theorem ent_trans {f g h : List C} (h1 : entB f g = true) (h2 : entB g h = true) : entB f h = true := by
  rw [entB_iff] at h1 h2 ⊢; exact fun c x => h2 c (h1 c x)
theorem ent_anti {f g : List C} (hf : rightA f = true) (hg : rightA g = true) (h1 : entB f g = true) : entB g f = decide (f = g) := by
  rw [Bool.eq_iff_iff, decide_eq_true_eq]
  constructor
  · intro h2; rw [entB_iff] at h1 h2
    exact rightF_ext (rightA_right hf) (rightA_right hg) (fun c _ => ⟨h1 c, h2 c⟩)
  · rintro rfl; exact ent_refl f
theorem jn_dn {f g : List C} (h : (jnA f g).2 = 0) (hf : rightA f = true) (hg : rightA g = true) (c : C) : dn (jnA f g).1 c ↔ dn f c ∨ dn g c := by
  rw [jnA_ok hf hg] at h ⊢; rw [leastF_dn h, dn_append]
theorem mt_dn {f g : List C} (h : (mtA f g).2 = 0) (hf : rightA f = true) (hg : rightA g = true) {c : C} (hc : okC c = true) : dn (mtA f g).1 c ↔ dn f c ∧ dn g c := by
  rw [mtA_ok hf hg] at h ⊢; unfold mtR at h ⊢; rw [leastF_dn h, dn_calm hc, dn_pairs]
theorem jn_least {f g h : List C} (hf : rightA f = true) (hg : rightA g = true) (e : (jnA f g).2 = 0) :
    entB f (jnA f g).1 = true ∧ entB g (jnA f g).1 = true ∧ entB (jnA f g).1 h = (entB f h && entB g h) := by
  refine ⟨entB_iff.2 (fun c x => (jn_dn e hf hg c).2 (.inl x)), entB_iff.2 (fun c x => (jn_dn e hf hg c).2 (.inr x)), ?_⟩
  rw [Bool.eq_iff_iff, Bool.and_eq_true, entB_iff, entB_iff, entB_iff]
  exact ⟨fun x => ⟨fun c y => x c ((jn_dn e hf hg c).2 (.inl y)), fun c y => x c ((jn_dn e hf hg c).2 (.inr y))⟩, fun x c y => ((jn_dn e hf hg c).1 y).elim (x.1 c) (x.2 c)⟩
theorem mt_greatest {f g h : List C} (hf : rightA f = true) (hg : rightA g = true) (hh : rightA h = true) (e : (mtA f g).2 = 0) :
    entB (mtA f g).1 f = true ∧ entB (mtA f g).1 g = true ∧ entB h (mtA f g).1 = (entB h f && entB h g) := by
  have hm : ∀ c ∈ (mtA f g).1, dn f c ∧ dn g c := fun c hc => (mt_dn e hf hg (rightA_ok (mtA_right f g) c hc)).1 ⟨c, hc, belC_refl c⟩
  refine ⟨entB_mem.2 (fun c hc => (hm c hc).1), entB_mem.2 (fun c hc => (hm c hc).2), ?_⟩
  rw [Bool.eq_iff_iff, Bool.and_eq_true, entB_mem, entB_mem, entB_mem]
  exact ⟨fun x => ⟨fun c y => ((mt_dn e hf hg (rightA_ok hh c y)).1 (x c y)).1, fun c y => ((mt_dn e hf hg (rightA_ok hh c y)).1 (x c y)).2⟩, fun x c y => (mt_dn e hf hg (rightA_ok hh c y)).2 ⟨x.1 c y, x.2 c y⟩⟩

/-! ### for every value of a dimension -/
theorem nei_up {i : Int} {c d : C} (h : neiB i c = true) (hb : belC c d = true) : neiB i d = true := by
  simp only [neiB, Bool.and_eq_true, Bool.not_eq_true'] at h ⊢
  rw [belC_iff] at hb
  have key : ∀ {x y : Nat}, hasB x i = false → (∀ k, k < 24 → y.testBit k = true → x.testBit k = true) → hasB y i = false := by
    intro x y h h2
    cases e : hasB y i
    · rfl
    · simp only [hasB, Bool.and_eq_true] at e
      have hi : 0 ≤ i ∧ i < 24 := by simpa [isDimB] using e.1
      simp only [hasB, e.1, Bool.true_and] at h
      rw [h2 i.toNat (by omega) e.2] at h; exact absurd h (by simp)
  exact ⟨key h.1 hb.1, key h.2 hb.2⟩
theorem allA_dn {f : List C} {i : Int} (hf : rightA f = true) (hi : isDimB i = true) {c : C} (hc : neiB i c = true) : dn (allA f i).1 c ↔ dn f c := by
  have h0 := allA_told hf hi
  simp only [allA, hf, hi, Bool.and_self, if_true] at h0 ⊢
  rw [leastF_dn h0]
  exact ⟨fun ⟨d, hd, hb⟩ => ⟨d, (mem_all.1 hd).1, hb⟩, fun ⟨d, hd, hb⟩ => ⟨d, mem_all.2 ⟨hd, nei_up hc hb⟩, hb⟩⟩
theorem allA_mem {f : List C} {i : Int} (hf : rightA f = true) (hi : isDimB i = true) : ∀ c ∈ (allA f i).1, c ∈ f ∧ neiB i c = true := by
  intro c hc
  simp only [allA, hf, hi, Bool.and_self, if_true] at hc
  exact mem_all.1 (leastF_sub c hc)
theorem adjoint {f g : List C} {i : Int} (hf : rightA f = true) (hg : rightA g = true) (hi : isDimB i = true) :
    entB (allA f i).1 f = true ∧ entB (allA g i).1 f = entB (allA g i).1 (allA f i).1 := by
  refine ⟨entB_mem.2 (fun c hc => ⟨c, (allA_mem hf hi c hc).1, belC_refl c⟩), ?_⟩
  rw [Bool.eq_iff_iff, entB_mem, entB_mem]
  exact ⟨fun h c hc => (allA_dn hf hi (allA_mem hg hi c hc).2).2 (h c hc), fun h c hc => (allA_dn hf hi (allA_mem hg hi c hc).2).1 (h c hc)⟩

/-! ### where a clause is so -/
theorem meet_ok {a c : C} : okC (meetC a c) = true ↔ ∀ k, k < 24 → ¬ ((a.1.val.testBit k = true ∨ c.1.val.testBit k = true) ∧ (a.2.val.testBit k = true ∨ c.2.val.testBit k = true)) := by
  rw [okC_iff]
  constructor
  · intro h k hk x
    refine h k hk ?_
    rw [(meet_bits a c k).1, (meet_bits a c k).2]; simp [hk, x.1, x.2]
  · intro h k hk x
    rw [(meet_bits a c k).1, (meet_bits a c k).2] at x
    simp only [hk, decide_true, Bool.true_and, Bool.or_eq_true] at x
    exact h k hk x
theorem meet_okl {a c : C} (h : okC (meetC a c) = true) : okC a = true ∧ okC c = true := by
  rw [meet_ok] at h
  exact ⟨okC_iff.2 (fun k hk x => h k hk ⟨.inl x.1, .inl x.2⟩), okC_iff.2 (fun k hk x => h k hk ⟨.inr x.1, .inr x.2⟩)⟩
theorem rst_free {f : List C} {c : C} (hf : rightA f = true) (hc : singleC c = true) : ∀ x ∈ (rstA f c).1, (x.1.val ||| x.2.val) &&& (c.1.val ||| c.2.val) = 0 := by
  intro x hx
  simp only [rstA, hf, hc, Bool.and_self, if_true] at hx
  obtain ⟨a, ha, hw, rfl⟩ := mem_rst.1 (leastF_sub x hx)
  unfold withC at hw
  rw [meet_ok] at hw
  have hr := rightC_iff.1 (cut_right (c := c) (List.all_eq_true.1 (rightF_all (rightA_right hf)) a ha))
  refine Nat.eq_of_testBit_eq (fun k => ?_)
  simp only [Nat.testBit_and, Nat.testBit_or, Nat.zero_testBit]
  by_cases hk : k < 24
  · rw [(cut_bits c a k).1, (cut_bits c a k).2]
    have := hw k hk
    cases h1 : a.1.val.testBit k <;> cases h2 : a.2.val.testBit k <;> cases h3 : c.1.val.testBit k <;> cases h4 : c.2.val.testBit k <;> simp_all
  · have e1 : (cutC c a).1.val.testBit k = false := by
      cases e : (cutC c a).1.val.testBit k
      · rfl
      · exact absurd (bit_lt24 hr.1 e) hk
    have e2 : (cutC c a).2.val.testBit k = false := by
      cases e : (cutC c a).2.val.testBit k
      · rfl
      · exact absurd (bit_lt24 hr.2 e) hk
    simp [e1, e2]
theorem rst_dn {f : List C} {c d : C} (hf : rightA f = true) (hcd : okC (meetC c d) = true) : dn f (meetC c d) ↔ dn (rstL f c) d := by
  rw [meet_ok] at hcd
  constructor
  · rintro ⟨a, ha, hb⟩
    rw [belC_iff] at hb
    have h1 : ∀ k, k < 24 → a.1.val.testBit k = true → c.1.val.testBit k = true ∨ d.1.val.testBit k = true := fun k hk x => by
      have := hb.1 k hk x; rw [(meet_bits c d k).1] at this; simpa [hk] using this
    have h2 : ∀ k, k < 24 → a.2.val.testBit k = true → c.2.val.testBit k = true ∨ d.2.val.testBit k = true := fun k hk x => by
      have := hb.2 k hk x; rw [(meet_bits c d k).2] at this; simpa [hk] using this
    refine ⟨cutC c a, mem_rst.2 ⟨a, ha, ?_, rfl⟩, belC_iff.2 ⟨fun k hk x => ?_, fun k hk x => ?_⟩⟩
    · unfold withC; rw [meet_ok]
      intro k hk ⟨x, y⟩
      exact hcd k hk ⟨x.elim (h1 k hk) .inl, y.elim (h2 k hk) .inl⟩
    · rw [(cut_bits c a k).1, Bool.and_eq_true, Bool.not_eq_true'] at x
      exact (h1 k hk x.1).resolve_left (by rw [x.2]; simp)
    · rw [(cut_bits c a k).2, Bool.and_eq_true, Bool.not_eq_true'] at x
      exact (h2 k hk x.1).resolve_left (by rw [x.2]; simp)
  · rintro ⟨x, hx, hb⟩
    obtain ⟨a, ha, _, rfl⟩ := mem_rst.1 hx
    rw [belC_iff] at hb
    refine ⟨a, ha, belC_iff.2 ⟨fun k hk y => ?_, fun k hk y => ?_⟩⟩
    · rw [(meet_bits c d k).1]
      have := hb.1 k hk; rw [(cut_bits c a k).1, y] at this
      cases e : c.1.val.testBit k <;> simp_all
    · rw [(meet_bits c d k).2]
      have := hb.2 k hk; rw [(cut_bits c a k).2, y] at this
      cases e : c.2.val.testBit k <;> simp_all
theorem restricts {f : List C} {c d : C} (hf : rightA f = true) (hc : rightC c = true) (hcd : okC (meetC c d) = true) : undB f (meetC c d) = undB (rstA f c).1 d := by
  have hs : singleC c = true := singleC_iff.2 ⟨hc, (meet_okl hcd).1⟩
  have h0 := rstA_told hf hs
  simp only [rstA, hf, hs, Bool.and_self, if_true] at h0 ⊢
  rw [Bool.eq_iff_iff, undB_iff, undB_iff, leastF_dn h0]; exact rst_dn hf hcd

end Go.Proofs.YtjimednocmdpnaaGreat
