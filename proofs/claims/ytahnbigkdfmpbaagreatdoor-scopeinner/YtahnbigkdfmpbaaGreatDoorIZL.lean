/- For ShowBack: how a text that is put together scans, piece by piece. Texts of one name and of binders of it: how they are read. -/
import Derived.Test.YtahnbigkdfmpbaaGreatDoorIMMath
set_option linter.unusedVariables false
set_option linter.unusedSimpArgs false
namespace Go.Proofs.YtahnbigkdfmpbaaGreatDoor
abbrev Kt := Nat × Bs
def Sc (l : Bs) (ks : List Kt) : Prop := ∀ f p, l.length < f → ∃ us, scanQ f p l = .inr us ∧ us.map ktT = ks
def Brk (r : Bs) : Prop := ∀ c t, r = c :: t → letterB c = false ∧ digitB c = false
def Not1 (k : Nat) (r : Bs) : Prop := ∀ c t, r = c :: t → c.toNat ≠ k
theorem sc_nil : Sc [] [(0, [])] := by
 intro f p hf
 obtain ⟨f, rfl⟩ : ∃ k, f = k + 1 := ⟨f - 1, by omega⟩
 exact ⟨_, rfl, rfl⟩
theorem sc_blank {c : UInt8} {l : Bs} {ks : List Kt} (hc : blankB c = true) (h : Sc l ks) : Sc (c :: l) ks := by
 intro f p hf
 obtain ⟨us, hu, hm⟩ := h f (p + 1) (by simp at hf; omega)
 refine ⟨us, ?_, hm⟩
 rw [← hu, scanQ, scanQ, passN_blank hc, Nat.add_comm 1, List.drop_succ_cons]
 congr 1
 omega
theorem sc_tok {t r : Bs} {k : Nat} {ks : List Kt} (h0 : t ≠ []) (h1 : tokN (t ++ r) = t.length) (h2 : kindN (t ++ r) = k) (h3 : passN false (t ++ r) = 0) (h : Sc r ks) : Sc (t ++ r) ((k, t) :: ks) := by
 intro f p hf
 obtain ⟨f, rfl⟩ : ∃ k, f = k + 1 := ⟨f - 1, by omega⟩
 have htl : t.length ≠ 0 := fun e => h0 (List.length_eq_zero_iff.1 e)
 obtain ⟨us, hu, hm⟩ := h f (p + t.length) (by rw [List.length_append] at hf; omega)
 refine ⟨⟨k, t, p⟩ :: us, ?_, by simp [hm, ktT]⟩
 rw [scanQ, h3, List.drop_zero]
 show scanP (f + 1) p _ = _
 rw [scanP_tok f p (t ++ r) (by simp [h0]) (by rw [h1]; exact htl), h1, h2, List.drop_left, List.take_left, hu]
 rfl
theorem word_brk {t r : Bs} (ht : t.all (fun c => letterB c || digitB c) = true) (hr : Brk r) : wordN (t ++ r) = t.length := by
 induction t with
 | nil =>
  cases r with
  | nil => rfl
  | cons c r =>
   obtain ⟨e1, e2⟩ := hr c r rfl
   show wordN (c :: r) = 0
   simp [wordN, e1, e2]
 | cons c t ih =>
  rw [List.all_cons, Bool.and_eq_true] at ht
  show wordN (c :: (t ++ r)) = _
  rw [wordN, if_pos ht.1, ih ht.2, List.length_cons]
  omega
theorem sc_name {s r : Bs} {ks : List Kt} (hs : nameB s = true) (hr : Brk r) (h : Sc r ks) : Sc (s ++ r) ((1, s) :: ks) := by
 match s, hs with
 | c :: t, hs =>
  unfold nameB at hs
  rw [Bool.and_eq_true] at hs
  have hn : nameN (c :: t ++ r) = (c :: t).length := by
   show nameN (c :: (t ++ r)) = _
   rw [nameN, if_pos hs.1, word_brk hs.2 hr, List.length_cons]
   omega
  refine sc_tok (by simp) ?_ ?_ (letter_pass hs.1) h
  ·unfold tokN
   rw [if_pos (by rw [hn]; simp), hn]
  ·unfold kindN
   rw [if_pos (by rw [hn]; simp)]
theorem sign_name {c : UInt8} {t : Bs} (h : letterB c = false) : ¬ 0 < nameN (c :: t) := by
 rw [nameN, if_neg (by rw [h]; simp)]
 omega
theorem sc_one {c : UInt8} {r : Bs} {ks : List Kt} (hc : oneB c = true) (hr : twoB c r = false) (h : Sc r ks) : Sc (c :: r) ((2, [c]) :: ks) := by
 obtain ⟨_, h2, h3, h4⟩ := one_cases hc
 have hn := sign_name (t := r) h4
 refine sc_tok (t := [c]) (r := r) (by simp) ?_ ?_ ?_ h
 ·show tokN (c :: r) = 1
  unfold tokN
  rw [if_neg hn, signN, if_neg (by rw [hr]; simp), if_pos hc]
 ·show kindN (c :: r) = 2
  unfold kindN
  rw [if_neg hn]
 ·exact passN_stop h3 (fun e => h2 e.1)
theorem sc_two_not {c : UInt8} {r : Bs} (h1 : c.toNat ≠ 45) (h2 : c.toNat ≠ 47) (h3 : c.toNat ≠ 92) : twoB c r = false := by
 unfold twoB
 cases r with
 | nil => rfl
 | cons d r => simp; omega
theorem two_lam {r : Bs} (h : Not1 47 r) : twoB 92 r = false := by
 unfold twoB
 cases r with
 | nil => rfl
 | cons d r => have := h d r rfl; simp; exact this
theorem sc_dot {r : Bs} {ks : List Kt} (h : Sc r ks) : Sc (46 :: r) ((2, [46]) :: ks) := sc_one (by decide) (sc_two_not (by decide) (by decide) (by decide)) h
theorem sc_lam {r : Bs} {ks : List Kt} (hr : Not1 47 r) (h : Sc r ks) : Sc (92 :: r) ((2, [92]) :: ks) := sc_one (by decide) (two_lam hr) h
theorem sc_gap {r : Bs} {ks : List Kt} (h : Sc r ks) : Sc (32 :: r) ks := sc_blank (by decide) h
end Go.Proofs.YtahnbigkdfmpbaaGreatDoor
namespace Go.Proofs.YtahnbigkdfmpbaaGreatDoor
def asB (l : Bs) : Bool := l.all (fun x => decide (x.toNat < 128))
theorem as_app (a b : Bs) : asB (a ++ b) = (asB a && asB b) := List.all_append
theorem as_cons (c : UInt8) (l : Bs) : asB (c :: l) = (decide (c.toNat < 128) && asB l) := rfl
theorem as_name {s : Bs} (h : nameB s = true) : asB s = true := List.all_eq_true.2 fun x hx => decide_eq_true (name_ascii h x hx)
theorem scanF_sc {s : Bs} {ks : List Kt} (ha : asB s = true) (hl : s.length ≤ 65536) (h : Sc s ks) : (scanF s).2.2 = 0 ∧ (scanF s).1.map ktT = ks := by
 have hU := utfP_ascii (s.length + 1) s (by omega) (fun x hx => of_decide_eq_true (List.all_eq_true.1 ha x hx))
 obtain ⟨us, hu, hm⟩ := h (s.length + 1) 0 (by omega)
 have e : scanF s = (us, 0, 0) := by
  unfold scanF
  unfold scanQ at hu
  simp_all [ansOf]
 rw [e]
 exact ⟨rfl, hm⟩
theorem rdA_sc {s : Bs} {ks : List Kt} (ha : asB s = true) (hl : s.length ≤ 65536) (h : Sc s (ks ++ [(0, [])])) : (scanF s).2.2 = 0 ∧ (rdA s).map ktT = ks := by
 obtain ⟨h1, h2⟩ := scanF_sc ha hl h
 refine ⟨h1, ?_⟩
 unfold rdA
 rw [List.map_dropLast, h2, List.dropLast_concat]
theorem toks_cons {l : Ts} {k : Nat} {x : Bs} {ks : List Kt} (h : l.map ktT = (k, x) :: ks) : ∃ p l2, l = ⟨k, x, p⟩ :: l2 ∧ l2.map ktT = ks := by
 obtain ⟨t, l2, rfl, h1, h2⟩ := List.map_eq_cons_iff.1 h
 obtain ⟨k', x', p⟩ := t
 injection h1 with e1 e2
 simp only at e1 e2
 subst e1 e2
 exact ⟨p, l2, rfl, h2⟩
theorem name_cons {x : Bs} (h : nameB x = true) : ∃ c l, x = c :: l ∧ letterB c = true := by
 cases x with
 | nil => cases h
 | cons c l =>
  unfold nameB at h
  rw [Bool.and_eq_true] at h
  exact ⟨c, l, rfl, h.1⟩
theorem name_ne {x : Bs} (h : nameB x = true) {c : UInt8} (hc : letterB c = false) (l : Bs) : x ≠ c :: l := by
 obtain ⟨d, m, rfl, hd⟩ := name_cons h
 intro e
 injection e with e _
 rw [e, hc] at hd
 cases hd
theorem termP_name (e f l p : Nat) (x : Bs) (hl : l ≤ 200) (h : nameB x = true) : termP e (f + 4) l [⟨1, x, p⟩] = .ok (.mk 1 x [] [] p) [] := by
 have n1 := name_ne h (c := 92) (by decide) []
 have n2 := name_ne h (c := 60) (by decide) []
 have n3 := name_ne h (c := 40) (by decide) []
 rw [termP_s]
 unfold enterQ
 rw [if_pos (by simp [isN]), if_neg (by omega), if_neg (by simp [sees, n1]), if_neg (by simp [sees, n2]), if_neg (by simp [binderQ, sees, n3]), appP_s, atomP_s, if_pos (by simp [isN])]
 simp only [txt, atP, List.tail_cons, bnd_ok]
 rw [appL_s, if_neg (by simp [sees]), if_neg (by simp [isN, sees]), bnd_ok, if_neg (by simp [arrB, sees])]
theorem termP_lam (e f l q p o : Nat) (x : Bs) (R : Ts) (hl : l ≤ 200) (k : Nat) (t : Tr) (h : termP e f (l + 1) R = .ok t []) : termP e (f + 2) l (⟨2, [92], q⟩ :: ⟨1, x, p⟩ :: ⟨2, [46], o⟩ :: R) = .ok (.mk 2 [] [t] [x] q) [] := by
 rw [termP_s]
 unfold enterQ
 rw [if_pos (by simp [isN, txt]), if_neg (by omega), if_pos (by simp [sees]), bindsP_s]
 have hn : namesP e (List.tail (⟨2, [92], q⟩ :: ⟨1, x, p⟩ :: ⟨2, [46], o⟩ :: R : Ts)) = .ok [x] (⟨2, [46], o⟩ :: R) := rfl
 have hm : mustP e [46] (⟨2, [46], o⟩ :: R) = .ok () R := by
  unfold mustP
  simp [sees]
 rw [hn, bnd_ok, hm, bnd_ok, h, bnd_ok]
 rfl
theorem brk_one {c : UInt8} {r : Bs} (h : letterB c = false ∧ digitB c = false) : Brk (c :: r) := fun d t e => by injection e with e _; rw [← e]; exact h
theorem brk_nil : Brk [] := fun c t e => by cases e
theorem not47_name {x r : Bs} (h : nameB x = true) : Not1 47 (x ++ r) := by
 obtain ⟨d, m, rfl, hd⟩ := name_cons h
 intro c t e
 injection e with e _
 subst e
 intro e2
 have : d = 47 := UInt8.toNat_inj.1 e2
 rw [this] at hd
 cases hd
theorem ansT_ok (t : Tr) (R : Ts) : ansT (.ok t R) = (t, 0, 0) := rfl
theorem termA_of {s : Bs} {t : Tr} (F : Nat) (h0 : (scanF s).2.2 = 0) (h : termP s.length F 1 (rdA s) = .ok t []) : termA F s = (t, 0, 0) := by
 unfold termA
 rw [if_pos h0]
 unfold singleP
 rw [h, bnd_ok, if_pos rfl, ansT_ok]
theorem read_name {x : Bs} (h : nameB x = true) (hl : x.length ≤ 60000) : ∃ p, termA 700000 x = (.mk 1 x [] [] p, 0, 0) := by
 have hs : Sc x ([(1, x)] ++ [(0, [])]) := by
  have := sc_name h brk_nil sc_nil
  rwa [List.append_nil] at this
 obtain ⟨h0, h1⟩ := rdA_sc (as_name h) (by omega) hs
 obtain ⟨p, l, e, h2⟩ := toks_cons h1
 obtain rfl := List.map_eq_nil_iff.1 h2
 exact ⟨p, termA_of 700000 h0 (by rw [e]; exact termP_name x.length 699996 1 p x (by omega) h)⟩
theorem read_lam {x : Bs} (h : nameB x = true) (hl : x.length ≤ 10000) : ∃ p q, termA 700000 (92 :: (x ++ (46 :: 32 :: x))) = (.mk 2 [] [.mk 1 x [] [] p] [x] q, 0, 0) := by
 have s1 : Sc x ([(1, x)] ++ [(0, [])]) := by
  have := sc_name h brk_nil sc_nil
  rwa [List.append_nil] at this
 have hs : Sc (92 :: (x ++ (46 :: 32 :: x))) ([(2, [92]), (1, x), (2, [46]), (1, x)] ++ [(0, [])]) := sc_lam (not47_name h) (sc_name h (brk_one (by decide)) (sc_dot (sc_gap s1)))
 have ha : asB (92 :: (x ++ (46 :: 32 :: x))) = true := by
  simp only [as_cons, as_app, as_name h]
  decide
 obtain ⟨h0, h1⟩ := rdA_sc ha (by simp; omega) hs
 obtain ⟨p1, l1, e1, h2⟩ := toks_cons h1
 obtain ⟨p2, l2, rfl, h3⟩ := toks_cons h2
 obtain ⟨p3, l3, rfl, h4⟩ := toks_cons h3
 obtain ⟨p4, l4, rfl, h5⟩ := toks_cons h4
 obtain rfl := List.map_eq_nil_iff.1 h5
 refine ⟨p4, p1, termA_of 700000 h0 ?_⟩
 rw [e1]
 exact termP_lam _ 699998 1 p1 p2 p3 x _ (by omega) 0 _ (termP_name _ 699994 2 p4 x (by omega) h)
theorem read_lam2 {x : Bs} (h : nameB x = true) (hl : x.length ≤ 10000) : ∃ p q r, termA 700000 (92 :: (x ++ (46 :: 32 :: 92 :: (x ++ (46 :: 32 :: x))))) = (.mk 2 [] [.mk 2 [] [.mk 1 x [] [] p] [x] q] [x] r, 0, 0) := by
 have s1 : Sc x ([(1, x)] ++ [(0, [])]) := by
  have := sc_name h brk_nil sc_nil
  rwa [List.append_nil] at this
 have s2 : Sc (92 :: (x ++ (46 :: 32 :: x))) ([(2, [92]), (1, x), (2, [46]), (1, x)] ++ [(0, [])]) := sc_lam (not47_name h) (sc_name h (brk_one (by decide)) (sc_dot (sc_gap s1)))
 have hs : Sc (92 :: (x ++ (46 :: 32 :: 92 :: (x ++ (46 :: 32 :: x))))) ([(2, [92]), (1, x), (2, [46]), (2, [92]), (1, x), (2, [46]), (1, x)] ++ [(0, [])]) := sc_lam (not47_name h) (sc_name h (brk_one (by decide)) (sc_dot (sc_gap s2)))
 have ha : asB (92 :: (x ++ (46 :: 32 :: 92 :: (x ++ (46 :: 32 :: x))))) = true := by
  simp only [as_cons, as_app, as_name h]
  decide
 obtain ⟨h0, h1⟩ := rdA_sc ha (by simp; omega) hs
 obtain ⟨p1, l1, e1, h2⟩ := toks_cons h1
 obtain ⟨p2, l2, rfl, h3⟩ := toks_cons h2
 obtain ⟨p3, l3, rfl, h4⟩ := toks_cons h3
 obtain ⟨p4, l4, rfl, h5⟩ := toks_cons h4
 obtain ⟨p5, l5, rfl, h6⟩ := toks_cons h5
 obtain ⟨p6, l6, rfl, h7⟩ := toks_cons h6
 obtain ⟨p7, l7, rfl, h8⟩ := toks_cons h7
 obtain rfl := List.map_eq_nil_iff.1 h8
 refine ⟨p7, p4, p1, termA_of 700000 h0 ?_⟩
 rw [e1]
 exact termP_lam _ 699998 1 p1 p2 p3 x _ (by omega) 0 _ (termP_lam _ 699996 2 p4 p5 p6 x _ (by omega) 0 _ (termP_name _ 699992 3 p7 x (by omega) h))
theorem appL_kind (e : Nat) : ∀ (f l : Nat) (t : Tr) (R : Ts) (T : Tr) (R2 : Ts), appL e f l t R = .ok T R2 → T = t ∨ T.kind ≠ 1 := by
 intro f
 induction f with
 | zero => intro l t R T R2 h; cases h
 | succ f ih =>
  intro l t R T R2 h
  rw [appL_s] at h
  split at h
  ·cases hd : dimP e f (l + 1) R.tail using Rs.cs with
   | bad p x => rw [hd] at h; cases h
   | ok d R1 =>
    rw [hd, bnd_ok] at h
    rcases ih _ _ _ _ _ h with rfl | h2
    ·exact .inr (by simp [two])
    ·exact .inr h2
  ·split at h
   ·cases hd : atomP e f l R using Rs.cs with
    | bad p x => rw [hd] at h; cases h
    | ok d R1 =>
     rw [hd, bnd_ok] at h
     rcases ih _ _ _ _ _ h with rfl | h2
     ·exact .inr (by simp [two])
     ·exact .inr h2
   ·injection h with h
    injection h with h1 h2
    exact .inl h1.symm
def NmKd (R : Ts) (T : Tr) : Prop := T.kind = 1 → ∃ t ∈ R, t.kind = 1 ∧ t.text = T.name
theorem NmKd.tail {R : Ts} {T : Tr} (h : NmKd R.tail T) : NmKd R T := fun hk => by
 obtain ⟨t, ht, h2⟩ := h hk
 exact ⟨t, List.mem_of_mem_tail ht, h2⟩
theorem read_kind (e : Nat) : ∀ (f : Nat), (∀ (l : Nat) (R : Ts) (T : Tr) (R2 : Ts), termP e f l R = .ok T R2 → NmKd R T) ∧ (∀ (l : Nat) (R : Ts) (T : Tr) (R2 : Ts), appP e f l R = .ok T R2 → NmKd R T) ∧ (∀ (l : Nat) (R : Ts) (T : Tr) (R2 : Ts), atomP e f l R = .ok T R2 → NmKd R T) ∧ (∀ (l : Nat) (R : Ts) (T : Tr) (R2 : Ts), brackP e f l R = .ok T R2 → NmKd R T) := by
 intro f
 induction f with
 | zero => refine ⟨?_, ?_, ?_, ?_⟩ <;> (intro l R T R2 h; cases h)
 | succ f ih =>
  obtain ⟨iT, iA, iM, iB⟩ := ih
  refine ⟨fun l R T R2 h => ?_, fun l R T R2 h => ?_, fun l R T R2 h => ?_, fun l R T R2 h => ?_⟩
  ·rw [termP_s] at h
   unfold enterQ at h
   split at h
   ·split at h
    ·cases h
    ·split at h
     ·cases f with
      | zero => cases h
      | succ f =>
       rw [bindsP_s] at h
       cases h1 : namesP e R.tail using Rs.cs with
       | bad p x => rw [h1] at h; cases h
       | ok ns R1 =>
        rw [h1, bnd_ok] at h
        cases h2 : mustP e [46] R1 using Rs.cs with
        | bad p x => rw [h2] at h; cases h
        | ok u R3 =>
         rw [h2, bnd_ok] at h
         cases h3 : termP e f (l + 1) R3 using Rs.cs with
         | bad p x => rw [h3] at h; cases h
         | ok u R4 =>
          rw [h3, bnd_ok] at h
          injection h with h; injection h with h _
          intro hk; rw [← h] at hk; cases hk
     ·split at h
      ·cases f with
       | zero => cases h
       | succ f =>
        rw [bindsP_s] at h
        cases h1 : namesP e R.tail using Rs.cs with
        | bad p x => rw [h1] at h; cases h
        | ok ns R1 =>
         rw [h1, bnd_ok] at h
         cases h2 : mustP e [62] R1 using Rs.cs with
         | bad p x => rw [h2] at h; cases h
         | ok u R3 =>
          rw [h2, bnd_ok] at h
          cases h3 : termP e f (l + 1) R3 using Rs.cs with
          | bad p x => rw [h3] at h; cases h
          | ok u R4 =>
           rw [h3, bnd_ok] at h
           injection h with h; injection h with h _
           intro hk; rw [← h] at hk; cases hk
      ·split at h
       ·cases f with
        | zero => cases h
        | succ f =>
         rw [binderP_s] at h
         cases h1 : nameP e R.tail using Rs.cs with
         | bad p x => rw [h1] at h; cases h
         | ok ns R1 =>
          rw [h1, bnd_ok] at h
          cases h2 : mustP e [58] R1 using Rs.cs with
          | bad p x => rw [h2] at h; cases h
          | ok u R3 =>
           rw [h2, bnd_ok] at h
           cases h3 : termP e f (l + 1) R3 using Rs.cs with
           | bad p x => rw [h3] at h; cases h
           | ok u R4 =>
            rw [h3, bnd_ok] at h
            cases h4 : mustP e [41] R4 using Rs.cs with
            | bad p x => rw [h4] at h; cases h
            | ok u5 R5 =>
             rw [h4, bnd_ok] at h
             cases h5 : termP e f (l + 1) (arrR R5) using Rs.cs with
             | bad p x => rw [h5] at h; cases h
             | ok u6 R6 =>
              rw [h5, bnd_ok] at h
              injection h with h; injection h with h _
              intro hk; rw [← h] at hk
              unfold arrK at hk
              simp only at hk
              split at hk <;> cases hk
       ·cases h1 : appP e f l R using Rs.cs with
        | bad p x => rw [h1] at h; cases h
        | ok t R1 =>
         rw [h1, bnd_ok] at h
         split at h
         ·cases h5 : termP e f (l + 1) R1.tail using Rs.cs with
          | bad p x => rw [h5] at h; cases h
          | ok u6 R6 =>
           rw [h5, bnd_ok] at h
           injection h with h; injection h with h _
           intro hk; rw [← h] at hk
           unfold two arrK at hk
           simp only at hk
           split at hk <;> cases hk
         ·injection h with h; injection h with h _
          rw [← h]
          exact iA _ _ _ _ h1
   ·cases h
  ·rw [appP_s] at h
   cases h1 : atomP e f l R using Rs.cs with
   | bad p x => rw [h1] at h; cases h
   | ok t R1 =>
    rw [h1, bnd_ok] at h
    rcases appL_kind e f l t R1 T R2 h with rfl | h2
    ·exact iM _ _ _ _ h1
    ·exact fun hk => absurd hk h2
  ·rw [atomP_s] at h
   split at h
   ·rename_i hn
    injection h with h; injection h with h _
    subst h
    intro _
    cases R with
    | nil => cases hn
    | cons t R => exact ⟨t, by simp, by simpa [isN] using hn, rfl⟩
   ·split at h
    ·cases f with
     | zero => cases h
     | succ f =>
      rw [boxP_s] at h
      split at h
      ·injection h with h; injection h with h _
       intro hk; rw [← h] at hk; cases hk
      ·cases h1 : elemP e f l R.tail using Rs.cs with
       | bad p x => rw [h1] at h; cases h
       | ok t R1 =>
        rw [h1, bnd_ok] at h
        have key : ∀ (g l p : Nat) (acc : List Tr) (R : Ts) (T : Tr) (R2 : Ts), boxL e g l p acc R = .ok T R2 → T.kind ≠ 1 := by
         intro g
         induction g with
         | zero => intro l p acc R T R2 h; cases h
         | succ g ihg =>
          intro l p acc R T R2 h
          rw [boxL_s] at h
          split at h
          ·cases h1 : elemP e g l R.tail using Rs.cs with
           | bad p x => rw [h1] at h; cases h
           | ok t R1 => rw [h1, bnd_ok] at h; exact ihg _ _ _ _ _ _ h
          ·cases h1 : mustP e [93] R using Rs.cs with
           | bad p x => rw [h1] at h; cases h
           | ok t R1 =>
            rw [h1, bnd_ok] at h
            injection h with h; injection h with h _
            rw [← h]; simp
        exact fun hk => absurd hk (key _ _ _ _ _ _ _ h)
    ·exact iB _ _ _ _ h
  ·rw [brackP_s] at h
   cases h1 : mustP e [40] R using Rs.cs with
   | bad p x => rw [h1] at h; cases h
   | ok u R1 =>
    have hR1 : R1 = R.tail := by
     unfold mustP at h1
     split at h1
     ·injection h1 with h1; injection h1 with _ h1; exact h1.symm
     ·cases h1
    rw [h1, bnd_ok] at h
    cases h2 : termP e f (l + 1) R1 using Rs.cs with
    | bad p x => rw [h2] at h; cases h
    | ok t R3 =>
     rw [h2, bnd_ok] at h
     split at h
     ·cases h3 : termP e f (l + 1) R3.tail using Rs.cs with
      | bad p x => rw [h3] at h; cases h
      | ok u R4 =>
       rw [h3, bnd_ok] at h
       cases h4 : mustP e [41] R4 using Rs.cs with
       | bad p x => rw [h4] at h; cases h
       | ok u5 R5 =>
        rw [h4, bnd_ok] at h
        injection h with h; injection h with h _
        intro hk; rw [← h] at hk; cases hk
     ·split at h
      ·cases h3 : termP e f (l + 1) R3.tail using Rs.cs with
       | bad p x => rw [h3] at h; cases h
       | ok u R4 =>
        rw [h3, bnd_ok] at h
        cases h4 : mustP e [41] R4 using Rs.cs with
        | bad p x => rw [h4] at h; cases h
        | ok u5 R5 =>
         rw [h4, bnd_ok] at h
         injection h with h; injection h with h _
         intro hk; rw [← h] at hk; cases hk
      ·cases h4 : mustP e [41] R3 using Rs.cs with
       | bad p x => rw [h4] at h; cases h
       | ok u5 R5 =>
        rw [h4, bnd_ok] at h
        injection h with h; injection h with h _
        rw [← h]
        have := iT _ _ _ _ h2
        rw [hR1] at this
        exact this.tail
theorem scanP_names : ∀ (f p : Nat) (l : Bs) (ts : List Tok), scanP f p l = .inr ts → ∀ t ∈ ts, t.kind = 1 → nameB t.text = true := by
 intro f
 induction f with
 | zero => intro p l ts h; simp [scanP] at h
 | succ f ih =>
  intro p l ts h t ht hk
  by_cases hz : l = []
  ·subst hz
   simp only [scanP_nil, Sum.inr.injEq] at h
   subst h
   simp only [List.mem_singleton] at ht
   rw [ht] at hk
   cases hk
  ·by_cases h0 : tokN l = 0
   ·rw [scanP_bad f p l hz h0] at h; cases h
   ·rw [scanP_tok f p l hz h0] at h
    unfold scanQ at h
    cases hq : scanP f (p + tokN l + passN false (l.drop (tokN l))) ((l.drop (tokN l)).drop (passN false (l.drop (tokN l)))) with
    | inl e => rw [hq] at h; cases h
    | inr us =>
     rw [hq] at h
     simp only [finR, Sum.inr.injEq] at h
     subst h
     rcases List.mem_append.1 ht with ht | ht
     ·simp only [List.mem_singleton] at ht
      rw [ht] at hk ⊢
      simp only at hk ⊢
      unfold kindN at hk
      by_cases hn : 0 < nameN l
      ·have e : tokN l = nameN l := by unfold tokN; rw [if_pos hn]
       rw [e]
       cases l with
       | nil => simp [nameN] at hn
       | cons c t =>
        have en : nameN (c :: t) = if letterB c = true then 1 + wordN t else 0 := rfl
        rw [en] at hn ⊢
        by_cases hc : letterB c = true
        ·rw [if_pos hc, Nat.add_comm]
         show (letterB c && (t.take (wordN t)).all _) = true
         rw [hc, word_all]
         rfl
        ·rw [if_neg hc] at hn; omega
      ·rw [if_neg hn] at hk; cases hk
     ·exact ih _ _ _ hq t ht hk
theorem rdA_names {s : Bs} (h : (scanF s).2.2 = 0) : ∀ t ∈ rdA s, t.kind = 1 → nameB t.text = true := by
 obtain ⟨h1, h2, h3, h4⟩ := scanF_ok h
 intro t ht hk
 have hm : t ∈ (scanF s).1 := by
  unfold rdA at ht
  exact List.dropLast_subset _ ht
 unfold scanQ at h3
 exact scanP_names _ _ _ _ h3 t hm hk
theorem read_is_name {F : Nat} {s : Bs} (h0 : (termA F s).2.2 = 0) (hk : (termA F s).1.kind = 1) : nameB (termA F s).1.name = true := by
 unfold termA at h0 hk ⊢
 by_cases hs : (scanF s).2.2 = 0
 ·rw [if_pos hs] at h0 hk ⊢
  cases h : singleP s.length F (rdA s) using Rs.cs with
  | bad p x => rw [h] at hk; cases hk
  | ok t R =>
   rw [h] at hk
   have hk2 : t.kind = 1 := hk
   show nameB t.name = true
   unfold singleP at h
   cases h1 : termP s.length F 1 (rdA s) using Rs.cs with
   | bad p x => rw [h1] at h; cases h
   | ok t2 R1 =>
    rw [h1, bnd_ok] at h
    split at h
    ·injection h with h; injection h with h _
     subst h
     obtain ⟨tk, htk, k1, k2⟩ := (read_kind s.length F).1 _ _ _ _ h1 hk2
     rw [← k2]
     exact rdA_names hs tk htk k1
    ·cases h
 ·rw [if_neg hs] at h0 hk
  exact absurd h0 hs
end Go.Proofs.YtahnbigkdfmpbaaGreatDoor
