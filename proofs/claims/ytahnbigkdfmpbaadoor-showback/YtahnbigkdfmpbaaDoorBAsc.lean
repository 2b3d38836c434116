/- For ShowBack: the text of a tree that may be is of plain bytes, and how scanF answers. -/
import Derived.Test.YtahnbigkdfmpbaaDoorBScan
namespace Go.Proofs.YtahnbigkdfmpbaaDoor
set_option linter.unusedVariables false
set_option linter.unusedSimpArgs false

def asB (l : Bs) : Bool := l.all (fun x => decide (x.toNat < 128))
theorem as_app (a b : Bs) : asB (a ++ b) = (asB a && asB b) := List.all_append
theorem as_cons (c : UInt8) (l : Bs) : asB (c :: l) = (decide (c.toNat < 128) && asB l) := rfl
theorem as_nil : asB [] = true := rfl
theorem as_name {s : Bs} (h : nameB s = true) : asB s = true := List.all_eq_true.2 fun x hx => decide_eq_true (name_ascii h x hx)
theorem as_digit {s : Bs} (h : digB s = true) : asB s = true := by
  unfold digB at h
  simp only [Bool.or_eq_true, decide_eq_true_eq] at h
  rcases h with rfl | rfl <;> decide
theorem as_flat {l : List Bs} (h : ∀ x ∈ l, asB x = true) : asB l.flatten = true := by
  induction l with
  | nil => rfl
  | cons x l ih => rw [List.flatten_cons, as_app, h x (by simp), ih (fun y hy => h y (by simp [hy]))]; rfl
theorem as_jn {sep : Bs} {l : List Bs} (hs : asB sep = true) (h : ∀ x ∈ l, asB x = true) : asB (jn sep l) = true := by
  cases l with
  | nil => rfl
  | cons x l =>
    show asB (x ++ (l.map fun y => sep ++ y).flatten) = true
    rw [as_app, h x (by simp)]
    rw [as_flat (fun y hy => by
      obtain ⟨z, hz, rfl⟩ := List.mem_map.1 hy
      rw [as_app, hs, h z (by simp [hz])]; rfl)]
    rfl
theorem as_part {f pl : Nat} {t : Sx} (h : asB (lineF f t) = true) : asB (partF f pl t) = true := by
  unfold partF partR
  split
  · rw [as_cons, as_app, h]; decide
  · exact h
theorem as_line (f : Nat) : ∀ (g : Nat) (t : Sx), okF f g t = true → asB (lineF f t) = true := by
  induction f with
  | zero => intro g t h; rw [okF_z] at h; cases h
  | succ f ih =>
    intro g t h
    rw [okF_s] at h
    rw [lineF_s]
    have hp : ∀ (pl g : Nat) (x : Sx), okF f g x = true → asB (partR (lineF f) pl x) = true := fun pl g x hx => as_part (ih g x hx)
    have name1 : t.kind = 1 → nameTreeB t = true → asB (lineR (lineF f) t) = true := fun hk hn => by
      unfold nameTreeB at hn
      rw [Bool.and_eq_true] at hn
      unfold lineR
      rw [if_pos (by omega)]
      exact as_name hn.1
    unfold okR at h
    by_cases g0 : g = 0
    · rw [if_pos g0] at h
      unfold termB at h
      by_cases h1 : t.kind = 1
      · rw [if_pos h1] at h; exact name1 h1 h
      rw [if_neg h1] at h
      by_cases h2 : t.kind = 2 ∨ t.kind = 3
      · rw [if_pos h2] at h
        simp only [Bool.and_eq_true, decide_eq_true_eq] at h
        obtain ⟨_, hne, hna, hka⟩ := h
        obtain ⟨a, hl, hoa⟩ := are1_inv hka
        have k0 : kd t 0 = a := by unfold kd; rw [hl]; rfl
        have q := hp 0 0 a hoa
        have qn := as_jn (sep := [32]) (l := t.names) rfl (fun x hx => as_name (List.all_eq_true.1 hna x hx))
        rcases h2 with h2 | h2
        · unfold lineR
          rw [if_neg (by omega), if_pos (by omega), k0]
          simp only [as_cons, as_app, as_nil, qn, q]; decide
        · unfold lineR
          rw [if_neg (by omega), if_neg (by omega), if_pos (by omega), k0]
          simp only [as_cons, as_app, as_nil, qn, q]; decide
      rw [if_neg h2] at h
      by_cases h3 : t.kind = 4 ∨ t.kind = 5
      · rw [if_pos h3] at h
        simp only [Bool.and_eq_true, decide_eq_true_eq] at h
        obtain ⟨_, hlt, hna, hka⟩ := h
        obtain ⟨a, c, hl, hoa, hoc⟩ := are2_inv hka
        have k0 : kd t 0 = a := by unfold kd; rw [hl]; rfl
        have k1 : kd t 1 = c := by unfold kd; rw [hl]; rfl
        have q0 := hp 0 0 a hoa
        have q1 := hp 1 0 a hoa
        have q2 := hp 0 0 c hoc
        have arr : ∀ (sgn : Bs), asB sgn = true → asB (arrowR (lineF f) t sgn) = true := by
          intro sgn hsg
          unfold arrowR
          rw [k0, k1]
          match hnm : t.names, hlt with
          | [], _ =>
            rw [if_pos rfl]
            simp only [as_cons, as_app, as_nil, q1, q2, hsg]; decide
          | [x], _ =>
            rw [if_neg (by simp)]
            rw [hnm] at hna
            simp only [List.all_cons, List.all_nil, Bool.and_true] at hna
            have qx := as_name hna
            simp only [List.headD_cons, as_cons, as_app, as_nil, q0, q2, hsg, qx]; decide
        rcases h3 with h3 | h3
        · unfold lineR
          rw [if_neg (by omega), if_neg (by omega), if_neg (by omega), if_pos (by omega)]
          exact arr _ (by decide)
        · unfold lineR
          rw [if_neg (by omega), if_neg (by omega), if_neg (by omega), if_neg (by omega), if_pos (by omega)]
          exact arr _ (by decide)
      rw [if_neg h3] at h
      by_cases h4 : t.kind = 6 ∨ t.kind = 8 ∨ t.kind = 9
      · rw [if_pos h4, Bool.and_eq_true] at h
        obtain ⟨a, c, hl, hoa, hoc⟩ := are2_inv h.2
        have k0 : kd t 0 = a := by unfold kd; rw [hl]; rfl
        have k1 : kd t 1 = c := by unfold kd; rw [hl]; rfl
        have qa := fun pl => hp pl 0 a hoa
        have qc := fun pl => hp pl 0 c hoc
        rcases h4 with h4 | h4 | h4
        · unfold lineR
          rw [if_neg (by omega), if_neg (by omega), if_neg (by omega), if_neg (by omega), if_neg (by omega), if_pos (by omega), k0, k1]
          simp only [as_cons, as_app, as_nil, qa, qc]; decide
        · unfold lineR
          rw [if_neg (by omega), if_neg (by omega), if_neg (by omega), if_neg (by omega), if_neg (by omega), if_neg (by omega), if_neg (by omega), if_pos (by omega), k0, k1]
          simp only [as_cons, as_app, as_nil, qa, qc]; decide
        · unfold lineR
          rw [if_neg (by omega), if_neg (by omega), if_neg (by omega), if_neg (by omega), if_neg (by omega), if_neg (by omega), if_neg (by omega), if_neg (by omega), if_pos (by omega), k0, k1]
          simp only [as_cons, as_app, as_nil, qa, qc]; decide
      rw [if_neg h4] at h
      by_cases h7 : t.kind = 7
      · rw [if_pos h7, Bool.and_eq_true] at h
        obtain ⟨a, c, hl, hoa, hoc⟩ := are2_inv h.2
        have k0 : kd t 0 = a := by unfold kd; rw [hl]; rfl
        have k1 : kd t 1 = c := by unfold kd; rw [hl]; rfl
        have qa := hp 2 0 a hoa
        have qc := hp 6 1 c hoc
        unfold lineR
        rw [if_neg (by omega), if_neg (by omega), if_neg (by omega), if_neg (by omega), if_neg (by omega), if_neg (by omega), if_pos (by omega), k0, k1]
        simp only [as_cons, as_app, as_nil, qa, qc]; decide
      rw [if_neg h7] at h
      by_cases h10 : t.kind = 10
      · rw [if_pos h10, Bool.and_eq_true] at h
        have q := as_jn (sep := [44, 32]) (l := t.kids.map (lineF f)) rfl (fun x hx => by
          obtain ⟨z, hz, rfl⟩ := List.mem_map.1 hx
          exact ih 2 z (List.all_eq_true.1 h.2 z hz))
        unfold lineR
        rw [if_neg (by omega), if_neg (by omega), if_neg (by omega), if_neg (by omega), if_neg (by omega), if_neg (by omega), if_neg (by omega), if_neg (by omega), if_neg (by omega), if_pos (by omega)]
        simp only [as_cons, as_app, as_nil, q]; decide
      rw [if_neg h10] at h
      cases h
    rw [if_neg g0] at h
    by_cases g1 : g = 1
    · rw [if_pos g1] at h
      unfold dimB at h
      by_cases h1 : t.kind = 1
      · rw [if_pos h1] at h; exact name1 h1 h
      rw [if_neg h1] at h
      by_cases h17 : t.kind = 17
      · rw [if_pos h17, Bool.and_eq_true] at h
        unfold lineR
        rw [if_pos (by omega)]
        exact as_digit h.1
      rw [if_neg h17] at h
      by_cases h16 : t.kind = 16
      · rw [if_pos h16, Bool.and_eq_true] at h
        obtain ⟨a, hl, hoa⟩ := are1_inv h.2
        have k0 : kd t 0 = a := by unfold kd; rw [hl]; rfl
        have qa := hp 6 1 a hoa
        unfold lineR
        rw [if_neg (by omega), if_neg (by omega), if_neg (by omega), if_neg (by omega), if_neg (by omega), if_neg (by omega), if_neg (by omega), if_neg (by omega), if_neg (by omega), if_neg (by omega), if_neg (by omega), if_neg (by omega), if_neg (by omega), if_neg (by omega), if_neg (by omega), if_pos (by omega), k0]
        simp only [as_cons, as_app, as_nil, qa]; decide
      rw [if_neg h16] at h
      by_cases h14 : t.kind = 15 ∨ t.kind = 14
      · rw [if_pos h14, Bool.and_eq_true] at h
        obtain ⟨a, c, hl, hoa, hoc⟩ := are2_inv h.2
        have k0 : kd t 0 = a := by unfold kd; rw [hl]; rfl
        have k1 : kd t 1 = c := by unfold kd; rw [hl]; rfl
        have qa := fun pl => hp pl 1 a hoa
        have qc := fun pl => hp pl 1 c hoc
        rcases h14 with h14 | h14
        · unfold lineR
          rw [if_neg (by omega), if_neg (by omega), if_neg (by omega), if_neg (by omega), if_neg (by omega), if_neg (by omega), if_neg (by omega), if_neg (by omega), if_neg (by omega), if_neg (by omega), if_neg (by omega), if_neg (by omega), if_neg (by omega), if_neg (by omega), if_pos (by omega), k0, k1]
          simp only [as_cons, as_app, as_nil, qa, qc]; decide
        · unfold lineR
          rw [if_neg (by omega), if_neg (by omega), if_neg (by omega), if_neg (by omega), if_neg (by omega), if_neg (by omega), if_neg (by omega), if_neg (by omega), if_neg (by omega), if_neg (by omega), if_neg (by omega), if_neg (by omega), if_neg (by omega), if_pos (by omega), k0, k1]
          simp only [as_cons, as_app, as_nil, qa, qc]; decide
      rw [if_neg h14] at h
      cases h
    rw [if_neg g1] at h
    by_cases g2 : g = 2
    · rw [if_pos g2] at h
      unfold elemB at h
      simp only [Bool.and_eq_true, decide_eq_true_eq, Bool.or_eq_true] at h
      obtain ⟨hk, _, hq⟩ := h
      unfold lineR
      rw [if_neg (by omega), if_neg (by omega), if_neg (by omega), if_neg (by omega), if_neg (by omega), if_neg (by omega), if_neg (by omega), if_neg (by omega), if_neg (by omega), if_neg (by omega), if_pos (by omega)]
      unfold elemR
      rcases hq with hq | hq
      · obtain ⟨c, hl, hc⟩ := are1_inv hq
        have k0 : kd t 0 = c := by unfold kd; rw [hl]; rfl
        rw [k0, hl, if_neg (by simp), List.append_nil]
        exact ih 3 c hc
      · obtain ⟨c, b, hl, hc, hb⟩ := are2_inv hq
        have k0 : kd t 0 = c := by unfold kd; rw [hl]; rfl
        have k1 : kd t 1 = b := by unfold kd; rw [hl]; rfl
        rw [k0, k1, hl, if_pos (show [c, b].length = 2 from rfl)]
        have qa := ih 3 c hc
        have qb := hp 0 0 b hb
        simp only [as_cons, as_app, as_nil, qa, qb]; decide
    rw [if_neg g2] at h
    by_cases g3 : g = 3
    · rw [if_pos g3] at h
      unfold faceB at h
      simp only [Bool.and_eq_true, decide_eq_true_eq] at h
      obtain ⟨hk, _, hq⟩ := h
      unfold lineR
      rw [if_neg (by omega), if_neg (by omega), if_neg (by omega), if_neg (by omega), if_neg (by omega), if_neg (by omega), if_neg (by omega), if_neg (by omega), if_neg (by omega), if_neg (by omega), if_neg (by omega), if_pos (by omega)]
      unfold faceR
      by_cases he : t.kids = []
      · rw [if_pos he]; decide
      · rw [if_neg he]
        exact as_flat (fun x hx => by
          obtain ⟨z, hz, rfl⟩ := List.mem_map.1 hx
          exact ih 4 z (List.all_eq_true.1 hq z hz))
    rw [if_neg g3] at h
    unfold eqB at h
    simp only [Bool.and_eq_true, decide_eq_true_eq] at h
    obtain ⟨hk, hn, hd, _⟩ := h
    unfold lineR
    rw [if_neg (by omega), if_neg (by omega), if_neg (by omega), if_neg (by omega), if_neg (by omega), if_neg (by omega), if_neg (by omega), if_neg (by omega), if_neg (by omega), if_neg (by omega), if_neg (by omega), if_neg (by omega), if_pos (by omega)]
    unfold eqR
    have q1 := as_name hn
    unfold digitsB at hd
    match hq : t.names, hd with
    | [d], hd =>
      have q2 := as_digit hd
      simp only [List.headD_cons, as_cons, as_app, as_nil, q1, q2]; decide
/-- How Scan answers of a text that scans. -/
theorem scanF_sc {s : Bs} {ks : List Kt} (ha : asB s = true) (hl : s.length ≤ 65536) (h : Sc s ks) : (scanF s).2.2 = 0 ∧ (scanF s).1.map ktT = ks := by
  have hU := utfP_ascii (s.length + 1) s (by omega) (fun x hx => of_decide_eq_true (List.all_eq_true.1 ha x hx))
  obtain ⟨us, hu, hm⟩ := h (s.length + 1) 0 (by omega)
  have e : scanF s = (us, 0, 0) := by
    unfold scanF
    unfold scanQ at hu
    simp_all [ansOf]
  rw [e]
  exact ⟨rfl, hm⟩
end Go.Proofs.YtahnbigkdfmpbaaDoor
