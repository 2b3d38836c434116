/- The reader's functions, further: what may begin, digits, arrows, names, binders. -/
import Derived.Deep.LoopGhost
import Derived.Test.YtahnbigkdfmpbaaDoorPPrim
namespace Go.Proofs.YtahnbigkdfmpbaaDoor
open Go.RowKit
set_option linter.unusedVariables false
set_option linter.unusedSimpArgs false

theorem chainK {b : Nat} {w1 w2 w3 : World} (h : Kp b w1 w2) (h2 : Below w2.heap.size w2 w3) : Kp b w1 w3 := h.trans (Kp.of_below h2)
theorem drewN_below (w : World) (m : Nat) : Below w.heap.size w (w.drewN m) := below_drewN (Below.refl _ _) _

/-- Cells that hold strings. -/
def CellsS (w : World) (g : Nat) (l : List Bs) : Prop := ∀ j n, l[j]? = some n → w.cell? ⟨g, j, none⟩ = some (.string (bs n))
def posS (s : Bs) (k : Nat) : List Bs → Int
  | [] => -1
  | x :: l => if s = x then (k : Int) else posS s (k + 1) l
theorem posS_mem (s : Bs) (l : List Bs) : ∀ k, (0 ≤ posS s k l ↔ s ∈ l) := by
  induction l with
  | nil => intro k; simp [posS]
  | cons x l ih =>
    intro k
    simp only [posS, List.mem_cons]
    by_cases h : s = x
    · simp [h]
    · simp only [h, if_false, false_or]; exact ih (k + 1)
theorem posS_hi (s : Bs) (l : List Bs) : ∀ k, posS s k l < (k + l.length : Nat) := by
  induction l with
  | nil => intro k; simp [posS]; omega
  | cons x l ih =>
    intro k
    simp only [posS]
    split
    · simp; omega
    · have := ih (k + 1); simp at this ⊢; omega
theorem posS_drop {s : Bs} {l : List Bs} {k : Nat} {x : Bs} (hx : l[k]? = some x) : posS s k (l.drop k) = if s = x then (k : Int) else posS s (k + 1) (l.drop (k + 1)) := by
  have hlt : k < l.length := by
    rcases Nat.lt_or_ge k l.length with h | h
    · exact h
    · rw [List.getElem?_eq_none h] at hx; cases hx
  rw [List.drop_eq_getElem_cons hlt]
  rw [List.getElem?_eq_getElem hlt] at hx
  rw [posS, Option.some.inj hx]
set_option maxRecDepth 100000 in
set_option maxHeartbeats 1000000 in
theorem index_any (l : List Bs) (s : Bs) (g cap : Nat) (w : World) (hl : l.length ≤ 1000) (hc : CellsS w g l) :
    Calls Tryd.prog 84 #[.slice (some ⟨g, 0, none⟩) l.length cap, .string (bs s)] w fun e w' => e = .returned (.int .i64 (posS s 0 l)) ∧ w' = w := by
  obtain ⟨N, hN⟩ : ∃ N, N = l.length := ⟨_, rfl⟩
  have HN : Hid (N = l.length) := hN
  rw [← hN] at hl ⊢
  obtain ⟨Q, hQ⟩ : ∃ Q, posS s 0 l = Q := ⟨_, rfl⟩
  rw [hQ]
  have HQ : Hid (posS s 0 l = Q) := hQ
  have HC : Hid (CellsS w g l) := hc
  clear hN hQ hc
  go_enter Tryd.func84, Tryd.ntmps84
  go_wp2
  go_loop [8] (fun i => ∃ k : Nat, k ≤ N ∧ i = .int .i64 k ∧ Hid (posS s k (l.drop k) = Q)) (fun i => N - (intOf i).toNat)
  case atStart => exact ⟨0, by omega, rfl, HQ⟩
  case round =>
    obtain ⟨k, hk, rfl, HK⟩ := hrel
    by_cases hlt : k < N
    · obtain ⟨x, hx⟩ : ∃ x, l[k]? = some x := ⟨l[k]'(by rw [← HN.out]; exact hlt), List.getElem?_eq_getElem _⟩
      have c := HC.out k x hx
      have hp := posS_drop (s := s) hx
      have hb := bs_beq s x
      by_cases hq : s = x
      · have HE : Hid (Q = k) := by rw [← HK.out, hp, if_pos hq]; rfl
        rw [decide_eq_true hq] at hb
        clear hp hq hx
        generalize bs x = X at *
        generalize bs s = Y at *
        go_wp2
        go_ret
        exact ⟨ret_int HE.out.symm, rfl⟩
      · have HE : Hid (posS s (k + 1) (l.drop (k + 1)) = Q) := by rw [← HK.out, hp, if_neg hq]; rfl
        rw [decide_eq_false hq] at hb
        clear hp hq hx
        generalize bs x = X at *
        generalize bs s = Y at *
        go_wp2
        go_round
        case rel => exact ⟨k + 1, by omega, by go_num, HE⟩
        case measure => simp [intOf]; omega
    · have HE : Hid (Q = -1) := by rw [← HK.out, List.drop_of_length_le (by rw [← HN.out]; omega)]; rfl
      go_wp2
      go_ret
      exact ⟨ret_int HE.out.symm, rfl⟩
set_option maxRecDepth 100000 in
theorem contains_any (l : List Bs) (s : Bs) (g cap : Nat) (w : World) (hl : l.length ≤ 1000) (hc : CellsS w g l) :
    Calls Tryd.prog 66 #[.slice (some ⟨g, 0, none⟩) l.length cap, .string (bs s)] w fun e w' => e = .returned (.bool (decide (s ∈ l))) ∧ w' = w := by
  have c := index_any l s g cap w hl hc
  have h := posS_mem s l 0
  have h2 : decide (0 ≤ posS s 0 l) = decide (s ∈ l) := by rw [decide_eq_decide]; exact h
  rw [← h2]
  generalize posS s 0 l = p at *
  clear h h2
  generalize bs s = X at *
  go_enter Tryd.func66, Tryd.ntmps66
  go_wp2_with (go_at_call 84; refine c.mono ?_; rintro e w' ⟨rfl, hw⟩; rw [hw])
  go_ret
  exact ⟨rfl, rfl⟩
set_option maxRecDepth 100000 in
set_option maxHeartbeats 1000000 in
theorem digit_any (r : Rdr) (w : World) (R : Ts) (hR : r.In w R) (hwf : r.wf) :
    Calls Tryd.prog 88 #[r.ptr] w (Out r w (fun n _ v => v = .string (bs n)) (digitP r.e R)) := by
  have c := take_any [48] (by simp) r w R hR hwf
  obtain ⟨X, hX⟩ : ∃ X, digitP r.e R = X := ⟨_, rfl⟩
  rw [hX]
  unfold digitP at hX
  cases hq : sees [48] R with
  | true =>
    rw [hq] at c hX
    simp only [if_true] at c hX
    have HX : Hid (_ = X) := hX
    clear hX
    go_enter Tryd.func88, Tryd.ntmps88
    go_wp2_with (go_at_call 72; refine c.mono ?_; rintro e w' ⟨rfl, hI, hk⟩)
    go_ret
    exact Out.ok_of HX.out.symm rfl hI hk
  | false =>
    rw [hq] at c hX
    simp only [Bool.false_eq_true, if_false] at c hX
    have c2 := fun w' (hI : r.In w' R) => must_any [49] (by simp) r w' R hI hwf
    unfold mustP at c2
    cases hq2 : sees [49] R with
    | true =>
      simp only [hq2, if_true] at c2 hX
      have HX : Hid (_ = X) := hX
      clear hX hq hq2
      go_enter Tryd.func88, Tryd.ntmps88
      go_wp2_with fail
      refine c.mono ?_
      rintro e w' ⟨rfl, hI, hk⟩
      clear c
      go_wp2_with fail
      refine (c2 w' hI).mono ?_
      rintro e w2 ⟨v, rfl, rfl, hI2, hk2⟩
      clear c2
      go_wp2_with fail
      go_ret
      exact Out.ok_of HX.out.symm rfl hI2 (hk.trans hk2)
    | false =>
      simp only [hq2, Bool.false_eq_true, if_false] at c2 hX
      have HX : Hid (_ = X) := hX
      clear hX hq hq2
      go_enter Tryd.func88, Tryd.ntmps88
      go_wp2_with fail
      refine c.mono ?_
      rintro e w' ⟨rfl, hI, hk⟩
      clear c
      go_wp2_with fail
      refine (c2 w' hI).mono ?_
      rintro e w2 ⟨rfl, hb⟩
      exact ⟨rfl, Out.bad_of HX.out.symm ((hk.below (Nat.le_of_lt hR.lt.2)).trans hb)⟩
set_option maxRecDepth 100000 in
set_option maxHeartbeats 1000000 in
theorem arrow_any (r : Rdr) (w : World) (R : Ts) (hR : r.In w R) (hwf : r.wf) :
    Calls Tryd.prog 52 #[r.ptr] w fun e w' => e = .returned (.tuple #[.int .i64 (arrK R : Nat), .bool (arrB R)]) ∧ r.In w' (arrR R) ∧ Kp r.b w w' := by
  have c := take_any [45, 62] (by simp) r w R hR hwf
  obtain ⟨K, hK⟩ : ∃ K, arrK R = K := ⟨_, rfl⟩
  obtain ⟨B, hB⟩ : ∃ B, arrB R = B := ⟨_, rfl⟩
  obtain ⟨S, hS⟩ : ∃ S, arrR R = S := ⟨_, rfl⟩
  rw [hK, hB, hS]
  unfold arrK at hK
  unfold arrR at hS
  rw [hB] at hS
  unfold arrB at hB
  cases hq : sees [45, 62] R with
  | true =>
    rw [hq] at c hK hB
    simp only [if_true, Bool.true_or] at c hK hB
    subst hK hB
    simp only [if_true] at hS
    subst hS
    go_enter Tryd.func52, Tryd.ntmps52
    go_wp2_with (go_at_call 72; refine c.mono ?_; rintro e w' ⟨rfl, hI, hk⟩)
    go_ret2
    exact ⟨rfl, hI, hk⟩
  | false =>
    rw [hq] at c hK hB
    simp only [Bool.false_eq_true, if_false, Bool.false_or] at c hK hB
    have c2 := fun w' (hI : r.In w' R) => take_any [42] (by simp) r w' R hI hwf
    rw [hB] at c2
    rw [hS] at c2
    subst hK
    clear hq hB hS
    go_enter Tryd.func52, Tryd.ntmps52
    go_wp2_with fail
    refine c.mono ?_
    rintro e w' ⟨rfl, hI, hk⟩
    clear c
    go_wp2_with fail
    refine (c2 w' hI).mono ?_
    rintro e w2 ⟨rfl, hI2, hk2⟩
    clear c2
    go_wp2_with fail
    go_ret2
    exact ⟨rfl, hI2, hk.trans hk2⟩

/-! ### what may begin -/
def enterU (e : Nat) (l : Nat) (signs : List Bs) (R : Ts) : Rs Unit := if isN R || decide (txt R ∈ signs) then (if 200 < l then wrongP e 62 R else .ok () R) else wrongP e 61 R
theorem enterQ_eq (e l : Nat) (signs : List Bs) (R : Ts) (k : Rs Tr) : enterQ e l signs R k = (enterU e l signs R).bnd fun _ _ => k := by
  unfold enterQ enterU
  split
  · split <;> rfl
  · rfl
set_option maxRecDepth 100000 in
set_option maxHeartbeats 2000000 in
theorem enter_any (signs : List Bs) (l g cap : Nat) (r : Rdr) (w : World) (R : Ts) (hR : r.In w R) (hwf : r.wf) (hl : l ≤ 1000) (hs : signs.length ≤ 1000) (hc : CellsS w g signs) (hg : g < w.heap.size) :
    Calls Tryd.prog 46 #[r.ptr, .int .i64 (l : Nat), .slice (some ⟨g, 0, none⟩) signs.length cap] w (Out r w (fun _ _ v => v = .tuple #[]) (enterU r.e l signs R)) := by
  have cN := fun m => seesName_q r (w.drewN m) R (hR.below (drewN_below w m)) hwf
  have cS := fun m => contains_any signs (txt R) g cap (w.drewN m) hs (fun j n hj => ((drewN_below w m).cell hg).trans (hc j n hj))
  have cW := fun x w' (h : r.In w' R) => wrong_any x r w' R h hwf
  obtain ⟨X, hX⟩ : ∃ X, enterU r.e l signs R = X := ⟨_, rfl⟩
  rw [hX]
  unfold enterU wrongP at hX
  have HX : Hid (_ = X) := hX
  clear hX
  obtain ⟨n, hn, c1, k0, k1, k2⟩ := hR.head
  have c0 := hR.c0
  rw [hd_txt] at k1
  have hA := hwf.1
  have e1 : (n : Int) < (r.A.length : Int) + 1 := by omega
  clear k0 k2
  by_cases hN : isN R = true
  · rw [hN] at cN HX
    simp only [Bool.true_or, if_true] at HX
    clear hN
    by_cases h2 : 200 < l
    · have HX' : Hid (X = .bad (atP r.e R) 62) := by rw [← HX.out, if_pos h2]; rfl
      have h3 : (200 : Int) < (l : Int) := by omega
      clear HX h2
      go_enter Tryd.func46, Tryd.ntmps46
      go_wp2_with fail
      go_quiet (first | (go_at_call 65; exact Calls.quiet_of (cN _)) | (go_at_call 66; exact Calls.quiet_of_same (cS _)))
      clear cN cS
      go_wp2_with fail
      refine (cW 62 _ (hR.below (drewN_below w _))).mono ?_
      rintro e w2 ⟨rfl, hb⟩
      exact ⟨rfl, Out.bad_of HX'.out (hR.ble (chain (drewN_below w _) hb))⟩
    · have HX' : Hid (X = .ok () R) := by rw [← HX.out, if_neg h2]; rfl
      have h3 : ¬ (200 : Int) < (l : Int) := by omega
      clear HX h2
      go_enter Tryd.func46, Tryd.ntmps46
      go_wp2_with fail
      go_quiet (first | (go_at_call 65; exact Calls.quiet_of (cN _)) | (go_at_call 66; exact Calls.quiet_of_same (cS _)))
      clear cN cS
      go_wp2_with fail
      go_end0
      exact Out.ok_of HX'.out rfl (hR.below (drewN_below w _)) (Kp.of_below (drewN_below w _))
  · have hN : isN R = false := by simpa using hN
    rw [hN] at cN HX
    simp only [Bool.false_or] at HX
    clear hN
    by_cases hS : txt R ∈ signs
    · rw [decide_eq_true hS] at cS HX
      simp only [if_true] at HX
      clear hS
      by_cases h2 : 200 < l
      · have HX' : Hid (X = .bad (atP r.e R) 62) := by rw [← HX.out, if_pos h2]; rfl
        have h3 : (200 : Int) < (l : Int) := by omega
        clear HX h2
        go_enter Tryd.func46, Tryd.ntmps46
        go_wp2_with fail
        go_quiet (first | (go_at_call 65; exact Calls.quiet_of (cN _)) | (go_at_call 66; exact Calls.quiet_of_same (cS _)))
        clear cN cS
        go_wp2_with fail
        refine (cW 62 _ (hR.below (drewN_below w _))).mono ?_
        rintro e w2 ⟨rfl, hb⟩
        exact ⟨rfl, Out.bad_of HX'.out (hR.ble (chain (drewN_below w _) hb))⟩
      · have HX' : Hid (X = .ok () R) := by rw [← HX.out, if_neg h2]; rfl
        have h3 : ¬ (200 : Int) < (l : Int) := by omega
        clear HX h2
        go_enter Tryd.func46, Tryd.ntmps46
        go_wp2_with fail
        go_quiet (first | (go_at_call 65; exact Calls.quiet_of (cN _)) | (go_at_call 66; exact Calls.quiet_of_same (cS _)))
        clear cN cS
        go_wp2_with fail
        go_end0
        exact Out.ok_of HX'.out rfl (hR.below (drewN_below w _)) (Kp.of_below (drewN_below w _))
    · rw [decide_eq_false hS] at cS HX
      simp only [Bool.false_eq_true, if_false] at HX
      clear hS
      go_enter Tryd.func46, Tryd.ntmps46
      go_wp2_with fail
      go_quiet (first | (go_at_call 65; exact Calls.quiet_of (cN _)) | (go_at_call 66; exact Calls.quiet_of_same (cS _)))
      clear cN cS
      go_wp2_with fail
      refine (cW 61 _ (hR.below (drewN_below w _))).mono ?_
      rintro e w2 ⟨rfl, hb⟩
      exact ⟨rfl, Out.bad_of HX.out.symm (hR.ble (chain (drewN_below w _) hb))⟩
end Go.Proofs.YtahnbigkdfmpbaaDoor
