/- The reader's small functions: what they tell, and what they pass. -/
import Derived.Deep.QuietTactic
import Derived.BigQuiet
import Derived.WalkSmall
import Derived.Test.YtahnbigkdfmpbaaDoorPBase
namespace Go.Proofs.YtahnbigkdfmpbaaDoor
open Go.RowKit
set_option linter.unusedVariables false
set_option linter.unusedSimpArgs false

/-- The token that is next, in memory. -/
theorem Rdr.In.head {r : Rdr} {w : World} {R : Ts} (h : r.In w R) : ∃ n : Nat, n ≤ r.A.length ∧ w.cell? ⟨r.b, 1, none⟩ = some (.int .i64 n) ∧ w.cell? ⟨r.g, n * 3, none⟩ = some (.int .i64 ((hd r.e R).kind : Nat)) ∧ w.cell? ⟨r.g, n * 3 + 1, none⟩ = some (.string (bs (hd r.e R).text)) ∧ w.cell? ⟨r.g, n * 3 + 2, none⟩ = some (.int .i64 ((hd r.e R).at_ : Nat)) := by
  obtain ⟨P, h1, h2⟩ := h.pre
  have hj : r.all[P.length]? = some (hd r.e R) := by
    rw [Rdr.all, h1, List.append_assoc, List.getElem?_append_right (Nat.le_refl _), Nat.sub_self]
    cases R with
    | nil => rfl
    | cons t R => rfl
  obtain ⟨a, b, c⟩ := h.toks _ _ hj
  simp only [Nat.zero_add] at a b c
  exact ⟨P.length, by rw [h1]; simp, h2, a, b, c⟩
theorem hd_at (e : Nat) (R : Ts) : (hd e R).at_ = atP e R := by cases R <;> rfl
theorem hd_txt (e : Nat) (R : Ts) : (hd e R).text = txt R := by cases R <;> rfl
theorem hd_kind (e : Nat) (R : Ts) : decide ((hd e R).kind = 1) = isN R := by cases R <;> rfl
theorem sees_txt (s : Bs) (R : Ts) : sees s R = decide (txt R = s) := by cases R <;> simp [sees, txt, eq_comm]
/-- The reader's pointer. -/
abbrev Rdr.ptr (r : Rdr) : Value := .pointer (some ⟨r.b, 0, none⟩)

set_option maxRecDepth 100000 in
set_option maxHeartbeats 1000000 in
theorem at_q (r : Rdr) (w : World) (R : Ts) (h : r.In w R) (hwf : r.wf) : Calls Tryd.prog 54 #[r.ptr] w fun e w' => e = .returned (.int .i64 (atP r.e R : Nat)) ∧ ∃ m, w' = w.drewN m := by
  obtain ⟨n, hn, c1, k0, k1, k2⟩ := h.head
  have c0 := h.c0
  have hl := hwf.1
  rw [hd_at] at k2
  clear h hwf k0 k1
  generalize r.A.length = N at *
  have e1 : (n : Int) < (N : Int) + 1 := by omega
  go_enter Tryd.func54, Tryd.ntmps54
  go_wp2
  go_quiet (fail)
  go_wp2
  go_ret
  exact ⟨rfl, _, rfl⟩
theorem at_any (r : Rdr) (w : World) (R : Ts) (h : r.In w R) (hwf : r.wf) : Calls Tryd.prog 54 #[r.ptr] w fun e w' => e = .returned (.int .i64 (atP r.e R : Nat)) ∧ Below w.heap.size w w' :=
  (at_q r w R h hwf).mono fun e w' ⟨h1, m, h2⟩ => ⟨h1, by rw [h2]; exact below_drewN (Below.refl _ _) _⟩

/-- What a rule gives up with. -/
def flt (p x : Nat) : PanicEntry := { v := .iface 63 (.agg #[.int .i64 (p : Nat), .int .i64 (x : Nat)]), recovered := false }
set_option maxRecDepth 100000 in
set_option maxHeartbeats 1000000 in
theorem seesName_q (r : Rdr) (w : World) (R : Ts) (h : r.In w R) (hwf : r.wf) : Calls Tryd.prog 65 #[r.ptr] w fun e w' => e = .returned (.bool (isN R)) ∧ ∃ m, w' = w.drewN m := by
  obtain ⟨n, hn, c1, k0, k1, k2⟩ := h.head
  have c0 := h.c0
  have hl := hwf.1
  have hk := hd_kind r.e R
  clear h hwf k1 k2
  generalize r.A.length = N at *
  generalize (hd r.e R).kind = K at *
  have e1 : (n : Int) < (N : Int) + 1 := by omega
  have hk2 : ((K : Int) == 1) = isN R := by rw [← hk, Bool.eq_iff_iff]; simp only [beq_iff_eq, decide_eq_true_eq]; omega
  clear hk
  go_enter Tryd.func65, Tryd.ntmps65
  go_wp2
  go_quiet (fail)
  go_wp2
  go_ret
  exact ⟨rfl, _, rfl⟩
theorem seesName_any (r : Rdr) (w : World) (R : Ts) (h : r.In w R) (hwf : r.wf) : Calls Tryd.prog 65 #[r.ptr] w fun e w' => e = .returned (.bool (isN R)) ∧ Below w.heap.size w w' :=
  (seesName_q r w R h hwf).mono fun e w' ⟨h1, m, h2⟩ => ⟨h1, by rw [h2]; exact below_drewN (Below.refl _ _) _⟩
theorem bs_eq_iff (a b : Bs) : bs a = bs b ↔ a = b := ⟨fun h => by rw [← tl_bs a, h, tl_bs], fun h => by rw [h]⟩
theorem bs_beq (a b : Bs) : ((bs a).toList == (bs b).toList) = decide (a = b) := by
  rw [Lib.toList_data, Lib.toList_data, tl_def, tl_def, tl_bs, tl_bs]
  rw [Bool.eq_iff_iff]; simp
set_option maxRecDepth 100000 in
set_option maxHeartbeats 1000000 in
theorem sees_q (s : Bs) (r : Rdr) (w : World) (R : Ts) (h : r.In w R) (hwf : r.wf) : Calls Tryd.prog 47 #[r.ptr, .string (bs s)] w fun e w' => e = .returned (.bool (sees s R)) ∧ ∃ m, w' = w.drewN m := by
  obtain ⟨n, hn, c1, k0, k1, k2⟩ := h.head
  have c0 := h.c0
  have hl := hwf.1
  rw [hd_txt] at k1
  have hk2 : ((bs (txt R)).toList == (bs s).toList) = sees s R := by rw [sees_txt, bs_beq]
  clear h hwf k0 k2
  generalize r.A.length = N at *
  generalize bs (txt R) = X at *
  generalize bs s = Y at *
  have e1 : (n : Int) < (N : Int) + 1 := by omega
  go_enter Tryd.func47, Tryd.ntmps47
  go_wp2
  go_quiet (fail)
  go_wp2
  go_ret
  exact ⟨rfl, _, rfl⟩
theorem sees_any (s : Bs) (r : Rdr) (w : World) (R : Ts) (h : r.In w R) (hwf : r.wf) : Calls Tryd.prog 47 #[r.ptr, .string (bs s)] w fun e w' => e = .returned (.bool (sees s R)) ∧ Below w.heap.size w w' :=
  (sees_q s r w R h hwf).mono fun e w' ⟨h1, m, h2⟩ => ⟨h1, by rw [h2]; exact below_drewN (Below.refl _ _) _⟩
set_option maxRecDepth 100000 in
set_option maxHeartbeats 1000000 in
theorem wrong_any (x : Nat) (r : Rdr) (w : World) (R : Ts) (h : r.In w R) (hwf : r.wf) : Calls Tryd.prog 27 #[r.ptr, .int .i64 (x : Nat)] w fun e w' => e = .panicked [flt (atP r.e R) x] ∧ Below w.heap.size w w' := by
  have c := at_any r w R h hwf
  generalize atP r.e R = p at *
  go_enter Tryd.func27, Tryd.ntmps27
  go_wp2_with (go_at_call 54; refine c.mono ?_; rintro e w' ⟨rfl, hb⟩)
  exact ⟨rfl, rfl, hb⟩

theorem wrap_in {x : Int} (h1 : -9223372036854775808 ≤ x) (h2 : x ≤ 9223372036854775807) : IntKind.i64.wrap x = x := by
  simp [IntKind.wrap, IntKind.bits, IntKind.signed, IntKind.min, IntKind.max]
  omega
/-- What a rule of the reader does: it gives up, or tells what is so of a value, and passes tokens. -/
def Out {α : Type} (r : Rdr) (w : World) (val : α → World → Value → Prop) : Rs α → Ending → World → Prop
  | .inl (p, x), e, w' => e = .panicked [flt p x] ∧ Below r.b w w'
  | .inr (a, R), e, w' => ∃ v, e = .returned v ∧ val a w' v ∧ r.In w' R ∧ Kp r.b w w'
theorem Out.bad_of {α : Type} {r : Rdr} {w w' : World} {val : α → World → Value → Prop} {X : Rs α} {p x : Nat} (hX : X = .bad p x) (h : Below r.b w w') : Out r w val X (.panicked [flt p x]) w' := by subst hX; exact ⟨rfl, h⟩
theorem Out.ok_of {α : Type} {r : Rdr} {w w' : World} {val : α → World → Value → Prop} {X : Rs α} {a : α} {R : Ts} {v : Value} (hX : X = .ok a R) (h : val a w' v) (hI : r.In w' R) (hk : Kp r.b w w') : Out r w val X (.returned v) w' := by subst hX; exact ⟨v, rfl, h, hI, hk⟩
theorem Rdr.In.ble {r : Rdr} {w w' : World} {R : Ts} (h : r.In w R) (hb : Below w.heap.size w w') : Below r.b w w' := hb.mono (Nat.le_of_lt h.lt.2)
theorem sees_cons {s : Bs} (hs : s ≠ []) {R : Ts} (h : sees s R = true) : ∃ t R', R = t :: R' ∧ t.text = s := by
  cases R with
  | nil => simp [sees] at h; exact absurd h hs
  | cons t R => exact ⟨t, R, rfl, by simpa [sees] using h⟩
theorem isN_cons {R : Ts} (h : isN R = true) : ∃ t R', R = t :: R' ∧ t.kind = 1 := by
  cases R with
  | nil => cases h
  | cons t R => exact ⟨t, R, rfl, by simpa [isN] using h⟩
set_option maxRecDepth 100000 in
set_option maxHeartbeats 1000000 in
theorem take_any (s : Bs) (hs : s ≠ []) (r : Rdr) (w : World) (R : Ts) (hR : r.In w R) (hwf : r.wf) :
    Calls Tryd.prog 72 #[r.ptr, .string (bs s)] w fun e w' => e = .returned (.bool (sees s R)) ∧ r.In w' (if sees s R then R.tail else R) ∧ Kp r.b w w' := by
  have c := sees_any s r w R hR hwf
  cases hq : sees s R with
  | false =>
    rw [hq] at c
    simp only [if_true, Bool.false_eq_true, if_false]
    go_enter Tryd.func72, Tryd.ntmps72
    go_wp2_with (go_at_call 47; refine c.mono ?_; rintro e w' ⟨rfl, hb⟩)
    go_ret
    exact ⟨rfl, hR.below hb, Kp.of_below hb⟩
  | true =>
    rw [hq] at c
    simp only [if_true, Bool.false_eq_true, if_false]
    obtain ⟨t, R', rfl, _⟩ := sees_cons hs hq
    have hl := hwf.1
    go_enter Tryd.func72, Tryd.ntmps72
    go_wp2_with fail
    refine c.mono ?_
    rintro e w' ⟨rfl, hb⟩
    obtain ⟨n, c1, hn, _, hI⟩ := (hR.below hb).pass
    have fz := (hR.below hb).fz
    have hk := (Kp.of_below (b := r.b) hb).setCell (p := ⟨r.b, 1, none⟩) (.inl rfl) (.int .i64 ((n : Int) + 1))
    clear c hR hq
    go_wp2_with fail
    go_ret
    exact ⟨rfl, hI, hk⟩
set_option maxRecDepth 100000 in
set_option maxHeartbeats 1000000 in
theorem must_any (s : Bs) (hs : s ≠ []) (r : Rdr) (w : World) (R : Ts) (hR : r.In w R) (hwf : r.wf) :
    Calls Tryd.prog 67 #[r.ptr, .string (bs s)] w (Out r w (fun _ _ v => v = .tuple #[]) (mustP r.e s R)) := by
  have c := take_any s hs r w R hR hwf
  unfold mustP
  cases hq : sees s R with
  | true =>
    rw [hq] at c
    simp only [if_true, Bool.false_eq_true, if_false] at c ⊢
    go_enter Tryd.func67, Tryd.ntmps67
    go_wp2_with (go_at_call 72; refine c.mono ?_; rintro e w' ⟨rfl, hI, hk⟩)
    go_end0
    exact ⟨_, rfl, rfl, hI, hk⟩
  | false =>
    rw [hq] at c
    simp only [if_true, Bool.false_eq_true, if_false] at c ⊢
    go_enter Tryd.func67, Tryd.ntmps67
    go_wp2_with fail
    refine c.mono ?_
    rintro e w' ⟨rfl, hI, hk⟩
    have c2 := wrong_any 61 r w' R hI hwf
    clear c hq
    go_wp2_with fail
    refine c2.mono ?_
    rintro e w2 ⟨rfl, hb⟩
    exact ⟨rfl, rfl, (hk.below (Nat.le_of_lt hR.lt.2)).trans (hI.ble hb)⟩
set_option maxRecDepth 100000 in
set_option maxHeartbeats 1000000 in
theorem name_any (r : Rdr) (w : World) (R : Ts) (hR : r.In w R) (hwf : r.wf) :
    Calls Tryd.prog 70 #[r.ptr] w (Out r w (fun n _ v => v = .string (bs n)) (nameP r.e R)) := by
  have c := seesName_any r w R hR hwf
  unfold nameP
  cases hq : isN R with
  | false =>
    rw [hq] at c
    simp only [if_true, Bool.false_eq_true, if_false] at c ⊢
    go_enter Tryd.func70, Tryd.ntmps70
    go_wp2_with fail
    refine c.mono ?_
    rintro e w' ⟨rfl, hb⟩
    have c2 := wrong_any 61 r w' R (hR.below hb) hwf
    clear c hq
    go_wp2_with fail
    refine c2.mono ?_
    rintro e w2 ⟨rfl, hb2⟩
    exact ⟨rfl, rfl, (hR.ble hb).trans ((hR.below hb).ble hb2)⟩
  | true =>
    rw [hq] at c
    simp only [if_true, Bool.false_eq_true, if_false] at c ⊢
    obtain ⟨t, R', rfl, _⟩ := isN_cons hq
    have hl := hwf.1
    go_enter Tryd.func70, Tryd.ntmps70
    go_wp2_with fail
    refine c.mono ?_
    rintro e w' ⟨rfl, hb⟩
    have h' := hR.below hb
    obtain ⟨n, c1, hn, hA, hI⟩ := h'.pass
    have fz := h'.fz
    have hk := (Kp.of_below (b := r.b) hb).setCell (p := ⟨r.b, 1, none⟩) (.inl rfl) (.int .i64 ((n : Int) + 1))
    have c0 := h'.c0
    have k1 : w'.cell? ⟨r.g, n * 3 + 1, none⟩ = some (.string (bs t.text)) := by
      have := (h'.toks n t (by rw [Rdr.all, List.getElem?_append_left hn]; exact hA)).2.1
      simpa using this
    have hne : ¬ r.g = r.b := by have := h'.lt; omega
    have hne2 : ¬ r.b = r.g := by have := h'.lt; omega
    clear c hR hq hA hb h'
    have c0' := hI.c0
    have c1' : (w'.setCell ⟨r.b, 1, none⟩ (.int .i64 ((n : Int) + 1))).cell? ⟨r.b, 1, none⟩ = some (.int .i64 ((n : Int) + 1)) := World.cell?_setCell_same w' _ _ c1
    have k1' : (w'.setCell ⟨r.b, 1, none⟩ (.int .i64 ((n : Int) + 1))).cell? ⟨r.g, n * 3 + 1, none⟩ = some (.string (bs t.text)) := by
      rw [World.cell?_setCell_other _ _ _ _ (fun hx => hne2 (congrArg Addr.block hx))]; exact k1
    have g1 : IntKind.i64.wrap ((n : Int) + 1 - 1) = (n : Int) := by rw [wrap_in (by omega) (by omega)]; omega
    have e1 : (n : Int) < (r.A.length : Int) + 1 := by omega
    generalize r.A.length = N at *
    go_wp2_with fail
    generalize w'.setCell ⟨r.b, 1, none⟩ (.int .i64 ((n : Int) + 1)) = w2 at *
    clear c1 k1 c0 fz hne hne2
    go_quiet (fail)
    go_wp2
    go_ret
    exact ⟨_, rfl, rfl, hI.below (below_drewN (Below.refl _ _) _), hk.trans (Kp.of_below (below_drewN (Below.refl _ _) _))⟩
end Go.Proofs.YtahnbigkdfmpbaaDoor
