/- What the rules of show tell: which trees may be; the functions that are handed rules. -/
import Derived.Deep.RegionWith
import Derived.Shelf.Abstract
import Derived.Test.YtahnbigkdfmpbaaDoorSName
namespace Go.Proofs.YtahnbigkdfmpbaaDoor
open Go.RowKit
set_option linter.unusedVariables false
set_option linter.unusedSimpArgs false

theorem len_nil {α : Type} [DecidableEq α] (l : List α) : ((l.length : Int) == 0) = decide (l = []) := by rw [Bool.eq_iff_iff]; simp
theorem len_nilS (l : List Sx) : ((l.length : Int) == 0) = l.isEmpty := by cases l <;> rfl
set_option maxRecDepth 100000 in
theorem sNameless_any (n : Nat) (w : World) (t : Sx) (v : Value) (h : SxIn n w t v) : Calls Tryd.prog 31 #[v] w fun e w' => e = .returned (.bool (namelessB t)) ∧ Below w.heap.size w w' := by
  obtain ⟨ka, kc, na, nc, rfl, _, _⟩ := h.form
  have e1 := bs_nil t.name
  have e2 := len_nil t.names
  have hal := below_alloc w (.cells #[.int .i64 t.kind, .string (bs t.name), .slice ka t.kids.length kc, .slice na t.names.length nc, .int .i64 t.at_] 25)
  have H : Hid (namelessB t = (decide (t.name = []) && decide (t.names = []))) := rfl
  generalize namelessB t = r at *
  generalize decide (t.names = []) = q2 at *
  generalize bs t.name = X at *
  generalize t.names.length = M at *
  generalize t.kids.length = L at *
  cases hq : decide (t.name = [])
  all_goals
    rw [hq] at e1 H
    clear hq
    go_enter Tryd.func31, Tryd.ntmps31
    go_wp2
    go_ret
    exact ⟨ret_bool (by rw [H.out]; first | rfl | exact e2), hal⟩
set_option maxRecDepth 100000 in
theorem sNameTree_any (n : Nat) (w : World) (t : Sx) (v : Value) (h : SxIn n w t v) (hb : blk t ≤ 1000000) : Calls Tryd.prog 28 #[v] w fun e w' => e = .returned (.bool (nameTreeB t)) ∧ Below w.heap.size w w' := by
  obtain ⟨ka, kc, na, nc, rfl, _, _⟩ := h.form
  have c1 := fun w => sName_any t.name w (by have := blk_name t; omega)
  have e2 := len_nil t.names
  have e3 := len_nilS t.kids
  have hal := below_alloc w (.cells #[.int .i64 t.kind, .string (bs t.name), .slice ka t.kids.length kc, .slice na t.names.length nc, .int .i64 t.at_] 25)
  have H : Hid (nameTreeB t = (nameB t.name && (decide (t.names = []) && t.kids.isEmpty))) := by
    have : decide (t.kids = []) = t.kids.isEmpty := by cases t.kids <;> rfl
    rw [← this]; rfl
  generalize nameTreeB t = r at *
  generalize bs t.name = X at *
  generalize t.names.length = M at *
  generalize t.kids.length = L at *
  generalize t.kids.isEmpty = q3 at *
  generalize nameB t.name = q1 at *
  cases q1
  · go_enter Tryd.func28, Tryd.ntmps28
    go_wp2_with (go_at_call 55; refine (c1 _).mono ?_; rintro e w' ⟨rfl, hw⟩; rw [hw])
    go_ret
    exact ⟨ret_bool (by rw [H.out]; rfl), hal⟩
  · cases hq : decide (t.names = [])
    all_goals
      rw [hq] at e2 H
      clear hq
      go_enter Tryd.func28, Tryd.ntmps28
      go_wp2_with (go_at_call 55; refine (c1 _).mono ?_; rintro e w' ⟨rfl, hw⟩; rw [hw])
      go_ret
      exact ⟨ret_bool (by rw [H.out]; first | rfl | exact e3), hal⟩
/-- Names of which each is not too long. -/
theorem NmS.at {n : Nat} {w : World} {ns : List Bs} {a : Option Addr} {m cap : Nat} (h : NmS n w ns (.slice a m cap)) {j : Nat} {x : Bs} (hx : ns[j]? = some x) : ∃ g off, a = some ⟨g, off, none⟩ ∧ g < n ∧ w.cell? ⟨g, off + j, none⟩ = some (.string (bs x)) := by
  obtain ⟨a', cap', e, _, h⟩ := h
  cases e
  exact h j x hx
theorem NmS.room {n : Nat} {w : World} {ns : List Bs} {a : Option Addr} {m cap : Nat} (h : NmS n w ns (.slice a m cap)) : m ≤ cap := by
  obtain ⟨a', cap', e, hc, _⟩ := h
  cases e
  exact hc
theorem all_drop {α : Type} {l : List α} {k : Nat} {x : α} (f : α → Bool) (h : l[k]? = some x) : (l.drop k).all f = (f x && (l.drop (k + 1)).all f) := by
  obtain ⟨hlt, e⟩ := List.getElem?_eq_some_iff.1 h
  rw [List.drop_eq_getElem_cons hlt, e, List.all_cons]
set_option maxRecDepth 100000 in
set_option maxHeartbeats 1000000 in
theorem areNames_any (n : Nat) (w : World) (ns : List Bs) (v : Value) (h : NmS n w ns v) (hn : n ≤ w.heap.size) (hb : ns.length ≤ 1000000) (hc : ∀ x ∈ ns, x.length ≤ 1000000) : Calls Tryd.prog 29 #[v] w fun e w' => e = .returned (.bool (ns.all nameB)) ∧ Below w.heap.size w w' := by
  obtain ⟨a, cap, rfl⟩ : ∃ a cap, v = .slice a ns.length cap := let ⟨a, cap, e, _⟩ := h; ⟨a, cap, e⟩
  obtain ⟨L, hL⟩ : ∃ L, L = ns.length := ⟨_, rfl⟩
  have HL : Hid (L = ns.length) := hL
  rw [← hL] at h hb ⊢
  clear hL
  have HN : Hid (NmS n w ns (.slice a L cap)) := h
  clear h
  obtain ⟨r, hr⟩ : ∃ r, ns.all nameB = r := ⟨_, rfl⟩
  rw [hr]
  have H0 : Hid ((ns.drop 0).all nameB = r) := hr
  clear hr
  go_enter Tryd.func29, Tryd.ntmps29
  go_wp2
  go_loopw [7] (fun i wr => ∃ k : Nat, k ≤ L ∧ i = .int .i64 k ∧ Hid ((ns.drop k).all nameB = r) ∧ Below w.heap.size w wr) (fun i _ => L - (intOf i).toNat)
  case atStart => exact ⟨0, Nat.zero_le _, rfl, H0, Below.refl _ _⟩
  case round =>
    obtain ⟨k, hk, rfl, HK, hB⟩ := hrel
    clear H0
    by_cases hlt : k < L
    · obtain ⟨x, hx⟩ := someS (l := ns) (k := k) (by rw [← HL.out]; exact hlt)
      obtain ⟨g, off, rfl, hg, c0⟩ := HN.out.at hx
      have c0' := (hB.cell (p := ⟨g, off + k, none⟩) (by show g < _; omega)).trans c0
      have cN := fun w => sName_any x w (hc x (List.mem_of_getElem? hx))
      have HS : Hid (((nameB x) && (ns.drop (k + 1)).all nameB) = r) := by rw [← HK.out]; exact (all_drop _ hx).symm
      clear HK c0 hx
      generalize bs x = X at *
      generalize nameB x = q at *
      cases q
      · go_wp2_with (go_at_call 55; refine (cN _).mono ?_; rintro e w' ⟨rfl, hw⟩; rw [hw])
        go_ret
        exact ⟨ret_bool (by have := HS.out; simpa using this), hB⟩
      · go_wp2_with (go_at_call 55; refine (cN _).mono ?_; rintro e w' ⟨rfl, hw⟩; rw [hw])
        go_roundw
        case rel => exact ⟨k + 1, by omega, by go_num, (by have := HS.out; simpa using this : (ns.drop (k + 1)).all nameB = r), hB⟩
        case measure => simp [intOf]; omega
    · have hR : Hid (true = r) := by
        have h := HK.out
        rw [List.drop_of_length_le (by rw [← HL.out]; omega)] at h
        exact h
      clear HK
      go_wp2
      go_ret
      exact ⟨ret_bool hR.out, hB⟩
/-! ### functions that are handed rules -/
def fidOf (g : Nat) : Nat := if g = 0 then 18 else if g = 1 then 32 else if g = 2 then 34 else if g = 3 then 57 else 75
def fv (g : Nat) : Value := .func (.func (fidOf g)) #[] #[]
theorem eg_of (g : Nat) (hg : g < 5) : ∀ args w, (callFunc (fidOf g) args).run Tryd.prog w = .ok (.enter (fidOf g) args) w := by
  rcases (show g = 0 ∨ g = 1 ∨ g = 2 ∨ g = 3 ∨ g = 4 by omega) with rfl | rfl | rfl | rfl | rfl
  · exact enters_of Tryd.func18 (by kernel_rfl) rfl
  · exact enters_of Tryd.func32 (by kernel_rfl) rfl
  · exact enters_of Tryd.func34 (by kernel_rfl) rfl
  · exact enters_of Tryd.func57 (by kernel_rfl) rfl
  · exact enters_of Tryd.func75 (by kernel_rfl) rfl
def RuleS (f : Nat) : Prop := ∀ (g n d : Nat) (t : Sx) (v : Value) (w : World), g < 5 → d + f = 65537 → 1 ≤ f → SxIn n w t v → n ≤ w.heap.size → blk t ≤ 1000000 →
  Calls Tryd.prog (fidOf g) #[v, .int .i64 (d : Nat)] w fun e w' => e = .returned (.bool (okF f g t)) ∧ Below w.heap.size w w'
set_option maxRecDepth 100000 in
set_option maxHeartbeats 1000000 in
theorem fits_any (f : Nat) (hR : RuleS f) (g n d : Nat) (t : Sx) (v : Value) (w : World) (hg : g < 5) (hd : d + f = 65537) (h : SxIn n w t v) (hn : n ≤ w.heap.size) (hb : blk t ≤ 1000000) :
    Calls Tryd.prog 17 #[v, fv g, .int .i64 (d : Nat)] w fun e w' => e = .returned (.bool (okF f g t)) ∧ Below w.heap.size w w' := by
  obtain ⟨ka, kc, na, nc, rfl, _, _⟩ := h.form
  have hal := below_alloc w (.cells #[.int .i64 t.kind, .string (bs t.name), .slice ka t.kids.length kc, .slice na t.names.length nc, .int .i64 t.at_] 25)
  by_cases hf : 1 ≤ f
  · have eg := eg_of g hg
    have c := hR g n d t _ (w.alloc (.cells #[.int .i64 t.kind, .string (bs t.name), .slice ka t.kids.length kc, .slice na t.names.length nc, .int .i64 t.at_] 25)) hg hd hf (h.keep (hal.mono hn)) (Nat.le_trans hn hal.size) hb
    have e1 : decide ((d : Int) ≤ 65536) = true := decide_eq_true (by omega)
    unfold fv
    generalize fidOf g = fid at *
    clear hR h hd hf hb
    go_enter Tryd.func17, Tryd.ntmps17
    go_wp2_with fail
    refine c.mono ?_
    rintro e w' ⟨rfl, hb2⟩
    go_wp2_with fail
    go_ret
    exact ⟨rfl, chain hal hb2⟩
  · obtain rfl : f = 0 := by omega
    rw [okF_z]
    have e1 : decide ((d : Int) ≤ 65536) = false := decide_eq_false (by omega)
    clear hd hR hf
    unfold fv
    go_enter Tryd.func17, Tryd.ntmps17
    go_wp2
    go_ret
    exact ⟨rfl, hal⟩
end Go.Proofs.YtahnbigkdfmpbaaDoor
