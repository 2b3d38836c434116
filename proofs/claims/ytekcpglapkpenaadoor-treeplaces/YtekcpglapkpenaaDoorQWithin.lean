/- The places of a tree: begins and within of the statements. -/
import Derived.Test.YtekcpglapkpenaaDoorQSame
import Derived.Test.YtekcpglapkpenaaDoorPInv
namespace Go.Proofs.YtekcpglapkpenaaDoor
open Go.RowKit
set_option linter.unusedVariables false
set_option linter.unusedSimpArgs false

theorem find_at {ts : List Tok} {p k : Nat} {t : Tok} (h : ts[k]? = some t) : (ts.drop k).find? (fun t => decide (t.at_ = p)) = if t.at_ = p then some t else (ts.drop (k + 1)).find? (fun t => decide (t.at_ = p)) := by
  have hlt : k < ts.length := by
    rcases Nat.lt_or_ge k ts.length with h1 | h1
    · exact h1
    · rw [List.getElem?_eq_none h1] at h; cases h
  rw [List.getElem?_eq_getElem hlt] at h
  rw [List.drop_eq_getElem_cons hlt, Option.some.inj h, List.find?_cons]
  by_cases hp : t.at_ = p <;> simp [hp]
set_option maxRecDepth 100000 in
set_option maxHeartbeats 1000000 in
theorem begins_any (ts : List Tok) (g cap p : Nat) (tx : Bs) (w : World) (hl : ts.length ≤ 100000) (hg : g < w.heap.size) (hc : CellsT w g 0 ts) (hlk : (ts.find? fun t => decide (t.at_ = p)).map (·.text) = some tx) :
    Calls Tryd.prog 25 #[.slice (some ⟨g, 0, none⟩) ts.length cap, .int .i64 (p : Nat)] w fun e w' => e = .returned (.tuple #[.string (bs tx), .bool true]) ∧ Below w.heap.size w w' := by
  obtain ⟨n, hn⟩ : ∃ n, n = ts.length := ⟨_, rfl⟩
  have Hn : Hid (n = ts.length) := hn
  have HC : Hid (CellsT w g 0 ts) := hc
  have HK0 : Hid (((ts.drop 0).find? fun t => decide (t.at_ = p)).map (·.text) = some tx) := hlk
  rw [← hn] at hl ⊢
  clear hn hc hlk
  go_enter Tryd.func25, Tryd.ntmps25
  go_wp2
  go_loopw [10] (fun i wr => ∃ k : Nat, k ≤ n ∧ i = .int .i64 k ∧ Hid (((ts.drop k).find? fun t => decide (t.at_ = p)).map (·.text) = some tx) ∧ Below w.heap.size w wr) (fun i _ => n - (intOf i).toNat)
  case atStart => exact ⟨0, by omega, rfl, HK0, Below.refl _ _⟩
  case round =>
    obtain ⟨k, hk, rfl, HK, hB⟩ := hrel
    clear HK0
    by_cases hlt : k < n
    · obtain ⟨t, ht⟩ := some_of (l := ts) (k := k) (by rw [← Hn.out]; exact hlt)
      obtain ⟨a0, a1, a2⟩ := (CellsT.below HC.out hB hg) k t ht
      simp only [Nat.zero_add] at a0 a1 a2
      have hf := find_at (p := p) ht
      have hal := below_alloc wr (.cells #[.int .i64 (t.kind : Nat), .string (bs t.text), .int .i64 (t.at_ : Nat)] 57)
      clear ht
      by_cases hp : t.at_ = p
      · have HE : Hid (tx = t.text) := by
          have h := HK.out
          rw [hf, if_pos hp] at h
          simp at h
          exact h.symm
        have e1 : (((t.at_ : Nat) : Int) == (p : Int)) = true := by rw [hp]; simp
        obtain ⟨X, hX⟩ : ∃ X, X = bs t.text := ⟨_, rfl⟩
        have HX : Hid (X = bs tx) := by rw [HE.out]; exact hX
        rw [← hX] at a1 hal
        clear hf hp HE HK hX
        generalize ((t.kind : Nat) : Int) = K at *
        generalize ((t.at_ : Nat) : Int) = P at *
        generalize (p : Int) = P' at *
        go_wp2
        go_ret2
        exact ⟨by rw [← HX.out]; rfl, chain hB hal⟩
      · have HE : Hid (((ts.drop (k + 1)).find? fun t => decide (t.at_ = p)).map (·.text) = some tx) := by
          have h := HK.out
          rw [hf, if_neg hp] at h
          exact h
        have e1 : (((t.at_ : Nat) : Int) == (p : Int)) = false := by simp; omega
        clear hf hp HK
        generalize bs t.text = X at *
        generalize ((t.kind : Nat) : Int) = K at *
        generalize ((t.at_ : Nat) : Int) = P at *
        generalize (p : Int) = P' at *
        go_wp2
        go_roundw
        case rel => exact ⟨k + 1, by omega, by go_num, HE, chain hB hal⟩
        case measure => simp [intOf]; omega
    · have h := HK.out
      rw [List.drop_of_length_le (by rw [← Hn.out]; omega)] at h
      simp at h
set_option maxRecDepth 100000 in
set_option maxHeartbeats 4000000 in
theorem within_all (ts : List Tok) (g cap : Nat) (hl : ts.length ≤ 100000) (Lk : Nat → Option Bs) (hLk : ∀ p, Lk p = (ts.find? fun t => decide (t.at_ = p)).map (·.text)) : ∀ (N : Nat) (t : Tr) (lo : Nat) (ok : Nat → Prop) (v : Value) (w : World), SizeOf.sizeOf t ≤ N → Wt Lk lo t → TrIn ok w t v → g < w.heap.size → CellsT w g 0 ts →
    Calls Tryd.prog 12 #[v, .slice (some ⟨g, 0, none⟩) ts.length cap, .int .i64 (lo : Nat)] w fun e w' => e = .returned (.bool true) ∧ Below w.heap.size w w' := by
  intro N
  induction N with
  | zero => intro t lo ok v w hN; cases t; rw [Tr.mk.sizeOf_spec] at hN; omega
  | succ N ih =>
    intro t lo ok v w hN hW ht hg hc
    obtain ⟨k, nm, ks, ns, p, tx, h1, h2, h3, h4, h5, h6, rfl⟩ := hW.inv
    clear hW
    have hLs : ks.length ≤ 3000000 := ht.short
    obtain ⟨vk, vn, rfl, hnn, A, C, rfl⟩ := ht.form
    obtain ⟨NA, NC, rfl⟩ := hnn.form
    simp only [Tr.kind, Tr.name, Tr.kids, Tr.names, Tr.at_] at ht ⊢
    clear hnn
    have HI : Hid (∀ (j : Nat) (x : Tr), ks[j]? = some x → ∀ (vx : Value) (w' : World), Below w.heap.size w w' → TrIn ok w x vx → Calls Tryd.prog 12 #[vx, .slice (some ⟨g, 0, none⟩) ts.length cap, .int .i64 (p : Nat)] w' fun e w'' => e = .returned (.bool true) ∧ Below w'.heap.size w' w'') := fun j x hx vx w' hb hv =>
      ih x p ok vx w' (by have := sz_kid (k := k) (nm := nm) (ns := ns) (p := p) hx; omega) (h6 x (List.mem_of_getElem? hx)) (hv.blw hb) (Nat.lt_of_lt_of_le hg hb.size) (hc.below hb hg)
    rw [hLk] at h1
    have cb := fun w' (hb : Below w.heap.size w w') => begins_any ts g cap p tx w' hl (Nat.lt_of_lt_of_le hg hb.size) (hc.below hb hg) h1
    clear ih h1 h6 hN hLk hc
    generalize ts.length = n at *
    obtain ⟨L, hL⟩ : ∃ L, L = ks.length := ⟨_, rfl⟩
    have HL : Hid (L = ks.length) := hL
    rw [← hL] at ht hLs ⊢
    have hb' : Hid (TrIn ok w (.mk k nm ks ns p) (.agg #[.int .i64 (k : Nat), .string (bs nm), .slice A L C, .slice NA ns.length NC, .int .i64 (p : Nat)])) := ht
    clear ht hL
    generalize ns.length = M at *
    obtain ⟨w1, hw1⟩ : ∃ w1, w1 = w.alloc (.cells #[.int .i64 (k : Nat), .string (bs nm), .slice A L C, .slice NA M NC, .int .i64 (p : Nat)] 26) := ⟨_, rfl⟩
    have hB1 : Below w.heap.size w w1 := by rw [hw1]; exact below_alloc _ _
    have k1 : Blk w1 w.heap.size (.int .i64 (k : Nat)) (.string (bs nm)) (.slice A L C) (.slice NA M NC) (.int .i64 (p : Nat)) := by rw [hw1]; exact blk_new w _ _ _ _ _
    have Hw1 : Hid (_ = _) := hw1
    clear hw1
    have c := cb w1 hB1
    have e1 : decide (p < lo) = false := decide_eq_false (by omega)
    have e2 : decide ((k : Int) < 1) = false := decide_eq_false (by omega)
    have e3 : decide (17 < (k : Int)) = false := decide_eq_false (by omega)
    have hk : (((k : Int) == 1) = true ∧ tx = nm) ∨ ((k : Int) == 1) = false := by
      by_cases hk : k = 1
      · exact .inl ⟨by rw [hk]; rfl, h2 hk⟩
      · exact .inr (by simp; omega)
    clear h2 h3 h4 h5 cb
    rcases hk with ⟨hk1, rfl⟩ | hk1
    all_goals
      try generalize bs nm = X at *
      try generalize bs tx = Y at *
      go_enter Tryd.func12, Tryd.ntmps12
      go_wp2_with fail
      rw [← Hw1.out]
      clear Hw1
      refine c.mono ?_
      rintro e w2 ⟨rfl, hb2⟩
      clear c
      obtain ⟨c0, c1, c2, c3, c4, _⟩ := (k1.bl2 hb2).cells
      go_wp2
      clear c0 c1 c2 c3 c4
      replace k1 := k1.bl2 hb2
      have hBB := chain hB1 hb2
      clear hB1 hb2
      go_loopw [50] (fun i wr => ∃ q : Nat, q ≤ L ∧ i = .int .i64 q ∧ Below w2.heap.size w2 wr) (fun i _ => L - (intOf i).toNat)
      case atStart => exact ⟨0, by omega, rfl, Below.refl _ _⟩
      case round =>
        obtain ⟨q, hq, rfl, hB⟩ := hrel
        have hBz := chain hBB hB
        by_cases hlt : q < L
        · obtain ⟨x, hx⟩ := some_of (l := ks) (k := q) (by rw [← HL.out]; exact hlt)
          obtain ⟨g1, off, u0, u1, u2, u3, u4, rfl, hg1, hx2, e0, e1, e2, e3, e4⟩ := hb'.out.look hx
          obtain ⟨_, _, he, hf5, ka, kc, rfl⟩ := hx2.form
          obtain ⟨na, nc, rfl⟩ := hf5.form
          injection he with he
          simp only [Array.mk.injEq, List.cons.injEq, and_true] at he
          obtain ⟨rfl, rfl, rfl, rfl, rfl⟩ := he
          clear hf5
          have f0 := (hBz.cell (p := ⟨g1, off + q * 5, none⟩) hg1).trans e0
          have f1 := (hBz.cell (p := ⟨g1, off + q * 5 + 1, none⟩) hg1).trans e1
          have f2 := (hBz.cell (p := ⟨g1, off + q * 5 + 2, none⟩) hg1).trans e2
          have f3 := (hBz.cell (p := ⟨g1, off + q * 5 + 3, none⟩) hg1).trans e3
          have f4 := (hBz.cell (p := ⟨g1, off + q * 5 + 4, none⟩) hg1).trans e4
          have hal := below_alloc wr (.cells #[.int .i64 (x.kind : Nat), .string (bs x.name), .slice ka x.kids.length kc, .slice na x.names.length nc, .int .i64 (x.at_ : Nat)] 26)
          have cS := HI.out q x hx _ _ (chain hBz hal) hx2
          obtain ⟨c0, c1, c2, c3, c4, _⟩ := ((k1.bl2 hB).bl2 hal).cells
          clear e0 e1 e2 e3 e4 hx hx2
          go_wp2_with fail
          refine cS.mono ?_
          rintro e w9 ⟨rfl, hb9⟩
          go_wp2_with fail
          go_roundw
          case rel => exact ⟨q + 1, by omega, by go_num, chain (chain hB hal) hb9⟩
          case measure => simp [intOf]; omega
        · go_wp2
          go_ret
          exact ⟨rfl, hBz⟩
end Go.Proofs.YtekcpglapkpenaaDoor
