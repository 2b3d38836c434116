/- Two trees that are the same: Same and Lists of the reference. -/
import Derived.Deep.QuietTactic
import Derived.BigQuiet
import Derived.WalkSmall
import Derived.StillTailTactics
import Derived.Test.YtekcpglapkpenaaDoorPRow
import Derived.Test.YtekcpglapkpenaaDoorPShift
namespace Go.Proofs.YtekcpglapkpenaaDoor
open Go.RowKit
set_option linter.unusedVariables false
set_option linter.unusedSimpArgs false

/-- The same but for the places, and with wh in the places too. -/
def SmT (wh : Bool) (a b : Tr) : Prop := (wh = true → a = b) ∧ erTr a = erTr b
theorem SmT.parts {wh : Bool} {k k' p p' : Nat} {nm nm' : Bs} {ks ks' : List Tr} {ns ns' : List Bs} (h : SmT wh (.mk k nm ks ns p) (.mk k' nm' ks' ns' p')) :
    k = k' ∧ nm = nm' ∧ ns = ns' ∧ (wh = true → p = p') ∧ ks.length = ks'.length ∧ ∀ (j : Nat) (x y : Tr), ks[j]? = some x → ks'[j]? = some y → SmT wh x y := by
  obtain ⟨h1, h2⟩ := h
  rw [erTr_mk, erTr_mk] at h2
  injection h2 with e1 e2 e3 e4 e5
  rw [erTrs_map, erTrs_map] at e3
  have hlen : ks.length = ks'.length := by simpa using congrArg List.length e3
  refine ⟨e1, e2, e4, fun hw => by have := h1 hw; injection this, hlen, fun j x y hx hy => ⟨fun hw => ?_, ?_⟩⟩
  · have := h1 hw
    injection this with _ _ e
    rw [e, hy] at hx
    injection hx with hx
    exact hx.symm
  · have := congrArg (·[j]?) e3
    simp [hx, hy] at this
    exact this
theorem NmIn.look {ok : Nat → Prop} {w : World} {ns : List Bs} {a : Option Addr} {m cap : Nat} (h : NmIn ok w ns (.slice a m cap)) {j : Nat} {x : Bs} (hx : ns[j]? = some x) : ∃ g off, a = some ⟨g, off, none⟩ ∧ g < w.heap.size ∧ w.cell? ⟨g, off + j, none⟩ = some (.string (bs x)) := by
  rcases h with ⟨a, cap, rfl, e⟩ | ⟨g, off, cap, hL, hok, hg, hc, e⟩
  · simp at hx
  · cases e; exact ⟨g, off, rfl, hg, hc j x hx⟩
theorem NmIn.short {ok : Nat → Prop} {w : World} {ns : List Bs} {v : Value} (h : NmIn ok w ns v) : ns.length ≤ 3000000 := by
  rcases h with ⟨a, cap, rfl, rfl⟩ | ⟨g, off, cap, hL, hok, hg, hc, rfl⟩
  · simp
  · exact hL
theorem TrIn.short {ok : Nat → Prop} {w : World} {t : Tr} {v : Value} (h : TrIn ok w t v) : t.kids.length ≤ 3000000 := by
  rcases h.inv with ⟨k, nm, ns, p, a, cap, vn, hn, rfl, rfl⟩ | ⟨k, nm, kids, ns, p, vn, g, off, cap, U, hL, hn, hok, hg, hc, hk, rfl, rfl⟩
  · simp
  · exact hL
theorem TrIn.look {ok : Nat → Prop} {w : World} {k p m cap : Nat} {nm : Bs} {ks : List Tr} {ns : List Bs} {a : Option Addr} {v0 v1 v3 v4 : Value} (h : TrIn ok w (.mk k nm ks ns p) (.agg #[v0, v1, .slice a m cap, v3, v4])) {j : Nat} {x : Tr} (hx : ks[j]? = some x) :
    ∃ g off u0 u1 u2 u3 u4, a = some ⟨g, off, none⟩ ∧ g < w.heap.size ∧ TrIn ok w x (.agg #[u0, u1, u2, u3, u4]) ∧ w.cell? ⟨g, off + j * 5, none⟩ = some u0 ∧ w.cell? ⟨g, off + j * 5 + 1, none⟩ = some u1 ∧ w.cell? ⟨g, off + j * 5 + 2, none⟩ = some u2 ∧ w.cell? ⟨g, off + j * 5 + 3, none⟩ = some u3 ∧ w.cell? ⟨g, off + j * 5 + 4, none⟩ = some u4 := by
  rcases h.inv with ⟨_, _, _, _, _, _, _, hn, e1, e2⟩ | ⟨_, _, _, _, _, _, g, off, cap, U, hL, hn, hok, hg, hc, hk, e1, e2⟩
  · cases e1; simp at hx
  · cases e1; cases e2
    have hlt : j < ks.length := by
      rcases Nat.lt_or_ge j ks.length with h1 | h1
      · exact h1
      · rw [List.getElem?_eq_none h1] at hx; cases hx
    exact ⟨g, off, U j 0, U j 1, U j 2, U j 3, U j 4, rfl, hg, hk j x hx, hc j hlt 0 (by omega), hc j hlt 1 (by omega), hc j hlt 2 (by omega), hc j hlt 3 (by omega), hc j hlt 4 (by omega)⟩
theorem sz_kid {k p : Nat} {nm : Bs} {ks : List Tr} {ns : List Bs} {j : Nat} {x : Tr} (h : ks[j]? = some x) : SizeOf.sizeOf x < SizeOf.sizeOf (Tr.mk k nm ks ns p) := by
  have := List.sizeOf_lt_of_mem (List.mem_of_getElem? h)
  rw [Tr.mk.sizeOf_spec]
  omega
theorem some_of {α : Type} {l : List α} {k : Nat} (h : k < l.length) : ∃ c, l[k]? = some c := ⟨l[k], List.getElem?_eq_getElem h⟩
theorem Blk.bl2 {w w' : World} {n : Nat} {v0 v1 v2 v3 v4 : Value} (h : Blk w n v0 v1 v2 v3 v4) (hb : Below w.heap.size w w') : Blk w' n v0 v1 v2 v3 v4 := (hb.block n h.lt).trans h
set_option maxRecDepth 100000 in
set_option maxHeartbeats 4000000 in
theorem same_all (wh : Bool) : ∀ (N : Nat) (a b : Tr) (ok ok' : Nat → Prop) (va vb : Value) (w : World), SizeOf.sizeOf a ≤ N → SmT wh a b → TrIn ok w a va → TrIn ok' w b vb →
    Calls Tryd.prog 10 #[va, vb, .bool wh] w fun e w' => e = .returned (.bool true) ∧ Below w.heap.size w w' := by
  intro N
  induction N with
  | zero => intro a b ok ok' va vb w hN; cases a; rw [Tr.mk.sizeOf_spec] at hN; omega
  | succ N ih =>
    rintro ⟨k, nm, ks, ns, p⟩ ⟨k', nm', ks', ns', p'⟩ ok ok' va vb w hN hS ha hb
    obtain ⟨rfl, rfl, rfl, hp, hlen, hkids⟩ := hS.parts
    have hLs : ks.length ≤ 3000000 := ha.short
    obtain ⟨vk, vn, rfl, hna, A, C, rfl⟩ := ha.form
    obtain ⟨NA, NC, rfl⟩ := hna.form
    obtain ⟨vk, vn, rfl, hnb, A', C', rfl⟩ := hb.form
    obtain ⟨NA', NC', rfl⟩ := hnb.form
    have hMs : ns.length ≤ 3000000 := hna.short
    simp only [Tr.kind, Tr.name, Tr.kids, Tr.names, Tr.at_] at ha hb hna hnb ⊢
    rw [← hlen] at hb ⊢
    obtain ⟨L, hL⟩ : ∃ L, L = ks.length := ⟨_, rfl⟩
    obtain ⟨M, hM⟩ : ∃ M, M = ns.length := ⟨_, rfl⟩
    have HL : Hid (L = ks.length ∧ L = ks'.length) := ⟨hL, hL.trans hlen⟩
    have HM : Hid (M = ns.length) := hM
    rw [← hL] at ha hb hLs ⊢
    rw [← hM] at ha hb hna hnb hMs ⊢
    have HK : Hid (∀ (j : Nat) (x y : Tr), ks[j]? = some x → ks'[j]? = some y → SmT wh x y ∧ SizeOf.sizeOf x ≤ N) := fun j x y hx hy => ⟨hkids j x y hx hy, by have := sz_kid (k := k) (nm := nm) (ns := ns) (p := p) hx; omega⟩
    clear hL hM hlen hkids hS hN
    have Hp : (wh = true → p = p') := hp
    clear hp
    obtain ⟨X, hX⟩ : ∃ X, bs nm = X := ⟨_, rfl⟩
    have ha' : Hid (TrIn ok w (.mk k nm ks ns p) (.agg #[.int .i64 (k : Nat), .string (bs nm), .slice A L C, .slice NA M NC, .int .i64 (p : Nat)])) := ha
    have hb' : Hid (TrIn ok' w (.mk k nm ks' ns p') (.agg #[.int .i64 (k : Nat), .string (bs nm), .slice A' L C', .slice NA' M NC', .int .i64 (p' : Nat)])) := hb
    have hna' : Hid (NmIn ok w ns (.slice NA M NC)) := hna
    have hnb' : Hid (NmIn ok' w ns (.slice NA' M NC')) := hnb
    rw [hX]
    clear ha hb hna hnb hX
    obtain ⟨w1, hw1⟩ : ∃ w1, w1 = (w.alloc (.cells #[.int .i64 (k : Nat), .string X, .slice A L C, .slice NA M NC, .int .i64 (p : Nat)] 26)).alloc (.cells #[.int .i64 (k : Nat), .string X, .slice A' L C', .slice NA' M NC', .int .i64 (p' : Nat)] 26) := ⟨_, rfl⟩
    have hB1 : Below w.heap.size w w1 := by rw [hw1]; exact chain (below_alloc _ _) (below_alloc _ _)
    have k1 : Blk w1 w.heap.size (.int .i64 (k : Nat)) (.string X) (.slice A L C) (.slice NA M NC) (.int .i64 (p : Nat)) := by rw [hw1]; exact (blk_new w _ _ _ _ _).bl2 (below_alloc _ _)
    have k2 : Blk w1 (w.heap.size + 1) (.int .i64 (k : Nat)) (.string X) (.slice A' L C') (.slice NA' M NC') (.int .i64 (p' : Nat)) := by
      rw [hw1]
      have h := blk_new (w.alloc (.cells #[.int .i64 (k : Nat), .string X, .slice A L C, .slice NA M NC, .int .i64 (p : Nat)] 26)) (.int .i64 (k : Nat)) (.string X) (.slice A' L C') (.slice NA' M NC') (.int .i64 (p' : Nat))
      simpa using h
    have Hw1 : Hid (_ = _) := hw1
    clear hw1
    have hQ : (wh = true ∧ p = p') ∨ wh = false := by
      cases wh
      · exact .inr rfl
      · exact .inl ⟨rfl, Hp rfl⟩
    have step : ∀ W : Prop, W → W := fun _ h => h
    rcases hQ with ⟨rfl, rfl⟩ | rfl
    all_goals
      clear Hp step
      go_enter Tryd.func10, Tryd.ntmps10
      go_wp2
      rw [← Hw1.out]
      clear Hw1
      go_loopw [7] (fun i wr => ∃ q : Nat, q ≤ M ∧ i = .int .i64 q ∧ Below w1.heap.size w1 wr) (fun i _ => M - (intOf i).toNat)
      case atStart => exact ⟨0, by omega, rfl, Below.refl _ _⟩
      case round =>
        obtain ⟨q, hq, rfl, hB⟩ := hrel
        obtain ⟨c0, c1, c2, c3, c4, _⟩ := (k1.bl2 hB).cells
        obtain ⟨d0, d1, d2, d3, d4, _⟩ := (k2.bl2 hB).cells
        by_cases hlt : q < M
        · obtain ⟨x, hx⟩ := some_of (l := ns) (k := q) (by rw [← HM.out]; exact hlt)
          obtain ⟨g, off, rfl, hg, e1⟩ := hna'.out.look hx
          obtain ⟨g2, off2, rfl, hg2, e2⟩ := hnb'.out.look hx
          have f1 := ((hB1.trans (hB.mono hB1.size)).cell (p := ⟨g, off + q, none⟩) hg).trans e1
          have f2 := ((hB1.trans (hB.mono hB1.size)).cell (p := ⟨g2, off2 + q, none⟩) hg2).trans e2
          clear e1 e2 hx
          generalize bs x = Y at f1 f2
          go_wp2
          go_quiet (fail)
          go_wp2
          go_roundw
          case rel => exact ⟨q + 1, by omega, by go_num, below_drewN hB _⟩
          case measure => simp [intOf]; omega
        · go_wp2
          clear c0 c1 c2 c3 c4 d0 d1 d2 d3 d4
          have hBB := hB1.trans (hB.mono hB1.size)
          replace k1 := k1.bl2 hB
          replace k2 := k2.bl2 hB
          clear hB hB1 hlt hq hna' hnb' HM
          obtain ⟨w5, hw5⟩ : ∃ w5, w5 = wr := ⟨_, rfl⟩
          rw [← hw5] at hBB k1 k2 ⊢
          clear hw5
          go_loopw [8] (fun i wz => ∃ q : Nat, q ≤ L ∧ i = .int .i64 q ∧ Below w5.heap.size w5 wz) (fun i _ => L - (intOf i).toNat)
          case atStart => exact ⟨0, by omega, rfl, Below.refl _ _⟩
          case round =>
            obtain ⟨q, hq, rfl, hB⟩ := hrel
            obtain ⟨c0, c1, c2, c3, c4, _⟩ := (k1.bl2 hB).cells
            obtain ⟨d0, d1, d2, d3, d4, _⟩ := (k2.bl2 hB).cells
            have hBz := hBB.trans (hB.mono hBB.size)
            by_cases hlt : q < L
            · obtain ⟨x, hx⟩ := some_of (l := ks) (k := q) (by rw [← HL.out.1]; exact hlt)
              obtain ⟨y, hy⟩ := some_of (l := ks') (k := q) (by rw [← HL.out.2]; exact hlt)
              obtain ⟨g, off, u0, u1, u2, u3, u4, rfl, hg, hx2, e0, e1, e2, e3, e4⟩ := ha'.out.look hx
              obtain ⟨g2, off2, v0, v1, v2, v3, v4, rfl, hg2, hy2, i0, i1, i2, i3, i4⟩ := hb'.out.look hy
              have f0 := (hBz.cell (p := ⟨g, off + q * 5, none⟩) hg).trans e0
              have f1 := (hBz.cell (p := ⟨g, off + q * 5 + 1, none⟩) hg).trans e1
              have f2 := (hBz.cell (p := ⟨g, off + q * 5 + 2, none⟩) hg).trans e2
              have f3 := (hBz.cell (p := ⟨g, off + q * 5 + 3, none⟩) hg).trans e3
              have f4 := (hBz.cell (p := ⟨g, off + q * 5 + 4, none⟩) hg).trans e4
              have j0 := (hBz.cell (p := ⟨g2, off2 + q * 5, none⟩) hg2).trans i0
              have j1 := (hBz.cell (p := ⟨g2, off2 + q * 5 + 1, none⟩) hg2).trans i1
              have j2 := (hBz.cell (p := ⟨g2, off2 + q * 5 + 2, none⟩) hg2).trans i2
              have j3 := (hBz.cell (p := ⟨g2, off2 + q * 5 + 3, none⟩) hg2).trans i3
              have j4 := (hBz.cell (p := ⟨g2, off2 + q * 5 + 4, none⟩) hg2).trans i4
              obtain ⟨hs1, hs2⟩ := HK.out q x y hx hy
              have hC : Below wr.heap.size wr { wr with drawn := wr.drawn + 1 } := Below.drew (Below.refl _ _)
              have cS := ih x y ok ok' _ _ { wr with drawn := wr.drawn + 1 } hs2 hs1 ((hx2.blw hBz).blw hC) ((hy2.blw hBz).blw hC)
              clear e0 e1 e2 e3 e4 i0 i1 i2 i3 i4 hx hy hs1 hs2 hx2 hy2
              go_wp2
              go_still_tail 11, (by kernel_rfl)
              go_wp2_with fail
              refine cS.mono ?_
              rintro e w9 ⟨rfl, hb9⟩
              go_wp2_with fail
              go_roundw
              case rel => exact ⟨q + 1, by omega, by go_num, chain hB (chain hC hb9)⟩
              case measure => simp [intOf]; omega
            · go_wp2
              go_ret
              exact ⟨rfl, hBz⟩
/-- Same of two trees. -/
theorem same_any (wh : Bool) (a b : Tr) (ok ok' : Nat → Prop) (va vb : Value) (w : World) (h : SmT wh a b) (ha : TrIn ok w a va) (hb : TrIn ok' w b vb) :
    Calls Tryd.prog 10 #[va, vb, .bool wh] w fun e w' => e = .returned (.bool true) ∧ Below w.heap.size w w' := same_all wh _ a b ok ok' va vb w (Nat.le_refl _) h ha hb
theorem ls_form {ok : Nat → Prop} {w : World} {l : List Tr} {a0 a1 va a3 a4 : Value} (h : TrIn ok w (.mk 0 [] l [] 0) (.agg #[a0, a1, va, a3, a4])) : ∃ A n C, va = .slice A n C := by
  rcases h.inv with ⟨_, _, _, _, _, _, _, hn, e1, e2⟩ | ⟨_, _, _, _, _, _, g, off, cap, U, hL, hn, hok, hg, hc, hk, e1, e2⟩
  · cases e1; cases e2; exact ⟨_, _, _, rfl⟩
  · cases e1; cases e2; exact ⟨_, _, _, rfl⟩
set_option maxRecDepth 100000 in
/-- Lists, of two rows of trees. -/
theorem lists_any (wh : Bool) (l m : List Tr) (ok ok' : Nat → Prop) (va vb : Value) (w : World) (h : SmT wh (.mk 0 [] l [] 0) (.mk 0 [] m [] 0)) (ha : TrIn ok w (.mk 0 [] l [] 0) (.agg #[.int .i64 0, .string ⟨#[]⟩, va, .slice none 0 0, .int .i64 0])) (hb : TrIn ok' w (.mk 0 [] m [] 0) (.agg #[.int .i64 0, .string ⟨#[]⟩, vb, .slice none 0 0, .int .i64 0])) :
    Calls Tryd.prog 13 #[va, vb, .bool wh] w fun e w' => e = .returned (.bool true) ∧ Below w.heap.size w w' := by
  have c := same_any wh _ _ ok ok' _ _ w h ha hb
  obtain ⟨A, n, C, rfl⟩ := ls_form ha
  obtain ⟨A', n', C', rfl⟩ := ls_form hb
  clear h ha hb
  go_enter Tryd.func13, Tryd.ntmps13
  go_wp2_with fail
  refine c.mono ?_
  rintro e w9 ⟨rfl, hb9⟩
  go_wp2_with fail
  go_ret
  exact ⟨rfl, hb9⟩
end Go.Proofs.YtekcpglapkpenaaDoor
