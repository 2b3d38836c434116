/- Trees that were read, as trees of any kind; the reference's Same of two of these, but for places. -/
import Derived.Deep.QuietTactic
import Derived.BigQuiet
import Derived.WalkSmall
import Derived.StillTailTactics
import Derived.Test.YtahnbigkdfmpbaaDoorPRow
import Derived.Test.YtahnbigkdfmpbaaDoorMMath
import Derived.Test.YtahnbigkdfmpbaaDoorSBase
namespace Go.Proofs.YtahnbigkdfmpbaaDoor
open Go.RowKit
set_option linter.unusedVariables false
set_option linter.unusedSimpArgs false

def ofTr : Tr → Sx
  | .mk k n kids ns a => .mk (k : Int) n (kids.map fun x => ofTr x) ns (a : Int)
theorem ofTr_mk (k : Nat) (n : Bs) (kids : List Tr) (ns : List Bs) (a : Nat) : ofTr (.mk k n kids ns a) = .mk (k : Int) n (kids.map ofTr) ns (a : Int) := by rw [ofTr]
def erS : Sx → Sx
  | .mk k n kids ns _ => .mk k n (kids.map fun x => erS x) ns 0
theorem erS_mk (k : Int) (n : Bs) (kids : List Sx) (ns : List Bs) (a : Int) : erS (.mk k n kids ns a) = .mk k n (kids.map erS) ns 0 := by rw [erS]
theorem of_er (t : Tr) : ofTr (erTr t) = erS (ofTr t) := Tr.ind (P := fun t => ofTr (erTr t) = erS (ofTr t)) (fun k n kids ns a ih => by
  rw [erTr_mk, ofTr_mk, ofTr_mk, erS_mk, erTrs_map, List.map_map, List.map_map]
  congr 1
  exact List.map_congr_left ih) t
theorem NmIn.nms {ok : Nat → Prop} {w : World} {ns : List Bs} {v : Value} (h : NmIn ok w ns v) : NmS w.heap.size w ns v := by
  rcases h with ⟨a, cap, rfl, rfl⟩ | ⟨g, off, cap, hL, hok, hg, hc, rfl⟩
  · exact ⟨a, cap, rfl, Nat.zero_le _, fun j x hx => by simp at hx⟩
  · exact ⟨_, cap, rfl, hL.2, fun j x hx => ⟨g, off, rfl, hg, hc j x hx⟩⟩
theorem TrIn.sx {ok : Nat → Prop} {w : World} {t : Tr} {v : Value} (h : TrIn ok w t v) : SxIn w.heap.size w (ofTr t) v := by
  refine h (fun t v => SxIn w.heap.size w (ofTr t) v) ⟨fun k nm ns p a cap vn hn => ?_, fun k nm kids ns p vn g off cap U hL hn hok hg hc ih => ?_⟩
  · rw [ofTr_mk]
    exact .mk _ nm [] ns _ vn a cap hn.nms (fun j x hx => by simp at hx)
  · rw [ofTr_mk]
    have h9 := SxIn.mk (n := w.heap.size) (w := w) (k : Int) nm (kids.map ofTr) ns (p : Int) vn (some ⟨g, off, none⟩) cap hn.nms (fun j x hx => by
      rw [List.getElem?_map] at hx
      cases hk : kids[j]? with
      | none => rw [hk] at hx; cases hx
      | some y =>
        rw [hk] at hx
        injection hx with hx
        subst hx
        have hlt : j < kids.length := by
          rcases Nat.lt_or_ge j kids.length with h1 | h1
          · exact h1
          · rw [List.getElem?_eq_none h1] at hk; cases hk
        have := ih j y hk
        exact ⟨g, off, U j 0, U j 1, U j 2, U j 3, U j 4, rfl, hg, this, hc j hlt 0 (by omega), hc j hlt 1 (by omega), hc j hlt 2 (by omega), hc j hlt 3 (by omega), hc j hlt 4 (by omega)⟩)
    rw [List.length_map] at h9
    exact h9
/-- The same but for the places. -/
theorem erS_parts {k k' p p' : Int} {nm nm' : Bs} {ks ks' : List Sx} {ns ns' : List Bs} (h2 : erS (.mk k nm ks ns p) = erS (.mk k' nm' ks' ns' p')) :
    k = k' ∧ nm = nm' ∧ ns = ns' ∧ ks.length = ks'.length ∧ ∀ (j : Nat) (x y : Sx), ks[j]? = some x → ks'[j]? = some y → erS x = erS y := by
  rw [erS_mk, erS_mk] at h2
  injection h2 with e1 e2 e3 e4 e5
  have hlen : ks.length = ks'.length := by simpa using congrArg List.length e3
  refine ⟨e1, e2, e4, hlen, fun j x y hx hy => ?_⟩
  have := congrArg (·[j]?) e3
  simp [hx, hy] at this
  exact this
theorem NmS.lookX {n : Nat} {w : World} {ns : List Bs} {a : Option Addr} {m cap : Nat} (h : NmS n w ns (.slice a m cap)) {j : Nat} {x : Bs} (hx : ns[j]? = some x) : ∃ g off, a = some ⟨g, off, none⟩ ∧ g < n ∧ w.cell? ⟨g, off + j, none⟩ = some (.string (bs x)) := by
  obtain ⟨a', cap', e, _, h⟩ := h
  cases e
  exact h j x hx
theorem someX {α : Type} {l : List α} {k : Nat} (h : k < l.length) : ∃ c, l[k]? = some c := ⟨l[k], List.getElem?_eq_getElem h⟩
theorem blkX {k p : Int} {nm : Bs} {ks : List Sx} {ns : List Bs} {j : Nat} {x : Sx} (h : ks[j]? = some x) : blk x < blk (Sx.mk k nm ks ns p) := blk_kid (t := .mk k nm ks ns p) (List.mem_of_getElem? h)
set_option maxRecDepth 100000 in
set_option maxHeartbeats 4000000 in
theorem same_sx : ∀ (N : Nat) (a b : Sx) (n m : Nat) (va vb : Value) (w : World), blk a ≤ N → blk a ≤ 3000000 → erS a = erS b → SxIn n w a va → SxIn m w b vb → n ≤ w.heap.size → m ≤ w.heap.size →
    Calls Tryd.prog 8 #[va, vb, .bool false] w fun e w' => e = .returned (.bool true) ∧ Below w.heap.size w w' := by
  intro N
  induction N with
  | zero => intro a b n m va vb w hN; have := blk_pos a; omega
  | succ N ih =>
    rintro ⟨k, nm, ks, ns, p⟩ ⟨k', nm', ks', ns', p'⟩ n m va vb w hN hbl hS ha hb hnw hmw
    obtain ⟨rfl, rfl, rfl, hlen, hkids⟩ := erS_parts hS
    have hLs : ks.length ≤ 3000000 := Nat.le_trans (Nat.le_of_lt (blk_klen (.mk k nm ks ns p))) hbl
    have hMs : ns.length ≤ 3000000 := Nat.le_trans (Nat.le_of_lt (blk_nlen (.mk k nm ks ns p))) hbl
    obtain ⟨A, C, NA, NC, rfl, hna, ha⟩ := ha.form
    obtain ⟨A', C', NA', NC', rfl, hnb, hb⟩ := hb.form
    simp only [Sx.kind, Sx.name, Sx.kids, Sx.names, Sx.at_] at ha hb hna hnb ⊢
    rw [← hlen]
    obtain ⟨L, hL⟩ : ∃ L, L = ks.length := ⟨_, rfl⟩
    obtain ⟨M, hM⟩ : ∃ M, M = ns.length := ⟨_, rfl⟩
    have HL : Hid (L = ks.length ∧ L = ks'.length) := ⟨hL, hL.trans hlen⟩
    have HM : Hid (M = ns.length) := hM
    rw [← hL] at hLs ⊢
    rw [← hM] at hna hnb hMs ⊢
    have HK : Hid (∀ (j : Nat) (x y : Sx), ks[j]? = some x → ks'[j]? = some y → erS x = erS y ∧ blk x ≤ N ∧ blk x ≤ 3000000) := fun j x y hx hy => ⟨hkids j x y hx hy, by have := blkX (k := k) (nm := nm) (ns := ns) (p := p) hx; omega, by have := blkX (k := k) (nm := nm) (ns := ns) (p := p) hx; omega⟩
    clear hL hM hlen hkids hS hN hbl
    obtain ⟨X, hX⟩ : ∃ X, bs nm = X := ⟨_, rfl⟩
    have ha' : Hid (KdP n w (SxIn n w) ks A) := ha
    have hb' : Hid (KdP m w (SxIn m w) ks' A') := hb
    have hna' : Hid (NmS n w ns (.slice NA M NC)) := hna
    have hnb' : Hid (NmS m w ns (.slice NA' M NC')) := hnb
    rw [hX]
    clear ha hb hna hnb hX
    obtain ⟨w1, hw1⟩ : ∃ w1, w1 = (w.alloc (.cells #[.int .i64 k, .string X, .slice A L C, .slice NA M NC, .int .i64 p] 25)).alloc (.cells #[.int .i64 k, .string X, .slice A' L C', .slice NA' M NC', .int .i64 p'] 25) := ⟨_, rfl⟩
    have hB1 : Below w.heap.size w w1 := by rw [hw1]; exact chain (below_alloc _ _) (below_alloc _ _)
    have k1 : Bx w1 w.heap.size (.int .i64 k) (.string X) (.slice A L C) (.slice NA M NC) (.int .i64 p) := by rw [hw1]; exact (bx_new w _ _ _ _ _).blw (below_alloc _ _)
    have k2 : Bx w1 (w.heap.size + 1) (.int .i64 k) (.string X) (.slice A' L C') (.slice NA' M NC') (.int .i64 p') := by
      rw [hw1]
      have h := bx_new (w.alloc (.cells #[.int .i64 k, .string X, .slice A L C, .slice NA M NC, .int .i64 p] 25)) (.int .i64 k) (.string X) (.slice A' L C') (.slice NA' M NC') (.int .i64 p')
      simpa using h
    have Hw1 : Hid (_ = _) := hw1
    clear hw1
    go_enter Tryd.func8, Tryd.ntmps8
    go_wp2
    rw [← Hw1.out]
    clear Hw1
    go_loopw [7] (fun i wr => ∃ q : Nat, q ≤ M ∧ i = .int .i64 q ∧ Below w1.heap.size w1 wr) (fun i _ => M - (intOf i).toNat)
    case atStart => exact ⟨0, by omega, rfl, Below.refl _ _⟩
    case round =>
      obtain ⟨q, hq, rfl, hB⟩ := hrel
      obtain ⟨c0, c1, c2, c3, c4⟩ := (k1.blw hB).cells
      obtain ⟨d0, d1, d2, d3, d4⟩ := (k2.blw hB).cells
      by_cases hlt : q < M
      · obtain ⟨x, hx⟩ := someX (l := ns) (k := q) (by rw [← HM.out]; exact hlt)
        obtain ⟨g, off, rfl, hg, e1⟩ := hna'.out.lookX hx
        obtain ⟨g2, off2, rfl, hg2, e2⟩ := hnb'.out.lookX hx
        have f1 := ((hB1.trans (hB.mono hB1.size)).cell (p := ⟨g, off + q, none⟩) (Nat.lt_of_lt_of_le hg hnw)).trans e1
        have f2 := ((hB1.trans (hB.mono hB1.size)).cell (p := ⟨g2, off2 + q, none⟩) (Nat.lt_of_lt_of_le hg2 hmw)).trans e2
        clear e1 e2 hx
        generalize bs x = Y at f1 f2
        go_wp2
        go_quiet (fail)
        go_wp2
        go_roundw
        case rel => exact ⟨q + 1, by omega, by go_num, below_drewN hB _⟩
        case measure => simp [intOf]; omega
      · go_wp2
        clear c0 c1 c2 c3 c4 d0 d1 d2 d3 d4
        have hBB := hB1.trans (hB.mono hB1.size)
        replace k1 := k1.blw hB
        replace k2 := k2.blw hB
        clear hB hB1 hlt hq hna' hnb' HM
        obtain ⟨w5, hw5⟩ : ∃ w5, w5 = wr := ⟨_, rfl⟩
        rw [← hw5] at hBB k1 k2 ⊢
        clear hw5
        go_loopw [8] (fun i wz => ∃ q : Nat, q ≤ L ∧ i = .int .i64 q ∧ Below w5.heap.size w5 wz) (fun i _ => L - (intOf i).toNat)
        case atStart => exact ⟨0, by omega, rfl, Below.refl _ _⟩
        case round =>
          obtain ⟨q, hq, rfl, hB⟩ := hrel
          obtain ⟨c0, c1, c2, c3, c4⟩ := (k1.blw hB).cells
          obtain ⟨d0, d1, d2, d3, d4⟩ := (k2.blw hB).cells
          have hBz := hBB.trans (hB.mono hBB.size)
          by_cases hlt : q < L
          · obtain ⟨x, hx⟩ := someX (l := ks) (k := q) (by rw [← HL.out.1]; exact hlt)
            obtain ⟨y, hy⟩ := someX (l := ks') (k := q) (by rw [← HL.out.2]; exact hlt)
            obtain ⟨g, off, u0, u1, u2, u3, u4, rfl, hg, hx2, e0, e1, e2, e3, e4⟩ := ha'.out q x hx
            obtain ⟨g2, off2, v0, v1, v2, v3, v4, rfl, hg2, hy2, i0, i1, i2, i3, i4⟩ := hb'.out q y hy
            have f0 := (hBz.cell (p := ⟨g, off + q * 5, none⟩) (Nat.lt_of_lt_of_le hg hnw)).trans e0
            have f1 := (hBz.cell (p := ⟨g, off + q * 5 + 1, none⟩) (Nat.lt_of_lt_of_le hg hnw)).trans e1
            have f2 := (hBz.cell (p := ⟨g, off + q * 5 + 2, none⟩) (Nat.lt_of_lt_of_le hg hnw)).trans e2
            have f3 := (hBz.cell (p := ⟨g, off + q * 5 + 3, none⟩) (Nat.lt_of_lt_of_le hg hnw)).trans e3
            have f4 := (hBz.cell (p := ⟨g, off + q * 5 + 4, none⟩) (Nat.lt_of_lt_of_le hg hnw)).trans e4
            have j0 := (hBz.cell (p := ⟨g2, off2 + q * 5, none⟩) (Nat.lt_of_lt_of_le hg2 hmw)).trans i0
            have j1 := (hBz.cell (p := ⟨g2, off2 + q * 5 + 1, none⟩) (Nat.lt_of_lt_of_le hg2 hmw)).trans i1
            have j2 := (hBz.cell (p := ⟨g2, off2 + q * 5 + 2, none⟩) (Nat.lt_of_lt_of_le hg2 hmw)).trans i2
            have j3 := (hBz.cell (p := ⟨g2, off2 + q * 5 + 3, none⟩) (Nat.lt_of_lt_of_le hg2 hmw)).trans i3
            have j4 := (hBz.cell (p := ⟨g2, off2 + q * 5 + 4, none⟩) (Nat.lt_of_lt_of_le hg2 hmw)).trans i4
            obtain ⟨hs1, hs2, hs3⟩ := HK.out q x y hx hy
            have hC : Below wr.heap.size wr { wr with drawn := wr.drawn + 1 } := Below.drew (Below.refl _ _)
            have hBn : Below n w { wr with drawn := wr.drawn + 1 } := (chain hBz hC).mono hnw
            have hBm : Below m w { wr with drawn := wr.drawn + 1 } := (chain hBz hC).mono hmw
            have cS := ih x y n m _ _ { wr with drawn := wr.drawn + 1 } hs2 hs3 hs1 (hx2.keep hBn) (hy2.keep hBm) (Nat.le_trans hnw (chain hBz hC).size) (Nat.le_trans hmw (chain hBz hC).size)
            clear e0 e1 e2 e3 e4 i0 i1 i2 i3 i4 hx hy hs1 hs2 hs3 hx2 hy2 hBn hBm
            go_wp2
            go_still_tail 11, (by kernel_rfl)
            go_wp2_with fail
            refine cS.mono ?_
            rintro e w9 ⟨rfl, hb9⟩
            go_wp2_with fail
            go_roundw
            case rel => exact ⟨q + 1, by omega, by go_num, chain hB (chain hC hb9)⟩
            case measure => simp [intOf]; omega
          · go_wp2
            go_ret
            exact ⟨rfl, hBz⟩
end Go.Proofs.YtahnbigkdfmpbaaDoor
