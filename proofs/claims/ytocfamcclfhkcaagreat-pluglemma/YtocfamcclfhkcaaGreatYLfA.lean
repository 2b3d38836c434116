/- Rows of what each element becomes. -/
import Derived.Laws.EntriesVeiled
import Derived.Laws.MakeOwn
import Derived.Deep.Cut
import Derived.Test.YtocfamcclfhkcaaGreatYLfB
namespace Go.Proofs.YtocfamcclfhkcaaGreat
open Go.RowKit
set_option linter.unusedVariables false
set_option linter.unusedSimpArgs false

/-- The k-th of a row of terms lies there. -/
def atT (v : Value) (k : Nat) (p : Addr) : Prop := ∃ g off n c, v = .slice (some ⟨g, off, none⟩) n c ∧ p = ⟨g, off + k * 6, none⟩
def atB (v : Value) (k : Nat) (p : Addr) : Prop := ∃ g off n c, v = .slice (some ⟨g, off, none⟩) n c ∧ p = ⟨g, off + k * 2, none⟩
set_option maxRecDepth 100000 in
set_option maxHeartbeats 4000000 in
theorem lbecT_any (fid : FuncId) (caps : Array Value) (eg : ∀ args w, (callFunc fid args).run Tryz.prog w = .ok (.enter fid args) w) (l res : List Tm) (ers : List Int) (hres : res.length = l.length) (hers : ers.length = l.length) (v : Value) (w : World) (hl : KdT Tt w (TmIn Tt w) l v) (hb : l.length ≤ 100000)
    (hF : ∀ (k : Nat) (x y : Tm) (e0 : Int) (p : Addr) (W : World), l[k]? = some x → res[k]? = some y → ers[k]? = some e0 → atT v k p → Below w.heap.size w W → Calls Tryz.prog fid (#[.int .i64 (k : Int), .pointer (some p)] ++ caps) W fun e w' => LOut e0 (TmIn (OkN W.heap.size w') w' y) e ∧ Below W.heap.size W w') :
    Calls Tryz.prog 62 #[v, .func (.func fid) #[] caps] w fun e w' => LOut (firstE ers) (fun v' => KdT (OkN w.heap.size w') w' (TmIn (OkN w.heap.size w') w') res v') e ∧ Below w.heap.size w w' := by
  obtain ⟨a, cap, rfl, _⟩ := id hl
  by_cases hz : l = []
  · subst hz
    obtain rfl : res = [] := List.length_eq_zero_iff.1 hres
    obtain rfl : ers = [] := List.length_eq_zero_iff.1 hers
    go_enter Tryz.func62, Tryz.ntmps62
    go_wp2
    go_ret
    exact ⟨.ok firstE_nil (kt_nil _ _ _), Below.refl _ _⟩
  · have hpos : 0 < l.length := List.length_pos_iff.2 hz
    obtain ⟨L, hL⟩ : ∃ L, L = l.length := ⟨_, rfl⟩
    have HL : Hid (L = l.length ∧ res.length = L ∧ ers.length = L) := ⟨hL, by omega, by omega⟩
    have Hl : Hid (KdT Tt w (TmIn Tt w) l (.slice a L cap)) := by rw [hL]; exact hl
    have HF : Hid (∀ (k : Nat) (x y : Tm) (e0 : Int) (p : Addr) (W : World), l[k]? = some x → res[k]? = some y → ers[k]? = some e0 → atT (.slice a L cap) k p → Below w.heap.size w W → Calls Tryz.prog fid (#[.int .i64 (k : Int), .pointer (some p)] ++ caps) W fun e w' => LOut e0 (TmIn (OkN W.heap.size w') w' y) e ∧ Below W.heap.size W w') := by rw [hL]; exact hF
    rw [← hL] at hpos hb ⊢
    have q0 : ((L : Int) == 0) = false := by simp; omega
    obtain ⟨W, hmk, hBlk, hbW, sW⟩ := makeT L w (by omega)
    clear hL hl hz hF hres hers
    go_enter Tryz.func62, Tryz.ntmps62
    go_wp2
    go_loopw [15] (fun i wr => ∃ k : Nat, k ≤ L ∧ i = .int .i64 k ∧ PutT wr w.heap.size res k ∧ BlkC wr w.heap.size 26 (L * 6) ∧ Below w.heap.size w wr ∧ Hid (firstE (ers.take k) = 0)) (fun i _ => L - (intOf i).toNat)
    case atStart => exact ⟨0, Nat.zero_le _, rfl, fun j x hj => by omega, hBlk, hbW, firstE_nil⟩
    case round =>
      obtain ⟨wo, hwo⟩ : ∃ wo, wo = wr := ⟨_, rfl⟩
      subst hwo
      obtain ⟨k, hk, rfl, hP, hBk, hB, HZ⟩ := hrel
      by_cases hlt : k < L
      · have hkI : (k : Int) < (L : Int) := by omega
        obtain ⟨x, hx⟩ := someL (l := l) (k := k) (by rw [← HL.out.1]; exact hlt)
        obtain ⟨y, hy⟩ := someL (l := res) (k := k) (by rw [HL.out.2.1]; exact hlt)
        obtain ⟨e0, he⟩ := someL (l := ers) (k := k) (by rw [HL.out.2.2]; exact hlt)
        obtain ⟨g1, o1, ra, rc, ka, kc, sa, sc, rfl, _, h6, ht⟩ := (Hl.out.blw hB).at hx
        have cc := HF.out k x y e0 ⟨g1, o1 + k * 6, none⟩ wo hx hy he ⟨g1, o1, L, cap, rfl, rfl⟩ hB
        have HS : Hid (_ = _) := firstE_step he
        have HT : Hid (firstE (ers.take (k + 1)) ≠ 0 → firstE ers = firstE (ers.take (k + 1))) := fun h => firstE_stuck h
        have HY : Hid (_ = _) := hy
        have hGlt := hBk.lt
        clear h6 ht hx hy he
        go_wp2_with fail
        refine cc.mono ?_
        rintro e w2 ⟨⟨h0, v2, rfl, hv2⟩ | ⟨hne, rfl⟩, hb2⟩
        · clear cc
          obtain ⟨ra2, rc2, ka2, kc2, sa2, sc2, rfl, ht2⟩ := hv2.form
          have hBk2 := hBk.kn (No := fun _ => True) (Kn.of_below hb2) trivial
          have hP2 := hP.kn hb2 hBk.lt
          have hB2 := bchain hB hb2
          obtain ⟨o0, e0⟩ := hBk2.cell (k * 6) (by omega)
          obtain ⟨o1, e1⟩ := hBk2.cell (k * 6 + 1) (by omega)
          obtain ⟨o2, e2⟩ := hBk2.cell (k * 6 + 2) (by omega)
          obtain ⟨o3, e3⟩ := hBk2.cell (k * 6 + 3) (by omega)
          obtain ⟨o4, e4⟩ := hBk2.cell (k * 6 + 4) (by omega)
          obtain ⟨o5, e5⟩ := hBk2.cell (k * 6 + 5) (by omega)
          have f0 := hBk2.soft (k * 6)
          have f1 := hBk2.soft (k * 6 + 1)
          have f2 := hBk2.soft (k * 6 + 2)
          have f3 := hBk2.soft (k * 6 + 3)
          have f4 := hBk2.soft (k * 6 + 4)
          have f5 := hBk2.soft (k * 6 + 5)
          have hfin := hP2.put hBk2 HY.out (by omega) _ _ _ _ _ _ (ht2.value.up fun q hq => hq.mono (by omega))
          unfold set6 at hfin
          have HFn : Hid (_ ∧ _ ∧ _) := hfin
          have HZ' : Hid (firstE (ers.take (k + 1)) = 0) := (by rw [HS.out, if_pos HZ.out]; exact h0 : firstE (ers.take (k + 1)) = 0)
          clear hfin h0
          go_wp2_with fail
          obtain ⟨q1, q2, q3⟩ := HFn.out
          go_roundw
          case rel => exact ⟨k + 1, by omega, by go_num, q1, q2, hB2.trans (q3.below (fun q hq => by omega) hB2.size), HZ'⟩
          case measure => simp [intOf]; omega
        · clear cc
          have hE : firstE (ers.take (k + 1)) = e0 := by rw [HS.out, if_pos HZ.out]
          have hE2 := HT.out (by rw [hE]; exact hne)
          rw [hE] at hE2
          exact ⟨rfl, .inr ⟨by rw [hE2]; exact hne, by rw [hE2]⟩, bchain hB hb2⟩
      · have hkI : ¬ (k : Int) < (L : Int) := by omega
        obtain rfl : k = L := by omega
        have hr := PutT.row (base := w.heap.size) (l := res) (G := w.heap.size) (by rw [HL.out.2.1]; exact hP) (by rw [HL.out.2.1]; exact hBk) (Nat.le_refl _)
        rw [HL.out.2.1] at hr
        have HZ2 : Hid (firstE ers = 0) := (by have := HZ.out; rwa [List.take_of_length_le (by rw [HL.out.2.2]; exact Nat.le_refl _)] at this : firstE ers = 0)
        clear hP hBk HZ
        go_wp2_with fail
        go_ret
        exact ⟨.ok HZ2.out hr, hB⟩
/-- A branch that was made anew. -/
def BrIn (base : Nat) (w : World) (b : List C × List Tm) (v : Value) : Prop := ∃ fa fc ka kc, v = .agg #[.slice fa b.1.length fc, .slice ka b.2.length kc] ∧ ClRow (OkN base w) w b.1 (.slice fa b.1.length fc) ∧ KdT (OkN base w) w (TmIn (OkN base w) w) b.2 (.slice ka b.2.length kc)
set_option maxRecDepth 100000 in
set_option maxHeartbeats 4000000 in
theorem lbecB_any (fid : FuncId) (caps : Array Value) (eg : ∀ args w, (callFunc fid args).run Tryz.prog w = .ok (.enter fid args) w) (l res : List (List C × List Tm)) (ers : List Int) (hres : res.length = l.length) (hers : ers.length = l.length) (v : Value) (w : World) (hl : SyT Tt w (TmIn Tt w) l v) (hb : l.length ≤ 100000)
    (hF : ∀ (k : Nat) (x y : List C × List Tm) (e0 : Int) (p : Addr) (W : World), l[k]? = some x → res[k]? = some y → ers[k]? = some e0 → atB v k p → Below w.heap.size w W → Calls Tryz.prog fid (#[.int .i64 (k : Int), .pointer (some p)] ++ caps) W fun e w' => LOut e0 (BrIn W.heap.size w' y) e ∧ Below W.heap.size W w') :
    Calls Tryz.prog 65 #[v, .func (.func fid) #[] caps] w fun e w' => LOut (firstE ers) (fun v' => SyT (OkN w.heap.size w') w' (TmIn (OkN w.heap.size w') w') res v') e ∧ Below w.heap.size w w' := by
  obtain ⟨a, cap, rfl, _⟩ := id hl
  by_cases hz : l = []
  · subst hz
    obtain rfl : res = [] := List.length_eq_zero_iff.1 hres
    obtain rfl : ers = [] := List.length_eq_zero_iff.1 hers
    go_enter Tryz.func65, Tryz.ntmps65
    go_wp2
    go_ret
    exact ⟨.ok firstE_nil (sy_nil _ _ _), Below.refl _ _⟩
  · have hpos : 0 < l.length := List.length_pos_iff.2 hz
    obtain ⟨L, hL⟩ : ∃ L, L = l.length := ⟨_, rfl⟩
    have HL : Hid (L = l.length ∧ res.length = L ∧ ers.length = L) := ⟨hL, by omega, by omega⟩
    have Hl : Hid (SyT Tt w (TmIn Tt w) l (.slice a L cap)) := by rw [hL]; exact hl
    have HF : Hid (∀ (k : Nat) (x y : List C × List Tm) (e0 : Int) (p : Addr) (W : World), l[k]? = some x → res[k]? = some y → ers[k]? = some e0 → atB (.slice a L cap) k p → Below w.heap.size w W → Calls Tryz.prog fid (#[.int .i64 (k : Int), .pointer (some p)] ++ caps) W fun e w' => LOut e0 (BrIn W.heap.size w' y) e ∧ Below W.heap.size W w') := by rw [hL]; exact hF
    rw [← hL] at hpos hb ⊢
    have q0 : ((L : Int) == 0) = false := by simp; omega
    obtain ⟨W, hmk, hBlk, hbW, sW⟩ := makeB L w (by omega)
    clear hL hl hz hF hres hers
    go_enter Tryz.func65, Tryz.ntmps65
    go_wp2
    go_loopw [15] (fun i wr => ∃ k : Nat, k ≤ L ∧ i = .int .i64 k ∧ PutB wr w.heap.size res k ∧ BlkC wr w.heap.size 61 (L * 2) ∧ Below w.heap.size w wr ∧ Hid (firstE (ers.take k) = 0)) (fun i _ => L - (intOf i).toNat)
    case atStart => exact ⟨0, Nat.zero_le _, rfl, fun j x hj => by omega, hBlk, hbW, firstE_nil⟩
    case round =>
      obtain ⟨wo, hwo⟩ : ∃ wo, wo = wr := ⟨_, rfl⟩
      subst hwo
      obtain ⟨k, hk, rfl, hP, hBk, hB, HZ⟩ := hrel
      by_cases hlt : k < L
      · have hkI : (k : Int) < (L : Int) := by omega
        obtain ⟨x, hx⟩ := someL (l := l) (k := k) (by rw [← HL.out.1]; exact hlt)
        obtain ⟨y, hy⟩ := someL (l := res) (k := k) (by rw [HL.out.2.1]; exact hlt)
        obtain ⟨e0, he⟩ := someL (l := ers) (k := k) (by rw [HL.out.2.2]; exact hlt)
        obtain ⟨g1, o1, fa, fc, ka, kc, rfl, _, h6, hcl, ht⟩ := (Hl.out.blw hB).at hx
        have cc := HF.out k x y e0 ⟨g1, o1 + k * 2, none⟩ wo hx hy he ⟨g1, o1, L, cap, rfl, rfl⟩ hB
        have HS : Hid (_ = _) := firstE_step he
        have HT : Hid (firstE (ers.take (k + 1)) ≠ 0 → firstE ers = firstE (ers.take (k + 1))) := fun h => firstE_stuck h
        have HY : Hid (_ = _) := hy
        have hGlt := hBk.lt
        clear h6 hcl ht hx hy he
        go_wp2_with fail
        refine cc.mono ?_
        rintro e w2 ⟨⟨h0, v2, rfl, hv2⟩ | ⟨hne, rfl⟩, hb2⟩
        · clear cc
          obtain ⟨fa2, fc2, ka2, kc2, rfl, hc2, hk2⟩ := hv2
          have hBk2 := hBk.kn (No := fun _ => True) (Kn.of_below hb2) trivial
          have hP2 := hP.kn hb2 hBk.lt
          have hB2 := bchain hB hb2
          obtain ⟨o0, e0⟩ := hBk2.cell (k * 2) (by omega)
          obtain ⟨o1, e1⟩ := hBk2.cell (k * 2 + 1) (by omega)
          have f0 := hBk2.soft (k * 2)
          have f1 := hBk2.soft (k * 2 + 1)
          have hfin := hP2.put hBk2 HY.out (by omega) _ _ (hc2.keep (Nat.le_refl _) (fun q hq => hq.mono (by omega)) (fun _ _ _ => rfl)) (hk2.all (Nat.le_refl _) (fun q hq => hq.mono (by omega)) (fun _ _ _ => rfl))
          unfold set2 at hfin
          have HFn : Hid (_ ∧ _ ∧ _) := hfin
          have HZ' : Hid (firstE (ers.take (k + 1)) = 0) := (by rw [HS.out, if_pos HZ.out]; exact h0 : firstE (ers.take (k + 1)) = 0)
          clear hfin h0
          go_wp2_with fail
          obtain ⟨q1, q2, q3⟩ := HFn.out
          go_roundw
          case rel => exact ⟨k + 1, by omega, by go_num, q1, q2, hB2.trans (q3.below (fun q hq => by omega) hB2.size), HZ'⟩
          case measure => simp [intOf]; omega
        · clear cc
          have hE : firstE (ers.take (k + 1)) = e0 := by rw [HS.out, if_pos HZ.out]
          have hE2 := HT.out (by rw [hE]; exact hne)
          rw [hE] at hE2
          exact ⟨rfl, .inr ⟨by rw [hE2]; exact hne, by rw [hE2]⟩, bchain hB hb2⟩
      · have hkI : ¬ (k : Int) < (L : Int) := by omega
        obtain rfl : k = L := by omega
        have hr := PutB.row (base := w.heap.size) (l := res) (G := w.heap.size) (by rw [HL.out.2.1]; exact hP) (by rw [HL.out.2.1]; exact hBk) (Nat.le_refl _)
        rw [HL.out.2.1] at hr
        have HZ2 : Hid (firstE ers = 0) := (by have := HZ.out; rwa [List.take_of_length_le (by rw [HL.out.2.2]; exact Nat.le_refl _)] at this : firstE ers = 0)
        clear hP hBk HZ
        go_wp2_with fail
        go_ret
        exact ⟨.ok HZ2.out hr, hB⟩
end Go.Proofs.YtocfamcclfhkcaaGreat
