/- A term of its own memory: the system, the whole. -/
import Derived.Test.YtocfamcclfhkcaaGreatYCopyB
namespace Go.Proofs.YtocfamcclfhkcaaGreat
open Go.RowKit
set_option linter.unusedVariables false
set_option linter.unusedSimpArgs false

def PutB (w : World) (G : Nat) (l : List (List C × List Tm)) (k : Nat) : Prop := ∀ (j : Nat) (b : List C × List Tm), j < k → l[j]? = some b → ∃ vf vk, ClRow (OkN (G + 1) w) w b.1 vf ∧ KdT (OkN (G + 1) w) w (TmIn (OkN (G + 1) w) w) b.2 vk ∧ w.cell? ⟨G, j * 2, none⟩ = some vf ∧ w.cell? ⟨G, j * 2 + 1, none⟩ = some vk
theorem PutB.row {w : World} {G : Nat} {l : List (List C × List Tm)} (h : PutB w G l l.length) (hb : BlkC w G 61 (l.length * 2)) (base : Nat) (hG : base ≤ G) : SyT (OkN base w) w (TmIn (OkN base w) w) l (.slice (some ⟨G, 0, none⟩) l.length l.length) := by
  refine ⟨_, _, rfl, Nat.le_refl _, fun j x hx => ?_⟩
  obtain ⟨vf, vk, h1, h2, c⟩ := h j x (some_lt hx) hx
  exact ⟨G, 0, vf, vk, rfl, hb.okn hG, hb.lt, h1.keep (Nat.le_refl _) (fun q hq => hq.mono (by omega)) (fun _ _ _ => rfl), h2.all (Nat.le_refl _) (fun q hq => hq.mono (by omega)) (fun _ _ _ => rfl), by simpa using c⟩
theorem PutB.kn {w w' : World} {G : Nat} {l : List (List C × List Tm)} {k : Nat} (h : PutB w G l k) (hb : Below w.heap.size w w') (hG : G < w.heap.size) : PutB w' G l k := fun j x hj hx => by
  obtain ⟨vf, vk, h1, h2, c0, c1⟩ := h j x hj hx
  have c := fun i => hb.cell (p := ⟨G, i, none⟩) hG
  exact ⟨vf, vk, h1.okn hb, h2.okn hb, (c _).trans c0, (c _).trans c1⟩
def set2 (w : World) (G k : Nat) (u0 u1 : Value) : World := (w.setCell ⟨G, k * 2, none⟩ u0).setCell ⟨G, k * 2 + 1, none⟩ u1
theorem PutB.put {w : World} {G k m : Nat} {l : List (List C × List Tm)} {x : List C × List Tm} (hP : PutB w G l k) (hB : BlkC w G 61 m) (hx : l[k]? = some x) (hk : k * 2 + 1 < m) (u0 u1 : Value) (hv : ClRow (OkN (G + 1) w) w x.1 u0) (hv' : KdT (OkN (G + 1) w) w (TmIn (OkN (G + 1) w) w) x.2 u1) :
    PutB (set2 w G k u0 u1) G l (k + 1) ∧ BlkC (set2 w G k u0 u1) G 61 m ∧ Kn (fun q => q ≠ G) w (set2 w G k u0 u1) := by
  have h0 := hB.set (k * 2) u0
  have b1 : BlkC (set2 w G k u0 u1) G 61 m := h0.set (k * 2 + 1) u1
  have b2 : Kn (fun q => q ≠ G) w (set2 w G k u0 u1) := ((Kn.refl _ w).setCell (p := ⟨G, k * 2, none⟩) (.inl fun h => h rfl) _).setCell (p := ⟨G, k * 2 + 1, none⟩) (.inl fun h => h rfl) _
  have b3 : ∀ j, (set2 w G k u0 u1).cell? ⟨G, j, none⟩ = if j = k * 2 + 1 then some u1 else if j = k * 2 then some u0 else w.cell? ⟨G, j, none⟩ := fun j => by
    unfold set2; rw [h0.get (by omega), hB.get (by omega)]
  have up : ∀ q, OkN (G + 1) w q → OkN (G + 1) (set2 w G k u0 u1) q := fun q hq => by
    obtain ⟨h1, cs, ty, h2⟩ := hq
    exact ⟨h1, cs, ty, (b2.block q (by omega) (Array.getElem?_eq_some_iff.1 h2).1).trans h2⟩
  have ub : ∀ g, OkN (G + 1) w g → g < w.heap.size → (set2 w G k u0 u1).heap[g]? = w.heap[g]? := fun g hg hs => b2.block g (by have := hg.1; omega) hs
  refine ⟨fun j y hj hy => ?_, b1, b2⟩
  rcases Nat.lt_or_ge j k with hjk | hjk
  · obtain ⟨a0, a1, h1, h2, c0, c1⟩ := hP j y hjk hy
    refine ⟨a0, a1, h1.keep b2.size up ub, h2.all b2.size up ub, ?_, ?_⟩
    all_goals
      rw [b3, if_neg (by omega), if_neg (by omega)]
      assumption
  · obtain rfl : j = k := by omega
    rw [hx] at hy
    cases hy
    refine ⟨u0, u1, hv.keep b2.size up ub, hv'.all b2.size up ub, ?_, ?_⟩
    · rw [b3, if_neg (by omega), if_pos rfl]
    · rw [b3, if_pos rfl]
def BbC (N : Nat) : Prop := ∀ (l : List (List C × List Tm)) (v : Value) (w : World), SyT Tt w (TmIn Tt w) l v → blkS l ≤ N → Calls Tryz.prog 121 #[v, .func (.func 122) #[] #[]] w fun e w' => ∃ v', e = .returned v' ∧ SyT (OkN w.heap.size w') w' (TmIn (OkN w.heap.size w') w') l v' ∧ Below w.heap.size w w'
theorem copyB_eg : ∀ args w, (callFunc 122 args).run Tryz.prog w = .ok (.enter 122 args) w := enters_of Tryz.func122 (by kernel_rfl) rfl
set_option maxRecDepth 100000 in
set_option maxHeartbeats 4000000 in
theorem becomeB_step (N : Nat) (hN : N ≤ 100000) (IH : CbC N) : BbC N := by
  intro l v w hl hb
  obtain ⟨a, cap, rfl, _⟩ := id hl
  have eg := copyB_eg
  have hll := blkS_len l
  by_cases hz : l = []
  · subst hz
    go_enter Tryz.func121, Tryz.ntmps121
    go_wp2
    go_ret
    exact ⟨_, rfl, sy_nil _ _ _, Below.refl _ _⟩
  · have hpos : 0 < l.length := List.length_pos_iff.2 hz
    obtain ⟨L, hL⟩ : ∃ L, L = l.length := ⟨_, rfl⟩
    have HL : Hid (L = l.length) := hL
    have Hl : Hid (SyT Tt w (TmIn Tt w) l (.slice a L cap)) := by rw [hL]; exact hl
    rw [← hL] at hpos hll ⊢
    have q0 : ((L : Int) == 0) = false := by simp; omega
    obtain ⟨W, hmk, hBlk, hbW, sW⟩ := makeB L w (by omega)
    have hLm : L ≤ 100000 := by omega
    clear hL hl hz hll
    go_enter Tryz.func121, Tryz.ntmps121
    go_wp2
    go_loopw [16] (fun i wr => ∃ k : Nat, k ≤ L ∧ i = .int .i64 k ∧ PutB wr w.heap.size l k ∧ BlkC wr w.heap.size 61 (L * 2) ∧ Below w.heap.size w wr) (fun i _ => L - (intOf i).toNat)
    case atStart => exact ⟨0, Nat.zero_le _, rfl, fun j x hj => by omega, hBlk, hbW⟩
    case round =>
      obtain ⟨k, hk, rfl, hP, hBk, hB⟩ := hrel
      by_cases hlt : k < L
      · obtain ⟨x, hx⟩ := someL (l := l) (k := k) (by rw [← HL.out]; exact hlt)
        obtain ⟨g1, o1, fa, fc, ka, kc, rfl, _, h2, hcl, hkd⟩ := (Hl.out.blw hB).at hx
        obtain ⟨_, y0, y1⟩ := h2
        have hbx : 1 + x.1.length + blkL x.2 ≤ N := Nat.le_trans (sumN_mem (List.mem_map_of_mem (f := fun b : List C × List Tm => 1 + b.1.length + blkL b.2) (List.mem_of_getElem? hx))) hb
        obtain ⟨w1, hw1⟩ : ∃ w1, w1 = wr.alloc (.cells #[.slice fa x.1.length fc, .slice ka x.2.length kc] 61) := ⟨_, rfl⟩
        have b1 : Below wr.heap.size wr w1 := by rw [hw1]; exact belowA _ _
        have cc := IH x fa x.1.length fc ka x.2.length kc w1 (hcl.blw b1) (hkd.blw b1) (by omega) (by omega)
        obtain ⟨_, z0, z1⟩ : Cs2 w1 wr.heap.size 0 x fa fc ka kc := by rw [hw1]; exact cs2_new wr x fa fc ka kc
        simp only [Nat.zero_add] at z1
        have H1 : Hid (_ = _) := hw1
        have hBk1 := hBk.kn (No := fun _ => True) (Kn.of_below b1) trivial
        have hP1 := hP.kn b1 hBk.lt
        have hGlt := hBk.lt
        have s1 : wr.heap.size < w1.heap.size := by rw [hw1]; simp
        have hB1 := bchain hB b1
        clear hw1 hP hBk hcl hkd b1 hbx
        go_upto_region 7 with fail
        rw [← H1.out]
        clear H1
        go_wp2_with fail
        refine cc.mono ?_
        rintro e w2 ⟨fa2, fc2, ka2, kc2, rfl, hc2, hk2, hb2⟩
        clear cc y0 y1 z0 z1
        have hBk2 := hBk1.kn (No := fun _ => True) (Kn.of_below hb2) trivial
        have hP2 := hP1.kn hb2 hBk1.lt
        have hB2 := bchain hB1 hb2
        obtain ⟨o0, e0⟩ := hBk2.cell (k * 2) (by omega)
        obtain ⟨o1, e1⟩ := hBk2.cell (k * 2 + 1) (by omega)
        have f0 := hBk2.soft (k * 2)
        have f1 := hBk2.soft (k * 2 + 1)
        have hfin := hP2.put hBk2 hx (by omega) _ _ (hc2.keep (Nat.le_refl _) (fun q hq => hq.mono (by omega)) (fun _ _ _ => rfl)) (hk2.all (Nat.le_refl _) (fun q hq => hq.mono (by omega)) (fun _ _ _ => rfl))
        unfold set2 at hfin
        have HF : Hid (_ ∧ _ ∧ _) := hfin
        clear hfin
        go_wp2_with fail
        obtain ⟨q1, q2, q3⟩ := HF.out
        refine ⟨⟨k + 1, by omega, by go_num, q1, q2, ?_⟩, by simp [intOf]; omega⟩
        exact hB2.trans (q3.below (fun q hq => by omega) hB2.size)
      · obtain rfl : k = L := by omega
        have hr := PutB.row (base := w.heap.size) (l := l) (G := w.heap.size) (by rw [← HL.out]; exact hP) (by rw [← HL.out]; exact hBk) (Nat.le_refl _)
        rw [← HL.out] at hr
        clear hP hBk
        go_wp2
        go_ret
        exact ⟨_, rfl, hr, hB⟩
end Go.Proofs.YtocfamcclfhkcaaGreat
