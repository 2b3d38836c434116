/- How often a variable stands in a term: count. A term in a variable's place: put. How deep a term is, of great terms. A term in a variable's place: what At does, ahead of what catches. A term in a variable's place: At. How often a variable stands in a term: Count, of terms that are formed. -/
import Derived.Test.YtocfamcclfhkcaaGreatKPc
import Derived.Test.YtocfamcclfhkcaaGreatYBdK
import Derived.Test.YtocfamcclfhkcaaGreatKPv
import Derived.Test.YtocfamcclfhkcaaGreatYMeas
import Derived.Defers
import Derived.Recover
import Derived.RegionTactic
namespace Go.Proofs.YtocfamcclfhkcaaGreat
open Go.RowKit
set_option linter.unusedVariables false
set_option linter.unusedSimpArgs false

theorem cv_any : ∀ N, CvC N
  | 0 => by intro t bv bd g off nb tb ra rc ka kc sa sc n c w _ _ _ _ _ h; have := blk_pos t; omega
  | N + 1 => cv_step N (cv_any N)
theorem cn_blk (n : Int) : ∀ (N : Nat) (t : Tm) (bv : Nat), blk t ≤ N → cnP n t bv ≤ blk t
  | 0, t, bv, h => by have := blk_pos t; omega
  | N + 1, t, bv, h => by
    rw [cn_eq, blk_eq]
    have h1 : (cnK n t.kind t.kids bv).sum ≤ blkL t.kids := by
      have e : blkL t.kids = (t.kids.zipIdx.map fun p => blk p.1).sum := by
        unfold blkL
        congr 1
        refine List.ext_getElem? fun i => ?_
        simp only [List.getElem?_map, List.getElem?_zipIdx]
        cases t.kids[i]? <;> simp
      rw [e]
      exact sumN_le fun p hp => cn_blk n N p.1 _ (by have := blk_kid (t := t) (List.mem_of_getElem? (List.mem_zipIdx_iff_getElem?.1 hp)); omega)
    have h2 : (t.sys.map fun b => (cnL n b.2 bv).sum).sum ≤ blkS t.sys := by
      refine sumN_le fun b hb => ?_
      have : (cnL n b.2 bv).sum ≤ blkL b.2 := sumN_le fun x hx => cn_blk n N x _ (by have := blk_sub hb hx; omega)
      omega
    split <;> omega
theorem pmkfn (fn : Fn) (first cap : Array Value) (w : World) : (Instr.makeFunc fn first cap).run Tryz.prog w = .ok (.func fn first cap) w := rfl
set_option maxRecDepth 100000 in
set_option maxHeartbeats 1000000 in
theorem pcount_any (n : Int) (hn : I64 n) (t : Tm) (v : Value) (w : World) (hv : TmIn Tt w t v) (hf : Fp t) (hb : blk t ≤ 100000) :
    Calls Tryz.prog 32 #[v, .int .i64 n] w fun e w' => e = .returned (.int .i64 (cnP n t 0 : Nat)) ∧ Below w.heap.size w w' := by
  obtain ⟨ra, rc, ka, kc, sa, sc, rfl, ht⟩ := (hv.lt' (ok' := fun q => q < w.heap.size) (fun q _ h => h)).form
  obtain ⟨X, hX⟩ : ∃ X, X = w.heap.size := ⟨_, rfl⟩
  obtain ⟨wa, hwa⟩ : ∃ W, W = (w.alloc (.cells #[.int .i64 t.kind, .int .i64 t.n, .string t.name, .slice ra t.r.length rc, .slice ka t.kids.length kc, .slice sa t.sys.length sc] 26)).alloc (.cells #[.int .i64 n] 3) := ⟨_, rfl⟩
  have ba : Below w.heap.size w wa := by rw [hwa]; exact bchain (belowA _ _) (belowA _ _)
  have sa' : wa.heap.size = X + 2 := by rw [hwa, hX]; simp
  have m6 : Cs6 wa X 0 t ra rc ka kc sa sc := by rw [hwa, hX]; exact (cs6_new w t ra rc ka kc sa sc).blw (belowA _ _)
  have mn : wa.heap[X + 1]? = some (.cells #[.int .i64 n] 3 (0, 0)) := by
    rw [hwa, hX]; have := heapNew (w.alloc (.cells #[.int .i64 t.kind, .int .i64 t.n, .string t.name, .slice ra t.r.length rc, .slice ka t.kids.length kc, .slice sa t.sys.length sc] 26)) (.cells #[.int .i64 n] 3); rwa [World.size_alloc] at this
  obtain ⟨wb, hwb⟩ : ∃ W, W = wa.alloc (.cells #[.int .i64 0] 3) := ⟨_, rfl⟩
  have bb : Below wa.heap.size wa wb := by rw [hwb]; exact belowA _ _
  have mt : wb.heap[X + 2]? = some (.cells #[.int .i64 0] 3 (0, 0)) := by rw [hwb, ← sa']; exact heapNew _ _
  have sb' : wb.heap.size = X + 3 := by rw [hwb]; simp; omega
  have hE : CEnv wb (X + 1) (X + 2) n 0 := ⟨by omega, hn, (bb.cell (p := ⟨X + 1, 0, none⟩) (by show X + 1 < _; omega)).trans (by simp [World.cell?, mn]), by omega, mt⟩
  have hcn := cn_blk n _ t 0 (Nat.le_refl _)
  have bab := bchain ba bb
  have cc : Calls Tryz.prog 69 #[.pointer (some ⟨X, 0, none⟩), .agg #[.int .i64 0, .int .i64 0], .func (.func 70) #[] #[.pointer (some ⟨X + 1, 0, none⟩), .pointer (some ⟨X + 2, 0, none⟩)]] wb fun e w' => e = .returned (.tuple #[]) ∧ CEnv w' (X + 1) (X + 2) n (0 + (cnP n t 0 : Int)) ∧ Kn (fun q => q ≠ X + 2) wb w' :=
    cv_any _ t 0 0 X 0 (X + 1) (X + 2) ra rc ka kc sa sc n 0 wb hE (m6.blw bb) ((ht.blw bab).up fun q h => ⟨by omega, by omega⟩) (by omega) hf (Nat.le_refl _) (by omega) (by omega) (by omega) (by omega)
  rw [Int.zero_add] at cc
  obtain ⟨cz, hcz⟩ : ∃ z : Int, z = (cnP n t 0 : Nat) := ⟨_, rfl⟩
  rw [← hcz] at cc ⊢
  have hmk := pmkfn
  have HWa : Hid (_ = _) := hwa
  have HWb : Hid (_ = _) := hwb
  have HX : Hid (X = w.heap.size) := hX
  have Hab : Hid (Below w.heap.size w wb) := bab
  have Hsz : Hid (wa.heap.size = X + 2 ∧ wb.heap.size = X + 3) := ⟨sa', sb'⟩
  clear hwa hwb hX ba bb bab sa' sb' m6 mn mt hE hv ht hcz
  go_enter Tryz.func32, Tryz.ntmps32
  go_upto_region 1 with fail
  rw [← HWa.out]
  simp only [← HX.out]
  clear HWa
  go_upto_region 2 with fail
  rw [← HWb.out]
  simp only [Hsz.out.1]
  clear HWb
  go_wp2_with fail
  refine cc.mono ?_
  rintro e w3 ⟨rfl, hE3, hk3⟩
  clear cc
  have bt := hE3.bt
  have c0 : w3.cell? ⟨X + 2, 0, none⟩ = some (.int .i64 cz) := by simp [World.cell?, bt]
  have HF : Hid (Below X w w3) := by
    have q := (Kn.of_below (No := fun q => q < X) Hab.out).trans (hk3.sub (fun q h => by omega))
    exact q.below (fun _ h => h) (by rw [HX.out]; exact Nat.le_refl _)
  clear hE3 bt hk3
  go_wp2_with fail
  go_ret
  exact ⟨rfl, by rw [← HX.out]; exact HF.out⟩
end Go.Proofs.YtocfamcclfhkcaaGreat

namespace Go.Proofs.YtocfamcclfhkcaaGreat
open Go.RowKit
set_option linter.unusedVariables false
set_option linter.unusedSimpArgs false

theorem ev_any (hLA : LAll) (n : Int) (u : Tm) (hub : blk u ≤ 20000) : ∀ N, EvC n u N
  | 0 => by intro t bv bd g off lo hi m1 m2 B nb ub M ra rc ka kc sa sc w _ _ _ _ _ _ _ _ _ h; have := blk_pos t; omega
  | N + 1 => ev_step hLA n u hub N (ev_any hLA n u hub N)
def Z6 : Array Value := #[.int .i64 0, .int .i64 0, .string ⟨#[]⟩, .slice none 0 0, .slice none 0 0, .slice none 0 0]
set_option maxRecDepth 100000 in
set_option maxHeartbeats 2000000 in
theorem put_any (hLA : LAll) (n : Int) (hn : I64 n) (t u : Tm) (v vu : Value) (w : World) (hv : TmIn Tt w t v) (hvu : TmIn Tt w u vu) (hf : Fp t) (hb : blk t ≤ 100000) (hub : blk u ≤ 20000) :
    Calls Tryz.prog 33 #[v, .int .i64 n, vu] w fun e w' => LOut (eP n u t 0 0) (TmIn (fun q => w.heap.size ≤ q) w' (putT n u t 0 0)) e ∧ Below w.heap.size w w' := by
  obtain ⟨ra, rc, ka, kc, sa, sc, rfl, ht⟩ := hv.form
  obtain ⟨ru, rcu, ku, kcu, su, scu, rfl, htu⟩ := (hvu.lt' (ok' := fun q => q < w.heap.size) (fun q _ h => h)).form
  obtain ⟨eZ, heZ⟩ : ∃ z, z = eP n u t 0 0 := ⟨_, rfl⟩
  obtain ⟨tZ, htZ⟩ : ∃ z, z = putT n u t 0 0 := ⟨_, rfl⟩
  rw [← heZ, ← htZ]
  obtain ⟨X, hX⟩ : ∃ X, X = w.heap.size := ⟨_, rfl⟩
  obtain ⟨wa, hwa⟩ : ∃ W, W = w.alloc (.cells #[.int .i64 t.kind, .int .i64 t.n, .string t.name, .slice ra t.r.length rc, .slice ka t.kids.length kc, .slice sa t.sys.length sc] 26) := ⟨_, rfl⟩
  have ba : Below w.heap.size w wa := by rw [hwa]; exact belowA _ _
  have sa' : wa.heap.size = X + 1 := by rw [hwa, hX]; simp
  have m6 : Cs6 wa X 0 t ra rc ka kc sa sc := by rw [hwa, hX]; exact cs6_new w t ra rc ka kc sa sc
  obtain ⟨wb, hwb⟩ : ∃ W, W = wa.alloc (.cells #[.int .i64 n] 3) := ⟨_, rfl⟩
  have bb : Below wa.heap.size wa wb := by rw [hwb]; exact belowA _ _
  have sb' : wb.heap.size = X + 2 := by rw [hwb]; simp; omega
  have mn : wb.heap[X + 1]? = some (.cells #[.int .i64 n] 3 (0, 0)) := by rw [hwb, ← sa']; exact heapNew _ _
  obtain ⟨wc, hwc⟩ : ∃ W, W = wb.alloc (.cells #[.int .i64 u.kind, .int .i64 u.n, .string u.name, .slice ru u.r.length rcu, .slice ku u.kids.length kcu, .slice su u.sys.length scu] 26) := ⟨_, rfl⟩
  have bc : Below wb.heap.size wb wc := by rw [hwc]; exact belowA _ _
  have sc' : wc.heap.size = X + 3 := by rw [hwc]; simp; omega
  have mu : Cs6 wc (X + 2) 0 u ru rcu ku kcu su scu := by rw [hwc, ← sb']; exact cs6_new _ _ _ _ _ _ _ _
  obtain ⟨w2, hw2⟩ : ∃ W, W = wc.alloc (.cells #[.int .i64 0, .int .i64 0, .string ⟨#[]⟩, .slice none 0 0, .slice none 0 0, .slice none 0 0] 26) := ⟨_, rfl⟩
  have b2 : Below wc.heap.size wc w2 := by rw [hw2]; exact belowA _ _
  have s2' : w2.heap.size = X + 4 := by rw [hw2]; simp; omega
  have mr : Six w2 (X + 3) (.int .i64 0) (.int .i64 0) (.string ⟨#[]⟩) (.slice none 0 0) (.slice none 0 0) (.slice none 0 0) := ⟨by rw [hw2, ← sc']; exact heapNew _ _⟩
  have bc2 := bchain bc b2
  have bb2 := bchain bb bc2
  have ba2 := bchain ba bb2
  have h62 := m6.blw bb2
  have hE : PEnv w2 (X + 4) (X + 1) (X + 2) n u := ⟨by omega, by omega, by omega, hn, (bc2.cell (p := ⟨X + 1, 0, none⟩) (by show X + 1 < _; omega)).trans (by simp [World.cell?, mn]), ru, rcu, ku, kcu, su, scu, mu.blw b2, (htu.blw ba2).up fun q h => by omega⟩
  have cc := copyS_any t _ w2 (ht.blw ba2).value hb
  obtain ⟨_, y0, y1, y2, y3, y4, y5⟩ := h62
  simp only [Nat.zero_add] at y1 y2 y3 y4 y5
  have hmk := pmkfn
  have HW : Hid (w2 = ((((w.alloc (.cells #[.int .i64 t.kind, .int .i64 t.n, .string t.name, .slice ra t.r.length rc, .slice ka t.kids.length kc, .slice sa t.sys.length sc] 26)).alloc (.cells #[.int .i64 n] 3)).alloc (.cells #[.int .i64 u.kind, .int .i64 u.n, .string u.name, .slice ru u.r.length rcu, .slice ku u.kids.length kcu, .slice su u.sys.length scu] 26)).alloc (.cells #[.int .i64 0, .int .i64 0, .string ⟨#[]⟩, .slice none 0 0, .slice none 0 0, .slice none 0 0] 26))) := (by rw [hw2, hwc, hwb, hwa] : _ = _)
  have HX : Hid (X = w.heap.size) := hX
  have HB2 : Hid (Below w.heap.size w w2) := ba2
  have Hs2 : Hid (w2.heap.size = X + 4) := s2'
  have HE : Hid (PEnv w2 (X + 4) (X + 1) (X + 2) n u) := hE
  have HR : Hid (Six w2 (X + 3) (.int .i64 0) (.int .i64 0) (.string ⟨#[]⟩) (.slice none 0 0) (.slice none 0 0) (.slice none 0 0)) := mr
  have HeZ : Hid (eZ = eP n u t 0 0 ∧ tZ = putT n u t 0 0) := ⟨heZ, htZ⟩
  clear hwa hwb hwc hw2 ba bb bc b2 sa' sb' sc' s2' m6 mn mu mr bc2 bb2 ba2 hE hv hvu ht htu hX heZ htZ
  rw [← HX.out]
  go_enter Tryz.func33, Tryz.ntmps33
  go_upto_region 1 with fail
  rw [← HW.out]
  simp only [← HX.out]
  clear HW
  go_wp2_with fail
  refine cc.mono ?_
  rintro e w3 ⟨v3, rfl, hv3, hb3⟩
  clear cc y0 y1 y2 y3 y4 y5
  obtain ⟨r3, rc3, k3, kc3, s3, sc3, m1, m2, rfl, ht3⟩ := hv3.form
  obtain ⟨Y, hY⟩ : ∃ Y, Y = w3.heap.size := ⟨_, rfl⟩
  obtain ⟨w4, hw4⟩ : ∃ W, W = w3.alloc (.cells #[.int .i64 t.kind, .int .i64 t.n, .string t.name, .slice r3 t.r.length rc3, .slice k3 t.kids.length kc3, .slice s3 t.sys.length sc3] 26) := ⟨_, rfl⟩
  have b4 : Below w3.heap.size w3 w4 := by rw [hw4]; exact belowA _ _
  have m4 : w4.heap[Y]? = some (.cells #[.int .i64 t.kind, .int .i64 t.n, .string t.name, .slice r3 t.r.length rc3, .slice k3 t.kids.length kc3, .slice s3 t.sys.length sc3] 26 (0, 0)) := by rw [hw4, hY]; exact heapNew _ _
  have c4 : Cs6 w4 Y 0 t r3 rc3 k3 kc3 s3 sc3 := by rw [hw4, hY]; exact cs6_new _ _ _ _ _ _ _ _
  have bk4 : BlkC w4 Y 26 6 := ⟨_, m4, rfl⟩
  have b24 : Below w2.heap.size w2 w4 := bchain hb3 b4
  have hs3 := hb3.size
  have hs2 := Hs2.out
  have E4 : PEnv w4 (X + 4) (X + 1) (X + 2) n u := HE.out.kn (Kn.of_below b24)
  have T4 : TsTop w4 w2.heap.size m1 m2 w3.heap.size t r3 rc3 k3 kc3 s3 sc3 := ht3.keep b4.size (fun q _ _ hs => b4.block q hs)
  have cv : Calls Tryz.prog 69 #[.pointer (some ⟨Y, 0, none⟩), .agg #[.int .i64 0, .int .i64 0], .func (.func 73) #[] #[.pointer (some ⟨X + 1, 0, none⟩), .pointer (some ⟨X + 2, 0, none⟩)]] w4 fun e w' => LOut eZ (fun v => v = .tuple #[] ∧ PvR w4 w' Y 0 w2.heap.size w3.heap.size tZ) e ∧ Chg w4 w' Y 0 w2.heap.size w3.heap.size := by
    rw [HeZ.out.1, HeZ.out.2]
    exact ev_any hLA n u hub _ t 0 0 Y 0 w2.heap.size w3.heap.size m1 m2 (X + 4) (X + 1) (X + 2) 6 r3 rc3 k3 kc3 s3 sc3 w4 E4 c4 T4 bk4 (by omega) (by omega) (by omega) (.inr (by omega)) hf (Nat.le_refl _) (by omega) (by omega)
  have HR4 : Hid (Six w4 (X + 3) (.int .i64 0) (.int .i64 0) (.string ⟨#[]⟩) (.slice none 0 0) (.slice none 0 0) (.slice none 0 0)) := HR.out.blw b24
  have HB4 : Hid (Below w.heap.size w w4) := bchain HB2.out b24
  have H4 : Hid (_ = _) := hw4
  have HY : Hid (Y = w3.heap.size) := hY
  have hYX : X + 4 ≤ w2.heap.size ∧ w2.heap.size ≤ w3.heap.size ∧ w3.heap.size ≤ Y := by omega
  have Hs4 : Hid (w3.heap.size ≤ w4.heap.size) := b4.size
  clear hw4 hY b4 m4 c4 bk4 b24 hs3 hs2 E4 T4 ht3 hv3 hb3 HR HE
  go_upto_region 2 with fail
  rw [← H4.out]
  simp only [← HY.out]
  clear H4
  go_wp2_with fail
  refine cv.mono ?_
  rintro e w5 ⟨⟨he0, v, rfl, rfl, hp⟩ | ⟨hne0, rfl⟩, hc⟩
  · clear cv
    obtain ⟨r5, rc5, k5, kc5, s5, sc5, h65, ht5⟩ := hp
    obtain ⟨_, y0, y1, y2, y3, y4, y5⟩ := h65
    simp only [Nat.zero_add] at y1 y2 y3 y4 y5
    have z5 : Six w5 (X + 3) (.int .i64 0) (.int .i64 0) (.string ⟨#[]⟩) (.slice none 0 0) (.slice none 0 0) (.slice none 0 0) := ⟨(hc.kn.block (X + 3) ⟨by omega, by omega⟩ HR4.out.lt).trans HR4.out.blk⟩
    have HF5 : Hid (Below X w w5) := by
      have q := (Kn.of_below (No := fun q => q < X) HB4.out).trans (hc.kn.sub fun q h => ⟨by omega, by omega⟩)
      exact q.below (fun _ h => h) (by rw [HX.out]; exact Nat.le_refl _)
    obtain ⟨w6, hw6⟩ : ∃ W, W = (((((w5.setCell ⟨X + 3, 0, none⟩ (.int .i64 tZ.kind)).setCell ⟨X + 3, 1, none⟩ (.int .i64 tZ.n)).setCell ⟨X + 3, 2, none⟩ (.string tZ.name)).setCell ⟨X + 3, 3, none⟩ (.slice r5 tZ.r.length rc5)).setCell ⟨X + 3, 4, none⟩ (.slice k5 tZ.kids.length kc5)).setCell ⟨X + 3, 5, none⟩ (.slice s5 tZ.sys.length sc5) := ⟨_, rfl⟩
    have z6 := z5.set6 (.int .i64 tZ.kind) (.int .i64 tZ.n) (.string tZ.name) (.slice r5 tZ.r.length rc5) (.slice k5 tZ.kids.length kc5) (.slice s5 tZ.sys.length sc5)
    rw [← hw6] at z6
    have k6 : Kn (fun q => q ≠ X + 3) w5 w6 := by rw [hw6]; exact (((((kn_set _ _ _ _).trans (kn_set _ _ _ _)).trans (kn_set _ _ _ _)).trans (kn_set _ _ _ _)).trans (kn_set _ _ _ _)).trans (kn_set _ _ _ _)
    obtain ⟨o0, o1, o2, o3, o4, o5, ff⟩ := z5.cells
    have f0 := ff 0
    have f1 := ff 1
    have f2 := ff 2
    have f3 := ff 3
    have f4 := ff 4
    have f5 := ff 5
    obtain ⟨h0, h1, h2, h3, h4, h5, _⟩ := z6.cells
    have HT : Hid (TmIn (fun q => X ≤ q) w6 tZ (.agg #[.int .i64 tZ.kind, .int .i64 tZ.n, .string tZ.name, .slice r5 tZ.r.length rc5, .slice k5 tZ.kids.length kc5, .slice s5 tZ.sys.length sc5])) := by
      have q1 := Hs4.out
      exact ht5.value.keep k6.size (fun q hq => by show X ≤ q; omega) (fun q hq hs => k6.block q (by omega) hs)
    have HF : Hid (Below X w w6) := HF5.out.trans (k6.below (fun q hq => by omega) (by have := HF5.out.size; have := HX.out; omega))
    have H6 : Hid (_ = _) := hw6
    clear hw6 ff z5 z6 k6 ht5 hc
    go_wp2_with fail
    rw [← H6.out]
    exact bodyPost_ret (v := .agg #[.int .i64 tZ.kind, .int .i64 tZ.n, .string tZ.name, .slice r5 tZ.r.length rc5, .slice k5 tZ.kids.length kc5, .slice s5 tZ.sys.length sc5]) (by simp only [results, Tryz.results33]; simp [go_sem, h0, h1, h2, h3, h4, h5]) rfl ⟨.ok he0 HT.out, HF.out⟩
  · have HF : Hid (Below X w w5) := by
      have q := (Kn.of_below (No := fun q => q < X) HB4.out).trans (hc.kn.sub fun q h => ⟨by omega, by omega⟩)
      exact q.below (fun _ h => h) (by rw [HX.out]; exact Nat.le_refl _)
    exact ⟨rfl, .inr ⟨hne0, rfl⟩, HF.out⟩
end Go.Proofs.YtocfamcclfhkcaaGreat

namespace Go.Proofs.YtocfamcclfhkcaaGreat
open Go.RowKit
set_option linter.unusedVariables false
set_option linter.unusedSimpArgs false

def CtCB (most : Int) (N : Nat) : Prop := ∀ (l : List Tm) (v : Value) (at_ N0 D0 : Nat) (ok : Nat → Prop) (bD bM bN bC : Nat) (w : World), CntV w bD bM bN bC most N0 D0 → KdT ok w (TmIn ok w) l v → (∀ q, ok q → q ≠ bD ∧ q ≠ bN) → bD ≠ bN → bD ≠ bM → bD ≠ bC → bN ≠ bM → bN ≠ bC →
  blkL l ≤ N → 1 ≤ at_ → at_ ≤ D0 + 1 → N0 + blkL l ≤ 100000000 → D0 + blkL l ≤ 100000000 →
  Calls Tryz.prog 115 #[v, .int .i64 (at_ : Int), .pointer (some ⟨bD, 0, none⟩), .pointer (some ⟨bM, 0, none⟩), .pointer (some ⟨bN, 0, none⟩), .pointer (some ⟨bC, 0, none⟩)] w fun e w' => (∃ u, e = .returned u) ∧ (∃ N1 D1 : Nat, CntV w' bD bM bN bC most N1 D1 ∧ Cn most D0 (N0 + szL l) (max D0 (at_ - 1 + dpL l)) N1 D1) ∧ Kn (fun q => q ≠ bD ∧ q ≠ bN) w w'
set_option maxRecDepth 100000 in
set_option maxHeartbeats 2000000 in
theorem count_nilB (most : Int) (l : List Tm) (v : Value) (at_ N0 D0 : Nat) (ok : Nat → Prop) (bD bM bN bC : Nat) (w : World) (hV : CntV w bD bM bN bC most N0 D0) (hl : KdT ok w (TmIn ok w) l v) (hN : blkL l ≤ 0) (ha : 1 ≤ at_) (hd : at_ ≤ D0 + 1) :
  Calls Tryz.prog 115 #[v, .int .i64 (at_ : Int), .pointer (some ⟨bD, 0, none⟩), .pointer (some ⟨bM, 0, none⟩), .pointer (some ⟨bN, 0, none⟩), .pointer (some ⟨bC, 0, none⟩)] w fun e w' => (∃ u, e = .returned u) ∧ (∃ N1 D1 : Nat, CntV w' bD bM bN bC most N1 D1 ∧ Cn most D0 (N0 + szL l) (max D0 (at_ - 1 + dpL l)) N1 D1) ∧ Kn (fun q => q ≠ bD ∧ q ≠ bN) w w' := by
  obtain ⟨a, cap, rfl, _⟩ := id hl
  obtain rfl : l = [] := List.length_eq_zero_iff.1 (by have := blkL_len l; omega)
  go_enter Tryz.func115, Tryz.ntmps115
  go_wp2
  refine bodyPost_ret (results_none rfl _ _ _) rfl ?_
  exact ⟨⟨_, rfl⟩, ⟨N0, D0, hV, (Cn.refl most D0 N0 D0 (Nat.le_refl _)).cast (Nat.le_refl _) (by simp [szL]) (by simp [dpL, maxL]; omega)⟩, Kn.refl _ _⟩
set_option maxRecDepth 100000 in
set_option maxHeartbeats 8000000 in
theorem count_stepB (most : Int) (N : Nat) (IH : CtCB most N) : CtCB most (N + 1) := by
  intro l v at_ N0 D0 ok bD bM bN bC w hV hl hok n1 n2 n3 n4 n5 hN ha hd hs1 hs2
  obtain ⟨a, cap, rfl, _⟩ := id hl
  have eg := meas_eg
  have hsz := szL_blkL l
  have hdp := dpL_szL l
  have hlen := szL_len l
  obtain ⟨cd, fd⟩ := box_cells hV.d
  obtain ⟨cm, fm⟩ := box_cells hV.m
  obtain ⟨cn, fn⟩ := box_cells hV.n
  by_cases hz : l = []
  · subst hz
    go_enter Tryz.func115, Tryz.ntmps115
    go_wp2
    refine bodyPost_ret (results_none rfl _ _ _) rfl ?_
    exact ⟨⟨_, rfl⟩, ⟨N0, D0, hV, (Cn.refl most D0 N0 D0 (Nat.le_refl _)).cast (Nat.le_refl _) (by simp [szL]) (by simp [dpL, maxL]; omega)⟩, Kn.refl _ _⟩
  · have hpos : 0 < l.length := List.length_pos_iff.2 hz
    have hdpp := dpL_pos hz
    by_cases hmd : most < (D0 : Int)
    · have HC : Hid (Cn most D0 (N0 + szL l) (max D0 (at_ - 1 + dpL l)) N0 D0) := by
        refine ⟨fun h => ?_, fun _ => hmd, by omega, Nat.le_refl _, by omega⟩
        omega
      obtain ⟨L, hL⟩ : ∃ L, L = l.length := ⟨_, rfl⟩
      rw [← hL] at hpos ⊢
      have q0 : ((L : Int) == 0) = false := by simp; omega
      clear hL
      go_enter Tryz.func115, Tryz.ntmps115
      go_wp2
      refine bodyPost_ret (results_none rfl _ _ _) rfl ?_
      exact ⟨⟨_, rfl⟩, ⟨N0, D0, hV, HC.out⟩, Kn.refl _ _⟩
    · obtain ⟨L, hL⟩ : ∃ L, L = l.length := ⟨_, rfl⟩
      have HL : Hid (L = l.length) := hL
      have Hl : Hid (KdT ok w (TmIn ok w) l (.slice a L cap)) := by rw [hL]; exact hl
      rw [← hL] at hpos hlen ⊢
      have q0 : ((L : Int) == 0) = false := by simp; omega
      have q1 : ¬ most < (D0 : Int) := hmd
      obtain ⟨w1, hw1⟩ : ∃ w1, w1 = w.setCell ⟨bN, 0, none⟩ (.int .i64 ((N0 : Int) + (L : Int))) := ⟨_, rfl⟩
      have V1 : CntV w1 bD bM bN bC most (N0 + L) D0 := by rw [hw1]; exact setN hV n1 n4 n5 _ _ (by simp)
      obtain ⟨w2, hw2⟩ : ∃ w2, w2 = w1.setCell ⟨bD, 0, none⟩ (.int .i64 (max (D0 : Int) (at_ : Int))) := ⟨_, rfl⟩
      have V2 : CntV w2 bD bM bN bC most (N0 + L) (max D0 at_) := by rw [hw2]; exact setD V1 n1 n2 n3 _ _ (by omega)
      have K2 : Kn (fun q => q ≠ bD ∧ q ≠ bN) w w2 := by
        rw [hw2, hw1]
        exact ((Kn.refl _ _).setCell (p := ⟨bN, 0, none⟩) (.inl fun h => h.2 rfl) _).setCell (p := ⟨bD, 0, none⟩) (.inl fun h => h.1 rfl) _
      obtain ⟨cd1, fd1⟩ := box_cells V1.d
      have H1 : Hid (_ = _) := hw1
      have H2 : Hid (_ = _) := hw2
      clear hL hl hz hw1 hw2 hmd
      go_enter Tryz.func115, Tryz.ntmps115
      go_upto_region 2 with fail
      rw [← H1.out]
      go_upto_region 3 with fail
      rw [← H2.out]
      have HB : Hid (N0 + blkL l ≤ 100000000 ∧ D0 + blkL l ≤ 100000000 ∧ blkL l ≤ N + 1) := ⟨hs1, hs2, hN⟩
      have Hmax : Hid (at_ ≤ max D0 at_) := Nat.le_max_right _ _
      have Hb0 : Hid (Cn most D0 (N0 + (L - 0) + szL (l.take 0)) (max (max D0 at_) (at_ - 1 + dpL (l.take 0))) (N0 + L) (max D0 at_)) := (Cn.refl most D0 (N0 + L) (max D0 at_) (Nat.le_max_left _ _)).cast (Nat.le_refl _) (by simp [szL]) (by simp only [List.take_zero, dpL, maxL, List.map_nil, List.foldr_nil]; omega)
      have hLm : L ≤ 100000000 := by omega
      have Hdp : Hid (1 ≤ dpL l) := hdpp
      have ham : at_ ≤ 10000000001 := by omega
      clear H1 H2 cd cd1 fd fd1 cm fm cn fn hV V1 hsz hdp hlen hdpp q0 q1 hs1 hs2 hN
      go_wp2
      go_loopw [28] (fun i wr => ∃ k N' D' : Nat, k ≤ L ∧ i = .int .i64 k ∧ CntV wr bD bM bN bC most N' D' ∧ Hid (Cn most D0 (N0 + (L - k) + szL (l.take k)) (max (max D0 at_) (at_ - 1 + dpL (l.take k))) N' D') ∧ Hid (at_ ≤ D') ∧ Kn (fun q => q ≠ bD ∧ q ≠ bN) w wr) (fun i _ => L - (intOf i).toNat)
      case atStart => exact ⟨0, N0 + L, max D0 at_, Nat.zero_le _, rfl, V2, Hb0, Hmax, K2⟩
      case round =>
        obtain ⟨wo, hwo⟩ : ∃ wo, wo = wr := ⟨_, rfl⟩
        subst hwo
        clear V2 Hb0 Hmax K2
        obtain ⟨k, N', D', hk, rfl, V, HCn, HaD, hK⟩ := hrel
        by_cases hlt : k < L
        · obtain ⟨x, hx⟩ := someL (l := l) (k := k) (by rw [← HL.out]; exact hlt)
          obtain ⟨kg, koff, ra, rc, ka, kc, sa, sc, rfl, hkg, h6, ht⟩ := (Hl.out.kn hK hok).at hx
          have hbx := blk_eq x
          have hst := blkL_step hx
          have hrs := blkL_rest l (k + 1) (by rw [← HL.out]; omega)
          rw [← HL.out] at hrs
          have hdt := dpL_take l k
          have hst2 := szL_blkL (l.take k)
          have hk1 := szL_blkL x.kids
          have hk2 := dpL_szL x.kids
          have hk3 := szS_blkS x.sys
          have hsyl := blkS_len x.sys
          have hkl := blkL_len x.kids
          obtain ⟨b1, b2, b3⟩ := HB.out
          have hcn := HCn.out
          obtain ⟨_, _, m1, m2, m3⟩ := id hcn
          have haD := HaD.out
          have cc := IH x.kids (.slice ka x.kids.length kc) (at_ + 1) N' D' ok bD bM bN bC wo.drew V.drew (ht.kids.kn (No := fun _ => True) (Kn.refl _ _).drew (fun _ _ => trivial)) hok n1 n2 n3 n4 n5 (by omega) (by omega) (by omega) (by omega) (by omega)
          have HX : Hid (Cn most D0 (N0 + (L - k) + szL (l.take k)) (max (max D0 at_) (at_ - 1 + dpL (l.take k))) N' D') := hcn
          have HS : Hid (szL (l.take (k + 1)) = szL (l.take k) + sizeT x ∧ dpL (l.take (k + 1)) = max (dpL (l.take k)) (depthT x) ∧ sizeT x = 1 + (szL x.kids + szS x.sys) ∧ depthT x = 1 + max (dpL x.kids) (dpS x.sys)) := ⟨szL_step hx, dpL_step hx, size_eq x, depth_eq x⟩
          have HBB : Hid (N0 + (L - k) + szL (l.take k) + blkL x.kids + blkS x.sys ≤ 100000000 ∧ max (max D0 at_) (at_ - 1 + dpL (l.take k)) + blkL x.kids + blkS x.sys ≤ 100000000 ∧ blkL x.kids + blkS x.sys ≤ N ∧ D0 + 1 + blkL x.kids + blkS x.sys ≤ 100000000) := ⟨by omega, by omega, by omega, by omega⟩
          have hc4 := h6.c4
          have hc5 := h6.c5
          have hc := (box_cells V.c).1
          obtain ⟨S, hS⟩ : ∃ S, S = x.sys.length := ⟨_, rfl⟩
          have HSl : Hid (S = x.sys.length) := hS
          have Hsy : Hid (SyT ok wo (TmIn ok wo) x.sys (.slice sa S sc)) := by rw [hS]; exact ht.sys
          rw [← hS] at hc5 hsyl
          have hSm : S ≤ 100000000 := by omega
          obtain ⟨zk, hzk⟩ : ∃ z, z = x.kids.length := ⟨_, rfl⟩
          rw [← hzk] at cc hc4
          have h6l := h6.lt
          have wr1 : IntKind.i64.wrap ((at_ : Int) + 1) = (at_ : Int) + 1 := by simp [IntKind.wrap, IntKind.bits, IntKind.signed]; omega
          simp only [Int.natCast_add, Int.cast_ofNat_Int] at cc
          clear hS hzk hbx hst hrs hdt hst2 hk1 hk2 hk3 hsyl hkl b1 b2 b3 hcn m1 m2 m3 h6 ht hx HCn HaD HB
          go_wp2_with fail
          refine wp_region_still_tail 8 (by kernel_rfl) (by kernel_rfl) ?_
          simp only [List.take_succ_cons, List.take_zero, List.drop_succ_cons, List.drop_zero]
          repeat still_step
          refine wpStill_nil ?_
          go_wp2_with fail
          refine cc.mono ?_
          rintro e w3 ⟨⟨u, rfl⟩, ⟨N1, D1, V1, hC1⟩, hK1⟩
          clear cc
          have hKo : Kn (fun q => q ≠ bD ∧ q ≠ bN) wo w3 := (Kn.refl _ _).drew.trans hK1
          have hK3 := hK.trans hKo
          have d5 : w3.cell? ⟨kg, koff + k * 6 + 5, none⟩ = some (.slice sa S sc) := (hKo.cell (p := ⟨kg, koff + k * 6 + 5, none⟩) (hok kg hkg) h6l).trans hc5
          have Hst : Hid (Cn most D0 (N0 + (L - k) + szL (l.take k) + szL x.kids + szS (x.sys.take 0)) (max (max (max (max D0 at_) (at_ - 1 + dpL (l.take k))) (at_ + dpL x.kids)) (at_ + dpS (x.sys.take 0))) N1 D1) := by
            have h1 := HX.out.step (hC1.cast (Nat.le_refl _) rfl (show max D' (at_ + 1 - 1 + dpL x.kids) = max D' (at_ + dpL x.kids) by omega))
            refine h1.cast (Nat.le_refl _) (by simp [szS]) ?_
            simp only [List.take_zero, dpS, maxL, List.map_nil, List.foldr_nil]
            omega
          have HaD1 : Hid (at_ ≤ D1) := by
            obtain ⟨_, _, _, h4, _⟩ := hC1
            exact Nat.le_trans (by assumption) h4
          have Hsy3 : Hid (SyT ok w3 (TmIn ok w3) x.sys (.slice sa S sc)) := Hsy.out.kn hKo hok
          clear hK1 hC1 HX hc hc4 hc5 V Hsy haD
          go_wp2_with fail
          go_loopw [46] (fun i wr => ∃ j N' D' : Nat, j ≤ S ∧ i = .int .i64 j ∧ CntV wr bD bM bN bC most N' D' ∧ Hid (Cn most D0 (N0 + (L - k) + szL (l.take k) + szL x.kids + szS (x.sys.take j)) (max (max (max (max D0 at_) (at_ - 1 + dpL (l.take k))) (at_ + dpL x.kids)) (at_ + dpS (x.sys.take j))) N' D') ∧ Hid (at_ ≤ D') ∧ Kn (fun q => q ≠ bD ∧ q ≠ bN) w3 wr) (fun i _ => S - (intOf i).toNat)
          case atStart => exact ⟨0, N1, D1, Nat.zero_le _, rfl, V1, Hst, HaD1, Kn.refl _ _⟩
          case round =>
            obtain ⟨wi, hwi⟩ : ∃ wi, wi = wr := ⟨_, rfl⟩
            subst hwi
            clear V1 Hst HaD1 d5
            obtain ⟨j, N2, D2, hj, rfl, V2, HC2, HaD2, hK4⟩ := hrel
            by_cases hltj : j < S
            · obtain ⟨b, hb⟩ := someL (l := x.sys) (k := j) (by rw [← HSl.out]; exact hltj)
              obtain ⟨sg, so, fa, fc, ka2, kc2, rfl, hsg, h2, hcl, hkd⟩ := (Hsy3.out.kn hK4 hok).at hb
              obtain ⟨lt2, e0, e1⟩ := h2
              obtain ⟨b1, b2, b3, b4⟩ := HBB.out
              have s1 := blkS_step hb
              have s2 := blkS_take x.sys (j + 1)
              have s3 := szS_blkS (x.sys.take j)
              have s4 := dpS_blkS (x.sys.take j)
              have s5 := szL_blkL x.kids
              have s6 := dpL_szL x.kids
              have hc2 := HC2.out
              obtain ⟨_, _, m1, m2, m3⟩ := id hc2
              have haD2 := HaD2.out
              obtain ⟨w4, hw4⟩ : ∃ w4, w4 = wi.alloc (.cells #[.slice fa b.1.length fc, .slice ka2 b.2.length kc2] 61) := ⟨_, rfl⟩
              have b4' : Below wi.heap.size wi w4 := by rw [hw4]; exact belowA _ _
              have n4' : w4.heap[wi.heap.size]? = some (.cells #[.slice fa b.1.length fc, .slice ka2 b.2.length kc2] 61 (0, 0)) := by rw [hw4]; exact heapNew _ _
              have V4 := V2.kn b4'
              have cc := IH b.2 (.slice ka2 b.2.length kc2) (at_ + 1) N2 D2 ok bD bM bN bC w4 V4 (hkd.blw b4') hok n1 n2 n3 n4 n5 (by omega) (by omega) (by omega) (by omega) (by omega)
              have HS2 : Hid (szS (x.sys.take (j + 1)) = szS (x.sys.take j) + szL b.2 ∧ dpS (x.sys.take (j + 1)) = max (dpS (x.sys.take j)) (dpL b.2)) := ⟨szS_step hb, dpS_step hb⟩
              obtain ⟨z1, hz1⟩ : ∃ z, z = b.1.length := ⟨_, rfl⟩
              obtain ⟨z2, hz2⟩ : ∃ z, z = b.2.length := ⟨_, rfl⟩
              rw [← hz1] at e0 hw4 n4'
              rw [← hz2] at e1 hw4 n4' cc
              obtain ⟨v0, v1⟩ : w4.cell? ⟨wi.heap.size, 0, none⟩ = some (.slice fa z1 fc) ∧ w4.cell? ⟨wi.heap.size, 1, none⟩ = some (.slice ka2 z2 kc2) := by
                refine ⟨?_, ?_⟩ <;> (unfold World.cell?; simp [n4'])
              have hcc := (box_cells V4.c).1
              have H4 : Hid (_ = _) := hw4
              have hK5 : Kn (fun q => q ≠ bD ∧ q ≠ bN) w3 w4 := hK4.trans (Kn.of_below b4')
              simp only [Int.natCast_add, Int.cast_ofNat_Int] at cc
              clear hw4 hz1 hz2 b1 b2 b3 b4 s1 s2 s3 s4 s5 s6 hc2 m1 m2 m3 hb hcl hkd n4' V4 b4' lt2
              go_upto_region 10 with fail
              rw [← H4.out]
              clear H4
              go_wp2_with fail
              refine cc.mono ?_
              rintro e w5 ⟨⟨u2, rfl⟩, ⟨N3, D3, V3, hC3⟩, hK6⟩
              clear cc
              have hK7 := hK5.trans hK6
              have HC4 : Hid (Cn most D0 (N0 + (L - k) + szL (l.take k) + szL x.kids + szS (x.sys.take (j + 1))) (max (max (max (max D0 at_) (at_ - 1 + dpL (l.take k))) (at_ + dpL x.kids)) (at_ + dpS (x.sys.take (j + 1)))) N3 D3) := by
                obtain ⟨q1, q2⟩ := HS2.out
                refine (HC2.out.step (hC3.cast (Nat.le_refl _) rfl (show max D2 (at_ + 1 - 1 + dpL b.2) = max D2 (at_ + dpL b.2) by omega))).cast (Nat.le_refl _) (by omega) (by omega)
              have HaD4 : Hid (at_ ≤ D3) := by
                obtain ⟨_, _, _, h4, _⟩ := hC3
                exact Nat.le_trans haD2 h4
              clear hC3 HC2 HS2 haD2 HaD2 hK5 hK6 v0 v1 hcc e0 e1 V2
              go_wp2
              go_roundw
              case rel => exact ⟨j + 1, N3, D3, by omega, by go_num, V3, HC4, HaD4, hK7⟩
              case measure => simp [intOf]; omega
            · obtain rfl : j = S := by omega
              have HC5 : Hid (Cn most D0 (N0 + (L - (k + 1)) + szL (l.take (k + 1))) (max (max D0 at_) (at_ - 1 + dpL (l.take (k + 1)))) N2 D2) := by
                have h1 := HC2.out
                rw [List.take_of_length_le (l := x.sys) (Nat.le_of_eq HSl.out.symm)] at h1
                obtain ⟨q1, q2, q3, q4⟩ := HS.out
                refine h1.cast (Nat.le_refl _) (by omega) (by omega)
              have hK8 := hK3.trans hK4
              clear HC2
              go_wp2
              go_roundw
              case rel => exact ⟨k + 1, N2, D2, by omega, by go_num, V2, HC5, HaD2, hK8⟩
              case measure => simp [intOf]; omega
        · obtain rfl : k = L := by omega
          have HC5 : Hid (Cn most D0 (N0 + szL l) (max D0 (at_ - 1 + dpL l)) N' D') := by
            have h1 := HCn.out
            rw [List.take_of_length_le (l := l) (Nat.le_of_eq HL.out.symm)] at h1
            have := Hdp.out
            exact h1.cast (Nat.le_refl _) (by omega) (by omega)
          go_wp2
          go_end0
          exact ⟨⟨_, rfl⟩, ⟨N', D', V, HC5.out⟩, hK⟩
theorem count_anyB (most : Int) (N : Nat) : CtCB most (N + 1) := by
  induction N with
  | zero => exact count_stepB most 0 fun l v at_ N0 D0 ok bD bM bN bC w hV hl hok n1 n2 n3 n4 n5 hN ha hd hs1 hs2 => count_nilB most l v at_ N0 D0 ok bD bM bN bC w hV hl hN ha hd
  | succ N ih => exact count_stepB most (N + 1) ih
set_option maxRecDepth 100000 in
set_option maxHeartbeats 4000000 in
theorem measure_anyB (t : Tm) (v : Value) (most : Int) (w : World) (hv : TmIn Tt w t v) (hb : blk t ≤ 10000000) :
    Calls Tryz.prog 56 #[v, .int .i64 most] w fun e w' => (∃ N1 D1 : Nat, e = .returned (.tuple #[.int .i64 (N1 : Int), .int .i64 (D1 : Int)]) ∧ ((depthT t : Int) ≤ most → N1 = sizeT t ∧ D1 = depthT t) ∧ (most < (depthT t : Int) → most < (D1 : Int)) ∧ N1 ≤ sizeT t ∧ D1 ≤ depthT t) ∧ Below w.heap.size w w' := by
  obtain ⟨ra, rc, ka, kc, sa, sc, rfl, ht⟩ := hv.form
  have eg := meas_eg
  obtain ⟨W, hW, hbW, sW, c6, e1, e2, e3, e4⟩ := box5 w t ra rc ka kc sa sc most
  obtain ⟨W2, hW2⟩ : ∃ W2, W2 = W.setCell ⟨w.heap.size + 4, 0, none⟩ (cntV w.heap.size) := ⟨_, rfl⟩
  have k2 : Kn (fun q => q ≠ w.heap.size + 4) W W2 := by rw [hW2]; exact (Kn.refl _ _).setCell (p := ⟨w.heap.size + 4, 0, none⟩) (.inl fun h => h rfl) _
  have b2 : Below w.heap.size w W2 := by rw [hW2]; exact hbW.setCell (p := ⟨w.heap.size + 4, 0, none⟩) (by show _ ≤ w.heap.size + 4; omega) _
  have sW2 : W2.heap.size = w.heap.size + 5 := by rw [hW2]; simp [World.setCell, sW]
  have V2 : CntV W2 (w.heap.size + 3) (w.heap.size + 1) (w.heap.size + 2) (w.heap.size + 4) most 0 0 := ⟨(k2.block _ (by omega) (by omega)).trans e3, (k2.block _ (by omega) (by omega)).trans e1, (k2.block _ (by omega) (by omega)).trans e2, by rw [hW2]; exact Boxed.set (t := 132) _ e4⟩
  have c62 := c6.kn k2 (by omega)
  obtain ⟨W3, hW3⟩ : ∃ W3, W3 = W2.alloc (.cells #[.int .i64 t.kind, .int .i64 t.n, .string t.name, .slice ra t.r.length rc, .slice ka t.kids.length kc, .slice sa t.sys.length sc] 26) := ⟨_, rfl⟩
  have hk := kt_one ht.lo2 b2 b2.size W3 hW3
  have b3 : Below W2.heap.size W2 W3 := by rw [hW3]; exact belowA _ _
  have V3 := V2.kn b3
  have hbl : blkL [t] = blk t := by simp [blkL]
  have cc := count_anyB most (blk t) [t] _ 1 0 0 _ (w.heap.size + 3) (w.heap.size + 1) (w.heap.size + 2) (w.heap.size + 4) W3 V3 hk (fun q hq => by rcases hq with hq | hq <;> omega) (by omega) (by omega) (by omega) (by omega) (by omega) (by omega) (by omega) (by omega) (by omega) (by omega)
  obtain ⟨x4, f4⟩ := box_cells e4
  obtain ⟨y0, y1, y2, y3, y4, y5⟩ := (⟨c62.c0, c62.c1, c62.c2, c62.c3, c62.c4, c62.c5⟩ : _ ∧ _ ∧ _ ∧ _ ∧ _ ∧ _)
  simp only [Nat.zero_add] at y1 y2 y3 y4 y5
  have y6 := (box_cells V2.c).1
  have HW : Hid (_ = _) := hW
  have HW2 : Hid (_ = _) := hW2
  have HW3 : Hid (_ = _) := hW3
  have HB : Hid (Below w.heap.size w W3) := bchain b2 b3
  have s3 : w.heap.size + 5 ≤ W3.heap.size := by have := b3.size; omega
  rw [sW2] at cc
  obtain ⟨s, hs⟩ : ∃ s, s = w.heap.size := ⟨_, rfl⟩
  unfold cntV at HW2
  clear hW hW2 hW3 hbW c6 e1 e2 e3 e4 k2 b2 V2 c62 hk b3 V3 hbl hv ht hb
  go_enter Tryz.func56, Tryz.ntmps56
  go_upto_region 2 with fail
  rw [← HW.out]
  simp only [Nat.add_assoc, Nat.reduceAdd]
  go_upto_region 3 with fail
  rw [← HW2.out]
  go_wp2_with fail
  rw [← HW3.out]
  refine cc.mono ?_
  rintro e W4 ⟨⟨u, rfl⟩, ⟨N1, D1, V4, hC⟩, hK4⟩
  clear cc
  obtain ⟨n0, n1⟩ := box_cells V4.n
  obtain ⟨d0, d1⟩ := box_cells V4.d
  have HC : Hid (_ ∧ _ ∧ _ ∧ _) := hC.zero_top
  have s4 : w.heap.size + 5 ≤ W4.heap.size := Nat.le_trans s3 hK4.size
  have HB4 : Hid (Below w.heap.size w W4) := HB.out.trans (hK4.below (fun q hq => ⟨by omega, by omega⟩) (by omega))
  have Hn : Hid (W4.heap[w.heap.size + 2]? = _) := V4.n
  have Hd : Hid (W4.heap[w.heap.size + 3]? = _) := V4.d
  clear V4 hC hK4 HW HW2 HW3 x4 f4 y0 y1 y2 y3 y4 y5 y6 HB
  go_wp2_with fail
  go_region
  obtain ⟨W5, hW5⟩ : ∃ W5, W5 = ((W4.setCell ⟨w.heap.size + 2, 0, none⟩ (.int .i64 (N1 : Int))).setCell ⟨w.heap.size + 3, 0, none⟩ (.int .i64 (D1 : Int))).drew := ⟨_, rfl⟩
  have r3 : W5.heap[w.heap.size + 3]? = some (.cells #[.int .i64 (D1 : Int)] 3 (0, 0)) := by
    rw [hW5]
    exact Boxed.set (t := 3) (v := .int .i64 (D1 : Int)) _ ((Below.heap_setCell W4 ⟨w.heap.size + 2, 0, none⟩ _ (w.heap.size + 3) (by show w.heap.size + 3 ≠ w.heap.size + 2; omega)).trans Hd.out)
  have r2 : W5.heap[w.heap.size + 2]? = some (.cells #[.int .i64 (N1 : Int)] 3 (0, 0)) := by
    rw [hW5]
    exact (Below.heap_setCell _ ⟨w.heap.size + 3, 0, none⟩ _ (w.heap.size + 2) (by show w.heap.size + 2 ≠ w.heap.size + 3; omega)).trans (Boxed.set (t := 3) (v := .int .i64 (N1 : Int)) _ Hn.out)
  have HB5 : Hid (Below w.heap.size w W5) := by
    rw [hW5]
    exact ((HB4.out.setCell (p := ⟨w.heap.size + 2, 0, none⟩) (by show _ ≤ w.heap.size + 2; omega) _).setCell (p := ⟨w.heap.size + 3, 0, none⟩) (by show _ ≤ w.heap.size + 3; omega) _).drew
  have c2 := (box_cells r2).1
  have c3 := (box_cells r3).1
  rw [← hW5]
  clear hW5 r2 r3 n0 n1 d0 d1 Hn Hd
  go_wp2
  exact bodyPost_ret (v := .tuple #[.int .i64 (N1 : Int), .int .i64 (D1 : Int)]) (by simp only [results, Tryz.results56]; simp [go_sem, c2, c3]) rfl ⟨⟨N1, D1, rfl, HC.out⟩, HB5.out⟩
set_option maxRecDepth 100000 in
set_option maxHeartbeats 2000000 in
theorem depth_anyB (t : Tm) (v : Value) (w : World) (hv : TmIn Tt w t v) (hb : blk t ≤ 10000000) : Calls Tryz.prog 34 #[v] w fun e w' => e = .returned (.int .i64 (depthT t : Int)) ∧ Below w.heap.size w w' := by
  have hd := depth_size t
  have hs := size_blk t
  obtain ⟨ra, rc, ka, kc, sa, sc, rfl, ht⟩ := hv.form
  obtain ⟨w1, hw1⟩ : ∃ w1, w1 = w.alloc (.cells #[.int .i64 t.kind, .int .i64 t.n, .string t.name, .slice ra t.r.length rc, .slice ka t.kids.length kc, .slice sa t.sys.length sc] 26) := ⟨_, rfl⟩
  have b1 : Below w.heap.size w w1 := by rw [hw1]; exact belowA _ _
  have c6 : Cs6 w1 w.heap.size 0 t ra rc ka kc sa sc := by rw [hw1]; exact cs6_new w t ra rc ka kc sa sc
  have cc := measure_anyB t _ 9223372036854775807 w1 (hv.blw b1) hb
  obtain ⟨_, y0, y1, y2, y3, y4, y5⟩ := c6
  have H1 : Hid (_ = _) := hw1
  clear hw1 hv ht
  go_enter Tryz.func34, Tryz.ntmps34
  go_upto_region 1 with fail
  rw [← H1.out]
  clear H1
  go_wp2_with fail
  refine cc.mono ?_
  rintro e w2 ⟨⟨N1, D1, rfl, a1, a2, a3, a4⟩, hb2⟩
  obtain ⟨e1, e2⟩ := a1 (by omega)
  have hal := bchain b1 hb2
  clear cc y0 y1 y2 y3 y4 y5 a1 a2
  go_wp2
  go_ret
  exact ⟨rfl, hal⟩
end Go.Proofs.YtocfamcclfhkcaaGreat

namespace Go.Proofs.YtocfamcclfhkcaaGreat
open Go.RowKit
set_option linter.unusedVariables false
set_option linter.unusedSimpArgs false

/-- The variables of At: a term, another one, a number. -/
structure AtB (w : World) (t u : Tm) (n : Int) (tb ub nb : Nat) (ra : Option Addr) (rc : Nat) (ka : Option Addr) (kc : Nat) (sa : Option Addr) (sc : Nat) (ru : Option Addr) (rcu : Nat) (ku : Option Addr) (kcu : Nat) (su : Option Addr) (scu : Nat) : Prop where
  ct : Cs6 w tb 0 t ra rc ka kc sa sc
  cu : Cs6 w ub 0 u ru rcu ku kcu su scu
  nlt : nb < w.heap.size
  cn : w.cell? ⟨nb, 0, none⟩ = some (.int .i64 n)
  tt : TmTop Tt w t ra rc ka kc sa sc
  tu : TmTop Tt w u ru rcu ku kcu su scu
theorem AtB.blw {w w' : World} {t u : Tm} {n : Int} {tb ub nb : Nat} {ra rc ka kc sa sc ru rcu ku kcu su scu} (h : AtB w t u n tb ub nb ra rc ka kc sa sc ru rcu ku kcu su scu) (hb : Below w.heap.size w w') : AtB w' t u n tb ub nb ra rc ka kc sa sc ru rcu ku kcu su scu :=
  ⟨h.ct.blw hb, h.cu.blw hb, Nat.lt_of_lt_of_le h.nlt hb.size, (hb.cell (p := ⟨nb, 0, none⟩) h.nlt).trans h.cn, h.tt.blw hb, h.tu.blw hb⟩
theorem Cs6.c' {w : World} {g : Nat} {t : Tm} {ra rc ka kc sa sc} (h : Cs6 w g 0 t ra rc ka kc sa sc) : w.cell? ⟨g, 0, none⟩ = some (.int .i64 t.kind) ∧ w.cell? ⟨g, 1, none⟩ = some (.int .i64 t.n) ∧ w.cell? ⟨g, 2, none⟩ = some (.string t.name) ∧ w.cell? ⟨g, 3, none⟩ = some (.slice ra t.r.length rc) ∧ w.cell? ⟨g, 4, none⟩ = some (.slice ka t.kids.length kc) ∧ w.cell? ⟨g, 5, none⟩ = some (.slice sa t.sys.length sc) := by
  obtain ⟨_, h0, h1, h2, h3, h4, h5⟩ := h
  simp only [Nat.zero_add] at h1 h2 h3 h4 h5
  exact ⟨h0, h1, h2, h3, h4, h5⟩
theorem cn_le20 (n : Int) (t : Tm) (h : blk t ≤ 20000) : cnP n t 0 ≤ 20000 := Nat.le_trans (cn_blk n _ t 0 (Nat.le_refl _)) h
set_option maxRecDepth 100000 in
set_option maxHeartbeats 2000000 in
theorem atc_any (hLA : LAll) (t u : Tm) (n : Int) (hn : I64 n) (tb ub nb : Nat) (ra : Option Addr) (rc : Nat) (ka : Option Addr) (kc : Nat) (sa : Option Addr) (sc : Nat) (ru : Option Addr) (rcu : Nat) (ku : Option Addr) (kcu : Nat) (su : Option Addr) (scu : Nat) (w : World)
    (hA : AtB w t u n tb ub nb ra rc ka kc sa sc ru rcu ku kcu su scu) (hb : blk t ≤ 20000) (hub : blk u ≤ 20000) (hsm : wrongN true 0 0 t = 0 → eP n u t 0 0 = 0 → ¬ 20000 < (sizeT t : Int) + cnP n t 0 * ((sizeT u : Int) - 1) → blk (putT n u t 0 0) ≤ 10000000) :
    Calls Tryz.prog 28 #[.pointer (some ⟨tb, 0, none⟩), .pointer (some ⟨ub, 0, none⟩), .pointer (some ⟨nb, 0, none⟩)] w fun e w' => LOut (plE n t u) (TmIn (fun q => w.heap.size ≤ q) w' (putT n u t 0 0)) e ∧ Below w.heap.size w w' := by
  have HP : Hid (plE n t u = if wrongN true 0 0 t ≠ 0 then ((wrongN true 0 0 t : Nat) : Int) else if wrongN true 0 0 u ≠ 0 then ((wrongN true 0 0 u : Nat) : Int) else if n < 0 then 2 else if 20000 < (sizeT t : Int) + cnP n t 0 * ((sizeT u : Int) - 1) then 221 else if eP n u t 0 0 ≠ 0 then eP n u t 0 0 else if 200 < depthT (putT n u t 0 0) then 62 else 0) := rfl
  obtain ⟨pZ, hpZ⟩ : ∃ z, z = plE n t u := ⟨_, rfl⟩
  rw [← hpZ] at HP ⊢
  obtain ⟨tZ, htZ⟩ : ∃ z, z = putT n u t 0 0 := ⟨_, rfl⟩
  rw [← htZ] at HP hsm ⊢
  have Hsm : Hid (wrongN true 0 0 t = 0 → eP n u t 0 0 = 0 → ¬ 20000 < (sizeT t : Int) + cnP n t 0 * ((sizeT u : Int) - 1) → blk tZ ≤ 10000000) := hsm
  clear hsm
  have HtZ : Hid (tZ = putT n u t 0 0) := htZ
  clear hpZ htZ
  obtain ⟨X, hX⟩ : ∃ X, X = w.heap.size := ⟨_, rfl⟩
  obtain ⟨w1, hw1⟩ : ∃ W, W = w.alloc (.cells #[.int .i64 0, .int .i64 0, .string ⟨#[]⟩, .slice none 0 0, .slice none 0 0, .slice none 0 0] 26) := ⟨_, rfl⟩
  have b1 : Below w.heap.size w w1 := by rw [hw1]; exact belowA _ _
  have r1 : Six w1 X (.int .i64 0) (.int .i64 0) (.string ⟨#[]⟩) (.slice none 0 0) (.slice none 0 0) (.slice none 0 0) := ⟨by rw [hw1, hX]; exact heapNew _ _⟩
  have hA1 := hA.blw b1
  have HS : Hid (∀ V, Below w1.heap.size w1 V → AtB V t u n tb ub nb ra rc ka kc sa sc ru rcu ku kcu su scu ∧ Six V X (.int .i64 0) (.int .i64 0) (.string ⟨#[]⟩) (.slice none 0 0) (.slice none 0 0) (.slice none 0 0) ∧ Below X w V) := fun V q => ⟨hA1.blw q, r1.blw q, by rw [hX]; exact bchain b1 q⟩
  have cF := formed_any t _ w1 hA1.tt.value hb
  obtain ⟨y0, y1, y2, y3, y4, y5⟩ := hA1.ct.c'
  have HW : Hid (_ = _) := hw1
  have HX : Hid (X = w.heap.size) := hX
  have hB1 : Below w1.heap.size w1 w1 := Below.refl _ _
  have hXw : X < w1.heap.size := r1.lt
  clear hw1 b1 r1 hA hA1 hX
  rw [← HX.out]
  go_enter Tryz.func28, Tryz.ntmps28
  go_upto_region 1 with fail
  rw [← HW.out]
  simp only [← HX.out]
  clear HW
  go_wp2_with fail
  refine cF.mono ?_
  rintro e w2 ⟨rfl, hb2⟩
  clear cF y0 y1 y2 y3 y4 y5
  obtain ⟨eT, heT⟩ : ∃ z : Int, z = ((wrongN true 0 0 t : Nat) : Int) := ⟨_, rfl⟩
  rw [← heT]
  have HeT : Hid (_ = _) := heT
  clear heT
  have hB2 := hB1.trans hb2
  have cr := prefuse_any eT w2
  go_wp2_with fail
  refine cr.mono ?_
  rintro e w' ⟨⟨h0, v, rfl, rfl⟩ | ⟨hne, rfl⟩, hw'⟩
  rotate_left
  · subst hw'
    have e1 : pZ = eT := by rw [HP.out, if_pos (by have := HeT.out; omega), HeT.out]
    exact ⟨rfl, .inr ⟨by rw [e1]; exact hne, by rw [e1]⟩, (HS.out _ hB2).2.2⟩
  replace hw' := hw'.symm
  subst hw'
  clear cr
  obtain ⟨hA2, _, _⟩ := HS.out _ hB2
  obtain ⟨y0, y1, y2, y3, y4, y5⟩ := hA2.cu.c'
  have cF := formed_any u _ w2 hA2.tu.value hub
  clear hA2
  go_wp2_with fail
  refine cF.mono ?_
  rintro e w3 ⟨rfl, hb3⟩
  clear cF y0 y1 y2 y3 y4 y5
  obtain ⟨eU, heU⟩ : ∃ z : Int, z = ((wrongN true 0 0 u : Nat) : Int) := ⟨_, rfl⟩
  rw [← heU]
  have HeU : Hid (_ = _) := heU
  clear heU
  have hB3 : Below w1.heap.size w1 w3 := hB2.trans (hb3.mono hB2.size)
  have HT0 : Hid (wrongN true 0 0 t = 0) := by have := HeT.out; show _ = _; omega
  have cr := prefuse_any eU w3
  go_wp2_with fail
  refine cr.mono ?_
  rintro e w' ⟨⟨h1, v, rfl, rfl⟩ | ⟨hne, rfl⟩, hw'⟩
  rotate_left
  · subst hw'
    have e1 : pZ = eU := by rw [HP.out, if_neg (by have := HT0.out; omega), if_pos (by have := HeU.out; omega), HeU.out]
    exact ⟨rfl, .inr ⟨by rw [e1]; exact hne, by rw [e1]⟩, (HS.out _ hB3).2.2⟩
  replace hw' := hw'.symm
  subst hw'
  clear cr
  have HU0 : Hid (wrongN true 0 0 u = 0) := by have := HeU.out; show _ = _; omega
  have HP2 : Hid (pZ = if n < 0 then 2 else if 20000 < (sizeT t : Int) + cnP n t 0 * ((sizeT u : Int) - 1) then 221 else if eP n u t 0 0 ≠ 0 then eP n u t 0 0 else if 200 < depthT tZ then 62 else 0) := by
    show _ = _
    rw [HP.out, if_neg (by have := HT0.out; omega), if_neg (by have := HU0.out; omega)]
  clear HP HeT HeU h0 h1
  obtain ⟨hA3, _, _⟩ := HS.out _ hB3
  have yn := hA3.cn
  by_cases hneg : n < 0
  · have hnb : decide (n < 0) = true := by simpa using hneg
    have cr := prefuseIf_yes 2 w3
    clear hA3
    go_wp2_with fail
    refine cr.mono ?_
    rintro e w' ⟨rfl, hw'⟩
    subst hw'
    have e1 : pZ = 2 := by rw [HP2.out, if_pos hneg]
    exact ⟨rfl, .inr ⟨by rw [e1]; decide, by rw [e1]⟩, (HS.out _ hB3).2.2⟩
  have hnb : decide (n < 0) = false := by simpa using hneg
  have cr := prefuseIf_no 2 w3
  clear hA3
  go_wp2_with fail
  refine cr.mono ?_
  rintro e w' ⟨rfl, hw'⟩
  replace hw' := hw'.symm
  subst hw'
  clear cr hnb yn
  go_upto_region 4 with fail
  obtain ⟨za, hza⟩ : ∃ z : Int, z = (sizeT t : Nat) := ⟨_, rfl⟩
  obtain ⟨zc, hzc⟩ : ∃ z : Int, z = (cnP n t 0 : Nat) := ⟨_, rfl⟩
  obtain ⟨zu, hzu⟩ : ∃ z : Int, z = (sizeT u : Nat) := ⟨_, rfl⟩
  have hza2 : 0 ≤ za ∧ za ≤ 20000 := by have := size_blk t; omega
  have hzu2 : 0 ≤ zu ∧ zu ≤ 20000 := by have := size_blk u; omega
  have hzc2 : 0 ≤ zc ∧ zc ≤ 20000 := by have := cn_le20 n t hb; omega
  obtain ⟨zm, hzm⟩ : ∃ z : Int, z = zc * (zu - 1) := ⟨_, rfl⟩
  have hzm2 : -20000 ≤ zm ∧ zm ≤ 400000000 := by
    rw [hzm]
    have q1 : zc * (zu - 1) ≤ 20000 * 20000 := by
      by_cases h : 0 ≤ zu - 1
      · exact Int.mul_le_mul (by omega) (by omega) h (by omega)
      · have : zc * (zu - 1) ≤ 0 := Int.mul_nonpos_of_nonneg_of_nonpos (by omega) (by omega)
        omega
    have q2 : -(20000 : Int) ≤ zc * (zu - 1) := by
      have : zc * (-1) ≤ zc * (zu - 1) := Int.mul_le_mul_of_nonneg_left (by omega) (by omega)
      omega
    omega
  obtain ⟨bG, hbG⟩ := bool_of (20000 < za + zm)
  have HbG : Hid (bG = true ↔ 20000 < (sizeT t : Int) + cnP n t 0 * ((sizeT u : Int) - 1)) := by
    show _ ↔ _
    rw [hbG, hzm, hza, hzc, hzu]
  have HW1 : Hid (IntKind.i64.wrap (zu - 1) = zu - 1 ∧ IntKind.i64.wrap (zc * (zu - 1)) = zm ∧ IntKind.i64.wrap (za + zm) = za + zm ∧ decide (20000 < za + zm) = bG ∧ decide (za + zm > 20000) = bG) := by
    refine ⟨by simp [IntKind.wrap, IntKind.bits, IntKind.signed]; omega, by rw [← hzm]; simp [IntKind.wrap, IntKind.bits, IntKind.signed]; omega, by simp [IntKind.wrap, IntKind.bits, IntKind.signed]; omega, ?_, ?_⟩
    · rw [Bool.eq_iff_iff, hbG]; simp
    · rw [Bool.eq_iff_iff, hbG]; simp
  have HcS : Hid (∀ V, Below w1.heap.size w1 V → Calls Tryz.prog 31 #[.agg #[.int .i64 t.kind, .int .i64 t.n, .string t.name, .slice ra t.r.length rc, .slice ka t.kids.length kc, .slice sa t.sys.length sc]] V fun e w' => e = .returned (.int .i64 za) ∧ Below V.heap.size V w') := fun V q => by rw [hza]; exact size_any t _ V (HS.out V q).1.tt.value (by omega)
  have HcU : Hid (∀ V, Below w1.heap.size w1 V → Calls Tryz.prog 31 #[.agg #[.int .i64 u.kind, .int .i64 u.n, .string u.name, .slice ru u.r.length rcu, .slice ku u.kids.length kcu, .slice su u.sys.length scu]] V fun e w' => e = .returned (.int .i64 zu) ∧ Below V.heap.size V w') := fun V q => by rw [hzu]; exact size_any u _ V (HS.out V q).1.tu.value (by omega)
  have HcC : Hid (∀ V, Below w1.heap.size w1 V → Calls Tryz.prog 32 #[.agg #[.int .i64 t.kind, .int .i64 t.n, .string t.name, .slice ra t.r.length rc, .slice ka t.kids.length kc, .slice sa t.sys.length sc], .int .i64 n] V fun e w' => e = .returned (.int .i64 zc) ∧ Below V.heap.size V w') := fun V q => by rw [hzc]; exact pcount_any n hn t _ V (HS.out V q).1.tt.value (fp_of_wrong HT0.out) (by omega)
  clear hza hzc hzu hzm hbG
  refine wp_region_held_drew (S := fun V => Below w1.heap.size w1 V) (by kernel_rfl) hB3.drew (fun hS => ?_)
  refine wpAnyH_take (i := 0) (v := .agg #[.int .i64 t.kind, .int .i64 t.n, .string t.name, .slice ra t.r.length rc, .slice ka t.kids.length kc, .slice sa t.sys.length sc]) rfl (by kernel_rfl) (by kernel_rfl) (by kernel_rfl) (fun _ _ _ h => h) (Or.inl ⟨by rfl, fun w hS => by obtain ⟨y0, y1, y2, y3, y4, y5⟩ := (HS.out w hS).1.ct.c'; go_simp⟩) hS ?_
  try simp only [Act.put, List.getElem_toArray, List.getElem_cons_zero, List.getElem_cons_succ, List.setIfInBounds_toArray, List.set_cons_zero, List.set_cons_succ]
  refine wpAnyH_take (i := 2) (v := .agg #[.int .i64 t.kind, .int .i64 t.n, .string t.name, .slice ra t.r.length rc, .slice ka t.kids.length kc, .slice sa t.sys.length sc]) rfl (by kernel_rfl) (by kernel_rfl) (by kernel_rfl) (fun _ _ _ h => h) (Or.inl ⟨by rfl, fun w hS => by obtain ⟨y0, y1, y2, y3, y4, y5⟩ := (HS.out w hS).1.ct.c'; go_simp⟩) hS ?_
  try simp only [Act.put, List.getElem_toArray, List.getElem_cons_zero, List.getElem_cons_succ, List.setIfInBounds_toArray, List.set_cons_zero, List.set_cons_succ]
  refine wpAnyH_take (i := 3) (v := .int .i64 n) rfl (by kernel_rfl) (by kernel_rfl) (by kernel_rfl) (fun _ _ _ h => h) (Or.inl ⟨by rfl, fun w hS => by have yn := (HS.out w hS).1.cn; go_simp⟩) hS ?_
  try simp only [Act.put, List.getElem_toArray, List.getElem_cons_zero, List.getElem_cons_succ, List.setIfInBounds_toArray, List.set_cons_zero, List.set_cons_succ]
  refine wpAnyH_take (i := 5) (v := .agg #[.int .i64 u.kind, .int .i64 u.n, .string u.name, .slice ru u.r.length rcu, .slice ku u.kids.length kcu, .slice su u.sys.length scu]) rfl (by kernel_rfl) (by kernel_rfl) (by kernel_rfl) (fun _ _ _ h => h) (Or.inl ⟨by rfl, fun w hS => by obtain ⟨y0, y1, y2, y3, y4, y5⟩ := (HS.out w hS).1.cu.c'; go_simp⟩) hS ?_
  try simp only [Act.put, List.getElem_toArray, List.getElem_cons_zero, List.getElem_cons_succ, List.setIfInBounds_toArray, List.set_cons_zero, List.set_cons_succ]
  refine wpAnyH_ready (rs := [1]) (by kernel_rfl) (by simp) ?_
  refine ready_cons rfl (fun KK hKK => ?_) AllReadyH.nil
  refine ⟨?_⟩
  have cc := HcS.out _ hS
  go_simp
  refine cc.mono ?_
  rintro e w4 ⟨rfl, hbw4⟩
  have hw4 : Below w1.heap.size w1 w4 := hS.trans (hbw4.mono hS.size)
  refine hKK.out _ _ hw4 (fun hS4 => ?_)
  clear hKK KK cc
  try simp only [Act.put, List.getElem_toArray, List.getElem_cons_zero, List.getElem_cons_succ, List.setIfInBounds_toArray, List.set_cons_zero, List.set_cons_succ]
  refine wpAnyH_ready (rs := [4]) (by kernel_rfl) (by simp) ?_
  refine ready_cons rfl (fun KK hKK => ?_) AllReadyH.nil
  refine ⟨?_⟩
  have cc := HcC.out _ hw4
  go_simp
  refine cc.mono ?_
  rintro e w5 ⟨rfl, hbw5⟩
  have hw5 : Below w1.heap.size w1 w5 := hw4.trans (hbw5.mono hw4.size)
  refine hKK.out _ _ hw5 (fun hS5 => ?_)
  clear hKK KK cc
  try simp only [Act.put, List.getElem_toArray, List.getElem_cons_zero, List.getElem_cons_succ, List.setIfInBounds_toArray, List.set_cons_zero, List.set_cons_succ]
  refine wpAnyH_ready (rs := [6]) (by kernel_rfl) (by simp) ?_
  refine ready_cons rfl (fun KK hKK => ?_) AllReadyH.nil
  refine ⟨?_⟩
  have cc := HcU.out _ hw5
  go_simp
  refine cc.mono ?_
  rintro e w6 ⟨rfl, hbw6⟩
  have hw6 : Below w1.heap.size w1 w6 := hw5.trans (hbw6.mono hw5.size)
  refine hKK.out _ _ hw6 (fun hS6 => ?_)
  clear hKK KK cc
  try simp only [Act.put, List.getElem_toArray, List.getElem_cons_zero, List.getElem_cons_succ, List.setIfInBounds_toArray, List.set_cons_zero, List.set_cons_succ]
  refine wpAnyH_take (i := 7) (v := .int .i64 (zu - 1)) rfl (by kernel_rfl) (by kernel_rfl) (by kernel_rfl) (fun _ _ _ h => h) (Or.inl ⟨by rfl, fun w hS => by have wi := HW1.out.1; go_simp⟩) hS6 ?_
  try simp only [Act.put, List.getElem_toArray, List.getElem_cons_zero, List.getElem_cons_succ, List.setIfInBounds_toArray, List.set_cons_zero, List.set_cons_succ]
  refine wpAnyH_take (i := 8) (v := .int .i64 zm) rfl (by kernel_rfl) (by kernel_rfl) (by kernel_rfl) (fun _ _ _ h => h) (Or.inl ⟨by rfl, fun w hS => by have wi := HW1.out.2.1; go_simp⟩) hS6 ?_
  try simp only [Act.put, List.getElem_toArray, List.getElem_cons_zero, List.getElem_cons_succ, List.setIfInBounds_toArray, List.set_cons_zero, List.set_cons_succ]
  refine wpAnyH_take (i := 9) (v := .int .i64 (za + zm)) rfl (by kernel_rfl) (by kernel_rfl) (by kernel_rfl) (fun _ _ _ h => h) (Or.inl ⟨by rfl, fun w hS => by have wi := HW1.out.2.2.1; go_simp⟩) hS6 ?_
  try simp only [Act.put, List.getElem_toArray, List.getElem_cons_zero, List.getElem_cons_succ, List.setIfInBounds_toArray, List.set_cons_zero, List.set_cons_succ]
  refine wpAnyH_take (i := 10) (v := .bool bG) rfl (by kernel_rfl) (by kernel_rfl) (by kernel_rfl) (fun _ _ _ h => h) (Or.inl ⟨by rfl, fun w hS => by have wi := HW1.out.2.2.2.1; have wj := HW1.out.2.2.2.2; go_simp⟩) hS6 ?_
  try simp only [Act.put, List.getElem_toArray, List.getElem_cons_zero, List.getElem_cons_succ, List.setIfInBounds_toArray, List.set_cons_zero, List.set_cons_succ]
  refine wpAnyH_ready (rs := [11]) (by kernel_rfl) (by simp) ?_
  refine ready_cons rfl (fun KK hKK => ?_) AllReadyH.nil
  refine ⟨?_⟩
  cases bG
  rotate_left
  · have cr := prefuseIf_yes 221 w6
    go_simp
    refine cr.mono ?_
    rintro e w' ⟨rfl, hw'⟩
    subst hw'
    have e1 : pZ = 221 := by rw [HP2.out, if_neg (by omega), if_pos (HbG.out.1 rfl)]
    exact ⟨rfl, .inr ⟨by rw [e1]; decide, by rw [e1]⟩, (HS.out _ hw6).2.2⟩
  have cr := prefuseIf_no 221 w6
  go_simp
  refine cr.mono ?_
  rintro e w' ⟨rfl, hw'⟩
  replace hw' := hw'.symm
  subst hw'
  refine hKK.out _ _ hw6 (fun hS7 => ?_)
  clear hKK KK cr
  try simp only [Act.put, List.getElem_toArray, List.getElem_cons_zero, List.getElem_cons_succ, List.setIfInBounds_toArray, List.set_cons_zero, List.set_cons_succ]
  refine wpAnyH_done (by kernel_rfl) ?_ _
  have HP3 : Hid (pZ = if eP n u t 0 0 ≠ 0 then eP n u t 0 0 else if 200 < depthT tZ then 62 else 0) := by
    show _ = _
    rw [HP2.out, if_neg (by omega), if_neg (fun h => by have := HbG.out.2 h; cases this)]
  obtain ⟨hA6, _, _⟩ := HS.out _ hw6
  have cP := put_any hLA n hn t u _ _ w6 hA6.tt.value hA6.tu.value (fp_of_wrong HT0.out) (by omega) hub
  obtain ⟨y0, y1, y2, y3, y4, y5⟩ := hA6.ct.c'
  obtain ⟨z0, z1, z2, z3, z4, z5⟩ := hA6.cu.c'
  have yn := hA6.cn
  have HsG : Hid (¬ 20000 < (sizeT t : Int) + cnP n t 0 * ((sizeT u : Int) - 1)) := fun h => by have := HbG.out.2 h; cases this
  obtain ⟨eZ, heZ⟩ : ∃ z, z = eP n u t 0 0 := ⟨_, rfl⟩
  have HeZ0 : Hid (eZ = eP n u t 0 0) := heZ
  rw [← heZ] at HP3 cP
  rw [← HtZ.out] at cP
  clear hA6 HbG HW1 HcS HcU HcC HP2 heZ hb2 hb3 hbw4 hbw5 hbw6 hS hS4 hS5 hS6 hS7
  go_wp2_with fail
  refine cP.mono ?_
  rintro e w7 ⟨⟨he0, v7, rfl, hv7⟩ | ⟨hne, rfl⟩, hb7⟩
  rotate_left
  · have e1 : pZ = eZ := by rw [HP3.out, if_pos hne]
    exact ⟨rfl, .inr ⟨by rw [e1]; exact hne, by rw [e1]⟩, (HS.out _ (hw6.trans (hb7.mono hw6.size))).2.2⟩
  clear cP y0 y1 y2 y3 y4 y5 z0 z1 z2 z3 z4 z5 yn
  obtain ⟨r7, rc7, k7, kc7, s7, sc7, rfl, ht7⟩ := hv7.form
  obtain ⟨Y, hY⟩ : ∃ Y, Y = w7.heap.size := ⟨_, rfl⟩
  obtain ⟨w8, hw8⟩ : ∃ W, W = w7.alloc (.cells #[.int .i64 tZ.kind, .int .i64 tZ.n, .string tZ.name, .slice r7 tZ.r.length rc7, .slice k7 tZ.kids.length kc7, .slice s7 tZ.sys.length sc7] 26) := ⟨_, rfl⟩
  have b8 : Below w7.heap.size w7 w8 := by rw [hw8]; exact belowA _ _
  have x8 : Cs6 w8 Y 0 tZ r7 rc7 k7 kc7 s7 sc7 := by rw [hw8, hY]; exact cs6_new _ _ _ _ _ _ _ _
  have hB7 : Below w1.heap.size w1 w7 := hw6.trans (hb7.mono hw6.size)
  have hB8 : Below w1.heap.size w1 w8 := hB7.trans (b8.mono hB7.size)
  have ht8 := ht7.blw b8
  have cD := depth_anyB tZ _ w8 (ht8.value.up fun _ _ => trivial) (Hsm.out HT0.out (by rw [← HeZ0.out]; exact he0) HsG.out)
  have hw6s := hw6.size
  have Ht8 : Hid (TmTop (fun q => w6.heap.size ≤ q) w8 tZ r7 rc7 k7 kc7 s7 sc7) := ht8
  have H8 : Hid (_ = _) := hw8
  have HY : Hid (Y = w7.heap.size) := hY
  have Hx8 : Hid (∀ V, Below w8.heap.size w8 V → Cs6 V Y 0 tZ r7 rc7 k7 kc7 s7 sc7) := fun V q => x8.blw q
  obtain ⟨y0, y1, y2, y3, y4, y5⟩ := x8.c'
  clear hw8 hY b8 x8 ht7 ht8 hv7 hb7 hB7
  go_upto_region 6 with fail
  rw [← H8.out]
  simp only [← HY.out]
  clear H8 HY
  go_wp2_with fail
  refine cD.mono ?_
  rintro e w9 ⟨rfl, hb9⟩
  clear cD y0 y1 y2 y3 y4 y5
  have hB9 : Below w1.heap.size w1 w9 := hB8.trans (hb9.mono hB8.size)
  obtain ⟨D, hD⟩ : ∃ D, D = depthT tZ := ⟨_, rfl⟩
  rw [← hD] at HP3 ⊢
  clear hD
  by_cases hdeep : 200 < D
  · have hdb : decide ((200 : Int) < (D : Int)) = true := by simp; omega
    have cr := prefuseIf_yes 62 w9
    go_wp2_with fail
    refine cr.mono ?_
    rintro e w' ⟨rfl, hw'⟩
    subst hw'
    have e1 : pZ = 62 := by rw [HP3.out, if_neg (by omega), if_pos hdeep]
    exact ⟨rfl, .inr ⟨by rw [e1]; decide, by rw [e1]⟩, (HS.out _ hB9).2.2⟩
  have hdb : decide ((200 : Int) < (D : Int)) = false := by simp; omega
  have cr := prefuseIf_no 62 w9
  go_wp2_with fail
  refine cr.mono ?_
  rintro e w' ⟨rfl, hw'⟩
  replace hw' := hw'.symm
  subst hw'
  clear cr
  obtain ⟨_, z9, hB9X⟩ := HS.out _ hB9
  obtain ⟨y0, y1, y2, y3, y4, y5⟩ := (Hx8.out _ hb9).c'
  obtain ⟨o0, o1, o2, o3, o4, o5, ff⟩ := z9.cells
  have f0 := ff 0
  have f1 := ff 1
  have f2 := ff 2
  have f3 := ff 3
  have f4 := ff 4
  have f5 := ff 5
  obtain ⟨wa, hwa⟩ : ∃ W, W = (((((w9.setCell ⟨X, 0, none⟩ (.int .i64 tZ.kind)).setCell ⟨X, 1, none⟩ (.int .i64 tZ.n)).setCell ⟨X, 2, none⟩ (.string tZ.name)).setCell ⟨X, 3, none⟩ (.slice r7 tZ.r.length rc7)).setCell ⟨X, 4, none⟩ (.slice k7 tZ.kids.length kc7)).setCell ⟨X, 5, none⟩ (.slice s7 tZ.sys.length sc7) := ⟨_, rfl⟩
  have za := z9.set6 (.int .i64 tZ.kind) (.int .i64 tZ.n) (.string tZ.name) (.slice r7 tZ.r.length rc7) (.slice k7 tZ.kids.length kc7) (.slice s7 tZ.sys.length sc7)
  rw [← hwa] at za
  have ka' : Kn (fun q => q ≠ X) w9 wa := by rw [hwa]; exact (((((kn_set _ _ _ _).trans (kn_set _ _ _ _)).trans (kn_set _ _ _ _)).trans (kn_set _ _ _ _)).trans (kn_set _ _ _ _)).trans (kn_set _ _ _ _)
  obtain ⟨h0, h1, h2, h3, h4, h5, _⟩ := za.cells
  have HF : Hid (pZ = 0 ∧ TmIn (fun q => X ≤ q) wa tZ (.agg #[.int .i64 tZ.kind, .int .i64 tZ.n, .string tZ.name, .slice r7 tZ.r.length rc7, .slice k7 tZ.kids.length kc7, .slice s7 tZ.sys.length sc7]) ∧ Below X w wa) := by
    refine ⟨by rw [HP3.out, if_neg (by omega), if_neg hdeep], ?_, hB9X.trans (ka'.below (fun q hq => by omega) (by have := z9.lt; omega))⟩
    exact ((Ht8.out.blw hb9).value).keep ka'.size (fun q hq => by have hq : w6.heap.size ≤ q := hq; show X ≤ q; omega) (fun q hq hs => ka'.block q (by have hq : w6.heap.size ≤ q := hq; show q ≠ X; omega) hs)
  have Ha : Hid (_ = _) := hwa
  clear hwa ff z9 za ka' hb9
  go_wp2_with fail
  rw [← Ha.out]
  exact bodyPost_ret (v := .agg #[.int .i64 tZ.kind, .int .i64 tZ.n, .string tZ.name, .slice r7 tZ.r.length rc7, .slice k7 tZ.kids.length kc7, .slice s7 tZ.sys.length sc7]) (by simp only [results, Tryz.results28]; simp [go_sem, h0, h1, h2, h3, h4, h5]) rfl ⟨.ok HF.out.1 HF.out.2.1, HF.out.2.2⟩
end Go.Proofs.YtocfamcclfhkcaaGreat

namespace Go.Proofs.YtocfamcclfhkcaaGreat
open Go.RowKit
set_option linter.unusedVariables false
set_option linter.unusedSimpArgs false

set_option maxRecDepth 100000 in
set_option maxHeartbeats 1000000 in
theorem pcatch_panicking (q : Nat) (a x : Int) (older : List PanicEntry) (w : World) (hq : q < w.heap.size) (c0 : w.cell? ⟨q, 0, none⟩ = some (.int .i64 a)) (z0 : w.frozen? ⟨q, 0, none⟩ = false) :
    CallsD Tryz.prog 68 #[.pointer (some ⟨q, 0, none⟩)] (.panicking ({ v := .iface 29 (.int .i64 x), recovered := false } :: older)) w fun e u' w' =>
      e = .returned (.tuple #[]) ∧ u' = .panicking ({ v := .iface 29 (.int .i64 x), recovered := true } :: older) ∧ w' = w.setCell ⟨q, 0, none⟩ (.int .i64 x) := by
  refine callsD_of_wpS Tryz.func68 rfl fun c₀ cs hu => ?_
  apply wpS_seq
  apply wpS_region
  simp [wpOpsS, go_sem, recoverD, hu, Tryz.ntmps68, Exit.thenS]
  refine wpS_of_wp ?_
  change Code.wp Tryz.prog _ _ { tmps := #[.pointer (some ⟨q, 0, none⟩), .iface 29 (.int .i64 x), .iface 29 (.int .i64 x), undef, undef, undef, undef], defers := [] } w
  have hta := fun w => assert_errno (.int .i64 x) w
  go_wp2_with fail
  simp +zetaDelta [bodyPostS, results, Tryz.results68]
theorem pcatch_idle (q : Nat) (w : World) :
    CallsD Tryz.prog 68 #[.pointer (some ⟨q, 0, none⟩)] .returning w fun e u' w' => e = .returned (.tuple #[]) ∧ u' = .returning ∧ w' = w := by
  refine callsD_of_wpS Tryz.func68 rfl fun c₀ cs hu => ?_
  apply wpS_seq
  apply wpS_region
  simp [wpOpsS, go_sem, recoverD, hu, Tryz.ntmps68, Exit.thenS]
  refine wpS_of_wp ?_
  change Code.wp Tryz.prog _ _ { tmps := #[.pointer (some ⟨q, 0, none⟩), .nilIface, .nilIface, undef, undef, undef, undef], defers := [] } w
  go_wp2_with fail
  cases c₀
  simp_all +zetaDelta [bodyPostS, results, Tryz.results68]
theorem atc_eg : ∀ args w, (callFunc 28 args).run Tryz.prog w = .ok (.enter 28 args) w := enters_of Tryz.func28 (by kernel_rfl) rfl
set_option maxRecDepth 100000 in
set_option maxHeartbeats 2000000 in
theorem pcaught_any (pZ : Int) (tZ : Tm) (tb ub nb : Nat) (w : World)
    (hC : ∀ V, Below w.heap.size w V → Calls Tryz.prog 28 #[.pointer (some ⟨tb, 0, none⟩), .pointer (some ⟨ub, 0, none⟩), .pointer (some ⟨nb, 0, none⟩)] V fun e w' => LOut pZ (TmIn (fun q => V.heap.size ≤ q) w' tZ) e ∧ Below V.heap.size V w') :
    Calls Tryz.prog 27 #[.func (.func 28) #[] #[.pointer (some ⟨tb, 0, none⟩), .pointer (some ⟨ub, 0, none⟩), .pointer (some ⟨nb, 0, none⟩)]] w fun e w' => ∃ v', e = .returned (.tuple #[v', .int .i64 pZ]) ∧ TmIn (fun q => w.heap.size ≤ q) w' (if pZ = 0 then tZ else zeroT) v' ∧ Below w.heap.size w w' := by
  obtain ⟨T, hT⟩ : ∃ T, T = if pZ = 0 then tZ else zeroT := ⟨_, rfl⟩
  rw [← hT]
  have HT : Hid (_ = _) := hT
  clear hT
  obtain ⟨X, hX⟩ : ∃ X, X = w.heap.size := ⟨_, rfl⟩
  obtain ⟨wa, hwa⟩ : ∃ W, W = w.alloc (.cells #[.int .i64 0, .int .i64 0, .string ⟨#[]⟩, .slice none 0 0, .slice none 0 0, .slice none 0 0] 26) := ⟨_, rfl⟩
  have ba : Below w.heap.size w wa := by rw [hwa]; exact belowA _ _
  have sa' : wa.heap.size = X + 1 := by rw [hwa, hX]; simp
  have mr : Six wa X (.int .i64 0) (.int .i64 0) (.string ⟨#[]⟩) (.slice none 0 0) (.slice none 0 0) (.slice none 0 0) := ⟨by rw [hwa, hX]; exact heapNew _ _⟩
  obtain ⟨w2, hw2⟩ : ∃ W, W = wa.alloc (.cells #[.int .i64 0] 29) := ⟨_, rfl⟩
  have b2 : Below wa.heap.size wa w2 := by rw [hw2]; exact belowA _ _
  have s2 : w2.heap.size = X + 2 := by rw [hw2]; simp; omega
  have me : w2.heap[X + 1]? = some (.cells #[.int .i64 0] 29 (0, 0)) := by rw [hw2, ← sa']; exact heapNew _ _
  have bw2 := bchain ba b2
  have cc := hC w2 bw2
  have HZ2 : Hid (∀ W, Below w2.heap.size w2 W → Six W X (.int .i64 0) (.int .i64 0) (.string ⟨#[]⟩) (.slice none 0 0) (.slice none 0 0) (.slice none 0 0) ∧ W.heap[X + 1]? = some (.cells #[.int .i64 0] 29 (0, 0))) := fun W q => ⟨(mr.blw b2).blw q, (q.block (X + 1) (by omega)).trans me⟩
  have HB : Hid (∀ W, Below w2.heap.size w2 W → Below X w W) := fun W q => by rw [hX]; exact bchain bw2 q
  have hmk := pmkfn
  have eg := atc_eg
  have HW : Hid (w2 = (w.alloc (.cells #[.int .i64 0, .int .i64 0, .string ⟨#[]⟩, .slice none 0 0, .slice none 0 0, .slice none 0 0] 26)).alloc (.cells #[.int .i64 0] 29)) := (by rw [hw2, hwa] : _ = _)
  have HX : Hid (X = w.heap.size) := hX
  have Hs2 : Hid (w2.heap.size = X + 2) := s2
  rw [← hX]
  clear hwa hw2 ba b2 bw2 sa' mr me hX s2 hC
  go_enter_defers Tryz.func27, Tryz.ntmps27
  go_upto_region 2 with fail
  rw [← HW.out]
  simp only [← HX.out]
  clear HW
  go_wp2_with fail
  refine cc.mono ?_
  rintro e w3 ⟨⟨h0, v3, rfl, hv3⟩ | ⟨hne, rfl⟩, hb3⟩
  · clear cc
    obtain ⟨ra2, rc2, ka2, kc2, sa2, sc2, rfl, ht2⟩ := hv3.form
    have eT : T = tZ := by rw [HT.out, if_pos h0]
    rw [← eT] at ht2 ⊢
    obtain ⟨z3, e3⟩ := HZ2.out w3 hb3
    have hs2 := Hs2.out
    have hs3 := hb3.size
    obtain ⟨w4, hw4⟩ : ∃ W, W = (((((w3.setCell ⟨X, 0, none⟩ (.int .i64 T.kind)).setCell ⟨X, 1, none⟩ (.int .i64 T.n)).setCell ⟨X, 2, none⟩ (.string T.name)).setCell ⟨X, 3, none⟩ (.slice ra2 T.r.length rc2)).setCell ⟨X, 4, none⟩ (.slice ka2 T.kids.length kc2)).setCell ⟨X, 5, none⟩ (.slice sa2 T.sys.length sc2) := ⟨_, rfl⟩
    have k4 : Kn (fun q => q ≠ X) w3 w4 := by rw [hw4]; exact (((((kn_set _ _ _ _).trans (kn_set _ _ _ _)).trans (kn_set _ _ _ _)).trans (kn_set _ _ _ _)).trans (kn_set _ _ _ _)).trans (kn_set _ _ _ _)
    have z4 := z3.set6 (.int .i64 T.kind) (.int .i64 T.n) (.string T.name) (.slice ra2 T.r.length rc2) (.slice ka2 T.kids.length kc2) (.slice sa2 T.sys.length sc2)
    rw [← hw4] at z4
    have e4 := (k4.block (X + 1) (by omega) (by omega)).trans e3
    have c40 : w4.cell? ⟨X + 1, 0, none⟩ = some (.int .i64 0) := by simp [World.cell?, e4]
    have c4f : w4.frozen? ⟨X + 1, 0, none⟩ = false := by simp [World.frozen?, e4]
    obtain ⟨w5, hw5⟩ : ∃ W, W = w4.setCell ⟨X + 1, 0, none⟩ (.int .i64 0) := ⟨_, rfl⟩
    have k5 : Kn (fun q => q ≠ X + 1) w4 w5 := by rw [hw5]; exact kn_set _ _ _ _
    have z5 := z4.kn k5 (by omega)
    have c5 : w5.cell? ⟨X + 1, 0, none⟩ = some (.int .i64 0) := by rw [hw5]; exact World.cell?_setCell_same' _ _ _ (by rw [c40]; rfl)
    have HTm : Hid (TmIn (fun q => X ≤ q) w5 T (.agg #[.int .i64 T.kind, .int .i64 T.n, .string T.name, .slice ra2 T.r.length rc2, .slice ka2 T.kids.length kc2, .slice sa2 T.sys.length sc2])) :=
      ht2.value.keep (Nat.le_trans k4.size k5.size) (fun q hq => by have hq : w2.heap.size ≤ q := hq; show X ≤ q; omega) (fun q hq hs => by
        have hq : w2.heap.size ≤ q := hq
        exact (k5.block q (by omega) (by have := k4.size; omega)).trans (k4.block q (by omega) hs))
    have b5 : Below X w w5 := ((HB.out w3 hb3).trans (k4.below (fun q hq => by omega) (by omega))).trans (k5.below (fun q hq => by omega) (by have := k4.size; omega))
    obtain ⟨o0, o1, o2, o3, o4, o5, ff⟩ := z3.cells
    have f0 := ff 0
    have f1 := ff 1
    have f2 := ff 2
    have f3 := ff 3
    have f4 := ff 4
    have f5 := ff 5
    obtain ⟨d0, d1, d2, d3, d4, d5, _⟩ := z5.cells
    have H4 : Hid (_ = _) := hw4
    have H5 : Hid (_ = _) := hw5
    have p40 : (((((((w3.setCell ⟨X, 0, none⟩ (.int .i64 T.kind)).setCell ⟨X, 1, none⟩ (.int .i64 T.n)).setCell ⟨X, 2, none⟩ (.string T.name)).setCell ⟨X, 3, none⟩ (.slice ra2 T.r.length rc2)).setCell ⟨X, 4, none⟩ (.slice ka2 T.kids.length kc2)).setCell ⟨X, 5, none⟩ (.slice sa2 T.sys.length sc2)).cell? ⟨X + 1, 0, none⟩ = some (.int .i64 0)) := by rw [← hw4]; exact c40
    have p4f : (((((((w3.setCell ⟨X, 0, none⟩ (.int .i64 T.kind)).setCell ⟨X, 1, none⟩ (.int .i64 T.n)).setCell ⟨X, 2, none⟩ (.string T.name)).setCell ⟨X, 3, none⟩ (.slice ra2 T.r.length rc2)).setCell ⟨X, 4, none⟩ (.slice ka2 T.kids.length kc2)).setCell ⟨X, 5, none⟩ (.slice sa2 T.sys.length sc2)).frozen? ⟨X + 1, 0, none⟩ = false) := by rw [← hw4]; exact c4f
    clear hw4 hw5 z3 z4 z5 k4 k5 ff e3 e4 ht2 hv3 c40 c4f hs2 hs3 eT
    go_wp2_with fail
    rw [← H4.out, ← H5.out]
    refine leaves_cons (f := 68) (args := #[.pointer (some ⟨X + 1, 0, none⟩)]) (by simp) (by simp [go_sem]) ?_
    refine (pcatch_idle _ _).mono ?_
    rintro e u' w'' ⟨rfl, rfl, rfl⟩
    refine ⟨.tuple #[.agg #[.int .i64 T.kind, .int .i64 T.n, .string T.name, .slice ra2 T.r.length rc2, .slice ka2 T.kids.length kc2, .slice sa2 T.sys.length sc2], .int .i64 0], by simp only [results, Tryz.results27]; simp [go_sem, d0, d1, d2, d3, d4, d5, c5], _, by rw [h0], HTm.out, b5⟩
  · clear cc
    obtain ⟨z3, e3⟩ := HZ2.out w3 hb3
    have hs2 := Hs2.out
    have hs3 := hb3.size
    have c30 : w3.cell? ⟨X + 1, 0, none⟩ = some (.int .i64 0) := by simp [World.cell?, e3]
    have c3f : w3.frozen? ⟨X + 1, 0, none⟩ = false := by simp [World.frozen?, e3]
    refine leaves_cons (f := 68) (args := #[.pointer (some ⟨X + 1, 0, none⟩)]) (by simp) (by simp [go_sem]) ?_
    refine (pcatch_panicking (X + 1) 0 pZ [] w3 (by omega) c30 c3f).mono ?_
    rintro e u' w5 ⟨rfl, rfl, hw5⟩
    have k5 : Kn (fun q => q ≠ X + 1) w3 w5 := by rw [hw5]; exact kn_set _ _ _ _
    have z5 := z3.kn k5 (by omega)
    have c5 : w5.cell? ⟨X + 1, 0, none⟩ = some (.int .i64 pZ) := by rw [hw5]; exact World.cell?_setCell_same' _ _ _ (by rw [c30]; rfl)
    have b5 : Below X w w5 := (HB.out w3 hb3).trans (k5.below (fun q hq => by omega) (by omega))
    obtain ⟨d0, d1, d2, d3, d4, d5, _⟩ := z5.cells
    refine ⟨.tuple #[.agg #[.int .i64 0, .int .i64 0, .string ⟨#[]⟩, .slice none 0 0, .slice none 0 0, .slice none 0 0], .int .i64 pZ], by simp only [results, Tryz.results27]; simp [go_sem, d0, d1, d2, d3, d4, d5, c5], _, rfl, by rw [HT.out, if_neg hne]; exact zeroT_in _ _, b5⟩
set_option maxRecDepth 100000 in
set_option maxHeartbeats 2000000 in
theorem plat_any (hLA : LAll) (t u : Tm) (n : Int) (hn : I64 n) (v vu : Value) (w : World) (hv : TmIn Tt w t v) (hvu : TmIn Tt w u vu) (hb : blk t ≤ 20000) (hub : blk u ≤ 20000) (hsm : wrongN true 0 0 t = 0 → eP n u t 0 0 = 0 → ¬ 20000 < (sizeT t : Int) + cnP n t 0 * ((sizeT u : Int) - 1) → blk (putT n u t 0 0) ≤ 10000000) :
    Calls Tryz.prog 10 #[v, .int .i64 n, vu] w fun e w' => ∃ v', e = .returned (.tuple #[v', .int .i64 (plE n t u)]) ∧ TmIn (fun q => w.heap.size ≤ q) w' (plT n t u) v' ∧ Below w.heap.size w w' := by
  obtain ⟨ra, rc, ka, kc, sa, sc, rfl, ht⟩ := hv.form
  obtain ⟨ru, rcu, ku, kcu, su, scu, rfl, htu⟩ := hvu.form
  obtain ⟨X, hX⟩ : ∃ X, X = w.heap.size := ⟨_, rfl⟩
  obtain ⟨wa, hwa⟩ : ∃ W, W = w.alloc (.cells #[.int .i64 t.kind, .int .i64 t.n, .string t.name, .slice ra t.r.length rc, .slice ka t.kids.length kc, .slice sa t.sys.length sc] 26) := ⟨_, rfl⟩
  have ba : Below w.heap.size w wa := by rw [hwa]; exact belowA _ _
  have sa' : wa.heap.size = X + 1 := by rw [hwa, hX]; simp
  have m6 : Cs6 wa X 0 t ra rc ka kc sa sc := by rw [hwa, hX]; exact cs6_new w t ra rc ka kc sa sc
  obtain ⟨wb, hwb⟩ : ∃ W, W = wa.alloc (.cells #[.int .i64 n] 3) := ⟨_, rfl⟩
  have bb : Below wa.heap.size wa wb := by rw [hwb]; exact belowA _ _
  have sb' : wb.heap.size = X + 2 := by rw [hwb]; simp; omega
  have mn : wb.heap[X + 1]? = some (.cells #[.int .i64 n] 3 (0, 0)) := by rw [hwb, ← sa']; exact heapNew _ _
  obtain ⟨wc, hwc⟩ : ∃ W, W = wb.alloc (.cells #[.int .i64 u.kind, .int .i64 u.n, .string u.name, .slice ru u.r.length rcu, .slice ku u.kids.length kcu, .slice su u.sys.length scu] 26) := ⟨_, rfl⟩
  have bc : Below wb.heap.size wb wc := by rw [hwc]; exact belowA _ _
  have sc' : wc.heap.size = X + 3 := by rw [hwc]; simp; omega
  have mu : Cs6 wc (X + 2) 0 u ru rcu ku kcu su scu := by rw [hwc, ← sb']; exact cs6_new _ _ _ _ _ _ _ _
  obtain ⟨w2, hw2⟩ : ∃ W, W = wc.alloc (.cells #[.int .i64 0, .int .i64 0, .string ⟨#[]⟩, .slice none 0 0, .slice none 0 0, .slice none 0 0] 26) := ⟨_, rfl⟩
  have b2 : Below wc.heap.size wc w2 := by rw [hw2]; exact belowA _ _
  have s2' : w2.heap.size = X + 4 := by rw [hw2]; simp; omega
  have mr : Six w2 (X + 3) (.int .i64 0) (.int .i64 0) (.string ⟨#[]⟩) (.slice none 0 0) (.slice none 0 0) (.slice none 0 0) := ⟨by rw [hw2, ← sc']; exact heapNew _ _⟩
  have bc2 := bchain bc b2
  have bb2 := bchain bb bc2
  have ba2 := bchain ba bb2
  have hAt : AtB w2 t u n X (X + 2) (X + 1) ra rc ka kc sa sc ru rcu ku kcu su scu := ⟨m6.blw bb2, mu.blw b2, by omega, (bc2.cell (p := ⟨X + 1, 0, none⟩) (by show X + 1 < _; omega)).trans (by simp [World.cell?, mn]), ht.blw ba2, htu.blw ba2⟩
  have cc := pcaught_any (plE n t u) (putT n u t 0 0) X (X + 2) (X + 1) w2 (fun V q => atc_any hLA t u n hn X (X + 2) (X + 1) ra rc ka kc sa sc ru rcu ku kcu su scu V (hAt.blw q) hb hub hsm)
  obtain ⟨pZ, hpZ⟩ : ∃ z, z = plE n t u := ⟨_, rfl⟩
  obtain ⟨T, hT⟩ : ∃ z, z = plT n t u := ⟨_, rfl⟩
  have eT : T = if pZ = 0 then putT n u t 0 0 else zeroT := by rw [hT, hpZ]; rfl
  rw [← hpZ, ← eT] at cc
  rw [← hpZ, ← hT]
  have hmk := pmkfn
  have HW : Hid (w2 = ((((w.alloc (.cells #[.int .i64 t.kind, .int .i64 t.n, .string t.name, .slice ra t.r.length rc, .slice ka t.kids.length kc, .slice sa t.sys.length sc] 26)).alloc (.cells #[.int .i64 n] 3)).alloc (.cells #[.int .i64 u.kind, .int .i64 u.n, .string u.name, .slice ru u.r.length rcu, .slice ku u.kids.length kcu, .slice su u.sys.length scu] 26)).alloc (.cells #[.int .i64 0, .int .i64 0, .string ⟨#[]⟩, .slice none 0 0, .slice none 0 0, .slice none 0 0] 26))) := (by rw [hw2, hwc, hwb, hwa] : _ = _)
  have HX : Hid (X = w.heap.size) := hX
  have HB2 : Hid (Below w.heap.size w w2) := ba2
  have HR : Hid (Six w2 (X + 3) (.int .i64 0) (.int .i64 0) (.string ⟨#[]⟩) (.slice none 0 0) (.slice none 0 0) (.slice none 0 0)) := mr
  have hs2 : X + 4 ≤ w2.heap.size := by omega
  clear hwa hwb hwc hw2 ba bb bc b2 sa' sb' sc' s2' m6 mn mu mr bc2 bb2 ba2 hAt hv hvu ht htu hX hpZ hT eT
  rw [← HX.out]
  go_enter Tryz.func10, Tryz.ntmps10
  go_upto_region 1 with fail
  rw [← HW.out]
  simp only [← HX.out]
  clear HW
  go_wp2_with fail
  refine cc.mono ?_
  rintro e w3 ⟨v3, rfl, hv3, hb3⟩
  clear cc
  obtain ⟨r5, rc5, k5, kc5, s5, sc5, rfl, ht5⟩ := hv3.form
  have z5 := HR.out.blw hb3
  have hs3 := hb3.size
  obtain ⟨w6, hw6⟩ : ∃ W, W = (((((w3.setCell ⟨X + 3, 0, none⟩ (.int .i64 T.kind)).setCell ⟨X + 3, 1, none⟩ (.int .i64 T.n)).setCell ⟨X + 3, 2, none⟩ (.string T.name)).setCell ⟨X + 3, 3, none⟩ (.slice r5 T.r.length rc5)).setCell ⟨X + 3, 4, none⟩ (.slice k5 T.kids.length kc5)).setCell ⟨X + 3, 5, none⟩ (.slice s5 T.sys.length sc5) := ⟨_, rfl⟩
  have z6 := z5.set6 (.int .i64 T.kind) (.int .i64 T.n) (.string T.name) (.slice r5 T.r.length rc5) (.slice k5 T.kids.length kc5) (.slice s5 T.sys.length sc5)
  rw [← hw6] at z6
  have k6 : Kn (fun q => q ≠ X + 3) w3 w6 := by rw [hw6]; exact (((((kn_set _ _ _ _).trans (kn_set _ _ _ _)).trans (kn_set _ _ _ _)).trans (kn_set _ _ _ _)).trans (kn_set _ _ _ _)).trans (kn_set _ _ _ _)
  obtain ⟨o0, o1, o2, o3, o4, o5, ff⟩ := z5.cells
  have f0 := ff 0
  have f1 := ff 1
  have f2 := ff 2
  have f3 := ff 3
  have f4 := ff 4
  have f5 := ff 5
  obtain ⟨h0, h1, h2, h3, h4, h5, _⟩ := z6.cells
  have HF : Hid (TmIn (fun q => X ≤ q) w6 T (.agg #[.int .i64 T.kind, .int .i64 T.n, .string T.name, .slice r5 T.r.length rc5, .slice k5 T.kids.length kc5, .slice s5 T.sys.length sc5]) ∧ Below X w w6) := by
    refine ⟨ht5.value.keep k6.size (fun q hq => by have hq : w2.heap.size ≤ q := hq; show X ≤ q; omega) (fun q hq hs => k6.block q (by have hq : w2.heap.size ≤ q := hq; omega) hs), ?_⟩
    rw [HX.out]
    exact (bchain HB2.out hb3).trans (k6.below (fun q hq => by have := HX.out; omega) (by have := (bchain HB2.out hb3).size; omega))
  have H6 : Hid (_ = _) := hw6
  clear hw6 ff z5 z6 k6 ht5 hb3 hv3
  go_wp2_with fail
  rw [← H6.out]
  exact bodyPost_ret (v := .tuple #[.agg #[.int .i64 T.kind, .int .i64 T.n, .string T.name, .slice r5 T.r.length rc5, .slice k5 T.kids.length kc5, .slice s5 T.sys.length sc5], .int .i64 pZ]) (by simp only [results, Tryz.results10]; simp [go_sem, h0, h1, h2, h3, h4, h5]) rfl ⟨_, rfl, HF.out.1, HF.out.2⟩
end Go.Proofs.YtocfamcclfhkcaaGreat

namespace Go.Proofs.YtocfamcclfhkcaaGreat
open Go.RowKit
set_option linter.unusedVariables false
set_option linter.unusedSimpArgs false

theorem icatch_idle (q : Nat) (w : World) :
    CallsD Tryz.prog 114 #[.pointer (some ⟨q, 0, none⟩)] .returning w fun e u' w' => e = .returned (.tuple #[]) ∧ u' = .returning ∧ w' = w := by
  refine callsD_of_wpS Tryz.func114 rfl fun c₀ cs hu => ?_
  apply wpS_seq
  apply wpS_region
  simp [wpOpsS, go_sem, recoverD, hu, Tryz.ntmps114, Exit.thenS]
  refine wpS_of_wp ?_
  change Code.wp Tryz.prog _ _ { tmps := #[.pointer (some ⟨q, 0, none⟩), .nilIface, .nilIface, undef, undef, undef, undef], defers := [] } w
  go_wp2_with fail
  cases c₀
  simp_all +zetaDelta [bodyPostS, results, Tryz.results114]
theorem ctc_eg : ∀ args w, (callFunc 55 args).run Tryz.prog w = .ok (.enter 55 args) w := enters_of Tryz.func55 (by kernel_rfl) rfl
set_option maxRecDepth 100000 in
set_option maxHeartbeats 1000000 in
theorem ctc_any (t : Tm) (n : Int) (hn : I64 n) (h0 : 0 ≤ n) (tb nb : Nat) (ra : Option Addr) (rc : Nat) (ka : Option Addr) (kc : Nat) (sa : Option Addr) (sc : Nat) (w : World) (h6 : Cs6 w tb 0 t ra rc ka kc sa sc) (hnl : nb < w.heap.size) (hcn : w.cell? ⟨nb, 0, none⟩ = some (.int .i64 n)) (ht : TmTop Tt w t ra rc ka kc sa sc) (hb : blk t ≤ 20000) (hw : wrongN true 0 0 t = 0) :
    Calls Tryz.prog 55 #[.pointer (some ⟨tb, 0, none⟩), .pointer (some ⟨nb, 0, none⟩)] w fun e w' => e = .returned (.int .i64 (cnP n t 0 : Nat)) ∧ Below w.heap.size w w' := by
  obtain ⟨z, hz⟩ : ∃ z : Int, z = (cnP n t 0 : Nat) := ⟨_, rfl⟩
  rw [← hz]
  have Hz : Hid (_ = _) := hz
  clear hz
  obtain ⟨y0, y1, y2, y3, y4, y5⟩ := h6.c'
  have cF := formed_any t _ w ht.value hb
  rw [hw] at cF
  have hnb : decide (n < 0) = false := by simpa using h0
  have HS : Hid (∀ V, Below w.heap.size w V → Cs6 V tb 0 t ra rc ka kc sa sc ∧ V.cell? ⟨nb, 0, none⟩ = some (.int .i64 n) ∧ TmTop Tt V t ra rc ka kc sa sc) := fun V q => ⟨h6.blw q, (q.cell (p := ⟨nb, 0, none⟩) hnl).trans hcn, ht.blw q⟩
  have Hw : Hid (wrongN true 0 0 t = 0) := hw
  clear h6 hcn ht hw
  go_enter Tryz.func55, Tryz.ntmps55
  go_wp2_with fail
  refine cF.mono ?_
  rintro e w2 ⟨rfl, hb2⟩
  clear cF y0 y1 y2 y3 y4 y5
  have cr := prefuse_any 0 w2
  go_wp2_with fail
  refine cr.mono ?_
  rintro e w' ⟨⟨_, v, rfl, rfl⟩ | ⟨hne, rfl⟩, hw'⟩
  rotate_left
  · exact absurd rfl hne
  replace hw' := hw'.symm
  subst hw'
  clear cr
  obtain ⟨c2, yn, t2⟩ := HS.out _ hb2
  obtain ⟨y0, y1, y2, y3, y4, y5⟩ := c2.c'
  have cr := prefuseIf_no 2 w2
  have cc := pcount_any n hn t _ w2 t2.value (fp_of_wrong Hw.out) (by omega)
  rw [← Hz.out] at cc
  clear c2 t2
  go_wp2_with fail
  refine cr.mono ?_
  rintro e w' ⟨rfl, hw'⟩
  replace hw' := hw'.symm
  subst hw'
  clear cr
  go_wp2_with fail
  refine cc.mono ?_
  rintro e w3 ⟨rfl, hb3⟩
  clear cc y0 y1 y2 y3 y4 y5
  go_wp2_with fail
  go_ret
  exact ⟨rfl, bchain hb2 hb3⟩
set_option maxRecDepth 100000 in
set_option maxHeartbeats 1000000 in
theorem icaught_any (c : Int) (tb nb : Nat) (w : World)
    (hC : ∀ V, Below w.heap.size w V → Calls Tryz.prog 55 #[.pointer (some ⟨tb, 0, none⟩), .pointer (some ⟨nb, 0, none⟩)] V fun e w' => e = .returned (.int .i64 c) ∧ Below V.heap.size V w') :
    Calls Tryz.prog 54 #[.func (.func 55) #[] #[.pointer (some ⟨tb, 0, none⟩), .pointer (some ⟨nb, 0, none⟩)]] w fun e w' => e = .returned (.tuple #[.int .i64 c, .int .i64 0]) ∧ Below w.heap.size w w' := by
  obtain ⟨X, hX⟩ : ∃ X, X = w.heap.size := ⟨_, rfl⟩
  obtain ⟨w2, hw2⟩ : ∃ W, W = w.alloc (.cells #[.int .i64 0] 29) := ⟨_, rfl⟩
  have b2 : Below w.heap.size w w2 := by rw [hw2]; exact belowA _ _
  have me : w2.heap[X]? = some (.cells #[.int .i64 0] 29 (0, 0)) := by rw [hw2, hX]; exact heapNew _ _
  have hlt : X < w2.heap.size := (Array.getElem?_eq_some_iff.1 me).1
  have cc := hC w2 b2
  have HZ2 : Hid (∀ W, Below w2.heap.size w2 W → W.heap[X]? = some (.cells #[.int .i64 0] 29 (0, 0))) := fun W q => (q.block X hlt).trans me
  have HB : Hid (∀ W, Below w2.heap.size w2 W → Below X w W) := fun W q => by rw [hX]; exact bchain b2 q
  have hmk := pmkfn
  have eg := ctc_eg
  have HW : Hid (_ = _) := hw2
  have HX : Hid (X = w.heap.size) := hX
  rw [← hX]
  clear hw2 b2 me hX hC
  go_enter_defers Tryz.func54, Tryz.ntmps54
  go_upto_region 2 with fail
  rw [← HW.out]
  simp only [← HX.out]
  clear HW
  go_wp2_with fail
  refine cc.mono ?_
  rintro e w3 ⟨rfl, hb3⟩
  clear cc
  have e3 := HZ2.out w3 hb3
  have hs3 := hb3.size
  have c30 : w3.cell? ⟨X, 0, none⟩ = some (.int .i64 0) := by simp [World.cell?, e3]
  have c3f : w3.frozen? ⟨X, 0, none⟩ = false := by simp [World.frozen?, e3]
  obtain ⟨w5, hw5⟩ : ∃ W, W = w3.setCell ⟨X, 0, none⟩ (.int .i64 0) := ⟨_, rfl⟩
  have k5 : Kn (fun q => q ≠ X) w3 w5 := by rw [hw5]; exact kn_set _ _ _ _
  have c5 : w5.cell? ⟨X, 0, none⟩ = some (.int .i64 0) := by rw [hw5]; exact World.cell?_setCell_same' _ _ _ (by rw [c30]; rfl)
  have b5 : Below X w w5 := (HB.out w3 hb3).trans (k5.below (fun q hq => by omega) (by omega))
  have H5 : Hid (_ = _) := hw5
  clear hw5 k5 e3 hs3
  go_wp2_with fail
  rw [← H5.out]
  refine leaves_cons (f := 114) (args := #[.pointer (some ⟨X, 0, none⟩)]) (by simp) (by simp [go_sem]) ?_
  refine (icatch_idle _ _).mono ?_
  rintro e u' w'' ⟨rfl, rfl, rfl⟩
  exact ⟨.tuple #[.int .i64 c, .int .i64 0], by simp only [results, Tryz.results54]; simp [go_sem, c5], rfl, b5⟩
set_option maxRecDepth 100000 in
set_option maxHeartbeats 1000000 in
theorem plcount_any (t : Tm) (n : Int) (hn : I64 n) (h0 : 0 ≤ n) (v : Value) (w : World) (hv : TmIn Tt w t v) (hb : blk t ≤ 20000) (hw : wrongN true 0 0 t = 0) :
    Calls Tryz.prog 23 #[v, .int .i64 n] w fun e w' => e = .returned (.tuple #[.int .i64 (cnP n t 0 : Nat), .int .i64 0]) ∧ Below w.heap.size w w' := by
  obtain ⟨ra, rc, ka, kc, sa, sc, rfl, ht⟩ := hv.form
  obtain ⟨X, hX⟩ : ∃ X, X = w.heap.size := ⟨_, rfl⟩
  obtain ⟨wa, hwa⟩ : ∃ W, W = w.alloc (.cells #[.int .i64 t.kind, .int .i64 t.n, .string t.name, .slice ra t.r.length rc, .slice ka t.kids.length kc, .slice sa t.sys.length sc] 26) := ⟨_, rfl⟩
  have ba : Below w.heap.size w wa := by rw [hwa]; exact belowA _ _
  have sa' : wa.heap.size = X + 1 := by rw [hwa, hX]; simp
  have m6 : Cs6 wa X 0 t ra rc ka kc sa sc := by rw [hwa, hX]; exact cs6_new w t ra rc ka kc sa sc
  obtain ⟨w2, hw2⟩ : ∃ W, W = wa.alloc (.cells #[.int .i64 n] 3) := ⟨_, rfl⟩
  have b2 : Below wa.heap.size wa w2 := by rw [hw2]; exact belowA _ _
  have mn : w2.heap[X + 1]? = some (.cells #[.int .i64 n] 3 (0, 0)) := by rw [hw2, ← sa']; exact heapNew _ _
  have hlt : X + 1 < w2.heap.size := (Array.getElem?_eq_some_iff.1 mn).1
  have bw2 := bchain ba b2
  have hcn : w2.cell? ⟨X + 1, 0, none⟩ = some (.int .i64 n) := by simp [World.cell?, mn]
  have cc := icaught_any (cnP n t 0 : Nat) X (X + 1) w2 (fun V q => ctc_any t n hn h0 X (X + 1) ra rc ka kc sa sc V ((m6.blw b2).blw q) (by have := q.size; omega) ((q.cell (p := ⟨X + 1, 0, none⟩) hlt).trans hcn) ((ht.blw bw2).blw q) hb hw)
  obtain ⟨z, hz⟩ : ∃ z : Int, z = (cnP n t 0 : Nat) := ⟨_, rfl⟩
  rw [← hz] at cc ⊢
  have hmk := pmkfn
  have HW : Hid (w2 = (w.alloc (.cells #[.int .i64 t.kind, .int .i64 t.n, .string t.name, .slice ra t.r.length rc, .slice ka t.kids.length kc, .slice sa t.sys.length sc] 26)).alloc (.cells #[.int .i64 n] 3)) := (by rw [hw2, hwa] : _ = _)
  have HX : Hid (X = w.heap.size) := hX
  clear hwa hw2 ba b2 sa' m6 mn hX hv ht hcn hz
  go_enter Tryz.func23, Tryz.ntmps23
  go_upto_region 1 with fail
  rw [← HW.out]
  simp only [← HX.out]
  clear HW
  go_wp2_with fail
  refine cc.mono ?_
  rintro e w3 ⟨rfl, hb3⟩
  clear cc
  go_wp2_with fail
  exact bodyPost_ret (v := .tuple #[.int .i64 z, .int .i64 0]) (by simp only [results, Tryz.results23]; simp [go_sem]) rfl ⟨rfl, bchain bw2 hb3⟩
end Go.Proofs.YtocfamcclfhkcaaGreat

