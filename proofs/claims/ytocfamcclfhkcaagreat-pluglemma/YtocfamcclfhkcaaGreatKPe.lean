/- A term in a variable's place: what it becomes, what is refused first, how often the variable stands there. The closure that puts a term in a variable's place, at one variable. The closure that puts a term in a variable's place, at one variable: the whole. Parts that change in place, one behind the other. -/
import Derived.Test.YtocfamcclfhkcaaGreatYLfG
import Derived.Test.YtocfamcclfhkcaaGreatKPc
import Derived.Test.YtocfamcclfhkcaaGreatKPs
import Derived.Test.YtocfamcclfhkcaaGreatYBdK
namespace Go.Proofs.YtocfamcclfhkcaaGreat
open Go.RowKit
set_option linter.unusedVariables false
set_option linter.unusedSimpArgs false

def pnV (n : Int) (bv : Nat) (k m : Int) : Int := if k = 1 ∧ n < m - bv then m - 1 else m
def putT (n : Int) (u : Tm) : Tm → Nat → Nat → Tm := Tm.fold fun k m nm r ks sys bv bd =>
  if k = 1 ∧ m - (bv : Int) = n then bothT bv bd u
  else .mk k (pnV n bv k m) nm r (ks.zipIdx.map fun p => p.1 (bv + bvK k p.2) (bd + bdK k p.2)) (sys.map fun b => (b.1, b.2.map fun f => f bv (bd + moreK k)))
def putK (n : Int) (u : Tm) (k : Int) (l : List Tm) (bv bd : Nat) : List Tm := l.zipIdx.map fun p => putT n u p.1 (bv + bvK k p.2) (bd + bdK k p.2)
def putB (n : Int) (u : Tm) (k : Int) (b : List C × List Tm) (bv bd : Nat) : List C × List Tm := (b.1, b.2.map fun x => putT n u x bv (bd + moreK k))
theorem put_eq (n : Int) (u t : Tm) (bv bd : Nat) : putT n u t bv bd = if t.kind = 1 ∧ t.n - (bv : Int) = n then bothT bv bd u else .mk t.kind (pnV n bv t.kind t.n) t.name t.r (putK n u t.kind t.kids bv bd) (t.sys.map fun b => putB n u t.kind b bv bd) := by
  unfold putT
  rw [fold_mk]
  simp only [List.zipIdx_map, List.map_map, Function.comp_def, Prod.map]
  rfl
def eP (n : Int) (u : Tm) : Tm → Nat → Nat → Int := Tm.fold fun k m nm r ks sys bv bd =>
  if k = 1 then (if m - (bv : Int) = n then bothE bv bd u else 0)
  else firstE ((ks.zipIdx.map fun p => p.1 (bv + bvK k p.2) (bd + bdK k p.2)) ++ sys.map fun b => firstE (b.2.map fun f => f bv (bd + moreK k)))
def ePK (n : Int) (u : Tm) (k : Int) (l : List Tm) (bv bd : Nat) : List Int := l.zipIdx.map fun p => eP n u p.1 (bv + bvK k p.2) (bd + bdK k p.2)
def ePL (n : Int) (u : Tm) (k : Int) (l : List Tm) (bv bd : Nat) : List Int := l.map fun x => eP n u x bv (bd + moreK k)
theorem eP_eq (n : Int) (u t : Tm) (bv bd : Nat) : eP n u t bv bd = if t.kind = 1 then (if t.n - (bv : Int) = n then bothE bv bd u else 0) else firstE (ePK n u t.kind t.kids bv bd ++ t.sys.map fun b => firstE (ePL n u t.kind b.2 bv bd)) := by
  unfold eP
  rw [fold_mk]
  simp only [List.zipIdx_map, List.map_map, Function.comp_def, Prod.map]
  rfl
theorem putK_len (n : Int) (u : Tm) (k : Int) (l : List Tm) (bv bd : Nat) : (putK n u k l bv bd).length = l.length := by simp [putK]
theorem ePK_len (n : Int) (u : Tm) (k : Int) (l : List Tm) (bv bd : Nat) : (ePK n u k l bv bd).length = l.length := by simp [ePK]
theorem putK_get {n : Int} {u : Tm} {k : Int} {l : List Tm} {bv bd i : Nat} {x : Tm} (h : l[i]? = some x) : (putK n u k l bv bd)[i]? = some (putT n u x (bv + bvK k i) (bd + bdK k i)) := by
  unfold putK; rw [List.getElem?_map, List.getElem?_zipIdx, h]; simp
theorem ePK_get {n : Int} {u : Tm} {k : Int} {l : List Tm} {bv bd i : Nat} {x : Tm} (h : l[i]? = some x) : (ePK n u k l bv bd)[i]? = some (eP n u x (bv + bvK k i) (bd + bdK k i)) := by
  unfold ePK; rw [List.getElem?_map, List.getElem?_zipIdx, h]; simp
/-- What At tells. -/
def plE (n : Int) (t u : Tm) : Int :=
  if wrongN true 0 0 t ≠ 0 then wrongN true 0 0 t
  else if wrongN true 0 0 u ≠ 0 then wrongN true 0 0 u
  else if n < 0 then 2
  else if 20000 < (sizeT t : Int) + cnP n t 0 * ((sizeT u : Int) - 1) then 221
  else if eP n u t 0 0 ≠ 0 then eP n u t 0 0
  else if 200 < depthT (putT n u t 0 0) then 62
  else 0
def plT (n : Int) (t u : Tm) : Tm := if plE n t u = 0 then putT n u t 0 0 else zeroT
end Go.Proofs.YtocfamcclfhkcaaGreat

namespace Go.Proofs.YtocfamcclfhkcaaGreat
open Go.RowKit
set_option linter.unusedVariables false
set_option linter.unusedSimpArgs false

/-- What may change while a part is gone through: its own cells, the blocks from lo on and ahead of hi, what is new. -/
structure Chg (w w' : World) (g off lo hi : Nat) : Prop where
  kn : Kn (fun q => ¬ (lo ≤ q ∧ q < hi) ∧ q ≠ g) w w'
  ot : ∀ i, i < off ∨ off + 6 ≤ i → w'.cell? ⟨g, i, none⟩ = w.cell? ⟨g, i, none⟩
  bk : ∀ ty m, BlkC w g ty m → BlkC w' g ty m
theorem Chg.refl (w : World) (g off lo hi : Nat) : Chg w w g off lo hi := ⟨Kn.refl _ _, fun _ _ => rfl, fun _ _ h => h⟩
theorem Chg.trans {w1 w2 w3 : World} {g off lo hi : Nat} (h : Chg w1 w2 g off lo hi) (k : Chg w2 w3 g off lo hi) : Chg w1 w3 g off lo hi :=
  ⟨h.kn.trans k.kn, fun i hi => (k.ot i hi).trans (h.ot i hi), fun ty m q => k.bk ty m (h.bk ty m q)⟩
theorem Chg.of_below {w w' : World} (h : Below w.heap.size w w') {g : Nat} (hg : g < w.heap.size) (off lo hi : Nat) : Chg w w' g off lo hi :=
  ⟨Kn.of_below h, fun i _ => h.cell (p := ⟨g, i, none⟩) hg, fun ty m q => q.kn (No := fun _ => True) (Kn.of_below h) trivial⟩
/-- The variables of the closure: which one, and the term that is put there; all of it ahead of B. -/
structure PEnv (w : World) (B nb ub : Nat) (n : Int) (u : Tm) : Prop where
  nlt : nb < B
  ult : ub < B
  bw : B ≤ w.heap.size
  i64 : I64 n
  cn : w.cell? ⟨nb, 0, none⟩ = some (.int .i64 n)
  cu : ∃ ra rc ka kc sa sc, Cs6 w ub 0 u ra rc ka kc sa sc ∧ TmTop (fun q => q < B) w u ra rc ka kc sa sc
theorem PEnv.kn {w w' : World} {B nb ub : Nat} {n : Int} {u : Tm} (h : PEnv w B nb ub n u) (hk : Kn (fun q => q < B) w w') : PEnv w' B nb ub n u := by
  obtain ⟨h1, h2, h3, h4, h5, ra, rc, ka, kc, sa, sc, h6, h7⟩ := h
  exact ⟨h1, h2, Nat.le_trans h3 hk.size, h4, (hk.cell (p := ⟨nb, 0, none⟩) h1 (by show nb < _; omega)).trans h5, ra, rc, ka, kc, sa, sc, h6.kn hk h2, h7.kn hk fun _ q => q⟩
theorem Chg.env {w w' : World} {g off lo hi B nb ub : Nat} {n : Int} {u : Tm} (h : Chg w w' g off lo hi) (hE : PEnv w B nb ub n u) (h1 : B ≤ lo) (h2 : B ≤ g) : PEnv w' B nb ub n u :=
  hE.kn (h.kn.sub fun q hq => ⟨by omega, by omega⟩)
/-- What a part has become, in place. -/
def PvR (w w' : World) (g off lo hi : Nat) (T : Tm) : Prop := ∃ ra rc ka kc sa sc, Cs6 w' g off T ra rc ka kc sa sc ∧ TmTop (fun q => (lo ≤ q ∧ q < hi) ∨ w.heap.size ≤ q) w' T ra rc ka kc sa sc
set_option maxRecDepth 100000 in
set_option maxHeartbeats 1000000 in
theorem prefuseIf_no (e0 : Int) (w : World) : Calls Tryz.prog 30 #[.bool false, .int .i64 e0] w fun e w' => e = .returned (.tuple #[]) ∧ w' = w := by
  go_enter Tryz.func30, Tryz.ntmps30
  go_wp2
  go_end0
  exact ⟨rfl, rfl⟩
set_option maxRecDepth 100000 in
set_option maxHeartbeats 1000000 in
theorem prefuseIf_yes (e0 : Int) (w : World) : Calls Tryz.prog 30 #[.bool true, .int .i64 e0] w fun e w' => e = .panicked [pe e0] ∧ w' = w := by
  go_enter Tryz.func30, Tryz.ntmps30
  go_wp2
  exact ⟨rfl, rfl, rfl⟩
set_option maxRecDepth 100000 in
set_option maxHeartbeats 1000000 in
theorem prefuse_any (e0 : Int) (w : World) : Calls Tryz.prog 29 #[.int .i64 e0] w fun e w' => LOut e0 (fun v => v = .tuple #[]) e ∧ w' = w := by
  by_cases h0 : e0 = 0
  · subst h0
    have cc := prefuseIf_no 0 w
    go_enter Tryz.func29, Tryz.ntmps29
    go_wp2_with fail
    refine cc.mono ?_
    rintro e w' ⟨rfl, hw'⟩
    replace hw' := hw'.symm
    subst hw'
    go_wp2_with fail
    go_end0
    exact ⟨.ok rfl rfl, rfl⟩
  · have cc := prefuseIf_yes e0 w
    have q : (e0 != 0) = true := by simpa using h0
    go_enter Tryz.func29, Tryz.ntmps29
    go_wp2_with fail
    refine cc.mono ?_
    rintro e w' ⟨rfl, hw'⟩
    replace hw' := hw'.symm
    subst hw'
    exact ⟨rfl, .inr ⟨h0, rfl⟩, rfl⟩
end Go.Proofs.YtocfamcclfhkcaaGreat

namespace Go.Proofs.YtocfamcclfhkcaaGreat
open Go.RowKit
set_option linter.unusedVariables false
set_option linter.unusedSimpArgs false

theorem set6_at {w : World} {g off M : Nat} {ty : TypeId} (h : BlkC w g ty M) (hM : off + 6 ≤ M) (u0 u1 u2 u3 u4 u5 : Value) (lo hi : Nat) :
    Chg w ((((((w.setCell ⟨g, off, none⟩ u0).setCell ⟨g, off + 1, none⟩ u1).setCell ⟨g, off + 2, none⟩ u2).setCell ⟨g, off + 3, none⟩ u3).setCell ⟨g, off + 4, none⟩ u4).setCell ⟨g, off + 5, none⟩ u5) g off lo hi ∧
    (∀ j, ((((((w.setCell ⟨g, off, none⟩ u0).setCell ⟨g, off + 1, none⟩ u1).setCell ⟨g, off + 2, none⟩ u2).setCell ⟨g, off + 3, none⟩ u3).setCell ⟨g, off + 4, none⟩ u4).setCell ⟨g, off + 5, none⟩ u5).cell? ⟨g, j, none⟩ = if j = off + 5 then some u5 else if j = off + 4 then some u4 else if j = off + 3 then some u3 else if j = off + 2 then some u2 else if j = off + 1 then some u1 else if j = off then some u0 else w.cell? ⟨g, j, none⟩) := by
  have h0 := h.set off u0
  have h1 := h0.set (off + 1) u1
  have h2 := h1.set (off + 2) u2
  have h3 := h2.set (off + 3) u3
  have h4 := h3.set (off + 4) u4
  have hc : ∀ j, ((((((w.setCell ⟨g, off, none⟩ u0).setCell ⟨g, off + 1, none⟩ u1).setCell ⟨g, off + 2, none⟩ u2).setCell ⟨g, off + 3, none⟩ u3).setCell ⟨g, off + 4, none⟩ u4).setCell ⟨g, off + 5, none⟩ u5).cell? ⟨g, j, none⟩ = if j = off + 5 then some u5 else if j = off + 4 then some u4 else if j = off + 3 then some u3 else if j = off + 2 then some u2 else if j = off + 1 then some u1 else if j = off then some u0 else w.cell? ⟨g, j, none⟩ := fun j => by
    rw [h4.get (by omega), h3.get (by omega), h2.get (by omega), h1.get (by omega), h0.get (by omega), h.get (by omega)]
  refine ⟨⟨?_, fun i hi => ?_, fun ty' m q => ?_⟩, hc⟩
  · have k : Kn (fun q => q ≠ g) w _ := (((((kn_set w g off u0).trans (kn_set _ g (off + 1) u1)).trans (kn_set _ g (off + 2) u2)).trans (kn_set _ g (off + 3) u3)).trans (kn_set _ g (off + 4) u4)).trans (kn_set _ g (off + 5) u5)
    exact k.sub fun q h => h.2
  · rw [hc, if_neg (by omega), if_neg (by omega), if_neg (by omega), if_neg (by omega), if_neg (by omega), if_neg (by omega)]
  · exact (((((q.set _ _).set _ _).set _ _).set _ _).set _ _).set _ _
theorem set1_at {w : World} {g off M : Nat} {ty : TypeId} (h : BlkC w g ty M) (hM : off + 6 ≤ M) (u : Value) (lo hi : Nat) :
    Chg w (w.setCell ⟨g, off + 1, none⟩ u) g off lo hi ∧ (∀ j, (w.setCell ⟨g, off + 1, none⟩ u).cell? ⟨g, j, none⟩ = if j = off + 1 then some u else w.cell? ⟨g, j, none⟩) := by
  have hc : ∀ j, (w.setCell ⟨g, off + 1, none⟩ u).cell? ⟨g, j, none⟩ = if j = off + 1 then some u else w.cell? ⟨g, j, none⟩ := fun j => h.get (by omega) _ _
  refine ⟨⟨(kn_set w g (off + 1) u).sub fun q h => h.2, fun i hi => ?_, fun ty' m q => q.set _ _⟩, hc⟩
  rw [hc, if_neg (by omega)]
theorem var_top {w w' : World} {lo m1 m2 hi g : Nat} {t : Tm} {ra rc ka kc sa sc} (ht : TsTop w lo m1 m2 hi t ra rc ka kc sa sc) (hk : Kn (fun q => q ≠ g) w w') (hg : g < lo ∨ hi ≤ g) (hkk : t.kids = []) (hks : t.sys = []) (m : Int) (hm : I64 m) :
    TmTop (fun q => (lo ≤ q ∧ q < hi) ∨ w.heap.size ≤ q) w' (.mk t.kind m t.name t.r [] []) ra rc ka kc sa sc := by
  have l2 := ht.l2
  have l3 := ht.l3
  refine ⟨ht.ik, hm, ht.row.keep hk.size (fun q hq => .inl ⟨hq.1, by have := hq.2; omega⟩) (fun q hq hs => hk.block q (by have := hq.1; have := hq.2; omega) hs), ?_, ?_⟩
  · exact ⟨ka, kc, rfl, Nat.zero_le _, fun j x hx => by simp at hx⟩
  · exact ⟨sa, sc, rfl, Nat.zero_le _, fun j x hx => by simp at hx⟩
theorem var_cs {w w' : World} {g off : Nat} {t : Tm} {ra rc ka kc sa sc} (h : Cs6 w g off t ra rc ka kc sa sc) (hs : w.heap.size ≤ w'.heap.size) (m : Int) (hc : ∀ j, w'.cell? ⟨g, j, none⟩ = if j = off + 1 then some (.int .i64 m) else w.cell? ⟨g, j, none⟩) (hkk : t.kids = []) (hks : t.sys = []) :
    Cs6 w' g off (.mk t.kind m t.name t.r [] []) ra rc ka kc sa sc := by
  obtain ⟨h1, c0, c1, c2, c3, c4, c5⟩ := h
  rw [hkk] at c4
  rw [hks] at c5
  refine ⟨by omega, ?_, ?_, ?_, ?_, ?_, ?_⟩
  · rw [hc, if_neg (by omega)]; exact c0
  · rw [hc, if_pos rfl]
  · rw [hc, if_neg (by omega)]; exact c2
  · rw [hc, if_neg (by omega)]; exact c3
  · rw [hc, if_neg (by omega)]; exact c4
  · rw [hc, if_neg (by omega)]; exact c5
set_option maxRecDepth 100000 in
set_option maxHeartbeats 4000000 in
theorem pcl_any (hLA : LAll) (n : Int) (u : Tm) (hub : blk u ≤ 20000) (t : Tm) (bv bd g off lo hi m1 m2 B nb ub M : Nat) (ra : Option Addr) (rc : Nat) (ka : Option Addr) (kc : Nat) (sa : Option Addr) (sc : Nat) (w : World)
    (hE : PEnv w B nb ub n u) (h6 : Cs6 w g off t ra rc ka kc sa sc) (ht : TsTop w lo m1 m2 hi t ra rc ka kc sa sc) (hB : BlkC w g 26 M) (hM : off + 6 ≤ M) (hBl : B ≤ lo) (hBg : B ≤ g) (hgl : g < lo ∨ hi ≤ g) (hk : t.kind = 1) (hn0 : 0 ≤ t.n) (hkk : t.kids = []) (hks : t.sys = []) (hbv : bv ≤ 1000000) (hbd : bd ≤ 1000000) :
    Calls Tryz.prog 73 #[.pointer (some ⟨g, off, none⟩), .agg #[.int .i64 (bv : Int), .int .i64 (bd : Int)], .pointer (some ⟨nb, 0, none⟩), .pointer (some ⟨ub, 0, none⟩)] w fun e w' => LOut (eP n u t bv bd) (fun v => v = .tuple #[] ∧ PvR w w' g off lo hi (putT n u t bv bd)) e ∧ Chg w w' g off lo hi := by
  have HeP : Hid (eP n u t bv bd = if t.n - (bv : Int) = n then bothE bv bd u else 0) := by show _ = _; rw [eP_eq, if_pos hk]
  have HpT : Hid (putT n u t bv bd = if t.n - (bv : Int) = n then bothT bv bd u else .mk t.kind (if n < t.n - bv then t.n - 1 else t.n) t.name t.r [] []) := by
    show _ = _
    rw [put_eq, hkk, hks]
    by_cases h : t.n - (bv : Int) = n
    · rw [if_pos ⟨hk, h⟩, if_pos h]
    · rw [if_neg (fun q => h q.2), if_neg h]
      unfold pnV
      by_cases h2 : n < t.n - bv
      · rw [if_pos ⟨hk, h2⟩, if_pos h2]; rfl
      · rw [if_neg (fun q => h2 q.2), if_neg h2]; rfl
  obtain ⟨eZ, heZ⟩ : ∃ z, z = eP n u t bv bd := ⟨_, rfl⟩
  obtain ⟨tZ, htZ⟩ : ∃ z, z = putT n u t bv bd := ⟨_, rfl⟩
  rw [← heZ] at HeP ⊢
  rw [← htZ] at HpT ⊢
  clear heZ htZ
  obtain ⟨X, hX⟩ : ∃ X, X = w.heap.size := ⟨_, rfl⟩
  obtain ⟨w2, hw2⟩ : ∃ w2, w2 = w.alloc (.cells #[.int .i64 (bv : Int), .int .i64 (bd : Int)] 104) := ⟨_, rfl⟩
  have hb2 : Below w.heap.size w w2 := by rw [hw2]; exact belowA _ _
  have m1' : w2.heap[X]? = some (.cells #[.int .i64 (bv : Int), .int .i64 (bd : Int)] 104 (0, 0)) := by rw [hw2, hX]; exact heapNew w _
  have s2 : X < w2.heap.size := (Array.getElem?_eq_some_iff.1 m1').1
  have e0 : w2.cell? ⟨X, 0, none⟩ = some (.int .i64 (bv : Int)) := by simp [World.cell?, m1']
  have e1 : w2.cell? ⟨X, 1, none⟩ = some (.int .i64 (bd : Int)) := by simp [World.cell?, m1']
  have hin := ht.inn
  have hgX : g < X := by have := h6.lt; omega
  have hE2 := hE.kn (Kn.of_below hb2 : Kn (fun q => q < B) w w2)
  have h62 := h6.blw hb2
  have co := poutside_any bv bd g off t.n w2 h62.lt h62.c1 ⟨hn0, hin.2⟩ (by omega)
  have hl4 := ht.l4
  have HT : Hid (TsTop w lo m1 m2 hi t ra rc ka kc sa sc) := ht
  have H6 : Hid (Cs6 w2 g off t ra rc ka kc sa sc) := h62
  have HBk : Hid (BlkC w2 g 26 M) := hB.kn (No := fun _ => True) (Kn.of_below hb2) trivial
  have HE : Hid (PEnv w2 B nb ub n u) := hE2
  have Hb2 : Hid (Below w.heap.size w w2) := hb2
  have HW2 : Hid (_ = _) := hw2
  have HX : Hid (X = w.heap.size) := hX
  obtain ⟨at_, hat⟩ : ∃ z, z = t.n - (bv : Int) := ⟨_, rfl⟩
  rw [← hat] at HeP HpT co
  have Hat : Hid (at_ = t.n - (bv : Int)) := hat
  have Hin : Hid (I64 t.n ∧ 0 ≤ t.n) := ⟨hin, hn0⟩
  have Hkk : Hid (t.kids = [] ∧ t.sys = []) := ⟨hkk, hks⟩
  clear hw2 hX m1' hE hE2 h6 h62 ht hB hkk hks hat hb2 hin hn0
  go_enter Tryz.func73, Tryz.ntmps73
  go_upto_region 1 with fail
  rw [← HW2.out]
  simp only [← HX.out]
  clear HW2
  go_wp2_with fail
  refine co.mono ?_
  rintro e w3 ⟨rfl, hb3⟩
  clear co
  have h63 := H6.out.blw hb3
  have hE3 := HE.out.kn (Kn.of_below hb3 : Kn (fun q => q < B) w2 w3)
  have hB3 := HBk.out.kn (No := fun _ => True) (Kn.of_below hb3) trivial
  have f0 := (hb3.cell (p := ⟨X, 0, none⟩) s2).trans e0
  have f1 := (hb3.cell (p := ⟨X, 1, none⟩) s2).trans e1
  have cn := hE3.cn
  have Hb3 : Hid (Below w.heap.size w w3) := bchain Hb2.out hb3
  clear e0 e1
  by_cases hgt : n < at_
  · have hgb : decide (n < at_) = true := by simpa using hgt
    have wr : wrap64 (t.n - 1) = t.n - 1 := by have := Hin.out; unfold I64 at this; simp [wrap64]; omega
    have q1 := h63.c1
    have qf := hB3.soft (off + 1)
    obtain ⟨p1, p2⟩ := set1_at hB3 hM (.int .i64 (t.n - 1)) lo hi
    obtain ⟨w4, hw4⟩ : ∃ W, W = w3.setCell ⟨g, off + 1, none⟩ (.int .i64 (t.n - 1)) := ⟨_, rfl⟩
    rw [← hw4] at p1 p2
    have HF : Hid (eZ = 0 ∧ PvR w w4 g off lo hi tZ ∧ Chg w w4 g off lo hi) := by
      have cA : Chg w w3 g off lo hi := Chg.of_below Hb3.out (by rw [← HX.out]; exact hgX) _ _ _
      have cB := cA.trans p1
      refine ⟨by rw [HeP.out, if_neg (by omega)], ?_, cB⟩
      rw [HpT.out, if_neg (by omega), if_pos hgt]
      have hkw : Kn (fun q => q ≠ g) w w4 := (Kn.of_below Hb3.out).trans (by rw [hw4]; exact kn_set _ _ _ _)
      refine ⟨ra, rc, ka, kc, sa, sc, var_cs h63 p1.kn.size _ p2 Hkk.out.1 Hkk.out.2, var_top HT.out hkw hgl Hkk.out.1 Hkk.out.2 _ ?_⟩
      have := Hin.out
      unfold I64 at *
      omega
    have H4 : Hid (_ = _) := hw4
    clear hw4 p1 p2 h63 hE3 hB3
    go_wp2_with fail
    rw [← H4.out]
    go_end0
    exact ⟨.ok HF.out.1 ⟨rfl, HF.out.2.1⟩, HF.out.2.2⟩
  · have hgb : decide (n < at_) = false := by simpa using hgt
    by_cases heq : at_ = n
    · have heb : (at_ == n) = true := by simpa using heq
      obtain ⟨ru, rcu, ku, kcu, su, scu, hu6, hut⟩ := hE3.cu
      obtain ⟨_, z0, z1, z2, z3, z4, z5⟩ := hu6
      simp only [Nat.zero_add] at z1 z2 z3 z4 z5
      have cb := lboth_any hLA u _ w3 (hut.value.up fun _ _ => trivial) hub (bv : Int) (bd : Int)
      go_wp2_with fail
      refine cb.mono ?_
      rintro e w5 ⟨v5, rfl, hv5, hb5⟩
      clear cb z0 z1 z2 z3 z4 z5 hut
      obtain ⟨r5, rc5, k5, kc5, s5, sc5, rfl, ht5⟩ := hv5.form
      have e5 : eZ = bothE bv bd u := by rw [HeP.out, if_pos heq]
      have e6 : tZ = bothT bv bd u := by rw [HpT.out, if_pos heq]
      rw [← e5]
      rw [← e6] at ht5 ⊢
      have HeZ : Hid (_ = _) := e5
      obtain ⟨Y, hY⟩ : ∃ Y, Y = w5.heap.size := ⟨_, rfl⟩
      obtain ⟨w6, hw6⟩ : ∃ W, W = w5.alloc (.cells #[.int .i64 tZ.kind, .int .i64 tZ.n, .string tZ.name, .slice r5 tZ.r.length rc5, .slice k5 tZ.kids.length kc5, .slice s5 tZ.sys.length sc5] 26) := ⟨_, rfl⟩
      have b6 : Below w5.heap.size w5 w6 := by rw [hw6]; exact belowA _ _
      have x6 : Cs6 w6 Y 0 tZ r5 rc5 k5 kc5 s5 sc5 := by rw [hw6, hY]; exact cs6_new _ _ _ _ _ _ _ _
      have Hb6 : Hid (Below w.heap.size w w6) := bchain Hb3.out (bchain hb5 b6)
      have hB6 := (hB3.kn (No := fun _ => True) (Kn.of_below hb5) trivial).kn (No := fun _ => True) (Kn.of_below b6) trivial
      have cr := prefuse_any eZ w6
      have H6w : Hid (_ = _) := hw6
      have HY : Hid (Y = w5.heap.size) := hY
      have Ht5 : Hid (TmTop (OkN w3.heap.size w5) w5 tZ r5 rc5 k5 kc5 s5 sc5) := ht5
      have Hs : Hid (Below w3.heap.size w3 w5 ∧ Below w5.heap.size w5 w6) := ⟨hb5, b6⟩
      clear e5 e6 hw6 hY ht5 hv5 b6 hB3 hb5 hE3 h63
      go_upto_region 6 with fail
      rw [← H6w.out]
      simp only [← HY.out]
      clear H6w HY
      go_wp2_with fail
      refine cr.mono ?_
      rintro e w' ⟨⟨h0, v, rfl, rfl⟩ | ⟨hne, rfl⟩, hw'⟩
      · replace hw' := hw'.symm
        subst hw'
        clear cr
        obtain ⟨_, y0, y1, y2, y3, y4, y5⟩ := x6
        simp only [Nat.zero_add] at y1 y2 y3 y4 y5
        obtain ⟨p1, p2⟩ := set6_at hB6 hM (.int .i64 tZ.kind) (.int .i64 tZ.n) (.string tZ.name) (.slice r5 tZ.r.length rc5) (.slice k5 tZ.kids.length kc5) (.slice s5 tZ.sys.length sc5) lo hi
        obtain ⟨w7, hw7⟩ : ∃ W, W = (((((w6.setCell ⟨g, off, none⟩ (.int .i64 tZ.kind)).setCell ⟨g, off + 1, none⟩ (.int .i64 tZ.n)).setCell ⟨g, off + 2, none⟩ (.string tZ.name)).setCell ⟨g, off + 3, none⟩ (.slice r5 tZ.r.length rc5)).setCell ⟨g, off + 4, none⟩ (.slice k5 tZ.kids.length kc5)).setCell ⟨g, off + 5, none⟩ (.slice s5 tZ.sys.length sc5) := ⟨_, rfl⟩
        have k7 : Kn (fun q => q ≠ g) w6 w7 := by rw [hw7]; exact (((((kn_set _ _ _ _).trans (kn_set _ _ _ _)).trans (kn_set _ _ _ _)).trans (kn_set _ _ _ _)).trans (kn_set _ _ _ _)).trans (kn_set _ _ _ _)
        rw [← hw7] at p1 p2
        have HF : Hid (PvR w w7 g off lo hi tZ ∧ Chg w w7 g off lo hi) := by
          refine ⟨⟨r5, rc5, k5, kc5, s5, sc5, ?_, ?_⟩, (Chg.of_below Hb6.out (by rw [← HX.out]; exact hgX) _ _ _).trans p1⟩
          · have hlt := hB6.lt
            have hsz := k7.size
            refine ⟨by omega, ?_, ?_, ?_, ?_, ?_, ?_⟩
            · rw [p2, if_neg (by omega), if_neg (by omega), if_neg (by omega), if_neg (by omega), if_neg (by omega), if_pos rfl]
            · rw [p2, if_neg (by omega), if_neg (by omega), if_neg (by omega), if_neg (by omega), if_pos rfl]
            · rw [p2, if_neg (by omega), if_neg (by omega), if_neg (by omega), if_pos rfl]
            · rw [p2, if_neg (by omega), if_neg (by omega), if_pos rfl]
            · rw [p2, if_neg (by omega), if_pos rfl]
            · rw [p2, if_pos rfl]
          · have q1 := Hb3.out.size
            have q2 := Hs.out.1.size
            have q3 := Hs.out.2.size
            have q4 := HX.out
            exact Ht5.out.keep (by have := k7.size; omega) (fun q hq => .inr (by have := hq.1; omega)) (fun q hq hs => (k7.block q (by have := hq.1; omega) (by omega)).trans (Hs.out.2.block q hs))
        obtain ⟨c0, d0⟩ := hB6.cell off (by omega)
        obtain ⟨c1, d1⟩ := hB6.cell (off + 1) (by omega)
        obtain ⟨c2, d2⟩ := hB6.cell (off + 2) (by omega)
        obtain ⟨c3, d3⟩ := hB6.cell (off + 3) (by omega)
        obtain ⟨c4, d4⟩ := hB6.cell (off + 4) (by omega)
        obtain ⟨c5, d5⟩ := hB6.cell (off + 5) (by omega)
        have g0 := hB6.soft off
        have g1 := hB6.soft (off + 1)
        have g2 := hB6.soft (off + 2)
        have g3 := hB6.soft (off + 3)
        have g4 := hB6.soft (off + 4)
        have g5 := hB6.soft (off + 5)
        have H7 : Hid (_ = _) := hw7
        clear hw7 p1 p2 k7 hB6
        go_wp2_with fail
        rw [← H7.out]
        go_end0
        exact ⟨.ok h0 ⟨rfl, HF.out.1⟩, HF.out.2⟩
      · subst hw'
        exact ⟨rfl, .inr ⟨hne, rfl⟩, Chg.of_below Hb6.out (by rw [← HX.out]; exact hgX) _ _ _⟩
    · have heb : (at_ == n) = false := by simpa using heq
      have HF : Hid (eZ = 0 ∧ PvR w w3 g off lo hi tZ ∧ Chg w w3 g off lo hi) := by
        refine ⟨by rw [HeP.out, if_neg heq], ?_, Chg.of_below Hb3.out (by rw [← HX.out]; exact hgX) _ _ _⟩
        rw [HpT.out, if_neg heq, if_neg hgt]
        refine ⟨ra, rc, ka, kc, sa, sc, ?_, var_top HT.out (Kn.of_below Hb3.out) hgl Hkk.out.1 Hkk.out.2 _ Hin.out.1⟩
        refine var_cs h63 (Nat.le_refl _) _ (fun j => ?_) Hkk.out.1 Hkk.out.2
        by_cases hj : j = off + 1
        · rw [if_pos hj, hj]; exact h63.c1
        · rw [if_neg hj]
      clear h63 hE3 hB3
      go_wp2_with fail
      go_end0
      exact ⟨.ok HF.out.1 ⟨rfl, HF.out.2.1⟩, HF.out.2.2⟩
end Go.Proofs.YtocfamcclfhkcaaGreat

namespace Go.Proofs.YtocfamcclfhkcaaGreat
open Go.RowKit
set_option linter.unusedVariables false
set_option linter.unusedSimpArgs false

/-- A row of parts, laid open: its block, the borders. -/
structure KsAt (w : World) (lo hi : Nat) (l : List Tm) (a : Option Addr) (G : Nat) (cb : Nat → Nat) : Prop where
  at_ : a = some ⟨G, 0, none⟩
  lo : lo ≤ G
  g0 : G < cb 0
  top : cb l.length ≤ hi
  up : ∀ i j, i ≤ j → j ≤ l.length → cb i ≤ cb j
theorem KsAt.le {w : World} {lo hi G : Nat} {l : List Tm} {a : Option Addr} {cb : Nat → Nat} (h : KsAt w lo hi l a G cb) {j : Nat} (hj : j < l.length) : G < cb j ∧ cb j ≤ cb (j + 1) ∧ cb (j + 1) ≤ hi := by
  have h1 := h.up 0 j (Nat.zero_le _) (by omega)
  have h2 := h.up j (j + 1) (by omega) (by omega)
  have h3 := h.up (j + 1) l.length (by omega) (Nat.le_refl _)
  have h4 := h.g0
  have h5 := h.top
  exact ⟨by omega, h2, by omega⟩
/-- The parts ahead of the k-th are what they become, the others what they were. -/
structure KInv (wr : World) (G : Nat) (cb : Nat → Nat) (l l' : List Tm) (k s : Nat) : Prop where
  bk : BlkC wr G 26 (l.length * 6)
  todo : ∀ (j : Nat) (x : Tm), k ≤ j → l[j]? = some x → ∃ u0 u1 u2 u3 u4 u5, TmS wr (cb j) (cb (j + 1)) x (.agg #[u0, u1, u2, u3, u4, u5]) ∧
    wr.cell? ⟨G, j * 6, none⟩ = some u0 ∧ wr.cell? ⟨G, j * 6 + 1, none⟩ = some u1 ∧ wr.cell? ⟨G, j * 6 + 2, none⟩ = some u2 ∧ wr.cell? ⟨G, j * 6 + 3, none⟩ = some u3 ∧ wr.cell? ⟨G, j * 6 + 4, none⟩ = some u4 ∧ wr.cell? ⟨G, j * 6 + 5, none⟩ = some u5
  done : ∀ (j : Nat) (y : Tm), j < k → l'[j]? = some y → ∃ u0 u1 u2 u3 u4 u5, TmIn (fun q => (G < q ∧ q < cb k) ∨ s ≤ q) wr y (.agg #[u0, u1, u2, u3, u4, u5]) ∧
    wr.cell? ⟨G, j * 6, none⟩ = some u0 ∧ wr.cell? ⟨G, j * 6 + 1, none⟩ = some u1 ∧ wr.cell? ⟨G, j * 6 + 2, none⟩ = some u2 ∧ wr.cell? ⟨G, j * 6 + 3, none⟩ = some u3 ∧ wr.cell? ⟨G, j * 6 + 4, none⟩ = some u4 ∧ wr.cell? ⟨G, j * 6 + 5, none⟩ = some u5
theorem KdS.open {w : World} {lo hi : Nat} {l : List Tm} {a : Option Addr} {n cap : Nat} (h : KdS w (TmS w) lo hi l (.slice a n cap)) : l = [] ∨ ∃ G cb, KsAt w lo hi l a G cb ∧ ∀ l' s, KInv w G cb l l' 0 s := by
  obtain ⟨a', cap', e, _, h3⟩ := h
  cases e
  rcases h3 with h3 | ⟨G, cb, a1, a2, a3, a4, a5, a6, a7⟩
  · exact .inl h3
  · exact .inr ⟨G, cb, ⟨a1, a2, a3, a4, a6⟩, fun l' s => ⟨a5, fun j x _ hx => a7 j x hx, fun j y hj => by omega⟩⟩
theorem KInv.keep {wr w' : World} {G : Nat} {cb : Nat → Nat} {l l' : List Tm} {k s : Nat} (h : KInv wr G cb l l' k s) (hs : wr.heap.size ≤ w'.heap.size) (hb : ∀ q, q < wr.heap.size → w'.heap[q]? = wr.heap[q]?) : KInv w' G cb l l' k s := by
  have hG := hb G h.bk.lt
  have c := fun i => World.cell?_of_block (w := wr) (w' := w') (a := ⟨G, i, none⟩) hG
  refine ⟨?_, fun j x hj hx => ?_, fun j y hj hy => ?_⟩
  · obtain ⟨cs, e, es⟩ := h.bk
    exact ⟨cs, hG.trans e, es⟩
  · obtain ⟨u0, u1, u2, u3, u4, u5, h1, c0, c1, c2, c3, c4, c5⟩ := h.todo j x hj hx
    exact ⟨u0, u1, u2, u3, u4, u5, h1.keep hs (fun q _ _ q3 => hb q q3), (c _).trans c0, (c _).trans c1, (c _).trans c2, (c _).trans c3, (c _).trans c4, (c _).trans c5⟩
  · obtain ⟨u0, u1, u2, u3, u4, u5, h1, c0, c1, c2, c3, c4, c5⟩ := h.done j y hj hy
    exact ⟨u0, u1, u2, u3, u4, u5, h1.keep hs (fun _ q => q) (fun q _ q3 => hb q q3), (c _).trans c0, (c _).trans c1, (c _).trans c2, (c _).trans c3, (c _).trans c4, (c _).trans c5⟩
/-- The k-th part, at its place. -/
theorem KInv.at {wr : World} {G : Nat} {cb : Nat → Nat} {l l' : List Tm} {k s : Nat} (h : KInv wr G cb l l' k s) {x : Tm} (hx : l[k]? = some x) : ∃ ra rc ka kc sa sc m1 m2, Cs6 wr G (k * 6) x ra rc ka kc sa sc ∧ TsTop wr (cb k) m1 m2 (cb (k + 1)) x ra rc ka kc sa sc := by
  obtain ⟨u0, u1, u2, u3, u4, u5, h1, c0, c1, c2, c3, c4, c5⟩ := h.todo k x (Nat.le_refl _) hx
  obtain ⟨ra, rc, ka, kc, sa, sc, m1, m2, e, ht⟩ := h1.form
  injection e with e
  simp only [Array.mk.injEq, List.cons.injEq, and_true] at e
  obtain ⟨rfl, rfl, rfl, rfl, rfl, rfl⟩ := e
  exact ⟨ra, rc, ka, kc, sa, sc, m1, m2, ⟨h.bk.lt, c0, c1, c2, c3, c4, c5⟩, ht⟩
theorem KInv.step {w0 wr w3 : World} {lo hi G : Nat} {a : Option Addr} {cb : Nat → Nat} {l l' : List Tm} {k s : Nat} (h : KInv wr G cb l l' k s) (hA : KsAt w0 lo hi l a G cb) (hk : k < l.length) (hs : hi ≤ s) (hsw : s ≤ wr.heap.size) {y : Tm} (hy : l'[k]? = some y)
    (hc : Chg wr w3 G (k * 6) (cb k) (cb (k + 1))) (hp : PvR wr w3 G (k * 6) (cb k) (cb (k + 1)) y) : KInv w3 G cb l l' (k + 1) s := by
  obtain ⟨q1, q2, q3⟩ := hA.le hk
  refine ⟨hc.bk _ _ h.bk, fun j x hj hx => ?_, fun j z hj hz => ?_⟩
  · obtain ⟨u0, u1, u2, u3, u4, u5, h1, c0, c1, c2, c3, c4, c5⟩ := h.todo j x (by omega) hx
    have hjl := some_lt hx
    have g1 := hA.up (k + 1) j (by omega) (by omega)
    refine ⟨u0, u1, u2, u3, u4, u5, h1.keep hc.kn.size (fun q z1 z2 z3 => hc.kn.block q ⟨by omega, by omega⟩ z3), ?_, ?_, ?_, ?_, ?_, ?_⟩
    · rw [hc.ot _ (by omega)]; exact c0
    · rw [hc.ot _ (by omega)]; exact c1
    · rw [hc.ot _ (by omega)]; exact c2
    · rw [hc.ot _ (by omega)]; exact c3
    · rw [hc.ot _ (by omega)]; exact c4
    · rw [hc.ot _ (by omega)]; exact c5
  · rcases Nat.lt_or_ge j k with hjk | hjk
    · obtain ⟨u0, u1, u2, u3, u4, u5, h1, c0, c1, c2, c3, c4, c5⟩ := h.done j z hjk hz
      refine ⟨u0, u1, u2, u3, u4, u5, h1.keep hc.kn.size (fun q hq => by omega) (fun q z1 z3 => hc.kn.block q ⟨by omega, by omega⟩ z3), ?_, ?_, ?_, ?_, ?_, ?_⟩
      · rw [hc.ot _ (by omega)]; exact c0
      · rw [hc.ot _ (by omega)]; exact c1
      · rw [hc.ot _ (by omega)]; exact c2
      · rw [hc.ot _ (by omega)]; exact c3
      · rw [hc.ot _ (by omega)]; exact c4
      · rw [hc.ot _ (by omega)]; exact c5
    · obtain rfl : j = k := by omega
      rw [hy] at hz
      cases hz
      obtain ⟨ra, rc, ka, kc, sa, sc, h6, ht⟩ := hp
      obtain ⟨_, c0, c1, c2, c3, c4, c5⟩ := h6
      exact ⟨_, _, _, _, _, _, ht.value.up fun q hq => by omega, c0, c1, c2, c3, c4, c5⟩
theorem KInv.row {w0 wr : World} {lo hi G : Nat} {a : Option Addr} {cb : Nat → Nat} {l l' : List Tm} {s cap : Nat} (h : KInv wr G cb l l' l.length s) (hA : KsAt w0 lo hi l a G cb) (hl : l'.length = l.length) (hcap : l.length ≤ cap) (hne : l ≠ []) :
    KdT (fun q => (lo ≤ q ∧ q < hi) ∨ s ≤ q) wr (TmIn (fun q => (lo ≤ q ∧ q < hi) ∨ s ≤ q) wr) l' (.slice a l'.length cap) := by
  refine ⟨a, cap, rfl, by omega, fun j y hy => ?_⟩
  have hj := some_lt hy
  obtain ⟨u0, u1, u2, u3, u4, u5, h1, c⟩ := h.done j y (by omega) hy
  have g1 := hA.lo
  have g2 := hA.top
  have g3 := hA.g0
  have g4 := hA.up 0 l.length (Nat.zero_le _) (Nat.le_refl _)
  exact ⟨G, 0, u0, u1, u2, u3, u4, u5, hA.at_, .inl ⟨g1, by omega⟩, h.bk.lt, h1.up fun q hq => by omega, by simpa using c⟩
theorem chg_of {w V : World} {g off lo hi : Nat} (h : Kn (fun q => ¬ (lo ≤ q ∧ q < hi)) w V) (hg : g < w.heap.size) (hgl : g < lo ∨ hi ≤ g) : Chg w V g off lo hi := by
  have e := h.block g (by omega) hg
  refine ⟨h.sub fun q hq => hq.1, fun i _ => World.cell?_of_block (w := w) (a := ⟨g, i, none⟩) e, fun ty m q => ?_⟩
  obtain ⟨cs, e1, e2⟩ := q
  exact ⟨cs, e.trans e1, e2⟩
theorem kd_keep {lo hi a b s : Nat} {w V : World} {l : List Tm} {v : Value} (h : KdT (fun q => (a ≤ q ∧ q < b) ∨ s ≤ q) w (TmIn (fun q => (a ≤ q ∧ q < b) ∨ s ≤ q) w) l v) (hk : Kn (fun q => ¬ (lo ≤ q ∧ q < hi)) w V) (h1 : b ≤ lo ∨ hi ≤ a) (h2 : hi ≤ s) :
    KdT (fun q => (a ≤ q ∧ q < b) ∨ s ≤ q) V (TmIn (fun q => (a ≤ q ∧ q < b) ∨ s ≤ q) V) l v :=
  h.all hk.size (fun _ q => q) (fun q hq hs => hk.block q (by omega) hs)
theorem KdS.open' {w : World} {lo hi : Nat} {l : List Tm} {a : Option Addr} {n cap : Nat} (h : KdS w (TmS w) lo hi l (.slice a n cap)) : ∃ G cb, l ≠ [] → KsAt w lo hi l a G cb ∧ ∀ l' s, KInv w G cb l l' 0 s := by
  rcases h.open with h | ⟨G, cb, h⟩
  · exact ⟨0, fun _ => 0, fun q => absurd h q⟩
  · exact ⟨G, cb, fun _ => h⟩
/-- A system, laid open: its block, the borders. -/
structure SsAt (lo hi : Nat) (l : List (List C × List Tm)) (a : Option Addr) (G : Nat) (cb : Nat → Nat) : Prop where
  at_ : a = some ⟨G, 0, none⟩
  lo : lo ≤ G
  g0 : G < cb 0
  top : cb l.length ≤ hi
  up : ∀ i j, i ≤ j → j ≤ l.length → cb i ≤ cb j
theorem SsAt.le {lo hi G : Nat} {l : List (List C × List Tm)} {a : Option Addr} {cb : Nat → Nat} (h : SsAt lo hi l a G cb) {j : Nat} (hj : j < l.length) : G < cb j ∧ cb j ≤ cb (j + 1) ∧ cb (j + 1) ≤ hi := by
  have h1 := h.up 0 j (Nat.zero_le _) (by omega)
  have h2 := h.up j (j + 1) (by omega) (by omega)
  have h3 := h.up (j + 1) l.length (by omega) (Nat.le_refl _)
  have h4 := h.g0
  have h5 := h.top
  exact ⟨by omega, h2, by omega⟩
structure SInv (wr : World) (G : Nat) (cb : Nat → Nat) (l l' : List (List C × List Tm)) (k s : Nat) : Prop where
  bk : BlkC wr G 61 (l.length * 2)
  todo : ∀ (j : Nat) (x : List C × List Tm), k ≤ j → l[j]? = some x → ∃ m vf vk, cb j ≤ m ∧ m ≤ cb (j + 1) ∧ ClRow (Iv (cb j) m) wr x.1 vf ∧ KdS wr (TmS wr) m (cb (j + 1)) x.2 vk ∧ wr.cell? ⟨G, j * 2, none⟩ = some vf ∧ wr.cell? ⟨G, j * 2 + 1, none⟩ = some vk
  done : ∀ (j : Nat) (y : List C × List Tm), j < k → l'[j]? = some y → ∃ vf vk, ClRow (fun q => (G < q ∧ q < cb k) ∨ s ≤ q) wr y.1 vf ∧ KdT (fun q => (G < q ∧ q < cb k) ∨ s ≤ q) wr (TmIn (fun q => (G < q ∧ q < cb k) ∨ s ≤ q) wr) y.2 vk ∧ wr.cell? ⟨G, j * 2, none⟩ = some vf ∧ wr.cell? ⟨G, j * 2 + 1, none⟩ = some vk
theorem SyS.open' {w : World} {lo hi : Nat} {l : List (List C × List Tm)} {a : Option Addr} {n cap : Nat} (h : SyS w (TmS w) lo hi l (.slice a n cap)) : ∃ G cb, l ≠ [] → SsAt lo hi l a G cb ∧ ∀ l' s, SInv w G cb l l' 0 s := by
  obtain ⟨a', cap', e, _, h3⟩ := h
  cases e
  rcases h3 with h3 | ⟨G, cb, a1, a2, a3, a4, a5, a6, a7⟩
  · exact ⟨0, fun _ => 0, fun q => absurd h3 q⟩
  · exact ⟨G, cb, fun _ => ⟨⟨a1, a2, a3, a4, a6⟩, fun l' s => ⟨a5, fun j x _ hx => a7 j x hx, fun j y hj => by omega⟩⟩⟩
theorem SInv.keep {lo hi : Nat} {wr w' : World} {a : Option Addr} {G : Nat} {cb : Nat → Nat} {l l' : List (List C × List Tm)} {k s : Nat} (h : SInv wr G cb l l' k s) (hA : SsAt lo hi l a G cb) (hs : wr.heap.size ≤ w'.heap.size) (hl : k ≤ l.length) (hl' : l'.length = l.length) (hb : ∀ q, (lo ≤ q ∧ q < hi) ∨ s ≤ q → q < wr.heap.size → w'.heap[q]? = wr.heap[q]?) : SInv w' G cb l l' k s := by
  have g1 := hA.lo
  have g2 := hA.top
  have g3 := hA.g0
  have g4 := hA.up 0 l.length (Nat.zero_le _) (Nat.le_refl _)
  have g5 := hA.up k l.length hl (Nat.le_refl _)
  have hG := hb G (.inl ⟨g1, by omega⟩) h.bk.lt
  have c := fun i => World.cell?_of_block (w := wr) (w' := w') (a := ⟨G, i, none⟩) hG
  refine ⟨?_, fun j x hj hx => ?_, fun j y hj hy => ?_⟩
  · obtain ⟨cs, e, es⟩ := h.bk
    exact ⟨cs, hG.trans e, es⟩
  · obtain ⟨m, vf, vk, p1, p2, h1, h2, c0, c1⟩ := h.todo j x hj hx
    obtain ⟨q1, q2, q3⟩ := hA.le (some_lt hx)
    exact ⟨m, vf, vk, p1, p2, h1.keep hs (fun _ q => q) (fun q hq hs => hb q (.inl ⟨by have := hq.1; omega, by have := hq.2; omega⟩) hs), h2.keep hs (fun q z1 z2 z3 => hb q (.inl ⟨by omega, by omega⟩) z3), (c _).trans c0, (c _).trans c1⟩
  · obtain ⟨vf, vk, h1, h2, c0, c1⟩ := h.done j y hj hy
    exact ⟨vf, vk, h1.keep hs (fun _ q => q) (fun q hq hs => hb q (by omega) hs), h2.all hs (fun _ q => q) (fun q hq hs => hb q (by omega) hs), (c _).trans c0, (c _).trans c1⟩
theorem SInv.at {wr : World} {G : Nat} {cb : Nat → Nat} {l l' : List (List C × List Tm)} {k s : Nat} (h : SInv wr G cb l l' k s) {x : List C × List Tm} (hx : l[k]? = some x) : ∃ m fa fc ka kc, cb k ≤ m ∧ m ≤ cb (k + 1) ∧ Cs2 wr G (k * 2) x fa fc ka kc ∧ ClRow (Iv (cb k) m) wr x.1 (.slice fa x.1.length fc) ∧ KdS wr (TmS wr) m (cb (k + 1)) x.2 (.slice ka x.2.length kc) := by
  obtain ⟨m, vf, vk, p1, p2, h1, h2, c0, c1⟩ := h.todo k x (Nat.le_refl _) hx
  obtain ⟨fa, fc, rfl, _⟩ := id h1
  obtain ⟨ka, kc, rfl, _⟩ := id h2
  exact ⟨m, fa, fc, ka, kc, p1, p2, ⟨h.bk.lt, c0, c1⟩, h1, h2⟩
theorem SInv.step {wo w' : World} {lo hi G m : Nat} {a : Option Addr} {cb : Nat → Nat} {l l' : List (List C × List Tm)} {k s fc kc : Nat} {fa ka : Option Addr} (h : SInv wo G cb l l' k s) (hA : SsAt lo hi l a G cb) {x : List C × List Tm} (hx : l[k]? = some x) (hs : hi ≤ s) {l2 : List Tm} (hy : l'[k]? = some (x.1, l2)) (hl2 : l2.length = x.2.length)
    (p1 : cb k ≤ m) (p2 : m ≤ cb (k + 1)) (h2 : Cs2 wo G (k * 2) x fa fc ka kc) (hcl : ClRow (Iv (cb k) m) wo x.1 (.slice fa x.1.length fc)) (hc : Kn (fun q => ¬ (m ≤ q ∧ q < cb (k + 1))) wo w') (hp : KdT (fun q => (m ≤ q ∧ q < cb (k + 1)) ∨ s ≤ q) w' (TmIn (fun q => (m ≤ q ∧ q < cb (k + 1)) ∨ s ≤ q) w') l2 (.slice ka l2.length kc)) : SInv w' G cb l l' (k + 1) s := by
  have hk := some_lt hx
  obtain ⟨q1, q2, q3⟩ := hA.le hk
  have hG := hc.block G (by omega) h.bk.lt
  have c := fun i => World.cell?_of_block (w := wo) (w' := w') (a := ⟨G, i, none⟩) hG
  refine ⟨?_, fun j z hj hz => ?_, fun j z hj hz => ?_⟩
  · obtain ⟨cs, e, es⟩ := h.bk
    exact ⟨cs, hG.trans e, es⟩
  · obtain ⟨m', vf, vk, z1, z2, h1, h2, c0, c1⟩ := h.todo j z (by omega) hz
    have g1 := hA.up (k + 1) j (by omega) (by have := some_lt hz; omega)
    exact ⟨m', vf, vk, z1, z2, h1.keep hc.size (fun _ q => q) (fun q hq hs => hc.block q (by have := hq.1; omega) hs), h2.keep hc.size (fun q y1 y2 y3 => hc.block q (by omega) y3), (c _).trans c0, (c _).trans c1⟩
  · rcases Nat.lt_or_ge j k with hjk | hjk
    · obtain ⟨vf, vk, h1, h2, c0, c1⟩ := h.done j z hjk hz
      exact ⟨vf, vk, h1.keep hc.size (fun q hq => by omega) (fun q hq hs => hc.block q (by omega) hs), h2.all hc.size (fun q hq => by omega) (fun q hq hs => hc.block q (by omega) hs), (c _).trans c0, (c _).trans c1⟩
    · obtain rfl : j = k := by omega
      rw [hy] at hz
      cases hz
      have c1 := h2.c1
      rw [← hl2] at c1
      exact ⟨_, _, hcl.keep hc.size (fun q hq => .inl ⟨by have := hq.1; omega, by have := hq.2; omega⟩) (fun q hq hs => hc.block q (by have := hq.2; omega) hs), hp.all (Nat.le_refl _) (fun q hq => by omega) (fun _ _ _ => rfl), (c _).trans h2.c0, (c _).trans c1⟩
theorem SInv.row {wr : World} {lo hi G : Nat} {a : Option Addr} {cb : Nat → Nat} {l l' : List (List C × List Tm)} {s cap : Nat} (h : SInv wr G cb l l' l.length s) (hA : SsAt lo hi l a G cb) (hl : l'.length = l.length) (hcap : l.length ≤ cap) :
    SyT (fun q => (lo ≤ q ∧ q < hi) ∨ s ≤ q) wr (TmIn (fun q => (lo ≤ q ∧ q < hi) ∨ s ≤ q) wr) l' (.slice a l'.length cap) := by
  refine ⟨a, cap, rfl, by omega, fun j y hy => ?_⟩
  have hj := some_lt hy
  obtain ⟨vf, vk, h1, h2, c⟩ := h.done j y (by omega) hy
  have g1 := hA.lo
  have g2 := hA.top
  have g3 := hA.g0
  have g4 := hA.up 0 l.length (Nat.zero_le _) (Nat.le_refl _)
  exact ⟨G, 0, vf, vk, hA.at_, .inl ⟨g1, by omega⟩, h.bk.lt, h1.keep (Nat.le_refl _) (fun q hq => by omega) (fun _ _ _ => rfl), h2.all (Nat.le_refl _) (fun q hq => by omega) (fun _ _ _ => rfl), by simpa using c⟩
theorem firstE_hit {l : List Int} {k : Nat} {a : Int} (h : l[k]? = some a) (h0 : firstE (l.take k) = 0) (ha : a ≠ 0) : firstE l = a := by
  have e := firstE_step h
  rw [if_pos h0] at e
  rw [firstE_stuck (k := k + 1) (by rw [e]; exact ha), e]
theorem firstE_next {l : List Int} {k : Nat} (h : l[k]? = some 0) (h0 : firstE (l.take k) = 0) : firstE (l.take (k + 1)) = 0 := by
  rw [firstE_step h, if_pos h0]
theorem firstE_all {l : List Int} {k : Nat} (hk : l.length ≤ k) (h0 : firstE (l.take k) = 0) : firstE l = 0 := by rwa [List.take_of_length_le hk] at h0
end Go.Proofs.YtocfamcclfhkcaaGreat

