/- How a term that came in lies in memory. How great a term is: Bulk of the document's answer. Formulas in the places of dimensions: Take. Where a clause is so: the faces of a term's branches are those that Restrict tells. The chapter's examples. The chapter's examples, of formulas in the places of dimensions; how great is too great. Formulas and faces. Where a system has a branch: what its faces make; which branch is total. Systems that came in; how great is too great. Where a system has a branch. A system's term; what becomes of a system where a clause is so. Which branch is total. The chapter's example of systems; how great is too great. Lifts: a whole term; what gives up is caught. Vars, Dims, Both. Lifts: what is kept of a term. Both. What becomes of a system that is lifted, and of one that a dimension is taken out of. A system without branches has none anywhere, and its face is never; kinds without systems have none. -/
import Derived.ProofKit
import Derived.OpenShut
import Derived.Lib.SmallJoins
import Derived.Deep.Slices
import Derived.Deep.Strs
import Derived.Test.YtpmmbfngogpinaaGreatYEqA
import Derived.Test.YtpmmbfngogpinaaGreatYMeas
import Derived.Deep.DeepCutAuto
import Derived.Test.YtpmmbfngogpinaaGreatYDmF
import Derived.Test.YtpmmbfngogpinaaGreatYDmV
import Derived.Deep.RegionHeld3
import Derived.Test.YtpmmbfngogpinaaGreatYSame
import Derived.Test.YtpmmbfngogpinaaGreatYUses
import Derived.Test.YtpmmbfngogpinaaGreatYRight
import Derived.Laws.BitsLemmas
import Derived.WalkKit
import Derived.Sort.Grow
import Derived.Deep.Draws
import Derived.Lib.QuietBelow
import Derived.Laws.OwnMore
import Derived.OwnWalk
import Derived.Deep.Onto
import Derived.Deep.QuietTactic
import Derived.BigQuiet
import Derived.WalkSmall
import Derived.Lib.SliceRun
import Derived.Maps.OwnSet
import Derived.Maps.AppendAt
import Derived.DeepKeys4
import Derived.WideKeyPair
import Derived.Deep.AppendLies
import Derived.Lib.AppendZeros
import Derived.RangeFuncNested
import Derived.RangeFuncBound
import Derived.RangeFuncCalls
import Derived.RangeFuncLeaves
import Derived.RangeFuncFrom
import Derived.RangeFuncBox
import Derived.Shelf.Abstract
import Derived.Shelf.RegionOpen
import Derived.OwnWalkIn
import Derived.TacticsInMore
import Derived.LoopNIn
import Derived.LoopIn
import Derived.Test.YtpmmbfngogpinaaGreatFC
import Derived.Test.YtpmmbfngogpinaaGreatFD
import Derived.Test.YtpmmbfngogpinaaGreatFMA
import Derived.Test.YtpmmbfngogpinaaGreatFB
import Derived.Test.YtpmmbfngogpinaaGreatYRCopyM
import Derived.Test.YtpmmbfngogpinaaGreatYKinds
import Derived.Test.YtpmmbfngogpinaaGreatSLay
import Derived.Defers
import Derived.Recover
import Derived.RegionTactic
import Derived.Test.YtpmmbfngogpinaaGreatYLfC
import Derived.Test.YtpmmbfngogpinaaGreatYLfM
import Derived.Test.YtpmmbfngogpinaaGreatYLfD
namespace Go.Proofs.YtpmmbfngogpinaaGreat
open Go.ChangeShapes Go.WideShapes Go.ChangeAt Go.RowKit
set_option linter.unusedVariables false
set_option linter.unusedSimpArgs false

section
variable {H : Type} {enc : TypeId × Value → H}
theorem wf_I64 {n : Int} (h : (Lit.int .i64 n).wf = true) : I64 n := by
  simp [Lit.wf, IntKind.min, IntKind.max, IntKind.bits, IntKind.signed] at h
  exact ⟨by omega, by omega⟩
/-- A slice that came in, element by element. -/
theorem open_any {W : World} {fuel : Nat} {cs : List Value} {x : DataW H × List MemPlace} {ts te : TypeId} {k : Nat} (hu : Tryz.prog.underlying ts = some (.slice te)) (hk : Tryz.prog.cellsOf te = k) (hk0 : 0 < k) {T : Type} [Inhabited T] (p : T → List Value → Prop)
    (ih : ∀ m, m < fuel → ∀ cs x, DataW.trod enc Tryz.prog W 0 (fun _ => true) true m te cs = some x → ∃ t, p t cs) (h : DataW.trod enc Tryz.prog W 0 (fun _ => true) true fuel ts cs = some x) :
    ∃ (l : List T) (a : Option Addr) (cap : Nat), cs = [.slice a l.length cap] ∧ l.length ≤ cap ∧ ∀ j t, l[j]? = some t → ∃ g off cs', a = some ⟨g, off, none⟩ ∧ g < W.heap.size ∧ p t cs' ∧ ∀ i, i < k → W.cell? ⟨g, off + j * k + i, none⟩ = cs'[i]? := by
  rcases DataW.trod_slice hu h with ⟨rfl, _⟩ | ⟨a, len, cap, elems, rest, m, rfl, rfl, _, hba, hlc, hcm, hel, hcell, _, _⟩
  · exact ⟨[], none, 0, rfl, Nat.le_refl _, fun j t ht => by simp at ht⟩
  · have each : ∀ i, i < len → ∃ (t : T), ∃ cs', p t cs' ∧ cs'.length = k ∧ ∀ j, j < k → W.cell? (a.add (i * k + j)) = cs'[j]? := fun i hi => by
      have h1 := hcell i hi
      rw [List.getElem?_eq_getElem (by omega), hk] at h1
      obtain ⟨cs', h2, h3⟩ := Option.bind_eq_some_iff.1 h1
      obtain ⟨t, hp⟩ := ih m (by omega) _ _ h3
      obtain ⟨h5, h6, h4⟩ := World.cells?_some h2
      refine ⟨t, cs', hp, by first | exact h5 | exact h6 | omega, fun j hj => ?_⟩
      have := h4 j hj
      rw [Go.Deep.add_add] at this
      exact this
    obtain ⟨f, hf⟩ := Go.Deep.choose_lt (p := fun i t => ∃ cs', p t cs' ∧ cs'.length = k ∧ ∀ j, j < k → W.cell? (a.add (i * k + j)) = cs'[j]?) each
    refine ⟨(List.range len).map f, some a, cap, by simp, by simpa using hlc, fun j x hx => ?_⟩
    have hj : j < len := by
      rcases Nat.lt_or_ge j len with h1 | h1
      · exact h1
      · rw [List.getElem?_eq_none (by simpa using h1)] at hx; cases hx
    rw [List.getElem?_map, List.getElem?_range hj] at hx
    simp at hx
    subst hx
    obtain ⟨cs', hs, hl', hc⟩ := hf j hj
    obtain ⟨cs0, _, hl0, hc0⟩ := hf 0 (by omega)
    obtain ⟨b, off, spot⟩ := a
    have h0 : W.cell? ⟨b, off, spot⟩ = some (cs0[0]'(by omega)) := by
      have := hc0 0 hk0
      rw [List.getElem?_eq_getElem (by omega)] at this
      simpa [Addr.add] using this
    have hspot : spot = none := World.cell?_spot h0
    subst hspot
    have hb : b < W.heap.size := World.block_lt_of_cell? _ _ h0
    have e : ∀ j', Addr.add ⟨b, off, none⟩ (j * k + j') = ⟨b, off + j * k + j', none⟩ := fun j' => by
      unfold Addr.add
      split
      · next h9 =>
        have h1 : j * k = 0 := by omega
        have h2 : j' = 0 := by omega
        rw [h1, h2]; rfl
      · rw [Nat.add_assoc]
    exact ⟨b, off, cs', rfl, hb, hs, fun i hi => by have := hc i hi; rw [e] at this; exact this⟩
set_option maxRecDepth 100000 in
theorem open_clause1 {W : World} (m : Nat) (cs : List Value) (x : DataW H × List MemPlace) (h : DataW.trod enc Tryz.prog W 0 (fun _ => true) true m 38 cs = some x) : ∃ c : C, cs = [.int .u32 (c.1.val : Int), .int .u32 (c.2.val : Int)] := by
  obtain ⟨xs, n, rfl, _, hl, hlen, hf⟩ := DataW.trod_struct Tryz.underlying38 h
  rw [Tryz.cellsC] at hl
  match cs, hl with
  | [u0, u1], _ =>
    match xs, hlen with
    | [y0, y1], _ =>
      have e0 : DataW.trod enc Tryz.prog W 0 (fun _ => true) true n 36 (([u0, u1].drop 0).take (Tryz.prog.cellsOf 36)) = some y0 := hf 0 _ rfl
      have e1 : DataW.trod enc Tryz.prog W 0 (fun _ => true) true n 36 (([u0, u1].drop 1).take (Tryz.prog.cellsOf 36)) = some y1 := hf 1 _ rfl
      rw [Tryz.cellsU] at e0 e1
      obtain ⟨a, i0, _, w0⟩ := DataW.trod_int Tryz.underlying36 e0
      obtain ⟨b, i1, _, w1⟩ := DataW.trod_int Tryz.underlying36 e1
      obtain ⟨a, rfl⟩ := bounds_wf w0
      obtain ⟨b, rfl⟩ := bounds_wf w1
      simp at i0 i1
      subst i0 i1
      exact ⟨(a, b), rfl⟩
theorem open_cls {W : World} {fuel : Nat} {cs : List Value} {x : DataW H × List MemPlace} (h : DataW.trod enc Tryz.prog W 0 (fun _ => true) true fuel 22 cs = some x) : ∃ (l : List C) (v : Value), cs = [v] ∧ ClRow Tt W l v := by
  haveI : Inhabited C := ⟨(0, 0)⟩
  obtain ⟨l, a, cap, rfl, hl, hx⟩ := open_any Tryz.underlying22 Tryz.cellsC (by omega) (fun (c : C) cs => cs = [.int .u32 (c.1.val : Int), .int .u32 (c.2.val : Int)]) (fun m _ => open_clause1 m) h
  refine ⟨l, _, rfl, a, cap, rfl, hl, fun j c hj => ?_⟩
  obtain ⟨g, off, cs', ha, hg, rfl, hc⟩ := hx j c hj
  exact ⟨g, off, ha, trivial, hg, hc 0 (by omega), hc 1 (by omega)⟩
instance : Inhabited Tm := ⟨.mk 0 0 ByteArray.empty [] [] []⟩
end
end Go.Proofs.YtpmmbfngogpinaaGreat

namespace Go.Proofs.YtpmmbfngogpinaaGreat
open Go.RowKit
set_option linter.unusedVariables false
set_option linter.unusedSimpArgs false

def BulkR (m B r : Nat) : Prop := (B ≤ m → r = B) ∧ (m < B → m < r) ∧ r ≤ 2 * m + 2 ∧ 1 ≤ r
/-- A sum as far as it was made: it is right, or it is too great and rightly so. -/
structure Pt (m S P : Nat) : Prop where
  out : S = P ∨ (m < S ∧ m < P)
theorem Pt.step {m S P B r : Nat} (h : Pt m S P) (hS : S ≤ m) (hr : BulkR (m - S) B r) : Pt m (S + r) (P + B) := by
  obtain ⟨r1, r2, r3, r4⟩ := hr
  refine ⟨?_⟩
  rcases h.out with h | h
  · by_cases hz : B ≤ m - S
    · have := r1 hz; left; omega
    · have := r2 (by omega); right; omega
  · omega
theorem Pt.add {m S P : Nat} (h : Pt m S P) (x : Nat) : Pt m (S + x) (P + x) := ⟨by have := h.out; omega⟩
end Go.Proofs.YtpmmbfngogpinaaGreat

namespace Go.Proofs.YtpmmbfngogpinaaGreat
open Go.RowKit
set_option linter.unusedVariables false
set_option linter.unusedSimpArgs false

/-- What Take tells: refused ahead, by the lifting, by the putting; else r is put, and i taken out. -/
def takE (i : Int) (r : List C) (t : Tm) : Int := if wrD i r t = 0 then (if (liftFF r i 1).2 = 0 then (if eT (putOp i (liftFF r i 1).1) t 0 = 0 then eT (dropOp i) (ansD (putOp i (liftFF r i 1).1) t) 0 else eT (putOp i (liftFF r i 1).1) t 0) else (liftFF r i 1).2) else wrD i r t
def takT (i : Int) (r : List C) (t : Tm) : Tm := if wrD i r t = 0 then (if (liftFF r i 1).2 = 0 then (if eT (putOp i (liftFF r i 1).1) t 0 = 0 then ansD (dropOp i) (ansD (putOp i (liftFF r i 1).1) t) else noT) else noT) else noT
set_option maxRecDepth 100000 in
set_option maxHeartbeats 8000000 in
theorem dtake_any (t : Tm) (v : Value) (w : World) (hv : TmIn Tt w t v) (hb : blk t ≤ 20000) (i : Int) (r : List C) (vr : Value) (hr : ClRow Tt w r vr) (hrl : r.length ≤ 40000) (hsm : blk (ansD (putOp i (liftFF r i 1).1) t) ≤ 40000) : Calls Tryz.prog 13 #[v, .int .i64 i, vr] w fun e w' => ∃ v', e = .returned (.tuple #[v', .int .i64 (takE i r t)]) ∧ TmIn (OkN w.heap.size w') w' (takT i r t) v' ∧ Below w.heap.size w w' := by
  obtain ⟨ra, rc, ka, kc, sa, sc, rfl, ht⟩ := hv.form
  obtain ⟨w1, hw1⟩ : ∃ W, W = (w.alloc (.cells #[.int .i64 t.kind, .int .i64 t.n, .string t.name, .slice ra t.r.length rc, .slice ka t.kids.length kc, .slice sa t.sys.length sc] 26)).alloc (.cells #[.int .i64 0, .int .i64 0, .string ⟨#[]⟩, .slice none 0 0, .slice none 0 0, .slice none 0 0] 26) := ⟨_, rfl⟩
  have b1 : Below w.heap.size w w1 := by rw [hw1]; exact bchain (belowA _ _) (belowA _ _)
  obtain ⟨X, hX⟩ : ∃ X, X = w.heap.size := ⟨_, rfl⟩
  have s1 : w1.heap.size = X + 2 := by rw [hw1, hX]; simp
  have x1 : Six w1 X (.int .i64 t.kind) (.int .i64 t.n) (.string t.name) (.slice ra t.r.length rc) (.slice ka t.kids.length kc) (.slice sa t.sys.length sc) := ⟨by rw [hX, hw1]; exact (Below.heap_alloc _ _ _ (by simp)).trans (heapNew w _)⟩
  have x2 : Six w1 (X + 1) (.int .i64 0) (.int .i64 0) (.string ⟨#[]⟩) (.slice none 0 0) (.slice none 0 0) (.slice none 0 0) := ⟨by
    rw [hX, hw1]; have := heapNew (w.alloc (.cells #[.int .i64 t.kind, .int .i64 t.n, .string t.name, .slice ra t.r.length rc, .slice ka t.kids.length kc, .slice sa t.sys.length sc] 26)) (.cells #[.int .i64 0, .int .i64 0, .string ⟨#[]⟩, .slice none 0 0, .slice none 0 0, .slice none 0 0] 26); rwa [World.size_alloc] at this⟩
  have HC : Hid (∀ W, Below w1.heap.size w1 W → Six W X (.int .i64 t.kind) (.int .i64 t.n) (.string t.name) (.slice ra t.r.length rc) (.slice ka t.kids.length kc) (.slice sa t.sys.length sc)) := fun W q => x1.blw q
  have HZ : Hid (∀ W, Below w1.heap.size w1 W → Six W (X + 1) (.int .i64 0) (.int .i64 0) (.string ⟨#[]⟩) (.slice none 0 0) (.slice none 0 0) (.slice none 0 0)) := fun W q => x2.blw q
  have HT : Hid (∀ W, Below w1.heap.size w1 W → TmIn Tt W t (.agg #[.int .i64 t.kind, .int .i64 t.n, .string t.name, .slice ra t.r.length rc, .slice ka t.kids.length kc, .slice sa t.sys.length sc])) := fun W q => ((ht.blw b1).blw q).value
  have HB : Hid (∀ W, Below w1.heap.size w1 W → Below X w W) := fun W q => by rw [hX]; exact bchain b1 q
  have HXs : Hid (X = w.heap.size) := hX
  have Hs1 : Hid (w1.heap.size = X + 2) := s1
  have HW : Hid (_ = _) := hw1
  have HR : Hid (∀ W, Below w1.heap.size w1 W → ClRow Tt W r vr) := fun W q => (hr.blw b1).blw q
  have cw := dwrong_any t _ w1 (HT.out w1 (Below.refl _ _)) hb i r vr (HR.out w1 (Below.refl _ _)) hrl
  have cl : Hid (∀ V, Below w1.heap.size w1 V → Calls Tryz.prog 40 #[vr, .int .i64 i, .int .i64 1] V fun e w' => ∃ v, e = .returned (.tuple #[v, .int .i64 (liftFF r i 1).2]) ∧ OwnsC w' V.heap.size v (liftFF r i 1).1 ∧ Below V.heap.size V w') := fun V q => Lift_any r i 1 vr V (HR.out V q).frow hrl
  have HE : Hid (takE i r t = (if wrD i r t = 0 then (if (liftFF r i 1).2 = 0 then (if eT (putOp i (liftFF r i 1).1) t 0 = 0 then eT (dropOp i) (ansD (putOp i (liftFF r i 1).1) t) 0 else eT (putOp i (liftFF r i 1).1) t 0) else (liftFF r i 1).2) else wrD i r t) ∧ takT i r t = (if wrD i r t = 0 then (if (liftFF r i 1).2 = 0 then (if eT (putOp i (liftFF r i 1).1) t 0 = 0 then ansD (dropOp i) (ansD (putOp i (liftFF r i 1).1) t) else noT) else noT) else noT)) := ⟨rfl, rfl⟩
  have HOk : Hid (wrD i r t = 0 → 0 ≤ i ∧ i ≤ 1000000) := fun h => by have := (wrD_ok h).1; omega
  have hll := liftFF_len r i 1
  obtain ⟨e0, he0⟩ : ∃ e, e = wrD i r t := ⟨_, rfl⟩
  rw [← he0] at cw HE HOk
  obtain ⟨Pl, hPl⟩ : ∃ P, P = liftFF r i 1 := ⟨_, rfl⟩
  rw [← hPl] at cl HE hsm hll
  obtain ⟨rl, el⟩ := Pl
  dsimp only at cl HE hsm hll
  obtain ⟨va, vc, rfl, _⟩ := id hr
  obtain ⟨LR, hLR⟩ : ∃ L, L = r.length := ⟨_, rfl⟩
  rw [← hLR] at cw HR cl
  simp only [← hLR]
  rw [← hX]
  have Hbt : Hid (blk t ≤ 40000) := (by omega : blk t ≤ 40000)
  clear he0 hw1 hX s1 x1 x2 hv ht b1 hr hLR hPl
  go_enter Tryz.func13, Tryz.ntmps13
  go_upto_region 1 with fail
  rw [← HW.out]
  simp only [← HXs.out]
  clear HW
  obtain ⟨y0, y1, y2, y3, y4, y5, _⟩ := (HC.out w1 (Below.refl _ _)).cells
  go_wp2_with fail
  refine cw.mono ?_
  rintro e w2 ⟨rfl, b2⟩
  clear cw y0 y1 y2 y3 y4 y5
  have hsz := Hs1.out
  by_cases hz : e0 = 0
  rotate_left
  · have Hf : Hid (takE i r t = e0 ∧ takT i r t = noT) := ⟨by rw [HE.out.1, if_neg hz], by rw [HE.out.2, if_neg hz]⟩
    have hz1 : (e0 == 0) = false := by simpa using hz
    clear HE HOk cl
    have zz := HZ.out w2 b2
    have zz2 := zz.set6 (.int .i64 0) (.int .i64 0) (.string ⟨#[]⟩) (.slice none 0 0) (.slice none 0 0) (.slice none 0 0)
    obtain ⟨o0, o1, o2, o3, o4, o5, ff⟩ := zz.cells
    have f0 := ff 0
    have f1 := ff 1
    have f2 := ff 2
    have f3 := ff 3
    have f4 := ff 4
    have f5 := ff 5
    obtain ⟨h0, h1, h2, h3, h4, h5, _⟩ := zz2.cells
    obtain ⟨wz, hwz⟩ : ∃ W, W = (((((w2.setCell ⟨X + 1, 0, none⟩ (.int .i64 0)).setCell ⟨X + 1, 1, none⟩ (.int .i64 0)).setCell ⟨X + 1, 2, none⟩ (.string ⟨#[]⟩)).setCell ⟨X + 1, 3, none⟩ (.slice none 0 0)).setCell ⟨X + 1, 4, none⟩ (.slice none 0 0)).setCell ⟨X + 1, 5, none⟩ (.slice none 0 0) := ⟨_, rfl⟩
    rw [← hwz] at h0 h1 h2 h3 h4 h5
    have kz : Kn (fun q => q ≠ X + 1) w2 wz := by rw [hwz]; exact kn_set6 _ _ _ _ _ _ _ _
    have bz : Below X w wz := (HB.out w2 b2).trans (kz.below (fun q hq => by omega) (by have := (HB.out w2 b2).size; have := HXs.out; omega))
    have Hwz : Hid (_ = _) := hwz
    clear hwz ff zz zz2 kz
    go_wp2_with fail
    rw [← Hwz.out]
    exact bodyPost_ret (v := .tuple #[.agg #[.int .i64 0, .int .i64 0, .string ⟨#[]⟩, .slice none 0 0, .slice none 0 0, .slice none 0 0], .int .i64 (e0)]) (by simp only [results, Tryz.results13]; simp [go_sem, h0, h1, h2, h3, h4, h5]) rfl ⟨_, by rw [Hf.out.1], by rw [Hf.out.2]; exact noT_in _ _, bz⟩
  subst hz
  have hok := HOk.out rfl
  rw [if_pos rfl, if_pos rfl] at HE
  have cc := cl.out w2 b2
  go_wp2_with fail
  refine cc.mono ?_
  rintro e w3 ⟨v3, rfl, hO3, b3⟩
  clear cc cl
  have b13 : Below w1.heap.size w1 w3 := b2.trans (b3.mono b2.size)
  obtain ⟨va3, vc3, rfl⟩ := OwnsC.len hO3
  obtain ⟨L3, hL3⟩ : ∃ L, L = rl.length := ⟨_, rfl⟩
  have HR3 : Hid (∀ W, Below w3.heap.size w3 W → ClRow Tt W rl (.slice va3 L3 vc3)) := fun W q => by
    rw [hL3]; exact ((OwnsC.okn hO3).keep (Nat.le_refl _) (fun _ _ => trivial) (fun _ _ _ => rfl)).blw q
  rw [← hL3]
  clear hO3 hL3
  by_cases hz : el = 0
  rotate_left
  · have Hf : Hid (takE i r t = el ∧ takT i r t = noT) := ⟨by rw [HE.out.1, if_neg hz], by rw [HE.out.2, if_neg hz]⟩
    have hz1 : (el == 0) = false := by simpa using hz
    clear HE HOk
    have zz := HZ.out w3 b13
    have zz2 := zz.set6 (.int .i64 0) (.int .i64 0) (.string ⟨#[]⟩) (.slice none 0 0) (.slice none 0 0) (.slice none 0 0)
    obtain ⟨o0, o1, o2, o3, o4, o5, ff⟩ := zz.cells
    have f0 := ff 0
    have f1 := ff 1
    have f2 := ff 2
    have f3 := ff 3
    have f4 := ff 4
    have f5 := ff 5
    obtain ⟨h0, h1, h2, h3, h4, h5, _⟩ := zz2.cells
    obtain ⟨wz, hwz⟩ : ∃ W, W = (((((w3.setCell ⟨X + 1, 0, none⟩ (.int .i64 0)).setCell ⟨X + 1, 1, none⟩ (.int .i64 0)).setCell ⟨X + 1, 2, none⟩ (.string ⟨#[]⟩)).setCell ⟨X + 1, 3, none⟩ (.slice none 0 0)).setCell ⟨X + 1, 4, none⟩ (.slice none 0 0)).setCell ⟨X + 1, 5, none⟩ (.slice none 0 0) := ⟨_, rfl⟩
    rw [← hwz] at h0 h1 h2 h3 h4 h5
    have kz : Kn (fun q => q ≠ X + 1) w3 wz := by rw [hwz]; exact kn_set6 _ _ _ _ _ _ _ _
    have bz : Below X w wz := (HB.out w3 b13).trans (kz.below (fun q hq => by omega) (by have := (HB.out w3 b13).size; have := HXs.out; omega))
    have Hwz : Hid (_ = _) := hwz
    clear hwz ff zz zz2 kz
    go_wp2_with fail
    rw [← Hwz.out]
    exact bodyPost_ret (v := .tuple #[.agg #[.int .i64 0, .int .i64 0, .string ⟨#[]⟩, .slice none 0 0, .slice none 0 0, .slice none 0 0], .int .i64 (el)]) (by simp only [results, Tryz.results13]; simp [go_sem, h0, h1, h2, h3, h4, h5]) rfl ⟨_, by rw [Hf.out.1], by rw [Hf.out.2]; exact noT_in _ _, bz⟩
  subst hz
  rw [if_pos rfl, if_pos rfl] at HE
  have cP : Hid (∀ V, Below w3.heap.size w3 V → Calls Tryz.prog 35 #[.int .i64 i, .slice va3 L3 vc3] V fun e w' => ∃ fV cV, e = .returned (.agg #[fV, cV]) ∧ RowC (putOp i rl).fn fV w' ∧ RowC (putOp i rl).fc cV w' ∧ Below V.heap.size V w') := fun V q => putting_any i rl _ V (HR3.out V q) (by omega) hok
  have HT3 : Hid (∀ V, Below w3.heap.size w3 V → TmIn Tt V t (.agg #[.int .i64 t.kind, .int .i64 t.n, .string t.name, .slice ra t.r.length rc, .slice ka t.kids.length kc, .slice sa t.sys.length sc])) := fun V q => HT.out V (b13.trans (q.mono b13.size))
  have cT : Hid (∀ V fV cV, Below w3.heap.size w3 V → RowC (putOp i rl).fn fV V → RowC (putOp i rl).fc cV V → Calls Tryz.prog 36 #[.agg #[fV, cV], .agg #[.int .i64 t.kind, .int .i64 t.n, .string t.name, .slice ra t.r.length rc, .slice ka t.kids.length kc, .slice sa t.sys.length sc]] V fun e w' => ∃ v', e = .returned (.tuple #[v', .int .i64 (eT (putOp i rl) t 0)]) ∧ TmIn (OkN V.heap.size w') w' (ansD (putOp i rl) t) v' ∧ Below V.heap.size V w') := fun V fV cV q h1 h2 => dterm_any t _ V (HT3.out V q) h1 h2 Hbt.out
  obtain ⟨er, her⟩ : ∃ e, e = eT (putOp i rl) t 0 := ⟨_, rfl⟩
  obtain ⟨T, hT⟩ : ∃ T, T = ansD (putOp i rl) t := ⟨_, rfl⟩
  rw [← her, ← hT] at cT HE
  rw [← hT] at hsm
  have HC3 : Hid (∀ V, Below w3.heap.size w3 V → Six V X (.int .i64 t.kind) (.int .i64 t.n) (.string t.name) (.slice ra t.r.length rc) (.slice ka t.kids.length kc) (.slice sa t.sys.length sc)) := fun V q => HC.out V (b13.trans (q.mono b13.size))
  clear her hT HOk
  go_upto_region 7 with fail
  have hS1 : Below w3.heap.size w3 w3 := Below.refl _ _
  go_cut [11, 10] (fun s se wx => ∃ o ra2 rc2 ka2 kc2 sa2 sc2, s = .pointer (some ⟨o, 0, none⟩) ∧ se = .int .i64 er ∧ Six wx o (.int .i64 T.kind) (.int .i64 T.n) (.string T.name) (.slice ra2 T.r.length rc2) (.slice ka2 T.kids.length kc2) (.slice sa2 T.sys.length sc2) ∧ TmIn Tt wx T (.agg #[.int .i64 T.kind, .int .i64 T.n, .string T.name, .slice ra2 T.r.length rc2, .slice ka2 T.kids.length kc2, .slice sa2 T.sys.length sc2]) ∧ Below w3.heap.size w3 wx ∧ w3.heap.size ≤ o)
  case first => as_aux_lemma =>
    refine wp_region_held_drew (S := fun V => Below w3.heap.size w3 V) (by kernel_rfl) (hS1.drew) (fun hS => ?_)
    obtain ⟨wd, hwd⟩ : ∃ V, V = w3.drew := ⟨_, rfl⟩
    have hbd : Below w3.heap.size w3 wd := by rw [hwd]; exact (Below.refl _ _).drew
    rw [← hwd] at hS ⊢
    clear hwd
    refine wpAnyH_take (i := 0) (v := .int .i64 i) rfl (by kernel_rfl) (by kernel_rfl) (by kernel_rfl) (fun _ _ _ h => h) (Or.inl ⟨by rfl, fun w hS => by go_simp⟩) hS ?_
    try simp only [Act.put, List.getElem_toArray, List.getElem_cons_zero, List.getElem_cons_succ, List.setIfInBounds_toArray, List.set_cons_zero, List.set_cons_succ]
    refine wpAnyH_take (i := 1) (v := .slice va3 L3 vc3) rfl (by kernel_rfl) (by kernel_rfl) (by kernel_rfl) (fun _ _ _ h => h) (Or.inl ⟨by rfl, fun w hS => by go_simp⟩) hS ?_
    try simp only [Act.put, List.getElem_toArray, List.getElem_cons_zero, List.getElem_cons_succ, List.setIfInBounds_toArray, List.set_cons_zero, List.set_cons_succ]
    refine wpAnyH_take (i := 3) (v := .agg #[.int .i64 t.kind, .int .i64 t.n, .string t.name, .slice ra t.r.length rc, .slice ka t.kids.length kc, .slice sa t.sys.length sc]) rfl (by kernel_rfl) (by kernel_rfl) (by kernel_rfl) (fun _ _ _ h => h) (Or.inl ⟨by rfl, fun w hS => by obtain ⟨y0, y1, y2, y3, y4, y5, _⟩ := (HC3.out w hS).cells; go_simp⟩) hS ?_
    try simp only [Act.put, List.getElem_toArray, List.getElem_cons_zero, List.getElem_cons_succ, List.setIfInBounds_toArray, List.set_cons_zero, List.set_cons_succ]
    refine wpAnyH_ready (rs := [2, 8]) (by kernel_rfl) (by simp) ?_
    refine ready_cons rfl (fun KK hKK => ?_) (ready_cons rfl (fun KK hKK => ?_) AllReadyH.nil)
    · skip
      refine ⟨?_⟩
      have cc := cP.out wd hS
      go_simp
      refine cc.mono ?_
      rintro e w4 ⟨fV, cV, rfl, hF, hC, hbP⟩
      have hSw4 : Below w3.heap.size w3 w4 := hS.trans (hbP.mono hS.size)
      clear cc
      refine hKK.out _ _ hSw4 (fun hS => ?_)
      clear hKK KK
      try simp only [Act.put, List.getElem_toArray, List.getElem_cons_zero, List.getElem_cons_succ, List.setIfInBounds_toArray, List.set_cons_zero, List.set_cons_succ]
      refine wpAnyH_ready (rs := [4, 8]) (by kernel_rfl) (by simp) ?_
      refine ready_cons rfl (fun KK hKK => ?_) (ready_cons rfl (fun KK hKK => ?_) AllReadyH.nil)
      · skip
        refine ⟨?_⟩
        have cc := cT.out w4 fV cV hS hF hC
        go_simp
        refine cc.mono ?_
        rintro e w5 ⟨v3, rfl, hv3, hbT⟩
        obtain ⟨ra2, rc2, ka2, kc2, sa2, sc2, rfl, ht2⟩ := hv3.form
        have htv := ht2.value
        have hSw5 : Below w3.heap.size w3 w5 := hS.trans (hbT.mono hS.size)
        clear cc ht2 hv3
        refine hKK.out _ _ hSw5 (fun hS => ?_)
        clear hKK KK
        try simp only [Act.put, List.getElem_toArray, List.getElem_cons_zero, List.getElem_cons_succ, List.setIfInBounds_toArray, List.set_cons_zero, List.set_cons_succ]
        refine wpAnyH_take (i := 5) (v := .tuple #[.agg #[.int .i64 T.kind, .int .i64 T.n, .string T.name, .slice ra2 T.r.length rc2, .slice ka2 T.kids.length kc2, .slice sa2 T.sys.length sc2], .int .i64 er]) rfl (by kernel_rfl) (by kernel_rfl) (by kernel_rfl) (fun _ _ _ h => h) (Or.inl ⟨by rfl, fun w hS => by go_simp⟩) hS ?_
        try simp only [Act.put, List.getElem_toArray, List.getElem_cons_zero, List.getElem_cons_succ, List.setIfInBounds_toArray, List.set_cons_zero, List.set_cons_succ]
        refine wpAnyH_take (i := 6) (v := .agg #[.int .i64 T.kind, .int .i64 T.n, .string T.name, .slice ra2 T.r.length rc2, .slice ka2 T.kids.length kc2, .slice sa2 T.sys.length sc2]) rfl (by kernel_rfl) (by kernel_rfl) (by kernel_rfl) (fun _ _ _ h => h) (Or.inl ⟨by rfl, fun w hS => by go_simp⟩) hS ?_
        try simp only [Act.put, List.getElem_toArray, List.getElem_cons_zero, List.getElem_cons_succ, List.setIfInBounds_toArray, List.set_cons_zero, List.set_cons_succ]
        refine wpAnyH_take (i := 7) (v := .int .i64 er) rfl (by kernel_rfl) (by kernel_rfl) (by kernel_rfl) (fun _ _ _ h => h) (Or.inl ⟨by rfl, fun w hS => by go_simp⟩) hS ?_
        try simp only [Act.put, List.getElem_toArray, List.getElem_cons_zero, List.getElem_cons_succ, List.setIfInBounds_toArray, List.set_cons_zero, List.set_cons_succ]
        refine wpAnyH_ready (rs := [8]) (by kernel_rfl) (by simp) ?_
        refine ready_cons rfl (fun KK hKK => ?_) AllReadyH.nil
        obtain ⟨w6, hw6⟩ : ∃ W, W = w5.alloc (.cells #[.int .i64 0, .int .i64 0, .string ⟨#[]⟩, .slice none 0 0, .slice none 0 0, .slice none 0 0] 26) := ⟨_, rfl⟩
        have bw6 : Below w5.heap.size w5 w6 := by rw [hw6]; exact belowA _ _
        have sw6 : w6.heap.size = w5.heap.size + 1 := by rw [hw6]; simp
        have hZ : Six w6 w5.heap.size (.int .i64 0) (.int .i64 0) (.string ⟨#[]⟩) (.slice none 0 0) (.slice none 0 0) (.slice none 0 0) := ⟨by rw [hw6]; exact heapNew _ _⟩
        have hSw6 : Below w3.heap.size w3 w6 := hS.trans (bw6.mono hS.size)
        have Hw6 : Hid (_ = _) := hw6
        clear hw6
        refine ⟨?_⟩
        go_simp
        rw [← Hw6.out]
        refine hKK.out _ _ hSw6 (fun hS => ?_)
        clear hKK KK
        try simp only [Act.put, List.getElem_toArray, List.getElem_cons_zero, List.getElem_cons_succ, List.setIfInBounds_toArray, List.set_cons_zero, List.set_cons_succ]
        have hge : w3.heap.size ≤ w5.heap.size := hSw5.size
        have zz2 := hZ.set6 (.int .i64 T.kind) (.int .i64 T.n) (.string T.name) (.slice ra2 T.r.length rc2) (.slice ka2 T.kids.length kc2) (.slice sa2 T.sys.length sc2)
        obtain ⟨o0, o1, o2, o3, o4, o5, ff⟩ := hZ.cells
        have f0 := ff 0
        have f1 := ff 1
        have f2 := ff 2
        have f3 := ff 3
        have f4 := ff 4
        have f5 := ff 5
        obtain ⟨w9, hwz⟩ : ∃ W, W = (((((w6.setCell ⟨w5.heap.size, 0, none⟩ (.int .i64 T.kind)).setCell ⟨w5.heap.size, 1, none⟩ (.int .i64 T.n)).setCell ⟨w5.heap.size, 2, none⟩ (.string T.name)).setCell ⟨w5.heap.size, 3, none⟩ (.slice ra2 T.r.length rc2)).setCell ⟨w5.heap.size, 4, none⟩ (.slice ka2 T.kids.length kc2)).setCell ⟨w5.heap.size, 5, none⟩ (.slice sa2 T.sys.length sc2) := ⟨_, rfl⟩
        rw [← hwz] at zz2
        have kz : Kn (fun q => q ≠ w5.heap.size) w6 w9 := by rw [hwz]; exact kn_set6 _ _ _ _ _ _ _ _
        have HTm : Hid (TmIn Tt w9 T (.agg #[.int .i64 T.kind, .int .i64 T.n, .string T.name, .slice ra2 T.r.length rc2, .slice ka2 T.kids.length kc2, .slice sa2 T.sys.length sc2])) := htv.keep (Nat.le_trans bw6.size kz.size) (fun _ _ => trivial) (fun q hq hs => (kz.block q (by have := hq.lt; omega) (by have := bw6.size; omega)).trans (bw6.block q hs))
        have hS5 : Below w3.heap.size w3 w9 := hS.trans (kz.below (fun q hq => by omega) hS.size)
        have Hwz : Hid (_ = _) := hwz
        clear hwz ff kz htv
        refine wpAnyH_ready (rs := [9]) (by kernel_rfl) (by simp) ?_
        refine ready_cons rfl (fun KK hKK => ?_) AllReadyH.nil
        refine ⟨?_⟩
        go_simp
        rw [← Hwz.out]
        refine hKK.out _ _ hS5 (fun hS => ?_)
        clear hKK KK
        try simp only [Act.put, List.getElem_toArray, List.getElem_cons_zero, List.getElem_cons_succ, List.setIfInBounds_toArray, List.set_cons_zero, List.set_cons_succ]
        refine wpAnyH_take (i := 10) (v := .int .i64 er) rfl (by kernel_rfl) (by kernel_rfl) (by kernel_rfl) (fun _ _ _ h => h) (Or.inl ⟨by rfl, fun w hS => by go_simp⟩) hS ?_
        try simp only [Act.put, List.getElem_toArray, List.getElem_cons_zero, List.getElem_cons_succ, List.setIfInBounds_toArray, List.set_cons_zero, List.set_cons_succ]
        refine wpAnyH_done (by kernel_rfl) ?_ _
        go_wp2_with fail
        go_meet
        exact ⟨_, _, _, _, _, _, _, rfl, rfl, zz2, HTm.out, hS, hge⟩
      · skip
        obtain ⟨w5, hw5⟩ : ∃ W, W = w4.alloc (.cells #[.int .i64 0, .int .i64 0, .string ⟨#[]⟩, .slice none 0 0, .slice none 0 0, .slice none 0 0] 26) := ⟨_, rfl⟩
        have bw5 : Below w4.heap.size w4 w5 := by rw [hw5]; exact belowA _ _
        have sw5 : w5.heap.size = w4.heap.size + 1 := by rw [hw5]; simp
        have hZ : Six w5 w4.heap.size (.int .i64 0) (.int .i64 0) (.string ⟨#[]⟩) (.slice none 0 0) (.slice none 0 0) (.slice none 0 0) := ⟨by rw [hw5]; exact heapNew _ _⟩
        have hSw5 : Below w3.heap.size w3 w5 := hS.trans (bw5.mono hS.size)
        have Hw5 : Hid (_ = _) := hw5
        clear hw5
        refine ⟨?_⟩
        go_simp
        rw [← Hw5.out]
        refine hKK.out _ _ hSw5 (fun hS => ?_)
        clear hKK KK
        try simp only [Act.put, List.getElem_toArray, List.getElem_cons_zero, List.getElem_cons_succ, List.setIfInBounds_toArray, List.set_cons_zero, List.set_cons_succ]
        have hF := hF.blw bw5
        have hC := hC.blw bw5
        refine wpAnyH_ready (rs := [4]) (by kernel_rfl) (by simp) ?_
        refine ready_cons rfl (fun KK hKK => ?_) AllReadyH.nil
        refine ⟨?_⟩
        have cc := cT.out w5 fV cV hS hF hC
        go_simp
        refine cc.mono ?_
        rintro e w6 ⟨v3, rfl, hv3, hbT⟩
        obtain ⟨ra2, rc2, ka2, kc2, sa2, sc2, rfl, ht2⟩ := hv3.form
        have htv := ht2.value
        have hSw6 : Below w3.heap.size w3 w6 := hS.trans (hbT.mono hS.size)
        clear cc ht2 hv3
        refine hKK.out _ _ hSw6 (fun hS => ?_)
        clear hKK KK
        try simp only [Act.put, List.getElem_toArray, List.getElem_cons_zero, List.getElem_cons_succ, List.setIfInBounds_toArray, List.set_cons_zero, List.set_cons_succ]
        refine wpAnyH_take (i := 5) (v := .tuple #[.agg #[.int .i64 T.kind, .int .i64 T.n, .string T.name, .slice ra2 T.r.length rc2, .slice ka2 T.kids.length kc2, .slice sa2 T.sys.length sc2], .int .i64 er]) rfl (by kernel_rfl) (by kernel_rfl) (by kernel_rfl) (fun _ _ _ h => h) (Or.inl ⟨by rfl, fun w hS => by go_simp⟩) hS ?_
        try simp only [Act.put, List.getElem_toArray, List.getElem_cons_zero, List.getElem_cons_succ, List.setIfInBounds_toArray, List.set_cons_zero, List.set_cons_succ]
        refine wpAnyH_take (i := 6) (v := .agg #[.int .i64 T.kind, .int .i64 T.n, .string T.name, .slice ra2 T.r.length rc2, .slice ka2 T.kids.length kc2, .slice sa2 T.sys.length sc2]) rfl (by kernel_rfl) (by kernel_rfl) (by kernel_rfl) (fun _ _ _ h => h) (Or.inl ⟨by rfl, fun w hS => by go_simp⟩) hS ?_
        try simp only [Act.put, List.getElem_toArray, List.getElem_cons_zero, List.getElem_cons_succ, List.setIfInBounds_toArray, List.set_cons_zero, List.set_cons_succ]
        refine wpAnyH_take (i := 7) (v := .int .i64 er) rfl (by kernel_rfl) (by kernel_rfl) (by kernel_rfl) (fun _ _ _ h => h) (Or.inl ⟨by rfl, fun w hS => by go_simp⟩) hS ?_
        try simp only [Act.put, List.getElem_toArray, List.getElem_cons_zero, List.getElem_cons_succ, List.setIfInBounds_toArray, List.set_cons_zero, List.set_cons_succ]
        have hZ := hZ.blw hbT
        have hge : w3.heap.size ≤ w4.heap.size := hSw4.size
        have zz2 := hZ.set6 (.int .i64 T.kind) (.int .i64 T.n) (.string T.name) (.slice ra2 T.r.length rc2) (.slice ka2 T.kids.length kc2) (.slice sa2 T.sys.length sc2)
        obtain ⟨o0, o1, o2, o3, o4, o5, ff⟩ := hZ.cells
        have f0 := ff 0
        have f1 := ff 1
        have f2 := ff 2
        have f3 := ff 3
        have f4 := ff 4
        have f5 := ff 5
        obtain ⟨w9, hwz⟩ : ∃ W, W = (((((w6.setCell ⟨w4.heap.size, 0, none⟩ (.int .i64 T.kind)).setCell ⟨w4.heap.size, 1, none⟩ (.int .i64 T.n)).setCell ⟨w4.heap.size, 2, none⟩ (.string T.name)).setCell ⟨w4.heap.size, 3, none⟩ (.slice ra2 T.r.length rc2)).setCell ⟨w4.heap.size, 4, none⟩ (.slice ka2 T.kids.length kc2)).setCell ⟨w4.heap.size, 5, none⟩ (.slice sa2 T.sys.length sc2) := ⟨_, rfl⟩
        rw [← hwz] at zz2
        have kz : Kn (fun q => q ≠ w4.heap.size) w6 w9 := by rw [hwz]; exact kn_set6 _ _ _ _ _ _ _ _
        have HTm : Hid (TmIn Tt w9 T (.agg #[.int .i64 T.kind, .int .i64 T.n, .string T.name, .slice ra2 T.r.length rc2, .slice ka2 T.kids.length kc2, .slice sa2 T.sys.length sc2])) := htv.keep kz.size (fun _ _ => trivial) (fun q hq hs => kz.block q (by have := hq.1; omega) hs)
        have hS5 : Below w3.heap.size w3 w9 := hS.trans (kz.below (fun q hq => by omega) hS.size)
        have Hwz : Hid (_ = _) := hwz
        clear hwz ff kz htv
        refine wpAnyH_ready (rs := [9]) (by kernel_rfl) (by simp) ?_
        refine ready_cons rfl (fun KK hKK => ?_) AllReadyH.nil
        refine ⟨?_⟩
        go_simp
        rw [← Hwz.out]
        refine hKK.out _ _ hS5 (fun hS => ?_)
        clear hKK KK
        try simp only [Act.put, List.getElem_toArray, List.getElem_cons_zero, List.getElem_cons_succ, List.setIfInBounds_toArray, List.set_cons_zero, List.set_cons_succ]
        refine wpAnyH_take (i := 10) (v := .int .i64 er) rfl (by kernel_rfl) (by kernel_rfl) (by kernel_rfl) (fun _ _ _ h => h) (Or.inl ⟨by rfl, fun w hS => by go_simp⟩) hS ?_
        try simp only [Act.put, List.getElem_toArray, List.getElem_cons_zero, List.getElem_cons_succ, List.setIfInBounds_toArray, List.set_cons_zero, List.set_cons_succ]
        refine wpAnyH_done (by kernel_rfl) ?_ _
        go_wp2_with fail
        go_meet
        exact ⟨_, _, _, _, _, _, _, rfl, rfl, zz2, HTm.out, hS, hge⟩
    · skip
      obtain ⟨w4, hw4⟩ : ∃ W, W = wd.alloc (.cells #[.int .i64 0, .int .i64 0, .string ⟨#[]⟩, .slice none 0 0, .slice none 0 0, .slice none 0 0] 26) := ⟨_, rfl⟩
      have bw4 : Below wd.heap.size wd w4 := by rw [hw4]; exact belowA _ _
      have sw4 : w4.heap.size = wd.heap.size + 1 := by rw [hw4]; simp
      have hZ : Six w4 wd.heap.size (.int .i64 0) (.int .i64 0) (.string ⟨#[]⟩) (.slice none 0 0) (.slice none 0 0) (.slice none 0 0) := ⟨by rw [hw4]; exact heapNew _ _⟩
      have hSw4 : Below w3.heap.size w3 w4 := hS.trans (bw4.mono hS.size)
      have Hw4 : Hid (_ = _) := hw4
      clear hw4
      refine ⟨?_⟩
      go_simp
      rw [← Hw4.out]
      refine hKK.out _ _ hSw4 (fun hS => ?_)
      clear hKK KK
      try simp only [Act.put, List.getElem_toArray, List.getElem_cons_zero, List.getElem_cons_succ, List.setIfInBounds_toArray, List.set_cons_zero, List.set_cons_succ]
      refine wpAnyH_ready (rs := [2]) (by kernel_rfl) (by simp) ?_
      refine ready_cons rfl (fun KK hKK => ?_) AllReadyH.nil
      refine ⟨?_⟩
      have cc := cP.out w4 hS
      go_simp
      refine cc.mono ?_
      rintro e w5 ⟨fV, cV, rfl, hF, hC, hbP⟩
      have hSw5 : Below w3.heap.size w3 w5 := hS.trans (hbP.mono hS.size)
      clear cc
      refine hKK.out _ _ hSw5 (fun hS => ?_)
      clear hKK KK
      try simp only [Act.put, List.getElem_toArray, List.getElem_cons_zero, List.getElem_cons_succ, List.setIfInBounds_toArray, List.set_cons_zero, List.set_cons_succ]
      have hZ := hZ.blw hbP
      refine wpAnyH_ready (rs := [4]) (by kernel_rfl) (by simp) ?_
      refine ready_cons rfl (fun KK hKK => ?_) AllReadyH.nil
      refine ⟨?_⟩
      have cc := cT.out w5 fV cV hS hF hC
      go_simp
      refine cc.mono ?_
      rintro e w6 ⟨v3, rfl, hv3, hbT⟩
      obtain ⟨ra2, rc2, ka2, kc2, sa2, sc2, rfl, ht2⟩ := hv3.form
      have htv := ht2.value
      have hSw6 : Below w3.heap.size w3 w6 := hS.trans (hbT.mono hS.size)
      clear cc ht2 hv3
      refine hKK.out _ _ hSw6 (fun hS => ?_)
      clear hKK KK
      try simp only [Act.put, List.getElem_toArray, List.getElem_cons_zero, List.getElem_cons_succ, List.setIfInBounds_toArray, List.set_cons_zero, List.set_cons_succ]
      refine wpAnyH_take (i := 5) (v := .tuple #[.agg #[.int .i64 T.kind, .int .i64 T.n, .string T.name, .slice ra2 T.r.length rc2, .slice ka2 T.kids.length kc2, .slice sa2 T.sys.length sc2], .int .i64 er]) rfl (by kernel_rfl) (by kernel_rfl) (by kernel_rfl) (fun _ _ _ h => h) (Or.inl ⟨by rfl, fun w hS => by go_simp⟩) hS ?_
      try simp only [Act.put, List.getElem_toArray, List.getElem_cons_zero, List.getElem_cons_succ, List.setIfInBounds_toArray, List.set_cons_zero, List.set_cons_succ]
      refine wpAnyH_take (i := 6) (v := .agg #[.int .i64 T.kind, .int .i64 T.n, .string T.name, .slice ra2 T.r.length rc2, .slice ka2 T.kids.length kc2, .slice sa2 T.sys.length sc2]) rfl (by kernel_rfl) (by kernel_rfl) (by kernel_rfl) (fun _ _ _ h => h) (Or.inl ⟨by rfl, fun w hS => by go_simp⟩) hS ?_
      try simp only [Act.put, List.getElem_toArray, List.getElem_cons_zero, List.getElem_cons_succ, List.setIfInBounds_toArray, List.set_cons_zero, List.set_cons_succ]
      refine wpAnyH_take (i := 7) (v := .int .i64 er) rfl (by kernel_rfl) (by kernel_rfl) (by kernel_rfl) (fun _ _ _ h => h) (Or.inl ⟨by rfl, fun w hS => by go_simp⟩) hS ?_
      try simp only [Act.put, List.getElem_toArray, List.getElem_cons_zero, List.getElem_cons_succ, List.setIfInBounds_toArray, List.set_cons_zero, List.set_cons_succ]
      have hZ := hZ.blw hbT
      have hge : w3.heap.size ≤ wd.heap.size := hbd.size
      have zz2 := hZ.set6 (.int .i64 T.kind) (.int .i64 T.n) (.string T.name) (.slice ra2 T.r.length rc2) (.slice ka2 T.kids.length kc2) (.slice sa2 T.sys.length sc2)
      obtain ⟨o0, o1, o2, o3, o4, o5, ff⟩ := hZ.cells
      have f0 := ff 0
      have f1 := ff 1
      have f2 := ff 2
      have f3 := ff 3
      have f4 := ff 4
      have f5 := ff 5
      obtain ⟨w9, hwz⟩ : ∃ W, W = (((((w6.setCell ⟨wd.heap.size, 0, none⟩ (.int .i64 T.kind)).setCell ⟨wd.heap.size, 1, none⟩ (.int .i64 T.n)).setCell ⟨wd.heap.size, 2, none⟩ (.string T.name)).setCell ⟨wd.heap.size, 3, none⟩ (.slice ra2 T.r.length rc2)).setCell ⟨wd.heap.size, 4, none⟩ (.slice ka2 T.kids.length kc2)).setCell ⟨wd.heap.size, 5, none⟩ (.slice sa2 T.sys.length sc2) := ⟨_, rfl⟩
      rw [← hwz] at zz2
      have kz : Kn (fun q => q ≠ wd.heap.size) w6 w9 := by rw [hwz]; exact kn_set6 _ _ _ _ _ _ _ _
      have HTm : Hid (TmIn Tt w9 T (.agg #[.int .i64 T.kind, .int .i64 T.n, .string T.name, .slice ra2 T.r.length rc2, .slice ka2 T.kids.length kc2, .slice sa2 T.sys.length sc2])) := htv.keep kz.size (fun _ _ => trivial) (fun q hq hs => kz.block q (by have := hq.1; have := hbP.size; omega) hs)
      have hS5 : Below w3.heap.size w3 w9 := hS.trans (kz.below (fun q hq => by omega) hS.size)
      have Hwz : Hid (_ = _) := hwz
      clear hwz ff kz htv
      refine wpAnyH_ready (rs := [9]) (by kernel_rfl) (by simp) ?_
      refine ready_cons rfl (fun KK hKK => ?_) AllReadyH.nil
      refine ⟨?_⟩
      go_simp
      rw [← Hwz.out]
      refine hKK.out _ _ hS5 (fun hS => ?_)
      clear hKK KK
      try simp only [Act.put, List.getElem_toArray, List.getElem_cons_zero, List.getElem_cons_succ, List.setIfInBounds_toArray, List.set_cons_zero, List.set_cons_succ]
      refine wpAnyH_take (i := 10) (v := .int .i64 er) rfl (by kernel_rfl) (by kernel_rfl) (by kernel_rfl) (fun _ _ _ h => h) (Or.inl ⟨by rfl, fun w hS => by go_simp⟩) hS ?_
      try simp only [Act.put, List.getElem_toArray, List.getElem_cons_zero, List.getElem_cons_succ, List.setIfInBounds_toArray, List.set_cons_zero, List.set_cons_succ]
      refine wpAnyH_done (by kernel_rfl) ?_ _
      go_wp2_with fail
      go_meet
      exact ⟨_, _, _, _, _, _, _, rfl, rfl, zz2, HTm.out, hS, hge⟩
  case rest =>
  obtain ⟨ob, ra2, rc2, ka2, kc2, sa2, sc2, rfl, rfl, hO, hTv, hS4, hge⟩ := hcut
  obtain ⟨w4, hw4⟩ : ∃ V, V = wc := ⟨_, rfl⟩
  subst hw4
  have b14 : Below w1.heap.size w1 w4 := b13.trans (hS4.mono b13.size)
  clear cP cT HR3 HC3 HT3 hS1
  by_cases hz : er = 0
  rotate_left
  · have Hf : Hid (takE i r t = er ∧ takT i r t = noT) := ⟨by rw [HE.out.1, if_neg hz], by rw [HE.out.2, if_neg hz]⟩
    have hz1 : (er == 0) = false := by simpa using hz
    clear HE
    have zz := HZ.out w4 b14
    have zz2 := zz.set6 (.int .i64 0) (.int .i64 0) (.string ⟨#[]⟩) (.slice none 0 0) (.slice none 0 0) (.slice none 0 0)
    obtain ⟨o0, o1, o2, o3, o4, o5, ff⟩ := zz.cells
    have f0 := ff 0
    have f1 := ff 1
    have f2 := ff 2
    have f3 := ff 3
    have f4 := ff 4
    have f5 := ff 5
    obtain ⟨h0, h1, h2, h3, h4, h5, _⟩ := zz2.cells
    obtain ⟨wz, hwz⟩ : ∃ W, W = (((((w4.setCell ⟨X + 1, 0, none⟩ (.int .i64 0)).setCell ⟨X + 1, 1, none⟩ (.int .i64 0)).setCell ⟨X + 1, 2, none⟩ (.string ⟨#[]⟩)).setCell ⟨X + 1, 3, none⟩ (.slice none 0 0)).setCell ⟨X + 1, 4, none⟩ (.slice none 0 0)).setCell ⟨X + 1, 5, none⟩ (.slice none 0 0) := ⟨_, rfl⟩
    rw [← hwz] at h0 h1 h2 h3 h4 h5
    have kz : Kn (fun q => q ≠ X + 1) w4 wz := by rw [hwz]; exact kn_set6 _ _ _ _ _ _ _ _
    have bz : Below X w wz := (HB.out w4 b14).trans (kz.below (fun q hq => by omega) (by have := (HB.out w4 b14).size; have := HXs.out; omega))
    have Hwz : Hid (_ = _) := hwz
    clear hwz ff zz zz2 kz
    go_wp2_with fail
    rw [← Hwz.out]
    exact bodyPost_ret (v := .tuple #[.agg #[.int .i64 0, .int .i64 0, .string ⟨#[]⟩, .slice none 0 0, .slice none 0 0, .slice none 0 0], .int .i64 (er)]) (by simp only [results, Tryz.results13]; simp [go_sem, h0, h1, h2, h3, h4, h5]) rfl ⟨_, by rw [Hf.out.1], by rw [Hf.out.2]; exact noT_in _ _, bz⟩
  subst hz
  rw [if_pos rfl, if_pos rfl] at HE
  have cP : Hid (∀ V, Below w4.heap.size w4 V → Calls Tryz.prog 41 #[.int .i64 i] V fun e w' => ∃ fV cV, e = .returned (.agg #[fV, cV]) ∧ RowC (dropOp i).fn fV w' ∧ RowC (dropOp i).fc cV w' ∧ Below V.heap.size V w') := fun V q => dropping_any i V hok
  have cT : Hid (∀ V fV cV, Below w4.heap.size w4 V → RowC (dropOp i).fn fV V → RowC (dropOp i).fc cV V → Calls Tryz.prog 36 #[.agg #[fV, cV], .agg #[.int .i64 T.kind, .int .i64 T.n, .string T.name, .slice ra2 T.r.length rc2, .slice ka2 T.kids.length kc2, .slice sa2 T.sys.length sc2]] V fun e w' => ∃ v', e = .returned (.tuple #[v', .int .i64 (eT (dropOp i) T 0)]) ∧ TmIn (OkN V.heap.size w') w' (ansD (dropOp i) T) v' ∧ Below V.heap.size V w') := fun V fV cV q h1 h2 => dterm_any T _ V (hTv.blw q) h1 h2 hsm
  obtain ⟨er2, her⟩ : ∃ e, e = eT (dropOp i) T 0 := ⟨_, rfl⟩
  obtain ⟨T2, hT⟩ : ∃ T2, T2 = ansD (dropOp i) T := ⟨_, rfl⟩
  rw [← her, ← hT] at cT HE
  have HO : Hid (∀ V, Below w4.heap.size w4 V → Six V ob (.int .i64 T.kind) (.int .i64 T.n) (.string T.name) (.slice ra2 T.r.length rc2) (.slice ka2 T.kids.length kc2) (.slice sa2 T.sys.length sc2)) := fun V q => hO.blw q
  have hob := hO.lt
  have hobX : ob ≠ X + 1 := by have := b13.size; omega
  clear her hT
  go_upto_region 10 with fail
  refine wp_region_held_drew (S := fun V => Below X w V ∧ Six V ob (.int .i64 T.kind) (.int .i64 T.n) (.string T.name) (.slice ra2 T.r.length rc2) (.slice ka2 T.kids.length kc2) (.slice sa2 T.sys.length sc2)) (by kernel_rfl) ⟨(HB.out w4 b14).drew, ⟨hO.blk⟩⟩ (fun hS => ?_)
  obtain ⟨wd, hwd⟩ : ∃ V, V = w4.drew := ⟨_, rfl⟩
  have hbd : Below w4.heap.size w4 wd := by rw [hwd]; exact (Below.refl _ _).drew
  rw [← hwd] at hS ⊢
  clear hwd hO
  refine wpAnyH_take (i := 0) (v := .int .i64 i) rfl (by kernel_rfl) (by kernel_rfl) (by kernel_rfl) (fun _ _ _ h => h) (Or.inl ⟨by rfl, fun w hS => by go_simp⟩) hS ?_
  try simp only [Act.put, List.getElem_toArray, List.getElem_cons_zero, List.getElem_cons_succ, List.setIfInBounds_toArray, List.set_cons_zero, List.set_cons_succ]
  refine wpAnyH_take (i := 2) (v := .agg #[.int .i64 T.kind, .int .i64 T.n, .string T.name, .slice ra2 T.r.length rc2, .slice ka2 T.kids.length kc2, .slice sa2 T.sys.length sc2]) rfl (by kernel_rfl) (by kernel_rfl) (by kernel_rfl) (fun _ _ _ h => h) (Or.inl ⟨by rfl, fun w hS => by obtain ⟨y0, y1, y2, y3, y4, y5, _⟩ := hS.2.cells; go_simp⟩) hS ?_
  try simp only [Act.put, List.getElem_toArray, List.getElem_cons_zero, List.getElem_cons_succ, List.setIfInBounds_toArray, List.set_cons_zero, List.set_cons_succ]
  refine wpAnyH_ready (rs := [1]) (by kernel_rfl) (by simp) ?_
  refine ready_cons rfl (fun KK hKK => ?_) AllReadyH.nil
  refine ⟨?_⟩
  have cc := cP.out wd hbd
  go_simp
  refine cc.mono ?_
  rintro e w5 ⟨fV, cV, rfl, hF, hC, hbq⟩
  have hbd : Below w4.heap.size w4 w5 := hbd.trans (hbq.mono hbd.size)
  clear cc hbq
  refine hKK.out _ _ ⟨HB.out w5 (b14.trans (hbd.mono b14.size)), HO.out w5 hbd⟩ (fun hS => ?_)
  clear hKK KK
  try simp only [Act.put, List.getElem_toArray, List.getElem_cons_zero, List.getElem_cons_succ, List.setIfInBounds_toArray, List.set_cons_zero, List.set_cons_succ]
  refine wpAnyH_ready (rs := [3]) (by kernel_rfl) (by simp) ?_
  refine ready_cons rfl (fun KK hKK => ?_) AllReadyH.nil
  refine ⟨?_⟩
  have cc := cT.out w5 fV cV hbd hF hC
  go_simp
  refine cc.mono ?_
  rintro e w6 ⟨v3, rfl, hv3, hb3⟩
  obtain ⟨ra2b, rc2b, ka2b, kc2b, sa2b, sc2b, rfl, ht2⟩ := hv3.form
  have htv := ht2.value
  have hn3 := hbd.size
  have hn4 := b14.size
  have hbd : Below w4.heap.size w4 w6 := hbd.trans (hb3.mono hbd.size)
  clear cc ht2 hv3
  refine hKK.out _ _ ⟨HB.out w6 (b14.trans (hbd.mono b14.size)), HO.out w6 hbd⟩ (fun hS => ?_)
  clear hKK KK
  try simp only [Act.put, List.getElem_toArray, List.getElem_cons_zero, List.getElem_cons_succ, List.setIfInBounds_toArray, List.set_cons_zero, List.set_cons_succ]
  refine wpAnyH_take (i := 4) (v := .agg #[.int .i64 T2.kind, .int .i64 T2.n, .string T2.name, .slice ra2b T2.r.length rc2b, .slice ka2b T2.kids.length kc2b, .slice sa2b T2.sys.length sc2b]) rfl (by kernel_rfl) (by kernel_rfl) (by kernel_rfl) (fun _ _ _ h => h) (Or.inl ⟨by rfl, fun w hS => by go_simp⟩) hS ?_
  try simp only [Act.put, List.getElem_toArray, List.getElem_cons_zero, List.getElem_cons_succ, List.setIfInBounds_toArray, List.set_cons_zero, List.set_cons_succ]
  refine wpAnyH_take (i := 5) (v := .int .i64 er2) rfl (by kernel_rfl) (by kernel_rfl) (by kernel_rfl) (fun _ _ _ h => h) (Or.inl ⟨by rfl, fun w hS => by go_simp⟩) hS ?_
  try simp only [Act.put, List.getElem_toArray, List.getElem_cons_zero, List.getElem_cons_succ, List.setIfInBounds_toArray, List.set_cons_zero, List.set_cons_succ]
  have zz := HZ.out w6 (b14.trans (hbd.mono b14.size))
  have zz2 := zz.set6 (.int .i64 T2.kind) (.int .i64 T2.n) (.string T2.name) (.slice ra2b T2.r.length rc2b) (.slice ka2b T2.kids.length kc2b) (.slice sa2b T2.sys.length sc2b)
  obtain ⟨o0, o1, o2, o3, o4, o5, ff⟩ := zz.cells
  have f0 := ff 0
  have f1 := ff 1
  have f2 := ff 2
  have f3 := ff 3
  have f4 := ff 4
  have f5 := ff 5
  obtain ⟨w7, hwz⟩ : ∃ W, W = (((((w6.setCell ⟨X + 1, 0, none⟩ (.int .i64 T2.kind)).setCell ⟨X + 1, 1, none⟩ (.int .i64 T2.n)).setCell ⟨X + 1, 2, none⟩ (.string T2.name)).setCell ⟨X + 1, 3, none⟩ (.slice ra2b T2.r.length rc2b)).setCell ⟨X + 1, 4, none⟩ (.slice ka2b T2.kids.length kc2b)).setCell ⟨X + 1, 5, none⟩ (.slice sa2b T2.sys.length sc2b) := ⟨_, rfl⟩
  rw [← hwz] at zz2
  have kz : Kn (fun q => q ≠ X + 1) w6 w7 := by rw [hwz]; exact kn_set6 _ _ _ _ _ _ _ _
  have HTm : Hid (TmIn (OkN X w7) w7 T2 (.agg #[.int .i64 T2.kind, .int .i64 T2.n, .string T2.name, .slice ra2b T2.r.length rc2b, .slice ka2b T2.kids.length kc2b, .slice sa2b T2.sys.length sc2b])) := keepD htv kz (by omega) (by omega)
  have hS5 : Below X w w7 ∧ Six w7 ob (.int .i64 T.kind) (.int .i64 T.n) (.string T.name) (.slice ra2 T.r.length rc2) (.slice ka2 T.kids.length kc2) (.slice sa2 T.sys.length sc2) := ⟨(HB.out w6 (b14.trans (hbd.mono b14.size))).trans (kz.below (fun q hq => by omega) (by have := (HB.out w6 (b14.trans (hbd.mono b14.size))).size; have := HXs.out; omega)), (HO.out w6 hbd).kn kz hobX⟩
  have Hwz : Hid (_ = _) := hwz
  clear hwz ff zz kz htv
  refine wpAnyH_ready (rs := [6]) (by kernel_rfl) (by simp) ?_
  refine ready_cons rfl (fun KK hKK => ?_) AllReadyH.nil
  refine ⟨?_⟩
  go_simp
  rw [← Hwz.out]
  refine hKK.out _ _ hS5 (fun hS => ?_)
  clear hKK KK
  try simp only [Act.put, List.getElem_toArray, List.getElem_cons_zero, List.getElem_cons_succ, List.setIfInBounds_toArray, List.set_cons_zero, List.set_cons_succ]
  refine wpAnyH_take (i := 7) (v := .int .i64 er2) rfl (by kernel_rfl) (by kernel_rfl) (by kernel_rfl) (fun _ _ _ h => h) (Or.inl ⟨by rfl, fun w hS => by go_simp⟩) hS ?_
  try simp only [Act.put, List.getElem_toArray, List.getElem_cons_zero, List.getElem_cons_succ, List.setIfInBounds_toArray, List.set_cons_zero, List.set_cons_succ]
  obtain ⟨h0, h1, h2, h3, h4, h5, _⟩ := zz2.cells
  refine wpAnyH_done (by kernel_rfl) ?_ _
  go_wp2_with fail
  exact bodyPost_ret (v := .tuple #[.agg #[.int .i64 T2.kind, .int .i64 T2.n, .string T2.name, .slice ra2b T2.r.length rc2b, .slice ka2b T2.kids.length kc2b, .slice sa2b T2.sys.length sc2b], .int .i64 (er2)]) (by simp only [results, Tryz.results13]; simp [go_sem, h0, h1, h2, h3, h4, h5]) rfl ⟨_, by rw [HE.out.1], by rw [HE.out.2]; exact HTm.out, hS.1⟩
end Go.Proofs.YtpmmbfngogpinaaGreat

namespace Go.Proofs.YtpmmbfngogpinaaGreat
open Go.RowKit
set_option linter.unusedVariables false
set_option linter.unusedSimpArgs false

theorem mt_top' {c : C} (h : rightC c = true) (hk : okC c = true) : mtR [c] [top0] = ([c], 0) := by
  have e : meetC c top0 = c := by
    have h1 := fright_bits h
    refine c_bits (fun k => ?_) (fun k => ?_)
    · rw [(meet_bits c top0 k).1]; rw [← (h1 k).1]; simp [top0]
    · rw [(meet_bits c top0 k).2]; rw [← (h1 k).2]; simp [top0]
  have e2 : calmC (pairsC [c] [top0]) = [c] := by simp [pairsC, calmC, e, hk]
  unfold mtR; rw [e2]; exact leastF_one h
theorem mt_nil' (l : List C) : mtR l [] = ([], 0) := by
  have e2 : calmC (pairsC l []) = [] := by simp [pairsC, calmC]
  unfold mtR; rw [e2]; decide
/-- Least of least and more. -/
theorem least_more {A B : List C} (hA : A.all rightC = true) (hB : B.all rightC = true) (h0 : (leastF A).2 = 0) : leastF ((leastF A).1 ++ B) = leastF (A ++ B) := by
  refine leastF_ext (by rw [List.all_append, leastF_all, hB]; rfl) (by rw [List.all_append, hA, hB]; rfl) (fun c _ => ?_)
  rw [dn_append, dn_append, leastF_dn h0]
theorem all_mem {l : List C} (h : ∀ c ∈ l, rightC c = true) : l.all rightC = true := List.all_eq_true.2 h
theorem rst_app (f g : List C) (p : C) : rstL (f ++ g) p = rstL f p ++ rstL g p := by simp [rstL]
theorem rst_right' {f : List C} (h : ∀ c ∈ f, rightC c = true) (p : C) : ∀ c ∈ rstL f p, rightC c = true := fun x hx => by
  obtain ⟨a, ha, _, rfl⟩ := mem_rst.1 hx
  exact cut_right (h a ha)

/-! ### one -/
theorem cut_one {c : C} {i : Nat} (hi : i < 24) (hr : rightC c = true) (hk : okC c = true) (h : c.2.val.testBit i = false) : cutC (posB i) c = outC c (i : Int) := by
  have h1 := fright_bits hr
  refine c_bits (fun k => ?_) (fun k => ?_)
  · rw [(cut_bits _ c k).1, (out_bits c i k hi).1, (posB_bits i k hi).1]
    have := (h1 k).1
    by_cases hik : i = k
    · subst hik; simp_all
    · simp_all
  · rw [(cut_bits _ c k).2, (out_bits c i k hi).2, (posB_bits i k hi).2]
    have := (h1 k).2
    by_cases hik : i = k
    · subst hik; simp_all
    · simp_all
theorem with_one {c : C} {i : Nat} (hi : i < 24) (hk : okC c = true) : withC (posB i) c = !c.2.val.testBit i := by
  unfold withC
  rw [Bool.eq_iff_iff, meet_ok, Bool.not_eq_true']
  constructor
  · intro h
    have := h i hi
    rw [(posB_bits i i hi).1, (posB_bits i i hi).2] at this
    simpa using this
  · intro h k hk24
    have h2 := okC_iff.1 hk k hk24
    rw [(posB_bits i k hi).1, (posB_bits i k hi).2]
    by_cases hik : i = k
    · subst hik; simp [h]
    · simp [hik]; simpa using h2
theorem rst1_one {c : C} {i : Nat} (hi : i < 24) (hr : rightC c = true) (hk : okC c = true) : rstL [c] (posB i) = if c.2.val.testBit i then [] else [outC c (i : Int)] := by
  unfold rstL
  rw [List.filter_cons, with_one hi hk]
  cases h : c.2.val.testBit i
  · simp [cut_one hi hr hk h]
  · simp
theorem prt_one {c : C} {i : Nat} (hi : i < 24) (hk : okC c = true) : prtA c (i : Int) [top0] ([], 0) = (if c.2.val.testBit i then [] else [outC c (i : Int)], 0) := by
  have h0 := okC_iff.1 hk i hi
  have hB1 : hasB c.1.val (i : Int) = c.1.val.testBit i := hasB_nat hi
  have hB2 : hasB c.2.val (i : Int) = c.2.val.testBit i := hasB_nat hi
  unfold prtA
  rw [hB1, hB2]
  cases h1 : c.1.val.testBit i <;> cases h2 : c.2.val.testBit i
  · simp
  · simp [mt_nil']
  · simp [mt_top' (out_right c i) (out_ok hk)]
  · exact absurd ⟨h1, h2⟩ h0
theorem pts_one {i : Nat} (hi : i < 24) (f : List C) : (∀ c ∈ f, rightC c = true ∧ okC c = true) → f.length ≤ 64 → ptS f (i : Int) [top0] ([], 0) = leastF (rstL f (posB i)) := by
  induction f using snoc_ind with
  | nil => intro _ _; simp only [ptS, List.foldl_nil, rstL, List.filter_nil, List.map_nil]; decide
  | snoc f c ih =>
    intro h hl
    have hf : ∀ x ∈ f, rightC x = true ∧ okC x = true := fun x hx => h x (List.mem_append_left _ hx)
    obtain ⟨hr, hk⟩ := h c (by simp)
    have hl2 : f.length ≤ 64 := by simp at hl; omega
    have hA : (rstL f (posB i)).all rightC = true := all_mem (rst_right' (fun x hx => (hf x hx).1) _)
    have h0 : (leastF (rstL f (posB i))).2 = 0 := least_small hA (Nat.le_trans (rst_len f _) hl2)
    rw [ptS_snoc, ih hf hl2]
    have e := leastF_pair h0
    rw [e, stpA_some, prt_one hi hk, if_pos rfl, rst_app, rst1_one hi hr hk, least_more hA (all_mem (fun x hx => ?_)) h0]
    split at hx
    · cases hx
    · rw [List.mem_singleton.1 hx]; exact out_right c i
theorem put_one {i : Nat} (hi : i < 24) {f : List C} (hf : rightA f = true) : putRow ptA (i : Int) [top0] f 0 = rstA f (posB i) := by
  have hs : singleC (posB i) = true := singleC_iff.2 ⟨posB_right i, okC_iff.2 (fun k _ h => by rw [(posB_bits i k hi).1, (posB_bits i k hi).2] at h; simp at h)⟩
  have hR : rstA f (posB i) = leastF (rstL f (posB i)) := by unfold rstA; rw [hf, hs]; rfl
  have hall : ∀ c ∈ f, rightC c = true ∧ okC c = true := fun c hc => ⟨List.all_eq_true.1 (rightF_all (rightA_right hf)) c hc, rightA_ok hf c hc⟩
  have e0 : ((i : Int) + ((0 : Nat) : Int)) = (i : Int) := by omega
  unfold putRow
  rw [e0]
  cases hh : hasB (dimsN f) (i : Int)
  · rw [if_neg (by simp), hR]
    rw [hasB_nat hi, dimsN_bit] at hh
    have hno : ∀ c ∈ f, c.1.val.testBit i = false ∧ c.2.val.testBit i = false := fun c hc => by
      simp only [hi, decide_true, Bool.true_and] at hh
      have := List.any_eq_false.1 hh c hc
      simpa using this
    have e : rstL f (posB i) = f := by
      unfold rstL
      rw [List.filter_eq_self.2 (fun c hc => by rw [with_one hi (hall c hc).2, (hno c hc).2]; rfl)]
      conv => rhs; rw [← List.map_id f]
      refine List.map_congr_left (fun c hc => ?_)
      rw [cut_one hi (hall c hc).1 (hall c hc).2 (hno c hc).2]
      have h1 := fright_bits (hall c hc).1
      refine c_bits (fun k => ?_) (fun k => ?_)
      · rw [(out_bits c i k hi).1]
        have := (h1 k).1
        by_cases hik : i = k
        · subst hik; simp [(hno c hc).1]
        · simp_all
      · rw [(out_bits c i k hi).2]
        have := (h1 k).2
        by_cases hik : i = k
        · subst hik; simp [(hno c hc).2]
        · simp_all
    rw [e, rightF_eq (rightA_right hf)]
  · rw [if_pos rfl]
    have eL : liftFF [top0] 0 ((0 : Nat) : Int) = ([top0], 0) := by decide
    rw [eL, if_pos rfl]
    show ptA f (i : Int) [top0] = _
    have hd : isDimB (i : Int) = true := isDimB_nat hi
    have hq : rightF [top0] = true := by decide
    unfold ptA
    rw [hf, hd, hq]
    have e1 : (ofF [top0]).1 = [top0] := by decide
    have e2 : ofZ [top0] = ([], 0) := by decide
    rw [e1, e2, hR]
    exact pts_one hi f hall (rightA_len hf)

/-! ### nil -/
theorem cut_nil {c : C} {i : Nat} (hi : i < 24) (hr : rightC c = true) (hk : okC c = true) (h : c.1.val.testBit i = false) : cutC (negB i) c = outC c (i : Int) := by
  have h1 := fright_bits hr
  refine c_bits (fun k => ?_) (fun k => ?_)
  · rw [(cut_bits _ c k).1, (out_bits c i k hi).1, (negB_bits i k hi).1]
    have := (h1 k).1
    by_cases hik : i = k
    · subst hik; simp_all
    · simp_all
  · rw [(cut_bits _ c k).2, (out_bits c i k hi).2, (negB_bits i k hi).2]
    have := (h1 k).2
    by_cases hik : i = k
    · subst hik; simp_all
    · simp_all
theorem with_nil {c : C} {i : Nat} (hi : i < 24) (hk : okC c = true) : withC (negB i) c = !c.1.val.testBit i := by
  unfold withC
  rw [Bool.eq_iff_iff, meet_ok, Bool.not_eq_true']
  constructor
  · intro h
    have := h i hi
    rw [(negB_bits i i hi).1, (negB_bits i i hi).2] at this
    simpa using this
  · intro h k hk24
    have h2 := okC_iff.1 hk k hk24
    rw [(negB_bits i k hi).1, (negB_bits i k hi).2]
    by_cases hik : i = k
    · subst hik; simp [h]
    · simp [hik]; simpa using h2
theorem rst1_nil {c : C} {i : Nat} (hi : i < 24) (hr : rightC c = true) (hk : okC c = true) : rstL [c] (negB i) = if c.1.val.testBit i then [] else [outC c (i : Int)] := by
  unfold rstL
  rw [List.filter_cons, with_nil hi hk]
  cases h : c.1.val.testBit i
  · simp [cut_nil hi hr hk h]
  · simp
theorem prt_nil {c : C} {i : Nat} (hi : i < 24) (hk : okC c = true) : prtA c (i : Int) [] ([top0], 0) = (if c.1.val.testBit i then [] else [outC c (i : Int)], 0) := by
  have h0 := okC_iff.1 hk i hi
  have hB1 : hasB c.1.val (i : Int) = c.1.val.testBit i := hasB_nat hi
  have hB2 : hasB c.2.val (i : Int) = c.2.val.testBit i := hasB_nat hi
  unfold prtA
  rw [hB1, hB2]
  cases h1 : c.1.val.testBit i <;> cases h2 : c.2.val.testBit i
  · simp
  · simp [mt_top' (out_right c i) (out_ok hk)]
  · simp [mt_nil']
  · exact absurd ⟨h1, h2⟩ h0
theorem pts_nil {i : Nat} (hi : i < 24) (f : List C) : (∀ c ∈ f, rightC c = true ∧ okC c = true) → f.length ≤ 64 → ptS f (i : Int) [] ([top0], 0) = leastF (rstL f (negB i)) := by
  induction f using snoc_ind with
  | nil => intro _ _; simp only [ptS, List.foldl_nil, rstL, List.filter_nil, List.map_nil]; decide
  | snoc f c ih =>
    intro h hl
    have hf : ∀ x ∈ f, rightC x = true ∧ okC x = true := fun x hx => h x (List.mem_append_left _ hx)
    obtain ⟨hr, hk⟩ := h c (by simp)
    have hl2 : f.length ≤ 64 := by simp at hl; omega
    have hA : (rstL f (negB i)).all rightC = true := all_mem (rst_right' (fun x hx => (hf x hx).1) _)
    have h0 : (leastF (rstL f (negB i))).2 = 0 := least_small hA (Nat.le_trans (rst_len f _) hl2)
    rw [ptS_snoc, ih hf hl2]
    have e := leastF_pair h0
    rw [e, stpA_some, prt_nil hi hk, if_pos rfl, rst_app, rst1_nil hi hr hk, least_more hA (all_mem (fun x hx => ?_)) h0]
    split at hx
    · cases hx
    · rw [List.mem_singleton.1 hx]; exact out_right c i
theorem put_nil {i : Nat} (hi : i < 24) {f : List C} (hf : rightA f = true) : putRow ptA (i : Int) [] f 0 = rstA f (negB i) := by
  have hs : singleC (negB i) = true := singleC_iff.2 ⟨negB_right i, okC_iff.2 (fun k _ h => by rw [(negB_bits i k hi).1, (negB_bits i k hi).2] at h; simp at h)⟩
  have hR : rstA f (negB i) = leastF (rstL f (negB i)) := by unfold rstA; rw [hf, hs]; rfl
  have hall : ∀ c ∈ f, rightC c = true ∧ okC c = true := fun c hc => ⟨List.all_eq_true.1 (rightF_all (rightA_right hf)) c hc, rightA_ok hf c hc⟩
  have e0 : ((i : Int) + ((0 : Nat) : Int)) = (i : Int) := by omega
  unfold putRow
  rw [e0]
  cases hh : hasB (dimsN f) (i : Int)
  · rw [if_neg (by simp), hR]
    rw [hasB_nat hi, dimsN_bit] at hh
    have hno : ∀ c ∈ f, c.1.val.testBit i = false ∧ c.2.val.testBit i = false := fun c hc => by
      simp only [hi, decide_true, Bool.true_and] at hh
      have := List.any_eq_false.1 hh c hc
      simpa using this
    have e : rstL f (negB i) = f := by
      unfold rstL
      rw [List.filter_eq_self.2 (fun c hc => by rw [with_nil hi (hall c hc).2, (hno c hc).1]; rfl)]
      conv => rhs; rw [← List.map_id f]
      refine List.map_congr_left (fun c hc => ?_)
      rw [cut_nil hi (hall c hc).1 (hall c hc).2 (hno c hc).1]
      have h1 := fright_bits (hall c hc).1
      refine c_bits (fun k => ?_) (fun k => ?_)
      · rw [(out_bits c i k hi).1]
        have := (h1 k).1
        by_cases hik : i = k
        · subst hik; simp [(hno c hc).1]
        · simp_all
      · rw [(out_bits c i k hi).2]
        have := (h1 k).2
        by_cases hik : i = k
        · subst hik; simp [(hno c hc).2]
        · simp_all
    rw [e, rightF_eq (rightA_right hf)]
  · rw [if_pos rfl]
    have eL : liftFF [] 0 ((0 : Nat) : Int) = ([], 0) := by decide
    rw [eL, if_pos rfl]
    show ptA f (i : Int) [] = _
    have hd : isDimB (i : Int) = true := isDimB_nat hi
    have hq : rightF [] = true := by decide
    unfold ptA
    rw [hf, hd, hq]
    have e1 : (ofF []).1 = [] := by decide
    have e2 : ofZ [] = ([top0], 0) := by decide
    rw [e1, e2, hR]
    exact pts_nil hi f hall (rightA_len hf)

/-! ### one after another -/
def Rf (c : C) (f : List C) : List C := (rstA f c).1
/-! ### the faces of a term -/
/-- A step: 1 at a dimension, or 0. -/
structure DStp where
  i : Nat
  r : List C
  p : C
def DStp.ok (s : DStp) : Prop := s.i < 24 ∧ ((s.r = [top0] ∧ s.p = posB s.i) ∨ (s.r = [] ∧ s.p = negB s.i))
theorem DStp.put {s : DStp} (h : s.ok) {f : List C} (hf : rightA f = true) : (putRow ptA (s.i : Int) s.r f 0).1 = Rf s.p f := by
  obtain ⟨hi, ⟨hr, hp⟩ | ⟨hr, hp⟩⟩ := h
  · rw [hr, hp, put_one hi hf]; rfl
  · rw [hr, hp, put_nil hi hf]; rfl
/-! ### Under -/
/-! ### those that are kept -/
end Go.Proofs.YtpmmbfngogpinaaGreat

namespace Go.Proofs.YtpmmbfngogpinaaGreat
open Go.RowKit
set_option linter.unusedVariables false
set_option linter.unusedSimpArgs false

theorem cl_nil0 (w : World) : ClRow Tt w [] (.slice none 0 0) := ⟨none, 0, rfl, Nat.le_refl _, fun j c h => by simp at h⟩
theorem kd_nil0 (w : World) : KdT Tt w (TmIn Tt w) [] (.slice none 0 0) := ⟨none, 0, rfl, Nat.le_refl _, fun j c h => by simp at h⟩
theorem sy_nil0 (w : World) : SyT Tt w (TmIn Tt w) [] (.slice none 0 0) := ⟨none, 0, rfl, Nat.le_refl _, fun j c h => by simp at h⟩
end Go.Proofs.YtpmmbfngogpinaaGreat

namespace Go.Proofs.YtpmmbfngogpinaaGreat
open Go.RowKit
set_option linter.unusedVariables false
set_option linter.unusedSimpArgs false

def cP (n : Fin 4294967296) : C := (n, 0)
def wU : Tm := .mk 3 0 ⟨#[]⟩ [] [] []
theorem wU_in (w : World) : TmIn Tt w wU (.agg #[.int .i64 3, .int .i64 0, .string ⟨#[]⟩, .slice none 0 0, .slice none 0 0, .slice none 0 0]) :=
  .mk _ _ _ _ _ _ _ _ _ ⟨by decide, by decide⟩ ⟨by decide, by decide⟩ (cl_nil0 w) (kd_nil0 w) (sy_nil0 w)
theorem wKids1 (w : World) (g : Nat) (h : w.heap[g]? = some (.cells #[.int .i64 3, .int .i64 0, .string ⟨#[]⟩, .slice none 0 0, .slice none 0 0, .slice none 0 0] 26 (0, 0))) : KdT Tt w (TmIn Tt w) [wU] (.slice (some ⟨g, 0, none⟩) 1 1) := by
  refine ⟨_, _, rfl, Nat.le_refl _, fun j x hx => ?_⟩
  have hj : j = 0 := by have := some_lt hx; simp at this; omega
  subst hj
  simp only [List.getElem?_cons_zero, Option.some.injEq] at hx
  subst hx
  refine ⟨g, 0, _, _, _, _, _, _, rfl, trivial, (Array.getElem?_eq_some_iff.1 h).1, wU_in w, ?_, ?_, ?_, ?_, ?_, ?_⟩ <;> (unfold World.cell?; simp [h])
end Go.Proofs.YtpmmbfngogpinaaGreat

namespace Go.Proofs.YtpmmbfngogpinaaGreat
open Go.RowKit
set_option linter.unusedVariables false
set_option linter.unusedSimpArgs false

/-! ### MathAll -/
/-! What each function of the layer answers. -/
/-! Lifting. -/
/-! Dropping. -/
/-! ### being below -/
/-! ### rows that rise -/
/-! ### the least row -/
/-! ### the least row as a function -/
/-! ### what is below a row -/
/-! ### formulas that may be -/
/-! ### what two make -/
/-! ### the opposite -/
/-! ### what stays as it is -/
/-! ### what has not a dimension -/
/-! ### the dimensions -/
/-! ### CBase -/
open Go.RowKit Go.Sort
/-! ### CCmp -/
open Go.RowKit Go.Sort
/-! ### CBelow -/
open Go.RowKit Go.Shelf
/-! ### CSort -/
open Go.RowKit Go.Shelf Go.Sort
/-! ### COrder -/
open Go.RowKit Go.Maps
/-! ### each once -/
/-! ### CBox -/
open Go.RowKit Go.Sort
/-! ### WCovers -/
open Go.RowKit Go.Sort
/-! ### CNeed -/
open Go.RowKit Go.Sort
/-! ### CRLeast -/
open Go.RowKit Go.Sort
/-! ### putting in -/
/-! ### FRow -/
open Go.RowKit Go.Shelf Go.Sort
/-! ### Loops -/
open Go.RowKit Go.Shelf
attribute [local go_sem] Oper.semAt_some

/-! ### FFold -/
/-! ### opposites -/
/-! ### FRight -/
open Go.RowKit Go.Sort
/-! ### ABase -/
open Go.RowKit Go.Shelf
/-! ### what is asked of a clause -/
/-! ### what is asked of a row -/
/-! ### AOf -/
/-! ### joined, met -/
set_option maxHeartbeats 1000000 in
theorem AJoin_any (l m : List C) (a b : Value) (w : World) (ha : FRow w a l) (hb : FRow w b m) (hl : l.length ≤ 40000) (hm : m.length ≤ 40000) :
    Calls Tryz.prog 54 #[a, b] w fun e w' => ∃ v, e = .returned (.tuple #[v, .int .i64 (jnA l m).2]) ∧ OwnsC w' w.heap.size v (jnA l m).1 ∧ Below w.heap.size w w' := by
  have c1 := aright_any l a w ha (by omega)
  have c2 := fun w1 (h : Below w.heap.size w w1) => aright_any m b w1 (hb.below h) (by omega)
  have c3 := fun w1 (h : Below w.heap.size w w1) => ajoin_any l m a b w1 (ha.row.below h) (hb.row.below h) hl hm
  obtain ⟨pa, ca, rfl⟩ := ha.len
  obtain ⟨pb, cb, rfl⟩ := hb.len
  have HJ : Hid (jnA l m = if rightA l && rightA m then leastF (l ++ m) else ([], 2)) := rfl
  clear ha hb
  generalize l.length = n1 at *
  generalize m.length = n2 at *
  cases hf : rightA l
  · rw [hf] at c1 HJ
    go_enter Tryz.func54, Tryz.ntmps54
    go_wp2_with fail
    refine c1.mono ?_
    rintro e w1 ⟨rfl, hB1⟩
    clear c1
    go_wp2
    go_ret2
    rw [HJ.out]
    exact ⟨_, rfl, World.ownsRow_nil _ _ _ _, hB1⟩
  · cases hg : rightA m
    · rw [hf] at c1 HJ
      rw [hg] at HJ
      simp only [hg] at c2
      go_enter Tryz.func54, Tryz.ntmps54
      go_wp2_with fail
      refine c1.mono ?_
      rintro e w1 ⟨rfl, hB1⟩
      clear c1
      replace c2 := c2 w1 hB1
      go_wp2_with fail
      refine c2.mono ?_
      rintro e w2 ⟨rfl, hB2⟩
      clear c2
      go_wp2
      go_ret2
      rw [HJ.out]
      exact ⟨_, rfl, World.ownsRow_nil _ _ _ _, chain hB1 hB2⟩
    · rw [hf] at c1 HJ
      rw [hg] at HJ
      simp only [hg] at c2
      go_enter Tryz.func54, Tryz.ntmps54
      go_wp2_with fail
      refine c1.mono ?_
      rintro e w1 ⟨rfl, hB1⟩
      clear c1
      replace c2 := c2 w1 hB1
      go_wp2_with fail
      refine c2.mono ?_
      rintro e w2 ⟨rfl, hB2⟩
      clear c2
      replace c3 := c3 w2 (chain hB1 hB2)
      go_wp2_with fail
      refine c3.mono ?_
      rintro e w3 ⟨v3, rfl, hO3, hB3⟩
      clear c3
      go_wp2
      go_ret2
      rw [HJ.out]
      exact ⟨_, rfl, OwnsC.mono hO3 (chain hB1 hB2).size, chain (chain hB1 hB2) hB3⟩
/-! ### AEnt -/
/-! ### Entails, Holds -/
/-! ### All -/
/-! ### Restrict -/
end Go.Proofs.YtpmmbfngogpinaaGreat

namespace Go.Proofs.YtpmmbfngogpinaaGreat
open Go.RowKit
set_option linter.unusedVariables false
set_option linter.unusedSimpArgs false

def sysS (a : List C × Int) (f : List C) : List C × Int := if a.2 = 0 then jnA a.1 f else a
def sysF (fs : List (List C)) : List C × Int := fs.foldl sysS ([], 0)
theorem sysF_snoc (fs : List (List C)) (f : List C) : sysF (fs ++ [f]) = sysS (sysF fs) f := by unfold sysF; rw [List.foldl_append]; rfl
theorem sysF_step {fs : List (List C)} {k : Nat} {f : List C} (h : fs[k]? = some f) : sysF (fs.take (k + 1)) = sysS (sysF (fs.take k)) f := by
  rw [List.take_add_one, h]; exact sysF_snoc _ _
theorem sysS_stuck : ∀ (fs : List (List C)) (a : List C × Int), a.2 ≠ 0 → fs.foldl sysS a = a
  | [], _, _ => rfl
  | f :: fs, a, h => by rw [List.foldl_cons]; have e : sysS a f = a := by unfold sysS; rw [if_neg h]
                        rw [e]; exact sysS_stuck fs a h
theorem sysF_stuck {fs : List (List C)} (k : Nat) (h : (sysF (fs.take k)).2 ≠ 0) : sysF fs = sysF (fs.take k) := by
  have e : sysF fs = (fs.drop k).foldl sysS (sysF (fs.take k)) := by
    unfold sysF; rw [← List.foldl_append, List.take_append_drop]
  rw [e]; exact sysS_stuck _ _ h
theorem jnA_no {f g : List C} (h : (jnA f g).2 ≠ 0) : (jnA f g).1 = [] := by
  unfold jnA at h ⊢
  split
  · rename_i hh; rw [if_pos hh] at h; exact leastF_no h
  · rfl
theorem jnA_rt {f g : List C} : rightA (jnA f g).1 = true := by
  unfold jnA
  split
  · rename_i hh
    rw [Bool.and_eq_true] at hh
    refine rightA_iff.2 ⟨leastF_right _, fun c hc => ?_⟩
    rcases List.mem_append.1 (leastF_sub c hc) with h | h
    · exact rightA_ok hh.1 c h
    · exact rightA_ok hh.2 c h
  · exact rightA_nil
theorem sysF_facts (fs : List (List C)) : rightA (sysF fs).1 = true ∧ ((sysF fs).2 ≠ 0 → (sysF fs).1 = []) := by
  induction fs using snoc_ind with
  | nil => exact ⟨rightA_nil, fun h => absurd rfl h⟩
  | snoc fs f ih =>
    rw [sysF_snoc]
    unfold sysS
    split
    · exact ⟨jnA_rt, jnA_no⟩
    · exact ih
theorem sysF_len (fs : List (List C)) : (sysF fs).1.length ≤ 64 := rightA_len (sysF_facts fs).1
/-! ### which branch is total -/
def totB (f : List C) : Bool := decide (f = [top0])
def totN : List (List C) → Nat → Int
  | [], _ => -1
  | f :: r, i => if totB f then (i : Int) else totN r (i + 1)
def totF (fs : List (List C)) : Int := totN fs 0
end Go.Proofs.YtpmmbfngogpinaaGreat

namespace Go.Proofs.YtpmmbfngogpinaaGreat
open Go.RowKit
set_option linter.unusedVariables false
set_option linter.unusedSimpArgs false

section
open Go.ChangeShapes Go.WideShapes Go.ChangeAt
variable {H : Type} {enc : TypeId × Value → H}
set_option maxRecDepth 100000 in
theorem open_clause {W : World} {base : Nat} {v : Value} {d : DataW H} {p : List MemPlace} (hv : Value.okWide Tryz.prog W .any base 38 v) (h : DataW.Trod enc Tryz.prog W 0 (fun _ => true) true 38 v d p) : ∃ c : C, v = clV c := by
  obtain ⟨v0, v1, y0, y1, n, rfl, _, _, h0, h1⟩ := Go.Joins.open_agg2 Tryz.underlying38 (by kernel_rfl) Tryz.cellsC hv h
  obtain ⟨a, e0, _, w0⟩ := DataW.trod_int Tryz.underlying36 h0
  obtain ⟨b, e1, _, w1⟩ := DataW.trod_int Tryz.underlying36 h1
  obtain ⟨x, rfl⟩ := bounds_wf w0
  obtain ⟨y, rfl⟩ := bounds_wf w1
  simp at e0 e1
  subst e0 e1
  exact ⟨(x, y), rfl⟩
end
/-- A term of a system alone. -/
def tS (l : List (List C × List Tm)) : Tm := .mk 0 0 ⟨#[]⟩ [] [] l
theorem SyT.len {ok : Nat → Prop} {w : World} {P : Tm → Value → Prop} {l : List (List C × List Tm)} {v : Value} (h : SyT ok w P l v) : ∃ a c, v = .slice a l.length c := by obtain ⟨a, c, e, _⟩ := h; exact ⟨a, c, e⟩
end Go.Proofs.YtpmmbfngogpinaaGreat

namespace Go.Proofs.YtpmmbfngogpinaaGreat
open Go.RowKit
set_option linter.unusedVariables false
set_option linter.unusedSimpArgs false

theorem ownsC_nil (w : World) (base : Nat) : OwnsC w base (.slice none 0 0) [] := World.ownsRow_nil _ _ _ _
theorem sys_lens {l : List (List C × List Tm)} (hb : blk (tS l) ≤ 20000) : l.length ≤ 20000 ∧ ∀ b ∈ l, b.1.length ≤ 20000 := by
  have h1 := (blk_lens (tS l)).2.2.2
  have e : (tS l).sys = l := rfl
  rw [e] at h1
  refine ⟨by omega, fun b h => ?_⟩
  have := blk_br (t := tS l) (b := b) h
  omega
set_option maxRecDepth 100000 in
set_option maxHeartbeats 4000000 in
theorem sface_any (l : List (List C × List Tm)) (v : Value) (w : World) (hS : SyT Tt w (TmIn Tt w) l v) (hb : blk (tS l) ≤ 20000) : Calls Tryz.prog 20 #[v] w fun e w' => ∃ v', e = .returned (.tuple #[v', .int .i64 (sysF (l.map Prod.fst)).2]) ∧ OwnsC w' w.heap.size v' (sysF (l.map Prod.fst)).1 ∧ Below w.heap.size w w' := by
  obtain ⟨hl1, hl2⟩ := sys_lens hb
  obtain ⟨sa, sc, rfl⟩ := hS.len
  obtain ⟨fs, hfs⟩ : ∃ fs, fs = l.map Prod.fst := ⟨_, rfl⟩
  obtain ⟨M, hM⟩ : ∃ M, M = l.length := ⟨_, rfl⟩
  have HS : Hid (∀ W, Below w.heap.size w W → SyT Tt W (TmIn Tt W) l (.slice sa M sc)) := fun W q => by rw [hM]; exact hS.blw q
  have HM : Hid (M = l.length ∧ fs = l.map Prod.fst) := ⟨hM, hfs⟩
  have HL : Hid (∀ b ∈ l, b.1.length ≤ 20000) := hl2
  have hMl : M ≤ 20000 := by omega
  rw [← hM, ← hfs]
  clear hM hfs hS hb hl1 hl2
  go_enter Tryz.func20, Tryz.ntmps20
  go_wp2_with fail
  go_loopw [4, 10] (fun a i wr => ∃ k : Nat, k ≤ M ∧ i = .int .i64 k ∧ OwnsC wr w.heap.size a (sysF (fs.take k)).1 ∧ (sysF (fs.take k)).2 = 0 ∧ Below w.heap.size w wr) (fun _ i _ => M - (intOf i).toNat)
  case atStart => exact ⟨0, Nat.zero_le _, rfl, ownsC_nil _ _, rfl, Below.refl _ _⟩
  case round =>
    obtain ⟨wo, hwo⟩ : ∃ wo, wo = wr := ⟨_, rfl⟩
    subst hwo
    obtain ⟨k, hk, rfl, hO, hz, hSo⟩ := hrel
    obtain ⟨a4, c4, hv4⟩ := OwnsC.len hO
    subst hv4
    obtain ⟨L4, hL4⟩ : ∃ L, L = (sysF (fs.take k)).1.length := ⟨_, rfl⟩
    have h64 := sysF_len (fs.take k)
    by_cases hlt : k < M
    · have hkI : (k : Int) < (M : Int) := by omega
      obtain ⟨b, hb⟩ := someL (l := l) (k := k) (by rw [← HM.out.1]; exact hlt)
      have hbl := HL.out b (List.mem_of_getElem? hb)
      obtain ⟨gs, offs, fa1, fc1, kb1, kbc1, hsa, _, h21, hF1, hK1⟩ := (HS.out wo hSo).at hb
      subst hsa
      have hff : fs[k]? = some b.1 := by rw [HM.out.2, List.getElem?_map, hb]; rfl
      have eJ : jnA (sysF (fs.take k)).1 b.1 = sysF (fs.take (k + 1)) := by rw [sysF_step hff]; unfold sysS; rw [if_pos hz]
      obtain ⟨wb, hwb⟩ : ∃ W, W = wo.alloc (.cells #[.slice fa1 b.1.length fc1, .slice kb1 b.2.length kbc1] 40) := ⟨_, rfl⟩
      have bb : Below wo.heap.size wo wb := by rw [hwb]; exact belowA _ _
      have tb : Two wb wo.heap.size (.slice fa1 b.1.length fc1) (.slice kb1 b.2.length kbc1) := ⟨by rw [hwb]; exact heapNew _ _⟩
      have hSb : Below w.heap.size w wb := hSo.trans (bb.mono hSo.size)
      have cJ := AJoin_any (sysF (fs.take k)).1 b.1 _ _ wb (OwnsC.frow (OwnsC.below hO bb)) (hF1.blw bb).frow (by omega) (by omega)
      rw [eJ] at cJ
      obtain ⟨J, hJ⟩ : ∃ J, J = sysF (fs.take (k + 1)) := ⟨_, rfl⟩
      have HJ : Hid (J = sysF (fs.take (k + 1))) := hJ
      rw [← hJ] at cJ
      have HN : Hid (J.2 ≠ 0 → sysF fs = J ∧ J.1 = []) := fun h => by
        rw [hJ] at h ⊢
        exact ⟨sysF_stuck (k + 1) h, (sysF_facts _).2 h⟩
      obtain ⟨R, er⟩ := J
      dsimp only at cJ HN
      rw [← hL4] at cJ ⊢
      obtain ⟨c0, c1'⟩ := (⟨h21.c0, h21.c1⟩ : _ ∧ _)
      obtain ⟨t0, t1, _⟩ := tb.cells
      have Hwb : Hid (_ = _) := hwb
      obtain ⟨F, hF⟩ : ∃ F, F = b.1.length := ⟨_, rfl⟩
      obtain ⟨K, hK⟩ : ∃ F, F = b.2.length := ⟨_, rfl⟩
      rw [← hF] at c0 t0 cJ Hwb
      rw [← hK] at c1' t1 Hwb
      clear hwb tb h21 hK1 hF1 hb hff hO hJ eJ hL4 hF hK hbl h64 hz
      go_upto_region 5 with fail
      rw [← Hwb.out]
      clear c0 c1'
      go_wp2_with fail
      refine cJ.mono ?_
      rintro e w9 ⟨v9, rfl, hO9, b9⟩
      clear cJ t0 t1
      have hS9 : Below w.heap.size w w9 := hSb.trans (b9.mono hSb.size)
      have hOw : OwnsC w9 w.heap.size v9 R := OwnsC.mono hO9 hSb.size
      clear hO9
      by_cases hz : er = 0
      · subst hz
        have HO : Hid (OwnsC w9 w.heap.size v9 R) := hOw
        obtain ⟨a9, c9, hv9⟩ := OwnsC.len hOw
        clear hOw
        subst hv9
        go_wp2_with fail
        go_roundw
        case rel => exact ⟨k + 1, by omega, by go_num, by rw [← HJ.out]; exact HO.out, by rw [← HJ.out], hS9⟩
        case measure => simp [intOf]; omega
      · have hz1 : (er == 0) = false := by simpa using hz
        obtain ⟨hN1, hN2⟩ := HN.out hz
        have HR : Hid (sysF fs = ([], er)) := (by rw [hN1, hN2] : _ = _)
        obtain ⟨a9, c9, hv9⟩ := OwnsC.len hOw
        clear hN1 hN2 hOw HN HJ
        subst hv9
        go_wp2_with fail
        go_ret2
        exact ⟨_, by rw [HR.out]; rfl, by rw [HR.out]; exact ownsC_nil _ _, hS9⟩
    · have hkI : ¬ (k : Int) < (M : Int) := by omega
      obtain rfl : k = M := by omega
      have he : fs.take k = fs := List.take_of_length_le (by rw [HM.out.2, List.length_map, ← HM.out.1]; exact Nat.le_refl _)
      rw [he] at hO hz hL4 h64 ⊢
      have HO : Hid (OwnsC wo w.heap.size (.slice a4 (sysF fs).1.length c4) (sysF fs).1) := hO
      have HZ : Hid ((sysF fs).2 = 0) := hz
      clear hO hz hL4 he
      go_wp2_with fail
      go_ret2
      exact ⟨_, by rw [HZ.out]; rfl, HO.out, hSo⟩
end Go.Proofs.YtpmmbfngogpinaaGreat

namespace Go.Proofs.YtpmmbfngogpinaaGreat
open Go.RowKit
set_option linter.unusedVariables false
set_option linter.unusedSimpArgs false

def itT (k : Int) (l : List (List C × List Tm)) : Tm := .mk k 0 ⟨#[]⟩ [] (List.replicate (kidsK k).toNat wU) l
def itE (k er : Int) : Int := if partsK k = 0 then 2 else er
def itS (k er : Int) (A : Tm) : List (List C × List Tm) := if partsK k = 0 then [] else if er = 0 then A.sys else []
/-- A function that tells what a term becomes. -/
def BecC (g : Nat) (lb : Array Value) (w : World) (t A : Tm) (er : Int) : Prop := ∀ (W : World) (v : Value), Below w.heap.size w W → TmIn Tt W t v → Calls Tryz.prog g (#[v] ++ lb) W fun e w' => ∃ v', e = .returned (.tuple #[v', .int .i64 er]) ∧ TmIn Tt w' A v' ∧ Below W.heap.size W w'
theorem kidsK_le (k : Int) : kidsK k ≤ 5 := by unfold kidsK; (repeat' split) <;> decide
theorem uni_in (ok : Nat → Prop) (w : World) : TmIn ok w wU (.agg #[.int .i64 3, .int .i64 0, .string ⟨#[]⟩, .slice none 0 0, .slice none 0 0, .slice none 0 0]) :=
  .mk _ _ _ _ _ _ _ _ _ ⟨by decide, by decide⟩ ⟨by decide, by decide⟩ (cl_nil _ w) (kt_nil _ w _) (sy_nil _ w _)
set_option maxRecDepth 100000 in
set_option maxHeartbeats 8000000 in
theorem inits_any (k : Int) (hk : I64 k) (l : List (List C × List Tm)) (v : Value) (w : World) (hS : SyT Tt w (TmIn Tt w) l v) (g : Nat) (lb : Array Value) (eg : ∀ args w, (callFunc g args).run Tryz.prog w = .ok (.enter g args) w) (A : Tm) (er : Int) (hp : BecC g lb w (itT k l) A er) :
    Calls Tryz.prog 60 #[.int .i64 k, v, .func (.func g) #[] lb] w fun e w' => ∃ v', e = .returned (.tuple #[v', .int .i64 (itE k er)]) ∧ SyT Tt w' (TmIn Tt w') (itS k er A) v' ∧ Below w.heap.size w w' := by
  obtain ⟨sa, sc, rfl⟩ := hS.len
  obtain ⟨M, hM⟩ : ∃ M, M = l.length := ⟨_, rfl⟩
  have HS : Hid (∀ W, Below w.heap.size w W → SyT Tt W (TmIn Tt W) l (.slice sa M sc)) := fun W q => by rw [hM]; exact hS.blw q
  have HP : Hid (BecC g lb w (itT k l) A er) := hp
  have HI : Hid (I64 k) := hk
  have c1 := partsC_any k w
  have HE : Hid (itE k er = if partsK k = 0 then 2 else er) := (rfl : _ = _)
  have HQ : Hid (itS k er A = if partsK k = 0 then [] else if er = 0 then A.sys else []) := (rfl : _ = _)
  have HT : Hid (itT k l = .mk k 0 ⟨#[]⟩ [] (List.replicate (kidsK k).toNat wU) l) := (rfl : _ = _)
  have c2 : Hid (∀ V, Calls Tryz.prog 110 #[.int .i64 k] V fun e w' => e = .returned (.int .i64 (kidsK k)) ∧ w' = V) := fun V => kids_any k V
  have hkb := kidsK_le k
  obtain ⟨kk, hkk⟩ : ∃ p, p = kidsK k := ⟨_, rfl⟩
  rw [← hkk] at HT c2 hkb
  obtain ⟨pk, hpk⟩ : ∃ p, p = partsK k := ⟨_, rfl⟩
  rw [← hpk] at c1 HE HQ
  obtain ⟨Y, hY⟩ : ∃ Y, Y = w.heap.size := ⟨_, rfl⟩
  have HY : Hid (Y = w.heap.size) := hY
  rw [← hM, ← hY]
  clear hM hS hp hk hkk hpk hY
  go_enter Tryz.func60, Tryz.ntmps60
  go_wp2_with fail
  refine c1.mono ?_
  rintro e w1 ⟨rfl, hw1⟩
  replace hw1 := hw1.symm
  subst hw1
  clear c1
  by_cases hp : pk = 0
  · have HE2 : Hid (itE k er = 2) := (by rw [HE.out, if_pos hp] : _ = _)
    have HQ2 : Hid (itS k er A = []) := (by rw [HQ.out, if_pos hp] : _ = _)
    subst hp
    have bF : Below Y w w := Below.refl _ _
    clear HE HQ c2
    go_wp2_with fail
    go_ret2
    exact ⟨_, by rw [HE2.out]; rfl, by rw [HQ2.out]; exact sy_nil _ _ _, bF⟩
  have hp1 : (pk == 0) = false := by simpa using hp
  rw [if_neg hp] at HE HQ
  obtain ⟨w2, hw2⟩ : ∃ W, W = w.alloc (.cells #[.int .i64 k, .int .i64 0, .string ⟨#[]⟩, .slice none 0 0, .slice none 0 0, .slice sa M sc] 26) := ⟨_, rfl⟩
  have b2 : Below w.heap.size w w2 := by rw [hw2]; exact belowA _ _
  have s2 : w2.heap.size = Y + 1 := by rw [hw2, HY.out]; simp
  have n2 : Six w2 Y (.int .i64 k) (.int .i64 0) (.string ⟨#[]⟩) (.slice none 0 0) (.slice none 0 0) (.slice sa M sc) := ⟨by rw [hw2, HY.out]; exact heapNew _ _⟩
  have hH0 : Half Y Y [] [] w2 (.slice none 0 0) (.slice none 0 0) := ⟨cl_nil _ _, KOwn.nil _ _ _, Nat.le_refl _⟩
  have B2 : Below Y w w2 := by rw [HY.out]; exact b2
  have cK := c2.out w2
  have H2 : Hid (_ = _) := hw2
  clear hw2 c2 b2
  go_upto_region 4 with fail
  rw [← H2.out]
  simp only [← HY.out]
  clear H2
  go_wp2_with fail
  refine cK.mono ?_
  rintro e w3 ⟨rfl, hw3⟩
  replace hw3 := hw3.symm
  subst hw3
  clear cK
  obtain ⟨n, hn⟩ : ∃ n, n = kk.toNat := ⟨_, rfl⟩
  have hnk : (n : Int) = kk ∨ (kk < 0 ∧ n = 0) := by omega
  rw [← hn] at HT
  clear hn
  go_wp2_with fail
  go_loopw [19] (fun u wr => ∃ (j : Nat) (a : Option Addr) (c : Nat), j ≤ n ∧ u = .int .i64 j ∧ Six wr Y (.int .i64 k) (.int .i64 0) (.string ⟨#[]⟩) (.slice none 0 0) (.slice a j c) (.slice sa M sc) ∧ Half Y Y [] (List.replicate j wU) wr (.slice none 0 0) (.slice a j c) ∧ Below Y w wr ∧ Y + 1 ≤ wr.heap.size) (fun u _ => n - (intOf u).toNat)
  case atStart => exact ⟨0, none, 0, Nat.zero_le _, rfl, n2, hH0, B2, by omega⟩
  case round =>
    obtain ⟨wo, hwo⟩ : ∃ wo, wo = wr := ⟨_, rfl⟩
    subst hwo
    obtain ⟨j, ka0, kc0, hj, rfl, hO, hH, hSo, hszo⟩ := hrel
    clear n2 hH0 B2 s2
    by_cases hlt : j < n
    · have hkI : (j : Int) < kk := by omega
      obtain ⟨q0, q1, q2, q3, q4, q5, _⟩ := hO.cells
      have hnx := hH.next (u := (.int .i64 3, .int .i64 0, .string ⟨#[]⟩, .slice none 0 0, .slice none 0 0, .slice none 0 0)) (x := wU) 23 (by omega) (by omega) (Below.refl _ _) (uni_in _ _) (by rw [List.length_replicate]; omega)
      obtain ⟨w3, hw3⟩ : ∃ W, W = wo.alloc (.cells #[.int .i64 3, .int .i64 0, .string ⟨#[]⟩, .slice none 0 0, .slice none 0 0, .slice none 0 0] 26) := ⟨_, rfl⟩
      dsimp only at hnx
      rw [← hw3] at hnx
      obtain ⟨vk4, w4, hrun, hH4, hB4, ho4⟩ := hnx
      rw [show List.replicate j wU ++ [wU] = List.replicate (j + 1) wU by rw [List.replicate_succ']] at hH4
      obtain ⟨ka4, kc4, hvk4⟩ := hH4.kids.len
      rw [List.length_replicate] at hvk4
      subst hvk4
      have hO4 : Six w4 Y (.int .i64 k) (.int .i64 0) (.string ⟨#[]⟩) (.slice none 0 0) (.slice ka0 j kc0) (.slice sa M sc) := ⟨ho4.trans hO.blk⟩
      obtain ⟨w5, hw5⟩ : ∃ W, W = w4.setCell ⟨Y, 4, none⟩ (.slice ka4 (j + 1) kc4) := ⟨_, rfl⟩
      have k5 : Kn (fun q => q ≠ Y) w4 w5 := by rw [hw5]; exact kn_set _ _ _ _
      have hO5 : Six w5 Y (.int .i64 k) (.int .i64 0) (.string ⟨#[]⟩) (.slice none 0 0) (.slice ka4 (j + 1) kc4) (.slice sa M sc) := by rw [hw5]; exact hO4.set4 _
      have hH5 := hH4.set k5
      have hsz5 : Y + 1 ≤ w5.heap.size := by have := hB4.size; have := k5.size; omega
      have hS5 : Below Y w w5 := hSo.trans (hB4.trans (k5.below (fun q hq => by omega) (by have := hB4.size; omega)))
      have f4 := hO4.cells.2.2.2.2.2.2 4
      have q5' := hO4.cells.2.2.2.2.1
      have H3 : Hid (_ = _) := hw3
      have H5 : Hid (_ = _) := hw5
      clear hw3 hw5 hO4 hH4 hB4 ho4 k5 hH
      go_wp2_with (at_builtin; rw [← H3.out]; refine wpList_append_run rfl _ _ _ rfl _ _ _ _ rfl rfl hrun ?_)
      rw [← H5.out]
      go_roundw
      case rel => exact ⟨j + 1, _, _, by omega, by go_num, hO5, hH5, hS5, hsz5⟩
      case measure => simp [intOf]; omega
    · have hkI : ¬ (j : Int) < kk := by omega
      obtain rfl : j = n := by omega
      have hK : KdT Tt wo (TmIn Tt wo) (List.replicate j wU) (.slice ka0 j kc0) := hH.kids.row.all (Nat.le_refl _) (fun _ _ => trivial) (fun _ _ _ => rfl)
      have bo : Below w.heap.size w wo := by rw [← HY.out]; exact hSo
      have hv : TmIn Tt wo (itT k l) (.agg #[.int .i64 k, .int .i64 0, .string ⟨#[]⟩, .slice none 0 0, .slice ka0 j kc0, .slice sa M sc]) := by
        rw [HT.out]
        exact .mk _ _ _ _ _ _ _ _ _ HI.out ⟨by decide, by decide⟩ (cl_nil _ _) hK (HS.out wo bo)
      have cc := HP.out wo _ bo hv
      obtain ⟨q0, q1, q2, q3, q4, q5, _⟩ := hO.cells
      clear hK hv hH HT
      go_wp2_with fail
      refine cc.mono ?_
      rintro e w6 ⟨v6, rfl, hv6, b6⟩
      clear cc q0 q1 q2 q3 q4 q5
      have hS6 : Below Y w w6 := hSo.trans (b6.mono (by omega))
      obtain ⟨ra6, rc6, ka6, kc6, sa6, sc6, rfl, ht6⟩ := hv6.form
      obtain ⟨w7, hw7⟩ : ∃ W, W = w6.alloc (.cells #[.int .i64 A.kind, .int .i64 A.n, .string A.name, .slice ra6 A.r.length rc6, .slice ka6 A.kids.length kc6, .slice sa6 A.sys.length sc6] 26) := ⟨_, rfl⟩
      have b7 : Below w6.heap.size w6 w7 := by rw [hw7]; exact belowA _ _
      have n7 : Six w7 w6.heap.size (.int .i64 A.kind) (.int .i64 A.n) (.string A.name) (.slice ra6 A.r.length rc6) (.slice ka6 A.kids.length kc6) (.slice sa6 A.sys.length sc6) := ⟨by rw [hw7]; exact heapNew _ _⟩
      have hS7 : Below Y w w7 := hS6.trans (b7.mono (by have := b6.size; omega))
      have HSy : Hid (SyT Tt w7 (TmIn Tt w7) A.sys (.slice sa6 A.sys.length sc6)) := (ht6.blw b7).sys
      have x5 := n7.cells.2.2.2.2.2.1
      have H7 : Hid (_ = _) := hw7
      clear hw7 hv6 ht6 b7 n7
      go_upto_region 9 with fail
      rw [← H7.out]
      clear H7
      by_cases hz : er = 0
      · have HQ2 : Hid (itS k er A = A.sys) := (by rw [HQ.out, if_pos hz] : _ = _)
        have HE2 : Hid (itE k er = 0) := (by rw [HE.out, hz] : _ = _)
        have hz1 : (er == 0) = true := by simpa using hz
        clear HQ HE
        go_wp2_with fail
        go_ret2
        exact ⟨_, by rw [HE2.out]; rfl, by rw [HQ2.out]; exact HSy.out, hS7⟩
      · have HQ2 : Hid (itS k er A = []) := (by rw [HQ.out, if_neg hz] : _ = _)
        have hz1 : (er == 0) = false := by simpa using hz
        clear HQ
        go_wp2_with fail
        go_ret2
        exact ⟨_, by rw [HE.out]; rfl, by rw [HQ2.out]; exact sy_nil _ _ _, hS7⟩
/-! ### Under -/
theorem und1_eg : ∀ args w, (callFunc 61 args).run Tryz.prog w = .ok (.enter 61 args) w := enters_of Tryz.func61 (by kernel_rfl) rfl
set_option maxRecDepth 100000 in
set_option maxHeartbeats 8000000 in
theorem und1_any (c : C) (B : Nat) (w0 : World) (hA : At w0 B c) (t : Tm) (hb : blk t ≤ 20000) (hcp : capT t ≤ 40000) : BecC 61 #[.pointer (some ⟨B, 0, none⟩)] w0 t (undA c t).1 (undA c t).2 := fun W v hbW hv => by
  obtain ⟨ra, rc, ka, kc, sa, sc, rfl, ht⟩ := hv.form
  obtain ⟨w1, hw1⟩ : ∃ V, V = (W.alloc (.cells #[.int .i64 t.kind, .int .i64 t.n, .string t.name, .slice ra t.r.length rc, .slice ka t.kids.length kc, .slice sa t.sys.length sc] 26)).alloc (.cells #[.int .i64 0, .int .i64 0, .string ⟨#[]⟩, .slice none 0 0, .slice none 0 0, .slice none 0 0] 26) := ⟨_, rfl⟩
  have b1 : Below W.heap.size W w1 := by rw [hw1]; exact bchain (belowA _ _) (belowA _ _)
  obtain ⟨X, hX⟩ : ∃ X, X = W.heap.size := ⟨_, rfl⟩
  have s1 : w1.heap.size = X + 2 := by rw [hw1, hX]; simp
  have x1 : Six w1 X (.int .i64 t.kind) (.int .i64 t.n) (.string t.name) (.slice ra t.r.length rc) (.slice ka t.kids.length kc) (.slice sa t.sys.length sc) := ⟨by rw [hX, hw1]; exact (Below.heap_alloc _ _ _ (by simp)).trans (heapNew W _)⟩
  have x2 : Six w1 (X + 1) (.int .i64 0) (.int .i64 0) (.string ⟨#[]⟩) (.slice none 0 0) (.slice none 0 0) (.slice none 0 0) := ⟨by
    rw [hX, hw1]; have := heapNew (W.alloc (.cells #[.int .i64 t.kind, .int .i64 t.n, .string t.name, .slice ra t.r.length rc, .slice ka t.kids.length kc, .slice sa t.sys.length sc] 26)) (.cells #[.int .i64 0, .int .i64 0, .string ⟨#[]⟩, .slice none 0 0, .slice none 0 0, .slice none 0 0] 26); rwa [World.size_alloc] at this⟩
  have cu := under_all t _ w1 (ht.blw b1).value hb hcp c
  obtain ⟨z0, z1, _⟩ := (hA.below hbW).below b1
  obtain ⟨Q, hQ⟩ : ∃ Q, Q = undA c t := ⟨_, rfl⟩
  rw [← hQ] at cu ⊢
  obtain ⟨T, er⟩ := Q
  dsimp only at cu ⊢
  obtain ⟨y0, y1, y2, y3, y4, y5, _⟩ := x1.cells
  have HW : Hid (_ = _) := hw1
  have HX : Hid (X = W.heap.size) := hX
  have hc1 := c.1.isLt
  have hc2 := c.2.isLt
  rw [← hX]
  clear hw1 hX hv ht hA hQ hb hcp x1
  show Calls Tryz.prog 61 #[.agg #[.int .i64 t.kind, .int .i64 t.n, .string t.name, .slice ra t.r.length rc, .slice ka t.kids.length kc, .slice sa t.sys.length sc], .pointer (some ⟨B, 0, none⟩)] W _
  go_enter Tryz.func61, Tryz.ntmps61
  go_upto_region 1 with fail
  rw [← HW.out]
  simp only [← HX.out]
  clear HW
  go_wp2_with fail
  refine cu.mono ?_
  rintro e w2 ⟨v2, rfl, hv2, b2⟩
  clear cu y0 y1 y2 y3 y4 y5 z0 z1
  obtain ⟨ra2, rc2, ka2, kc2, sa2, sc2, rfl, _⟩ := (hv2 w2 (Kn.refl _ _)).form
  have zz := x2.blw b2
  have zz2 := zz.set6 (.int .i64 T.kind) (.int .i64 T.n) (.string T.name) (.slice ra2 T.r.length rc2) (.slice ka2 T.kids.length kc2) (.slice sa2 T.sys.length sc2)
  obtain ⟨o0, o1, o2, o3, o4, o5, ff⟩ := zz.cells
  have f0 := ff 0
  have f1 := ff 1
  have f2 := ff 2
  have f3 := ff 3
  have f4 := ff 4
  have f5 := ff 5
  obtain ⟨w3, hw3⟩ : ∃ V, V = (((((w2.setCell ⟨X + 1, 0, none⟩ (.int .i64 T.kind)).setCell ⟨X + 1, 1, none⟩ (.int .i64 T.n)).setCell ⟨X + 1, 2, none⟩ (.string T.name)).setCell ⟨X + 1, 3, none⟩ (.slice ra2 T.r.length rc2)).setCell ⟨X + 1, 4, none⟩ (.slice ka2 T.kids.length kc2)).setCell ⟨X + 1, 5, none⟩ (.slice sa2 T.sys.length sc2) := ⟨_, rfl⟩
  rw [← hw3] at zz2
  obtain ⟨h0, h1, h2, h3, h4, h5, _⟩ := zz2.cells
  have kz : Kn (fun q => q ≠ X + 1) w2 w3 := by rw [hw3]; exact kn_set6 _ _ _ _ _ _ _ _
  have HTm : Hid (TmIn Tt w3 T (.agg #[.int .i64 T.kind, .int .i64 T.n, .string T.name, .slice ra2 T.r.length rc2, .slice ka2 T.kids.length kc2, .slice sa2 T.sys.length sc2])) := hv2 w3 (kz.sub (fun q hq => by omega))
  have bF : Below X W w3 := by
    rw [HX.out]
    refine (bchain b1 b2).trans (kz.below (fun q hq => ?_) ?_)
    · have := HX.out; omega
    · exact (bchain b1 b2).size
  have H3 : Hid (_ = _) := hw3
  clear hw3 ff zz zz2 kz hv2 x2
  go_wp2_with fail
  rw [← H3.out]
  exact bodyPost_ret (v := .tuple #[.agg #[.int .i64 T.kind, .int .i64 T.n, .string T.name, .slice ra2 T.r.length rc2, .slice ka2 T.kids.length kc2, .slice sa2 T.sys.length sc2], .int .i64 er]) (by simp only [results, Tryz.results61]; simp [go_sem, h0, h1, h2, h3, h4, h5]) rfl ⟨_, rfl, HTm.out, bF⟩
/-- What a system is where a clause is so, or why that is not told. -/
def undE (k : Int) (c : C) (l : List (List C × List Tm)) : Int := itE k (undA c (itT k l)).2
def undS (k : Int) (c : C) (l : List (List C × List Tm)) : List (List C × List Tm) := itS k (undA c (itT k l)).2 (undA c (itT k l)).1
set_option maxRecDepth 100000 in
set_option maxHeartbeats 4000000 in
theorem sunder_any (k : Int) (hk : I64 k) (l : List (List C × List Tm)) (v : Value) (w : World) (hS : SyT Tt w (TmIn Tt w) l v) (c : C) (hb : blk (itT k l) ≤ 20000) (hcp : capT (itT k l) ≤ 40000) :
    Calls Tryz.prog 27 #[.int .i64 k, v, clV c] w fun e w' => ∃ v', e = .returned (.tuple #[v', .int .i64 (undE k c l)]) ∧ SyT Tt w' (TmIn Tt w') (undS k c l) v' ∧ Below w.heap.size w w' := by
  obtain ⟨w1, hw1⟩ : ∃ V, V = w.alloc (.cells #[.int .u32 (c.1.val : Int), .int .u32 (c.2.val : Int)] 38) := ⟨_, rfl⟩
  have hA : At w1 w.heap.size c := by rw [hw1]; exact At.made w c _
  have b1 : Below w.heap.size w w1 := by rw [hw1]; exact belowA _ _
  have cc := inits_any k hk l v w1 (hS.blw b1) 61 #[.pointer (some ⟨w.heap.size, 0, none⟩)] und1_eg _ _ (und1_any c w.heap.size w1 hA (itT k l) hb hcp)
  obtain ⟨sa, sc, rfl⟩ := hS.len
  obtain ⟨M, hM⟩ : ∃ M, M = l.length := ⟨_, rfl⟩
  rw [← hM] at cc ⊢
  have HE : Hid (undE k c l = itE k (undA c (itT k l)).2) := (rfl : _ = _)
  have HQ : Hid (undS k c l = itS k (undA c (itT k l)).2 (undA c (itT k l)).1) := (rfl : _ = _)
  rw [← HE.out, ← HQ.out] at cc
  obtain ⟨E, hE⟩ : ∃ E, E = undE k c l := ⟨_, rfl⟩
  obtain ⟨S, hSS⟩ : ∃ E, E = undS k c l := ⟨_, rfl⟩
  rw [← hE, ← hSS] at cc ⊢
  have H1 : Hid (_ = _) := hw1
  clear hw1 hA hS hM HE HQ hE hSS hb hcp
  show Calls Tryz.prog 27 #[.int .i64 k, .slice sa M sc, .agg #[.int .u32 (c.1.val : Int), .int .u32 (c.2.val : Int)]] w _
  go_enter Tryz.func27, Tryz.ntmps27
  go_upto_region 1 with fail
  rw [← H1.out]
  clear H1
  go_wp2_with fail
  refine cc.mono ?_
  rintro e w2 ⟨v2, rfl, hv2, b2⟩
  clear cc
  obtain ⟨sa2, sc2, hvv⟩ := hv2.len
  subst hvv
  have HV : Hid (SyT Tt w2 (TmIn Tt w2) S (.slice sa2 S.length sc2)) := hv2
  have bF := bchain b1 b2
  clear hv2
  go_wp2_with fail
  go_ret2
  exact ⟨_, rfl, HV.out, bF⟩
end Go.Proofs.YtpmmbfngogpinaaGreat

namespace Go.Proofs.YtpmmbfngogpinaaGreat
open Go.RowKit Go.Shelf
set_option linter.unusedVariables false
set_option linter.unusedSimpArgs false

/-- A branch as it lies in memory: its face, and the two values. -/
abbrev RowV (w : World) := {x : List C × Value × Value // ClRow Tt w x.1 x.2.1}
instance (w : World) : Inhabited (RowV w) := ⟨⟨([], .slice none 0 0, .slice none 0 0), cl_nil _ _⟩⟩
def encB {w : World} (x : RowV w) : List Value := [x.1.2.1, x.1.2.2]
theorem sy_rows {w : World} {l : List (List C × List Tm)} {a : Option Addr} {n c : Nat} (h : SyT Tt w (TmIn Tt w) l (.slice a n c)) (hne : l ≠ []) : ∃ g off, a = some ⟨g, off, none⟩ ∧ g < w.heap.size ∧ ∃ zs : List (RowV w), zs.length = l.length ∧ zs.map (fun x => x.1.1) = l.map Prod.fst ∧ ∀ (j : Nat) (hj : j < zs.length), w.cell? ⟨g, off + j * 2, none⟩ = some zs[j].1.2.1 ∧ w.cell? ⟨g, off + j * 2 + 1, none⟩ = some zs[j].1.2.2 := by
  obtain ⟨a', c', e, _, h3⟩ := h
  cases e
  obtain ⟨b0, hb0⟩ := someL (l := l) (k := 0) (by cases l with | nil => exact absurd rfl hne | cons _ _ => simp)
  obtain ⟨g, off, _, _, ha, _, hg, _, _, _, _⟩ := h3 0 b0 hb0
  subst ha
  refine ⟨g, off, rfl, hg, ?_⟩
  have each : ∀ i, i < l.length → ∃ x : RowV w, ∀ b, l[i]? = some b → x.1.1 = b.1 ∧ w.cell? ⟨g, off + i * 2, none⟩ = some x.1.2.1 ∧ w.cell? ⟨g, off + i * 2 + 1, none⟩ = some x.1.2.2 := fun i hi => by
    obtain ⟨b, hb⟩ := someL (l := l) (k := i) hi
    obtain ⟨g', off', vf, vk, ha, _, _, hF, _, c0, c1⟩ := h3 i b hb
    cases ha
    exact ⟨⟨(b.1, vf, vk), hF⟩, fun b' hb' => by rw [hb] at hb'; cases hb'; exact ⟨rfl, c0, c1⟩⟩
  obtain ⟨f, hf⟩ := Go.Deep.choose_lt (p := fun i (x : RowV w) => ∀ b, l[i]? = some b → x.1.1 = b.1 ∧ w.cell? ⟨g, off + i * 2, none⟩ = some x.1.2.1 ∧ w.cell? ⟨g, off + i * 2 + 1, none⟩ = some x.1.2.2) each
  refine ⟨(List.range l.length).map f, by simp, ?_, fun j hj => ?_⟩
  · refine List.ext_getElem? (fun i => ?_)
    rcases Nat.lt_or_ge i l.length with hi | hi
    · obtain ⟨b, hb⟩ := someL (l := l) (k := i) hi
      rw [List.getElem?_map, List.getElem?_map, List.getElem?_map, List.getElem?_range hi, hb]
      simp [(hf i hi b hb).1]
    · rw [List.getElem?_eq_none (by simpa using hi), List.getElem?_eq_none (by simpa using hi)]
  · have hj' : j < l.length := by simpa using hj
    obtain ⟨b, hb⟩ := someL (l := l) (k := j) hj'
    have := (hf j hj' b hb).2
    simpa using this
theorem idx_tot {w : World} : ∀ (zs : List (RowV w)) (i : Nat) (x : RowV w), Lib.idxByFrom (fun _ y => totB y.1.1) x zs i = totN (zs.map fun x => x.1.1) i
  | [], _, _ => rfl
  | z :: zs, i, x => by
    unfold Lib.idxByFrom
    rw [List.map_cons]
    unfold totN
    rw [idx_tot zs (i + 1) x]
theorem tot1_eg : ∀ args w, (callFunc 57 args).run Tryz.prog w = .ok (.enter 57 args) w := enters_of Tryz.func57 (by kernel_rfl) rfl
theorem totB_no {l : List C} (h : ¬ l.length = 1) : totB l = false := decide_eq_false (fun e => h (by rw [e]; rfl))
theorem totB_one (c : C) : totB [c] = (decide (c.1 = 0) && decide (c.2 = 0)) := by
  rw [Bool.eq_iff_iff, Bool.and_eq_true, decide_eq_true_iff, decide_eq_true_iff]
  unfold totB
  rw [decide_eq_true_iff]
  constructor
  · intro h; injection h with h; subst h; exact ⟨rfl, rfl⟩
  · rintro ⟨h1, h2⟩; obtain ⟨a, b⟩ := c; dsimp only at h1 h2; subst h1 h2; rfl
set_option maxRecDepth 100000 in
set_option maxHeartbeats 4000000 in
theorem tot1_any (w : World) : PredBelow Tryz.prog 57 #[] (fun x : RowV w => .agg (encB x).toArray) (fun x => totB x.1.1) w := fun W x hb => by
  obtain ⟨⟨l, vf, vk⟩, hr⟩ := x
  dsimp only at hr
  obtain ⟨a, cap, rfl, _, hx⟩ := hr.blw hb
  show Calls Tryz.prog 57 #[.agg #[.slice a l.length cap, vk]] W fun e w' => e = .returned (.bool (totB l)) ∧ Below w.heap.size w w'
  obtain ⟨w1, hw1⟩ : ∃ W', W' = W.alloc (.cells #[.slice a l.length cap, vk] 40) := ⟨_, rfl⟩
  have b1 : Below W.heap.size W w1 := by rw [hw1]; exact belowA _ _
  have hB : Below w.heap.size w w1 := hb.trans (b1.mono hb.size)
  have t1 : Two w1 W.heap.size (.slice a l.length cap) vk := ⟨by rw [hw1]; exact heapNew _ _⟩
  obtain ⟨y0, y1, _⟩ := t1.cells
  by_cases hl : l.length = 1
  · obtain ⟨c, rfl⟩ : ∃ c, l = [c] := by
      match l, hl with
      | [c], _ => exact ⟨c, rfl⟩
    obtain ⟨g, off, rfl, _, hg, c0, c1⟩ := hx 0 c rfl
    simp only [List.length_cons, List.length_nil, Nat.zero_add] at hw1 y0 ⊢
    have e0 := (b1.cell (p := ⟨g, off + 0 * 2, none⟩) hg).trans c0
    have e1 := (b1.cell (p := ⟨g, off + 0 * 2 + 1, none⟩) hg).trans c1
    simp only [Nat.zero_mul, Nat.add_zero] at e0 e1
    have HT := totB_one c
    have H1 : Hid (_ = _) := hw1
    have hc1 := c.1.isLt
    have hc2 := c.2.isLt
    clear hw1 hx hr c0 c1 b1 t1
    go_enter Tryz.func57, Tryz.ntmps57
    go_upto_region 1 with fail
    rw [← H1.out]
    by_cases h1 : c.1 = 0
    · by_cases h2 : c.2 = 0
      · obtain ⟨x, y⟩ := c
        dsimp only at h1 h2
        subst h1 h2
        have HE : Hid (totB [((0, 0) : C)] = true) := (by rw [HT]; rfl : _ = _)
        go_wp2_with fail
        go_ret
        exact ⟨by first | rfl | (rw [HE.out]; rfl), hB⟩
      · have q2 : (((c.2.val : Int) == 0) : Bool) = false := by simp; omega
        have HE : Hid (totB [c] = false) := (by rw [HT, decide_eq_false h2, Bool.and_false] : _ = _)
        go_wp2_with fail
        go_ret
        exact ⟨by first | rfl | (rw [HE.out]; rfl), hB⟩
    · have q1 : (((c.1.val : Int) == 0) : Bool) = false := by simp; omega
      have HE : Hid (totB [c] = false) := (by rw [HT, decide_eq_false h1]; rfl : _ = _)
      go_wp2_with fail
      go_ret
      exact ⟨by first | rfl | (rw [HE.out]; rfl), hB⟩
  · have HT : Hid (totB l = false) := totB_no hl
    have hl2 : (((l.length : Int) == 1) : Bool) = false := by simp; omega
    have H1 : Hid (_ = _) := hw1
    obtain ⟨n, hn⟩ : ∃ n, n = l.length := ⟨_, rfl⟩
    rw [← hn] at y0 hl2 H1 ⊢
    clear hw1 hx hr b1 t1 hn hl
    go_enter Tryz.func57, Tryz.ntmps57
    go_upto_region 1 with fail
    rw [← H1.out]
    go_wp2_with fail
    go_ret
    exact ⟨by rw [HT.out]; rfl, hB⟩
theorem idx_none (a : Option Addr) (c : Nat) (fv : Value) (w : World) : Calls Tryz.prog 56 #[.slice a 0 c, fv] w fun e w' => e = .returned (.int .i64 (-1)) ∧ w' = w := by
  go_enter Tryz.func56, Tryz.ntmps56
  go_wp2
  go_loopw [8] (fun i wr => i = .int .i64 0 ∧ wr = w) (fun _ _ => 0)
  case atStart => exact ⟨rfl, rfl⟩
  case round =>
    obtain ⟨rfl, hw⟩ := hrel
    replace hw := hw.symm
    subst hw
    go_wp2
    go_ret
    exact ⟨rfl, rfl⟩
set_option maxRecDepth 100000 in
theorem total_any (l : List (List C × List Tm)) (v : Value) (w : World) (hS : SyT Tt w (TmIn Tt w) l v) (hl : l.length ≤ 100000) : Calls Tryz.prog 22 #[v] w fun e w' => e = .returned (.int .i64 (totF (l.map Prod.fst))) ∧ Below w.heap.size w w' := by
  obtain ⟨a, c, rfl⟩ := hS.len
  have c1 : Calls Tryz.prog 56 #[.slice a l.length c, .func (.func 57) #[] #[]] w fun e w' => e = .returned (.int .i64 (totF (l.map Prod.fst))) ∧ Below w.heap.size w w' := by
    by_cases hz : l = []
    · subst hz
      refine (idx_none _ _ _ _).mono ?_
      rintro e w' ⟨rfl, rfl⟩
      exact ⟨rfl, Below.refl _ _⟩
    · obtain ⟨g, off, rfl, hg, zs, hn, hm, hc⟩ := sy_rows hS hz
      have hcon := AnyQ.slices_IndexFunc idxB 2 Tryz.isAgg40 Tryz.sizeOf40 (encB (w := w)) (fun _ => rfl) (fun x => totB x.1.1) 57 #[] tot1_eg g off l.length c zs w (tot1_any w) (by omega) (by omega) hg (fun j hj i u hi => by
        have h1 := hc j hj
        have e : zs[j]! = zs[j] := getElem!_pos zs j hj
        rw [e] at hi
        match i, hi with
        | 0, hi => simp [encB] at hi; rw [← hi]; exact h1.1
        | 1, hi => simp [encB] at hi; rw [← hi]; exact h1.2
        | i + 2, hi => simp [encB] at hi)
      rw [List.take_of_length_le (by omega)] at hcon
      have e := idx_tot zs 0 default
      unfold Lib.idxBy at hcon
      rw [e, hm] at hcon
      exact hcon
  obtain ⟨n, hn⟩ : ∃ n, n = l.length := ⟨_, rfl⟩
  obtain ⟨T, hT⟩ : ∃ n, n = totF (l.map Prod.fst) := ⟨_, rfl⟩
  rw [← hn, ← hT] at c1 ⊢
  clear hn hS hl hT
  go_enter Tryz.func22, Tryz.ntmps22
  go_wp2_with fail
  refine c1.mono ?_
  rintro e w1 ⟨rfl, b1⟩
  clear c1
  go_wp2_with fail
  go_ret
  exact ⟨rfl, b1⟩
/-! ### the document's -/
end Go.Proofs.YtpmmbfngogpinaaGreat

namespace Go.Proofs.YtpmmbfngogpinaaGreat
open Go.RowKit
set_option linter.unusedVariables false
set_option linter.unusedSimpArgs false

def wEnds : List (List C × List Tm) := [([((0, 1) : C)], [wU]), ([((1, 0) : C)], [wU])]
theorem we_face : sysF (wEnds.map Prod.fst) = ([((0, 1) : C), ((1, 0) : C)], 0) := by decide +kernel
theorem we_tot : totF (wEnds.map Prod.fst) = -1 := by decide +kernel
theorem we_undE : undE 15 ((1, 0) : C) wEnds = 0 := by kernel_rfl
theorem we_undS : undS 15 ((1, 0) : C) wEnds = [([top0], [wU])] := by kernel_rfl
theorem we_tot2 : totF ([([top0], [wU])].map (Prod.fst (α := List C) (β := List Tm))) = 0 := by decide +kernel
theorem we_b1 : blk (tS wEnds) ≤ 20000 := by decide +kernel
theorem we_b2 : blk (itT 15 wEnds) ≤ 20000 ∧ capT (itT 15 wEnds) ≤ 40000 := by decide +kernel
theorem rowc_in (w : World) (g : Nat) (c : C) (h : w.heap[g]? = some (.cells #[.int .u32 (c.1.val : Int), .int .u32 (c.2.val : Int)] 38 (0, 0))) : ClRow Tt w [c] (.slice (some ⟨g, 0, none⟩) 1 1) := by
  refine ⟨_, _, rfl, Nat.le_refl _, fun j x hx => ?_⟩
  have hj : j = 0 := by have := some_lt hx; simp at this; omega
  subst hj
  simp only [List.getElem?_cons_zero, Option.some.injEq] at hx
  subst hx
  refine ⟨g, 0, rfl, trivial, (Array.getElem?_eq_some_iff.1 h).1, ?_, ?_⟩ <;> (unfold World.cell?; simp [h])
theorem row2c_in (w : World) (g : Nat) (h : w.heap[g]? = some (.cells #[.int .u32 0, .int .u32 1, .int .u32 1, .int .u32 0] 38 (0, 0))) : ClRow Tt w [((0, 1) : C), ((1, 0) : C)] (.slice (some ⟨g, 0, none⟩) 2 2) := by
  refine ⟨_, _, rfl, Nat.le_refl _, fun j x hx => ?_⟩
  have hj : j = 0 ∨ j = 1 := by have := some_lt hx; simp at this; omega
  rcases hj with rfl | rfl
  · simp only [List.getElem?_cons_zero, Option.some.injEq] at hx
    subst hx
    refine ⟨g, 0, rfl, trivial, (Array.getElem?_eq_some_iff.1 h).1, ?_, ?_⟩ <;> (unfold World.cell?; simp [h])
  · simp only [List.getElem?_cons_succ, List.getElem?_cons_zero, Option.some.injEq] at hx
    subst hx
    refine ⟨g, 0, rfl, trivial, (Array.getElem?_eq_some_iff.1 h).1, ?_, ?_⟩ <;> (unfold World.cell?; simp [h])
theorem ends_in (w : World) (g1 g2 g3 g4 g5 : Nat) (h1 : w.heap[g1]? = some (.cells #[.int .u32 0, .int .u32 1] 38 (0, 0))) (h2 : w.heap[g2]? = some (.cells #[.int .i64 3, .int .i64 0, .string ⟨#[]⟩, .slice none 0 0, .slice none 0 0, .slice none 0 0] 26 (0, 0)))
    (h3 : w.heap[g3]? = some (.cells #[.int .u32 1, .int .u32 0] 38 (0, 0))) (h4 : w.heap[g4]? = some (.cells #[.int .i64 3, .int .i64 0, .string ⟨#[]⟩, .slice none 0 0, .slice none 0 0, .slice none 0 0] 26 (0, 0)))
    (h5 : w.heap[g5]? = some (.cells #[.slice (some ⟨g1, 0, none⟩) 1 1, .slice (some ⟨g2, 0, none⟩) 1 1, .slice (some ⟨g3, 0, none⟩) 1 1, .slice (some ⟨g4, 0, none⟩) 1 1] 40 (0, 0))) :
    SyT Tt w (TmIn Tt w) wEnds (.slice (some ⟨g5, 0, none⟩) 2 2) := by
  refine ⟨_, _, rfl, Nat.le_refl _, fun j x hx => ?_⟩
  have hj : j = 0 ∨ j = 1 := by have := some_lt hx; simp [wEnds] at this; omega
  rcases hj with rfl | rfl
  · simp only [wEnds, List.getElem?_cons_zero, Option.some.injEq] at hx
    subst hx
    refine ⟨g5, 0, _, _, rfl, trivial, (Array.getElem?_eq_some_iff.1 h5).1, rowc_in w g1 ((0, 1) : C) h1, wKids1 w g2 h2, ?_, ?_⟩ <;> (unfold World.cell?; simp [h5])
  · simp only [wEnds, List.getElem?_cons_succ, List.getElem?_cons_zero, Option.some.injEq] at hx
    subst hx
    refine ⟨g5, 0, _, _, rfl, trivial, (Array.getElem?_eq_some_iff.1 h5).1, rowc_in w g3 ((1, 0) : C) h3, wKids1 w g4 h4, ?_, ?_⟩ <;> (unfold World.cell?; simp [h5])
theorem heapAt (w : World) (o : Obj) (n : Nat) (h : w.heap.size = n) : (w.alloc o).heap[n]? = some o := by rw [← h]; exact heapNew w o
theorem heapOld {w : World} {o o' : Obj} {n : Nat} (h : w.heap[n]? = some o) : (w.alloc o').heap[n]? = some o := (Below.heap_alloc _ _ _ (Array.getElem?_eq_some_iff.1 h).1).trans h
set_option maxRecDepth 100000 in
set_option maxHeartbeats 8000000 in
theorem ends_any (w : World) : Calls Tryz.prog 53 #[] w fun e w' => ∃ g, e = .returned (.slice (some ⟨g, 0, none⟩) 2 2) ∧ SyT Tt w' (TmIn Tt w') wEnds (.slice (some ⟨g, 0, none⟩) 2 2) ∧ Below w.heap.size w w' := by
  obtain ⟨U, hU⟩ : ∃ U, U = w.heap.size := ⟨_, rfl⟩
  obtain ⟨wu, hwu⟩ : ∃ W, W = w.alloc (.cells #[.int .i64 3, .int .i64 0, .string ⟨#[]⟩, .slice none 0 0, .slice none 0 0, .slice none 0 0] 26) := ⟨_, rfl⟩
  have su : wu.heap.size = U + 1 := by rw [hwu, hU]; simp
  have nu : Six wu U (.int .i64 3) (.int .i64 0) (.string ⟨#[]⟩) (.slice none 0 0) (.slice none 0 0) (.slice none 0 0) := ⟨by rw [hwu, hU]; exact heapNew _ _⟩
  have bu : Below w.heap.size w wu := by rw [hwu]; exact belowA _ _
  obtain ⟨wa, hwa⟩ : ∃ W, W = wu.alloc (.cells #[.int .u32 0, .int .u32 1] 38) := ⟨_, rfl⟩
  have sa : wa.heap.size = U + 2 := by rw [hwa]; simp; omega
  have ba : Below wu.heap.size wu wa := by rw [hwa]; exact belowA _ _
  obtain ⟨wb, hwb⟩ : ∃ W, W = wa.alloc (.cells #[.int .i64 3, .int .i64 0, .string ⟨#[]⟩, .slice none 0 0, .slice none 0 0, .slice none 0 0] 26) := ⟨_, rfl⟩
  have sb : wb.heap.size = U + 3 := by rw [hwb]; simp; omega
  have bb : Below wa.heap.size wa wb := by rw [hwb]; exact belowA _ _
  obtain ⟨wc, hwc⟩ : ∃ W, W = wb.alloc (.cells #[.int .u32 1, .int .u32 0] 38) := ⟨_, rfl⟩
  have sc : wc.heap.size = U + 4 := by rw [hwc]; simp; omega
  have bc : Below wb.heap.size wb wc := by rw [hwc]; exact belowA _ _
  obtain ⟨wd, hwd⟩ : ∃ W, W = wc.alloc (.cells #[.int .i64 3, .int .i64 0, .string ⟨#[]⟩, .slice none 0 0, .slice none 0 0, .slice none 0 0] 26) := ⟨_, rfl⟩
  have sd : wd.heap.size = U + 5 := by rw [hwd]; simp; omega
  have bd : Below wc.heap.size wc wd := by rw [hwd]; exact belowA _ _
  obtain ⟨we, hwe⟩ : ∃ W, W = wd.alloc (.cells #[.slice (some ⟨U + 1, 0, none⟩) 1 1, .slice (some ⟨U + 2, 0, none⟩) 1 1, .slice (some ⟨U + 3, 0, none⟩) 1 1, .slice (some ⟨U + 4, 0, none⟩) 1 1] 40) := ⟨_, rfl⟩
  have be : Below wd.heap.size wd we := by rw [hwe]; exact belowA _ _
  have k1 : we.heap[U + 1]? = some (.cells #[.int .u32 0, .int .u32 1] 38 (0, 0)) := by rw [hwe, hwd, hwc, hwb, hwa]; exact heapOld (heapOld (heapOld (heapOld (heapAt _ _ _ su))))
  have k2 : we.heap[U + 2]? = some (.cells #[.int .i64 3, .int .i64 0, .string ⟨#[]⟩, .slice none 0 0, .slice none 0 0, .slice none 0 0] 26 (0, 0)) := by rw [hwe, hwd, hwc, hwb]; exact heapOld (heapOld (heapOld (heapAt _ _ _ sa)))
  have k3 : we.heap[U + 3]? = some (.cells #[.int .u32 1, .int .u32 0] 38 (0, 0)) := by rw [hwe, hwd, hwc]; exact heapOld (heapOld (heapAt _ _ _ sb))
  have k4 : we.heap[U + 4]? = some (.cells #[.int .i64 3, .int .i64 0, .string ⟨#[]⟩, .slice none 0 0, .slice none 0 0, .slice none 0 0] 26 (0, 0)) := by rw [hwe, hwd]; exact heapOld (heapAt _ _ _ sc)
  have k5 : we.heap[U + 5]? = some (.cells #[.slice (some ⟨U + 1, 0, none⟩) 1 1, .slice (some ⟨U + 2, 0, none⟩) 1 1, .slice (some ⟨U + 3, 0, none⟩) 1 1, .slice (some ⟨U + 4, 0, none⟩) 1 1] 40 (0, 0)) := by rw [hwe]; exact heapAt _ _ _ sd
  have HEn : Hid (SyT Tt we (TmIn Tt we) wEnds (.slice (some ⟨U + 5, 0, none⟩) 2 2)) := ends_in we _ _ _ _ _ k1 k2 k3 k4 k5
  have bF : Below w.heap.size w we := bchain (bchain (bchain (bchain (bchain bu ba) bb) bc) bd) be
  obtain ⟨y0, y1, y2, y3, y4, y5, _⟩ := (nu.blw ba).cells
  obtain ⟨z0, z1, z2, z3, z4, z5, _⟩ := (((nu.blw ba).blw bb).blw bc).cells
  have Hu : Hid (_ = _) := hwu
  have HU : Hid (U = w.heap.size) := hU
  have Ha : Hid (_ = _) := hwa
  have Hb : Hid (_ = _) := hwb
  have Hc : Hid (_ = _) := hwc
  have Hd : Hid (_ = _) := hwd
  have He : Hid (_ = _) := hwe
  have Hs : Hid (wu.heap.size = U + 1 ∧ wa.heap.size = U + 2 ∧ wb.heap.size = U + 3 ∧ wc.heap.size = U + 4 ∧ wd.heap.size = U + 5) := ⟨su, sa, sb, sc, sd⟩
  clear hwu hwa hwb hwc hwd hwe k1 k2 k3 k4 k5 bu ba bb bc bd be nu su sa sb sc sd hU
  go_enter Tryz.func53, Tryz.ntmps53
  go_upto_region 2 with fail
  simp only [← HU.out]
  rw [← Hu.out]
  rw [Ha.out] at y0 y1 y2 y3 y4 y5
  rw [Hc.out, Hb.out, Ha.out] at z0 z1 z2 z3 z4 z5
  go_wp2_with fail
  rw [← Ha.out, ← Hb.out, ← Hc.out, ← Hd.out]
  simp only [Hs.out.1, Hs.out.2.1, Hs.out.2.2.1, Hs.out.2.2.2.1, Hs.out.2.2.2.2]
  rw [← He.out]
  go_ret
  exact ⟨U + 5, rfl, HEn.out, bF⟩
set_option maxRecDepth 100000 in
set_option maxHeartbeats 8000000 in
theorem works14_any (w : World) : Calls Tryz.prog 19 #[] w fun e w' => e = .returned (.bool true) ∧ Below w.heap.size w w' := by
  have c1 := ends_any w
  go_enter Tryz.func19, Tryz.ntmps19
  go_wp2_with fail
  refine c1.mono ?_
  rintro e w1 ⟨g1, rfl, h1, b1⟩
  clear c1
  have c2 := sface_any wEnds _ w1 h1 we_b1
  rw [we_face] at c2
  dsimp only at c2
  clear h1
  go_wp2_with fail
  refine c2.mono ?_
  rintro e w2 ⟨v2, rfl, hO2, b2⟩
  clear c2
  have B2 := bchain b1 b2
  obtain ⟨a2, k2, hv2⟩ := OwnsC.len hO2
  subst hv2
  have HR : Hid (∀ V, Below w2.heap.size w2 V → CRow V (.slice a2 2 k2) [((0, 1) : C), ((1, 0) : C)]) := fun V q => (OwnsC.row hO2).below q
  simp only [List.length_cons, List.length_nil, Nat.zero_add, Nat.reduceAdd]
  clear hO2 b1 b2
  have c3 := ends_any w2
  go_wp2_with fail
  refine c3.mono ?_
  rintro e w3 ⟨g3, rfl, h3, b3⟩
  clear c3
  have c4 := sunder_any 15 ⟨by decide, by decide⟩ wEnds _ w3 h3 ((1, 0) : C) we_b2.1 we_b2.2
  rw [we_undE, we_undS] at c4
  have c4 : Calls Tryz.prog 27 #[.int .i64 15, .slice (some ⟨g3, 0, none⟩) 2 2, .agg #[.int .u32 1, .int .u32 0]] w3 fun e w' => ∃ v', e = .returned (.tuple #[v', .int .i64 0]) ∧ SyT Tt w' (TmIn Tt w') [([top0], [wU])] v' ∧ Below w3.heap.size w3 w' := c4
  clear h3
  go_wp2_with fail
  refine c4.mono ?_
  rintro e w4 ⟨v4, rfl, h4, b4⟩
  clear c4
  have b24 := bchain b3 b4
  obtain ⟨a4, k4, hv4⟩ := h4.len
  subst hv4
  have HS4 : Hid (∀ V, Below w4.heap.size w4 V → SyT Tt V (TmIn Tt V) [([top0], [wU])] (.slice a4 1 k4)) := fun V q => h4.blw q
  simp only [List.length_cons, List.length_nil, Nat.zero_add, Nat.reduceAdd]
  obtain ⟨w5, hw5⟩ : ∃ W, W = w4.alloc (.cells #[.int .u32 0, .int .u32 1, .int .u32 1, .int .u32 0] 38) := ⟨_, rfl⟩
  have b5 : Below w4.heap.size w4 w5 := by rw [hw5]; exact belowA _ _
  have m5 : w5.heap[w4.heap.size]? = some (.cells #[.int .u32 0, .int .u32 1, .int .u32 1, .int .u32 0] 38 (0, 0)) := by rw [hw5]; exact heapNew _ _
  have c5 := same_any [((0, 1) : C), ((1, 0) : C)] [((0, 1) : C), ((1, 0) : C)] _ _ w5 (HR.out w5 (bchain b24 b5)) (row2c_in w5 w4.heap.size m5).row (by simp)
  rw [decide_eq_true rfl] at c5
  have H5 : Hid (_ = _) := hw5
  clear hw5 m5 h4
  go_wp2_with fail
  rw [← H5.out]
  refine c5.mono ?_
  rintro e w6 ⟨rfl, b6⟩
  clear c5 H5
  have b46 := bchain b5 b6
  have c6 := ends_any w6
  go_wp2_with fail
  refine c6.mono ?_
  rintro e w7 ⟨g7, rfl, h7, b7⟩
  clear c6
  have b47 := bchain b46 b7
  have c7 := total_any wEnds _ w7 h7 (by decide)
  rw [we_tot] at c7
  clear h7
  go_wp2_with fail
  refine c7.mono ?_
  rintro e w8 ⟨rfl, b8⟩
  clear c7
  have b48 := bchain b47 b8
  have c8 := total_any _ _ w8 (HS4.out w8 b48) (by decide)
  rw [we_tot2] at c8
  go_wp2_with fail
  refine c8.mono ?_
  rintro e w9 ⟨rfl, b9⟩
  clear c8
  have bF := bchain B2 (bchain b24 (bchain b48 b9))
  go_wp2_with fail
  go_ret
  exact ⟨rfl, bF⟩
end Go.Proofs.YtpmmbfngogpinaaGreat

namespace Go.Proofs.YtpmmbfngogpinaaGreat
open Go.RowKit
set_option linter.unusedVariables false
set_option linter.unusedSimpArgs false

theorem assert_errno (v : Value) (w : World) : (Instr.typeAssert (.iface 30 v) 20 30 false).run Tryz.prog w = .ok v w := by
  simp [Instr.typeAssert, run_underlying Tryz.underlying30]
set_option maxRecDepth 100000 in
set_option maxHeartbeats 1000000 in
theorem lcatch_panicking (q : Nat) (a x : Int) (older : List PanicEntry) (w : World) (hq : q < w.heap.size) (c0 : w.cell? ⟨q, 0, none⟩ = some (.int .i64 a)) (z0 : w.frozen? ⟨q, 0, none⟩ = false) :
    CallsD Tryz.prog 155 #[.pointer (some ⟨q, 0, none⟩)] (.panicking ({ v := .iface 30 (.int .i64 x), recovered := false } :: older)) w fun e u' w' =>
      e = .returned (.tuple #[]) ∧ u' = .panicking ({ v := .iface 30 (.int .i64 x), recovered := true } :: older) ∧ w' = w.setCell ⟨q, 0, none⟩ (.int .i64 x) := by
  refine callsD_of_wpS Tryz.func155 rfl fun c₀ cs hu => ?_
  apply wpS_seq
  apply wpS_region
  simp [wpOpsS, go_sem, recoverD, hu, Tryz.ntmps155, Exit.thenS]
  refine wpS_of_wp ?_
  change Code.wp Tryz.prog _ _ { tmps := #[.pointer (some ⟨q, 0, none⟩), .iface 30 (.int .i64 x), .iface 30 (.int .i64 x), undef, undef, undef, undef], defers := [] } w
  have hta := fun w => assert_errno (.int .i64 x) w
  go_wp2_with fail
  simp +zetaDelta [bodyPostS, results, Tryz.results155]
theorem lcatch_idle (q : Nat) (w : World) :
    CallsD Tryz.prog 155 #[.pointer (some ⟨q, 0, none⟩)] .returning w fun e u' w' => e = .returned (.tuple #[]) ∧ u' = .returning ∧ w' = w := by
  refine callsD_of_wpS Tryz.func155 rfl fun c₀ cs hu => ?_
  apply wpS_seq
  apply wpS_region
  simp [wpOpsS, go_sem, recoverD, hu, Tryz.ntmps155, Exit.thenS]
  refine wpS_of_wp ?_
  change Code.wp Tryz.prog _ _ { tmps := #[.pointer (some ⟨q, 0, none⟩), .nilIface, .nilIface, undef, undef, undef, undef], defers := [] } w
  go_wp2_with fail
  cases c₀
  simp_all +zetaDelta [bodyPostS, results, Tryz.results155]
/-- The term that is told with a refusal. -/
def zeroT : Tm := .mk 0 0 ⟨#[]⟩ [] [] []
theorem zeroT_in (ok : Nat → Prop) (w : World) : TmIn ok w zeroT (.agg #[.int .i64 0, .int .i64 0, .string ⟨#[]⟩, .slice none 0 0, .slice none 0 0, .slice none 0 0]) :=
  TmIn.mk 0 0 ⟨#[]⟩ [] [] [] _ _ _ (by unfold I64; omega) (by unfold I64; omega) (cl_nil _ _) (kt_nil _ _ _) (sy_nil _ _ _)
/-- What a lift tells of a whole term. -/
def ansL (s : Sf) (t : Tm) : Tm := if erT s t 0 0 = 0 then liT s t 0 0 else zeroT
set_option maxRecDepth 100000 in
set_option maxHeartbeats 4000000 in
theorem lterm_any {s : Sf} (hL : ∀ N, LfC s N) (t : Tm) (v : Value) (w : World) (hv : TmIn Tt w t v) (hf : Fm t) (hb : blk t ≤ 40000) :
    Calls Tryz.prog 116 #[.agg #[.int .i64 s.vf, .int .i64 s.vb, .int .i64 s.df, .int .i64 s.db], v] w fun e w' => ∃ v', e = .returned (.tuple #[v', .int .i64 (erT s t 0 0)]) ∧ TmIn (OkN w.heap.size w') w' (ansL s t) v' ∧ Below w.heap.size w w' := by
  obtain ⟨ra, rc, ka, kc, sa, sc, rfl, ht⟩ := hv.form
  obtain ⟨wa, hwa⟩ : ∃ W, W = ((w.alloc (.cells #[.int .i64 s.vf, .int .i64 s.vb, .int .i64 s.df, .int .i64 s.db] 128)).alloc (.cells #[.int .i64 t.kind, .int .i64 t.n, .string t.name, .slice ra t.r.length rc, .slice ka t.kids.length kc, .slice sa t.sys.length sc] 26)) := ⟨_, rfl⟩
  have sa' : wa.heap.size = w.heap.size + 2 := by rw [hwa]; simp
  have ba : Below w.heap.size w wa := by rw [hwa]; exact bchain (belowA _ _) (belowA _ _)
  obtain ⟨wb, hwb⟩ : ∃ W, W = (wa.alloc (.cells #[.int .i64 0, .int .i64 0, .string ⟨#[]⟩, .slice none 0 0, .slice none 0 0, .slice none 0 0] 26)).alloc (.cells #[.int .i64 0] 30) := ⟨_, rfl⟩
  have sb' : wb.heap.size = w.heap.size + 4 := by rw [hwb]; simp; omega
  have bb : Below wa.heap.size wa wb := by rw [hwb]; exact bchain (belowA _ _) (belowA _ _)
  obtain ⟨X, hX⟩ : ∃ X, X = w.heap.size := ⟨_, rfl⟩
  obtain ⟨w2, hw2⟩ : ∃ W, W = wb.alloc (.cells #[.func (.func 156) #[] #[.pointer (some ⟨X, 0, none⟩), .pointer (some ⟨X + 4, 0, none⟩)]] 152) := ⟨_, rfl⟩
  have b2 : Below wb.heap.size wb w2 := by rw [hw2]; exact belowA _ _
  have s2 : w2.heap.size = X + 5 := by rw [hw2]; simp; omega
  have bw2 := bchain (bchain ba bb) b2
  have ma : wa.heap[X]? = some (.cells #[.int .i64 s.vf, .int .i64 s.vb, .int .i64 s.df, .int .i64 s.db] 128 (0, 0)) := by rw [hwa, hX]; exact (Below.heap_alloc _ _ _ (by simp)).trans (heapNew w _)
  have mt : wa.heap[X + 1]? = some (.cells #[.int .i64 t.kind, .int .i64 t.n, .string t.name, .slice ra t.r.length rc, .slice ka t.kids.length kc, .slice sa t.sys.length sc] 26 (0, 0)) := by
    rw [hwa, hX]; have := heapNew (w.alloc (.cells #[.int .i64 s.vf, .int .i64 s.vb, .int .i64 s.df, .int .i64 s.db] 128)) (.cells #[.int .i64 t.kind, .int .i64 t.n, .string t.name, .slice ra t.r.length rc, .slice ka t.kids.length kc, .slice sa t.sys.length sc] 26); rwa [World.size_alloc] at this
  have mr : Six wb (X + 2) (.int .i64 0) (.int .i64 0) (.string ⟨#[]⟩) (.slice none 0 0) (.slice none 0 0) (.slice none 0 0) := ⟨by
    rw [hwb]; refine (Below.heap_alloc _ _ _ (by simp; omega)).trans ?_
    have := heapNew wa (.cells #[.int .i64 0, .int .i64 0, .string ⟨#[]⟩, .slice none 0 0, .slice none 0 0, .slice none 0 0] 26); rwa [sa', ← hX] at this⟩
  have me : wb.heap[X + 3]? = some (.cells #[.int .i64 0] 30 (0, 0)) := by
    rw [hwb]; have := heapNew (wa.alloc (.cells #[.int .i64 0, .int .i64 0, .string ⟨#[]⟩, .slice none 0 0, .slice none 0 0, .slice none 0 0] 26)) (.cells #[.int .i64 0] 30); rwa [World.size_alloc, sa', ← hX] at this
  have mf : w2.heap[X + 4]? = some (.cells #[.func (.func 156) #[] #[.pointer (some ⟨X, 0, none⟩), .pointer (some ⟨X + 4, 0, none⟩)]] 152 (0, 0)) := by
    rw [hw2]; have := heapNew wb (.cells #[.func (.func 156) #[] #[.pointer (some ⟨X, 0, none⟩), .pointer (some ⟨X + 4, 0, none⟩)]] 152); rwa [sb', ← hX] at this
  have bab := bchain bb b2
  have hE : LEnv w2 s X (X + 4) := ⟨(bab.block X (by omega)).trans ma, mf⟩
  have h6 : Cs6 w2 (X + 1) 0 t ra rc ka kc sa sc := cs6_of ((bab.block (X + 1) (by omega)).trans mt)
  have cc : Calls Tryz.prog 156 #[.pointer (some ⟨X + 1, 0, none⟩), .agg #[.int .i64 0, .int .i64 0], .pointer (some ⟨X, 0, none⟩), .pointer (some ⟨X + 4, 0, none⟩)] w2 fun e w' => LOut (erT s t 0 0) (TmIn (OkN w2.heap.size w') w' (liT s t 0 0)) e ∧ Below w2.heap.size w2 w' :=
    hL _ t 0 0 (X + 1) 0 X (X + 4) ra rc ka kc sa sc w2 hE h6 (ht.blw bw2) hf (Nat.le_refl _) (by omega) (by omega) hb
  have HZ2 : Hid (∀ W, Below w2.heap.size w2 W → Six W (X + 2) (.int .i64 0) (.int .i64 0) (.string ⟨#[]⟩) (.slice none 0 0) (.slice none 0 0) (.slice none 0 0) ∧ W.heap[X + 3]? = some (.cells #[.int .i64 0] 30 (0, 0))) := fun W q => by
    have q2 := bchain b2 q
    exact ⟨mr.blw q2, (q2.block (X + 3) (by omega)).trans me⟩
  have HB : Hid (∀ W, Below w2.heap.size w2 W → Below X w W) := fun W q => by rw [hX]; exact bchain bw2 q
  have HA : Hid (ansL s t = if erT s t 0 0 = 0 then liT s t 0 0 else zeroT) := (rfl : _ = _)
  obtain ⟨er, her⟩ : ∃ e, e = erT s t 0 0 := ⟨_, rfl⟩
  obtain ⟨T, hT⟩ : ∃ T, T = liT s t 0 0 := ⟨_, rfl⟩
  rw [← her, ← hT] at cc HA
  rw [← her, ← hX]
  have cf := hE.fn
  have hmk := mkfn
  have eg := lf_eg
  have HW : Hid (w2 = ((((w.alloc (.cells #[.int .i64 s.vf, .int .i64 s.vb, .int .i64 s.df, .int .i64 s.db] 128)).alloc (.cells #[.int .i64 t.kind, .int .i64 t.n, .string t.name, .slice ra t.r.length rc, .slice ka t.kids.length kc, .slice sa t.sys.length sc] 26)).alloc (.cells #[.int .i64 0, .int .i64 0, .string ⟨#[]⟩, .slice none 0 0, .slice none 0 0, .slice none 0 0] 26)).alloc (.cells #[.int .i64 0] 30)).alloc (.cells #[.func (.func 156) #[] #[.pointer (some ⟨w.heap.size, 0, none⟩), .pointer (some ⟨w.heap.size + 4, 0, none⟩)]] 152)) := (by rw [hw2, hwb, hwa, hX] : _ = _)
  have HX : Hid (X = w.heap.size) := hX
  have Hs2 : Hid (w2.heap.size = X + 5) := s2
  clear hwa hwb hw2 ba bb b2 bw2 sa' sb' ma mt mr me mf bab hE h6 ht hv hf her hT hX s2 hL hb
  go_enter_defers Tryz.func116, Tryz.ntmps116
  go_upto_region 4 with fail
  rw [← HW.out]
  simp only [← HX.out]
  clear HW
  go_wp2_with fail
  refine cc.mono ?_
  rintro e w3 ⟨⟨h0, v3, rfl, hv3⟩ | ⟨hne, rfl⟩, hb3⟩
  · clear cc cf
    obtain ⟨ra2, rc2, ka2, kc2, sa2, sc2, rfl, ht2⟩ := hv3.form
    obtain ⟨z3, e3⟩ := HZ2.out w3 hb3
    have hs2 := Hs2.out
    have hs3 := hb3.size
    obtain ⟨w4, hw4⟩ : ∃ W, W = (((((w3.setCell ⟨X + 2, 0, none⟩ (.int .i64 T.kind)).setCell ⟨X + 2, 1, none⟩ (.int .i64 T.n)).setCell ⟨X + 2, 2, none⟩ (.string T.name)).setCell ⟨X + 2, 3, none⟩ (.slice ra2 T.r.length rc2)).setCell ⟨X + 2, 4, none⟩ (.slice ka2 T.kids.length kc2)).setCell ⟨X + 2, 5, none⟩ (.slice sa2 T.sys.length sc2) := ⟨_, rfl⟩
    have k4 : Kn (fun q => q ≠ X + 2) w3 w4 := by rw [hw4]; exact (((((kn_set _ _ _ _).trans (kn_set _ _ _ _)).trans (kn_set _ _ _ _)).trans (kn_set _ _ _ _)).trans (kn_set _ _ _ _)).trans (kn_set _ _ _ _)
    have z4 := z3.set6 (.int .i64 T.kind) (.int .i64 T.n) (.string T.name) (.slice ra2 T.r.length rc2) (.slice ka2 T.kids.length kc2) (.slice sa2 T.sys.length sc2)
    rw [← hw4] at z4
    have e4 := (k4.block (X + 3) (by omega) (by omega)).trans e3
    have c40 : w4.cell? ⟨X + 3, 0, none⟩ = some (.int .i64 0) := by simp [World.cell?, e4]
    have c4f : w4.frozen? ⟨X + 3, 0, none⟩ = false := by simp [World.frozen?, e4]
    obtain ⟨w5, hw5⟩ : ∃ W, W = w4.setCell ⟨X + 3, 0, none⟩ (.int .i64 0) := ⟨_, rfl⟩
    have k5 : Kn (fun q => q ≠ X + 3) w4 w5 := by rw [hw5]; exact kn_set _ _ _ _
    have z5 := z4.kn k5 (by omega)
    have c5 : w5.cell? ⟨X + 3, 0, none⟩ = some (.int .i64 0) := by rw [hw5]; exact World.cell?_setCell_same' _ _ _ (by rw [c40]; rfl)
    have HTm : Hid (TmIn (OkN X w5) w5 T (.agg #[.int .i64 T.kind, .int .i64 T.n, .string T.name, .slice ra2 T.r.length rc2, .slice ka2 T.kids.length kc2, .slice sa2 T.sys.length sc2])) := by
      have hA : ∀ q, OkN w2.heap.size w3 q → w5.heap[q]? = w3.heap[q]? := fun q hq => (k5.block q (by have := hq.1; omega) (by have := hq.lt; have := k4.size; omega)).trans (k4.block q (by have := hq.1; omega) hq.lt)
      exact ht2.value.keep (Nat.le_trans k4.size k5.size) (fun q hq => (hq.same (hA q hq)).mono (by omega)) (fun q hq _ => hA q hq)
    have b5 : Below X w w5 := ((HB.out w3 hb3).trans (k4.below (fun q hq => by omega) (by omega))).trans (k5.below (fun q hq => by omega) (by have := k4.size; omega))
    obtain ⟨o0, o1, o2, o3, o4, o5, ff⟩ := z3.cells
    have f0 := ff 0
    have f1 := ff 1
    have f2 := ff 2
    have f3 := ff 3
    have f4 := ff 4
    have f5 := ff 5
    obtain ⟨d0, d1, d2, d3, d4, d5, _⟩ := z5.cells
    have H4 : Hid (_ = _) := hw4
    have H5 : Hid (_ = _) := hw5
    have Hc4 : Hid (_ ∧ _) := (⟨c40, c4f⟩ : w4.cell? ⟨X + 3, 0, none⟩ = some (.int .i64 0) ∧ w4.frozen? ⟨X + 3, 0, none⟩ = false)
    have p40 : (((((((w3.setCell ⟨X + 2, 0, none⟩ (.int .i64 T.kind)).setCell ⟨X + 2, 1, none⟩ (.int .i64 T.n)).setCell ⟨X + 2, 2, none⟩ (.string T.name)).setCell ⟨X + 2, 3, none⟩ (.slice ra2 T.r.length rc2)).setCell ⟨X + 2, 4, none⟩ (.slice ka2 T.kids.length kc2)).setCell ⟨X + 2, 5, none⟩ (.slice sa2 T.sys.length sc2)).cell? ⟨X + 3, 0, none⟩ = some (.int .i64 0)) := by rw [← hw4]; exact c40
    have p4f : (((((((w3.setCell ⟨X + 2, 0, none⟩ (.int .i64 T.kind)).setCell ⟨X + 2, 1, none⟩ (.int .i64 T.n)).setCell ⟨X + 2, 2, none⟩ (.string T.name)).setCell ⟨X + 2, 3, none⟩ (.slice ra2 T.r.length rc2)).setCell ⟨X + 2, 4, none⟩ (.slice ka2 T.kids.length kc2)).setCell ⟨X + 2, 5, none⟩ (.slice sa2 T.sys.length sc2)).frozen? ⟨X + 3, 0, none⟩ = false) := by rw [← hw4]; exact c4f
    clear hw4 hw5 z3 z4 z5 k4 k5 ff e3 e4 ht2 hv3 c40 c4f hs2 hs3
    go_wp2_with fail
    rw [← H4.out, ← H5.out]
    refine leaves_cons (f := 155) (args := #[.pointer (some ⟨X + 3, 0, none⟩)]) (by simp) (by simp [go_sem]) ?_
    refine (lcatch_idle _ _).mono ?_
    rintro e u' w'' ⟨rfl, rfl, rfl⟩
    refine ⟨.tuple #[.agg #[.int .i64 T.kind, .int .i64 T.n, .string T.name, .slice ra2 T.r.length rc2, .slice ka2 T.kids.length kc2, .slice sa2 T.sys.length sc2], .int .i64 0], by simp only [results, Tryz.results116]; simp [go_sem, d0, d1, d2, d3, d4, d5, c5], _, by rw [h0], by rw [HA.out, if_pos h0]; exact HTm.out, b5⟩
  · clear cc cf
    obtain ⟨z3, e3⟩ := HZ2.out w3 hb3
    have hs2 := Hs2.out
    have hs3 := hb3.size
    have c30 : w3.cell? ⟨X + 3, 0, none⟩ = some (.int .i64 0) := by simp [World.cell?, e3]
    have c3f : w3.frozen? ⟨X + 3, 0, none⟩ = false := by simp [World.frozen?, e3]
    refine leaves_cons (f := 155) (args := #[.pointer (some ⟨X + 3, 0, none⟩)]) (by simp) (by simp [go_sem]) ?_
    refine (lcatch_panicking (X + 3) 0 er [] w3 (by omega) c30 c3f).mono ?_
    rintro e u' w5 ⟨rfl, rfl, hw5⟩
    have k5 : Kn (fun q => q ≠ X + 3) w3 w5 := by rw [hw5]; exact kn_set _ _ _ _
    have z5 := z3.kn k5 (by omega)
    have c5 : w5.cell? ⟨X + 3, 0, none⟩ = some (.int .i64 er) := by rw [hw5]; exact World.cell?_setCell_same' _ _ _ (by rw [c30]; rfl)
    have b5 : Below X w w5 := (HB.out w3 hb3).trans (k5.below (fun q hq => by omega) (by omega))
    obtain ⟨d0, d1, d2, d3, d4, d5, _⟩ := z5.cells
    refine ⟨.tuple #[.agg #[.int .i64 0, .int .i64 0, .string ⟨#[]⟩, .slice none 0 0, .slice none 0 0, .slice none 0 0], .int .i64 er], by simp only [results, Tryz.results116]; simp [go_sem, d0, d1, d2, d3, d4, d5, c5], _, rfl, by rw [HA.out, if_neg hne]; exact zeroT_in _ _, b5⟩
end Go.Proofs.YtpmmbfngogpinaaGreat

namespace Go.Proofs.YtpmmbfngogpinaaGreat
open Go.RowKit
set_option linter.unusedVariables false
set_option linter.unusedSimpArgs false

/-- A term that may be may be lifted. -/
theorem fm_of_ok {o : Bool} {V : Int} {D : Nat} : ∀ (n : Nat) (t : Tm) (bv bd : Nat), blk t ≤ n → okT o V D t bv bd = true → Fm t
  | 0, t, bv, bd, hn, h => by have := blk_pos t; omega
  | n + 1, t, bv, bd, hn, h => by
    rw [ok_eq, Bool.and_eq_true] at h
    obtain ⟨h1, h2⟩ := h
    rw [List.all_eq_true] at h2
    unfold Tm.node nodeB at h1
    simp only [Bool.and_eq_true] at h1
    obtain ⟨⟨⟨⟨⟨_, _⟩, hnum⟩, _⟩, hrow⟩, _⟩ := h1
    rw [fm_eq]
    refine ⟨?_, fun hk => ?_, fun x hx => ?_, fun b hb x hx => ?_⟩
    · unfold numB at hnum
      split at hnum
      · simp only [Bool.and_eq_true, decide_eq_true_eq] at hnum; exact hnum.1
      · simp only [decide_eq_true_eq] at hnum; omega
    · unfold rowB at hrow
      rw [hk, if_neg (by omega), if_neg (by omega)] at hrow
      exact List.length_eq_zero_iff.1 (by simpa using hrow)
    · obtain ⟨i, hi⟩ := List.mem_iff_getElem?.1 hx
      exact fm_of_ok n x _ _ (by have := blk_kid hx; omega) (h2 _ (pts_kid hi))
    · exact fm_of_ok n x _ _ (by have := blk_sub hb hx; omega) (h2 _ (pts_sys hb hx))
theorem fm_of_wrong {t : Tm} (h : wrongN true 0 0 t = 0) : Fm t := by
  unfold wrongN at h
  split at h
  · cases h
  · split at h
    · rename_i h2; exact fm_of_ok _ t 0 0 (Nat.le_refl _) h2
    · cases h
/-- What is refused ahead of all lifting. -/
def wrL (ot by_ : Int) (t : Tm) : Int := if wrongN true 0 0 t = 0 then (if ot < 0 ∨ by_ < 0 ∨ 1000000 < by_ then 2 else 0) else ((wrongN true 0 0 t : Nat) : Int)
set_option maxRecDepth 100000 in
set_option maxHeartbeats 2000000 in
theorem lwrong_any (t : Tm) (v : Value) (w : World) (hv : TmIn Tt w t v) (hb : blk t ≤ 20000) (ot by_ : Int) : Calls Tryz.prog 115 #[v, .int .i64 ot, .int .i64 by_] w fun e w' => e = .returned (.int .i64 (wrL ot by_ t)) ∧ Below w.heap.size w w' := by
  obtain ⟨ra, rc, ka, kc, sa, sc, rfl, ht⟩ := hv.form
  obtain ⟨w1, hw1⟩ : ∃ W, W = w.alloc (.cells #[.int .i64 t.kind, .int .i64 t.n, .string t.name, .slice ra t.r.length rc, .slice ka t.kids.length kc, .slice sa t.sys.length sc] 26) := ⟨_, rfl⟩
  have b1 : Below w.heap.size w w1 := by rw [hw1]; exact belowA _ _
  obtain ⟨_, y0, y1, y2, y3, y4, y5⟩ : Cs6 w1 w.heap.size 0 t ra rc ka kc sa sc := by rw [hw1]; exact cs6_new w t ra rc ka kc sa sc
  simp only [Nat.zero_add] at y1 y2 y3 y4 y5
  have cc := formed_any t _ w1 (ht.blw b1).value hb
  have HA : Hid (wrL ot by_ t = if wrongN true 0 0 t = 0 then (if ot < 0 ∨ by_ < 0 ∨ 1000000 < by_ then 2 else 0) else ((wrongN true 0 0 t : Nat) : Int)) := (rfl : _ = _)
  obtain ⟨f, hf⟩ : ∃ f, f = wrongN true 0 0 t := ⟨_, rfl⟩
  rw [← hf] at cc HA
  have HW : Hid (_ = _) := hw1
  clear hw1 hf hv ht
  go_enter Tryz.func115, Tryz.ntmps115
  go_upto_region 1 with fail
  rw [← HW.out]
  clear HW
  go_wp2_with fail
  refine cc.mono ?_
  rintro e w2 ⟨rfl, b2⟩
  have b12 := bchain b1 b2
  clear cc y0 y1 y2 y3 y4 y5
  by_cases h0 : f = 0
  · subst h0
    rw [if_pos rfl] at HA
    by_cases h1 : ot < 0
    · have HR : Hid (wrL ot by_ t = 2) := (by rw [HA.out, if_pos (.inl h1)] : _ = _)
      go_wp2_with fail
      go_ret
      exact ⟨by rw [HR.out]; rfl, b12⟩
    · by_cases h2 : by_ < 0
      · have HR : Hid (wrL ot by_ t = 2) := (by rw [HA.out, if_pos (.inr (.inl h2))] : _ = _)
        go_wp2_with fail
        go_ret
        exact ⟨by rw [HR.out]; rfl, b12⟩
      · by_cases h3 : 1000000 < by_
        · have HR : Hid (wrL ot by_ t = 2) := (by rw [HA.out, if_pos (.inr (.inr h3))] : _ = _)
          go_wp2_with fail
          go_ret
          exact ⟨by rw [HR.out]; rfl, b12⟩
        · have HR : Hid (wrL ot by_ t = 0) := (by rw [HA.out, if_neg (by omega)] : _ = _)
          go_wp2_with fail
          go_ret
          exact ⟨by rw [HR.out]; rfl, b12⟩
  · have HR : Hid (wrL ot by_ t = (f : Int)) := (by rw [HA.out, if_neg h0] : _ = _)
    have h01 : ((f : Int) == 0) = false := by simp; omega
    have h02 : ¬ (f : Int) = 0 := by omega
    go_wp2_with fail
    go_ret
    exact ⟨by rw [HR.out]; rfl, b12⟩
def LAll : Prop := ∀ s : Sf, s.ok → ∀ N, LfC s N
end Go.Proofs.YtpmmbfngogpinaaGreat

namespace Go.Proofs.YtpmmbfngogpinaaGreat
open Go.RowKit
set_option linter.unusedVariables false
set_option linter.unusedSimpArgs false

theorem mem_liK {s : Sf} {k : Int} {l : List Tm} {bv bd : Nat} {y : Tm} (h : y ∈ liK s k l bv bd) : ∃ i x, l[i]? = some x ∧ y = liT s x (bv + bvK k i) (bd + bdK k i) := by
  unfold liK at h
  obtain ⟨p, hp, rfl⟩ := List.mem_map.1 h
  exact ⟨p.2, p.1, List.mem_zipIdx_iff_getElem?.1 hp, rfl⟩
theorem rowP_nil1 (s : Sf) (bd : Nat) : (rowP s bd []).1 = [] := by
  unfold rowP
  split
  · rfl
  · have e1 : rightF [] = true := by decide
    have e2 : leastF [] = ([], 0) := by decide
    simp [liftFF, liftS, e1, e2]
theorem fm_li {s : Sf} (hs : 0 ≤ s.vb) : ∀ (n : Nat) (t : Tm) (bv bd : Nat), blk t ≤ n → Fm t → Fm (liT s t bv bd)
  | 0, t, bv, bd, hn, h => by have := blk_pos t; omega
  | n + 1, t, bv, bd, hn, h => by
    obtain ⟨h0, h1, h2, h3⟩ := (fm_eq t).1 h
    rw [li_eq, fm_eq]
    refine ⟨?_, fun hk => ?_, fun y hy => ?_, fun b hb y hy => ?_⟩
    · show 0 ≤ numV s bv t.kind t.n
      unfold numV; split <;> omega
    · show (rowP s bd t.r).1 = []
      rw [h1 hk]; exact rowP_nil1 s bd
    · obtain ⟨i, x, hx, rfl⟩ := mem_liK hy
      have hm := List.mem_of_getElem? hx
      exact fm_li hs n x _ _ (by have := blk_kid hm; omega) (h2 x hm)
    · obtain ⟨c, hc, rfl⟩ := List.mem_map.1 hb
      obtain ⟨x, hx, rfl⟩ := List.mem_map.1 hy
      exact fm_li hs n x _ _ (by have := blk_sub hc hx; omega) (h3 c hc x hx)
/-! ### how great it is -/
theorem keepAll_len (l : List C) : (lstN l).length ≤ l.length := by
  have h1 : ∀ (c : C) (l : List C), (insC c l).length ≤ l.length + 1 := by
    intro c l
    induction l with
    | nil => simp [insC]
    | cons d l ih =>
      unfold insC
      split
      · simp
      · split
        · simp
        · simp; omega
  have h2 : ∀ l : List C, (ordC l).length ≤ l.length := by
    intro l
    induction l with
    | nil => simp [ordC]
    | cons c l ih => have := h1 c (ordC l); show (insC c (ordC l)).length ≤ _; simp; omega
  have h3 : ∀ l : List C, (keepAll l).length ≤ l.length := fun l => by
    have : ∀ (l a : List C), (l.foldl keep a).length ≤ a.length + l.length := by
      intro l
      induction l with
      | nil => intro a; simp
      | cons c l ih =>
        intro a
        have h1 := ih (keep a c)
        have h2 : (keep a c).length ≤ a.length + 1 := by unfold keep; split <;> simp
        show ((l.foldl keep (keep a c))).length ≤ _
        simp only [List.length_cons]
        omega
    have := this l []
    unfold keepAll
    simpa using this
  exact Nat.le_trans (h3 _) (h2 l)
theorem leastF_le (l : List C) : (leastF l).1.length ≤ l.length := by
  unfold leastF
  split
  · split
    · exact keepAll_len l
    · simp
  · simp
theorem rowP_len (s : Sf) (bd : Nat) (r : List C) : (rowP s bd r).1.length ≤ r.length := by
  unfold rowP
  split
  · exact Nat.le_refl _
  · unfold liftFF
    split
    · split
      · exact Nat.le_trans (leastF_le _) (liftS_len r _ _)
      · simp
    · simp
theorem sum_zip {f : Tm → Nat} : ∀ (l : List Tm) (g : Tm × Nat → Tm) (i : Nat), (∀ p ∈ l.zipIdx i, f (g p) ≤ f p.1) → ((l.zipIdx i).map fun p => f (g p)).sum ≤ (l.map f).sum
  | [], g, i, h => by simp
  | x :: l, g, i, h => by
    have h1 := h (x, i) (by simp)
    have h2 := sum_zip l g (i + 1) (fun p hp => h p (by simp [hp]))
    simp only [List.zipIdx_cons, List.map_cons, List.sum_cons]
    have h1 : f (g (x, i)) ≤ f x := h1
    omega
theorem blk_li {s : Sf} : ∀ (n : Nat) (t : Tm) (bv bd : Nat), blk t ≤ n → blk (liT s t bv bd) ≤ blk t
  | 0, t, bv, bd, hn => by have := blk_pos t; omega
  | n + 1, t, bv, bd, hn => by
    have e := blk_eq (liT s t bv bd)
    rw [li_eq] at e
    rw [li_eq, e, blk_eq t]
    have h1 := rowP_len s bd t.r
    have h2 : blkL (liK s t.kind t.kids bv bd) ≤ blkL t.kids := by
      unfold blkL liK
      rw [List.map_map]
      refine sum_zip t.kids (fun p => liT s p.1 (bv + bvK t.kind p.2) (bd + bdK t.kind p.2)) 0 (fun p hp => ?_)
      have hm := List.mem_of_getElem? (List.mem_zipIdx_iff_getElem?.1 hp)
      exact blk_li n p.1 _ _ (by have := blk_kid hm; omega)
    have h3 : blkS (t.sys.map fun b => liB s t.kind b bv bd) ≤ blkS t.sys := by
      unfold blkS
      rw [List.map_map]
      refine sumN_le fun b hb => ?_
      have h4 := rowP_len s bd b.1
      have h5 : blkL (b.2.map fun x => liT s x bv (bd + moreK t.kind)) ≤ blkL b.2 := by
        unfold blkL
        rw [List.map_map]
        exact sumN_le fun x hx => blk_li n x _ _ (by have := blk_sub hb hx; omega)
      show 1 + (rowP s bd b.1).1.length + blkL (b.2.map fun x => liT s x bv (bd + moreK t.kind)) ≤ _
      omega
    dsimp only at *
    omega
end Go.Proofs.YtpmmbfngogpinaaGreat

namespace Go.Proofs.YtpmmbfngogpinaaGreat
open Go.RowKit
set_option linter.unusedVariables false
set_option linter.unusedSimpArgs false

/-- What Both tells, and why not. -/
def bothE (vs ds : Int) (t : Tm) : Int := if wrL ds vs t = 0 then (if erT ⟨0, vs, 0, 0⟩ t 0 0 = 0 then (if 1000000 < ds then 2 else erT ⟨0, 0, 0, ds⟩ (liT ⟨0, vs, 0, 0⟩ t 0 0) 0 0) else erT ⟨0, vs, 0, 0⟩ t 0 0) else wrL ds vs t
def bothT (vs ds : Int) (t : Tm) : Tm := if bothE vs ds t = 0 then liT ⟨0, 0, 0, ds⟩ (liT ⟨0, vs, 0, 0⟩ t 0 0) 0 0 else zeroT
set_option maxRecDepth 100000 in
set_option maxHeartbeats 4000000 in
theorem lboth_any (hLA : LAll) (t : Tm) (v : Value) (w : World) (hv : TmIn Tt w t v) (hb : blk t ≤ 20000) (vs ds : Int) :
    Calls Tryz.prog 70 #[v, .int .i64 vs, .int .i64 ds] w fun e w' => ∃ v', e = .returned (.tuple #[v', .int .i64 (bothE vs ds t)]) ∧ TmIn (OkN w.heap.size w') w' (bothT vs ds t) v' ∧ Below w.heap.size w w' := by
  obtain ⟨ra, rc, ka, kc, sa, sc, rfl, ht⟩ := hv.form
  obtain ⟨w1, hw1⟩ : ∃ W, W = (w.alloc (.cells #[.int .i64 t.kind, .int .i64 t.n, .string t.name, .slice ra t.r.length rc, .slice ka t.kids.length kc, .slice sa t.sys.length sc] 26)).alloc (.cells #[.int .i64 0, .int .i64 0, .string ⟨#[]⟩, .slice none 0 0, .slice none 0 0, .slice none 0 0] 26) := ⟨_, rfl⟩
  have b1 : Below w.heap.size w w1 := by rw [hw1]; exact bchain (belowA _ _) (belowA _ _)
  obtain ⟨X, hX⟩ : ∃ X, X = w.heap.size := ⟨_, rfl⟩
  have s1 : w1.heap.size = X + 2 := by rw [hw1, hX]; simp
  have x1 : Six w1 X (.int .i64 t.kind) (.int .i64 t.n) (.string t.name) (.slice ra t.r.length rc) (.slice ka t.kids.length kc) (.slice sa t.sys.length sc) := ⟨by rw [hX, hw1]; exact (Below.heap_alloc _ _ _ (by simp)).trans (heapNew w _)⟩
  have x2 : Six w1 (X + 1) (.int .i64 0) (.int .i64 0) (.string ⟨#[]⟩) (.slice none 0 0) (.slice none 0 0) (.slice none 0 0) := ⟨by
    rw [hX, hw1]; have := heapNew (w.alloc (.cells #[.int .i64 t.kind, .int .i64 t.n, .string t.name, .slice ra t.r.length rc, .slice ka t.kids.length kc, .slice sa t.sys.length sc] 26)) (.cells #[.int .i64 0, .int .i64 0, .string ⟨#[]⟩, .slice none 0 0, .slice none 0 0, .slice none 0 0] 26); rwa [World.size_alloc] at this⟩
  have HC : Hid (∀ W, Below w1.heap.size w1 W → Six W X (.int .i64 t.kind) (.int .i64 t.n) (.string t.name) (.slice ra t.r.length rc) (.slice ka t.kids.length kc) (.slice sa t.sys.length sc)) := fun W q => x1.blw q
  have HZ : Hid (∀ W, Below w1.heap.size w1 W → Six W (X + 1) (.int .i64 0) (.int .i64 0) (.string ⟨#[]⟩) (.slice none 0 0) (.slice none 0 0) (.slice none 0 0)) := fun W q => x2.blw q
  have HT : Hid (∀ W, Below w1.heap.size w1 W → TmIn Tt W t (.agg #[.int .i64 t.kind, .int .i64 t.n, .string t.name, .slice ra t.r.length rc, .slice ka t.kids.length kc, .slice sa t.sys.length sc])) := fun W q => ((ht.blw b1).blw q).value
  have HB : Hid (∀ W, Below w1.heap.size w1 W → Below X w W) := fun W q => by rw [hX]; exact bchain b1 q
  have HXs : Hid (X = w.heap.size) := hX
  have Hs1 : Hid (w1.heap.size = X + 2) := s1
  have HW : Hid (_ = _) := hw1
  have cw := lwrong_any t _ w1 (HT.out w1 (Below.refl _ _)) hb ds vs
  have HE : Hid (bothE vs ds t = if wrL ds vs t = 0 then (if erT ⟨0, vs, 0, 0⟩ t 0 0 = 0 then (if 1000000 < ds then 2 else erT ⟨0, 0, 0, ds⟩ (liT ⟨0, vs, 0, 0⟩ t 0 0) 0 0) else erT ⟨0, vs, 0, 0⟩ t 0 0) else wrL ds vs t) := (rfl : _ = _)
  have HTt : Hid (bothT vs ds t = if bothE vs ds t = 0 then liT ⟨0, 0, 0, ds⟩ (liT ⟨0, vs, 0, 0⟩ t 0 0) 0 0 else zeroT) := (rfl : _ = _)
  have HOk : Hid (wrL ds vs t = 0 → (Sf.mk 0 vs 0 0).ok ∧ Fm t ∧ 0 ≤ ds ∧ 0 ≤ vs) := fun h => by
    unfold wrL at h
    split at h
    · rename_i h1
      split at h
      · cases h
      · rename_i h2
        exact ⟨by refine ⟨?_, ?_, ?_, ?_, ?_, ?_, ?_, ?_⟩ <;> dsimp only <;> omega, fm_of_wrong h1, by omega, by omega⟩
    · omega
  obtain ⟨e0, he0⟩ : ∃ e, e = wrL ds vs t := ⟨_, rfl⟩
  rw [← he0] at cw HE HOk
  clear he0
  rw [← hX]
  clear hw1 hX s1 x1 x2 hv ht b1
  go_enter Tryz.func70, Tryz.ntmps70
  go_upto_region 1 with fail
  rw [← HW.out]
  simp only [← HXs.out]
  clear HW
  obtain ⟨y0, y1, y2, y3, y4, y5, _⟩ := (HC.out w1 (Below.refl _ _)).cells
  go_wp2_with fail
  refine cw.mono ?_
  rintro e w2 ⟨rfl, b2⟩
  clear cw y0 y1 y2 y3 y4 y5
  by_cases hz : e0 = 0
  · subst hz
    obtain ⟨hok, hfm, hds, hvs⟩ := HOk.out rfl
    rw [if_pos rfl] at HE
    have ct := lterm_any (hLA _ hok) t _ w2 (HT.out w2 b2) hfm (by omega)
    obtain ⟨y0, y1, y2, y3, y4, y5, _⟩ := (HC.out w2 b2).cells
    have hfL : Fm (liT ⟨0, vs, 0, 0⟩ t 0 0) := fm_li (s := ⟨0, vs, 0, 0⟩) hvs _ t 0 0 (Nat.le_refl _) hfm
    have hbL : blk (liT ⟨0, vs, 0, 0⟩ t 0 0) ≤ 20000 := Nat.le_trans (blk_li (s := ⟨0, vs, 0, 0⟩) _ t 0 0 (Nat.le_refl _)) hb
    have HAn : Hid (ansL ⟨0, vs, 0, 0⟩ t = if erT ⟨0, vs, 0, 0⟩ t 0 0 = 0 then liT ⟨0, vs, 0, 0⟩ t 0 0 else zeroT) := (rfl : _ = _)
    obtain ⟨er, her⟩ : ∃ e, e = erT ⟨0, vs, 0, 0⟩ t 0 0 := ⟨_, rfl⟩
    obtain ⟨LT, hLT⟩ : ∃ T, T = liT ⟨0, vs, 0, 0⟩ t 0 0 := ⟨_, rfl⟩
    rw [← her, ← hLT] at HE HAn
    rw [← hLT] at HTt hfL hbL
    obtain ⟨T, hT⟩ : ∃ T, T = ansL ⟨0, vs, 0, 0⟩ t := ⟨_, rfl⟩
    rw [← hT] at ct HAn
    rw [← her] at ct
    dsimp only at ct
    clear her hLT hT HOk hok hfm
    go_wp2_with fail
    refine ct.mono ?_
    rintro e w3 ⟨v3, rfl, hv3, b3⟩
    clear ct y0 y1 y2 y3 y4 y5
    have b23 := bchain b2 b3
    have hsz := Hs1.out
    have hs2 := b2.size
    have hs3 := b3.size
    obtain ⟨ra2, rc2, ka2, kc2, sa2, sc2, rfl, ht2⟩ := hv3.form
    by_cases hr : er = 0
    · subst hr
      rw [if_pos rfl] at HE
      have hTL : T = LT := by rw [HAn.out, if_pos rfl]
      subst hTL
      obtain ⟨x9, hx9⟩ : ∃ x, x = w3.heap.size := ⟨_, rfl⟩
      obtain ⟨w4, hw4⟩ : ∃ W, W = w3.alloc (.cells #[.int .i64 T.kind, .int .i64 T.n, .string T.name, .slice ra2 T.r.length rc2, .slice ka2 T.kids.length kc2, .slice sa2 T.sys.length sc2] 26) := ⟨_, rfl⟩
      have b4 : Below w3.heap.size w3 w4 := by rw [hw4]; exact belowA _ _
      have n4 : Six w4 x9 (.int .i64 T.kind) (.int .i64 T.n) (.string T.name) (.slice ra2 T.r.length rc2) (.slice ka2 T.kids.length kc2) (.slice sa2 T.sys.length sc2) := ⟨by rw [hw4, hx9]; exact heapNew _ _⟩
      have b24 := bchain b23 b4
      have hv4 : TmIn Tt w4 T (.agg #[.int .i64 T.kind, .int .i64 T.n, .string T.name, .slice ra2 T.r.length rc2, .slice ka2 T.kids.length kc2, .slice sa2 T.sys.length sc2]) := ((ht2.blw b4).up fun _ _ => trivial).value
      have H4 : Hid (_ = _) := hw4
      have H9 : Hid (x9 = w3.heap.size) := hx9
      have hs4 := b4.size
      clear hw4 hx9 ht2 hv3
      go_upto_region 5 with fail
      rw [← H4.out]
      simp only [← H9.out]
      clear H4
      by_cases hd : 1000000 < ds
      · have hd1 : decide (1000000 < ds) = true := by simpa using hd
        rw [if_pos hd] at HE
        have Hf : Hid (bothE vs ds t = 2 ∧ bothT vs ds t = zeroT) := ⟨HE.out, by rw [HTt.out, if_neg (by rw [HE.out]; omega)]⟩
        clear HE HTt HAn hLA
        have zz := HZ.out w4 b24
        have zz2 := zz.set6 (.int .i64 0) (.int .i64 0) (.string ⟨#[]⟩) (.slice none 0 0) (.slice none 0 0) (.slice none 0 0)
        obtain ⟨o0, o1, o2, o3, o4, o5, ff⟩ := zz.cells
        have f0 := ff 0
        have f1 := ff 1
        have f2 := ff 2
        have f3 := ff 3
        have f4 := ff 4
        have f5 := ff 5
        obtain ⟨h0, h1, h2, h3, h4, h5, _⟩ := zz2.cells
        obtain ⟨wz, hwz⟩ : ∃ W, W = (((((w4.setCell ⟨X + 1, 0, none⟩ (.int .i64 0)).setCell ⟨X + 1, 1, none⟩ (.int .i64 0)).setCell ⟨X + 1, 2, none⟩ (.string ⟨#[]⟩)).setCell ⟨X + 1, 3, none⟩ (.slice none 0 0)).setCell ⟨X + 1, 4, none⟩ (.slice none 0 0)).setCell ⟨X + 1, 5, none⟩ (.slice none 0 0) := ⟨_, rfl⟩
        rw [← hwz] at h0 h1 h2 h3 h4 h5
        have kz : Kn (fun q => q ≠ X + 1) w4 wz := by rw [hwz]; exact (((((kn_set _ _ _ _).trans (kn_set _ _ _ _)).trans (kn_set _ _ _ _)).trans (kn_set _ _ _ _)).trans (kn_set _ _ _ _)).trans (kn_set _ _ _ _)
        have bz : Below X w wz := (HB.out w4 b24).trans (kz.below (fun q hq => by omega) (by have := (HB.out w4 b24).size; have := HXs.out; omega))
        have Hwz : Hid (_ = _) := hwz
        clear hwz ff zz zz2 kz
        go_wp2_with fail
        rw [← Hwz.out]
        exact bodyPost_ret (v := .tuple #[.agg #[.int .i64 0, .int .i64 0, .string ⟨#[]⟩, .slice none 0 0, .slice none 0 0, .slice none 0 0], .int .i64 (2)]) (by simp only [results, Tryz.results70]; simp [go_sem, h0, h1, h2, h3, h4, h5]) rfl ⟨_, by rw [Hf.out.1], by rw [Hf.out.2]; exact zeroT_in _ _, bz⟩
      · have hd1 : decide (1000000 < ds) = false := by simpa using hd
        rw [if_neg hd] at HE
        have c5 := lterm_any (hLA ⟨0, 0, 0, ds⟩ (by refine ⟨?_, ?_, ?_, ?_, ?_, ?_, ?_, ?_⟩ <;> dsimp only <;> omega)) T _ w4 hv4 hfL (by omega)
        have HAn2 : Hid (ansL ⟨0, 0, 0, ds⟩ T = if erT ⟨0, 0, 0, ds⟩ T 0 0 = 0 then liT ⟨0, 0, 0, ds⟩ T 0 0 else zeroT) := (rfl : _ = _)
        have Hf0 : Hid (bothT vs ds t = ansL ⟨0, 0, 0, ds⟩ T) := (by rw [HTt.out, HE.out, HAn2.out] : _ = _)
        obtain ⟨e5, he5⟩ : ∃ e, e = erT ⟨0, 0, 0, ds⟩ T 0 0 := ⟨_, rfl⟩
        obtain ⟨U, hU⟩ : ∃ U, U = ansL ⟨0, 0, 0, ds⟩ T := ⟨_, rfl⟩
        rw [← he5, ← hU] at c5
        rw [← he5] at HE
        rw [← hU] at Hf0
        dsimp only at c5
        have Hf : Hid (bothE vs ds t = e5 ∧ bothT vs ds t = U) := ⟨HE.out, Hf0.out⟩
        clear HE HTt HAn HAn2 Hf0 hLA he5 hU hv4
        obtain ⟨y0, y1, y2, y3, y4, y5, _⟩ := n4.cells
        go_wp2_with fail
        refine c5.mono ?_
        rintro e w5 ⟨v5, rfl, hv5, b5⟩
        clear c5 y0 y1 y2 y3 y4 y5
        obtain ⟨ra5, rc5, ka5, kc5, sa5, sc5, rfl, ht5⟩ := hv5.form
        have htv := ht5.value
        have b25 := bchain b24 b5
        clear ht5 hv5
        have zz := HZ.out w5 b25
        have zz2 := zz.set6 (.int .i64 U.kind) (.int .i64 U.n) (.string U.name) (.slice ra5 U.r.length rc5) (.slice ka5 U.kids.length kc5) (.slice sa5 U.sys.length sc5)
        obtain ⟨o0, o1, o2, o3, o4, o5, ff⟩ := zz.cells
        have f0 := ff 0
        have f1 := ff 1
        have f2 := ff 2
        have f3 := ff 3
        have f4 := ff 4
        have f5 := ff 5
        obtain ⟨h0, h1, h2, h3, h4, h5, _⟩ := zz2.cells
        obtain ⟨wz, hwz⟩ : ∃ W, W = (((((w5.setCell ⟨X + 1, 0, none⟩ (.int .i64 U.kind)).setCell ⟨X + 1, 1, none⟩ (.int .i64 U.n)).setCell ⟨X + 1, 2, none⟩ (.string U.name)).setCell ⟨X + 1, 3, none⟩ (.slice ra5 U.r.length rc5)).setCell ⟨X + 1, 4, none⟩ (.slice ka5 U.kids.length kc5)).setCell ⟨X + 1, 5, none⟩ (.slice sa5 U.sys.length sc5) := ⟨_, rfl⟩
        rw [← hwz] at h0 h1 h2 h3 h4 h5
        have kz : Kn (fun q => q ≠ X + 1) w5 wz := by rw [hwz]; exact (((((kn_set _ _ _ _).trans (kn_set _ _ _ _)).trans (kn_set _ _ _ _)).trans (kn_set _ _ _ _)).trans (kn_set _ _ _ _)).trans (kn_set _ _ _ _)
        have bz : Below X w wz := (HB.out w5 b25).trans (kz.below (fun q hq => by omega) (by have := (HB.out w5 b25).size; have := HXs.out; omega))
        have HTm : Hid (TmIn (OkN X wz) wz U (.agg #[.int .i64 U.kind, .int .i64 U.n, .string U.name, .slice ra5 U.r.length rc5, .slice ka5 U.kids.length kc5, .slice sa5 U.sys.length sc5])) := htv.keep kz.size (fun q hq => (hq.same (kz.block q (by have := hq.1; omega) hq.lt)).mono (by omega)) (fun q hq hs => kz.block q (by have := hq.1; omega) hs)
        have Hwz : Hid (_ = _) := hwz
        clear hwz ff zz zz2 kz htv
        go_wp2_with fail
        rw [← Hwz.out]
        exact bodyPost_ret (v := .tuple #[.agg #[.int .i64 U.kind, .int .i64 U.n, .string U.name, .slice ra5 U.r.length rc5, .slice ka5 U.kids.length kc5, .slice sa5 U.sys.length sc5], .int .i64 (e5)]) (by simp only [results, Tryz.results70]; simp [go_sem, h0, h1, h2, h3, h4, h5]) rfl ⟨_, by rw [Hf.out.1], by rw [Hf.out.2]; exact HTm.out, bz⟩
    · rw [if_neg hr] at HE
      have hr1 : (er == 0) = false := by simpa using hr
      have Hf : Hid (bothE vs ds t = er ∧ bothT vs ds t = zeroT) := ⟨HE.out, by rw [HTt.out, if_neg (by rw [HE.out]; exact hr)]⟩
      obtain ⟨w4, hw4⟩ : ∃ W, W = w3.alloc (.cells #[.int .i64 T.kind, .int .i64 T.n, .string T.name, .slice ra2 T.r.length rc2, .slice ka2 T.kids.length kc2, .slice sa2 T.sys.length sc2] 26) := ⟨_, rfl⟩
      have b4 : Below w3.heap.size w3 w4 := by rw [hw4]; exact belowA _ _
      have b24 := bchain b23 b4
      have H4 : Hid (_ = _) := hw4
      clear hw4 ht2 hv3 HE HTt HAn hLA
      go_upto_region 5 with fail
      rw [← H4.out]
      clear H4
      have zz := HZ.out w4 b24
      have zz2 := zz.set6 (.int .i64 0) (.int .i64 0) (.string ⟨#[]⟩) (.slice none 0 0) (.slice none 0 0) (.slice none 0 0)
      obtain ⟨o0, o1, o2, o3, o4, o5, ff⟩ := zz.cells
      have f0 := ff 0
      have f1 := ff 1
      have f2 := ff 2
      have f3 := ff 3
      have f4 := ff 4
      have f5 := ff 5
      obtain ⟨h0, h1, h2, h3, h4, h5, _⟩ := zz2.cells
      obtain ⟨wz, hwz⟩ : ∃ W, W = (((((w4.setCell ⟨X + 1, 0, none⟩ (.int .i64 0)).setCell ⟨X + 1, 1, none⟩ (.int .i64 0)).setCell ⟨X + 1, 2, none⟩ (.string ⟨#[]⟩)).setCell ⟨X + 1, 3, none⟩ (.slice none 0 0)).setCell ⟨X + 1, 4, none⟩ (.slice none 0 0)).setCell ⟨X + 1, 5, none⟩ (.slice none 0 0) := ⟨_, rfl⟩
      rw [← hwz] at h0 h1 h2 h3 h4 h5
      have kz : Kn (fun q => q ≠ X + 1) w4 wz := by rw [hwz]; exact (((((kn_set _ _ _ _).trans (kn_set _ _ _ _)).trans (kn_set _ _ _ _)).trans (kn_set _ _ _ _)).trans (kn_set _ _ _ _)).trans (kn_set _ _ _ _)
      have bz : Below X w wz := (HB.out w4 b24).trans (kz.below (fun q hq => by omega) (by have := (HB.out w4 b24).size; have := HXs.out; omega))
      have Hwz : Hid (_ = _) := hwz
      clear hwz ff zz zz2 kz
      go_wp2_with fail
      rw [← Hwz.out]
      exact bodyPost_ret (v := .tuple #[.agg #[.int .i64 0, .int .i64 0, .string ⟨#[]⟩, .slice none 0 0, .slice none 0 0, .slice none 0 0], .int .i64 (er)]) (by simp only [results, Tryz.results70]; simp [go_sem, h0, h1, h2, h3, h4, h5]) rfl ⟨_, by rw [Hf.out.1], by rw [Hf.out.2]; exact zeroT_in _ _, bz⟩
  · rw [if_neg hz] at HE
    have hz1 : (e0 == 0) = false := by simpa using hz
    have hsz := Hs1.out
    have Hf : Hid (bothE vs ds t = e0 ∧ bothT vs ds t = zeroT) := ⟨HE.out, by rw [HTt.out, if_neg (by rw [HE.out]; exact hz)]⟩
    clear HE HTt HOk hLA
    have zz := HZ.out w2 b2
    have zz2 := zz.set6 (.int .i64 0) (.int .i64 0) (.string ⟨#[]⟩) (.slice none 0 0) (.slice none 0 0) (.slice none 0 0)
    obtain ⟨o0, o1, o2, o3, o4, o5, ff⟩ := zz.cells
    have f0 := ff 0
    have f1 := ff 1
    have f2 := ff 2
    have f3 := ff 3
    have f4 := ff 4
    have f5 := ff 5
    obtain ⟨h0, h1, h2, h3, h4, h5, _⟩ := zz2.cells
    obtain ⟨wz, hwz⟩ : ∃ W, W = (((((w2.setCell ⟨X + 1, 0, none⟩ (.int .i64 0)).setCell ⟨X + 1, 1, none⟩ (.int .i64 0)).setCell ⟨X + 1, 2, none⟩ (.string ⟨#[]⟩)).setCell ⟨X + 1, 3, none⟩ (.slice none 0 0)).setCell ⟨X + 1, 4, none⟩ (.slice none 0 0)).setCell ⟨X + 1, 5, none⟩ (.slice none 0 0) := ⟨_, rfl⟩
    rw [← hwz] at h0 h1 h2 h3 h4 h5
    have kz : Kn (fun q => q ≠ X + 1) w2 wz := by rw [hwz]; exact (((((kn_set _ _ _ _).trans (kn_set _ _ _ _)).trans (kn_set _ _ _ _)).trans (kn_set _ _ _ _)).trans (kn_set _ _ _ _)).trans (kn_set _ _ _ _)
    have bz : Below X w wz := (HB.out w2 b2).trans (kz.below (fun q hq => by omega) (by have := (HB.out w2 b2).size; have := HXs.out; omega))
    have Hwz : Hid (_ = _) := hwz
    clear hwz ff zz zz2 kz
    go_wp2_with fail
    rw [← Hwz.out]
    exact bodyPost_ret (v := .tuple #[.agg #[.int .i64 0, .int .i64 0, .string ⟨#[]⟩, .slice none 0 0, .slice none 0 0, .slice none 0 0], .int .i64 (e0)]) (by simp only [results, Tryz.results70]; simp [go_sem, h0, h1, h2, h3, h4, h5]) rfl ⟨_, by rw [Hf.out.1], by rw [Hf.out.2]; exact zeroT_in _ _, bz⟩
end Go.Proofs.YtpmmbfngogpinaaGreat

namespace Go.Proofs.YtpmmbfngogpinaaGreat
open Go.RowKit
set_option linter.unusedVariables false
set_option linter.unusedSimpArgs false

theorem lAll : LAll := fun s hs N => lf_any hs N
theorem slif1_eg : ∀ args w, (callFunc 69 args).run Tryz.prog w = .ok (.enter 69 args) w := enters_of Tryz.func69 (by kernel_rfl) rfl
theorem stak1_eg : ∀ args w, (callFunc 71 args).run Tryz.prog w = .ok (.enter 71 args) w := enters_of Tryz.func71 (by kernel_rfl) rfl
set_option maxRecDepth 100000 in
set_option maxHeartbeats 8000000 in
theorem slif1_any (vs ds : Int) (B1 B2 : Nat) (w0 : World) (h1 : ∀ W, Below w0.heap.size w0 W → W.cell? ⟨B1, 0, none⟩ = some (.int .i64 vs)) (h2 : ∀ W, Below w0.heap.size w0 W → W.cell? ⟨B2, 0, none⟩ = some (.int .i64 ds)) (t : Tm) (hb : blk t ≤ 20000) (hcp : capT t ≤ 40000) : BecC 69 #[.pointer (some ⟨B1, 0, none⟩), .pointer (some ⟨B2, 0, none⟩)] w0 t (bothT vs ds t) (bothE vs ds t) := fun W v hbW hv => by
  obtain ⟨ra, rc, ka, kc, sa, sc, rfl, ht⟩ := hv.form
  obtain ⟨w1, hw1⟩ : ∃ V, V = (W.alloc (.cells #[.int .i64 t.kind, .int .i64 t.n, .string t.name, .slice ra t.r.length rc, .slice ka t.kids.length kc, .slice sa t.sys.length sc] 26)).alloc (.cells #[.int .i64 0, .int .i64 0, .string ⟨#[]⟩, .slice none 0 0, .slice none 0 0, .slice none 0 0] 26) := ⟨_, rfl⟩
  have b1 : Below W.heap.size W w1 := by rw [hw1]; exact bchain (belowA _ _) (belowA _ _)
  obtain ⟨X, hX⟩ : ∃ X, X = W.heap.size := ⟨_, rfl⟩
  have s1 : w1.heap.size = X + 2 := by rw [hw1, hX]; simp
  have x1 : Six w1 X (.int .i64 t.kind) (.int .i64 t.n) (.string t.name) (.slice ra t.r.length rc) (.slice ka t.kids.length kc) (.slice sa t.sys.length sc) := ⟨by rw [hX, hw1]; exact (Below.heap_alloc _ _ _ (by simp)).trans (heapNew W _)⟩
  have x2 : Six w1 (X + 1) (.int .i64 0) (.int .i64 0) (.string ⟨#[]⟩) (.slice none 0 0) (.slice none 0 0) (.slice none 0 0) := ⟨by
    rw [hX, hw1]; have := heapNew (W.alloc (.cells #[.int .i64 t.kind, .int .i64 t.n, .string t.name, .slice ra t.r.length rc, .slice ka t.kids.length kc, .slice sa t.sys.length sc] 26)) (.cells #[.int .i64 0, .int .i64 0, .string ⟨#[]⟩, .slice none 0 0, .slice none 0 0, .slice none 0 0] 26); rwa [World.size_alloc] at this⟩
  have b01 : Below w0.heap.size w0 w1 := bchain hbW b1

  have cu := lboth_any lAll t _ w1 (ht.blw b1).value hb vs ds
  have z1 := h1 w1 b01
  have z2 := h2 w1 b01
  obtain ⟨T, hT⟩ : ∃ Q, Q = bothT vs ds t := ⟨_, rfl⟩
  obtain ⟨er, her⟩ : ∃ Q, Q = bothE vs ds t := ⟨_, rfl⟩
  rw [← hT, ← her] at cu ⊢
  obtain ⟨y0, y1, y2, y3, y4, y5, _⟩ := x1.cells
  have HW : Hid (_ = _) := hw1
  have HX : Hid (X = W.heap.size) := hX
  rw [← hX]
  clear hw1 hX hv ht hb hcp x1 h1 h2 hT her
  show Calls Tryz.prog 69 #[.agg #[.int .i64 t.kind, .int .i64 t.n, .string t.name, .slice ra t.r.length rc, .slice ka t.kids.length kc, .slice sa t.sys.length sc], .pointer (some ⟨B1, 0, none⟩), .pointer (some ⟨B2, 0, none⟩)] W _
  go_enter Tryz.func69, Tryz.ntmps69
  go_upto_region 1 with fail
  rw [← HW.out]
  simp only [← HX.out]
  clear HW
  go_wp2_with fail
  refine cu.mono ?_
  rintro e w2 ⟨v2, rfl, hv2, b2⟩
  clear cu y0 y1 y2 y3 y4 y5 z1 z2
  obtain ⟨ra2, rc2, ka2, kc2, sa2, sc2, rfl, _⟩ := hv2.form
  have zz := x2.blw b2
  have zz2 := zz.set6 (.int .i64 T.kind) (.int .i64 T.n) (.string T.name) (.slice ra2 T.r.length rc2) (.slice ka2 T.kids.length kc2) (.slice sa2 T.sys.length sc2)
  obtain ⟨o0, o1, o2, o3, o4, o5, ff⟩ := zz.cells
  have f0 := ff 0
  have f1 := ff 1
  have f2 := ff 2
  have f3 := ff 3
  have f4 := ff 4
  have f5 := ff 5
  obtain ⟨w3, hw3⟩ : ∃ V, V = (((((w2.setCell ⟨X + 1, 0, none⟩ (.int .i64 T.kind)).setCell ⟨X + 1, 1, none⟩ (.int .i64 T.n)).setCell ⟨X + 1, 2, none⟩ (.string T.name)).setCell ⟨X + 1, 3, none⟩ (.slice ra2 T.r.length rc2)).setCell ⟨X + 1, 4, none⟩ (.slice ka2 T.kids.length kc2)).setCell ⟨X + 1, 5, none⟩ (.slice sa2 T.sys.length sc2) := ⟨_, rfl⟩
  rw [← hw3] at zz2
  obtain ⟨h0, h1, h2, h3, h4, h5, _⟩ := zz2.cells
  have kz : Kn (fun q => q ≠ X + 1) w2 w3 := by rw [hw3]; exact kn_set6 _ _ _ _ _ _ _ _
  have HTm : Hid (TmIn Tt w3 T (.agg #[.int .i64 T.kind, .int .i64 T.n, .string T.name, .slice ra2 T.r.length rc2, .slice ka2 T.kids.length kc2, .slice sa2 T.sys.length sc2])) := hv2.keep kz.size (fun _ _ => trivial) (fun q hq hs => kz.block q (by have := hq.1; omega) hs)
  have bF : Below X W w3 := by
    rw [HX.out]
    refine (bchain b1 b2).trans (kz.below (fun q hq => ?_) ?_)
    · have := HX.out; omega
    · exact (bchain b1 b2).size
  have H3 : Hid (_ = _) := hw3
  clear hw3 ff zz zz2 kz hv2 x2
  go_wp2_with fail
  rw [← H3.out]
  exact bodyPost_ret (v := .tuple #[.agg #[.int .i64 T.kind, .int .i64 T.n, .string T.name, .slice ra2 T.r.length rc2, .slice ka2 T.kids.length kc2, .slice sa2 T.sys.length sc2], .int .i64 er]) (by simp only [results, Tryz.results69]; simp [go_sem, h0, h1, h2, h3, h4, h5]) rfl ⟨_, rfl, HTm.out, bF⟩
set_option maxRecDepth 100000 in
set_option maxHeartbeats 8000000 in
theorem stak1_any (i : Int) (r : List C) (a : Option Addr) (n m : Nat) (B1 B2 : Nat) (w0 : World) (h1 : ∀ W, Below w0.heap.size w0 W → W.cell? ⟨B1, 0, none⟩ = some (.int .i64 i)) (h2 : ∀ W, Below w0.heap.size w0 W → W.cell? ⟨B2, 0, none⟩ = some (.slice a n m)) (hr : ClRow Tt w0 r (.slice a n m)) (hrl : r.length ≤ 40000) (t : Tm) (hb : blk t ≤ 20000) (hcp : capT t ≤ 40000) : BecC 71 #[.pointer (some ⟨B1, 0, none⟩), .pointer (some ⟨B2, 0, none⟩)] w0 t (takT i r t) (takE i r t) := fun W v hbW hv => by
  obtain ⟨ra, rc, ka, kc, sa, sc, rfl, ht⟩ := hv.form
  obtain ⟨w1, hw1⟩ : ∃ V, V = (W.alloc (.cells #[.int .i64 t.kind, .int .i64 t.n, .string t.name, .slice ra t.r.length rc, .slice ka t.kids.length kc, .slice sa t.sys.length sc] 26)).alloc (.cells #[.int .i64 0, .int .i64 0, .string ⟨#[]⟩, .slice none 0 0, .slice none 0 0, .slice none 0 0] 26) := ⟨_, rfl⟩
  have b1 : Below W.heap.size W w1 := by rw [hw1]; exact bchain (belowA _ _) (belowA _ _)
  obtain ⟨X, hX⟩ : ∃ X, X = W.heap.size := ⟨_, rfl⟩
  have s1 : w1.heap.size = X + 2 := by rw [hw1, hX]; simp
  have x1 : Six w1 X (.int .i64 t.kind) (.int .i64 t.n) (.string t.name) (.slice ra t.r.length rc) (.slice ka t.kids.length kc) (.slice sa t.sys.length sc) := ⟨by rw [hX, hw1]; exact (Below.heap_alloc _ _ _ (by simp)).trans (heapNew W _)⟩
  have x2 : Six w1 (X + 1) (.int .i64 0) (.int .i64 0) (.string ⟨#[]⟩) (.slice none 0 0) (.slice none 0 0) (.slice none 0 0) := ⟨by
    rw [hX, hw1]; have := heapNew (W.alloc (.cells #[.int .i64 t.kind, .int .i64 t.n, .string t.name, .slice ra t.r.length rc, .slice ka t.kids.length kc, .slice sa t.sys.length sc] 26)) (.cells #[.int .i64 0, .int .i64 0, .string ⟨#[]⟩, .slice none 0 0, .slice none 0 0, .slice none 0 0] 26); rwa [World.size_alloc] at this⟩
  have b01 : Below w0.heap.size w0 w1 := bchain hbW b1

  have cu := dtake_any t _ w1 (ht.blw b1).value hb i r _ (hr.blw b01) hrl (Nat.le_trans (cap_ge _).1 (Nat.le_trans (cap_ans (putOp_len _ _) _) hcp))
  have z1 := h1 w1 b01
  have z2 := h2 w1 b01
  obtain ⟨T, hT⟩ : ∃ Q, Q = takT i r t := ⟨_, rfl⟩
  obtain ⟨er, her⟩ : ∃ Q, Q = takE i r t := ⟨_, rfl⟩
  rw [← hT, ← her] at cu ⊢
  obtain ⟨y0, y1, y2, y3, y4, y5, _⟩ := x1.cells
  have HW : Hid (_ = _) := hw1
  have HX : Hid (X = W.heap.size) := hX
  rw [← hX]
  clear hw1 hX hv ht hb hcp x1 h1 h2 hT her hr hrl
  show Calls Tryz.prog 71 #[.agg #[.int .i64 t.kind, .int .i64 t.n, .string t.name, .slice ra t.r.length rc, .slice ka t.kids.length kc, .slice sa t.sys.length sc], .pointer (some ⟨B1, 0, none⟩), .pointer (some ⟨B2, 0, none⟩)] W _
  go_enter Tryz.func71, Tryz.ntmps71
  go_upto_region 1 with fail
  rw [← HW.out]
  simp only [← HX.out]
  clear HW
  go_wp2_with fail
  refine cu.mono ?_
  rintro e w2 ⟨v2, rfl, hv2, b2⟩
  clear cu y0 y1 y2 y3 y4 y5 z1 z2
  obtain ⟨ra2, rc2, ka2, kc2, sa2, sc2, rfl, _⟩ := hv2.form
  have zz := x2.blw b2
  have zz2 := zz.set6 (.int .i64 T.kind) (.int .i64 T.n) (.string T.name) (.slice ra2 T.r.length rc2) (.slice ka2 T.kids.length kc2) (.slice sa2 T.sys.length sc2)
  obtain ⟨o0, o1, o2, o3, o4, o5, ff⟩ := zz.cells
  have f0 := ff 0
  have f1 := ff 1
  have f2 := ff 2
  have f3 := ff 3
  have f4 := ff 4
  have f5 := ff 5
  obtain ⟨w3, hw3⟩ : ∃ V, V = (((((w2.setCell ⟨X + 1, 0, none⟩ (.int .i64 T.kind)).setCell ⟨X + 1, 1, none⟩ (.int .i64 T.n)).setCell ⟨X + 1, 2, none⟩ (.string T.name)).setCell ⟨X + 1, 3, none⟩ (.slice ra2 T.r.length rc2)).setCell ⟨X + 1, 4, none⟩ (.slice ka2 T.kids.length kc2)).setCell ⟨X + 1, 5, none⟩ (.slice sa2 T.sys.length sc2) := ⟨_, rfl⟩
  rw [← hw3] at zz2
  obtain ⟨h0, h1, h2, h3, h4, h5, _⟩ := zz2.cells
  have kz : Kn (fun q => q ≠ X + 1) w2 w3 := by rw [hw3]; exact kn_set6 _ _ _ _ _ _ _ _
  have HTm : Hid (TmIn Tt w3 T (.agg #[.int .i64 T.kind, .int .i64 T.n, .string T.name, .slice ra2 T.r.length rc2, .slice ka2 T.kids.length kc2, .slice sa2 T.sys.length sc2])) := hv2.keep kz.size (fun _ _ => trivial) (fun q hq hs => kz.block q (by have := hq.1; omega) hs)
  have bF : Below X W w3 := by
    rw [HX.out]
    refine (bchain b1 b2).trans (kz.below (fun q hq => ?_) ?_)
    · have := HX.out; omega
    · exact (bchain b1 b2).size
  have H3 : Hid (_ = _) := hw3
  clear hw3 ff zz zz2 kz hv2 x2
  go_wp2_with fail
  rw [← H3.out]
  exact bodyPost_ret (v := .tuple #[.agg #[.int .i64 T.kind, .int .i64 T.n, .string T.name, .slice ra2 T.r.length rc2, .slice ka2 T.kids.length kc2, .slice sa2 T.sys.length sc2], .int .i64 er]) (by simp only [results, Tryz.results71]; simp [go_sem, h0, h1, h2, h3, h4, h5]) rfl ⟨_, rfl, HTm.out, bF⟩
def lifE (k vs ds : Int) (l : List (List C × List Tm)) : Int := itE k (bothE vs ds (itT k l))
def lifS (k vs ds : Int) (l : List (List C × List Tm)) : List (List C × List Tm) := itS k (bothE vs ds (itT k l)) (bothT vs ds (itT k l))
set_option maxRecDepth 100000 in
set_option maxHeartbeats 4000000 in
theorem slift_any (k : Int) (hk : I64 k) (l : List (List C × List Tm)) (v : Value) (w : World) (hS : SyT Tt w (TmIn Tt w) l v) (vs ds : Int) (hb : blk (itT k l) ≤ 20000) (hcp : capT (itT k l) ≤ 40000) :
    Calls Tryz.prog 30 #[.int .i64 k, v, .int .i64 vs, .int .i64 ds] w fun e w' => ∃ v', e = .returned (.tuple #[v', .int .i64 (lifE k vs ds l)]) ∧ SyT Tt w' (TmIn Tt w') (lifS k vs ds l) v' ∧ Below w.heap.size w w' := by
  obtain ⟨w1, hw1⟩ : ∃ V, V = (w.alloc (.cells #[.int .i64 vs] 3)).alloc (.cells #[.int .i64 ds] 3) := ⟨_, rfl⟩
  have b1 : Below w.heap.size w w1 := by rw [hw1]; exact bchain (belowA _ _) (belowA _ _)
  obtain ⟨X, hX⟩ : ∃ X, X = w.heap.size := ⟨_, rfl⟩
  have s1 : w1.heap.size = X + 2 := by rw [hw1, hX]; simp
  have n1 : w1.heap[X]? = some (.cells #[.int .i64 vs] 3 (0, 0)) := by rw [hw1, hX]; exact heapOld (heapNew w _)
  have n2 : w1.heap[X + 1]? = some (.cells #[.int .i64 ds] 3 (0, 0)) := by rw [hw1]; exact heapAt _ _ _ (by rw [hX]; simp)
  have g1 : ∀ W, Below w1.heap.size w1 W → W.cell? ⟨X, 0, none⟩ = some (.int .i64 vs) := fun W q => by
    have h := (q.block X (by omega)).trans n1
    simp [World.cell?, h]
  have g2 : ∀ W, Below w1.heap.size w1 W → W.cell? ⟨X + 1, 0, none⟩ = some (.int .i64 ds) := fun W q => by
    have h := (q.block (X + 1) (by omega)).trans n2
    simp [World.cell?, h]
  have cc := inits_any k hk l v w1 (hS.blw b1) 69 #[.pointer (some ⟨X, 0, none⟩), .pointer (some ⟨X + 1, 0, none⟩)] slif1_eg _ _ (slif1_any vs ds X (X + 1) w1 g1 g2 (itT k l) hb hcp)
  obtain ⟨sa, sc, rfl⟩ := hS.len
  obtain ⟨M, hM⟩ : ∃ M, M = l.length := ⟨_, rfl⟩
  rw [← hM] at cc ⊢
  obtain ⟨E, hE⟩ : ∃ E, E = lifE k vs ds l := ⟨_, rfl⟩
  obtain ⟨S, hSS⟩ : ∃ E, E = lifS k vs ds l := ⟨_, rfl⟩
  have cc : Calls Tryz.prog 60 #[.int .i64 k, .slice sa M sc, .func (.func 69) #[] #[.pointer (some ⟨X, 0, none⟩), .pointer (some ⟨X + 1, 0, none⟩)]] w1 fun e w' => ∃ v', e = .returned (.tuple #[v', .int .i64 E]) ∧ SyT Tt w' (TmIn Tt w') S v' ∧ Below w1.heap.size w1 w' := by rw [hE, hSS]; exact cc
  rw [← hE, ← hSS]
  have H1 : Hid (_ = _) := hw1
  have HX : Hid (X = w.heap.size) := hX
  clear hw1 hS hM hE hSS hb hcp g1 g2 n1 n2 hX
  show Calls Tryz.prog 30 #[.int .i64 k, .slice sa M sc, .int .i64 vs, .int .i64 ds] w _
  go_enter Tryz.func30, Tryz.ntmps30
  go_upto_region 1 with fail
  rw [← H1.out]
  simp only [World.size_alloc, ← HX.out]
  clear H1
  go_wp2_with fail
  refine cc.mono ?_
  rintro e w2 ⟨v2, rfl, hv2, b2⟩
  clear cc
  obtain ⟨sa2, sc2, hvv⟩ := hv2.len
  subst hvv
  have HV : Hid (SyT Tt w2 (TmIn Tt w2) S (.slice sa2 S.length sc2)) := hv2
  have bF := bchain b1 b2
  clear hv2
  go_wp2_with fail
  go_ret2
  exact ⟨_, rfl, HV.out, bF⟩
def tkE (k i : Int) (r : List C) (l : List (List C × List Tm)) : Int := itE k (takE i r (itT k l))
def tkS (k i : Int) (r : List C) (l : List (List C × List Tm)) : List (List C × List Tm) := itS k (takE i r (itT k l)) (takT i r (itT k l))
set_option maxRecDepth 100000 in
set_option maxHeartbeats 4000000 in
theorem stake_any (k : Int) (hk : I64 k) (l : List (List C × List Tm)) (v : Value) (w : World) (hS : SyT Tt w (TmIn Tt w) l v) (i : Int) (r : List C) (vr : Value) (hr : ClRow Tt w r vr) (hrl : r.length ≤ 40000) (hb : blk (itT k l) ≤ 20000) (hcp : capT (itT k l) ≤ 40000) :
    Calls Tryz.prog 31 #[.int .i64 k, v, .int .i64 i, vr] w fun e w' => ∃ v', e = .returned (.tuple #[v', .int .i64 (tkE k i r l)]) ∧ SyT Tt w' (TmIn Tt w') (tkS k i r l) v' ∧ Below w.heap.size w w' := by
  obtain ⟨ar, nr, cr, rfl⟩ : ∃ a n c, vr = .slice a n c := by obtain ⟨a, c, e, _⟩ := hr; exact ⟨a, _, c, e⟩
  obtain ⟨w1, hw1⟩ : ∃ V, V = (w.alloc (.cells #[.int .i64 i] 3)).alloc (.cells #[.slice ar nr cr] 22) := ⟨_, rfl⟩
  have b1 : Below w.heap.size w w1 := by rw [hw1]; exact bchain (belowA _ _) (belowA _ _)
  obtain ⟨X, hX⟩ : ∃ X, X = w.heap.size := ⟨_, rfl⟩
  have s1 : w1.heap.size = X + 2 := by rw [hw1, hX]; simp
  have n1 : w1.heap[X]? = some (.cells #[.int .i64 i] 3 (0, 0)) := by rw [hw1, hX]; exact heapOld (heapNew w _)
  have n2 : w1.heap[X + 1]? = some (.cells #[.slice ar nr cr] 22 (0, 0)) := by rw [hw1]; exact heapAt _ _ _ (by rw [hX]; simp)
  have g1 : ∀ W, Below w1.heap.size w1 W → W.cell? ⟨X, 0, none⟩ = some (.int .i64 i) := fun W q => by
    have h := (q.block X (by omega)).trans n1
    simp [World.cell?, h]
  have g2 : ∀ W, Below w1.heap.size w1 W → W.cell? ⟨X + 1, 0, none⟩ = some (.slice ar nr cr) := fun W q => by
    have h := (q.block (X + 1) (by omega)).trans n2
    simp [World.cell?, h]
  have cc := inits_any k hk l v w1 (hS.blw b1) 71 #[.pointer (some ⟨X, 0, none⟩), .pointer (some ⟨X + 1, 0, none⟩)] stak1_eg _ _ (stak1_any i r ar nr cr X (X + 1) w1 g1 g2 (hr.blw b1) hrl (itT k l) hb hcp)
  obtain ⟨sa, sc, rfl⟩ := hS.len
  obtain ⟨M, hM⟩ : ∃ M, M = l.length := ⟨_, rfl⟩
  rw [← hM] at cc ⊢
  obtain ⟨E, hE⟩ : ∃ E, E = tkE k i r l := ⟨_, rfl⟩
  obtain ⟨S, hSS⟩ : ∃ E, E = tkS k i r l := ⟨_, rfl⟩
  have cc : Calls Tryz.prog 60 #[.int .i64 k, .slice sa M sc, .func (.func 71) #[] #[.pointer (some ⟨X, 0, none⟩), .pointer (some ⟨X + 1, 0, none⟩)]] w1 fun e w' => ∃ v', e = .returned (.tuple #[v', .int .i64 E]) ∧ SyT Tt w' (TmIn Tt w') S v' ∧ Below w1.heap.size w1 w' := by rw [hE, hSS]; exact cc
  rw [← hE, ← hSS]
  have H1 : Hid (_ = _) := hw1
  have HX : Hid (X = w.heap.size) := hX
  clear hw1 hS hM hE hSS hb hcp g1 g2 n1 n2 hX hr hrl
  show Calls Tryz.prog 31 #[.int .i64 k, .slice sa M sc, .int .i64 i, .slice ar nr cr] w _
  go_enter Tryz.func31, Tryz.ntmps31
  go_upto_region 1 with fail
  rw [← H1.out]
  simp only [World.size_alloc, ← HX.out]
  clear H1
  go_wp2_with fail
  refine cc.mono ?_
  rintro e w2 ⟨v2, rfl, hv2, b2⟩
  clear cc
  obtain ⟨sa2, sc2, hvv⟩ := hv2.len
  subst hvv
  have HV : Hid (SyT Tt w2 (TmIn Tt w2) S (.slice sa2 S.length sc2)) := hv2
  have bF := bchain b1 b2
  clear hv2
  go_wp2_with fail
  go_ret2
  exact ⟨_, rfl, HV.out, bF⟩
/-! ### of a system without branches -/
theorem itS_nil {k er : Int} {A : Tm} (h : A.sys = []) : itS k er A = [] := by
  unfold itS
  split
  · rfl
  · split
    · exact h
    · rfl
theorem ansD_nil {o : DOp} {t : Tm} (h : t.sys = []) : (ansD o t).sys = [] := by
  unfold ansD
  first
    | (split
       · rw [d_eq]; show dS o t.kind t.sys 0 = []; rw [h]; rfl
       · rfl)
    | (rw [d_eq]; show dS o t.kind t.sys 0 = []; rw [h]; rfl)
theorem pall_nil {r : List C} : ∀ (l : List Nat) (a : Tm × Int), a.1.sys = [] → (l.foldl (pallS r) a).1.sys = []
  | [], a, h => h
  | i :: l, a, h => by
    rw [List.foldl_cons]
    refine pall_nil l _ ?_
    unfold pallS
    split
    · split
      · exact ansD_nil h
      · rfl
    · exact h
theorem undA_nil {c : C} {t : Tm} (h : t.sys = []) : (undA c t).1.sys = [] := by
  unfold undA
  split
  · split
    · unfold undR pall
      split
      · exact pall_nil _ _ (pall_nil _ _ h)
      · rfl
    · rfl
  · rfl
theorem takT_nil {i : Int} {r : List C} {t : Tm} (h : t.sys = []) : (takT i r t).sys = [] := by
  unfold takT
  split
  · split
    · split
      · exact ansD_nil (ansD_nil h)
      · rfl
    · rfl
  · rfl
theorem bothT_nil {vs ds : Int} {t : Tm} (h : t.sys = []) : (bothT vs ds t).sys = [] := by
  unfold bothT
  split
  · rw [li_eq]
    show (liT ⟨0, vs, 0, 0⟩ t 0 0).sys.map _ = []
    rw [li_eq]
    show (t.sys.map _).map _ = []
    rw [h]; rfl
  · rfl
theorem lifS_nil (k vs ds : Int) : lifS k vs ds [] = [] := itS_nil (bothT_nil rfl)
theorem tkS_nil (k i : Int) (r : List C) : tkS k i r [] = [] := itS_nil (takT_nil rfl)
theorem undS_nil (k : Int) (c : C) : undS k c [] = [] := itS_nil (undA_nil rfl)
end Go.Proofs.YtpmmbfngogpinaaGreat

namespace Go.Proofs.YtpmmbfngogpinaaGreat
open Go.RowKit
set_option linter.unusedVariables false
set_option linter.unusedSimpArgs false

section
open Go.ChangeShapes Go.WideShapes Go.ChangeAt
variable {H : Type} {enc : TypeId × Value → H}
set_option maxRecDepth 100000 in
theorem open_row {W : World} {base : Nat} {v : Value} {d : DataW H} {p : List MemPlace} (hv : Value.okWide Tryz.prog W .any base 22 v) (h : DataW.Trod enc Tryz.prog W 0 (fun _ => true) true 22 v d p) : ∃ l : List C, ClRow Tt W l v := by
  obtain ⟨a0, len, cap, rfl⟩ := okWide_slice Tryz.underlying22 hv
  obtain ⟨fuel, hf⟩ := h
  obtain ⟨l, v', e, hs⟩ := open_cls hf
  have ec : Value.slice a0 len cap = v' := by
    simp [Value.cells] at e
    first | exact e | exact e.symm
  rw [ec]
  exact ⟨l, hs⟩
end
theorem none_b (k : Int) : blk (itT k []) ≤ 20000 ∧ capT (itT k []) ≤ 40000 := by
  have h1 := kidsK_le k
  have e5 : blk wU = 1 := by decide +kernel
  have h2 : blk (itT k []) ≤ 10 := by
    rw [blk_eq]
    have e1 : (itT k []).kids = List.replicate (kidsK k).toNat wU := rfl
    have e2 : (itT k []).r = [] := rfl
    have e3 : (itT k []).name = ⟨#[]⟩ := rfl
    have e4 : (itT k []).sys = [] := rfl
    have e6 : blkL (List.replicate (kidsK k).toNat wU) = (kidsK k).toNat := by
      unfold blkL
      rw [List.map_replicate, List.sum_replicate_nat, e5, Nat.mul_one]
    have e7 : (⟨#[]⟩ : ByteArray).size = 0 := rfl
    have e8 : blkS [] = 0 := rfl
    rw [e1, e2, e3, e4, e6, e7, e8]
    simp
    omega
  have h3 := (cap_ge (itT k [])).2
  exact ⟨by omega, by omega⟩
theorem none_tS : blk (tS []) ≤ 20000 := by decide +kernel
theorem none_face : sysF (([] : List (List C × List Tm)).map Prod.fst) = ([], 0) := rfl
theorem none_tot : totF (([] : List (List C × List Tm)).map Prod.fst) = -1 := rfl
theorem parts_has (k : Int) : partsK k = 0 ∨ k = 15 ∨ k = 16 ∨ k = 17 ∨ k = 18 := by
  unfold partsK
  split
  · exact .inr (.inr (.inl ‹_›))
  · split
    · rename_i h; rcases h with h | h | h <;> simp [h]
    · exact .inl rfl
set_option maxRecDepth 100000 in
set_option maxHeartbeats 8000000 in
theorem walk_SystemNone (k : Int) (hwk : (Lit.int .i64 k).wf = true) (c : C) (i : Int) (hwi : (Lit.int .i64 i).wf = true) (r : List C) (v3 : Value) (w : World) (hr : ClRow Tt w r v3) :
    Calls Tryz.prog 7 #[.int .i64 k, clV c, .int .i64 i, v3] w fun e w' => e = .returned (.bool true) ∧ Below w.heap.size w w' := by
  have hk := wf_I64 hwk
  obtain ⟨ar, cr, e3, _⟩ := id hr
  subst e3
  obtain ⟨LR, hLR⟩ : ∃ L, L = r.length := ⟨_, rfl⟩
  have HR : Hid (∀ W, Below w.heap.size w W → ClRow Tt W r (.slice ar LR cr)) := fun W q => by rw [hLR]; exact hr.blw q
  have HLR : Hid (LR = r.length) := hLR
  rw [← hLR]
  obtain ⟨w1, hw1⟩ : ∃ V, V = w.alloc (.cells #[.int .u32 (c.1.val : Int), .int .u32 (c.2.val : Int)] 38) := ⟨_, rfl⟩
  have hA : At w1 w.heap.size c := by rw [hw1]; exact At.made w c _
  have b1 : Below w.heap.size w w1 := by rw [hw1]; exact belowA _ _
  have HC : Hid (∀ W, Below w1.heap.size w1 W → W.cell? ⟨w.heap.size, 0, none⟩ = some (.int .u32 (c.1.val : Int)) ∧ W.cell? ⟨w.heap.size, 1, none⟩ = some (.int .u32 (c.2.val : Int))) := fun W q => ⟨(hA.below q).1, (hA.below q).2.1⟩
  have HB : Hid (∀ W, Below w1.heap.size w1 W → Below w.heap.size w W) := fun W q => bchain b1 q
  have hc1 := c.1.isLt
  have hc2 := c.2.isLt
  have cw := works14_any w1
  have H1 : Hid (_ = _) := hw1
  have HI : Hid (I64 k) := hk
  clear hw1 hA hLR hr b1 hwk hwi hk
  show Calls Tryz.prog 7 #[.int .i64 k, .agg #[.int .u32 (c.1.val : Int), .int .u32 (c.2.val : Int)], .int .i64 i, .slice ar LR cr] w _
  go_enter Tryz.func7, Tryz.ntmps7
  go_upto_region 1 with fail
  rw [← H1.out]
  clear H1
  generalize (Value.agg #[Value.int .u32 (c.1.val : Int), Value.int .u32 (c.2.val : Int)]) = cv
  go_wp2_with fail
  refine cw.mono ?_
  rintro e w2 ⟨rfl, b2⟩
  clear cw
  by_cases hg : 12 < LR
  · have hgI : (12 : Int) < (LR : Int) := by omega
    have hF := HB.out w2 b2
    go_wp2_with fail
    go_ret
    exact ⟨rfl, hF⟩
  have hgI : ¬ (12 : Int) < (LR : Int) := by omega
  have hrl : Hid (r.length ≤ 40000) := (by have := HLR.out; omega : r.length ≤ 40000)
  have cf := sface_any [] (.slice none 0 0) w2 (sy_nil _ _ _) none_tS
  rw [none_face] at cf
  dsimp only at cf
  go_wp2_with fail
  refine cf.mono ?_
  rintro e w3 ⟨v3, rfl, hO3, b3⟩
  clear cf
  have b13 : Below w1.heap.size w1 w3 := b2.trans (b3.mono b2.size)
  obtain ⟨a3, k3, hv3⟩ := OwnsC.len hO3
  subst hv3
  simp only [List.length_nil]
  clear hO3 b3 b2
  -- Lift
  have cl := slift_any k HI.out [] (.slice none 0 0) w3 (sy_nil _ _ _) 1 1 (none_b k).1 (none_b k).2
  rw [lifS_nil] at cl
  obtain ⟨e4, he4⟩ : ∃ e, e = lifE k 1 1 [] := ⟨_, rfl⟩
  rw [← he4] at cl
  clear he4
  go_wp2_with fail
  refine cl.mono ?_
  rintro e w4 ⟨v4, rfl, h4, b4⟩
  clear cl
  have b14 : Below w1.heap.size w1 w4 := b13.trans (b4.mono b13.size)
  obtain ⟨a4, k4, hv4⟩ := h4.len
  subst hv4
  simp only [List.length_nil]
  clear h4 b4 b13
  -- Take
  have ct := stake_any k HI.out [] (.slice none 0 0) w4 (sy_nil _ _ _) i r _ (HR.out w4 (HB.out w4 b14)) hrl.out (none_b k).1 (none_b k).2
  rw [tkS_nil] at ct
  obtain ⟨e5, he5⟩ : ∃ e, e = tkE k i r [] := ⟨_, rfl⟩
  rw [← he5] at ct
  clear he5
  go_wp2_with fail
  refine ct.mono ?_
  rintro e w5 ⟨v5, rfl, h5, b5⟩
  clear ct
  have b15 : Below w1.heap.size w1 w5 := b14.trans (b5.mono b14.size)
  obtain ⟨a5, k5, hv5⟩ := h5.len
  subst hv5
  simp only [List.length_nil]
  clear h5 b5 b14
  -- Under
  have cu := sunder_any k HI.out [] (.slice none 0 0) w5 (sy_nil _ _ _) c (none_b k).1 (none_b k).2
  rw [undS_nil] at cu
  have HE : Hid (partsK k = 0 → undE k c [] = 2) := fun h => by unfold undE itE; rw [if_pos h]
  obtain ⟨e6, he6⟩ : ∃ e, e = undE k c [] := ⟨_, rfl⟩
  rw [← he6] at cu HE
  have cu : Calls Tryz.prog 27 #[.int .i64 k, .slice none 0 0, .agg #[.int .u32 (c.1.val : Int), .int .u32 (c.2.val : Int)]] w5 fun e w' => ∃ v', e = .returned (.tuple #[v', .int .i64 e6]) ∧ SyT Tt w' (TmIn Tt w') [] v' ∧ Below w5.heap.size w5 w' := cu
  obtain ⟨y0, y1⟩ := HC.out w5 b15
  clear he6
  go_wp2_with fail
  refine cu.mono ?_
  rintro e w6 ⟨v6, rfl, h6, b6⟩
  clear cu y0 y1
  have b16 : Below w1.heap.size w1 w6 := b15.trans (b6.mono b15.size)
  obtain ⟨a6, k6, hv6⟩ := h6.len
  subst hv6
  simp only [List.length_nil]
  clear h6 b6 b15 HR HC HLR
  obtain ⟨pb, hpb⟩ : ∃ b : Bool, b = decide (¬ partsK k = 0) := ⟨_, rfl⟩
  have HP : Hid (pb = false → e6 = 2) := fun h => HE.out (by rw [hpb] at h; simpa using h)
  clear HE
  go_upto_region 9 with fail
  go_cut [17] (fun s wx => s = .bool pb ∧ wx = w6)
  case first => as_aux_lemma =>
    rcases parts_has k with h | h | h | h | h
    · have hb : pb = false := by rw [hpb, h]; rfl
      have n15 : (k == 15) = false := by simp; intro e; subst e; revert h; decide
      have n16 : (k == 16) = false := by simp; intro e; subst e; revert h; decide
      have n17 : (k == 17) = false := by simp; intro e; subst e; revert h; decide
      have n18 : (k == 18) = false := by simp; intro e; subst e; revert h; decide
      clear h hpb
      subst hb
      go_wp2_with fail
      go_meet
      exact ⟨rfl, rfl⟩
    · subst h
      have hb : pb = true := by rw [hpb]; decide
      clear hpb
      subst hb
      go_wp2_with fail
      go_meet
      exact ⟨rfl, rfl⟩
    · subst h
      have hb : pb = true := by rw [hpb]; decide
      clear hpb
      subst hb
      go_wp2_with fail
      go_meet
      exact ⟨rfl, rfl⟩
    · subst h
      have hb : pb = true := by rw [hpb]; decide
      clear hpb
      subst hb
      go_wp2_with fail
      go_meet
      exact ⟨rfl, rfl⟩
    · subst h
      have hb : pb = true := by rw [hpb]; decide
      clear hpb
      subst hb
      go_wp2_with fail
      go_meet
      exact ⟨rfl, rfl⟩
  case rest =>
  obtain ⟨rfl, hwc⟩ := hcut
  replace hwc := hwc.symm
  subst hwc
  have cT := total_any [] (.slice none 0 0) w6 (sy_nil _ _ _) (by decide)
  rw [none_tot] at cT
  clear hpb
  go_wp2_with fail
  refine cT.mono ?_
  rintro e w7 ⟨rfl, b7⟩
  clear cT
  have b17 : Below w1.heap.size w1 w7 := b16.trans (b7.mono b16.size)
  have hF := HB.out w7 b17
  cases pb
  · have he := HP.out rfl
    subst he
    go_wp2_with fail
    go_ret
    exact ⟨rfl, hF⟩
  · go_wp2_with fail
    go_ret
    exact ⟨rfl, hF⟩
end Go.Proofs.YtpmmbfngogpinaaGreat

