/- A maker: it keeps the first error. -/
import Derived.Test.YtocfamcclfhkcaaGreatYCopyD
namespace Go.Proofs.YtocfamcclfhkcaaGreat
open Go.RowKit
set_option linter.unusedVariables false
set_option linter.unusedSimpArgs false

/-- A maker's variable, with the error that it keeps. -/
structure Mk (w : World) (g : Nat) (f : Int) : Prop where
  blk : ∃ ty, w.heap[g]? = some (.cells #[.int .i64 f] ty (0, 0))
abbrev Ng (g : Nat) : Nat → Prop := fun q => q ≠ g
theorem Mk.lt {w : World} {g : Nat} {f : Int} (h : Mk w g f) : g < w.heap.size := by obtain ⟨ty, h⟩ := h.blk; exact (Array.getElem?_eq_some_iff.1 h).1
theorem Mk.cells {w : World} {g : Nat} {f : Int} (h : Mk w g f) : w.cell? ⟨g, 0, none⟩ = some (.int .i64 f) ∧ w.frozen? ⟨g, 0, none⟩ = false := by
  obtain ⟨ty, h⟩ := h.blk
  exact ⟨by simp [World.cell?, h], by unfold World.frozen?; simp [h]⟩
theorem Mk.kn {No : Nat → Prop} {w w' : World} {g : Nat} {f : Int} (h : Mk w g f) (hk : Kn No w w') (hg : No g) : Mk w' g f := by
  have hl := h.lt
  obtain ⟨ty, h⟩ := h.blk
  exact ⟨ty, (hk.block g hg hl).trans h⟩
theorem Mk.blw {w w' : World} {g : Nat} {f : Int} (h : Mk w g f) (hb : Below w.heap.size w w') : Mk w' g f := h.kn (Kn.of_below (No := fun _ => True) hb) trivial
theorem Mk.set {w : World} {g : Nat} {f : Int} (h : Mk w g f) (e : Int) : Mk (w.setCell ⟨g, 0, none⟩ (.int .i64 e)) g e := by
  obtain ⟨ty, h⟩ := h.blk
  exact ⟨ty, set_blk h _⟩
theorem kn_set66 (w : World) (s : Nat) (u0 u1 u2 u3 u4 u5 : Value) : Kn (fun q => q ≠ s) w ((((((w.setCell ⟨s, 0, none⟩ u0).setCell ⟨s, 1, none⟩ u1).setCell ⟨s, 2, none⟩ u2).setCell ⟨s, 3, none⟩ u3).setCell ⟨s, 4, none⟩ u4).setCell ⟨s, 5, none⟩ u5) := (((((kn_set _ _ _ _).trans (kn_set _ _ _ _)).trans (kn_set _ _ _ _)).trans (kn_set _ _ _ _)).trans (kn_set _ _ _ _)).trans (kn_set _ _ _ _)
/-- The first of two errors. -/
def fstE (f e : Int) : Int := if f = 0 then e else f
theorem fstE_zero {f e : Int} : fstE f e = 0 ↔ f = 0 ∧ e = 0 := by unfold fstE; split <;> simp [*]
theorem fstE_none (f : Int) : fstE f 0 = f := by unfold fstE; split <;> simp [*]
theorem Kn.new {No : Nat → Prop} {x : Nat} {w0 w w' : World} (h : Kn No w0 w) (hk : Kn (fun q => q ≠ x) w w') (hx : w0.heap.size ≤ x) : Kn No w0 w' :=
  ⟨hk.os.trans h.os, hk.tape.trans h.tape, hk.output.trans h.output, Nat.le_trans h.size hk.size, fun i hi hb => (hk.block i (by omega) (Nat.lt_of_lt_of_le hb h.size)).trans (h.block i hi hb)⟩
theorem Kn.blw {No : Nat → Prop} {w0 w w' : World} (h : Kn No w0 w) (hb : Below w.heap.size w w') : Kn No w0 w' := h.trans (Kn.of_below hb)
set_option maxRecDepth 100000 in
theorem keep_any (g : Nat) (f e0 : Int) (w : World) (hM : Mk w g f) :
    Calls Tryz.prog 90 #[.pointer (some ⟨g, 0, none⟩), .int .i64 e0] w fun e w' => e = .returned (.tuple #[]) ∧ Mk w' g (fstE f e0) ∧ Kn (Ng g) w w' := by
  obtain ⟨y0, f0⟩ := hM.cells
  have m2 := hM.set e0
  have k2 := kn_set w g 0 (.int .i64 e0)
  have HE : Hid (fstE f e0 = if f = 0 then e0 else f) := (rfl : _ = _)
  obtain ⟨F, hF⟩ : ∃ F, F = fstE f e0 := ⟨_, rfl⟩
  rw [← hF] at HE ⊢
  clear hF
  go_enter Tryz.func90, Tryz.ntmps90
  by_cases hz : f = 0
  · have hE : F = e0 := by rw [HE.out, if_pos hz]
    subst hE
    subst hz
    clear HE
    go_wp2_with fail
    go_end0
    exact ⟨rfl, m2, k2⟩
  · have hE : F = f := by rw [HE.out, if_neg hz]
    have hz1 : (f == 0) = false := by simpa using hz
    subst hE
    have kr := Kn.refl (Ng g) w
    clear m2 k2 HE
    go_wp2_with fail
    go_end0
    exact ⟨rfl, hM, kr⟩
set_option maxRecDepth 100000 in
theorem mrow_any (g : Nat) (f e0 : Int) (a : Option Addr) (n c : Nat) (w : World) (hM : Mk w g f) :
    Calls Tryz.prog 42 #[.pointer (some ⟨g, 0, none⟩), .slice a n c, .int .i64 e0] w fun e w' => e = .returned (.slice a n c) ∧ Mk w' g (fstE f e0) ∧ Kn (Ng g) w w' := by
  have ck := keep_any g f e0 w hM
  clear hM
  go_enter Tryz.func42, Tryz.ntmps42
  go_wp2_with fail
  refine ck.mono ?_
  rintro e w2 ⟨rfl, hM2, hk2⟩
  clear ck
  go_wp2_with fail
  go_ret
  exact ⟨rfl, hM2, hk2⟩
set_option maxRecDepth 100000 in
set_option maxHeartbeats 1000000 in
theorem mpart_any (g : Nat) (f e0 : Int) (k n : Int) (nm : ByteArray) (ra : Option Addr) (rl rc : Nat) (ka : Option Addr) (kl kc : Nat) (sa : Option Addr) (sl sc : Nat) (w : World) (hM : Mk w g f) :
    Calls Tryz.prog 123 #[.pointer (some ⟨g, 0, none⟩), .agg #[.int .i64 k, .int .i64 n, .string nm, .slice ra rl rc, .slice ka kl kc, .slice sa sl sc], .int .i64 e0] w fun e w' => e = .returned (.agg #[.int .i64 k, .int .i64 n, .string nm, .slice ra rl rc, .slice ka kl kc, .slice sa sl sc]) ∧ Mk w' g (fstE f e0) ∧ Kn (Ng g) w w' := by
  obtain ⟨w1, hw1⟩ : ∃ W, W = (w.alloc (.cells #[.int .i64 k, .int .i64 n, .string nm, .slice ra rl rc, .slice ka kl kc, .slice sa sl sc] 26)).alloc (.cells #[.int .i64 0, .int .i64 0, .string ⟨#[]⟩, .slice none 0 0, .slice none 0 0, .slice none 0 0] 26) := ⟨_, rfl⟩
  have b1 : Below w.heap.size w w1 := by rw [hw1]; exact bchain (belowA _ _) (belowA _ _)
  obtain ⟨X, hX⟩ : ∃ X, X = w.heap.size := ⟨_, rfl⟩
  have s1 : w1.heap.size = X + 2 := by rw [hw1, hX]; simp
  have x1 : Six w1 X (.int .i64 k) (.int .i64 n) (.string nm) (.slice ra rl rc) (.slice ka kl kc) (.slice sa sl sc) := ⟨by rw [hX, hw1]; exact (Below.heap_alloc _ _ _ (by simp)).trans (heapNew w _)⟩
  have x2 : Six w1 (X + 1) (.int .i64 0) (.int .i64 0) (.string ⟨#[]⟩) (.slice none 0 0) (.slice none 0 0) (.slice none 0 0) := ⟨by
    rw [hX, hw1]; have := heapNew (w.alloc (.cells #[.int .i64 k, .int .i64 n, .string nm, .slice ra rl rc, .slice ka kl kc, .slice sa sl sc] 26)) (.cells #[.int .i64 0, .int .i64 0, .string ⟨#[]⟩, .slice none 0 0, .slice none 0 0, .slice none 0 0] 26); rwa [World.size_alloc] at this⟩
  have hgX : g < X := by rw [hX]; exact hM.lt
  have hM1 := hM.blw b1
  have ck := keep_any g f e0 w1 hM1
  have HW : Hid (_ = _) := hw1
  have HX : Hid (X = w.heap.size) := hX
  have Hb1 : Hid (Below w.heap.size w w1) := b1
  clear hw1 hX hM hM1 b1
  go_enter Tryz.func123, Tryz.ntmps123
  go_upto_region 1 with fail
  rw [← HW.out]
  simp only [← HX.out]
  clear HW
  go_wp2_with fail
  refine ck.mono ?_
  rintro e w2 ⟨rfl, hM2, hk2⟩
  clear ck
  have hX2 := x1.kn hk2 (by omega)
  have zz := x2.kn hk2 (by omega)
  obtain ⟨y0, y1, y2, y3, y4, y5, _⟩ := hX2.cells
  have zz2 := zz.set6 (.int .i64 k) (.int .i64 n) (.string nm) (.slice ra rl rc) (.slice ka kl kc) (.slice sa sl sc)
  obtain ⟨o0, o1, o2, o3, o4, o5, ff⟩ := zz.cells
  have f0 := ff 0
  have f1 := ff 1
  have f2 := ff 2
  have f3 := ff 3
  have f4 := ff 4
  have f5 := ff 5
  obtain ⟨w3, hwz⟩ : ∃ W, W = (((((w2.setCell ⟨X + 1, 0, none⟩ (.int .i64 k)).setCell ⟨X + 1, 1, none⟩ (.int .i64 n)).setCell ⟨X + 1, 2, none⟩ (.string nm)).setCell ⟨X + 1, 3, none⟩ (.slice ra rl rc)).setCell ⟨X + 1, 4, none⟩ (.slice ka kl kc)).setCell ⟨X + 1, 5, none⟩ (.slice sa sl sc) := ⟨_, rfl⟩
  rw [← hwz] at zz2
  have kz : Kn (fun q => q ≠ X + 1) w2 w3 := by rw [hwz]; exact kn_set66 _ _ _ _ _ _ _ _
  have hM3 := hM2.kn kz (by omega)
  have hK3 : Kn (Ng g) w w3 := ((Kn.of_below Hb1.out).trans hk2).new kz (by rw [← HX.out]; omega)
  obtain ⟨h0, h1, h2, h3, h4, h5, _⟩ := zz2.cells
  have Hwz : Hid (_ = _) := hwz
  clear hwz ff kz zz zz2 x1 x2 hX2
  go_wp2_with fail
  rw [← Hwz.out]
  exact bodyPost_ret (v := .agg #[.int .i64 k, .int .i64 n, .string nm, .slice ra rl rc, .slice ka kl kc, .slice sa sl sc]) (by simp only [results, Tryz.results123]; simp [go_sem, h0, h1, h2, h3, h4, h5]) rfl ⟨rfl, hM3, hK3⟩
/-! ### blocks of a term -/
/-- Blocks from lo on, below hi, but not g. -/
def Bt (g lo hi : Nat) : Nat → Prop := fun q => q ≠ g ∧ lo ≤ q ∧ q < hi
theorem ClRow.lt' {ok ok' : Nat → Prop} {w : World} {l : List C} {v : Value} (h : ClRow ok w l v) (hq : ∀ q, ok q → q < w.heap.size → ok' q) : ClRow ok' w l v := by
  obtain ⟨a, cap, h1, h2, h3⟩ := h
  refine ⟨a, cap, h1, h2, fun j x hx => ?_⟩
  obtain ⟨g, off, a1, a2, a3, a4⟩ := h3 j x hx
  exact ⟨g, off, a1, hq g a2 a3, a3, a4⟩
theorem KdT.lt' {ok ok' : Nat → Prop} {w : World} {P : Tm → Value → Prop} {l : List Tm} {v : Value} (h : KdT ok w P l v) (hq : ∀ q, ok q → q < w.heap.size → ok' q) : KdT ok' w P l v := by
  obtain ⟨a, cap, h1, h2, h3⟩ := h
  refine ⟨a, cap, h1, h2, fun j x hx => ?_⟩
  obtain ⟨g, off, u0, u1, u2, u3, u4, u5, a1, a2, a3, a4⟩ := h3 j x hx
  exact ⟨g, off, u0, u1, u2, u3, u4, u5, a1, hq g a2 a3, a3, a4⟩
theorem SyT.lt' {ok ok' : Nat → Prop} {w : World} {P : Tm → Value → Prop} {l : List (List C × List Tm)} {v : Value} (h : SyT ok w P l v) (hq : ∀ q, ok q → q < w.heap.size → ok' q) : SyT ok' w P l v := by
  obtain ⟨a, cap, h1, h2, h3⟩ := h
  refine ⟨a, cap, h1, h2, fun j x hx => ?_⟩
  obtain ⟨g, off, vf, vk, a1, a2, a3, a4, a5, a6⟩ := h3 j x hx
  exact ⟨g, off, vf, vk, a1, hq g a2 a3, a3, a4.lt' hq, a5.lt' hq, a6⟩
theorem TmIn.lt' {ok ok' : Nat → Prop} {w : World} {t : Tm} {v : Value} (h : TmIn ok w t v) (hq : ∀ q, ok q → q < w.heap.size → ok' q) : TmIn ok' w t v :=
  h (TmIn ok' w) fun k n nm r kids sys vr vk vs hk hn h1 h2 h3 => .mk k n nm r kids sys vr vk vs hk hn (h1.lt' hq) (h2.lt' hq) (h3.lt' hq)
theorem SyT.ltA {ok ok' : Nat → Prop} {w : World} {l : List (List C × List Tm)} {v : Value} (h : SyT ok w (TmIn ok w) l v) (hq : ∀ q, ok q → q < w.heap.size → ok' q) : SyT ok' w (TmIn ok' w) l v := (h.lt' hq).mono fun _ _ hx => hx.lt' hq
theorem KdT.ltA {ok ok' : Nat → Prop} {w : World} {l : List Tm} {v : Value} (h : KdT ok w (TmIn ok w) l v) (hq : ∀ q, ok q → q < w.heap.size → ok' q) : KdT ok' w (TmIn ok' w) l v := (h.lt' hq).mono fun _ _ hx => hx.lt' hq
theorem TmIn.bt {g lo : Nat} {w : World} {t : Tm} {v : Value} (h : TmIn (OkN lo w) w t v) (hg : g < lo) : TmIn (Bt g lo w.heap.size) w t v := h.lt' fun q hq hs => ⟨by have := hq.1; omega, hq.1, hs⟩
theorem ClRow.bt {g lo : Nat} {w : World} {l : List C} {v : Value} (h : ClRow (OkN lo w) w l v) (hg : g < lo) : ClRow (Bt g lo w.heap.size) w l v := h.lt' fun q hq hs => ⟨by have := hq.1; omega, hq.1, hs⟩
theorem TmIn.tt {ok : Nat → Prop} {w : World} {t : Tm} {v : Value} (h : TmIn ok w t v) : TmIn Tt w t v := h.up fun _ _ => trivial
theorem ClRow.kn {ok No : Nat → Prop} {w w' : World} {l : List C} {v : Value} (h : ClRow ok w l v) (hk : Kn No w w') (ho : ∀ g, ok g → No g) : ClRow ok w' l v := h.keep hk.size (fun _ h => h) (fun g h1 h2 => hk.block g (ho g h1) h2)
theorem heapBox {w : World} (o : Obj) {k : Nat} {x : Obj} (h : w.heap[k]? = some x) : (w.alloc o).heap[k]? = some x := (Below.heap_alloc _ _ _ (Array.getElem?_eq_some_iff.1 h).1).trans h
theorem ClRow.tt {ok : Nat → Prop} {w : World} {l : List C} {v : Value} (h : ClRow ok w l v) : ClRow Tt w l v := h.lt' fun _ _ _ => trivial
end Go.Proofs.YtocfamcclfhkcaaGreat
