/- The writer's functions: a tree's text, where it stands. -/
import Derived.Test.YtahnbigkdfmpbaaDoorSPart
import Derived.Test.YtahnbigkdfmpbaaDoorSRules
namespace Go.Proofs.YtahnbigkdfmpbaaDoor
open Go.RowKit
set_option linter.unusedVariables false
set_option linter.unusedSimpArgs false

def Wrote (B b : Nat) (X s : Bs) (w : World) (e : Ending) (w' : World) : Prop := e = .returned (.tuple #[]) ∧ WB B b (cut (X ++ s)) w' ∧ KW B b w w'
/-- What a writer's function asks of a tree and of the writer. -/
structure Rdy (n B b : Nat) (t : Sx) (v : Value) (w : World) (X : Bs) : Prop where
  small : blk t ≤ 1000000
  tree : SxIn n w t v
  nB : n ≤ B
  Bw : B ≤ w.heap.size
  wr : WB B b X w
  len : X.length ≤ 65537
def LineC (f : Nat) : Prop := ∀ (g n B b : Nat) (t : Sx) (v : Value) (w : World) (X : Bs), g < 2 → okF f g t = true → Rdy n B b t v w X → Calls Tryd.prog 22 #[wp_ b, v] w (Wrote B b X (lineF f t) w)
def PartC (f : Nat) : Prop := ∀ (g pl n B b : Nat) (t : Sx) (v : Value) (w : World) (X : Bs), g < 2 → pl < 7 → okF f g t = true → Rdy n B b t v w X → Calls Tryd.prog 13 #[wp_ b, v, .int .i64 (pl : Nat)] w (Wrote B b X (partF f pl t) w)
theorem KW.of_below {B b : Nat} {w w' : World} (h : Below w.heap.size w w') (hB : B ≤ w.heap.size) : KW B b w w' :=
  ⟨h.mono hB, fun k o hk _ _ => (h.block k (Array.getElem?_eq_some_iff.1 hk).1).trans hk⟩
theorem rowF_blw {B : Nat} {e : TypeId} {v : Value} {n : Nat} {xs : List Value} {w w' : World} (h : w.ownsRowF B e 1 v n xs) (hb : Below w.heap.size w w') : w'.ownsRowF B e 1 v n xs := by
  refine ⟨h.1, ?_⟩
  rcases h.2 with hn | ⟨g, cap, cur, fz, h1, h2, h3, h4⟩
  · exact .inl hn
  · exact .inr ⟨g, cap, cur, fz, h1, h2, (hb.block g (Array.getElem?_eq_some_iff.1 h3).1).trans h3, h4⟩
theorem WB.blw {B b : Nat} {l : Bs} {w w' : World} (h : WB B b l w) (hb : Below w.heap.size w w') : WB B b l w' := by
  have key : ∀ p, Lib.BuilderAtF 44 5 B b p (Lib.byteCells l) w → Lib.BuilderAtF 44 5 B b p (Lib.byteCells l) w' := by
    rintro p ⟨h1, v, h2, h3, h4⟩
    exact ⟨h1, v, (hb.block b (Array.getElem?_eq_some_iff.1 h2).1).trans h2, rowF_blw h3 hb, h4⟩
  rcases h with h | h
  · exact .inl (key _ h)
  · exact .inr (key _ h)
theorem kd_kids {t : Sx} {l : List Sx} (h : t.kids = l) (j : Nat) : kd t j = l.getD j zS := by unfold kd; rw [h]

set_option maxRecDepth 100000 in
set_option maxHeartbeats 4000000 in
theorem needs_any (f g n pl : Nat) (t : Sx) (v : Value) (w : World) (hg : g < 2) (hok : okF f g t = true) (h : SxIn n w t v) (hn : n ≤ w.heap.size) :
    Calls Tryd.prog 20 #[v, .int .i64 (pl : Nat)] w fun e w' => e = .returned (.bool (needB t pl)) ∧ Below w.heap.size w w' := by
  obtain ⟨ka, kc, na, nc, rfl, hN, hK⟩ := h.form
  obtain ⟨w1, hw1⟩ : ∃ w1, w1 = w.alloc (.cells #[.int .i64 t.kind, .string (bs t.name), .slice ka t.kids.length kc, .slice na t.names.length nc, .int .i64 t.at_] 25) := ⟨_, rfl⟩
  have hal : Below w.heap.size w w1 := by rw [hw1]; exact below_alloc _ _
  have hB : Bx w1 w.heap.size (.int .i64 t.kind) (.string (bs t.name)) (.slice ka t.kids.length kc) (.slice na t.names.length nc) (.int .i64 t.at_) := by rw [hw1]; exact bx_new _ _ _ _ _ _
  have Hw1 : Hid (_ = _) := hw1
  clear hw1
  obtain ⟨x0, x1, x2, x3, x4⟩ := hB.cells
  have cP := fun w => lastPlace_any t.kind w
  obtain ⟨r, hr⟩ : ∃ r, needB t pl = r := ⟨_, rfl⟩
  rw [hr]
  have HR : Hid ((decide (lastP t.kind < pl) || (decide (pl = 1) && frontB t)) = r) := hr
  have e1 : decide (pl = 1) = ((pl : Int) == 1) := by rw [Bool.eq_iff_iff]; simp; omega
  rw [e1] at HR
  clear hr e1
  by_cases hk : t.kind = 9
  · obtain ⟨f, rfl⟩ : ∃ k, f = k + 1 := ⟨f - 1, by cases f with | zero => rw [okF_z] at hok; cases hok | succ k => omega⟩
    obtain ⟨a, c, hkids, _, _⟩ := (parts_of hg hok).two (by omega)
    obtain ⟨q, off, ka', kc', na', nc', rfl, hq, hxx, c0, c1, c2, c3, c4⟩ := hK.at (j := 0) (x := a) (by rw [hkids]; rfl)
    have d0 := (hal.cell (p := ⟨q, off + 0 * 5, none⟩) (by show q < _; omega)).trans c0
    simp only [Nat.zero_mul, Nat.add_zero] at d0
    rw [Hw1.out] at d0
    have hF : frontB t = (a.kind == 1) := by
      unfold frontB
      rw [decide_eq_true hk, hkids, Bool.true_and, Bool.eq_iff_iff]; simp
    rw [hF] at HR
    have k9 : (t.kind == 9) = true := by rw [hk]; rfl
    have hpos : 0 < t.kids.length := by rw [hkids]; simp
    clear hkids hF hk c0 c1 c2 c3 c4 hxx hok h hN hK
    generalize t.kids.length = L at *
    generalize t.names.length = M at *
    generalize lastP t.kind = Q at *
    by_cases hA : Q < pl
    all_goals
      first | rw [decide_eq_true hA] at HR | rw [decide_eq_false hA] at HR
      cases hC : ((pl : Int) == 1)
      all_goals
        rw [hC] at HR
        go_enter Tryd.func20, Tryd.ntmps20
        go_wp2_with fail
        rw [← Hw1.out]
        refine (cP _).mono ?_
        rintro e w' ⟨rfl, hw⟩
        rw [hw]
        go_wp2_with fail
        go_ret
        exact ⟨ret_bool (by have h9 := HR.out; first | (simpa using h9) | (simp_all)), hal⟩
  · have hF : frontB t = false := by unfold frontB; rw [decide_eq_false hk]; rfl
    rw [hF] at HR
    have k9 : (t.kind == 9) = false := by simp [hk]
    clear hk hF hok h hN hK
    generalize t.kids.length = L at *
    generalize t.names.length = M at *
    generalize lastP t.kind = Q at *
    by_cases hA : Q < pl
    all_goals
      first | rw [decide_eq_true hA] at HR | rw [decide_eq_false hA] at HR
      cases hC : ((pl : Int) == 1)
      all_goals
        rw [hC] at HR
        go_enter Tryd.func20, Tryd.ntmps20
        go_wp2_with fail
        rw [← Hw1.out]
        refine (cP _).mono ?_
        rintro e w' ⟨rfl, hw⟩
        rw [hw]
        go_wp2_with fail
        go_ret
        exact ⟨ret_bool (by have h9 := HR.out; first | (simpa using h9) | (simp_all)), hal⟩

set_option maxRecDepth 100000 in
set_option maxHeartbeats 4000000 in
theorem part_step (f : Nat) (hL : LineC f) : PartC f := by
  intro gg pl n B b t v w X hgg hpl hok hR
  have hnW := hR.Bw
  obtain ⟨hb, h, hnB, hBw, hw, hX⟩ := hR
  obtain ⟨ka, kc, na, nc, rfl, hN, hK⟩ := h.form
  obtain ⟨w1, hw1⟩ : ∃ w1, w1 = w.alloc (.cells #[.int .i64 t.kind, .string (bs t.name), .slice ka t.kids.length kc, .slice na t.names.length nc, .int .i64 t.at_] 25) := ⟨_, rfl⟩
  have hK1 : KW B b w w1 := by rw [hw1]; exact KW.of_alloc B b w hBw _
  have hx1 : Bx w1 w.heap.size (.int .i64 t.kind) (.string (bs t.name)) (.slice ka t.kids.length kc) (.slice na t.names.length nc) (.int .i64 t.at_) := by rw [hw1]; exact bx_new _ _ _ _ _ _
  have hW1 : WB B b (cut (X ++ [])) w1 := by rw [hw1]; exact (hw.alloc _).start hX
  have hxb : w.heap.size ≠ b := by have := hw.lt; omega
  have hs1 := Nat.le_trans hBw hK1.below.size
  have hz1 : w1.heap.size = w.heap.size + 1 := by rw [hw1]; simp
  have Hz1 : Hid (_ = _) := hz1
  clear hz1
  have Hw1 : Hid (_ = _) := hw1
  clear hw1
  obtain ⟨x0, x1, x2, x3, x4⟩ := hx1.cells
  have hn1 : n ≤ w1.heap.size := Nat.le_trans hnB hs1
  have h1 := h.keep (hK1.below.mono hnB)
  have cT := tooLong_any B b (cut (X ++ [])) w1 hW1
  have cN := needs_any f gg n pl t _ w1 hgg hok h1 hn1
  unfold wp_ at *
  by_cases hbig : 65536 < (cut (X ++ [])).length
  · rw [decide_eq_true hbig] at cT
    have HE : Hid (cut (X ++ []) = cut (X ++ partF f pl t)) := by
      have := cut_full (a := X ++ []) (b := partF f pl t) hbig
      rw [← this, List.append_nil]; rfl
    clear hbig cN
    go_enter Tryd.func13, Tryd.ntmps13
    go_wp2_with fail
    rw [← Hw1.out]
    clear Hw1
    refine cT.mono ?_
    rintro e w' ⟨rfl, hw2⟩
    rw [hw2]
    go_wp2_with fail
    go_end0
    exact ⟨rfl, by rw [← HE.out]; exact hW1, hK1⟩
  · rw [decide_eq_false hbig] at cT
    clear hbig
    have HP : Hid (partF f pl t = if needB t pl then 40 :: (lineF f t ++ [41]) else lineF f t) := rfl
    cases hq : needB t pl
    · rw [hq] at cN HP
      clear hq
      go_enter Tryd.func13, Tryd.ntmps13
      go_wp2_with fail
      rw [← Hw1.out]
      clear Hw1
      refine cT.mono ?_
      rintro e w' ⟨rfl, hw2⟩
      rw [hw2]
      clear hw2
      go_wp2_with fail
      refine cN.mono ?_
      rintro e w2 ⟨rfl, hb2⟩
      have hk2 : KW B b w1 w2 := KW.of_below hb2 hs1
      have hx2 := hx1.blw hb2
      clear x0 x1 x2 x3 x4 cN cT
      obtain ⟨x0, x1, x2, x3, x4⟩ := hx2.cells
      have cL := hL gg n B b t _ w2 _ hgg hok ⟨hb, h1.keep (hk2.below.mono hnB), hnB, Nat.le_trans hs1 hb2.size, hW1.blw hb2, cut_len _⟩
      unfold wp_ at cL
      go_wp2_with fail
      refine cL.mono ?_
      rintro e w3 ⟨rfl, hW3, hk3⟩
      have hW3' := hW3.step
      go_wp2_with fail
      go_end0
      exact ⟨rfl, hW3'.fit (by rw [HP.out]; rfl), (hK1.trans hk2).trans hk3⟩
    · rw [hq] at cN HP
      clear hq
      go_enter Tryd.func13, Tryd.ntmps13
      go_wp2_with fail
      rw [← Hw1.out]
      clear Hw1
      refine cT.mono ?_
      rintro e w' ⟨rfl, hw2⟩
      rw [hw2]
      clear hw2
      go_wp2_with fail
      refine cN.mono ?_
      rintro e w2 ⟨rfl, hb2⟩
      have hk2 : KW B b w1 w2 := KW.of_below hb2 hs1
      have hx2 := hx1.blw hb2
      have hW2 := hW1.blw hb2
      have hs2 := Nat.le_trans hs1 hb2.size
      clear x0 x1 x2 x3 x4 cN cT
      go_wp2_with fail
      have c1 := put1_any B b _ ⟨#[40]⟩ w2 hW2 (cut_len _) hs2 (by decide)
      unfold wp_ at c1
      refine c1.mono ?_
      rintro e w3 ⟨rfl, hW, hk3⟩
      have hW3 := hW.step
      have hx3 := KW.bx hx2 hk3 hxb
      have hs3 := Nat.le_trans hs2 hk3.below.size
      clear c1 hW
      obtain ⟨x0, x1, x2, x3, x4⟩ := hx3.cells
      have cL := hL gg n B b t _ w3 _ hgg hok ⟨hb, h1.keep ((hk2.below.trans hk3.below).mono hnB), hnB, hs3, hW3, cut_len _⟩
      unfold wp_ at cL
      go_wp2_with fail
      refine cL.mono ?_
      rintro e w4 ⟨rfl, hW, hk4⟩
      have hW4 := hW.step
      have hs4 := Nat.le_trans hs3 hk4.below.size
      clear cL hW
      go_wp2_with fail
      have c1 := put1_any B b _ ⟨#[41]⟩ w4 hW4 (cut_len _) hs4 (by decide)
      unfold wp_ at c1
      refine c1.mono ?_
      rintro e w5 ⟨rfl, hW, hk5⟩
      have hW5 := hW.step
      go_wp2_with fail
      go_end0
      exact ⟨rfl, hW5.fit (by rw [HP.out]; simp [tl]), (((hK1.trans hk2).trans hk3).trans hk4).trans hk5⟩

set_option maxRecDepth 100000 in
set_option maxHeartbeats 4000000 in
theorem stwo_any (f : Nat) (hP : PartC f) (p1 p2 ga gb n B b : Nat) (a c : Sx) (l : List Sx) (hl : l = [a, c]) (ka : Option Addr) (kc : Nat) (S : ByteArray) (w1 : World) (X : Bs) (hp1 : p1 < 7) (hp2 : p2 < 7) (hga : ga < 2) (hgb : gb < 2)
    (hoa : okF f ga a = true) (hoc : okF f gb c = true) (hba : blk a ≤ 1000000) (hbc : blk c ≤ 1000000) (hK : KdP n w1 (SxIn n w1) l ka) (hnB : n ≤ B) (hBw : B ≤ w1.heap.size) (hw : WB B b X w1) (hX : X.length ≤ 65537) (hS : S.size ≤ 1000000) :
    Calls Tryd.prog 40 #[wp_ b, .slice ka l.length kc, .int .i64 (p1 : Nat), .string S, .int .i64 (p2 : Nat)] w1 (Wrote B b X (partF f p1 a ++ (tl S ++ partF f p2 c)) w1) := by
  unfold wp_
  have hK1 := KW.refl B b w1
  have hW1 := hw.start hX
  have hs1 := hBw
  obtain ⟨g, off, ka0, kc0, na0, nc0, rfl, hg, hxx0, c00, c01, c02, c03, c04⟩ := hK.at (j := 0) (x := a) (by rw [hl]; rfl)
  obtain ⟨g', off', ka1, kc1, na1, nc1, he, _, hxx1, c10, c11, c12, c13, c14⟩ := hK.at (j := 1) (x := c) (by rw [hl]; rfl)
  cases he
  simp only [Nat.zero_mul, Nat.one_mul, Nat.add_zero] at c00 c01 c02 c03 c04 c10 c11 c12 c13 c14
  have hgB : g < B := by omega
  have hp0 : 0 < l.length := by rw [hl]; simp
  have hp1 : 1 < l.length := by rw [hl]; simp
  have Hl : Hid (_ = _) := hl
  clear hl
  generalize l.length = L at *
  have d00 := (hK1.below.cell (p := ⟨g, off, none⟩) hgB).trans c00
  have d01 := (hK1.below.cell (p := ⟨g, off + 1, none⟩) hgB).trans c01
  have d02 := (hK1.below.cell (p := ⟨g, off + 2, none⟩) hgB).trans c02
  have d03 := (hK1.below.cell (p := ⟨g, off + 3, none⟩) hgB).trans c03
  have d04 := (hK1.below.cell (p := ⟨g, off + 4, none⟩) hgB).trans c04
  have d10 := (hK1.below.cell (p := ⟨g, off + 5, none⟩) hgB).trans c10
  have d11 := (hK1.below.cell (p := ⟨g, off + 5 + 1, none⟩) hgB).trans c11
  have d12 := (hK1.below.cell (p := ⟨g, off + 5 + 2, none⟩) hgB).trans c12
  have d13 := (hK1.below.cell (p := ⟨g, off + 5 + 3, none⟩) hgB).trans c13
  have d14 := (hK1.below.cell (p := ⟨g, off + 5 + 4, none⟩) hgB).trans c14
  go_enter Tryd.func40, Tryd.ntmps40
  go_wp2_with fail
  have cc := hP ga p1 n B b a _ w1 _ (by omega) (by omega) hoa ⟨hba, hxx0.keep (hK1.below.mono hnB), hnB, hs1, hW1, cut_len _⟩
  unfold wp_ at cc
  refine cc.mono ?_
  rintro e w2 ⟨rfl, hW, hk⟩
  have hW2 := hW.step
  have hK2 := hK1.trans hk
  have hs2 := Nat.le_trans hBw hK2.below.size
  clear hW hk cc
  have d00 := (hK2.below.cell (p := ⟨g, off, none⟩) hgB).trans c00
  have d01 := (hK2.below.cell (p := ⟨g, off + 1, none⟩) hgB).trans c01
  have d02 := (hK2.below.cell (p := ⟨g, off + 2, none⟩) hgB).trans c02
  have d03 := (hK2.below.cell (p := ⟨g, off + 3, none⟩) hgB).trans c03
  have d04 := (hK2.below.cell (p := ⟨g, off + 4, none⟩) hgB).trans c04
  have d10 := (hK2.below.cell (p := ⟨g, off + 5, none⟩) hgB).trans c10
  have d11 := (hK2.below.cell (p := ⟨g, off + 5 + 1, none⟩) hgB).trans c11
  have d12 := (hK2.below.cell (p := ⟨g, off + 5 + 2, none⟩) hgB).trans c12
  have d13 := (hK2.below.cell (p := ⟨g, off + 5 + 3, none⟩) hgB).trans c13
  have d14 := (hK2.below.cell (p := ⟨g, off + 5 + 4, none⟩) hgB).trans c14
  go_wp2_with fail
  have cc := put1_any B b _ (S) w2 hW2 (cut_len _) hs2 (hS)
  unfold wp_ at cc
  refine cc.mono ?_
  rintro e w3 ⟨rfl, hW, hk⟩
  have hW3 := hW.step
  have hK3 := hK2.trans hk
  have hs3 := Nat.le_trans hBw hK3.below.size
  clear hW hk cc
  have d00 := (hK3.below.cell (p := ⟨g, off, none⟩) hgB).trans c00
  have d01 := (hK3.below.cell (p := ⟨g, off + 1, none⟩) hgB).trans c01
  have d02 := (hK3.below.cell (p := ⟨g, off + 2, none⟩) hgB).trans c02
  have d03 := (hK3.below.cell (p := ⟨g, off + 3, none⟩) hgB).trans c03
  have d04 := (hK3.below.cell (p := ⟨g, off + 4, none⟩) hgB).trans c04
  have d10 := (hK3.below.cell (p := ⟨g, off + 5, none⟩) hgB).trans c10
  have d11 := (hK3.below.cell (p := ⟨g, off + 5 + 1, none⟩) hgB).trans c11
  have d12 := (hK3.below.cell (p := ⟨g, off + 5 + 2, none⟩) hgB).trans c12
  have d13 := (hK3.below.cell (p := ⟨g, off + 5 + 3, none⟩) hgB).trans c13
  have d14 := (hK3.below.cell (p := ⟨g, off + 5 + 4, none⟩) hgB).trans c14
  go_wp2_with fail
  have cc := hP gb p2 n B b c _ w3 _ (by omega) (by omega) hoc ⟨hbc, hxx1.keep (hK3.below.mono hnB), hnB, hs3, hW3, cut_len _⟩
  unfold wp_ at cc
  refine cc.mono ?_
  rintro e w4 ⟨rfl, hW, hk⟩
  have hW4 := hW.step
  have hK4 := hK3.trans hk
  have hs4 := Nat.le_trans hBw hK4.below.size
  clear hW hk cc
  have d00 := (hK4.below.cell (p := ⟨g, off, none⟩) hgB).trans c00
  have d01 := (hK4.below.cell (p := ⟨g, off + 1, none⟩) hgB).trans c01
  have d02 := (hK4.below.cell (p := ⟨g, off + 2, none⟩) hgB).trans c02
  have d03 := (hK4.below.cell (p := ⟨g, off + 3, none⟩) hgB).trans c03
  have d04 := (hK4.below.cell (p := ⟨g, off + 4, none⟩) hgB).trans c04
  have d10 := (hK4.below.cell (p := ⟨g, off + 5, none⟩) hgB).trans c10
  have d11 := (hK4.below.cell (p := ⟨g, off + 5 + 1, none⟩) hgB).trans c11
  have d12 := (hK4.below.cell (p := ⟨g, off + 5 + 2, none⟩) hgB).trans c12
  have d13 := (hK4.below.cell (p := ⟨g, off + 5 + 3, none⟩) hgB).trans c13
  have d14 := (hK4.below.cell (p := ⟨g, off + 5 + 4, none⟩) hgB).trans c14
  go_wp2_with fail
  go_end0
  exact ⟨rfl, hW4.fit (by simp [tl, List.append_assoc]), hK4⟩

set_option maxRecDepth 100000 in
set_option maxHeartbeats 4000000 in
theorem atom_any (f : Nat) (hP : PartC f) (n B b : Nat) (t a c : Sx) (hl : t.kids = [a, c]) (S : ByteArray) (v : Value) (w : World) (X : Bs) (hoa : okF f 0 a = true) (hoc : okF f 0 c = true) (hR : Rdy n B b t v w X) (hS : S.size ≤ 1000000) :
    Calls Tryd.prog 41 #[wp_ b, v, .string S] w (Wrote B b X (40 :: (partF f 0 a ++ (tl S ++ (partF f 0 c ++ [41])))) w) := by
  unfold wp_
  obtain ⟨hb, h, hnB, hBw, hw, hX⟩ := hR
  obtain ⟨ka, kc, na, nc, rfl, hN, hK⟩ := h.form
  obtain ⟨w1, hw1⟩ : ∃ w1, w1 = w.alloc (.cells #[.int .i64 t.kind, .string (bs t.name), .slice ka t.kids.length kc, .slice na t.names.length nc, .int .i64 t.at_] 25) := ⟨_, rfl⟩
  have hK1 : KW B b w w1 := by rw [hw1]; exact KW.of_alloc B b w hBw _
  have hx1 : Bx w1 w.heap.size (.int .i64 t.kind) (.string (bs t.name)) (.slice ka t.kids.length kc) (.slice na t.names.length nc) (.int .i64 t.at_) := by rw [hw1]; exact bx_new _ _ _ _ _ _
  have hW1 : WB B b (cut (X ++ [])) w1 := by rw [hw1]; exact (hw.alloc _).start hX
  have hxb : w.heap.size ≠ b := by have := hw.lt; omega
  have hs1 := Nat.le_trans hBw hK1.below.size
  have hz1 : w1.heap.size = w.heap.size + 1 := by rw [hw1]; simp
  have Hz1 : Hid (_ = _) := hz1
  clear hz1
  have Hw1 : Hid (_ = _) := hw1
  clear hw1
  obtain ⟨x0, x1, x2, x3, x4⟩ := hx1.cells
  have hba : blk a ≤ 1000000 := by have := blk_kid (t := t) (x := a) (by rw [hl]; simp); omega
  have hbc : blk c ≤ 1000000 := by have := blk_kid (t := t) (x := c) (by rw [hl]; simp); omega
  have Hl : Hid (_ = _) := hl
  clear hl
  go_enter Tryd.func41, Tryd.ntmps41
  go_wp2_with fail
  rw [← Hw1.out]
  clear Hw1
  have cc := put1_any B b _ (⟨#[40]⟩) w1 hW1 (cut_len _) hs1 (by decide)
  unfold wp_ at cc
  rw [Hz1.out] at cc
  refine cc.mono ?_
  rintro e w2 ⟨rfl, hW, hk⟩
  have hW2 := hW.step
  have hK2 := hK1.trans hk
  have hx2 := KW.bx hx1 hk hxb
  clear x0 x1 x2 x3 x4
  obtain ⟨x0, x1, x2, x3, x4⟩ := hx2.cells
  have hs2 := Nat.le_trans hBw hK2.below.size
  clear hW hk cc
  go_wp2_with fail
  have cc := stwo_any f hP 0 0 0 0 n B b a c t.kids Hl.out ka kc (S) w2 _ (by omega) (by omega) (by omega) (by omega) hoa hoc hba hbc (hK.all (hK2.below.mono hnB)) hnB hs2 hW2 (cut_len _) (hS)
  unfold wp_ at cc
  refine cc.mono ?_
  rintro e w3 ⟨rfl, hW, hk⟩
  have hW3 := hW.step
  have hK3 := hK2.trans hk
  have hx3 := KW.bx hx2 hk hxb
  clear x0 x1 x2 x3 x4
  obtain ⟨x0, x1, x2, x3, x4⟩ := hx3.cells
  have hs3 := Nat.le_trans hBw hK3.below.size
  clear hW hk cc
  go_wp2_with fail
  have cc := put1_any B b _ (⟨#[41]⟩) w3 hW3 (cut_len _) hs3 (by decide)
  unfold wp_ at cc
  refine cc.mono ?_
  rintro e w4 ⟨rfl, hW, hk⟩
  have hW4 := hW.step
  have hK4 := hK3.trans hk
  have hx4 := KW.bx hx3 hk hxb
  clear x0 x1 x2 x3 x4
  obtain ⟨x0, x1, x2, x3, x4⟩ := hx4.cells
  have hs4 := Nat.le_trans hBw hK4.below.size
  clear hW hk cc
  go_wp2_with fail
  go_end0
  exact ⟨rfl, hW4.fit (by simp [tl, List.append_assoc]), hK4⟩

set_option maxRecDepth 100000 in
set_option maxHeartbeats 4000000 in
theorem sarrow_any (f : Nat) (hP : PartC f) (n B b : Nat) (t a c : Sx) (hl : t.kids = [a, c]) (hlen : t.names.length < 2) (S : ByteArray) (v : Value) (w : World) (X : Bs) (hoa : okF f 0 a = true) (hoc : okF f 0 c = true) (hR : Rdy n B b t v w X) (hS : S.size ≤ 1000000) :
    Calls Tryd.prog 39 #[wp_ b, v, .string S] w (Wrote B b X (arrowR (lineF f) t (tl S)) w) := by
  have k0 : kd t 0 = a := by rw [kd_kids hl]; rfl
  have k1 : kd t 1 = c := by rw [kd_kids hl]; rfl
  unfold arrowR wp_
  rw [k0, k1]
  show Calls Tryd.prog 39 _ w (Wrote B b X (if t.names = [] then partF f 1 a ++ (tl S ++ partF f 0 c) else 40 :: (t.names.headD [] ++ ([32, 58, 32] ++ (partF f 0 a ++ (41 :: (tl S ++ partF f 0 c)))))) w)
  clear k0 k1
  obtain ⟨hb, h, hnB, hBw, hw, hX⟩ := hR
  obtain ⟨ka, kc, na, nc, rfl, hN, hK⟩ := h.form
  obtain ⟨w1, hw1⟩ : ∃ w1, w1 = w.alloc (.cells #[.int .i64 t.kind, .string (bs t.name), .slice ka t.kids.length kc, .slice na t.names.length nc, .int .i64 t.at_] 25) := ⟨_, rfl⟩
  have hK1 : KW B b w w1 := by rw [hw1]; exact KW.of_alloc B b w hBw _
  have hx1 : Bx w1 w.heap.size (.int .i64 t.kind) (.string (bs t.name)) (.slice ka t.kids.length kc) (.slice na t.names.length nc) (.int .i64 t.at_) := by rw [hw1]; exact bx_new _ _ _ _ _ _
  have hW1 : WB B b (cut (X ++ [])) w1 := by rw [hw1]; exact (hw.alloc _).start hX
  have hxb : w.heap.size ≠ b := by have := hw.lt; omega
  have hs1 := Nat.le_trans hBw hK1.below.size
  have hz1 : w1.heap.size = w.heap.size + 1 := by rw [hw1]; simp
  have Hz1 : Hid (_ = _) := hz1
  clear hz1
  have Hw1 : Hid (_ = _) := hw1
  clear hw1
  obtain ⟨x0, x1, x2, x3, x4⟩ := hx1.cells
  have hba : blk a ≤ 1000000 := by have := blk_kid (t := t) (x := a) (by rw [hl]; simp); omega
  have hbc : blk c ≤ 1000000 := by have := blk_kid (t := t) (x := c) (by rw [hl]; simp); omega
  by_cases hnm : t.names = []
  · rw [if_pos hnm]
    have hz : ((t.names.length : Int) == 0) = true := by rw [hnm]; rfl
    have Hnm : Hid (_ = _) := hnm
    clear hnm
    have Hl : Hid (_ = _) := hl
    clear hl
    go_enter Tryd.func39, Tryd.ntmps39
    go_wp2_with fail
    rw [← Hw1.out]
    clear Hw1
    have cc := stwo_any f hP 1 0 0 0 n B b a c t.kids Hl.out ka kc (S) w1 _ (by omega) (by omega) (by omega) (by omega) hoa hoc hba hbc (hK.all (hK1.below.mono hnB)) hnB hs1 hW1 (cut_len _) (hS)
    unfold wp_ at cc
    refine cc.mono ?_
    rintro e w2 ⟨rfl, hW, hk⟩
    have hW2 := hW.step
    have hK2 := hK1.trans hk
    have hx2 := KW.bx hx1 hk hxb
    clear x0 x1 x2 x3 x4
    obtain ⟨x0, x1, x2, x3, x4⟩ := hx2.cells
    have hs2 := Nat.le_trans hBw hK2.below.size
    clear hW hk cc
    go_wp2_with fail
    go_end0
    exact ⟨rfl, hW2.fit (by simp [tl, List.append_assoc]), hK2⟩
  · rw [if_neg hnm]
    obtain ⟨x, hx⟩ : ∃ x, t.names = [x] := by
      match hh : t.names, hnm, hlen with
      | [x], _, _ => exact ⟨x, rfl⟩
      | x :: y :: l, _, h2 => simp at h2; omega
    have hz : ((t.names.length : Int) == 0) = false := by rw [hx]; rfl
    obtain ⟨gn, on, rfl, hgn, cn⟩ := hN.at (j := 0) (x := x) (by rw [hx]; rfl)
    have cn1 := (hK1.below.cell (p := ⟨gn, on + 0, none⟩) (by show gn < B; omega)).trans cn
    simp only [Nat.add_zero] at cn1
    rw [Hw1.out] at cn1
    have hpn : 0 < t.names.length := by rw [hx]; simp
    have hxl : (bs x).size ≤ 1000000 := by rw [bs_size]; exact snames_any hb x (by rw [hx]; simp)
    have Hx : Hid (_ = _) := hx
    clear hx hlen hnm
    obtain ⟨g, off, ka0, kc0, na0, nc0, rfl, hg, hxx0, c00, c01, c02, c03, c04⟩ := hK.at (j := 0) (x := a) (by rw [hl]; rfl)
    obtain ⟨g', off', ka1, kc1, na1, nc1, he, _, hxx1, c10, c11, c12, c13, c14⟩ := hK.at (j := 1) (x := c) (by rw [hl]; rfl)
    cases he
    simp only [Nat.zero_mul, Nat.one_mul, Nat.add_zero] at c00 c01 c02 c03 c04 c10 c11 c12 c13 c14
    have hgB : g < B := by omega
    have hp0 : 0 < t.kids.length := by rw [hl]; simp
    have hp1 : 1 < t.kids.length := by rw [hl]; simp
    have Hl : Hid (_ = _) := hl
    clear hl
    go_enter Tryd.func39, Tryd.ntmps39
    go_wp2_with fail
    rw [← Hw1.out]
    clear Hw1
    have cc := put3_any B b _ (⟨#[40]⟩) (bs x) (⟨#[32, 58, 32]⟩) w1 hW1 (cut_len _) hs1 (by decide) (hxl) (by decide)
    unfold wp_ at cc
    rw [Hz1.out] at cc
    refine cc.mono ?_
    rintro e w2 ⟨rfl, hW, hk⟩
    have hW2 := hW.step
    have hK2 := hK1.trans hk
    have hx2 := KW.bx hx1 hk hxb
    clear x0 x1 x2 x3 x4
    obtain ⟨x0, x1, x2, x3, x4⟩ := hx2.cells
    have hs2 := Nat.le_trans hBw hK2.below.size
    clear hW hk cc
    have d00 := (hK2.below.cell (p := ⟨g, off, none⟩) hgB).trans c00
    have d01 := (hK2.below.cell (p := ⟨g, off + 1, none⟩) hgB).trans c01
    have d02 := (hK2.below.cell (p := ⟨g, off + 2, none⟩) hgB).trans c02
    have d03 := (hK2.below.cell (p := ⟨g, off + 3, none⟩) hgB).trans c03
    have d04 := (hK2.below.cell (p := ⟨g, off + 4, none⟩) hgB).trans c04
    have d10 := (hK2.below.cell (p := ⟨g, off + 5, none⟩) hgB).trans c10
    have d11 := (hK2.below.cell (p := ⟨g, off + 5 + 1, none⟩) hgB).trans c11
    have d12 := (hK2.below.cell (p := ⟨g, off + 5 + 2, none⟩) hgB).trans c12
    have d13 := (hK2.below.cell (p := ⟨g, off + 5 + 3, none⟩) hgB).trans c13
    have d14 := (hK2.below.cell (p := ⟨g, off + 5 + 4, none⟩) hgB).trans c14
    go_wp2_with fail
    have cc := hP 0 0 n B b a _ w2 _ (by omega) (by omega) hoa ⟨hba, hxx0.keep (hK2.below.mono hnB), hnB, hs2, hW2, cut_len _⟩
    unfold wp_ at cc
    refine cc.mono ?_
    rintro e w3 ⟨rfl, hW, hk⟩
    have hW3 := hW.step
    have hK3 := hK2.trans hk
    have hx3 := KW.bx hx2 hk hxb
    clear x0 x1 x2 x3 x4
    obtain ⟨x0, x1, x2, x3, x4⟩ := hx3.cells
    have hs3 := Nat.le_trans hBw hK3.below.size
    clear hW hk cc
    have d00 := (hK3.below.cell (p := ⟨g, off, none⟩) hgB).trans c00
    have d01 := (hK3.below.cell (p := ⟨g, off + 1, none⟩) hgB).trans c01
    have d02 := (hK3.below.cell (p := ⟨g, off + 2, none⟩) hgB).trans c02
    have d03 := (hK3.below.cell (p := ⟨g, off + 3, none⟩) hgB).trans c03
    have d04 := (hK3.below.cell (p := ⟨g, off + 4, none⟩) hgB).trans c04
    have d10 := (hK3.below.cell (p := ⟨g, off + 5, none⟩) hgB).trans c10
    have d11 := (hK3.below.cell (p := ⟨g, off + 5 + 1, none⟩) hgB).trans c11
    have d12 := (hK3.below.cell (p := ⟨g, off + 5 + 2, none⟩) hgB).trans c12
    have d13 := (hK3.below.cell (p := ⟨g, off + 5 + 3, none⟩) hgB).trans c13
    have d14 := (hK3.below.cell (p := ⟨g, off + 5 + 4, none⟩) hgB).trans c14
    go_wp2_with fail
    have cc := put2_any B b _ (⟨#[41]⟩) (S) w3 hW3 (cut_len _) hs3 (by decide) (hS)
    unfold wp_ at cc
    refine cc.mono ?_
    rintro e w4 ⟨rfl, hW, hk⟩
    have hW4 := hW.step
    have hK4 := hK3.trans hk
    have hx4 := KW.bx hx3 hk hxb
    clear x0 x1 x2 x3 x4
    obtain ⟨x0, x1, x2, x3, x4⟩ := hx4.cells
    have hs4 := Nat.le_trans hBw hK4.below.size
    clear hW hk cc
    have d00 := (hK4.below.cell (p := ⟨g, off, none⟩) hgB).trans c00
    have d01 := (hK4.below.cell (p := ⟨g, off + 1, none⟩) hgB).trans c01
    have d02 := (hK4.below.cell (p := ⟨g, off + 2, none⟩) hgB).trans c02
    have d03 := (hK4.below.cell (p := ⟨g, off + 3, none⟩) hgB).trans c03
    have d04 := (hK4.below.cell (p := ⟨g, off + 4, none⟩) hgB).trans c04
    have d10 := (hK4.below.cell (p := ⟨g, off + 5, none⟩) hgB).trans c10
    have d11 := (hK4.below.cell (p := ⟨g, off + 5 + 1, none⟩) hgB).trans c11
    have d12 := (hK4.below.cell (p := ⟨g, off + 5 + 2, none⟩) hgB).trans c12
    have d13 := (hK4.below.cell (p := ⟨g, off + 5 + 3, none⟩) hgB).trans c13
    have d14 := (hK4.below.cell (p := ⟨g, off + 5 + 4, none⟩) hgB).trans c14
    go_wp2_with fail
    have cc := hP 0 0 n B b c _ w4 _ (by omega) (by omega) hoc ⟨hbc, hxx1.keep (hK4.below.mono hnB), hnB, hs4, hW4, cut_len _⟩
    unfold wp_ at cc
    refine cc.mono ?_
    rintro e w5 ⟨rfl, hW, hk⟩
    have hW5 := hW.step
    have hK5 := hK4.trans hk
    have hx5 := KW.bx hx4 hk hxb
    clear x0 x1 x2 x3 x4
    obtain ⟨x0, x1, x2, x3, x4⟩ := hx5.cells
    have hs5 := Nat.le_trans hBw hK5.below.size
    clear hW hk cc
    have d00 := (hK5.below.cell (p := ⟨g, off, none⟩) hgB).trans c00
    have d01 := (hK5.below.cell (p := ⟨g, off + 1, none⟩) hgB).trans c01
    have d02 := (hK5.below.cell (p := ⟨g, off + 2, none⟩) hgB).trans c02
    have d03 := (hK5.below.cell (p := ⟨g, off + 3, none⟩) hgB).trans c03
    have d04 := (hK5.below.cell (p := ⟨g, off + 4, none⟩) hgB).trans c04
    have d10 := (hK5.below.cell (p := ⟨g, off + 5, none⟩) hgB).trans c10
    have d11 := (hK5.below.cell (p := ⟨g, off + 5 + 1, none⟩) hgB).trans c11
    have d12 := (hK5.below.cell (p := ⟨g, off + 5 + 2, none⟩) hgB).trans c12
    have d13 := (hK5.below.cell (p := ⟨g, off + 5 + 3, none⟩) hgB).trans c13
    have d14 := (hK5.below.cell (p := ⟨g, off + 5 + 4, none⟩) hgB).trans c14
    go_wp2_with fail
    go_end0
    exact ⟨rfl, hW5.fit (by rw [show t.names.headD [] = x by rw [Hx.out]; rfl, tl_bs]; simp [tl, List.append_assoc]), hK5⟩

set_option maxRecDepth 100000 in
set_option maxHeartbeats 4000000 in
theorem binds_any (f : Nat) (hP : PartC f) (n B b : Nat) (t a : Sx) (hl : t.kids = [a]) (hne : t.names ≠ []) (F T : ByteArray) (v : Value) (w : World) (X : Bs) (hoa : okF f 0 a = true) (hR : Rdy n B b t v w X) (hF : F.size ≤ 1000000) (hT : T.size ≤ 1000000) :
    Calls Tryd.prog 38 #[wp_ b, .string F, v, .string T] w (Wrote B b X (tl F ++ (jn [32] t.names ++ (tl T ++ partF f 0 a))) w) := by
  unfold wp_
  obtain ⟨hb, h, hnB, hBw, hw, hX⟩ := hR
  obtain ⟨ka, kc, na, nc, rfl, hN, hK⟩ := h.form
  obtain ⟨w1, hw1⟩ : ∃ w1, w1 = w.alloc (.cells #[.int .i64 t.kind, .string (bs t.name), .slice ka t.kids.length kc, .slice na t.names.length nc, .int .i64 t.at_] 25) := ⟨_, rfl⟩
  have hK1 : KW B b w w1 := by rw [hw1]; exact KW.of_alloc B b w hBw _
  have hx1 : Bx w1 w.heap.size (.int .i64 t.kind) (.string (bs t.name)) (.slice ka t.kids.length kc) (.slice na t.names.length nc) (.int .i64 t.at_) := by rw [hw1]; exact bx_new _ _ _ _ _ _
  have hW1 : WB B b (cut (X ++ [])) w1 := by rw [hw1]; exact (hw.alloc _).start hX
  have hxb : w.heap.size ≠ b := by have := hw.lt; omega
  have hs1 := Nat.le_trans hBw hK1.below.size
  have hz1 : w1.heap.size = w.heap.size + 1 := by rw [hw1]; simp
  have Hz1 : Hid (_ = _) := hz1
  clear hz1
  have Hw1 : Hid (_ = _) := hw1
  clear hw1
  obtain ⟨x0, x1, x2, x3, x4⟩ := hx1.cells
  have hba : blk a ≤ 1000000 := by have := blk_kid (t := t) (x := a) (by rw [hl]; simp); omega
  obtain ⟨x, r, hx⟩ : ∃ x r, t.names = x :: r := by
    match hh : t.names, hne with
    | x :: r, _ => exact ⟨x, r, rfl⟩
  obtain ⟨gn, on, rfl, hgn, cn⟩ := hN.at (j := 0) (x := x) (by rw [hx]; rfl)
  have cn1 := (hK1.below.cell (p := ⟨gn, on + 0, none⟩) (by show gn < B; omega)).trans cn
  simp only [Nat.add_zero] at cn1
  rw [Hw1.out] at cn1
  have hroom := hN.room
  have hM : t.names.length = r.length + 1 := by rw [hx]; rfl
  have hxl : (bs x).size ≤ 1000000 := by rw [bs_size]; exact snames_any hb x (by rw [hx]; simp)
  have hrl : ∀ y ∈ r, y.length ≤ 1000000 := fun y hy => snames_any hb y (by rw [hx]; simp [hy])
  have hMl : t.names.length < 1000000 := by have := blk_nlen t; omega
  have HT : Hid (tl F ++ (jn [32] t.names ++ (tl T ++ partF f 0 a)) = tl F ++ (x ++ ((r.map fun y => [32] ++ y).flatten ++ (tl T ++ partF f 0 a)))) := by rw [hx]; simp [jn]; trivial
  have HR : Hid (∀ (j : Nat) (y : Bs), r[j]? = some y → w.cell? ⟨gn, on + 1 + j, none⟩ = some (.string (bs y))) := fun j y hj => by
    obtain ⟨g2, o2, he, _, c2⟩ := hN.at (j := j + 1) (x := y) (by rw [hx]; exact hj)
    cases he
    rw [← c2, show on + 1 + j = on + (j + 1) by omega]
  clear hx cn hne
  obtain ⟨R, hR2⟩ : ∃ R, R = r.length := ⟨_, rfl⟩
  have HRl : Hid (R = r.length) := hR2
  rw [← hR2] at hM
  rw [hM] at hN hx1 Hw1 cn1 hroom x3 h hMl ⊢
  clear hM hR2
  obtain ⟨g, off, ka0, kc0, na0, nc0, rfl, hg, hxx0, c00, c01, c02, c03, c04⟩ := hK.at (j := 0) (x := a) (by rw [hl]; rfl)
  simp only [Nat.zero_mul, Nat.add_zero] at c00 c01 c02 c03 c04
  have hgB : g < B := by omega
  have hp0 : 0 < t.kids.length := by rw [hl]; simp
  have Hl : Hid (_ = _) := hl
  clear hl
  by_cases hc1 : nc = 1
  · have hR0 : R = 0 := by omega
    subst hR0 hc1
    go_enter Tryd.func38, Tryd.ntmps38
    go_wp2_with fail
    rw [← Hw1.out]
    clear Hw1
    have cc := put2_any B b _ (F) (bs x) w1 hW1 (cut_len _) hs1 (hF) (hxl)
    unfold wp_ at cc
    rw [Hz1.out] at cc
    refine cc.mono ?_
    rintro e w2 ⟨rfl, hW, hk⟩
    have hW2 := hW.step
    have hK2 := hK1.trans hk
    have hx2 := KW.bx hx1 hk hxb
    clear x0 x1 x2 x3 x4
    obtain ⟨x0, x1, x2, x3, x4⟩ := hx2.cells
    have hs2 := Nat.le_trans hBw hK2.below.size
    clear hW hk cc
    have d00 := (hK2.below.cell (p := ⟨g, off, none⟩) hgB).trans c00
    have d01 := (hK2.below.cell (p := ⟨g, off + 1, none⟩) hgB).trans c01
    have d02 := (hK2.below.cell (p := ⟨g, off + 2, none⟩) hgB).trans c02
    have d03 := (hK2.below.cell (p := ⟨g, off + 3, none⟩) hgB).trans c03
    have d04 := (hK2.below.cell (p := ⟨g, off + 4, none⟩) hgB).trans c04
    go_wp2_with fail
    have HZ : Hid (WB B b (cut (X ++ (([] ++ (tl F ++ tl (bs x))) ++ ((r.take 0).map fun y => [32] ++ y).flatten))) w2) := hW2.fit (by simp)
    go_loopw [22] (fun i wr => ∃ k : Nat, k ≤ 0 ∧ i = .int .i64 k ∧ Hid (Bx wr w.heap.size (.int .i64 t.kind) (.string (bs t.name)) (.slice (some ⟨g, off, none⟩) t.kids.length kc) (.slice (some ⟨gn, on, none⟩) (0 + 1) 1) (.int .i64 t.at_)) ∧ Hid (WB B b (cut (X ++ (([] ++ (tl F ++ tl (bs x))) ++ ((r.take k).map fun y => [32] ++ y).flatten))) wr) ∧ KW B b w wr) (fun i _ => 0 - (intOf i).toNat)
    case atStart => exact ⟨0, Nat.zero_le _, rfl, hx2, HZ, hK2⟩
    case round =>
      obtain ⟨k, hk, rfl, HX, HW, hKr⟩ := hrel
      clear HZ
      have hsr := Nat.le_trans hBw hKr.below.size
      by_cases hlt : k < 0
      · exact absurd hlt (by omega)
      · have HW5 : Hid (WB B b (cut (X ++ (([] ++ (tl F ++ tl (bs x))) ++ (r.map fun y => [32] ++ y).flatten))) wr) := by
          have h9 := HW.out
          rw [List.take_of_length_le (by rw [← HRl.out]; omega)] at h9
          exact h9
        have hx4 := HX.out
        clear HW HX d00 d01 d02 d03 d04
        obtain ⟨w5, hw5⟩ : ∃ w5, w5 = wr := ⟨_, rfl⟩
        rw [← hw5] at hKr hsr HW5 hx4 ⊢
        clear hw5
        have hW5 := HW5.out
        have hK5 := hKr
        have hs5 := hsr
        have hx5 := hx4
        clear x0 x1 x2 x3 x4
        obtain ⟨x0, x1, x2, x3, x4⟩ := hx5.cells
        go_wp2_with fail
        have cc := put1_any B b _ (T) w5 hW5 (cut_len _) hs5 (hT)
        unfold wp_ at cc
        refine cc.mono ?_
        rintro e w6 ⟨rfl, hW, hk⟩
        have hW6 := hW.step
        have hK6 := hK5.trans hk
        have hx6 := KW.bx hx5 hk hxb
        clear x0 x1 x2 x3 x4
        obtain ⟨x0, x1, x2, x3, x4⟩ := hx6.cells
        have hs6 := Nat.le_trans hBw hK6.below.size
        clear hW hk cc
        have d00 := (hK6.below.cell (p := ⟨g, off, none⟩) hgB).trans c00
        have d01 := (hK6.below.cell (p := ⟨g, off + 1, none⟩) hgB).trans c01
        have d02 := (hK6.below.cell (p := ⟨g, off + 2, none⟩) hgB).trans c02
        have d03 := (hK6.below.cell (p := ⟨g, off + 3, none⟩) hgB).trans c03
        have d04 := (hK6.below.cell (p := ⟨g, off + 4, none⟩) hgB).trans c04
        go_wp2_with fail
        have cc := hP 0 0 n B b a _ w6 _ (by omega) (by omega) hoa ⟨hba, hxx0.keep (hK6.below.mono hnB), hnB, hs6, hW6, cut_len _⟩
        unfold wp_ at cc
        refine cc.mono ?_
        rintro e w7 ⟨rfl, hW, hk⟩
        have hW7 := hW.step
        have hK7 := hK6.trans hk
        have hx7 := KW.bx hx6 hk hxb
        clear x0 x1 x2 x3 x4
        obtain ⟨x0, x1, x2, x3, x4⟩ := hx7.cells
        have hs7 := Nat.le_trans hBw hK7.below.size
        clear hW hk cc
        have d00 := (hK7.below.cell (p := ⟨g, off, none⟩) hgB).trans c00
        have d01 := (hK7.below.cell (p := ⟨g, off + 1, none⟩) hgB).trans c01
        have d02 := (hK7.below.cell (p := ⟨g, off + 2, none⟩) hgB).trans c02
        have d03 := (hK7.below.cell (p := ⟨g, off + 3, none⟩) hgB).trans c03
        have d04 := (hK7.below.cell (p := ⟨g, off + 4, none⟩) hgB).trans c04
        go_wp2_with fail
        go_end0
        exact ⟨rfl, hW7.fit (by rw [HT.out]; simp [tl_bs, List.append_assoc]), hK7⟩
  · have hc2 : ¬ 1 = nc := fun h => hc1 h.symm
    go_enter Tryd.func38, Tryd.ntmps38
    go_wp2_with fail
    rw [← Hw1.out]
    clear Hw1
    have cc := put2_any B b _ (F) (bs x) w1 hW1 (cut_len _) hs1 (hF) (hxl)
    unfold wp_ at cc
    rw [Hz1.out] at cc
    refine cc.mono ?_
    rintro e w2 ⟨rfl, hW, hk⟩
    have hW2 := hW.step
    have hK2 := hK1.trans hk
    have hx2 := KW.bx hx1 hk hxb
    clear x0 x1 x2 x3 x4
    obtain ⟨x0, x1, x2, x3, x4⟩ := hx2.cells
    have hs2 := Nat.le_trans hBw hK2.below.size
    clear hW hk cc
    have d00 := (hK2.below.cell (p := ⟨g, off, none⟩) hgB).trans c00
    have d01 := (hK2.below.cell (p := ⟨g, off + 1, none⟩) hgB).trans c01
    have d02 := (hK2.below.cell (p := ⟨g, off + 2, none⟩) hgB).trans c02
    have d03 := (hK2.below.cell (p := ⟨g, off + 3, none⟩) hgB).trans c03
    have d04 := (hK2.below.cell (p := ⟨g, off + 4, none⟩) hgB).trans c04
    go_wp2_with fail
    have HZ : Hid (WB B b (cut (X ++ (([] ++ (tl F ++ tl (bs x))) ++ ((r.take 0).map fun y => [32] ++ y).flatten))) w2) := hW2.fit (by simp)
    go_loopw [22] (fun i wr => ∃ k : Nat, k ≤ R ∧ i = .int .i64 k ∧ Hid (Bx wr w.heap.size (.int .i64 t.kind) (.string (bs t.name)) (.slice (some ⟨g, off, none⟩) t.kids.length kc) (.slice (some ⟨gn, on, none⟩) (R + 1) nc) (.int .i64 t.at_)) ∧ Hid (WB B b (cut (X ++ (([] ++ (tl F ++ tl (bs x))) ++ ((r.take k).map fun y => [32] ++ y).flatten))) wr) ∧ KW B b w wr) (fun i _ => R - (intOf i).toNat)
    case atStart => exact ⟨0, Nat.zero_le _, rfl, hx2, HZ, hK2⟩
    case round =>
      obtain ⟨k, hk, rfl, HX, HW, hKr⟩ := hrel
      clear HZ
      have hsr := Nat.le_trans hBw hKr.below.size
      by_cases hlt : k < R
      · obtain ⟨y, hy⟩ := someS (l := r) (k := k) (by rw [← HRl.out]; exact hlt)
        have cy := (hKr.below.cell (p := ⟨gn, on + 1 + k, none⟩) (by show gn < B; omega)).trans (HR.out k y hy)
        have cc := put2_any B b _ ⟨#[32]⟩ (bs y) wr HW.out (cut_len _) hsr (by decide) (by rw [bs_size]; exact hrl y (List.mem_of_getElem? hy))
        have HN : Hid (((r.take (k + 1)).map fun y => [32] ++ y).flatten = ((r.take k).map fun y => [32] ++ y).flatten ++ ([32] ++ y)) := by
          obtain ⟨h1, h2⟩ := List.getElem?_eq_some_iff.1 hy
          rw [List.take_succ_eq_append_getElem h1, h2]; simp; trivial
        unfold wp_ at cc
        clear hy
        go_wp2_with fail
        refine cc.mono ?_
        rintro e w3 ⟨rfl, hW, hk3⟩
        have hW3 := hW.step
        go_wp2_with fail
        go_roundw
        case rel => exact ⟨k + 1, by omega, by go_num, KW.bx HX.out hk3 hxb, hW3.fit (by rw [HN.out]; simp [tl_bs, List.append_assoc]; rfl), hKr.trans hk3⟩
        case measure => simp [intOf]; omega
      · have HW5 : Hid (WB B b (cut (X ++ (([] ++ (tl F ++ tl (bs x))) ++ (r.map fun y => [32] ++ y).flatten))) wr) := by
          have h9 := HW.out
          rw [List.take_of_length_le (by rw [← HRl.out]; omega)] at h9
          exact h9
        have hx4 := HX.out
        clear HW HX d00 d01 d02 d03 d04
        obtain ⟨w5, hw5⟩ : ∃ w5, w5 = wr := ⟨_, rfl⟩
        rw [← hw5] at hKr hsr HW5 hx4 ⊢
        clear hw5
        have hW5 := HW5.out
        have hK5 := hKr
        have hs5 := hsr
        have hx5 := hx4
        clear x0 x1 x2 x3 x4
        obtain ⟨x0, x1, x2, x3, x4⟩ := hx5.cells
        go_wp2_with fail
        have cc := put1_any B b _ (T) w5 hW5 (cut_len _) hs5 (hT)
        unfold wp_ at cc
        refine cc.mono ?_
        rintro e w6 ⟨rfl, hW, hk⟩
        have hW6 := hW.step
        have hK6 := hK5.trans hk
        have hx6 := KW.bx hx5 hk hxb
        clear x0 x1 x2 x3 x4
        obtain ⟨x0, x1, x2, x3, x4⟩ := hx6.cells
        have hs6 := Nat.le_trans hBw hK6.below.size
        clear hW hk cc
        have d00 := (hK6.below.cell (p := ⟨g, off, none⟩) hgB).trans c00
        have d01 := (hK6.below.cell (p := ⟨g, off + 1, none⟩) hgB).trans c01
        have d02 := (hK6.below.cell (p := ⟨g, off + 2, none⟩) hgB).trans c02
        have d03 := (hK6.below.cell (p := ⟨g, off + 3, none⟩) hgB).trans c03
        have d04 := (hK6.below.cell (p := ⟨g, off + 4, none⟩) hgB).trans c04
        go_wp2_with fail
        have cc := hP 0 0 n B b a _ w6 _ (by omega) (by omega) hoa ⟨hba, hxx0.keep (hK6.below.mono hnB), hnB, hs6, hW6, cut_len _⟩
        unfold wp_ at cc
        refine cc.mono ?_
        rintro e w7 ⟨rfl, hW, hk⟩
        have hW7 := hW.step
        have hK7 := hK6.trans hk
        have hx7 := KW.bx hx6 hk hxb
        clear x0 x1 x2 x3 x4
        obtain ⟨x0, x1, x2, x3, x4⟩ := hx7.cells
        have hs7 := Nat.le_trans hBw hK7.below.size
        clear hW hk cc
        have d00 := (hK7.below.cell (p := ⟨g, off, none⟩) hgB).trans c00
        have d01 := (hK7.below.cell (p := ⟨g, off + 1, none⟩) hgB).trans c01
        have d02 := (hK7.below.cell (p := ⟨g, off + 2, none⟩) hgB).trans c02
        have d03 := (hK7.below.cell (p := ⟨g, off + 3, none⟩) hgB).trans c03
        have d04 := (hK7.below.cell (p := ⟨g, off + 4, none⟩) hgB).trans c04
        go_wp2_with fail
        go_end0
        exact ⟨rfl, hW7.fit (by rw [HT.out]; simp [tl_bs, List.append_assoc]), hK7⟩

end Go.Proofs.YtahnbigkdfmpbaaDoor
