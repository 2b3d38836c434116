/- File, by the document's answer. -/
import Derived.Test.YtpfnjeefhddikaaRTop
import Derived.Test.YtpfnjeefhddikaaSTop
namespace Go.Proofs.Ytpfnjeefhddikaa
open Go.RowKit
set_option linter.unusedVariables false
set_option linter.unusedSimpArgs false

theorem decls_len (f : Nat) (l : List Sx) : ((l.map (declR f)).flatten).length ≤ 16 * blkK l := by
  unfold blkK
  induction l with
  | nil => simp
  | cons x l ih =>
    have h3 := declR_len f x
    rw [List.map_cons, List.flatten_cons, List.length_append, List.map_cons, List.sum_cons]
    omega
theorem declB_eq (y : Sx) : declB 65536 y = (decide (y.kind = 18) && (nameB y.name && (decide (y.names = []) && (decide (y.kids.length = 2) && (okF 65536 0 (kd y 0) && okF 65536 0 (kd y 1)))))) := by
  unfold declB
  rw [are2_eq]
theorem file_no {l : List Sx} {q : Bool} (h : (false && q) = l.all (declB 65536)) : fileT 65536 l = ([], 61) := by
  unfold fileT
  rw [← h]
  rfl
theorem mem_blkK {l : List Sx} {y : Sx} (h : y ∈ l) : blk y ≤ blkK l := by
  unfold blkK
  exact sum_mem (List.mem_map_of_mem (f := blk) h)

set_option maxRecDepth 100000 in
set_option maxHeartbeats 8000000 in
theorem rFile_any (n : Nat) (l : List Sx) (ka : Option Addr) (kc : Nat) (w : World) (hK : KdP n w (SxIn n w) l ka) (hn : n ≤ w.heap.size) (hl : l.length ≤ 1000000) (hb : blkK l ≤ 65536) :
    Calls Try.prog 12 #[.slice ka l.length kc] w fun e w' => e = .returned (.tuple #[.string (bs (fileT 65536 l).1), .int .i64 ((fileT 65536 l).2 : Nat)]) ∧ Below w.heap.size w w' := by
  obtain ⟨L, hL⟩ : ∃ L, L = l.length := ⟨_, rfl⟩
  have HL : Hid (L = l.length) := hL
  rw [← hL] at hl ⊢
  clear hL
  have HK : Hid (KdP n w (SxIn n w) l ka) := hK
  clear hK
  have H0 : Hid ((l.drop 0).all (declB 65536) = l.all (declB 65536)) := rfl
  go_enter Try.func12, Try.ntmps12
  go_wp2_with fail
  go_loopw [4, 5] (fun s i wr => ∃ k : Nat, k ≤ L ∧ i = .int .i64 k ∧ s = .string (bs ((l.take k).map (declR 65536)).flatten) ∧ Hid ((l.drop k).all (declB 65536) = l.all (declB 65536)) ∧ Below w.heap.size w wr) (fun _ i _ => L - (intOf i).toNat)
  case atStart => exact ⟨0, Nat.zero_le _, rfl, rfl, H0, Below.refl _ _⟩
  case round =>
    obtain ⟨k, hk, rfl, rfl, HD, hB⟩ := hrel
    clear H0
    have hnr := Nat.le_trans hn hB.size
    have hzl := Nat.le_trans (decls_len 65536 (l.take k)) (Nat.mul_le_mul_left 16 (blkK_take l k))
    by_cases hlt : k < L
    · obtain ⟨y, hy⟩ := someS (l := l) (k := k) (by rw [← HL.out]; exact hlt)
      have hym := List.mem_of_getElem? hy
      have hby := mem_blkK hym
      have hbs := blk_sum y
      have HN2 : Hid (_ = _) := flat_take (declR 65536) hy
      obtain ⟨g, off, ka0, kc0, na0, nc0, rfl, hg, hxx, c0, c1, c2, c3, c4⟩ := (HK.out.all (hB.mono hn)).at hy
      have HS0 : (declB 65536 y && (l.drop (k + 1)).all (declB 65536)) = l.all (declB 65536) := by rw [← HD.out]; exact (all_drop _ hy).symm
      rw [declB_eq] at HS0
      have HS : Hid (_ = _) := HS0
      clear HS0 HD hy
      have hKy : Hid (KdP n wr (SxIn n wr) y.kids ka0) := hxx.parts
      have hkl := blk_klen y
      have hnl := blk_nlen y
      obtain ⟨z, hz⟩ : ∃ z, z = ((l.take k).map (declR 65536)).flatten := ⟨_, rfl⟩
      have Hz : Hid (_ = _) := hz
      rw [← hz] at hzl ⊢
      clear hz
      obtain ⟨wa, hwa⟩ : ∃ wa, wa = wr.alloc (.cells #[.int .i64 y.kind, .string (bs y.name), .slice ka0 y.kids.length kc0, .slice na0 y.names.length nc0, .int .i64 y.at_] 25) := ⟨_, rfl⟩
      have hba : Below wr.heap.size wr wa := by rw [hwa]; exact below_alloc _ _
      have hBa : Bx wa wr.heap.size (.int .i64 y.kind) (.string (bs y.name)) (.slice ka0 y.kids.length kc0) (.slice na0 y.names.length nc0) (.int .i64 y.at_) := by rw [hwa]; exact bx_new _ _ _ _ _ _
      have Hwa : Hid (_ = _) := hwa
      clear hwa hxx
      have hala := chain hB hba
      have hna := Nat.le_trans hnr hba.size
      have cN := rNamed_any y.name wa (by omega)
      by_cases h18 : y.kind = 18
      · have e18 : (y.kind == 18) = true := by rw [h18]; rfl
        have e18' : (y.kind != 18) = false := by rw [h18]; rfl
        rw [decide_eq_true h18] at HS
        clear h18
        cases hnm : nameB y.name
        · rw [hnm] at cN HS
          clear hnm
          have HX : Hid ((false && (l.drop (k + 1)).all (declB 65536)) = l.all (declB 65536)) := (by have h9 := HS.out; simpa using h9 : (false && (l.drop (k + 1)).all (declB 65536)) = l.all (declB 65536))
          clear HS
          go_wp2_with fail
          rw [← Hwa.out]
          clear Hwa
          refine cN.mono ?_
          rintro e w2 ⟨rfl, hb2⟩
          go_wp2_with fail
          go_ret2
          exact ⟨by rw [file_no (q := _) HX.out]; rfl, chain hala hb2⟩
        · rw [hnm] at cN HS
          clear hnm
          obtain ⟨MY, hMY⟩ : ∃ MY, MY = y.names.length := ⟨_, rfl⟩
          rw [← hMY] at hBa Hwa hnl c3
          by_cases hnn : y.names = []
          · rw [decide_eq_true hnn] at HS
            have hM0 : MY = 0 := by rw [hMY, hnn]; rfl
            clear hMY hnn
            subst hM0
            by_cases h2 : y.kids.length = 2
            · rw [decide_eq_true h2] at HS
              have el2 : ((y.kids.length : Int) == 2) = true := by rw [h2]; rfl
              have el2' : ((y.kids.length : Int) != 2) = false := by rw [h2]; rfl
              obtain ⟨a, c, hkk⟩ : ∃ a c, y.kids = [a, c] := by
                match hh : y.kids, h2 with
                | [a, c], _ => exact ⟨a, c, rfl⟩
              have hp0 : 0 < y.kids.length := by omega
              have hq1 : (1 : Int) < (y.kids.length : Int) := by omega
              rw [show kd y 0 = a by rw [kd_kids hkk]; rfl, show kd y 1 = c by rw [kd_kids hkk]; rfl] at HS
              have HDR : Hid (declR 65536 y = y.name ++ 32 :: 58 :: 32 :: (partF 65536 0 a ++ 32 :: 61 :: 32 :: (partF 65536 0 c ++ [59, 10]))) := (by unfold declR; rw [kd_kids hkk, kd_kids hkk]; simp : declR 65536 y = y.name ++ 32 :: 58 :: 32 :: (partF 65536 0 a ++ 32 :: 61 :: 32 :: (partF 65536 0 c ++ [59, 10])))
              obtain ⟨gy, oy, ka1, kc1, na1, nc1, hey, hgy, hxa, a0, a1, a2, a3, a4⟩ := hKy.out.at (j := 0) (x := a) (by rw [hkk]; rfl)
              obtain ⟨gy', oy', ka2, kc2, na2, nc2, hey', _, hxc, b0, b1, b2, b3, b4⟩ := hKy.out.at (j := 1) (x := c) (by rw [hkk]; rfl)
              subst hey
              cases hey'
              simp only [Nat.zero_mul, Nat.one_mul, Nat.add_zero] at a0 a1 a2 a3 a4 b0 b1 b2 b3 b4
              have hba1 : blk a < blk y := blk_kid (by rw [hkk]; simp)
              have hbc1 : blk c < blk y := blk_kid (by rw [hkk]; simp)
              clear h2 hkk hKy
              go_wp2_with fail
              rw [← Hwa.out]
              clear Hwa c0 c1 c2 c3 c4
              refine cN.mono ?_
              rintro e w2 ⟨rfl, hb2⟩
              clear cN
              have hB2 := hBa.blw hb2
              obtain ⟨x0, x1, x2, x3, x4⟩ := hB2.cells
              have hbr2 := chain hba hb2
              have hal2 := chain hB hbr2
              have hn2 := Nat.le_trans hn hal2.size
              have da0 := (hbr2.cell (p := ⟨gy, oy, none⟩) (by show gy < _; omega)).trans a0
              have da1 := (hbr2.cell (p := ⟨gy, oy + 1, none⟩) (by show gy < _; omega)).trans a1
              have da2 := (hbr2.cell (p := ⟨gy, oy + 2, none⟩) (by show gy < _; omega)).trans a2
              have da3 := (hbr2.cell (p := ⟨gy, oy + 3, none⟩) (by show gy < _; omega)).trans a3
              have da4 := (hbr2.cell (p := ⟨gy, oy + 4, none⟩) (by show gy < _; omega)).trans a4
              have db0 := (hbr2.cell (p := ⟨gy, oy + 5, none⟩) (by show gy < _; omega)).trans b0
              have db1 := (hbr2.cell (p := ⟨gy, oy + 5 + 1, none⟩) (by show gy < _; omega)).trans b1
              have db2 := (hbr2.cell (p := ⟨gy, oy + 5 + 2, none⟩) (by show gy < _; omega)).trans b2
              have db3 := (hbr2.cell (p := ⟨gy, oy + 5 + 3, none⟩) (by show gy < _; omega)).trans b3
              have db4 := (hbr2.cell (p := ⟨gy, oy + 5 + 4, none⟩) (by show gy < _; omega)).trans b4
              have cA := rRight_any 65536 n a _ w2 (hxa.keep (hbr2.mono hnr)) hn2 (by omega) (Nat.le_refl _)
              cases hoa : okF 65536 0 a
              · rw [hoa] at cA HS
                clear hoa
                have HX : Hid ((false && (l.drop (k + 1)).all (declB 65536)) = l.all (declB 65536)) := (by have h9 := HS.out; simpa using h9 : (false && (l.drop (k + 1)).all (declB 65536)) = l.all (declB 65536))
                clear HS
                go_wp2_with fail
                refine cA.mono ?_
                rintro e w3 ⟨rfl, hb3⟩
                go_wp2_with fail
                go_ret2
                exact ⟨by rw [file_no (q := _) HX.out]; rfl, chain hal2 hb3⟩
              · rw [hoa] at cA HS
                go_wp2_with fail
                refine cA.mono ?_
                rintro e w3 ⟨rfl, hb3⟩
                clear cA x0 x1 x2 x3 x4
                have hB3 := hB2.blw hb3
                obtain ⟨x0, x1, x2, x3, x4⟩ := hB3.cells
                have hbr3 := chain hbr2 hb3
                have hal3 := chain hB hbr3
                have hn3 := Nat.le_trans hn hal3.size
                have ea0 := (hbr3.cell (p := ⟨gy, oy, none⟩) (by show gy < _; omega)).trans a0
                have ea1 := (hbr3.cell (p := ⟨gy, oy + 1, none⟩) (by show gy < _; omega)).trans a1
                have ea2 := (hbr3.cell (p := ⟨gy, oy + 2, none⟩) (by show gy < _; omega)).trans a2
                have ea3 := (hbr3.cell (p := ⟨gy, oy + 3, none⟩) (by show gy < _; omega)).trans a3
                have ea4 := (hbr3.cell (p := ⟨gy, oy + 4, none⟩) (by show gy < _; omega)).trans a4
                have eb0 := (hbr3.cell (p := ⟨gy, oy + 5, none⟩) (by show gy < _; omega)).trans b0
                have eb1 := (hbr3.cell (p := ⟨gy, oy + 5 + 1, none⟩) (by show gy < _; omega)).trans b1
                have eb2 := (hbr3.cell (p := ⟨gy, oy + 5 + 2, none⟩) (by show gy < _; omega)).trans b2
                have eb3 := (hbr3.cell (p := ⟨gy, oy + 5 + 3, none⟩) (by show gy < _; omega)).trans b3
                have eb4 := (hbr3.cell (p := ⟨gy, oy + 5 + 4, none⟩) (by show gy < _; omega)).trans b4
                have cC := rRight_any 65536 n c _ w3 (hxc.keep (hbr3.mono hnr)) hn3 (by omega) (Nat.le_refl _)
                cases hoc : okF 65536 0 c
                · rw [hoc] at cC HS
                  clear hoc
                  have HX : Hid ((false && (l.drop (k + 1)).all (declB 65536)) = l.all (declB 65536)) := (by have h9 := HS.out; simpa using h9 : (false && (l.drop (k + 1)).all (declB 65536)) = l.all (declB 65536))
                  clear HS
                  go_wp2_with fail
                  refine cC.mono ?_
                  rintro e w4 ⟨rfl, hb4⟩
                  go_wp2_with fail
                  go_ret2
                  exact ⟨by rw [file_no (q := _) HX.out]; rfl, chain hal3 hb4⟩
                · rw [hoc] at cC HS
                  have HX : Hid ((l.drop (k + 1)).all (declB 65536) = l.all (declB 65536)) := (by have h9 := HS.out; simpa using h9 : (l.drop (k + 1)).all (declB 65536) = l.all (declB 65536))
                  clear HS
                  go_wp2_with fail
                  refine cC.mono ?_
                  rintro e w4 ⟨rfl, hb4⟩
                  clear cC x0 x1 x2 x3 x4
                  have hB4 := hB3.blw hb4
                  obtain ⟨x0, x1, x2, x3, x4⟩ := hB4.cells
                  have hbr4 := chain hbr3 hb4
                  have hal4 := chain hB hbr4
                  have hn4 := Nat.le_trans hn hal4.size
                  have hs4 := hbr4.size
                  have X1 : ∀ u : ClsS w4, u.1.cell? ⟨wr.heap.size, 1, none⟩ = _ := fun u => (u.2.cell (p := ⟨wr.heap.size, 1, none⟩) hB4.lt).trans x1
                  have X2 : ∀ u : ClsS w4, u.1.cell? ⟨wr.heap.size, 2, none⟩ = _ := fun u => (u.2.cell (p := ⟨wr.heap.size, 2, none⟩) hB4.lt).trans x2
                  have fa0 := (hbr4.cell (p := ⟨gy, oy, none⟩) (by show gy < _; omega)).trans a0
                  have fa1 := (hbr4.cell (p := ⟨gy, oy + 1, none⟩) (by show gy < _; omega)).trans a1
                  have fa2 := (hbr4.cell (p := ⟨gy, oy + 2, none⟩) (by show gy < _; omega)).trans a2
                  have fa3 := (hbr4.cell (p := ⟨gy, oy + 3, none⟩) (by show gy < _; omega)).trans a3
                  have fa4 := (hbr4.cell (p := ⟨gy, oy + 4, none⟩) (by show gy < _; omega)).trans a4
                  have fb0 := (hbr4.cell (p := ⟨gy, oy + 5, none⟩) (by show gy < _; omega)).trans b0
                  have fb1 := (hbr4.cell (p := ⟨gy, oy + 5 + 1, none⟩) (by show gy < _; omega)).trans b1
                  have fb2 := (hbr4.cell (p := ⟨gy, oy + 5 + 2, none⟩) (by show gy < _; omega)).trans b2
                  have fb3 := (hbr4.cell (p := ⟨gy, oy + 5 + 3, none⟩) (by show gy < _; omega)).trans b3
                  have fb4 := (hbr4.cell (p := ⟨gy, oy + 5 + 4, none⟩) (by show gy < _; omega)).trans b4
                  have Fa0 : ∀ u : ClsS w4, u.1.cell? ⟨gy, oy, none⟩ = _ := fun u => (u.2.cell (p := ⟨gy, oy, none⟩) (by show gy < _; omega)).trans fa0
                  have Fa1 : ∀ u : ClsS w4, u.1.cell? ⟨gy, oy + 1, none⟩ = _ := fun u => (u.2.cell (p := ⟨gy, oy + 1, none⟩) (by show gy < _; omega)).trans fa1
                  have Fa2 : ∀ u : ClsS w4, u.1.cell? ⟨gy, oy + 2, none⟩ = _ := fun u => (u.2.cell (p := ⟨gy, oy + 2, none⟩) (by show gy < _; omega)).trans fa2
                  have Fa3 : ∀ u : ClsS w4, u.1.cell? ⟨gy, oy + 3, none⟩ = _ := fun u => (u.2.cell (p := ⟨gy, oy + 3, none⟩) (by show gy < _; omega)).trans fa3
                  have Fa4 : ∀ u : ClsS w4, u.1.cell? ⟨gy, oy + 4, none⟩ = _ := fun u => (u.2.cell (p := ⟨gy, oy + 4, none⟩) (by show gy < _; omega)).trans fa4
                  have Fb0 : ∀ u : ClsS w4, u.1.cell? ⟨gy, oy + 5, none⟩ = _ := fun u => (u.2.cell (p := ⟨gy, oy + 5, none⟩) (by show gy < _; omega)).trans fb0
                  have Fb1 : ∀ u : ClsS w4, u.1.cell? ⟨gy, oy + 5 + 1, none⟩ = _ := fun u => (u.2.cell (p := ⟨gy, oy + 5 + 1, none⟩) (by show gy < _; omega)).trans fb1
                  have Fb2 : ∀ u : ClsS w4, u.1.cell? ⟨gy, oy + 5 + 2, none⟩ = _ := fun u => (u.2.cell (p := ⟨gy, oy + 5 + 2, none⟩) (by show gy < _; omega)).trans fb2
                  have Fb3 : ∀ u : ClsS w4, u.1.cell? ⟨gy, oy + 5 + 3, none⟩ = _ := fun u => (u.2.cell (p := ⟨gy, oy + 5 + 3, none⟩) (by show gy < _; omega)).trans fb3
                  have Fb4 : ∀ u : ClsS w4, u.1.cell? ⟨gy, oy + 5 + 4, none⟩ = _ := fun u => (u.2.cell (p := ⟨gy, oy + 5 + 4, none⟩) (by show gy < _; omega)).trans fb4
                  have hla := partF_len 65536 0 a
                  have hlc := partF_len 65536 0 c
                  have ad1 : ∀ w, (Op.stringOp .add (bs z) (bs y.name)).run Try.prog w = .ok (.string (bs (z ++ y.name))) w := add_as rfl (by simp; omega)
                  have ad2 : ∀ w, (Op.stringOp .add (bs (z ++ y.name)) ⟨#[32, 58, 32]⟩).run Try.prog w = .ok (.string (bs (z ++ (y.name ++ [32, 58, 32])))) w := add_as (b := [32, 58, 32]) (by simp) (by simp; omega)
                  have ad3 : ∀ w, (Op.stringOp .add (bs (z ++ (y.name ++ [32, 58, 32]))) (bs (partF 65536 0 a))).run Try.prog w = .ok (.string (bs (z ++ (y.name ++ 32 :: 58 :: 32 :: partF 65536 0 a)))) w := add_as (by simp) (by simp; omega)
                  have ad4 : ∀ w, (Op.stringOp .add (bs (z ++ (y.name ++ 32 :: 58 :: 32 :: partF 65536 0 a))) ⟨#[32, 61, 32]⟩).run Try.prog w = .ok (.string (bs (z ++ (y.name ++ 32 :: 58 :: 32 :: (partF 65536 0 a ++ [32, 61, 32]))))) w := add_as (b := [32, 61, 32]) (by simp) (by simp; omega)
                  have ad5 : ∀ w, (Op.stringOp .add (bs (z ++ (y.name ++ 32 :: 58 :: 32 :: (partF 65536 0 a ++ [32, 61, 32])))) (bs (partF 65536 0 c))).run Try.prog w = .ok (.string (bs (z ++ (y.name ++ 32 :: 58 :: 32 :: (partF 65536 0 a ++ 32 :: 61 :: 32 :: partF 65536 0 c))))) w := add_as (by simp) (by simp; omega)
                  have ad6 : ∀ w, (Op.stringOp .add (bs (z ++ (y.name ++ 32 :: 58 :: 32 :: (partF 65536 0 a ++ 32 :: 61 :: 32 :: partF 65536 0 c)))) ⟨#[59, 10]⟩).run Try.prog w = .ok (.string (bs (z ++ (y.name ++ 32 :: 58 :: 32 :: (partF 65536 0 a ++ 32 :: 61 :: 32 :: (partF 65536 0 c ++ [59, 10])))))) w := add_as (b := [59, 10]) (by simp) (by simp; omega)
                  have HcA : Hid (∀ u : ClsS w4, _) := fun u : ClsS w4 => clsS_call u ((text_any 65536).at0 n a _ u.1 hoa (by omega) ((hxa.keep (hbr4.mono hnr)).keep (u.2.mono hn4)) (Nat.le_trans hn4 u.2.size))
                  have HcB : Hid (∀ u : ClsS w4, _) := fun u : ClsS w4 => clsS_call u ((text_any 65536).at0 n c _ u.1 hoc (by omega) ((hxc.keep (hbr4.mono hnr)).keep (u.2.mono hn4)) (Nat.le_trans hn4 u.2.size))
                  go_wp2_with fail
                  have hne := clsS_any w4
                  refine wp_region_clsS (by kernel_rfl) (by kernel_rfl) ?_
                  iterate 10 (quiet_step (exact HcA.out _))
                  repeat (quiet_step (exact HcB.out _))
                  refine wpQuiet_nil ?_
                  rintro _ ⟨u, rfl⟩
                  obtain ⟨w5, hb5⟩ := u
                  go_wp2_with fail
                  go_roundw
                  case rel => exact ⟨k + 1, by omega, by go_num, by rw [HN2.out, HDR.out, ← Hz.out], HX, chain hal4 hb5⟩
                  case measure => simp [intOf]; omega
            · rw [decide_eq_false h2] at HS
              have el2 : ((y.kids.length : Int) == 2) = false := by rw [Bool.eq_false_iff]; intro e9; simp at e9; omega
              have el2' : ((y.kids.length : Int) != 2) = true := by unfold bne; rw [el2]; rfl
              clear h2
              have HX : Hid ((false && (l.drop (k + 1)).all (declB 65536)) = l.all (declB 65536)) := (by have h9 := HS.out; simpa using h9 : (false && (l.drop (k + 1)).all (declB 65536)) = l.all (declB 65536))
              clear HS
              go_wp2_with fail
              rw [← Hwa.out]
              clear Hwa
              refine cN.mono ?_
              rintro e w2 ⟨rfl, hb2⟩
              have hB2 := hBa.blw hb2
              obtain ⟨x0, x1, x2, x3, x4⟩ := hB2.cells
              go_wp2_with fail
              go_ret2
              exact ⟨by rw [file_no (q := _) HX.out]; rfl, chain hala hb2⟩
          · rw [decide_eq_false hnn] at HS
            have hpos : 0 < MY := by rw [hMY]; exact List.length_pos_iff.2 hnn
            clear hMY hnn
            have HX : Hid ((false && (l.drop (k + 1)).all (declB 65536)) = l.all (declB 65536)) := (by have h9 := HS.out; simpa using h9 : (false && (l.drop (k + 1)).all (declB 65536)) = l.all (declB 65536))
            clear HS
            go_wp2_with fail
            rw [← Hwa.out]
            clear Hwa
            refine cN.mono ?_
            rintro e w2 ⟨rfl, hb2⟩
            have hB2 := hBa.blw hb2
            obtain ⟨x0, x1, x2, x3, x4⟩ := hB2.cells
            go_wp2_with fail
            go_ret2
            exact ⟨by rw [file_no (q := _) HX.out]; rfl, chain hala hb2⟩
      · have e18 : (y.kind == 18) = false := by simpa using h18
        have e18' : (y.kind != 18) = true := by simpa using h18
        rw [decide_eq_false h18] at HS
        clear h18
        have HX : Hid ((false && (l.drop (k + 1)).all (declB 65536)) = l.all (declB 65536)) := (by have h9 := HS.out; simpa using h9 : (false && (l.drop (k + 1)).all (declB 65536)) = l.all (declB 65536))
        clear HS
        go_wp2_with fail
        rw [← Hwa.out]
        clear Hwa
        go_ret2
        exact ⟨by rw [file_no (q := _) HX.out]; rfl, hala⟩
    · have hke : k = L := by omega
      have HTk : Hid (l.take k = l) := List.take_of_length_le (by rw [← HL.out, hke]; exact Nat.le_refl _)
      have HA : Hid (l.all (declB 65536) = true) := by
        have h := HD.out
        rw [List.drop_of_length_le (by rw [← HL.out]; omega)] at h
        exact h.symm
      rw [HTk.out] at hzl ⊢
      have HT : Hid (fileT 65536 l = toldF ((l.map (declR 65536)).flatten)) := by unfold fileT; rw [HA.out]; rfl
      obtain ⟨z, hz⟩ : ∃ z, z = (l.map (declR 65536)).flatten := ⟨_, rfl⟩
      rw [← hz] at hzl HT ⊢
      clear hz HD HA HTk
      have cD := rDone_any z wr (by omega)
      go_wp2_with fail
      refine cD.mono ?_
      rintro e w4 ⟨rfl, hb4⟩
      go_wp2_with fail
      go_ret2
      exact ⟨by rw [HT.out]; rfl, chain hB hb4⟩
end Go.Proofs.Ytpfnjeefhddikaa
