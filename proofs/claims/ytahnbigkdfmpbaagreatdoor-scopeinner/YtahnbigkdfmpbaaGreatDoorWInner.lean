/- The walk of ScopeInner. -/
import Derived.Test.YtahnbigkdfmpbaaGreatDoorIZM
import Derived.Test.YtahnbigkdfmpbaaGreatDoorIZN
set_option linter.unusedVariables false
set_option linter.unusedSimpArgs false
namespace Go.Proofs.YtahnbigkdfmpbaaGreatDoor
open Go.RowKit
theorem wpList_addZ {w : World} {ops : Array Oper} {rest : List Oper} {o : Oper} {a : Act} {Q : Exit → Act → World → Prop} (hgd : o.guard = none) (x y : Operand) (ho : o.op = .binOp .add 9 x y 9)
  (A B S : ByteArray) (hx : a.eval x = .string A) (hy : a.eval y = .string B) (hS : ∀ w, (Op.stringOp .add A B).run Tryz.prog w = .ok (.string S) w)
  (h : wpList Tryz.prog ops Q rest (a.put o.dst (.string S)) w) : wpList Tryz.prog ops Q (o :: rest) a w := by
 refine wpList_plain hgd fun K hK' => ?_
 unfold Oper.wp
 have e : (binOp .add 9 (.string A) (.string B)).run Tryz.prog w = .ok (.string S) w := by rw [binOp_string_add]; exact hS w
 simp [execOp, ho, hx, hy, eqGuard, e, Result.andThen]
 exact hK' _ _ h
theorem add_asZ {a b c : Bs} (h : a ++ b = c) (hl : c.length ≤ 100000000) (w : World) : (Op.stringOp .add (bs a) (bs b)).run Tryz.prog w = .ok (.string (bs c)) w := by
 subst h
 have z : (bs a).size + (bs b).size = (a ++ b).length := by rw [bs_size, bs_size, List.length_append]
 rw [run_string_add_sum w _ _ (by omega)]
 have e : bs a ++ bs b = bs (a ++ b) := by
  rw [← bs_tl (bs a ++ bs b)]
  congr 1
  try simp [tl, bs]
 rw [e]
theorem nms_row (w W : World) (ns : List Bs) (cs : Array Value) (hcs : cs.toList = ns.map fun x => Value.string (bs x)) (hW : W = w.alloc (.cells cs 9)) : NmS W.heap.size W ns (.slice (some ⟨w.heap.size, 0, none⟩) ns.length ns.length) := by
 refine ⟨_, _, rfl, Nat.le_refl _, fun j x hx => ⟨w.heap.size, 0, rfl, by rw [hW]; simp, ?_⟩⟩
 have e : W.heap[w.heap.size]? = some (.cells cs 9 (0, 0)) := by rw [hW]; exact heap_alloc_new w _
 have := cell_new w W cs 9 e j (.string (bs x)) (by rw [hcs, List.getElem?_map, hx]; rfl)
 rw [Nat.zero_add]
 exact this
theorem isWd_nil : isWd ([] : Bs) = false := by decide
theorem named_two {x : Bs} {p : Int} (h : nameB x = true) : namedF ⟨[x], [[], x, x].reverse, [].reverse⟩ (nmS x p) = some (.inr (.mk 1 1 [] [] [] [])) := by
 have h0 : ¬ ([] : Bs) = x := fun e => by rw [← e] at h; cases h
 have e : (nmS x p).name = x := rfl
 unfold namedF
 rw [e]
 have hf : fndR x [x, x, []] = some 1 := by
  unfold fndR
  simp [posR, h0]
 show (match fndR x [x, x, []] with | some n => _ | none => _) = _
 rw [hf]
theorem named_glob (x : Bs) (p : Int) : namedF ⟨[x], [].reverse, [x].reverse⟩ (nmS x p) = some (.inr (.mk 2 0 x [] [] [])) := by
 have e : (nmS x p).name = x := rfl
 unfold namedF
 rw [e]
 simp [fndR, posR]
theorem named_none (x : Bs) (p : Int) (d : List Bs) : namedF ⟨[], [].reverse, d⟩ (nmS x p) = some (.inl (p, 90)) := by
 have e : (nmS x p).name = x := rfl
 unfold namedF
 rw [e]
 simp [fndR, posR, refuse]
 rfl
set_option maxRecDepth 100000 in
set_option maxHeartbeats 8000000 in
theorem walk_ScopeInner (s : ByteArray) (W : World) (hs : s.size ≤ maxLen) (hT : Tabs W) : Calls Tryz.prog 4 #[.string s] W fun e w' => e = .returned (.bool true) ∧ Below W.heap.size W w' := by
 obtain ⟨X, rfl⟩ : ∃ X, s = bs X := ⟨tl s, (bs_tl s).symm⟩
 have cW := worksZ_any W hT
 have HT : Hid (Tabs W) := hT
 clear hT
 go_enter Tryz.func4, Tryz.ntmps4
 go_wp2_with fail
 refine cW.mono ?_
 rintro e w1 ⟨rfl, h01⟩
 clear cW
 by_cases hbig : 1000 < X.length
 ·have hb : (1000 : Int) < ((bs X).size : Int) := by rw [bs_size]; omega
  go_wp2
  go_ret
  exact ⟨rfl, h01⟩
 ·have hb : ((bs X).size : Int) ≤ 1000 := by rw [bs_size]; omega
  have cT := term_any 700000 (by omega) (by omega) (bs X) w1 (by rw [bs_size]; unfold maxLen; omega) (HT.out.below h01)
  rw [tl_bs] at cT
  obtain ⟨A, hA⟩ : ∃ A, A = termA 700000 X := ⟨_, rfl⟩
  rw [← hA] at cT
  obtain ⟨T, P, E⟩ := A
  simp only at cT
  have HA : Hid ((T, P, E) = termA 700000 X) := hA
  have H1 : Hid (Below W.heap.size W w1) := h01
  clear hA h01
  go_wp2_with fail
  refine cT.mono ?_
  rintro e w2 ⟨v, rfl, hTr, h12⟩
  obtain ⟨vk, vn, rfl, hna, A2, C2, rfl⟩ := hTr.form
  obtain ⟨N2, M2, rfl⟩ := hna.form
  clear hTr hna cT
  obtain ⟨w3, hw3⟩ : ∃ w3, w3 = w2.alloc (.cells #[.int .i64 (T.kind : Nat), .string (bs T.name), .slice A2 T.kids.length C2, .slice N2 T.names.length M2, .int .i64 (T.at_ : Nat)] 26) := ⟨_, rfl⟩
  have h23 : Below w2.heap.size w2 w3 := by rw [hw3]; exact below_alloc _ _
  have bx3 : Bx w3 w2.heap.size (.int .i64 (T.kind : Nat)) (.string (bs T.name)) (.slice A2 T.kids.length C2) (.slice N2 T.names.length M2) (.int .i64 (T.at_ : Nat)) := by rw [hw3]; exact bx_new _ _ _ _ _ _
  have h03 : Below W.heap.size W w3 := (H1.out.trans (h12.mono H1.out.size)).trans (h23.mono (Nat.le_trans H1.out.size h12.size))
  obtain ⟨x0, x1, x2, x3, x4⟩ := bx3.cells
  have H3 : Hid (w3 = _ ∧ Below W.heap.size W w3) := ⟨hw3, h03⟩
  have cK := takes_any X w3
  rw [hw3] at x0 x1 x2 x3 x4 cK
  clear hw3 h23 bx3 h03 h12
  by_cases hE : E = 0
  ·subst hE
   by_cases hk : T.kind = 1
   ·have HK : Hid (T.kind = 1) := hk
    rw [hk] at x0 cK H3 ⊢
    clear hk
    by_cases hn : T.name = X
    ·have hn1 : ((bs T.name).toList == (bs X).toList) = true := by rw [hn]; simp
     have HN : Hid (T.kind = 1 ∧ T.name = X) := ⟨HK.out, hn⟩
     rw [hn] at x1 cK H3 ⊢
     clear hn hn1
     go_wp2_with fail
     refine cK.mono ?_
     rintro e w4 ⟨z, rfl, hz, h34⟩
     obtain ⟨hw3, h03⟩ := H3.out
     rw [← hw3] at h34
     have H4 : Hid (Below W.heap.size W w4) := h03.trans (h34.mono h03.size)
     have Hz : Hid (0 ≤ z ↔ isWd X = true) := hz
     clear h34 hw3 h03 H3 x0 x1 x2 x3 x4 cK hz
     by_cases hz0 : 0 ≤ z
     ·go_wp2
      go_ret
      exact ⟨rfl, H4.out⟩
     ·have hwd : isWd X = false := by
       cases hq : isWd X with
       | false => rfl
       | true => exact absurd (Hz.out.2 hq) hz0
      have hnm : nameB X = true := by
       have h1 := read_is_name (F := 700000) (s := X) (by rw [← HA.out]) (by rw [← HA.out]; exact HN.out.1)
       rw [← HA.out] at h1
       rw [← HN.out.2]
       exact h1
      have hl1 : X.length ≤ 1000 := by omega
      have HX : Hid (nameB X = true ∧ isWd X = false ∧ X.length ≤ 1000) := ⟨hnm, hwd, hl1⟩
      clear Hz HA HN hwd hnm H1
      obtain ⟨hnm, hwd, hl1⟩ := HX.out
      have hw0 : isWd ([] : Bs) = false := by decide
      have ad0 : ∀ w, (Op.stringOp .add (⟨#[92]⟩) (bs X)).run Tryz.prog w = .ok (.string (bs (92 :: X))) w := add_asZ (a := [92]) (b := X) (by simp) (by simp; omega)
      have ad1 : ∀ w, (Op.stringOp .add (bs (92 :: X)) (⟨#[46, 32, 92]⟩)).run Tryz.prog w = .ok (.string (bs (92 :: (X ++ [46, 32, 92])))) w := add_asZ (a := 92 :: X) (b := [46, 32, 92]) (by simp) (by simp; omega)
      have ad2 : ∀ w, (Op.stringOp .add (bs (92 :: (X ++ [46, 32, 92]))) (bs X)).run Tryz.prog w = .ok (.string (bs (92 :: (X ++ (46 :: 32 :: 92 :: X))))) w := add_asZ (a := 92 :: (X ++ [46, 32, 92])) (b := X) (by simp) (by simp; omega)
      have ad3 : ∀ w, (Op.stringOp .add (bs (92 :: (X ++ (46 :: 32 :: 92 :: X)))) (⟨#[46, 32]⟩)).run Tryz.prog w = .ok (.string (bs (92 :: (X ++ (46 :: 32 :: 92 :: (X ++ [46, 32])))))) w := add_asZ (a := 92 :: (X ++ (46 :: 32 :: 92 :: X))) (b := [46, 32]) (by simp) (by simp; omega)
      have ad4 : ∀ w, (Op.stringOp .add (bs (92 :: (X ++ (46 :: 32 :: 92 :: (X ++ [46, 32]))))) (bs X)).run Tryz.prog w = .ok (.string (bs (92 :: (X ++ (46 :: 32 :: 92 :: (X ++ (46 :: 32 :: X))))))) w := add_asZ (a := 92 :: (X ++ (46 :: 32 :: 92 :: (X ++ [46, 32])))) (b := X) (by simp) (by simp; omega)
      have ad5 : ∀ w, (Op.stringOp .add (bs (92 :: X)) (⟨#[46, 32]⟩)).run Tryz.prog w = .ok (.string (bs (92 :: (X ++ [46, 32])))) w := add_asZ (a := 92 :: X) (b := [46, 32]) (by simp) (by simp; omega)
      have ad6 : ∀ w, (Op.stringOp .add (bs (92 :: (X ++ [46, 32]))) (bs X)).run Tryz.prog w = .ok (.string (bs (92 :: (X ++ (46 :: 32 :: X))))) w := add_asZ (a := 92 :: (X ++ [46, 32])) (b := X) (by simp) (by simp; omega)
      obtain ⟨p1, q1, r1, ra2⟩ := read_lam2 hnm (by omega)
      obtain ⟨p2, q2, ra1⟩ := read_lam hnm (by omega)
      obtain ⟨p3, ra0⟩ := read_name hnm (by omega)
      have hHT : Tabs w4 := HT.out.below H4.out
      have o1 := of0_any (bs (92 :: (X ++ (46 :: 32 :: 92 :: (X ++ (46 :: 32 :: X)))))) _ (lamS X (lamS X (nmS X p1) q1) r1) (by rw [of_lam, of_lam, of_nm]) w4 hHT (by rw [bs_size]; simp; omega) (by rw [tl_bs]; exact ra2) (nice_lam 9 X _ _ hnm (by omega) (by rw [blk_lam, blk_nm]; omega) (nice_lam 8 X _ _ hnm (by omega) (by rw [blk_nm]; omega) (nice_nm 7 X _ hnm (by omega) hwd))) (by rw [blk_lam, blk_lam, blk_nm]; omega) (ok_lamS 65535 _ _ _ hnm (ok_lamS 65534 _ _ _ hnm (ok_nm 65533 _ _ hnm))) (some (.inr (tmK 5 [tmK 5 [.mk 1 0 [] [] [] []]]))) (tr_lam 9 ⟨[], [], []⟩ X _ r1 hwd (tr_lam 8 ⟨[], [] ++ [X], []⟩ X _ q1 hwd (by rw [tr_nm 7 _ _ _ hwd]; exact named_last ⟨[], [] ++ [X], []⟩ X p1))) (by simp)
      have HR : Hid (termA 700000 (92 :: (X ++ (46 :: 32 :: X))) = _ ∧ termA 700000 X = _) := ⟨ra1, ra0⟩
      clear ra2 ra1 ra0 hHT hnm hwd hl1 hw0
      go_wp2_with (first | (refine wpList_addZ rfl _ _ rfl (⟨#[92]⟩) (bs X) (bs (92 :: X)) rfl rfl ad0 ?_) | (refine wpList_addZ rfl _ _ rfl (bs (92 :: X)) (⟨#[46, 32, 92]⟩) (bs (92 :: (X ++ [46, 32, 92]))) rfl rfl ad1 ?_) | (refine wpList_addZ rfl _ _ rfl (bs (92 :: (X ++ [46, 32, 92]))) (bs X) (bs (92 :: (X ++ (46 :: 32 :: 92 :: X)))) rfl rfl ad2 ?_) | (refine wpList_addZ rfl _ _ rfl (bs (92 :: (X ++ (46 :: 32 :: 92 :: X)))) (⟨#[46, 32]⟩) (bs (92 :: (X ++ (46 :: 32 :: 92 :: (X ++ [46, 32]))))) rfl rfl ad3 ?_) | (refine wpList_addZ rfl _ _ rfl (bs (92 :: (X ++ (46 :: 32 :: 92 :: (X ++ [46, 32]))))) (bs X) (bs (92 :: (X ++ (46 :: 32 :: 92 :: (X ++ (46 :: 32 :: X)))))) rfl rfl ad4 ?_))
      refine o1.mono ?_
      rintro e q5 ⟨hb1, va, rfl, hm1⟩
      obtain ⟨ra, rc, qa, qc, sa, sc, rfl⟩ := formK hm1 5 rfl 1 rfl
      obtain ⟨u1, hu1⟩ : ∃ u, u = q5.alloc (.cells #[.int .i64 5, .int .i64 0, .string ⟨#[]⟩, .slice ra 0 rc, .slice qa 1 qc, .slice sa 0 sc] 37) := ⟨_, rfl⟩
      have b1 : Below q5.heap.size q5 u1 := by rw [hu1]; exact below_alloc _ _
      have t1 : Tx u1 q5.heap.size (.int .i64 5) (.int .i64 0) (.string ⟨#[]⟩) (.slice ra 0 rc) (.slice qa 1 qc) (.slice sa 0 sc) := by rw [hu1]; exact tx_new _ _ _ _ _ _ _
      have B1 : Below W.heap.size W u1 := (H4.out.trans (hb1.mono H4.out.size)).trans (b1.mono (Nat.le_trans H4.out.size hb1.size))
      have m1 := hm1.blw b1
      obtain ⟨v2, hv2⟩ : ∃ v, v = u1.alloc (.cells #[.string (bs X)] 9) := ⟨_, rfl⟩
      have e2 : Below u1.heap.size u1 v2 := by rw [hv2]; exact below_alloc _ _
      have n2 := nms_row u1 v2 [X] #[.string (bs X)] rfl hv2
      obtain ⟨hnm, hwd, hl1⟩ := HX.out
      have B2 : Below W.heap.size W v2 := B1.trans (e2.mono B1.size)
      have o2 := of_any P0 call_none 10 (by omega) (bs (92 :: (X ++ (46 :: 32 :: X)))) _ [] [X] [] none (some ⟨u1.heap.size, 0, none⟩) none 0 1 0 v2 (HT.out.below B2) (by rw [bs_size]; simp; unfold maxLen; omega) (by rw [tl_bs]; exact HR.out.1) (nms_nil _ _) n2 (nms_nil _ _) (by rw [of_lam, of_nm]; exact nice_lam 9 X _ _ hnm (by omega) (by rw [blk_nm]; omega) (nice_nm 8 X _ hnm (by omega) hwd)) (by rw [of_lam, of_nm, blk_lam, blk_nm]; omega) (by rw [of_lam, of_nm]; exact ok_lamS 65535 _ _ _ hnm (ok_nm 65534 _ _ hnm)) (by simp) (by simp) (by simp) (by simp; try omega) (by simp; try omega) (by simp; try omega) (by simp [hwd]) (by simp [hwd, isWd_nil]) (by simp [hwd]) (some (.inr (tmK 5 [.mk 1 0 [] [] [] []]))) (by rw [of_lam, of_nm]; exact tr_lam 9 _ X _ _ hwd (by rw [tr_nm 8 _ _ _ hwd]; exact named_last ⟨[], [X].reverse, [].reverse⟩ X _)) (by simp)
      have K1 : Hid (u1 = _ ∧ v2 = _ ∧ Tx u1 q5.heap.size _ _ _ _ _ _ ∧ TmIn _ u1 (tmK 5 [tmK 5 [.mk 1 0 [] [] [] []]]) _ ∧ Below W.heap.size W v2 ∧ Below u1.heap.size u1 v2) := ⟨hu1, hv2, t1, m1, B2, e2⟩
      have su1 : u1.heap.size = q5.heap.size + 1 := by rw [hu1]; simp
      rw [su1, hv2, hu1] at o2
      clear hu1 hv2 b1 t1 B1 m1 e2 n2 hnm hwd hl1 B2 hb1 hm1 o1 su1
      go_wp2_with (first | (refine wpList_addZ rfl _ _ rfl (⟨#[92]⟩) (bs X) (bs (92 :: X)) rfl rfl ad0 ?_) | (refine wpList_addZ rfl _ _ rfl (bs (92 :: X)) (⟨#[46, 32]⟩) (bs (92 :: (X ++ [46, 32]))) rfl rfl ad5 ?_) | (refine wpList_addZ rfl _ _ rfl (bs (92 :: (X ++ [46, 32]))) (bs X) (bs (92 :: (X ++ (46 :: 32 :: X)))) rfl rfl ad6 ?_))
      refine o2.mono ?_
      rintro e q6 ⟨hb2, va, rfl, hm2⟩
      obtain ⟨hu1, hv2, t1, m1, B2, e2⟩ := K1.out
      rw [← hu1, ← hv2] at hb2
      obtain ⟨rb, rbc, qb, qbc, sb, sbc, rfl⟩ := formK hm2 5 rfl 1 rfl
      obtain ⟨u2, hu2⟩ : ∃ u, u = q6.alloc (.cells #[.int .i64 5, .int .i64 0, .string ⟨#[]⟩, .slice rb 0 rbc, .slice qb 1 qbc, .slice sb 0 sbc] 37) := ⟨_, rfl⟩
      have b2 : Below q6.heap.size q6 u2 := by rw [hu2]; exact below_alloc _ _
      have t2 : Tx u2 q6.heap.size (.int .i64 5) (.int .i64 0) (.string ⟨#[]⟩) (.slice rb 0 rbc) (.slice qb 1 qbc) (.slice sb 0 sbc) := by rw [hu2]; exact tx_new _ _ _ _ _ _ _
      have D2 : Below W.heap.size W u2 := (B2.trans (hb2.mono B2.size)).trans (b2.mono (Nat.le_trans B2.size hb2.size))
      have m2 := hm2.blw b2
      have su2 : u2.heap.size = q6.heap.size + 1 := by rw [hu2]; simp
      have E12 : Below u1.heap.size u1 u2 := (e2.trans (hb2.mono e2.size)).trans (b2.mono (Nat.le_trans e2.size hb2.size))
      obtain ⟨v3, hv3⟩ : ∃ v, v = u2.alloc (.cells #[.string ⟨#[]⟩, .string (bs X), .string (bs X)] 9) := ⟨_, rfl⟩
      obtain ⟨v3b, hv3b⟩ : ∃ v, v = v3.alloc (.cells #[.string (bs X)] 9) := ⟨_, rfl⟩
      have f3 : Below u2.heap.size u2 v3 := by rw [hv3]; exact below_alloc _ _
      have f3b : Below v3.heap.size v3 v3b := by rw [hv3b]; exact below_alloc _ _
      have n3 := nms_row u2 v3 [[], X, X] #[.string ⟨#[]⟩, .string (bs X), .string (bs X)] rfl hv3
      have n3b := nms_row v3 v3b [X] #[.string (bs X)] rfl hv3b
      have e3 : Below u2.heap.size u2 v3b := f3.trans (f3b.mono f3.size)
      have B3 : Below W.heap.size W v3b := D2.trans (e3.mono D2.size)
      have sv3 : v3.heap.size = u2.heap.size + 1 := by rw [hv3]; simp
      obtain ⟨hnm, hwd, hl1⟩ := HX.out
      have o3 := of_any P0 call_none 10 (by omega) (bs X) _ [X] [[], X, X] [] (some ⟨v3.heap.size, 0, none⟩) (some ⟨u2.heap.size, 0, none⟩) none 1 3 0 v3b (HT.out.below B3) (by rw [bs_size]; unfold maxLen; omega) (by rw [tl_bs]; exact HR.out.2) n3b ((n3.keep f3b).up f3b.size) (nms_nil _ _) (by rw [of_nm]; exact nice_nm 9 X _ hnm (by omega) hwd) (by rw [of_nm, blk_nm]; omega) (by rw [of_nm]; exact ok_nm 65535 _ _ hnm) (by simp) (by simp) (by simp) (by simp; try omega) (by simp; try omega) (by simp; try omega) (by simp [hwd]) (by simp [hwd, isWd_nil]) (by simp [hwd]) (some (.inr (.mk 1 1 [] [] [] []))) (by rw [of_nm, tr_nm 9 _ _ _ hwd]; exact named_two hnm) (by simp)
      have K2 : Hid (u2 = _ ∧ v3 = _ ∧ v3b = _ ∧ Tx u2 q6.heap.size (.int .i64 5) (.int .i64 0) (.string ⟨#[]⟩) (.slice rb 0 rbc) (.slice qb 1 qbc) (.slice sb 0 sbc) ∧ TmIn _ u2 (tmK 5 [.mk 1 0 [] [] [] []]) _ ∧ Below W.heap.size W v3b ∧ Below u2.heap.size u2 v3b ∧ Below u1.heap.size u1 u2) := ⟨hu2, hv3, hv3b, t2, m2, B3, e3, E12⟩
      rw [sv3, su2, hv3b, hv3, hu2] at o3
      clear hu1 hv2 t1 m1 B2 e2 hb2 hm2 o2 hu2 b2 t2 D2 m2 su2 E12 hv3 hv3b f3 f3b n3 n3b e3 B3 sv3 hnm hwd hl1
      go_wp2_with fail
      refine o3.mono ?_
      rintro e q7 ⟨hb3, va, rfl, hm3⟩
      obtain ⟨hu2, hv3, hv3b, t2, m2, B3, e3, E12⟩ := K2.out
      rw [← hu2, ← hv3, ← hv3b] at hb3
      obtain ⟨rd, rdc, qd, qdc, sd, sdc, rfl⟩ := formL hm3 1 1 rfl rfl
      obtain ⟨u3, hu3⟩ : ∃ u, u = q7.alloc (.cells #[.int .i64 1, .int .i64 1, .string (bs []), .slice rd 0 rdc, .slice qd 0 qdc, .slice sd 0 sdc] 37) := ⟨_, rfl⟩
      have b3 : Below q7.heap.size q7 u3 := by rw [hu3]; exact below_alloc _ _
      have t3 : Tx u3 q7.heap.size (.int .i64 1) (.int .i64 1) (.string (bs [])) (.slice rd 0 rdc) (.slice qd 0 qdc) (.slice sd 0 sdc) := by rw [hu3]; exact tx_new _ _ _ _ _ _ _
      have D3 : Below W.heap.size W u3 := (B3.trans (hb3.mono B3.size)).trans (b3.mono (Nat.le_trans B3.size hb3.size))
      have su3 : u3.heap.size = q7.heap.size + 1 := by rw [hu3]; simp
      have E23 : Below u2.heap.size u2 u3 := (e3.trans (hb3.mono e3.size)).trans (b3.mono (Nat.le_trans e3.size hb3.size))
      obtain ⟨v4, hv4⟩ : ∃ v, v = u3.alloc (.cells #[.string (bs X)] 9) := ⟨_, rfl⟩
      obtain ⟨v4b, hv4b⟩ : ∃ v, v = v4.alloc (.cells #[.string (bs X)] 9) := ⟨_, rfl⟩
      have f4 : Below u3.heap.size u3 v4 := by rw [hv4]; exact below_alloc _ _
      have f4b : Below v4.heap.size v4 v4b := by rw [hv4b]; exact below_alloc _ _
      have n4 := nms_row u3 v4 [X] #[.string (bs X)] rfl hv4
      have n4b := nms_row v4 v4b [X] #[.string (bs X)] rfl hv4b
      have e4 : Below u3.heap.size u3 v4b := f4.trans (f4b.mono f4.size)
      have B4 : Below W.heap.size W v4b := D3.trans (e4.mono D3.size)
      have sv4 : v4.heap.size = u3.heap.size + 1 := by rw [hv4]; simp
      obtain ⟨hnm, hwd, hl1⟩ := HX.out
      have o4 := of_any P0 call_none 10 (by omega) (bs X) _ [X] [] [X] (some ⟨u3.heap.size, 0, none⟩) none (some ⟨v4.heap.size, 0, none⟩) 1 0 1 v4b (HT.out.below B4) (by rw [bs_size]; unfold maxLen; omega) (by rw [tl_bs]; exact HR.out.2) ((n4.keep f4b).up f4b.size) (nms_nil _ _) n4b (by rw [of_nm]; exact nice_nm 9 X _ hnm (by omega) hwd) (by rw [of_nm, blk_nm]; omega) (by rw [of_nm]; exact ok_nm 65535 _ _ hnm) (by simp) (by simp) (by simp) (by simp; try omega) (by simp; try omega) (by simp; try omega) (by simp [hwd]) (by simp [hwd, isWd_nil]) (by simp [hwd]) (some (.inr (.mk 2 0 X [] [] []))) (by rw [of_nm, tr_nm 9 _ _ _ hwd]; exact named_glob X _) (by simp)
      have K3 : Hid (u3 = _ ∧ v4 = _ ∧ v4b = _ ∧ Tx u3 q7.heap.size (.int .i64 1) (.int .i64 1) (.string (bs [])) (.slice rd 0 rdc) (.slice qd 0 qdc) (.slice sd 0 sdc) ∧ Below W.heap.size W v4b ∧ Below u3.heap.size u3 v4b ∧ Below u2.heap.size u2 u3) := ⟨hu3, hv4, hv4b, t3, B4, e4, E23⟩
      rw [sv4, su3, hv4b, hv4, hu3] at o4
      clear hu2 hv3 hv3b t2 m2 B3 e3 E12 hb3 hm3 o3 hu3 b3 t3 D3 su3 E23 hv4 hv4b f4 f4b n4 n4b e4 B4 sv4 hnm hwd hl1
      go_wp2_with fail
      refine o4.mono ?_
      rintro e q8 ⟨hb4, va, rfl, hm4⟩
      obtain ⟨hu3, hv4, hv4b, t3, B4, e4, E23⟩ := K3.out
      rw [← hu3, ← hv4, ← hv4b] at hb4
      obtain ⟨rg, rgc, qg, qgc, sg', sgc, rfl⟩ := formL hm4 2 0 rfl rfl
      obtain ⟨u4, hu4⟩ : ∃ u, u = q8.alloc (.cells #[.int .i64 2, .int .i64 0, .string (bs X), .slice rg 0 rgc, .slice qg 0 qgc, .slice sg' 0 sgc] 37) := ⟨_, rfl⟩
      have b4 : Below q8.heap.size q8 u4 := by rw [hu4]; exact below_alloc _ _
      have t4 : Tx u4 q8.heap.size (.int .i64 2) (.int .i64 0) (.string (bs X)) (.slice rg 0 rgc) (.slice qg 0 qgc) (.slice sg' 0 sgc) := by rw [hu4]; exact tx_new _ _ _ _ _ _ _
      have D4 : Below W.heap.size W u4 := (B4.trans (hb4.mono B4.size)).trans (b4.mono (Nat.le_trans B4.size hb4.size))
      have su4 : u4.heap.size = q8.heap.size + 1 := by rw [hu4]; simp
      have E34 : Below u3.heap.size u3 u4 := (e4.trans (hb4.mono e4.size)).trans (b4.mono (Nat.le_trans e4.size hb4.size))
      obtain ⟨v5, hv5⟩ : ∃ v, v = u4.alloc (.cells #[.string (bs X)] 9) := ⟨_, rfl⟩
      have e5 : Below u4.heap.size u4 v5 := by rw [hv5]; exact below_alloc _ _
      have n5 := nms_row u4 v5 [X] #[.string (bs X)] rfl hv5
      have B5 : Below W.heap.size W v5 := D4.trans (e5.mono D4.size)
      obtain ⟨hnm, hwd, hl1⟩ := HX.out
      have o5 := of_any P0 call_none 10 (by omega) (bs X) _ [] [] [X] none none (some ⟨u4.heap.size, 0, none⟩) 0 0 1 v5 (HT.out.below B5) (by rw [bs_size]; unfold maxLen; omega) (by rw [tl_bs]; exact HR.out.2) (nms_nil _ _) (nms_nil _ _) n5 (by rw [of_nm]; exact nice_nm 9 X _ hnm (by omega) hwd) (by rw [of_nm, blk_nm]; omega) (by rw [of_nm]; exact ok_nm 65535 _ _ hnm) (by simp) (by simp) (by simp) (by simp; try omega) (by simp; try omega) (by simp; try omega) (by simp [hwd]) (by simp [hwd, isWd_nil]) (by simp [hwd]) (some (.inl ((p3 : Int), 90))) (by rw [of_nm, tr_nm 9 _ _ _ hwd]; exact named_none X _ _) (by simp)
      have K4 : Hid (u4 = _ ∧ v5 = _ ∧ Tx u4 q8.heap.size (.int .i64 2) (.int .i64 0) (.string (bs X)) (.slice rg 0 rgc) (.slice qg 0 qgc) (.slice sg' 0 sgc) ∧ Below W.heap.size W v5 ∧ Below u4.heap.size u4 v5 ∧ Below u3.heap.size u3 u4) := ⟨hu4, hv5, t4, B5, e5, E34⟩
      rw [su4, hv5, hu4] at o5
      clear hu3 hv4 hv4b t3 B4 e4 E23 hb4 hm4 o4 hu4 b4 t4 D4 su4 E34 hv5 n5 e5 B5 hnm hwd hl1
      go_wp2_with fail
      refine o5.mono ?_
      rintro e q9 ⟨hb5, rfl⟩
      obtain ⟨hu4, hv5, t4, B5, e5, E34⟩ := K4.out
      obtain ⟨hu3, _, _, t3, _, _, E23⟩ := K3.out
      obtain ⟨hu2, _, _, t2, m2, _, _, E12⟩ := K2.out
      obtain ⟨hu1, _, t1, m1, _, _⟩ := K1.out
      rw [← hu4, ← hv5] at hb5
      obtain ⟨u5, hu5⟩ : ∃ u, u = q9.alloc (.cells #[.int .i64 0, .int .i64 0, .string ⟨#[]⟩, .slice none 0 0, .slice none 0 0, .slice none 0 0] 37) := ⟨_, rfl⟩
      have b5 : Below q9.heap.size q9 u5 := by rw [hu5]; exact below_alloc _ _
      have E45 : Below u4.heap.size u4 u5 := (e5.trans (hb5.mono e5.size)).trans (b5.mono (Nat.le_trans e5.size hb5.size))
      have D5 : Below W.heap.size W u5 := (B5.trans (hb5.mono B5.size)).trans (b5.mono (Nat.le_trans B5.size hb5.size))
      have E35 : Below u3.heap.size u3 u5 := E34.trans (E45.mono E34.size)
      have E25 : Below u2.heap.size u2 u5 := E23.trans (E35.mono E23.size)
      have E15 : Below u1.heap.size u1 u5 := E12.trans (E25.mono E12.size)
      have T1 := t1.blw E15
      have T2 := t2.blw E25
      have T3 := t3.blw E35
      have T4 := t4.blw E45
      have M1 := m1.blw E15
      have M2 := m2.blw E25
      obtain ⟨g1, f1, r1', rc1, k1, kc1, s1', sc1, rfl, _, _, N1, _, _, _, _, z4, _⟩ := kid_of (b := tmK 5 [.mk 1 0 [] [] [] []]) (ks := []) M1 rfl
      obtain ⟨g2, f2, r2', rc2, k2, kc2, s2', sc2, rfl, _, _, _, _, y1, _⟩ := kid_of (b := .mk 1 0 [] [] [] []) (ks := []) N1 rfl
      obtain ⟨g3, f3, r3', rc3, k3, kc3, s3', sc3, rfl, _, _, _, _, x1, _⟩ := kid_of (b := .mk 1 0 [] [] [] []) (ks := []) M2 rfl
      have z4 : u5.cell? ⟨g1, f1 + 4, none⟩ = some (.slice (some ⟨g2, f2, none⟩) 1 kc1) := z4
      have y1 : u5.cell? ⟨g2, f2 + 1, none⟩ = some (.int .i64 0) := y1
      have x1 : u5.cell? ⟨g3, f3 + 1, none⟩ = some (.int .i64 0) := x1
      have a4 := T1.cells.2.2.2.2.1
      have b4' := T2.cells.2.2.2.2.1
      have c0 := T3.cells.1
      have c1 := T3.cells.2.1
      have d0 := T4.cells.1
      have d2 := T4.cells.2.2.1
      have hxx : ((bs X).toList == (bs X).toList) = true := by simp
      have HD : Hid (Below W.heap.size W u5 ∧ u5 = _) := ⟨D5, hu5⟩
      rw [hu5] at z4 y1 x1 a4 b4' c0 c1 d0 d2
      clear hu4 hv5 t4 B5 e5 E34 hu3 t3 E23 hu2 t2 m2 E12 hu1 t1 m1 hb5 hu5 b5 E45 D5 E35 E25 E15 T1 T2 T3 T4 M1 M2 N1 o5 K1 K2 K3 K4
      go_wp2_with fail
      go_ret
      obtain ⟨D5, hu5⟩ := HD.out
      rw [hu5] at D5
      exact ⟨rfl, D5⟩
    ·have hn1 : ((bs T.name).toList == (bs X).toList) = false := by
      rw [Lib.toList_data, Lib.toList_data, tl_def, tl_def, tl_bs, tl_bs]
      simpa using hn
     clear hn cK
     go_wp2_with fail
     go_ret
     obtain ⟨hw3, h03⟩ := H3.out
     rw [hw3] at h03
     exact ⟨rfl, h03⟩
   ·have hk1 : (((T.kind : Nat) : Int) != 1) = true := by simp only [bne_iff_ne]; omega
    clear hk cK
    go_wp2_with fail
    go_ret
    obtain ⟨hw3, h03⟩ := H3.out
    rw [← hw3]
    exact ⟨rfl, h03⟩
  ·have hE1 : (((E : Nat) : Int) != 0) = true := by simp only [bne_iff_ne]; omega
   clear hE cK
   go_wp2_with fail
   go_ret
   obtain ⟨hw3, h03⟩ := H3.out
   rw [← hw3]
   exact ⟨rfl, h03⟩
end Go.Proofs.YtahnbigkdfmpbaaGreatDoor
