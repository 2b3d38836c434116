/- The document's answers of the layer face: minus, Restrict, All, Put: rows in new memory; nothing that lay before the call turns. -/
import Derived.Test.YtdikaomebbpmhaaGreatRFace
import Derived.Test.YtdikaomebbpmhaaGreatAPutM
namespace Go.Proofs.YtdikaomebbpmhaaGreat
open Go.RowKit Go.Sort
set_option linter.unusedVariables false
set_option linter.unusedSimpArgs false

set_option maxRecDepth 100000 in
set_option maxHeartbeats 1000000 in
theorem minus_any (a b : Nat) (w : World) (ha : a < 16777216) (hb : b < 16777216) :
    Calls Tryz.prog 26 #[.int .u32 a, .int .u32 b] w fun e w' => e = .returned (.int .u32 (andNot32 a b : Nat)) ∧ Below w.heap.size w w' := by
  have hb32 : b < 4294967296 := by omega
  obtain ⟨l, hl⟩ : ∃ l, l = dimsOf b := ⟨_, rfl⟩
  have hlen : l.length ≤ 24 := by rw [hl]; exact dimsOf_length_le b
  have h24 : ∀ k ∈ l, k < 24 := by rw [hl]; exact dimsOf_lt
  have cL := refList_any b w hb32
  rw [← hl] at cL
  have HE : Hid (outFrom a l = andNot32 a b) := by rw [hl]; exact outFrom_end ha
  clear hl
  go_enter Tryz.func26, Tryz.ntmps26
  go_wp2_with fail
  refine cL.mono ?_
  rintro e w1 ⟨v, rfl, hO, hB1⟩
  clear cL
  have hR := hO.rowAt
  clear hO
  obtain ⟨n, hn⟩ : ∃ n, n = l.length := ⟨_, rfl⟩
  have Hn : Hid (n = l.length) := hn
  rcases hR with ⟨rfl, rfl⟩ | ⟨g, cap, rfl, hg, hc⟩
  · go_wp2
    go_loop [0, 6] (fun x i => x = .int .u32 a ∧ i = .int .i64 0) (fun _ _ => 0)
    case atStart => exact ⟨rfl, rfl⟩
    case round =>
      obtain ⟨rfl, rfl⟩ := hrel
      go_wp2
      go_ret
      exact ⟨ret_int (by rw [← HE.out]; rfl), hB1⟩
  · rw [← hn] at hc hlen ⊢
    clear hn
    go_wp2
    go_loopw [0, 6] (fun x i wr => ∃ k : Nat, k ≤ n ∧ i = .int .i64 k ∧ x = .int .u32 (outFrom a (l.take k) : Nat) ∧ Below w1.heap.size w1 wr) (fun _ i _ => n - (intOf i).toNat)
    case atStart => exact ⟨0, Nat.zero_le _, rfl, rfl, Below.refl _ _⟩
    case round =>
      obtain ⟨k, hk, rfl, rfl, hB⟩ := hrel
      have hlo32 : outFrom a (l.take k) < 4294967296 := Nat.lt_trans (outFrom_lt ha _) (by decide)
      by_cases hlt : k < n
      · obtain ⟨j, hj⟩ := get_some (l := l) (k := k) (by rw [← Hn.out]; exact hlt)
        have x0 := (hB.cell (p := ⟨g, k, none⟩) hg).trans (hc k hlt)
        rw [hj] at x0
        simp only [Option.getD_some] at x0
        have HS : Hid (outFrom a (l.take (k + 1)) = withoutN (outFrom a (l.take k)) (j : Int)) := by
          have e : l.take (k + 1) = l.take k ++ [j] := by rw [List.take_add_one, hj]; rfl
          show _ = _
          rw [e, outFrom_snoc]
        clear hj hc
        go_wp2_with (go_at_call 38; refine (refWithout_any _ _ _ (by assumption)).mono ?_; rintro e w2 ⟨rfl, hB2⟩)
        go_roundw
        case rel => exact ⟨k + 1, by omega, by go_num, by rw [HS.out], chain hB hB2⟩
        case measure => simp [intOf]; omega
      · obtain rfl : k = n := by omega
        have e : l.take k = l := List.take_of_length_le (by rw [← Hn.out]; exact Nat.le_refl _)
        rw [e] at hlo32 ⊢
        go_wp2
        go_ret
        exact ⟨ret_int (by rw [HE.out]), chain hB1 hB⟩

/-! ### Restrict -/
theorem rst_stepR {l : List C} {k : Nat} {a c : C} (h : l[k]? = some a) : rstL (l.take (k + 1)) c = rstL (l.take k) c ++ if withC c a then [cutC c a] else [] := by
  have e : l.take (k + 1) = l.take k ++ [a] := by rw [List.take_add_one, h]; rfl
  unfold rstL
  rw [e, List.filter_append, List.map_append]
  cases hp : withC c a <;> simp [hp]
theorem rst_lenR (l : List C) (c : C) (k : Nat) : (rstL (l.take k) c).length ≤ l.length := Nat.le_trans (rst_len _ _) (by rw [List.length_take]; omega)
theorem rs_next {B g off k b : Nat} {a c : C} {W W' : World} (hb : Below B W W') (hg : g < B) (hg2 : b < B)
    (h : W.cell? ⟨g, off + k * 2, none⟩ = some (.int .u32 (a.1.val : Int)) ∧ W.cell? ⟨g, off + k * 2 + 1, none⟩ = some (.int .u32 (a.2.val : Int)) ∧ W.cell? ⟨b, 0, none⟩ = some (.int .u32 (c.1.val : Int)) ∧ W.cell? ⟨b, 1, none⟩ = some (.int .u32 (c.2.val : Int))) :
    W'.cell? ⟨g, off + k * 2, none⟩ = some (.int .u32 (a.1.val : Int)) ∧ W'.cell? ⟨g, off + k * 2 + 1, none⟩ = some (.int .u32 (a.2.val : Int)) ∧ W'.cell? ⟨b, 0, none⟩ = some (.int .u32 (c.1.val : Int)) ∧ W'.cell? ⟨b, 1, none⟩ = some (.int .u32 (c.2.val : Int)) :=
  ⟨(hb.cell (p := ⟨g, off + k * 2, none⟩) hg).trans h.1, (hb.cell (p := ⟨g, off + k * 2 + 1, none⟩) hg).trans h.2.1, (hb.cell (p := ⟨b, 0, none⟩) hg2).trans h.2.2.1, (hb.cell (p := ⟨b, 1, none⟩) hg2).trans h.2.2.2⟩
set_option maxRecDepth 100000 in
set_option maxHeartbeats 8000000 in
theorem rRestrict_ok (l : List C) (c : C) (v : Value) (w : World) (hv : CRow w v l) (hf : rightA l = true) (hs : singleC c = true) :
    Calls Tryz.prog 7 #[v, clV c] w fun e w' => ∃ v', e = .returned (.tuple #[v', .int .i64 (leastF (rstL l c)).2]) ∧ OwnsC w' w.heap.size v' (leastF (rstL l c)).1 ∧ Below w.heap.size w w' := by
  have hl := rightA_len hf
  have c1 := fun W (h : Below w.heap.size w W) => raright_any l v W (hv.below h) (by omega)
  have c2 := fun W => single_any c W
  simp only [hf] at c1
  simp only [hs] at c2
  have hrl := fun k => rst_lenR l c k
  have hrc : rightC c = true := (singleC_iff.1 hs).1
  have HRl : Hid (∀ a ∈ l, rightC a = true) := List.all_eq_true.1 (rightF_all (rightA_right hf))
  have hB := below_alloc w (.cells #[.int .u32 (c.1.val : Int), .int .u32 (c.2.val : Int)] 25)
  have hA := At.made w c 25
  have Ha : Hid (∀ w1, Below w.heap.size w w1 → CRow w1 v l) := fun w1 h => hv.below h
  have HCa : Hid (∀ (k : Nat) c, l[k]? = some c → ∃ g off n cap, v = .slice (some ⟨g, off, none⟩) n cap ∧ g < w.heap.size) := fun k c hk => by
    obtain ⟨g, off, cap, e, h1, _⟩ := hv.cons (by rintro rfl; simp at hk)
    exact ⟨g, off, _, cap, e, h1⟩
  obtain ⟨pa, ca, rfl⟩ := hv.len
  clear hv hf hs
  obtain ⟨n, hn⟩ : ∃ n, n = l.length := ⟨_, rfl⟩
  have Hn : Hid (n = l.length) := hn
  rw [← hn] at hl Ha HCa hrl c1 ⊢
  clear hn
  have hrc1 : c.1.val < 16777216 := (rightC_iff.1 hrc).1
  have hrc2 : c.2.val < 16777216 := (rightC_iff.1 hrc).2
  go_enter Tryz.func7, Tryz.ntmps7
  go_wp2_with fail
  have hwb : w.heap.size < (w.alloc (.cells #[.int .u32 (c.1.val : Int), .int .u32 (c.2.val : Int)] 25)).heap.size := by simp
  generalize w.alloc (.cells #[.int .u32 (c.1.val : Int), .int .u32 (c.2.val : Int)] 25) = wb at hB hA hwb ⊢
  refine (c1 wb hB).mono ?_
  rintro e w1 ⟨rfl, hB1⟩
  clear c1
  have hA1 := hA.below hB1
  obtain ⟨z0, z1, z2⟩ := hA1
  go_wp2_with fail
  refine (c2 w1).mono ?_
  rintro e w2 ⟨rfl, hB2⟩
  clear c2 z0 z1 z2
  have hB12 := chain hB1 hB2
  go_wp2
  go_loopw [6, 7] (fun v i wr => ∃ k : Nat, k ≤ n ∧ i = .int .i64 k ∧ OwnsC wr wb.heap.size v (rstL (l.take k) c) ∧ Below wb.heap.size wb wr) (fun _ i _ => n - (intOf i).toNat)
  case atStart => exact ⟨0, Nat.zero_le _, rfl, World.ownsRow_nil _ _ _ _, hB12⟩
  case round =>
    obtain ⟨k, hk, rfl, hO, hny⟩ := hrel
    clear hB1 hB2 hB12
    by_cases hlt : k < n
    · obtain ⟨a, hak⟩ := get_some (l := l) (k := k) (by rw [← Hn.out]; exact hlt)
      have HAk : Hid (l[k]? = some a) := hak
      have hra : rightC a = true := HRl.out a (List.mem_of_getElem? hak)
      have HS : Hid (rstL (l.take (k + 1)) c = rstL (l.take k) c ++ if withC c a then [cutC c a] else []) := rst_stepR hak
      have hra1 : a.1.val < 16777216 := (rightC_iff.1 hra).1
      have hra2 : a.2.val < 16777216 := (rightC_iff.1 hra).2
      have hRow := Ha.out _ (chain hB hny)
      obtain ⟨g, off, rfl, hg0, x0, x1⟩ := hRow.at hak
      have hgw : g < w.heap.size := by
        obtain ⟨g', off', n', cap', e, h⟩ := HCa.out k a HAk.out
        injection e with e1; injection e1 with e1; injection e1 with e1; rw [e1]; exact h
      have hg : g < wb.heap.size := by omega
      have hc0 : CellsC wr g off l := by
        rcases hRow with ⟨_, _, _, rfl⟩ | ⟨g', off', cap', e, _, h⟩
        · simp at hak
        · injection e with e1 e2; injection e1 with e1; injection e1 with e1 e3; rw [e1, e3]; exact h
      obtain ⟨X0, X1⟩ := hc0.regrown hak
      obtain ⟨A0, A1⟩ := (hA.below hny).regrown
      have hlen : Hid ((rstL (l.take k) c).length + [cutC c a].length ≤ 200000) := by
        have := hrl k
        show (rstL (l.take k) c).length + 1 ≤ 200000
        omega
      clear hak hRow hg0 hc0
      cases hcl : clashC (meetC a c)
      · have HS2 : Hid (rstL (l.take (k + 1)) c = rstL (l.take k) c ++ [cutC c a]) := by
          show _ = _
          rw [HS.out]; simp [withC, okC, hcl]
        clear HS
        go_wp2
        refine wp_region_quiet_below (by kernel_rfl) (by kernel_rfl) ?_
        repeat (first | go_big_quiet_step (first | (refine refmeet_q _ _ ?_ ?_ _ _ _ <;> assumption) | exact refclash_q _ _ _ _) | quiet_step (first | (refine refmeet_q _ _ ?_ ?_ _ _ _ <;> assumption) | exact refclash_q _ _ _ _))
        refine wpQuiet_nil ?_
        intro _ hw'
        obtain ⟨⟨dq, osq⟩, hw''⟩ := hw'
        subst hw''
        have hbq := below_regrown wr dq osq
        have hnq := hny.trans (hbq.mono hny.size)
        have hOq := OwnsC.below hO hbq
        have y0 := X0 dq osq
        have y1 := X1 dq osq
        have u0 := A0 dq osq
        have u1 := A1 dq osq
        clear X0 X1 A0 A1 x0 x1
        go_wp2
        generalize grow (redrawn wr dq) osq = wq at hbq hnq hOq y0 y1 u0 u1 ⊢
        have hS : wb.heap.size ≤ wq.drew.heap.size := hnq.size
        have hAll : Below wb.heap.size wb wq.drew := hnq.trans (below_drewN (Below.refl _ wq) 1)
        have hO0 : OwnsC wq.drew wb.heap.size _ (rstL (l.take k) c) := hOq
        go_region_held3 (fun w' => w'.cell? ⟨g, off + k * 2, none⟩ = some (.int .u32 (a.1.val : Int)) ∧ w'.cell? ⟨g, off + k * 2 + 1, none⟩ = some (.int .u32 (a.2.val : Int)) ∧ w'.cell? ⟨w.heap.size, 0, none⟩ = some (.int .u32 (c.1.val : Int)) ∧ w'.cell? ⟨w.heap.size, 1, none⟩ = some (.int .u32 (c.2.val : Int))) (first | (exact rs_next hBk hg hwb (by assumption)) | go_keep)
          (first
            | (go_at_call 26; refine (minus_any _ _ _ (by assumption) (by assumption)).mono ?_; rintro e w5 ⟨rfl, hB5⟩; have hBk := hB5.mono hS; replace hS := Nat.le_trans hS hB5.size; replace hAll := hAll.trans hBk; replace hO0 := OwnsC.below hO0 hB5)
            | (refine step_append_row rfl (.tmp 30) (.tmp 48) rfl wb.heap.size _ _ _ [cutC c a] rfl rfl (OwnsC.below hO0 (below_alloc _ _)) (row_one _ (cutC c a)) hlen.out (Nat.le_trans hS (by simp)) ?_; intro v6 w6 hO6 hg6 hv6; have hBk := own_grown (OwnsC.below hO0 (below_alloc _ (.cells #[.int .u32 ((cutC c a).1.val : Int), .int .u32 ((cutC c a).2.val : Int)] 25))) hg6 (Nat.le_trans hS (by simp))))
        have hB6 : Below wb.heap.size wb w6 := (hAll.alloc hAll.size _).trans hBk
        go_wp2
        go_roundw
        case rel => exact ⟨k + 1, by omega, by go_num, by rw [HS2.out]; exact hO6, hB6⟩
        case measure => simp [intOf]; omega
      · have HS2 : Hid (rstL (l.take (k + 1)) c = rstL (l.take k) c) := by
          show _ = _
          rw [HS.out]; simp [withC, okC, hcl]
        clear HS
        go_wp2
        refine wp_region_quiet_below (by kernel_rfl) (by kernel_rfl) ?_
        repeat (first | go_big_quiet_step (first | (refine refmeet_q _ _ ?_ ?_ _ _ _ <;> assumption) | exact refclash_q _ _ _ _) | quiet_step (first | (refine refmeet_q _ _ ?_ ?_ _ _ _ <;> assumption) | exact refclash_q _ _ _ _))
        refine wpQuiet_nil ?_
        intro _ hw'
        obtain ⟨⟨dq, osq⟩, hw''⟩ := hw'
        subst hw''
        have hbq := below_regrown wr dq osq
        have hnq := hny.trans (hbq.mono hny.size)
        have hOq := OwnsC.below hO hbq
        go_wp2
        go_roundw
        case rel => exact ⟨k + 1, by omega, by go_num, by rw [HS2.out]; exact hOq, hnq⟩
        case measure => simp [intOf]; omega
    · obtain rfl : k = n := by omega
      have e : l.take k = l := List.take_of_length_le (by rw [← Hn.out]; exact Nat.le_refl _)
      have hr := hrl k
      rw [e] at hO hr
      have cL := refleastC _ _ wr (OwnsC.row hO) (by omega)
      obtain ⟨p9, q9, rfl⟩ := OwnsC.len hO
      go_wp2_with fail
      refine cL.mono ?_
      rintro e w3 ⟨v3, rfl, hO3, hB3⟩
      clear cL
      go_wp2
      go_ret2
      exact ⟨_, rfl, OwnsC.mono hO3 (chain hB hny).size, chain (chain hB hny) hB3⟩
set_option maxHeartbeats 1000000 in
theorem rRestrict_any (l : List C) (v : Value) (c : C) (w : World) (hv : CRow w v l) (hl : l.length ≤ 40000) :
    Calls Tryz.prog 7 #[v, clV c] w fun e w' => ∃ v', e = .returned (.tuple #[v', .int .i64 (rstA l c).2]) ∧ OwnsC w' w.heap.size v' (rstA l c).1 ∧ Below w.heap.size w w' := by
  have HJ : Hid (rstA l c = if rightA l && singleC c then leastF (rstL l c) else ([], 2)) := rfl
  cases hf : rightA l
  · have c1 := fun W (h : Below w.heap.size w W) => raright_any l v W (hv.below h) (by omega)
    have hB := below_alloc w (.cells #[.int .u32 (c.1.val : Int), .int .u32 (c.2.val : Int)] 25)
    rw [hf] at HJ
    obtain ⟨pa, ca, rfl⟩ := hv.len
    clear hv
    generalize l.length = n1 at *
    go_enter Tryz.func7, Tryz.ntmps7
    go_wp2_with fail
    generalize w.alloc (.cells #[.int .u32 (c.1.val : Int), .int .u32 (c.2.val : Int)] 25) = wb at hB ⊢
    refine (c1 wb hB).mono ?_
    rintro e w1 ⟨rfl, hB1⟩
    rw [hf]
    clear c1
    go_wp2
    go_ret2
    rw [HJ.out]
    exact ⟨_, rfl, World.ownsRow_nil _ _ _ _, chain hB hB1⟩
  · cases hg : singleC c
    · have c1 := fun W (h : Below w.heap.size w W) => raright_any l v W (hv.below h) (by omega)
      have c2 := fun W => single_any c W
      have hB := below_alloc w (.cells #[.int .u32 (c.1.val : Int), .int .u32 (c.2.val : Int)] 25)
      have hA := At.made w c 25
      rw [hf, hg] at HJ
      obtain ⟨pa, ca, rfl⟩ := hv.len
      clear hv
      generalize l.length = n1 at *
      go_enter Tryz.func7, Tryz.ntmps7
      go_wp2_with fail
      generalize w.alloc (.cells #[.int .u32 (c.1.val : Int), .int .u32 (c.2.val : Int)] 25) = wb at hB hA ⊢
      refine (c1 wb hB).mono ?_
      rintro e w1 ⟨rfl, hB1⟩
      rw [hf]
      clear c1
      replace hB := chain hB hB1
      obtain ⟨z0, z1, z2⟩ := hA.below hB1
      clear hA
      go_wp2_with fail
      refine (c2 w1).mono ?_
      rintro e w2 ⟨rfl, hB2⟩
      rw [hg]
      clear c2
      go_wp2
      go_ret2
      rw [HJ.out]
      exact ⟨_, rfl, World.ownsRow_nil _ _ _ _, chain hB hB2⟩
    · rw [hf, hg] at HJ
      have e : rstA l c = leastF (rstL l c) := HJ.out
      rw [e]
      exact rRestrict_ok l c v w hv hf hg

/-! ### All -/
set_option maxRecDepth 100000 in
set_option maxHeartbeats 4000000 in
theorem rAll_any (l : List C) (v : Value) (i : Int) (w : World) (hv : CRow w v l) (hl : l.length ≤ 40000) :
    Calls Tryz.prog 9 #[v, .int .i64 i] w fun e w' => ∃ v', e = .returned (.tuple #[v', .int .i64 (allA l i).2]) ∧ OwnsC w' w.heap.size v' (allA l i).1 ∧ Below w.heap.size w w' := by
  have HJ : Hid (allA l i = if rightA l && isDimB i then leastF (allL l i) else ([], 2)) := rfl
  have c1 := raright_any l v w hv (by omega)
  have hfl := fun k => filt_lenR l (neiB i) k
  have HK : Hid (l.filter (neiB i) = allL l i) := rfl
  have hcl : (allL l i).length ≤ 100000 := Nat.le_trans (List.length_filter_le _ _) (by omega)
  have Ha : Hid (∀ W, Below w.heap.size w W → CRow W v l) := fun W h => hv.below h
  obtain ⟨pa, ca, rfl⟩ := hv.len
  clear hv
  obtain ⟨n, hn⟩ : ∃ n, n = l.length := ⟨_, rfl⟩
  have Hn : Hid (n = l.length) := hn
  rw [← hn] at hl Ha hfl c1 ⊢
  clear hn
  cases hf : rightA l
  · rw [hf] at HJ c1
    go_enter Tryz.func9, Tryz.ntmps9
    go_wp2_with fail
    refine c1.mono ?_
    rintro e w1 ⟨rfl, hB1⟩
    clear c1
    go_wp2
    go_ret2
    rw [HJ.out]
    exact ⟨_, rfl, World.ownsRow_nil _ _ _ _, hB1⟩
  · by_cases hneg : i < 0
    · rw [hf, isDimB_lo hneg] at HJ
      rw [hf] at c1
      go_enter Tryz.func9, Tryz.ntmps9
      go_wp2_with fail
      refine c1.mono ?_
      rintro e w1 ⟨rfl, hB1⟩
      clear c1
      go_wp2
      go_ret2
      rw [HJ.out]
      exact ⟨_, rfl, World.ownsRow_nil _ _ _ _, hB1⟩
    · by_cases hge : i ≥ 24
      · rw [hf, isDimB_hi hge] at HJ
        rw [hf] at c1
        go_enter Tryz.func9, Tryz.ntmps9
        go_wp2_with fail
        refine c1.mono ?_
        rintro e w1 ⟨rfl, hB1⟩
        clear c1
        go_wp2
        go_ret2
        rw [HJ.out]
        exact ⟨_, rfl, World.ownsRow_nil _ _ _ _, hB1⟩
      · rw [hf, isDimB_yes (by omega) (by omega)] at HJ
        have HJ2 : Hid (allA l i = leastF (allL l i)) := HJ.out
        rw [hf] at c1
        clear HJ
        go_enter Tryz.func9, Tryz.ntmps9
        go_wp2_with fail
        refine c1.mono ?_
        rintro e w1 ⟨rfl, hB1⟩
        clear c1
        go_wp2
        go_loopw [6, 7] (fun v i0 wr => ∃ k : Nat, k ≤ n ∧ i0 = .int .i64 k ∧ OwnsC wr w.heap.size v ((l.take k).filter (neiB i)) ∧ Below w.heap.size w wr) (fun _ i _ => n - (intOf i).toNat)
        case atStart => exact ⟨0, Nat.zero_le _, rfl, World.ownsRow_nil _ _ _ _, hB1⟩
        case round =>
          obtain ⟨k, hk, rfl, hO, hny⟩ := hrel
          by_cases hlt : k < n
          · obtain ⟨c, hck⟩ := get_some (l := l) (k := k) (by rw [← Hn.out]; exact hlt)
            obtain ⟨g, off, rfl, hg, x0, x1⟩ := (Ha.out _ hny).at hck
            have hc1 := c.1.isLt
            have hc2 := c.2.isLt
            have HS : Hid ((l.take (k + 1)).filter (neiB i) = (l.take k).filter (neiB i) ++ if neiB i c then [c] else []) := filt_stepR (neiB i) hck
            have hlen : Hid (((l.take k).filter (neiB i)).length + [c].length ≤ 200000) := by
              have := hfl k
              show ((l.take k).filter (neiB i)).length + 1 ≤ 200000
              omega
            clear hck
            cases hp : hasB c.1.val i
            · cases hq : hasB c.2.val i
              · have HS2 : Hid ((l.take (k + 1)).filter (neiB i) = (l.take k).filter (neiB i) ++ [c]) := by
                  show _ = _
                  rw [HS.out]; simp [neiB, hp, hq]
                go_wp2_with (first
                  | (go_at_call 31; refine (refHas_any _ _ _ (by assumption)).mono ?_; rintro e w0 ⟨rfl, hw0⟩; replace hw0 := hw0.symm; subst hw0; first | rw [hp] | rw [hq])
                  | (at_builtin; refine wpList_append_row rfl _ _ rfl w.heap.size _ _ _ [c] rfl rfl (OwnsC.below hO (below_alloc _ _)) (row_one _ _) hlen.out (by have := hny.size; simp at *; omega) ?_; intro v4 w4 hO4 hg4 hv4))
                have hX2 := chain hny (below_alloc wr (.cells #[.int .u32 (c.1.val : Int), .int .u32 (c.2.val : Int)] 25))
                have hOX2 := OwnsC.below hO (below_alloc wr (.cells #[.int .u32 (c.1.val : Int), .int .u32 (c.2.val : Int)] 25))
                go_roundw
                case rel => exact ⟨k + 1, by omega, by go_num, by rw [HS2.out]; exact hO4, hX2.trans (own_grown hOX2 hg4 hX2.size)⟩
                case measure => simp [intOf]; omega
              · have HS2 : Hid ((l.take (k + 1)).filter (neiB i) = (l.take k).filter (neiB i)) := by
                  show _ = _
                  rw [HS.out]; simp [neiB, hp, hq]
                go_wp2_with (go_at_call 31; refine (refHas_any _ _ _ (by assumption)).mono ?_; rintro e w0 ⟨rfl, hw0⟩; replace hw0 := hw0.symm; subst hw0; first | rw [hp] | rw [hq])
                go_roundw
                case rel => exact ⟨k + 1, by omega, by go_num, by rw [HS2.out]; exact hO, hny⟩
                case measure => simp [intOf]; omega
            · have HS2 : Hid ((l.take (k + 1)).filter (neiB i) = (l.take k).filter (neiB i)) := by
                show _ = _
                rw [HS.out]; simp [neiB, hp]
              go_wp2_with (go_at_call 31; refine (refHas_any _ _ _ (by assumption)).mono ?_; rintro e w0 ⟨rfl, hw0⟩; replace hw0 := hw0.symm; subst hw0; rw [hp])
              go_roundw
              case rel => exact ⟨k + 1, by omega, by go_num, by rw [HS2.out]; exact hO, hny⟩
              case measure => simp [intOf]; omega
          · obtain rfl : k = n := by omega
            have e : l.take k = l := List.take_of_length_le (by rw [← Hn.out]; exact Nat.le_refl _)
            rw [e, HK.out] at hO
            have cL := refleastC (allL l i) _ wr (OwnsC.row hO) hcl
            obtain ⟨p8, q8, rfl⟩ := OwnsC.len hO
            go_wp2_with fail
            refine cL.mono ?_
            rintro e w3 ⟨v3, rfl, hO3, hB3⟩
            clear cL
            go_wp2
            go_ret2
            rw [HJ2.out]
            exact ⟨_, rfl, OwnsC.mono hO3 hny.size, chain hny hB3⟩
end Go.Proofs.YtdikaomebbpmhaaGreat
