/- Same and Copy, to their ends. -/
import Derived.Test.YtmaijbeghemkbaaYCopyD
import Derived.Test.YtmaijbeghemkbaaYEq
namespace Go.Proofs.Ytmaijbeghemkbaa
open Go.RowKit
set_option linter.unusedVariables false
set_option linter.unusedSimpArgs false

theorem copy_N (N : Nat) (hN : N ≤ 100000) : CpC N := by
  induction N with
  | zero => intro t v w _ h; have := blk_pos t; omega
  | succ N ih => exact copy_step N hN (become_step N (by omega) (ih (by omega))) (becomeB_step N (by omega) (copyBranch_step N (by omega) (become_step N (by omega) (ih (by omega)))))
theorem same_N (N : Nat) (hN : N ≤ 100000) : SmC N := by
  induction N with
  | zero => intro t u b g off g' off' ra rc ka kc sa sc ra' rc' ka' kc' sa' sc' w _ _ _ _ h; have := blk_pos t; omega
  | succ N ih => exact same_step N hN (kids_step N (by omega) (ih (by omega))) (sys_step N (by omega) (branch_step N (by omega) (kids_step N (by omega) (ih (by omega)))))
theorem boxT2 (w : World) (t u : Tm) (ra : Option Addr) (rc : Nat) (ka : Option Addr) (kc : Nat) (sa : Option Addr) (sc : Nat) (ra' : Option Addr) (rc' : Nat) (ka' : Option Addr) (kc' : Nat) (sa' : Option Addr) (sc' : Nat) :
    ∃ W, W = (w.alloc (.cells #[.int .i64 t.kind, .int .i64 t.n, .string t.name, .slice ra t.r.length rc, .slice ka t.kids.length kc, .slice sa t.sys.length sc] 26)).alloc (.cells #[.int .i64 u.kind, .int .i64 u.n, .string u.name, .slice ra' u.r.length rc', .slice ka' u.kids.length kc', .slice sa' u.sys.length sc'] 26) ∧
      Below w.heap.size w W ∧ Cs6 W w.heap.size 0 t ra rc ka kc sa sc ∧ Cs6 W (w.heap.size + 1) 0 u ra' rc' ka' kc' sa' sc' := by
  refine ⟨_, rfl, bchain (belowA _ _) (belowA _ _), (cs6_new w t ra rc ka kc sa sc).blw (belowA _ _), ?_⟩
  have := cs6_new (w.alloc (.cells #[.int .i64 t.kind, .int .i64 t.n, .string t.name, .slice ra t.r.length rc, .slice ka t.kids.length kc, .slice sa t.sys.length sc] 26)) u ra' rc' ka' kc' sa' sc'
  rwa [World.size_alloc] at this
set_option maxRecDepth 100000 in
set_option maxHeartbeats 4000000 in
theorem sameT_any (t u : Tm) (b : Bool) (v v' : Value) (w : World) (hv : TmIn Tt w t v) (hv' : TmIn Tt w u v') (hb : blk t ≤ 100000) (he : b = true ↔ t = u) :
    Calls Try.prog 14 #[v, v'] w fun e w' => e = .returned (.bool b) ∧ Below w.heap.size w w' := by
  obtain ⟨ra, rc, ka, kc, sa, sc, rfl, ht⟩ := hv.form
  obtain ⟨ra', rc', ka', kc', sa', sc', rfl, ht'⟩ := hv'.form
  obtain ⟨W, hW, bW, c6, c6'⟩ := boxT2 w t u ra rc ka kc sa sc ra' rc' ka' kc' sa' sc'
  have cc := same_N 100000 (Nat.le_refl _) t u b w.heap.size 0 (w.heap.size + 1) 0 ra rc ka kc sa sc ra' rc' ka' kc' sa' sc' W c6 (ht.blw bW) c6' (ht'.blw bW) hb he
  have H1 : Hid (_ = _) := hW
  clear hW hv hv' ht ht' c6 c6'
  go_enter Try.func14, Try.ntmps14
  go_upto_region 1 with fail
  rw [← H1.out]
  go_wp2_with fail
  refine cc.mono ?_
  rintro e w3 ⟨rfl, hb3⟩
  go_wp2_with fail
  go_ret
  exact ⟨rfl, bchain bW hb3⟩
theorem copy_any (t : Tm) (v : Value) (w : World) (hv : TmIn Tt w t v) (hb : blk t ≤ 100000) :
    Calls Try.prog 9 #[v] w fun e w' => ∃ v', e = .returned v' ∧ TmIn (OkN w.heap.size w') w' t v' ∧ Below w.heap.size w w' := copy_N 100000 (Nat.le_refl _) t v w hv hb
end Go.Proofs.Ytmaijbeghemkbaa
