/- Same and Copy, to their ends. -/
import Derived.Test.YtocfamcclfhkcaaGreatYCopyD
import Derived.Test.YtocfamcclfhkcaaGreatYEq
namespace Go.Proofs.YtocfamcclfhkcaaGreat
open Go.RowKit
set_option linter.unusedVariables false
set_option linter.unusedSimpArgs false

theorem copy_N (N : Nat) (hN : N ≤ 100000) : CpC N := by
  induction N with
  | zero => intro t v w _ h; have := blk_pos t; omega
  | succ N ih => exact copy_step N hN (become_step N (by omega) (ih (by omega))) (becomeB_step N (by omega) (copyBranch_step N (by omega) (become_step N (by omega) (ih (by omega)))))
theorem boxT2 (w : World) (t u : Tm) (ra : Option Addr) (rc : Nat) (ka : Option Addr) (kc : Nat) (sa : Option Addr) (sc : Nat) (ra' : Option Addr) (rc' : Nat) (ka' : Option Addr) (kc' : Nat) (sa' : Option Addr) (sc' : Nat) :
    ∃ W, W = (w.alloc (.cells #[.int .i64 t.kind, .int .i64 t.n, .string t.name, .slice ra t.r.length rc, .slice ka t.kids.length kc, .slice sa t.sys.length sc] 26)).alloc (.cells #[.int .i64 u.kind, .int .i64 u.n, .string u.name, .slice ra' u.r.length rc', .slice ka' u.kids.length kc', .slice sa' u.sys.length sc'] 26) ∧
      Below w.heap.size w W ∧ Cs6 W w.heap.size 0 t ra rc ka kc sa sc ∧ Cs6 W (w.heap.size + 1) 0 u ra' rc' ka' kc' sa' sc' := by
  refine ⟨_, rfl, bchain (belowA _ _) (belowA _ _), (cs6_new w t ra rc ka kc sa sc).blw (belowA _ _), ?_⟩
  have := cs6_new (w.alloc (.cells #[.int .i64 t.kind, .int .i64 t.n, .string t.name, .slice ra t.r.length rc, .slice ka t.kids.length kc, .slice sa t.sys.length sc] 26)) u ra' rc' ka' kc' sa' sc'
  rwa [World.size_alloc] at this
theorem copy_any (t : Tm) (v : Value) (w : World) (hv : TmIn Tt w t v) (hb : blk t ≤ 100000) :
    Calls Tryz.prog 72 #[v] w fun e w' => ∃ v', e = .returned v' ∧ TmIn (OkN w.heap.size w') w' t v' ∧ Below w.heap.size w w' := copy_N 100000 (Nat.le_refl _) t v w hv hb
end Go.Proofs.YtocfamcclfhkcaaGreat
