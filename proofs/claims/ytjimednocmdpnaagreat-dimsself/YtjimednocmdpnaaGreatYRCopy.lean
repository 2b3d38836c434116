/- The document's Copy. -/
import Derived.Deep.RegionHeld
import Derived.Deep.DeepCutAuto
import Derived.Deep.CutBlock
import Derived.Test.YtjimednocmdpnaaGreatYDims
import Derived.Test.YtjimednocmdpnaaGreatYRCopyM
namespace Go.Proofs.YtjimednocmdpnaaGreat
open Go.RowKit
attribute [local go_sem] Oper.semAt_some
set_option linter.unusedVariables false
set_option linter.unusedSimpArgs false

theorem half_start {n o : Nat} {l : List C} {w4 w5 : World} {v : Value} (hO : OwnsC w4 n v l) (ho : v.ownBlock ≠ some o) (hge : n ≤ o) (hk : Kn (fun q => q ≠ o) w4 w5) : Half n o l [] w5 v (.slice none 0 0) :=
  ⟨(hO.but ho).keep hk.size (fun q hq => ⟨hq.1.same (hk.block q hq.2 hq.1.lt), (fun e => by cases e), hq.2⟩) (fun q hq hs => hk.block q hq.2 hs), KOwn.nil _ _ _, hge⟩
theorem kn_set6 (w : World) (s : Nat) (u0 u1 u2 u3 u4 u5 : Value) : Kn (fun q => q ≠ s) w ((((((w.setCell ⟨s, 0, none⟩ u0).setCell ⟨s, 1, none⟩ u1).setCell ⟨s, 2, none⟩ u2).setCell ⟨s, 3, none⟩ u3).setCell ⟨s, 4, none⟩ u4).setCell ⟨s, 5, none⟩ u5) :=
  (((((kn_set _ _ _ _).trans (kn_set _ _ _ _)).trans (kn_set _ _ _ _)).trans (kn_set _ _ _ _)).trans (kn_set _ _ _ _)).trans (kn_set _ _ _ _)
theorem owns_blw {w w' : World} {base : Nat} {v : Value} {l : List C} (h : OwnsC w base v l) (hb : Below w.heap.size w w') : OwnsC w' base v l := owns_keep h (fun k hk => hb.block k (World.ownsRow.lt h k hk).2)
end Go.Proofs.YtjimednocmdpnaaGreat
