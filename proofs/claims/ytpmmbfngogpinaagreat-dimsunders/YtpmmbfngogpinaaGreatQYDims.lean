/- The dimensions of a term. -/
import Derived.Deep.RegionHeld
import Derived.Test.YtpmmbfngogpinaaGreatQYUses
import Derived.Test.YtpmmbfngogpinaaGreatQY2
set_option linter.unusedVariables false
set_option linter.unusedSimpArgs false
namespace Go.Proofs.YtpmmbfngogpinaaGreat
open Go.RowKit
attribute [local go_sem] Oper.semAt_some
def nrm (Q:Exit→Act→World→Prop) (e:Exit) (a:Act) (w:World):Prop:=e=.normal∧Q .normal a w
theorem nrm_to {Q:Exit→Act→World→Prop} (e:Exit) (a:Act) (w:World) (h:nrm Q e a w):Q e a w:=by rw [h.1];exact h.2
theorem region_nrm {id:Nat} {P:Program} {ops:Array Oper} {Q:Exit→Act→World→Prop} {S:World→Prop} {a:Act} {w:World} (hm:P.follows .mixedOrders=true) (hS:S w.drew)
  (h:S w.drew→wpAnyH P .any ops (nrm Q) S ops.size (Array.replicate ops.size false) a w.drew):(Code.region id ops true).wp P Q a w:=wp_mono (wp_region_held_drew hm hS h) nrm_to
def dmTo (t:Tm) (bd k:Nat):Nat:=(t.own >>> bd) ||| orL ((t.pts.take k).map fun p=>dmT p.1 (bd+p.2.2))
def DmI (t:Tm) (bd:Nat) (w4:World) (s3 s5:Nat) (k:Nat) (W:World):Prop :=
 Kn (fun q=>q<w4.heap.size∧q≠s3∧q≠s5) w4 W∧W.heap[s5]? = some (.cells #[.int .u32 ((dmTo t bd k:Nat):Int)] 36 (0,0))
theorem DmI.keep {t:Tm} {bd:Nat} {w4:World} {s3 s5:Nat} (hs:s5<w4.heap.size∧s5≠s3):∀ k W1 W2,DmI t bd w4 s3 s5 k W1→Kn (fun g=>g<w4.heap.size∧g≠s3) W1 W2→DmI t bd w4 s3 s5 k W2 :=
 fun k W1 W2 ⟨b,c⟩ h=>⟨b.trans (h.sub fun q hq=>⟨hq.1,hq.2.1⟩),(h.block s5 hs (Array.getElem?_eq_some_iff.1 c).1).trans c⟩
end Go.Proofs.YtpmmbfngogpinaaGreat
