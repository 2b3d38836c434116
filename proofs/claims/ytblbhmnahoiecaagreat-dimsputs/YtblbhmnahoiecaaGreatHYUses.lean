/- A part of the proof. -/
import Derived.Test.YtblbhmnahoiecaaGreatHYAll
set_option linter.unusedVariables false
set_option linter.unusedSimpArgs false
namespace Go.Proofs.YtblbhmnahoiecaaGreat
open Go.RowKit
attribute [local go_sem] Oper.semAt_some
def UsI (n:Int) (t:Tm) (bv:Nat) (w4:World) (s s3:Nat) (k:Nat) (W:World):Prop :=
 (∀ j p,j<k->t.pts[j]? = some p->usT n p.1 (bv+p.2.1)=false)/\Kn (fun q=>q<w4.heap.size/\q≠s3/\q≠s+2) w4 W/\W.heap[s+2]? = some (.cells #[.bool false] 4 (0,0))
def UsX (n:Int) (t:Tm) (bv:Nat) (w4:World) (s s3:Nat) (W:World):Prop :=
 Kn (fun q=>q<w4.heap.size/\q≠s3/\q≠s+2) w4 W/\W.heap[s+2]? = some (.cells #[.bool true] 4 (0,0))/\usT n t bv=true
theorem UsI.keep {n:Int} {t:Tm} {bv:Nat} {w4:World} {s s3:Nat} (hs:s+2<w4.heap.size/\s+2≠s3):∀ k W1 W2,UsI n t bv w4 s s3 k W1->Kn (fun g=>g<w4.heap.size/\g≠s3) W1 W2->UsI n t bv w4 s s3 k W2 :=
 fun k W1 W2 ⟨a,b,c⟩ h=>⟨a,b.trans (h.sub fun q hq=>⟨hq.1,hq.2.1⟩),(h.block (s+2) hs (Array.getElem?_eq_some_iff.1 c).1).trans c⟩
theorem UsX.keep {n:Int} {t:Tm} {bv:Nat} {w4:World} {s s3:Nat} (hs:s+2<w4.heap.size/\s+2≠s3):∀ W1 W2,UsX n t bv w4 s s3 W1->Kn (fun g=>g<w4.heap.size/\g≠s3) W1 W2->UsX n t bv w4 s s3 W2 :=
 fun W1 W2 ⟨b,c,a⟩ h=>⟨b.trans (h.sub fun q hq=>⟨hq.1,hq.2.1⟩),(h.block (s+2) hs (Array.getElem?_eq_some_iff.1 c).1).trans c,a⟩
end Go.Proofs.YtblbhmnahoiecaaGreat
