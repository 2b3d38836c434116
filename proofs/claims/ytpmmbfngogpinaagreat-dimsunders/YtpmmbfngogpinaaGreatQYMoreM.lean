/- What may be may be in more, and in no fewer than it uses. -/
import Derived.Test.YtpmmbfngogpinaaGreatQYRight
set_option linter.unusedVariables false
set_option linter.unusedSimpArgs false
namespace Go.Proofs.YtpmmbfngogpinaaGreat
open Go.RowKit
theorem node_iff (o:Bool) (V:Int) (D:Nat) (t:Tm) (bv bd:Nat):t.node o V D bv bd=true ↔
  (o || decide (bd+D≤24))=true∧(t.kids.length:Int)=kidsK t.kind∧numB o V bv t.kind t.n=true∧nameB t.kind t.name=true∧rowB o (D+bd) t.kind t.r=true∧∀ b∈t.sys,brB o (D+bd) t.kind (b.1,b.2.length)=true:=by
 unfold Tm.node nodeB
 simp only [Bool.and_eq_true,decide_eq_true_eq,List.all_map,List.all_eq_true,Function.comp_def]
 constructor
 ·rintro⟨⟨⟨⟨⟨h1,h2⟩,h3⟩,h4⟩,h5⟩,h6⟩;exact⟨h1,h2,h3,h4,h5,h6⟩
 ·rintro⟨h1,h2,h3,h4,h5,h6⟩;exact⟨⟨⟨⟨⟨h1,h2⟩,h3⟩,h4⟩,h5⟩,h6⟩
theorem ok_iff (o:Bool) (V:Int) (D:Nat) (t:Tm) (bv bd:Nat):okT o V D t bv bd=true↔t.node o V D bv bd=true∧∀ p∈t.pts,okT o V D p.1 (bv+p.2.1) (bd+p.2.2)=true:=by
 rw [ok_eq,Bool.and_eq_true,List.all_eq_true]
end Go.Proofs.YtpmmbfngogpinaaGreat
