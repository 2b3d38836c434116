/- What the condition on the packages' variables gives the walks: the signs, the two tables of the library; and a world in which they lie. -/
import Derived.Test.YtahnbigkdfmpbaaGreatDoorRows
import Derived.Test.YtahnbigkdfmpbaaGreatDoorILA
import Derived.ProofKit
import Derived.LaidMore
import Derived.OpenShut
import Derived.Lib.LaidU8
import Derived.PinnedBridge
import Derived.Lay
import Derived.Stop.Joined
set_option linter.unusedVariables false
set_option linter.unusedSimpArgs false
namespace Go.Proofs.YtahnbigkdfmpbaaGreatDoor
open Go.ChangeShapes Go.WideShapes Go.ChangeAt Go.RowKit
def laid3 : List (String × DataW Unit) := [("unicode/utf8.acceptRanges", Rows.laid_unicode_utf8_acceptRanges), ("hypercube/lex.signs", Rows.laid_hypercube_lex_signs), ("unicode/utf8.first", Rows.laid_unicode_utf8_first)]
set_option maxRecDepth 100000
theorem gSigns : Tryz.prog.globalNamed "hypercube/lex.signs" = some 0 := by kernel_rfl
theorem tSigns:(Tryz.prog.globals[0]?).map (·.type)=some 114:=by kernel_rfl
theorem cells_str:Tryz.prog.cellsOf 9=1:=by kernel_rfl
theorem extra8:U8Extra Tryz.prog lays260_ren:=⟨by kernel_rfl,by kernel_rfl,by kernel_rfl,by kernel_rfl,by kernel_rfl,by kernel_rfl,by kernel_rfl⟩
theorem accept_eq:Rows.laid_unicode_utf8_acceptRanges (H:=Unit)=Lib.acceptData:=by kernel_rfl
theorem signs_eq:Rows.laid_hypercube_lex_signs (H:=Unit)=.agg (signTab.map fun p=>.lit (.string p)):=by kernel_rfl
theorem of_laid {W:World} (h:laidMetH Tryz.prog laid3 W):Tabs W:=by
 rw [MakeChecks.laidMetH_plain _ _ _ (by kernel_rfl)] at h
 have h1 := Lib.laidMet.reads h (n := "unicode/utf8.acceptRanges") (d := Rows.laid_unicode_utf8_acceptRanges) (by simp [laid3])
 have h2 := Lib.laidMet.reads h (n := "hypercube/lex.signs") (d := Rows.laid_hypercube_lex_signs) (by simp [laid3])
 have h3 := Lib.laidMet.reads h (n := "unicode/utf8.first") (d := Rows.laid_unicode_utf8_first) (by simp [laid3])
 have e3:Rows.laid_unicode_utf8_first=Lib.firstData:=Pinned.utf8First_eq
 rw [accept_eq] at h1
 rw [signs_eq] at h2
 rw [e3] at h3
 refine⟨?_,utf8Tabs_of_reads lays260 extra8 h3 h1⟩
 obtain⟨g,t,cs,fuel,p,hg,ht,hv,hd⟩:=h2
 obtain rfl:=Option.some.inj (gSigns.symm.trans hg)
 obtain rfl:=Option.some.inj (tSigns.symm.trans ht)
 intro j v hj
 have hj20:j<20:=by
  rcases Nat.lt_or_ge j 20 with h|h
  ·exact h
  ·rw [List.getElem?_eq_none (by simpa [signL,signTab] using h)] at hj;cases hj
 obtain⟨fuel',d,q,hds,htr⟩:=Lib.array_elem Tryz.underlying114 hd j hj20
 rw [cells_str,Nat.mul_one] at htr
 obtain⟨s,e1,e2,_⟩:=DataW.trod_string Tryz.underlying9 htr
 rw [List.getElem?_map] at hds
 rw [signL,List.getElem?_map] at hj
 cases hs:signTab[j]? with
 | none=>rw [hs] at hj;cases hj
 | some b =>
  rw [hs] at hj hds
  simp only [Option.map_some,Option.some.injEq] at hj hds
  subst hj
  subst hds
  have e3:b=s.data.toList:=by
   have:=congrArg Prod.fst e2
   simpa using this
  have e4:bs b=s:=by
   apply tl_inj
   rw [tl_bs,e3]
   rfl
  rw [Nat.zero_add,World.var?_cell hg hv j,e4]
  have h0:((cs.toList.drop j).take 1)[0]? = some (.string s):=by rw [e1];rfl
  simpa using h0
end Go.Proofs.YtahnbigkdfmpbaaGreatDoor
