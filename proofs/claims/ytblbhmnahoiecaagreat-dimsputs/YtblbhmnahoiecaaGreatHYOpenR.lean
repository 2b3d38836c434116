/- A part of the proof. -/
import Derived.Test.YtblbhmnahoiecaaGreatHG41
set_option linter.unusedVariables false
set_option linter.unusedSimpArgs false
set_option maxRecDepth 100000
namespace Go.Proofs.YtblbhmnahoiecaaGreat
open Go.RowKit
open Go.ChangeShapes Go.WideShapes Go.ChangeAt
section
variable {H:Type} {enc:TypeId × Value->H}
theorem open_row {W:World} {base:Nat} {v:Value} {d:DataW H} {p:List MemPlace} (hv:Value.okWide Tryz.prog W .any base 22 v) (h:DataW.Trod enc Tryz.prog W 0 (fun _=>true) true 22 v d p):∃ l:List C,ClRow Tt W l v:=by
 obtain⟨a0,len,cap,rfl⟩:=okWide_slice Tryz.underlying22 hv
 obtain⟨fuel,hf⟩:=h
 obtain⟨l,v',e,hs⟩:=open_cls hf
 have ec:Value.slice a0 len cap=v':=by
  simp [Value.cells] at e
  first | exact e | exact e.symm
 rw [ec]
 exact⟨l,hs⟩
end
end Go.Proofs.YtblbhmnahoiecaaGreat
