/- Lifts: a node's number, a row. -/
import Derived.Deep.QuietTactic
import Derived.BigQuiet
import Derived.WalkSmall
import Derived.Test.YtpmmbfngogpinaaGreatQYLfM
import Derived.Test.YtpmmbfngogpinaaGreatQY2
import Derived.Test.YtpmmbfngogpinaaGreatQOkG
set_option linter.unusedVariables false
set_option linter.unusedSimpArgs false
namespace Go.Proofs.YtpmmbfngogpinaaGreat
open Go.RowKit
def pe (er:Int):PanicEntry:={ v:=.iface 30 (.int .i64 er),recovered:=false }
def LOut (er:Int) (R:Value→Prop) (e:Ending):Prop:=(er=0∧∃ v,e=.returned v∧R v)∨(er≠0∧e=.panicked [pe er])
theorem LOut.ok {er:Int} {R:Value→Prop} {v:Value} (h:er=0) (hR:R v):LOut er R (.returned v):=.inl ⟨h,v,rfl,hR⟩
end Go.Proofs.YtpmmbfngogpinaaGreat
