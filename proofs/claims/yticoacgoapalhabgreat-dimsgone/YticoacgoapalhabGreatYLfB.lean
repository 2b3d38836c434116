/- Lifts: a node's number, a row. -/
import Derived.Deep.QuietTactic
import Derived.BigQuiet
import Derived.WalkSmall
import Derived.Test.YticoacgoapalhabGreatYLfM
import Derived.Test.YticoacgoapalhabGreatYCopyD
import Derived.Test.YticoacgoapalhabGreatYOkA
namespace Go.Proofs.YticoacgoapalhabGreat
open Go.RowKit
set_option linter.unusedVariables false
set_option linter.unusedSimpArgs false

def pe (er : Int) : PanicEntry := { v := .iface 32 (.int .i64 er), recovered := false }
/-- It tells a value of which R holds, or gives up with a number that is not 0. -/
def LOut (er : Int) (R : Value → Prop) (e : Ending) : Prop := (er = 0 ∧ ∃ v, e = .returned v ∧ R v) ∨ (er ≠ 0 ∧ e = .panicked [pe er])
theorem LOut.ok {er : Int} {R : Value → Prop} {v : Value} (h : er = 0) (hR : R v) : LOut er R (.returned v) := .inl ⟨h, v, rfl, hR⟩
def sfV (s : Sf) : Value := .agg #[.int .i64 s.vf, .int .i64 s.vb, .int .i64 s.df, .int .i64 s.db]
end Go.Proofs.YticoacgoapalhabGreat
