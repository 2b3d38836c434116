/- Regions whose calls lay blocks behind a world and leave all else: one walk. '+' on strings. -/
import Derived.Test.YtekcpglapkpenaaDoorQWorks
namespace Go.Proofs.YtekcpglapkpenaaDoor
open Go.RowKit
set_option linter.unusedVariables false
set_option linter.unusedSimpArgs false

/-- The worlds that leave the blocks of w. -/
def Cls (w : World) : Type := { w' : World // Below w.heap.size w w' }
theorem cls_any (w : World) : Nonempty (Cls w) := ⟨⟨w, Below.refl _ _⟩⟩
theorem wp_region_cls {id : Nat} {Q : Exit → Act → World → Prop} {a : Act} {w : World} {l : List Oper} (hm : Tryd.prog.follows .mixedOrders = true) (hB : Region.lexB .any l.toArray = true)
    (h : wpQuiet Tryd.prog l.toArray (fun w' => ∃ u : Cls w, w' = u.1) (fun a' => ∀ w', (∃ u : Cls w, w' = u.1) → Q .normal a' w') l a) : (Code.region id l.toArray true).wp Tryd.prog Q a w :=
  wp_region_quiet (C := fun w' => ∃ u : Cls w, w' = u.1) hm hB ⟨⟨_, Below.drew (Below.refl _ _)⟩, rfl⟩ (by simpa using h)
/-- A call of a function that answers true and leaves the blocks. -/
theorem cls_call {w : World} {f : FuncId} {args : Array Value} (u : Cls w) (h : Calls Tryd.prog f args u.1 fun e w' => e = .returned (.bool true) ∧ Below u.1.heap.size u.1 w') : Calls Tryd.prog f args u.1 fun e w' => e = .returned (.bool true) ∧ ∃ u' : Cls w, w' = u'.1 :=
  h.mono fun e w' ⟨he, hb⟩ => ⟨he, ⟨w', chain u.2 hb⟩, rfl⟩
/-- '+' on two strings, in a plain statement. -/
theorem wpList_add_str {w : World} {ops : Array Oper} {rest : List Oper} {o : Oper} {a : Act} {Q : Exit → Act → World → Prop} (hgd : o.guard = none) (x y : Operand) (ho : o.op = .binOp .add 9 x y 9)
    (A B S : ByteArray) (hx : a.eval x = .string A) (hy : a.eval y = .string B) (hS : ∀ w, (Op.stringOp .add A B).run Tryd.prog w = .ok (.string S) w)
    (h : wpList Tryd.prog ops Q rest (a.put o.dst (.string S)) w) : wpList Tryd.prog ops Q (o :: rest) a w := by
  refine wpList_plain hgd fun K hK' => ?_
  unfold Oper.wp
  have e : (binOp .add 9 (.string A) (.string B)).run Tryd.prog w = .ok (.string S) w := by rw [binOp_string_add]; exact hS w
  simp [execOp, ho, hx, hy, eqGuard, e, Result.andThen]
  exact hK' _ _ h

theorem tl_app (a b : ByteArray) : tl (a ++ b) = tl a ++ tl b := by simp [tl]
theorem app_size (a b : ByteArray) : (a ++ b).size = a.size + b.size := by rw [← tl_len, tl_app, List.length_append, tl_len, tl_len]
theorem sum3 (A B C : ByteArray) (h : A.size + B.size + C.size ≤ 1000000000000000000) : ∃ S1 S2 : ByteArray, (∀ w, (Op.stringOp .add A B).run Tryd.prog w = .ok (.string S1) w) ∧ (∀ w, (Op.stringOp .add S1 C).run Tryd.prog w = .ok (.string S2) w) ∧ tl S2 = tl A ++ (tl B ++ tl C) ∧ S2.size = A.size + B.size + C.size := by
  have z1 : (A ++ B).size = A.size + B.size := app_size _ _
  refine ⟨A ++ B, A ++ B ++ C, fun w => ?_, fun w => ?_, ?_, ?_⟩
  · rw [run_string_add_sum w _ _ (by omega)]
  · rw [run_string_add_sum w _ _ (by omega)]
  · rw [tl_app, tl_app, List.append_assoc]
  · rw [app_size, z1]
end Go.Proofs.YtekcpglapkpenaaDoor
