/- All rules together. -/
import Derived.Test.YtkfeghminmhokaaDoorPMeet
import Derived.Test.YtkfeghminmhokaaDoorPAtom
import Derived.Test.YtkfeghminmhokaaDoorPApp
import Derived.Test.YtkfeghminmhokaaDoorPBinds
import Derived.Test.YtkfeghminmhokaaDoorPBinder
import Derived.Test.YtkfeghminmhokaaDoorPTerm
import Derived.Test.YtkfeghminmhokaaDoorPEq
import Derived.Test.YtkfeghminmhokaaDoorPElem
import Derived.Test.YtkfeghminmhokaaDoorPBox
import Derived.Test.YtkfeghminmhokaaDoorPDecl
import Derived.Test.YtkfeghminmhokaaDoorPSingle
import Derived.Test.YtkfeghminmhokaaDoorPFile
namespace Go.Proofs.YtkfeghminmhokaaDoor
open Go.RowKit
set_option linter.unusedVariables false
set_option linter.unusedSimpArgs false

structure Rules (r : Rdr) (f : Nat) : Prop where
  dim : RuleC r 83 (dimP r.e f)
  meet : RuleC r 95 (meetP r.e f)
  join : RuleC r 90 (joinP r.e f)
  term : RuleC r 42 (termP r.e f)
  binds : BindsC r f
  binder : BinderC r f
  app : RuleD r 65 (appP r.e f)
  atom : RuleD r 82 (atomP r.e f)
  brack : RuleD r 89 (brackP r.e f)
  box : ∀ (l : Nat) (R : Ts) (w : World), l ≤ 200 → r.In w R → sees [91] R = true → NF (boxP r.e f l R) → Calls Tryd.prog 88 #[r.ptr, .int .i64 (l : Nat)] w (Out r w (TrV w.heap.size) (boxP r.e f l R))
  elem : RuleD r 94 (elemP r.e f)
theorem rules_all (r : Rdr) (hwf : r.wf) : ∀ f, f ≤ 1000000 → ∀ g, g ≤ f → Rules r g := by
  intro f
  induction f with
  | zero =>
    intro _ g hg
    obtain rfl : g = 0 := by omega
    refine ⟨?_, ?_, ?_, ?_, ?_, ?_, ?_, ?_, ?_, ?_, ?_⟩
    · intro l R w _ _ h; rw [dimP] at h; exact absurd rfl (h 0)
    · intro l R w _ _ h; rw [meetP] at h; exact absurd rfl (h 0)
    · intro l R w _ _ h; rw [joinP] at h; exact absurd rfl (h 0)
    · intro l R w _ _ h; rw [termP] at h; exact absurd rfl (h 0)
    · intro k fr to l R w _ _ _ _ _ h; rw [bindsP] at h; exact absurd rfl (h 0)
    · intro l R w _ _ _ h; rw [binderP] at h; exact absurd rfl (h 0)
    · intro l R w _ _ h; rw [appP] at h; exact absurd rfl (h 0)
    · intro l R w _ _ h; rw [atomP] at h; exact absurd rfl (h 0)
    · intro l R w _ _ h; rw [brackP] at h; exact absurd rfl (h 0)
    · intro l R w _ _ _ h; rw [boxP] at h; exact absurd rfl (h 0)
    · intro l R w _ _ h; rw [elemP] at h; exact absurd rfl (h 0)
  | succ f ih =>
    intro hf g hg
    have ih := ih (by omega)
    rcases Nat.lt_or_ge f g with h | h
    · obtain rfl : g = f + 1 := by omega
      have i := ih f (Nat.le_refl _)
      exact ⟨dim_step r hwf f i.dim i.join, meet_step r hwf f (fun g hg => (ih g hg).dim), join_step r hwf f (fun g hg => (ih g hg).meet), term_step r hwf f i.binds i.binder i.app i.term, binds_step r hwf f i.term, binder_step r hwf f i.term, app_step r hwf f (fun g hg => (ih g hg).atom) (fun g hg => (ih g hg).dim), atom_step r hwf f i.box i.brack, brack_step r hwf f i.term, box_step r hwf f (by omega) (fun g hg => (ih g hg).elem), elem_step r hwf f (face_any r hwf f (by omega) (eq_any r hwf)) i.term⟩
    · exact ih g h
theorem single_rule (r : Rdr) (hwf : r.wf) (f : Nat) (hf : f ≤ 1000000) : RuleC0 r 23 (singleP r.e f) := single_any r hwf f (rules_all r hwf f hf f (Nat.le_refl _)).term
theorem file_rule (r : Rdr) (hwf : r.wf) (f g : Nat) (hf : f ≤ 1000000) (hg : g ≤ 1000000) (R : Ts) (w : World) (hR : r.In w R) (hNF : NF (fileL r.e f g [] R)) :
    Calls Tryd.prog 18 #[r.ptr] w (Out r w (fun l w' v => KRow w.heap.size r.b w' v l) (fileL r.e f g [] R)) :=
  file_any r hwf f g hg (decl_any r hwf f (rules_all r hwf f hf f (Nat.le_refl _)).term) R w hR hNF
end Go.Proofs.YtkfeghminmhokaaDoor
