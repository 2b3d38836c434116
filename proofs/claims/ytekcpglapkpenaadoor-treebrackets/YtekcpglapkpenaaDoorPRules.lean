/- All rules together. -/
import Derived.Test.YtekcpglapkpenaaDoorPMeet
import Derived.Test.YtekcpglapkpenaaDoorPAtom
import Derived.Test.YtekcpglapkpenaaDoorPApp
import Derived.Test.YtekcpglapkpenaaDoorPBinds
import Derived.Test.YtekcpglapkpenaaDoorPBinder
import Derived.Test.YtekcpglapkpenaaDoorPTerm
import Derived.Test.YtekcpglapkpenaaDoorPEq
import Derived.Test.YtekcpglapkpenaaDoorPElem
import Derived.Test.YtekcpglapkpenaaDoorPBox
import Derived.Test.YtekcpglapkpenaaDoorPDecl
import Derived.Test.YtekcpglapkpenaaDoorPSingle
import Derived.Test.YtekcpglapkpenaaDoorPFile
namespace Go.Proofs.YtekcpglapkpenaaDoor
open Go.RowKit
set_option linter.unusedVariables false
set_option linter.unusedSimpArgs false

structure Rules (r : Rdr) (f : Nat) : Prop where
  dim : RuleC r 87 (dimP r.e f)
  meet : RuleC r 105 (meetP r.e f)
  join : RuleC r 97 (joinP r.e f)
  term : RuleC r 33 (termP r.e f)
  binds : BindsC r f
  binder : BinderC r f
  app : RuleD r 54 (appP r.e f)
  atom : RuleD r 85 (atomP r.e f)
  brack : RuleD r 96 (brackP r.e f)
  box : ∀ (l : Nat) (R : Ts) (w : World), l ≤ 200 → r.In w R → sees [91] R = true → NF (boxP r.e f l R) → Calls Tryd.prog 95 #[r.ptr, .int .i64 (l : Nat)] w (Out r w (TrV w.heap.size) (boxP r.e f l R))
  elem : RuleD r 104 (elemP r.e f)
theorem rules_all (r : Rdr) (hwf : r.wf) : ∀ f, f ≤ 1000000 → ∀ g, g ≤ f → Rules r g := by
  intro f
  induction f with
  | zero =>
    intro _ g hg
    obtain rfl : g = 0 := by omega
    refine ⟨?_, ?_, ?_, ?_, ?_, ?_, ?_, ?_, ?_, ?_, ?_⟩
    · intro l R w _ _ h; rw [dimP_z] at h; exact absurd rfl (h 0)
    · intro l R w _ _ h; rw [meetP_z] at h; exact absurd rfl (h 0)
    · intro l R w _ _ h; rw [joinP_z] at h; exact absurd rfl (h 0)
    · intro l R w _ _ h; rw [termP_z] at h; exact absurd rfl (h 0)
    · intro k fr to l R w _ _ _ _ _ h; rw [bindsP_z] at h; exact absurd rfl (h 0)
    · intro l R w _ _ _ h; rw [binderP_z] at h; exact absurd rfl (h 0)
    · intro l R w _ _ h; rw [appP_z] at h; exact absurd rfl (h 0)
    · intro l R w _ _ h; rw [atomP_z] at h; exact absurd rfl (h 0)
    · intro l R w _ _ h; rw [brackP_z] at h; exact absurd rfl (h 0)
    · intro l R w _ _ _ h; rw [boxP_z] at h; exact absurd rfl (h 0)
    · intro l R w _ _ h; rw [elemP_z] at h; exact absurd rfl (h 0)
  | succ f ih =>
    intro hf g hg
    have ih := ih (by omega)
    rcases Nat.lt_or_ge f g with h | h
    · obtain rfl : g = f + 1 := by omega
      have i := ih f (Nat.le_refl _)
      exact ⟨dim_step r hwf f i.dim i.join, meet_step r hwf f (fun g hg => (ih g hg).dim), join_step r hwf f (fun g hg => (ih g hg).meet), term_step r hwf f i.binds i.binder i.app i.term, binds_step r hwf f i.term, binder_step r hwf f i.term, app_step r hwf f (fun g hg => (ih g hg).atom) (fun g hg => (ih g hg).dim), atom_step r hwf f i.box i.brack, brack_step r hwf f i.term, box_step r hwf f (by omega) (fun g hg => (ih g hg).elem), elem_step r hwf f (face_any r hwf f (by omega) (eq_any r hwf)) i.term⟩
    · exact ih g h
theorem single_rule (r : Rdr) (hwf : r.wf) (f : Nat) (hf : f ≤ 1000000) : RuleC0 r 19 (singleP r.e f) := single_any r hwf f (rules_all r hwf f hf f (Nat.le_refl _)).term
theorem file_rule (r : Rdr) (hwf : r.wf) (f g : Nat) (hf : f ≤ 1000000) (hg : g ≤ 1000000) (R : Ts) (w : World) (hR : r.In w R) (hNF : NF (fileL r.e f g [] R)) :
    Calls Tryd.prog 21 #[r.ptr] w (Out r w (fun l w' v => KRow w.heap.size r.b w' v l) (fileL r.e f g [] R)) :=
  file_any r hwf f g hg (decl_any r hwf f (rules_all r hwf f hf f (Nat.le_refl _)).term) R w hR hNF
end Go.Proofs.YtekcpglapkpenaaDoor
