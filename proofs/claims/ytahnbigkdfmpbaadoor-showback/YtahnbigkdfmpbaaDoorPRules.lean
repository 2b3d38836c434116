/- All rules together. -/
import Derived.Test.YtahnbigkdfmpbaaDoorPMeet
import Derived.Test.YtahnbigkdfmpbaaDoorPAtom
import Derived.Test.YtahnbigkdfmpbaaDoorPApp
import Derived.Test.YtahnbigkdfmpbaaDoorPBinds
import Derived.Test.YtahnbigkdfmpbaaDoorPBinder
import Derived.Test.YtahnbigkdfmpbaaDoorPTerm
import Derived.Test.YtahnbigkdfmpbaaDoorPEq
import Derived.Test.YtahnbigkdfmpbaaDoorPElem
import Derived.Test.YtahnbigkdfmpbaaDoorPBox
import Derived.Test.YtahnbigkdfmpbaaDoorPDecl
import Derived.Test.YtahnbigkdfmpbaaDoorPSingle
import Derived.Test.YtahnbigkdfmpbaaDoorPFile
namespace Go.Proofs.YtahnbigkdfmpbaaDoor
open Go.RowKit
set_option linter.unusedVariables false
set_option linter.unusedSimpArgs false

structure Rules (r : Rdr) (f : Nat) : Prop where
  dim : RuleC r 73 (dimP r.e f)
  meet : RuleC r 91 (meetP r.e f)
  join : RuleC r 87 (joinP r.e f)
  term : RuleC r 26 (termP r.e f)
  binds : BindsC r f
  binder : BinderC r f
  app : RuleD r 51 (appP r.e f)
  atom : RuleD r 71 (atomP r.e f)
  brack : RuleD r 86 (brackP r.e f)
  box : ∀ (l : Nat) (R : Ts) (w : World), l ≤ 200 → r.In w R → sees [91] R = true → NF (boxP r.e f l R) → Calls Tryd.prog 85 #[r.ptr, .int .i64 (l : Nat)] w (Out r w (TrV w.heap.size) (boxP r.e f l R))
  elem : RuleD r 90 (elemP r.e f)
theorem rules_all (r : Rdr) (hwf : r.wf) : ∀ f, f ≤ 1000000 → ∀ g, g ≤ f → Rules r g := by
  intro f
  induction f with
  | zero =>
    intro _ g hg
    obtain rfl : g = 0 := by omega
    refine ⟨?_, ?_, ?_, ?_, ?_, ?_, ?_, ?_, ?_, ?_, ?_⟩
    · intro l R w _ _ h; rw [dimP_z] at h; exact absurd rfl (h 0)
    · intro l R w _ _ h; rw [meetP_z] at h; exact absurd rfl (h 0)
    · intro l R w _ _ h; rw [joinP_z] at h; exact absurd rfl (h 0)
    · intro l R w _ _ h; rw [termP_z] at h; exact absurd rfl (h 0)
    · intro k fr to l R w _ _ _ _ _ h; rw [bindsP_z] at h; exact absurd rfl (h 0)
    · intro l R w _ _ _ h; rw [binderP_z] at h; exact absurd rfl (h 0)
    · intro l R w _ _ h; rw [appP_z] at h; exact absurd rfl (h 0)
    · intro l R w _ _ h; rw [atomP_z] at h; exact absurd rfl (h 0)
    · intro l R w _ _ h; rw [brackP_z] at h; exact absurd rfl (h 0)
    · intro l R w _ _ _ h; rw [boxP_z] at h; exact absurd rfl (h 0)
    · intro l R w _ _ h; rw [elemP_z] at h; exact absurd rfl (h 0)
  | succ f ih =>
    intro hf g hg
    have ih := ih (by omega)
    rcases Nat.lt_or_ge f g with h | h
    · obtain rfl : g = f + 1 := by omega
      have i := ih f (Nat.le_refl _)
      exact ⟨dim_step r hwf f i.dim i.join, meet_step r hwf f (fun g hg => (ih g hg).dim), join_step r hwf f (fun g hg => (ih g hg).meet), term_step r hwf f i.binds i.binder i.app i.term, binds_step r hwf f i.term, binder_step r hwf f i.term, app_step r hwf f (fun g hg => (ih g hg).atom) (fun g hg => (ih g hg).dim), atom_step r hwf f i.box i.brack, brack_step r hwf f i.term, box_step r hwf f (by omega) (fun g hg => (ih g hg).elem), elem_step r hwf f (face_any r hwf f (by omega) (eq_any r hwf)) i.term⟩
    · exact ih g h
theorem single_rule (r : Rdr) (hwf : r.wf) (f : Nat) (hf : f ≤ 1000000) : RuleC0 r 16 (singleP r.e f) := single_any r hwf f (rules_all r hwf f hf f (Nat.le_refl _)).term
end Go.Proofs.YtahnbigkdfmpbaaDoor
