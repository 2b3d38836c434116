/- Two terms that are the same: the code's Same. -/
import Derived.Deep.QuietTactic
import Derived.BigQuiet
import Derived.WalkSmall
import Derived.Test.YtocfamcclfhkcaaGreatFB
import Derived.Test.YtocfamcclfhkcaaGreatYMem
namespace Go.Proofs.YtocfamcclfhkcaaGreat
open Go.RowKit
set_option linter.unusedVariables false
set_option linter.unusedSimpArgs false

theorem ClRow.row {ok : Nat → Prop} {w : World} {l : List C} {v : Value} (h : ClRow ok w l v) : CRow w v l := by
  obtain ⟨a, cap, rfl, h2, h3⟩ := h
  by_cases hz : l = []
  · subst hz; exact .inl ⟨_, _, rfl, rfl⟩
  · obtain ⟨c, hc⟩ := someL (l := l) (k := 0) (List.length_pos_iff.2 hz)
    obtain ⟨g, off, rfl, _, hg, _⟩ := h3 0 c hc
    refine .inr ⟨g, off, cap, rfl, hg, fun j c hj => ?_⟩
    obtain ⟨g', off', e, _, _, c0, c1⟩ := h3 j c hj
    cases e
    exact ⟨c0, c1⟩
theorem ClRow.frow {ok : Nat → Prop} {w : World} {l : List C} {v : Value} (h : ClRow ok w l v) : FRow w v l :=
  ⟨h.row, by obtain ⟨a, cap, rfl, h2, h3⟩ := h; exact ⟨_, _, _, rfl, h2⟩⟩
/-- The worlds that leave the blocks of w. -/
def Cw (w : World) : Type := { w' : World // Below w.heap.size w w' }
theorem cw_any (w : World) : Nonempty (Cw w) := ⟨⟨w, Below.refl _ _⟩⟩
theorem wp_region_cw {id : Nat} {Q : Exit → Act → World → Prop} {a : Act} {w : World} {l : List Oper} (hm : Tryz.prog.follows .mixedOrders = true) (hB : Region.lexB .any l.toArray = true)
    (h : wpQuiet Tryz.prog l.toArray (fun w' => ∃ u : Cw w, w' = u.1) (fun a' => ∀ w', (∃ u : Cw w, w' = u.1) → Q .normal a' w') l a) : (Code.region id l.toArray true).wp Tryz.prog Q a w :=
  wp_region_quiet (C := fun w' => ∃ u : Cw w, w' = u.1) hm hB ⟨⟨_, Below.drew (Below.refl _ _)⟩, rfl⟩ (by simpa using h)
theorem cw_call {w : World} {f : FuncId} {args : Array Value} {v : Value} (u : Cw w) (h : Calls Tryz.prog f args u.1 fun e w' => e = .returned v ∧ Below u.1.heap.size u.1 w') : Calls Tryz.prog f args u.1 fun e w' => e = .returned v ∧ ∃ u' : Cw w, w' = u'.1 :=
  h.mono fun e w' ⟨he, hb⟩ => ⟨he, ⟨w', bchain u.2 hb⟩, rfl⟩
abbrev Tt : Nat → Prop := fun _ => True
theorem TmTop.tt {ok : Nat → Prop} {w : World} {t : Tm} {ra rc ka kc sa sc} (h : TmTop ok w t ra rc ka kc sa sc) : TmTop Tt w t ra rc ka kc sa sc := h.up fun _ _ => trivial
theorem bool_of (p : Prop) : ∃ b : Bool, (b = true ↔ p) := ⟨@decide p (Classical.propDecidable p), by simp⟩
theorem Tm.eq_iff (t u : Tm) : t = u ↔ t.kind = u.kind ∧ t.n = u.n ∧ t.name = u.name ∧ t.r = u.r ∧ t.kids = u.kids ∧ t.sys = u.sys := by
  obtain ⟨a, b, c, d, e, f⟩ := t
  obtain ⟨a', b', c', d', e', f'⟩ := u
  simp
theorem take_step' {α : Type} {l m : List α} {k : Nat} {c d : α} (h : l.take k = m.take k) (h1 : l[k]? = some c) (h2 : m[k]? = some d) (e : c = d) : l.take (k + 1) = m.take (k + 1) := by
  rw [List.take_add_one, List.take_add_one, h, h1, h2, e]
end Go.Proofs.YtocfamcclfhkcaaGreat
