/- What lies in memory lies in blocks that there are. -/
import Derived.Test.YtocfamcclfhkcaaGreatYEqA
namespace Go.Proofs.YtocfamcclfhkcaaGreat
open Go.RowKit
set_option linter.unusedVariables false
set_option linter.unusedSimpArgs false

/-- What lies in memory lies in blocks that there are. -/
theorem ClRow.lo {w : World} {l : List C} {v : Value} (h : ClRow Tt w l v) : ClRow (fun q => q < w.heap.size) w l v := by
  obtain ⟨a, cap, h1, h2, h3⟩ := h
  refine ⟨a, cap, h1, h2, fun j x hx => ?_⟩
  obtain ⟨g, off, a1, _, a3, a4⟩ := h3 j x hx
  exact ⟨g, off, a1, a3, a3, a4⟩
theorem KdT.lo {w : World} {P : Tm → Value → Prop} {l : List Tm} {v : Value} (h : KdT Tt w P l v) : KdT (fun q => q < w.heap.size) w P l v := by
  obtain ⟨a, cap, h1, h2, h3⟩ := h
  refine ⟨a, cap, h1, h2, fun j x hx => ?_⟩
  obtain ⟨g, off, u0, u1, u2, u3, u4, u5, a1, _, a3, a4⟩ := h3 j x hx
  exact ⟨g, off, u0, u1, u2, u3, u4, u5, a1, a3, a3, a4⟩
theorem SyT.lo {w : World} {P : Tm → Value → Prop} {l : List (List C × List Tm)} {v : Value} (h : SyT Tt w P l v) : SyT (fun q => q < w.heap.size) w P l v := by
  obtain ⟨a, cap, h1, h2, h3⟩ := h
  refine ⟨a, cap, h1, h2, fun j x hx => ?_⟩
  obtain ⟨g, off, vf, vk, a1, _, a3, a4, a5, a6⟩ := h3 j x hx
  exact ⟨g, off, vf, vk, a1, a3, a3, a4.lo, a5.lo, a6⟩
theorem TmIn.lo {w : World} {t : Tm} {v : Value} (h : TmIn Tt w t v) : TmIn (fun q => q < w.heap.size) w t v :=
  h _ fun k n nm r kids sys vr vk vs hk hn h1 h2 h3 => .mk k n nm r kids sys vr vk vs hk hn h1.lo h2.lo h3.lo
theorem TmTop.lo {w : World} {t : Tm} {ra rc ka kc sa sc} (h : TmTop Tt w t ra rc ka kc sa sc) : TmTop (fun q => q < w.heap.size) w t ra rc ka kc sa sc :=
  ⟨h.ik, h.inn, h.row.lo, h.kids.lo.mono fun _ _ hx => hx.lo, h.sys.lo.mono fun _ _ hx => hx.lo⟩
end Go.Proofs.YtocfamcclfhkcaaGreat
