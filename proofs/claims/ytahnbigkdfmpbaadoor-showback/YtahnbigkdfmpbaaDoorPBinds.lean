/- Terms that bind. -/
import Derived.Deep.RegionWith
import Derived.Test.YtahnbigkdfmpbaaDoorPDim
import Derived.Test.YtahnbigkdfmpbaaDoorPRow
namespace Go.Proofs.YtahnbigkdfmpbaaDoor
open Go.RowKit
set_option linter.unusedVariables false
set_option linter.unusedSimpArgs false

def BindsC (r : Rdr) (f : Nat) : Prop := ∀ (k : Nat) (frm to : Bs) (l : Nat) (R : Ts) (w : World), l ≤ 200 → r.In w R → sees frm R = true → frm ≠ [] → to ≠ [] → NF (bindsP r.e f k to l R) → Calls Tryd.prog 48 #[r.ptr, .int .i64 (k : Nat), .string (bs frm), .string (bs to), .int .i64 (l : Nat)] w (Out r w (TrV w.heap.size) (bindsP r.e f k to l R))
def BinderC (r : Rdr) (f : Nat) : Prop := ∀ (l : Nat) (R : Ts) (w : World), l ≤ 200 → r.In w R → sees [40] R = true → NF (binderP r.e f l R) → Calls Tryd.prog 50 #[r.ptr, .int .i64 (l : Nat)] w (Out r w (TrV w.heap.size) (binderP r.e f l R))
theorem binderQ_open {R : Ts} (h : binderQ R = true) : sees [40] R = true := by
  unfold binderQ at h
  cases hq : sees [40] R with
  | true => rfl
  | false => rw [hq] at h; simp at h
set_option maxRecDepth 100000 in
set_option maxHeartbeats 4000000 in
theorem binds_step (r : Rdr) (hwf : r.wf) (f : Nat) (iht : RuleC r 26 (termP r.e f)) : BindsC r (f + 1) := by
  intro k frm to l R w hl hR hse hfr hto hNF
  obtain ⟨X, hX⟩ : ∃ X, bindsP r.e (f + 1) k to l R = X := ⟨_, rfl⟩
  rw [hX] at hNF ⊢
  rw [bindsP_s] at hX
  have HX : Hid (_ = X) := hX
  clear hX
  have hlt := hR.lt.2
  obtain ⟨w1, hw1⟩ : ∃ w1, w1 = w.alloc (.cells #[.int .i64 0, .string ⟨#[]⟩, .slice none 0 0, .slice none 0 0, .int .i64 0] 25) := ⟨_, rfl⟩
  have hB1 : Below w.heap.size w w1 := by rw [hw1]; exact below_alloc _ _
  have hh1 : Hole w1 w.heap.size := by rw [hw1]; exact hole_new w
  have hn1 : w.heap.size < w1.heap.size := by rw [hw1]; simp
  have hI1 := hR.below hB1
  have hK1 := Kp.refl r.b w1
  have Hw1 : Hid (_ = _) := hw1
  clear hw1
  go_enter Tryd.func48, Tryd.ntmps48
  go_wp2_with fail
  rw [← Hw1.out]
  clear Hw1
  have g1 : IntKind.i64.wrap ((l : Int) + 1) = (l : Int) + 1 := wrap_in (by omega) (by omega)
  go_wp2_with fail
  refine (at_any r w1 (R) hI1 hwf).mono ?_
  rintro e w2 ⟨rfl, hb2⟩
  have hI2 := hI1.below hb2
  have hK2 := chainK hK1 hb2
  have hk2 := Kp.of_below (b := r.b) hb2
  clear hb2 hk2
  go_wp2_with fail
  have hal := below_alloc w2 (.cells #[.int .i64 (k : Nat), .string ⟨#[]⟩, .slice none 0 0, .slice none 0 0, .int .i64 (atP r.e R : Nat)] 25)
  have hbx := blk_new w2 (.int .i64 (k : Nat)) (.string ⟨#[]⟩) (.slice none 0 0) (.slice none 0 0) (.int .i64 (atP r.e R : Nat))
  have hxge := hK2.size
  obtain ⟨w3, hw⟩ : ∃ w0, w0 = w2.alloc (.cells #[.int .i64 (k : Nat), .string ⟨#[]⟩, .slice none 0 0, .slice none 0 0, .int .i64 (atP r.e R : Nat)] 25) := ⟨_, rfl⟩
  rw [← hw] at hal hbx ⊢
  clear hw
  have hI3 := hI2.below hal
  have hK3 := chainK hK2 hal
  clear hal
  obtain ⟨x, hx⟩ : ∃ x, x = w2.heap.size := ⟨_, rfl⟩
  rw [← hx] at hbx hxge ⊢
  clear hx
  have c := must_any frm hfr r w3 R hI3 hwf
  rw [mustP_t hse] at c
  go_wp2_with fail
  refine c.mono ?_
  rintro e w4 ⟨v4, rfl, rfl, hI4, hk4⟩
  have hK4 := hK3.trans hk4
  clear c
  replace hbx := Blk.kp hbx hk4 hbx.lt (by omega)
  have c := names_any r w4 (R.tail) hI4 hwf
  have hxl5 := hbx.lt
  cases hq : namesP r.e (R.tail) using Rs.cs with
  | bad p y =>
    rw [hq] at c HX
    go_wp2_with fail
    refine c.mono ?_
    rintro e w5 ⟨rfl, hb⟩
    exact ⟨rfl, rule_bad HX.out.symm hB1 hK4 hlt hb⟩
  | ok t5 R5 =>
    rw [hq] at c HX
    rw [bnd_ok] at HX
    go_wp2_with fail
    refine c.mono ?_
    rintro e w5 ⟨v5, rfl, hm5, hI5, hk5⟩
    have hK5 := hK4.trans hk5
    clear c hq
    replace hbx := Blk.kp hbx hk5 hbx.lt (by omega)
    replace hm5 := NmIn.toB hm5 hK4.size (by omega)
    obtain ⟨nA, nC, rfl⟩ := hm5.form
    obtain ⟨c0, c1, c2, c3, c4, f0, f1, f2, f3, f4⟩ := hbx.cells
    go_wp2_with fail
    clear c0 c1 c2 c3 c4 f0 f1 f2 f3 f4
    obtain ⟨w6, hw⟩ : ∃ w0, w0 = w5.setCell ⟨x, 3, none⟩ (.slice nA t5.length nC) := ⟨_, rfl⟩
    rw [← hw]
    have hI6 : r.In w6 (R5) := by rw [hw]; exact hI5.put (by omega) _
    have hK6 : Kp r.b w1 w6 := by rw [hw]; exact hK5.setCell (.inr hxge) _
    have hs6 : w6.heap.size = w5.heap.size := by rw [hw]; exact set_size _ _ _
    replace hbx := Blk.set3 hbx (.slice nA t5.length nC)
    replace hm5 := NmIn.putB (i := 3) hm5 (.slice nA t5.length nC)
    rw [← hw] at hbx hm5
    clear hw
    have c := must_any to hto r w6 (R5) hI6 hwf
    have hxl7 := hbx.lt
    cases hq : mustP r.e to (R5) using Rs.cs with
    | bad p y =>
      rw [hq] at c HX
      go_wp2_with fail
      refine c.mono ?_
      rintro e w7 ⟨rfl, hb⟩
      exact ⟨rfl, rule_bad HX.out.symm hB1 hK6 hlt hb⟩
    | ok t7 R7 =>
      rw [hq] at c HX
      rw [bnd_ok] at HX
      go_wp2_with fail
      refine c.mono ?_
      rintro e w7 ⟨v7, rfl, rfl, hI7, hk7⟩
      have hK7 := hK6.trans hk7
      clear c hq
      replace hbx := Blk.kp hbx hk7 hbx.lt (by omega)
      replace hm5 := NmIn.kpB hm5 hk7 (by omega)
      have hN8 : NF (termP r.e f (l + 1) (R7)) := NF.left (by have h := hNF; rw [← HX.out] at h; exact h)
      have c := iht (l + 1) (R7) w7 (by omega) hI7 hN8
      rw [castS] at c
      have hxl8 := hbx.lt
      cases hq : termP r.e f (l + 1) (R7) using Rs.cs with
      | bad p y =>
        rw [hq] at c HX
        go_wp2_with fail
        refine c.mono ?_
        rintro e w8 ⟨rfl, hb⟩
        exact ⟨rfl, rule_bad HX.out.symm hB1 hK7 hlt hb⟩
      | ok t8 R8 =>
        rw [hq] at c HX
        rw [bnd_ok] at HX
        go_wp2_with fail
        refine c.mono ?_
        rintro e w8 ⟨v8, rfl, ht8, hI8, hk8⟩
        have hK8 := hK7.trans hk8
        clear c hq
        replace hbx := Blk.kp hbx hk8 hbx.lt (by omega)
        replace hm5 := NmIn.kpB hm5 hk8 (by omega)
        have hz8 := ht8
        replace ht8 := TrIn.toB ht8 hK7.size (by omega)
        obtain ⟨vk8, vn8, rfl, hf8, ka8, kc8, rfl⟩ := TrIn.form ht8
        obtain ⟨na8, nc8, rfl⟩ := hf8.form
        clear hf8
        have hxl := hbx.lt
        have hnl := Nat.lt_of_lt_of_le hn1 hK8.size
        have e1 : ¬ x = w8.heap.size := by omega
        have e2 : ¬ w8.heap.size = x := by omega
        have e3 : ¬ w.heap.size = w8.heap.size := by omega
        have e4 : ¬ w8.heap.size = w.heap.size := by omega
        have e5 : ¬ x = w.heap.size := by omega
        have e6 : ¬ w.heap.size = x := by omega
        obtain ⟨c0, c1, c2, c3, c4, f0, f1, f2, f3, f4⟩ := hbx.cells
        obtain ⟨o0, o1, o2, o3, o4, z0, z1, z2, z3, z4⟩ := Blk.cells (hh1.kp hK8 hn1 hlt)
        go_wp2_with fail
        exact ⟨rfl, .agg #[.int .i64 (k : Nat), .string ⟨#[]⟩, .slice (some ⟨w8.heap.size, 0, none⟩) 1 1, .slice nA t5.length nC, .int .i64 (atP r.e R : Nat)], by simp [results, Tryd.results48, go_sem, *], rule_oneA (n := w.heap.size) (k := k) (nm := []) (ns := t5) HX.out.symm hB1 rfl hn1 (hI8.put (by omega) _) hlt (hK8.setCell (.inr hxge) _) (set_size _ _ _).symm (TrIn.fromB (TrIn.putB ht8 _)) (NmIn.fromB (NmIn.putB hm5 _)) _ _ _ _ _⟩
end Go.Proofs.YtahnbigkdfmpbaaDoor
