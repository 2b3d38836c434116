/- Texts of terms, by the document's answer: all kinds. -/
import Derived.Test.YtpfnjeefhddikaaRTextA
import Derived.Test.YtpfnjeefhddikaaRTextB
import Derived.Test.YtpfnjeefhddikaaRTextC
import Derived.Test.YtpfnjeefhddikaaRTextD
import Derived.Test.YtpfnjeefhddikaaRTextE
import Derived.Test.YtpfnjeefhddikaaRBoxT
namespace Go.Proofs.Ytpfnjeefhddikaa
open Go.RowKit
set_option linter.unusedVariables false
set_option linter.unusedSimpArgs false

set_option maxRecDepth 100000 in
set_option maxHeartbeats 4000000 in
theorem text_10 (f n L : Nat) (IH : RTx f) (t : Sx) (v : Value) (w : World) (hL : L < 3) (hok : okF (f + 1) 0 t = true) (hb : blk t ≤ 65536) (h : SxIn n w t v) (hn : n ≤ w.heap.size) (hk : t.kind = 10) (IHs : ∀ m, m ≤ f → RTx m) : Calls Try.prog 19 #[v, .int .i64 (L : Nat)] w fun e w' => e = .returned (.string (bs (partF (f + 1) (plc L) t))) ∧ Below w.heap.size w w' := by
  obtain ⟨ka, kc, na, nc, rfl, hN, hK⟩ := h.form
  have hbs := blk_sum t
  have hnl := blk_nlen t
  have hJ := jn_names_len t
  obtain ⟨w1, hw1⟩ : ∃ w1, w1 = w.alloc (.cells #[.int .i64 t.kind, .string (bs t.name), .slice ka t.kids.length kc, .slice na t.names.length nc, .int .i64 t.at_] 25) := ⟨_, rfl⟩
  have hal1 : Below w.heap.size w w1 := by rw [hw1]; exact below_alloc _ _
  have hB1 : Bx w1 w.heap.size (.int .i64 t.kind) (.string (bs t.name)) (.slice ka t.kids.length kc) (.slice na t.names.length nc) (.int .i64 t.at_) := by rw [hw1]; exact bx_new _ _ _ _ _ _
  have Hw1 : Hid (_ = _) := hw1
  clear hw1
  obtain ⟨x0, x1, x2, x3, x4⟩ := hB1.cells
  have hn1 := Nat.le_trans hn hal1.size
  have h1 := h.keep (hal1.mono hn)
  have hN1 := hN.keep (hal1.mono hn)
  obtain ⟨J, hJe⟩ : ∃ J, J = jn [44, 32] (t.kids.map (lineF f)) := ⟨_, rfl⟩
  have hlj : J.length ≤ 1048576 := by
    have h9 := Nat.le_trans (jn_len [44, 32] (t.kids.map (lineF f))) (lines_sum f t.kids)
    rw [hJe]
    omega
  have k0 := hL
  have k1 := hL
  have cX := rbox_any f IHs n t _ w1 hb ((parts_term hok).box hk) h1 hn1
  rw [← hJe] at cX
  have HT9 : lineF (f + 1) t = (91 :: (J ++ [93])) := by
    rw [lineF_s]
    unfold lineR
    rw [if_neg (by omega), if_neg (by omega), if_neg (by omega), if_neg (by omega), if_neg (by omega), if_neg (by omega), if_neg (by omega), if_neg (by omega), if_neg (by omega), if_pos (by omega)]
    rw [← hJe]
    all_goals (first | rfl | (rw [k0]; rfl) | (rw [k0]; simp; rfl) | (rw [k0, k1]; rfl) | (rw [k0, k1]; simp; rfl) | (rw [k0, k1]; unfold partF; simp))
  have HT00 : partF (f + 1) 0 t = (91 :: (J ++ [93])) := by
    have e1 : needB t 0 = false := by unfold needB frontB lastP; rw [hk]; simp
    rw [show partF (f + 1) 0 t = (if needB t 0 then 40 :: (lineF (f + 1) t ++ [41]) else lineF (f + 1) t) from rfl, e1, if_neg (by simp), HT9]
    skip
  have HT0 : Hid (_ = _) := HT00
  clear HT00
  have HT10 : partF (f + 1) 2 t = (91 :: (J ++ [93])) := by
    have e1 : needB t 2 = false := by unfold needB frontB lastP; rw [hk]; simp
    rw [show partF (f + 1) 2 t = (if needB t 2 then 40 :: (lineF (f + 1) t ++ [41]) else lineF (f + 1) t) from rfl, e1, if_neg (by simp), HT9]
    skip
  have HT1 : Hid (_ = _) := HT10
  clear HT10
  have HT20 : partF (f + 1) 3 t = (91 :: (J ++ [93])) := by
    have e1 : needB t 3 = false := by unfold needB frontB lastP; rw [hk]; simp
    rw [show partF (f + 1) 3 t = (if needB t 3 then 40 :: (lineF (f + 1) t ++ [41]) else lineF (f + 1) t) from rfl, e1, if_neg (by simp), HT9]
    skip
  have HT2 : Hid (_ = _) := HT20
  clear HT20
  clear HT9
  clear hJe
  have kk1 : (t.kind == 1) = false := by rw [hk]; rfl
  have kk2 : (t.kind == 2) = false := by rw [hk]; rfl
  have kk3 : (t.kind == 3) = false := by rw [hk]; rfl
  have kk4 : (t.kind == 4) = false := by rw [hk]; rfl
  have kk5 : (t.kind == 5) = false := by rw [hk]; rfl
  have kk6 : (t.kind == 6) = false := by rw [hk]; rfl
  have kk7 : (t.kind == 7) = false := by rw [hk]; rfl
  have kk8 : (t.kind == 8) = false := by rw [hk]; rfl
  have kk9 : (t.kind == 9) = false := by rw [hk]; rfl
  have kk10 : (t.kind == 10) = true := by rw [hk]; rfl
  clear hk
  go_enter Try.func19, Try.ntmps19
  go_wp2_with fail
  rw [← Hw1.out]
  clear Hw1
  refine cX.mono ?_
  rintro e w2 ⟨rfl, hb2⟩
  clear cX
  have hal2 := chain hal1 hb2
  rcases (show L = 0 ∨ L = 1 ∨ L = 2 by omega) with rfl | rfl | rfl
  · go_wp2_with fail
    go_ret
    exact ⟨by rw [show plc 0 = 0 from rfl, HT0.out]; rfl, hal2⟩
  · go_wp2_with fail
    go_ret
    exact ⟨by rw [show plc 1 = 2 from rfl, HT1.out]; rfl, hal2⟩
  · go_wp2_with fail
    go_ret
    exact ⟨by rw [show plc 2 = 3 from rfl, HT2.out]; rfl, hal2⟩

theorem term_kinds {f : Nat} {t : Sx} (h : okF (f + 1) 0 t = true) : t.kind = 1 ∨ t.kind = 2 ∨ t.kind = 3 ∨ t.kind = 4 ∨ t.kind = 5 ∨ t.kind = 6 ∨ t.kind = 7 ∨ t.kind = 8 ∨ t.kind = 9 ∨ t.kind = 10 := by
  rw [okF_s] at h
  have h : termB (okF f) t = true := h
  unfold termB at h
  by_cases h1 : t.kind = 1
  · omega
  by_cases h2 : t.kind = 2 ∨ t.kind = 3
  · omega
  by_cases h3 : t.kind = 4 ∨ t.kind = 5
  · omega
  by_cases h4 : t.kind = 6 ∨ t.kind = 8 ∨ t.kind = 9
  · omega
  by_cases h5 : t.kind = 7
  · omega
  by_cases h6 : t.kind = 10
  · omega
  rw [if_neg h1, if_neg h2, if_neg h3, if_neg h4, if_neg h5, if_neg h6] at h
  cases h
/-- Text, of every term that may be. -/
theorem text_any (f : Nat) : RTx f := by
  induction f using Nat.strongRecOn with
  | _ f ih =>
    intro L n t v w hL hok hb h hn
    obtain ⟨f, rfl⟩ := okF_pos hok
    have IH := ih f (by omega)
    rcases term_kinds hok with hk | hk | hk | hk | hk | hk | hk | hk | hk | hk
    · exact text_1 f n L IH t v w hL hok hb h hn hk
    · exact text_2 f n L IH t v w hL hok hb h hn hk
    · exact text_3 f n L IH t v w hL hok hb h hn hk
    · have hnl := ((parts_term hok).bind (by omega)).1
      match hnm : t.names, hnl with
      | [], _ =>
        by_cases ha9 : (kd t 0).kind = 9
        · cases hfr : frontB (kd t 0) with
          | true => exact text_4_front f n L IH t v w hL hok hb h hn hk hnm hfr
          | false => exact text_4_ann f n L IH t v w hL hok hb h hn hk hnm hfr ha9
        · exact text_4_else f n L IH t v w hL hok hb h hn hk hnm ha9
      | [x], _ => exact text_4_name f n L IH t v w hL hok hb h hn hk x hnm
      | _ :: _ :: _, hnl => exact absurd hnl (by simp)
    · have hnl := ((parts_term hok).bind (by omega)).1
      match hnm : t.names, hnl with
      | [], _ =>
        by_cases ha9 : (kd t 0).kind = 9
        · cases hfr : frontB (kd t 0) with
          | true => exact text_5_front f n L IH t v w hL hok hb h hn hk hnm hfr
          | false => exact text_5_ann f n L IH t v w hL hok hb h hn hk hnm hfr ha9
        · exact text_5_else f n L IH t v w hL hok hb h hn hk hnm ha9
      | [x], _ => exact text_5_name f n L IH t v w hL hok hb h hn hk x hnm
      | _ :: _ :: _, hnl => exact absurd hnl (by simp)
    · exact text_6 f n L IH t v w hL hok hb h hn hk
    · exact text_7 f n L IH t v w hL hok hb h hn hk
    · exact text_8 f n L IH t v w hL hok hb h hn hk
    · exact text_9 f n L IH t v w hL hok hb h hn hk
    · exact text_10 f n L IH t v w hL hok hb h hn hk (fun m hm => ih m (by omega))
end Go.Proofs.Ytpfnjeefhddikaa
