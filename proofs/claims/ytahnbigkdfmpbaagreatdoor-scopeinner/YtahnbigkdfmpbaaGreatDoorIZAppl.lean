/- What is applied, to what: the walk. -/
import Derived.Test.YtahnbigkdfmpbaaGreatDoorIZI
set_option linter.unusedVariables false
set_option linter.unusedSimpArgs false
namespace Go.Proofs.YtahnbigkdfmpbaaGreatDoor
open Go.RowKit Go.Maps Go.WideMaps
def CallP (R : Rsv) (term : Sg → Sx → Rz Tm) (σ : Sg) (n m : Nat) (args : List Sx) : Prop := ∀ (k : Nat) (tk : List Nat) (lo hi : Nat) (a ta : Option Addr) (cap : Nat) (No : Nat → Prop) (w : World), R.In w σ n → R.Sh w No → TkIn R.bw R.bv w tk (.slice ta tk.length tk.length) → AR2 m lo hi w (args.take tk.length) a → tk.length ≤ args.length → tk.length ≤ cap → (∀ g, lo ≤ g → g < hi → No g) → hi ≤ w.heap.size → callR term σ k tk (args.take tk.length) [] ≠ none →
 Calls Tryz.prog 75 #[R.ptr, .agg #[.int .i64 (k : Nat), .slice ta tk.length tk.length], .slice a tk.length cap] w (OutT R σ n No (cA (args.take tk.length)) (callR term σ k tk (args.take tk.length) []) w)
set_option maxRecDepth 100000 in
set_option maxHeartbeats 4000000 in
theorem applied_any (R : Rsv) (σ : Sg) (n m f c : Nat) (No : Nat → Prop) (t : Sx) (v : Value) (w : World) (term : Sg → Sx → Rz Tm) (h : R.In w σ n) (hs : R.Sh w No) (ht : SxIn m w t v) (hm : m ≤ R.bv) (hok : okF f 0 t = true) (hf : f ≤ 1000000) (hl : (spineR f t).1.name.length ≤ 1000000) (hh1 : isWd (spineR f t).1.name = false → (spineR f t).1.kind = 1) (hAr : ∀ x ∈ (spineR f t).2, TermP R term (2 * blk x) x) (hcA : cA (spineR f t).2.reverse ≤ c) (hC : CallP R term σ n m (spineR f t).2.reverse) (hn : n + c ≤ 40000000) (hv : σ.v.length + c ≤ 40000000) (hdd : σ.d.length + c ≤ 40000000) (har6 : (spineR f t).2.length ≤ 1000000) (hwn : isWd (spineR f t).1.name = false) (hz0 : (spineR f t).2 = []) (hr : appliedR f term σ t ≠ none) :
  Calls Tryz.prog 44 #[R.ptr, v] w (OutT R σ n No c (appliedR f term σ t) w) := by
 obtain ⟨ka, kc, na, nc, rfl, hN, hK⟩ := ht.form
 have hmw : m ≤ w.heap.size := by have := h.lt; have := h.rlt; omega
 obtain ⟨w1, hw1⟩ : ∃ w1, w1 = w.alloc (.cells #[.int .i64 t.kind, .string (bs t.name), .slice ka t.kids.length kc, .slice na t.names.length nc, .int .i64 t.at_] 26) := ⟨_, rfl⟩
 have q : Below w.heap.size w w1 := by rw [hw1]; exact below_alloc _ _
 have bx : Bx w1 w.heap.size (.int .i64 t.kind) (.string (bs t.name)) (.slice ka t.kids.length kc) (.slice na t.names.length nc) (.int .i64 t.at_) := by rw [hw1]; exact bx_new _ _ _ _ _ _
 have s1 : w1.heap.size = w.heap.size + 1 := by rw [hw1]; simp
 obtain ⟨w2, hw2⟩ : ∃ w2, w2 = w1.alloc (.cells #[.int .i64 0, .int .i64 0, .string ⟨#[]⟩, .slice none 0 0, .slice none 0 0, .slice none 0 0] 37) := ⟨_, rfl⟩
 have q2 : Below w1.heap.size w1 w2 := by rw [hw2]; exact below_alloc _ _
 have tx : Tx w2 (w.heap.size + 1) (.int .i64 0) (.int .i64 0) (.string ⟨#[]⟩) (.slice none 0 0) (.slice none 0 0) (.slice none 0 0) := by rw [hw2, ← s1]; exact tx_new _ _ _ _ _ _ _
 have s2 : w2.heap.size = w.heap.size + 2 := by rw [hw2]; simp [s1]
 have qq : Below w.heap.size w w2 := q.trans (q2.mono q.size)
 have bx2 := bx.blw q2
 rw [hw1] at hw2
 have cS := spine_any f m t _ w2 (ht.keep (qq.mono hmw)) (by omega) hok hf
 obtain ⟨hd, hhd⟩ : ∃ hd, hd = (spineR f t).1 := ⟨_, rfl⟩
 obtain ⟨ar, har⟩ : ∃ ar, ar = (spineR f t).2.reverse := ⟨_, rfl⟩
 obtain ⟨r, hrr⟩ : ∃ r, r = appliedR f term σ t := ⟨_, rfl⟩
 have hral : ar.length = (spineR f t).2.length := by rw [har, List.length_reverse]
 rw [← hrr] at hr ⊢
 unfold appliedR at hrr
 rw [← har, ← hral, ← hhd] at hrr
 rw [← hhd] at hl hh1 hwn
 have HZ0 : Hid (ar.length = 0) := by show _ = _; rw [hral, hz0]; rfl
 have HWN : Hid (isWd hd.name = false) := hwn
 clear hwn hz0
 rw [← har] at hcA hC
 rw [← hral] at har6
 have hAr2 : ∀ x ∈ ar, TermP R term (2 * blk x) x := fun x hx => hAr x (by rw [har] at hx; exact List.mem_reverse.1 hx)
 rw [← hhd, ← har] at cS
 obtain ⟨x0, x1, x2, x3, x4⟩ := bx2.cells
 have Hs : Hid (w2 = _ ∧ Bx w2 w.heap.size _ _ _ _ _ ∧ Tx w2 (w.heap.size + 1) _ _ _ _ _ _ ∧ w2.heap.size = w.heap.size + 2 ∧ Below w.heap.size w w2) := ⟨hw2, bx2, tx, s2, qq⟩
 rw [hw2] at cS x0 x1 x2 x3 x4
 have HRR : Hid (r = _) := hrr
 have HHD : Hid (hd = _ ∧ ar = _) := ⟨hhd, har⟩
 unfold Rsv.ptr
 clear q bx s1 hw1 q2 tx s2 qq bx2 hw2 hrr hhd har hral
 go_enter Tryz.func44, Tryz.ntmps44
 go_wp2_with fail
 refine cS.mono ?_
 rintro e w3 ⟨vf, va, rfl, hS3, hA3, hb3⟩
 obtain ⟨hw2, bx2, tx, s2, qq⟩ := Hs.out
 rw [← hw2] at hb3 hA3
 have hlo2 : w.heap.size ≤ w2.heap.size := qq.size
 have q3 : Below w.heap.size w w3 := qq.trans (hb3.mono qq.size)
 have bx3 := bx2.blw hb3
 have tx3 := tx.blw hb3
 have sz3 : w.heap.size + 2 ≤ w3.heap.size := by have := hb3.size; omega
 have ht3 := ht.keep (q3.mono hmw)
 clear x0 x1 x2 x3 x4 hw2 bx2 tx s2 qq hb3 cS Hs
 obtain ⟨fka, fkc, fna, fnc, rfl, _, _⟩ := hS3.form
 obtain ⟨w4, hw4⟩ : ∃ w4, w4 = w3.alloc (.cells #[.int .i64 hd.kind, .string (bs hd.name), .slice fka hd.kids.length fkc, .slice fna hd.names.length fnc, .int .i64 hd.at_] 26) := ⟨_, rfl⟩
 obtain ⟨s, hsz⟩ : ∃ s, s = w.heap.size := ⟨_, rfl⟩
 obtain ⟨z, hz⟩ : ∃ z, z = w3.heap.size := ⟨_, rfl⟩
 have q4 : Below w3.heap.size w3 w4 := by rw [hw4]; exact below_alloc _ _
 have fx4 : Bx w4 w3.heap.size (.int .i64 hd.kind) (.string (bs hd.name)) (.slice fka hd.kids.length fkc) (.slice fna hd.names.length fnc) (.int .i64 hd.at_) := by rw [hw4]; exact bx_new _ _ _ _ _ _
 have z4 : w4.heap.size = w3.heap.size + 1 := by rw [hw4]; simp
 have Q4 : Below w.heap.size w w4 := q3.trans (q4.mono q3.size)
 have bx4 := bx3.blw q4
 have tx4 := tx3.blw q4
 obtain ⟨aa, ac, rfl, hac⟩ : ∃ a cap, va = .slice a ar.length cap ∧ ar.length ≤ cap := let ⟨a, cap, e, e2, _⟩ := hA3; ⟨a, cap, e, e2⟩
 have A4 : AR2 m w.heap.size w3.heap.size w4 ar aa := (hA3.two (lo2 := w.heap.size) hlo2).blw (Nat.le_refl _) (by omega) q4
 have ht4 := ht3.keep (q4.mono (by omega))
 have S4 := hS3.keep (q4.mono (by omega))
 have h4 := h.keep Q4
 clear hA3 hS3 ht3 tx3 bx3 q3 q4
 rw [← hz] at fx4 z4
 rw [← hsz] at bx4 tx4 sz3 Q4
 rw [← hsz, ← hz] at A4
 have H4 : Hid (w4 = _ ∧ Bx w4 s _ _ _ _ _ ∧ Tx w4 (s + 1) _ _ _ _ _ _ ∧ AR2 m s z w4 ar aa ∧ SxIn m w4 t _ ∧ SxIn m w4 hd _ ∧ R.In w4 σ n ∧ Bx w4 z _ _ _ _ _ ∧ w4.heap.size = z + 1 ∧ Below s w w4 ∧ s + 2 ≤ w3.heap.size ∧ s = w.heap.size ∧ z = w3.heap.size) := ⟨hw4, bx4, tx4, A4, ht4, S4, h4, fx4, z4, Q4, sz3, hsz, hz⟩
 clear bx4 tx4 A4 ht4 S4 h4 fx4 z4 Q4 sz3 hw4 hsz hz
 go_wp2_with fail
 obtain ⟨hw4, bx4, tx4, A4, ht4, S4, h4, fx4, z4, Q4, sz3, hsz, hz⟩ := H4.out
 rw [← hw4]
 simp only [← hsz, ← hz]
 obtain ⟨vt, hvt, hlk⟩ := h4.wd.lookB hd.name hl true
 obtain ⟨ta, rfl⟩ : ∃ ta, vt = .slice ta (wdOf hd.name).2.length (wdOf hd.name).2.length := let ⟨a, e, _⟩ := hvt; ⟨a, e⟩
 simp only [if_true] at hlk
 have hbw : R.bw < w4.heap.size := by have := h4.wd.1; have := h4.wd.2.1; omega
 have hrl := h4.rlt
 obtain ⟨c0, _⟩ := h4.c
 obtain ⟨_, f1, _⟩ := fx4.cells
 have hzl : z < w4.heap.size := fx4.lt
 generalize hkk : (wdOf hd.name).1 = kk at *
 generalize htk : (wdOf hd.name).2 = tk at *
 generalize hiw : isWd hd.name = iw at *
 have HA : Hid (∀ w9, Below w4.heap.size w4 w9 → w9.cell? ⟨R.r, 0, none⟩ = some (.map (some R.bw)) ∧ w9.cell? ⟨z, 1, none⟩ = some (.string (bs hd.name)) ∧ Sem.run Tryz.prog (Instr.lookup 71 (.map (some R.bw)) (.string (bs hd.name)) true) w9 = .ok (.tuple #[.agg #[.int .i64 (kk : Nat), .slice ta tk.length tk.length], .bool iw]) w9) := fun w9 hb => ⟨(hb.cell (p := ⟨R.r, 0, none⟩) hrl).trans c0, (hb.cell (p := ⟨z, 1, none⟩) hzl).trans f1, hlk w9 (hb.block _ hbw)⟩
 have HT : Hid (TkIn R.bw R.bv w4 tk (.slice ta tk.length tk.length)) := hvt
 have HW : Hid ((wdOf hd.name).1 = kk ∧ (wdOf hd.name).2 = tk ∧ isWd hd.name = iw) := ⟨hkk, htk, hiw⟩
 clear hw4 bx4 tx4 A4 ht4 S4 h4 fx4 z4 Q4 sz3 hsz hz hvt hlk c0 f1 hkk htk hiw hbw hrl hzl
 refine wp_region_held_drew (S := fun w9 => Below w4.heap.size w4 w9) (by kernel_rfl) (Below.drew (Below.refl _ _)) (fun hS => ?_)
 refine wpAnyH_take (i := 0) (v := .pointer (some ⟨R.r, 0, none⟩)) rfl (by kernel_rfl) (by kernel_rfl) (by kernel_rfl) (fun _ _ _ h => h) (Or.inl ⟨by rfl, fun w hS => by go_simp⟩) hS ?_
 simp only [Act.put, List.getElem_toArray, List.getElem_cons_zero, List.getElem_cons_succ, List.setIfInBounds_toArray, List.set_cons_zero, List.set_cons_succ]
 refine wpAnyH_take (i := 1) (v := .pointer (some ⟨R.r, 0, none⟩)) rfl (by kernel_rfl) (by kernel_rfl) (by kernel_rfl) (fun _ _ _ h => h) (Or.inl ⟨by rfl, fun w hS => by go_simp⟩) hS ?_
 simp only [Act.put, List.getElem_toArray, List.getElem_cons_zero, List.getElem_cons_succ, List.setIfInBounds_toArray, List.set_cons_zero, List.set_cons_succ]
 refine wpAnyH_take (i := 2) (v := .pointer (some ⟨R.r, 0, none⟩)) rfl (by kernel_rfl) (by kernel_rfl) (by kernel_rfl) (fun _ _ _ h => h) (Or.inl ⟨by rfl, fun w hS => by go_simp⟩) hS ?_
 simp only [Act.put, List.getElem_toArray, List.getElem_cons_zero, List.getElem_cons_succ, List.setIfInBounds_toArray, List.set_cons_zero, List.set_cons_succ]
 refine wpAnyH_take (i := 3) (v := .map (some R.bw)) rfl (by kernel_rfl) (by kernel_rfl) (by kernel_rfl) (fun _ _ _ h => h) (Or.inl ⟨by rfl, fun w hS => by have e := (HA.out w hS).1; go_simp⟩) hS ?_
 simp only [Act.put, List.getElem_toArray, List.getElem_cons_zero, List.getElem_cons_succ, List.setIfInBounds_toArray, List.set_cons_zero, List.set_cons_succ]
 refine wpAnyH_take (i := 4) (v := .pointer (some ⟨z, 1, none⟩)) rfl (by kernel_rfl) (by kernel_rfl) (by kernel_rfl) (fun _ _ _ h => h) (Or.inl ⟨by rfl, fun w hS => by go_simp⟩) hS ?_
 simp only [Act.put, List.getElem_toArray, List.getElem_cons_zero, List.getElem_cons_succ, List.setIfInBounds_toArray, List.set_cons_zero, List.set_cons_succ]
 refine wpAnyH_take (i := 5) (v := .string (bs hd.name)) rfl (by kernel_rfl) (by kernel_rfl) (by kernel_rfl) (fun _ _ _ h => h) (Or.inl ⟨by rfl, fun w hS => by have e := (HA.out w hS).2.1; go_simp⟩) hS ?_
 simp only [Act.put, List.getElem_toArray, List.getElem_cons_zero, List.getElem_cons_succ, List.setIfInBounds_toArray, List.set_cons_zero, List.set_cons_succ]
 refine wpAnyH_take (i := 6) (v := .tuple #[.agg #[.int .i64 (kk : Nat), .slice ta tk.length tk.length], .bool iw]) rfl (by kernel_rfl) (by kernel_rfl) (by kernel_rfl) (fun _ _ _ h => h) (Or.inl ⟨by rfl, fun w hS => by have e := (HA.out w hS).2.2; go_simp⟩) hS ?_
 simp only [Act.put, List.getElem_toArray, List.getElem_cons_zero, List.getElem_cons_succ, List.setIfInBounds_toArray, List.set_cons_zero, List.set_cons_succ]
 refine wpAnyH_take (i := 7) (v := .tuple #[.agg #[.int .i64 (kk : Nat), .slice ta tk.length tk.length], .bool iw]) rfl (by kernel_rfl) (by kernel_rfl) (by kernel_rfl) (fun _ _ _ h => h) (Or.inl ⟨by rfl, fun w hS => by go_simp⟩) hS ?_
 simp only [Act.put, List.getElem_toArray, List.getElem_cons_zero, List.getElem_cons_succ, List.setIfInBounds_toArray, List.set_cons_zero, List.set_cons_succ]
 refine wpAnyH_take (i := 8) (v := .agg #[.int .i64 (kk : Nat), .slice ta tk.length tk.length]) rfl (by kernel_rfl) (by kernel_rfl) (by kernel_rfl) (fun _ _ _ h => h) (Or.inl ⟨by rfl, fun w hS => by go_simp⟩) hS ?_
 simp only [Act.put, List.getElem_toArray, List.getElem_cons_zero, List.getElem_cons_succ, List.setIfInBounds_toArray, List.set_cons_zero, List.set_cons_succ]
 refine wpAnyH_take (i := 9) (v := .bool iw) rfl (by kernel_rfl) (by kernel_rfl) (by kernel_rfl) (fun _ _ _ h => h) (Or.inl ⟨by rfl, fun w hS => by go_simp⟩) hS ?_
 simp only [Act.put, List.getElem_toArray, List.getElem_cons_zero, List.getElem_cons_succ, List.setIfInBounds_toArray, List.set_cons_zero, List.set_cons_succ]
 refine wpAnyH_ready (rs := [10]) (by kernel_rfl) (by simp) ?_
 refine ready_cons rfl (fun KK hKK => ?_) AllReadyH.nil
 refine ⟨?_⟩
 go_simp
 have hS2 : Below w4.heap.size w4 (w4.alloc (.cells #[.int .i64 0, .slice none 0 0] 97)).drew := Below.drew (below_alloc w4 _)
 have hW0 : (w4.alloc (.cells #[.int .i64 0, .slice none 0 0] 97)).drew.heap[w4.heap.size]? = some (.cells #[.int .i64 0, .slice none 0 0] 97 (0, 0)) := heap_alloc_new w4 _
 obtain ⟨p, hp⟩ : ∃ p, p = w4.heap.size := ⟨_, rfl⟩
 obtain ⟨w5, hw5⟩ : ∃ w5, w5 = (w4.alloc (.cells #[.int .i64 0, .slice none 0 0] 97)).drew := ⟨_, rfl⟩
 have hsz5 : w5.heap.size = w4.heap.size + 1 := by rw [hw5]; simp [World.drew]
 rw [← hw5] at hS2 hW0 ⊢
 simp only [← hp]
 rw [← hp] at hW0
 have Hp : Hid (p = w4.heap.size ∧ w5.heap.size = w4.heap.size + 1 ∧ Below w4.heap.size w4 w5) := ⟨hp, hsz5, hS2⟩
 clear hS hw5 hp hsz5
 refine hKK.out _ _ hS2 (fun hS => ?_)
 clear hKK KK
 try simp only [Act.put, List.getElem_toArray, List.getElem_cons_zero, List.getElem_cons_succ, List.setIfInBounds_toArray, List.set_cons_zero, List.set_cons_succ]
 refine wpAnyH_ready (rs := [11]) (by kernel_rfl) (by simp) ?_
 refine ready_cons rfl (fun KK hKK => ?_) AllReadyH.nil
 refine ⟨?_⟩
 have y0 : w5.cell? ⟨p, 0, none⟩ = some (.int .i64 0) := by simp [World.cell?, hW0]
 have y1 : w5.cell? ⟨p, 1, none⟩ = some (.slice none 0 0) := by simp [World.cell?, hW0]
 have g0 : w5.frozen? ⟨p, 0, none⟩ = false := by simp [World.frozen?, hW0]
 have g1 : w5.frozen? ⟨p, 1, none⟩ = false := by simp [World.frozen?, hW0]
 clear hS2
 go_simp
 have hWx : Wx ((w5.setCell ⟨p, 0, none⟩ (.int .i64 (kk : Nat))).setCell ⟨p, 1, none⟩ (.slice ta tk.length tk.length)) p kk (.slice ta tk.length tk.length) := Wx.put hW0 kk _
 have hB6 : Below w4.heap.size w4 ((w5.setCell ⟨p, 0, none⟩ (.int .i64 (kk : Nat))).setCell ⟨p, 1, none⟩ (.slice ta tk.length tk.length)) := by
  obtain ⟨hp, _, hb⟩ := Hp.out
  have k5 : Kn (fun g => g < w4.heap.size) w4 w5 := Kn.of_below hb
  exact ((k5.setCell (p := ⟨p, 0, none⟩) (.inr (by show _ ≤ p; omega)) _).setCell (p := ⟨p, 1, none⟩) (.inr (by show _ ≤ p; omega)) _).below (fun g h => h) (Nat.le_refl _)
 obtain ⟨w6, hw6⟩ : ∃ w6, w6 = ((w5.setCell ⟨p, 0, none⟩ (.int .i64 (kk : Nat))).setCell ⟨p, 1, none⟩ (.slice ta tk.length tk.length)) := ⟨_, rfl⟩
 rw [← hw6] at hWx hB6 ⊢
 clear hS hw6 y0 y1 g0 g1 hW0
 refine hKK.out _ _ hB6 (fun hS => ?_)
 clear hKK KK
 try simp only [Act.put, List.getElem_toArray, List.getElem_cons_zero, List.getElem_cons_succ, List.setIfInBounds_toArray, List.set_cons_zero, List.set_cons_succ]
 refine wpAnyH_ready (rs := [12]) (by kernel_rfl) (by simp) ?_
 refine ready_cons rfl (fun KK hKK => ?_) AllReadyH.nil
 refine ⟨?_⟩
 go_simp
 refine hKK.out _ _ hS (fun hS => ?_)
 clear hKK KK
 try simp only [Act.put, List.getElem_toArray, List.getElem_cons_zero, List.getElem_cons_succ, List.setIfInBounds_toArray, List.set_cons_zero, List.set_cons_succ]
 refine wpAnyH_done (by kernel_rfl) ?_ _
 have F6 : ApF m s z p R.bw R.bv kk t hd ar tk ka na fka fna aa ta kc nc fkc fnc w6 := by
  obtain ⟨hw4, bx4, tx4, A4, ht4, S4, h4, fx4, z4, Q4, sz3, hsz, hz⟩ := H4.out
  obtain ⟨hp, _, _⟩ := Hp.out
  have l1 : R.bv ≤ w.heap.size := by have := h.lt; have := h.rlt; omega
  exact ⟨bx4.blw hB6, tx4.blw hB6, fx4.blw hB6, hWx, A4.blw (by omega) (by omega) hB6, ht4.keep (hB6.mono (by omega)), S4.keep (hB6.mono (by omega)), HT.out.blw (hB6.mono (by omega)), hm, by omega, by omega, by omega, hWx.lt⟩
 have Q6 : Below w.heap.size w w6 := by
  obtain ⟨hw4, bx4, tx4, A4, ht4, S4, h4, fx4, z4, Q4, sz3, hsz, hz⟩ := H4.out
  rw [← hsz]
  exact Q4.trans (hB6.mono (by have := Q4.size; omega))
 have hszs : s = w.heap.size := H4.out.2.2.2.2.2.2.2.2.2.2.2.1
 clear H4 Hp HT HA hB6 hWx hS
 obtain ⟨hwk, hwt, hwi⟩ := HW.out
 obtain ⟨b0, b1, b2, b3, b4⟩ := F6.bx.cells
 obtain ⟨f0, f1, f2, f3, f4⟩ := F6.fx.cells
 obtain ⟨p0, p1⟩ := F6.wx.cells
 have Hsz : Hid (s = w.heap.size) := hszs
 clear hszs HW
 cases iw with
 | false =>
  have hwn : wordT hd.name = none := by unfold isWd at hwi; cases hq : wordT hd.name with | none => rfl | some _ => rw [hq] at hwi; cases hwi
  have hwz : wdOf hd.name = (0, []) := by unfold wdOf; rw [hwn]; rfl
  rw [hwz] at hwk hwt
  subst hwk hwt
  have ec0 : ((0 : Nat) : Int) = 0 := rfl
  simp only [List.length_nil, ec0]
  clear ec0
  have hk1 := hh1 rfl
  have HR : Hid (r = (namedF σ hd).bnd fun out => restR term σ ar out) := by
   have := HRR.out
   unfold headR at this
   simp only [hwi, hwz, hk1, Bool.false_and, if_false, if_true, List.drop_zero] at this
   exact this
  rw [hk1] at f0
  obtain ⟨w7, hw7⟩ : ∃ w7, w7 = w6.alloc (.cells #[.int .i64 0, .int .i64 0, .string ⟨#[]⟩, .slice none 0 0, .slice none 0 0, .slice none 0 0] 37) := ⟨_, rfl⟩
  have q7 : Below w6.heap.size w6 w7 := by rw [hw7]; exact below_alloc _ _
  have t7 : Tx w7 w6.heap.size (.int .i64 0) (.int .i64 0) (.string ⟨#[]⟩) (.slice none 0 0) (.slice none 0 0) (.slice none 0 0) := by rw [hw7]; exact tx_new _ _ _ _ _ _ _
  have s7 : w7.heap.size = w6.heap.size + 1 := by rw [hw7]; simp
  have F7 := F6.blw q7
  have Q7 : Below w.heap.size w w7 := Q6.trans (q7.mono Q6.size)
  have h7 := h.keep Q7
  have cN := named_any R σ n m hd _ w7 h7 F7.hh (by have := F7.lt; omega) hl
  rw [hk1] at cN
  unfold Rsv.ptr at cN
  have H7 : Hid (w7 = _ ∧ Tx w7 w6.heap.size _ _ _ _ _ _ ∧ w7.heap.size = w6.heap.size + 1 ∧ ApF m s z p R.bw R.bv 0 t hd ar [] ka na fka fna aa ta kc nc fkc fnc w7 ∧ Below w.heap.size w w7) := ⟨hw7, t7, s7, F7, Q7⟩
  obtain ⟨e0, e1, e2, e3, e4⟩ := F7.fx.cells
  rw [hk1] at e0
  rw [hw7] at cN e0 e1 e2 e3 e4
  have hp6 : p < w6.heap.size := F6.lt.2.2.2.2
  clear hh1 b0 b1 b2 b3 b4 f0 f1 f2 f3 f4 p0 p1 hw7 q7 t7 s7 F7 Q7 h7 hwi hwn hwz hk1 F6 Q6 HRR
  go_wp2_with fail
  refine cN.mono ?_
  rintro e w8 ⟨hE, hb8⟩
  obtain ⟨hw7, t7, s7, F7, Q7⟩ := H7.out
  have h7 := h.keep Q7
  rw [← hw7] at hb8
  have hs7 : R.Sh w7 (fun g => No g ∨ (s ≤ g ∧ g < w7.heap.size)) := hs.more h Q7 fun g hg => ⟨by have := Hsz.out; omega, hg.2⟩
  have o8 : OutT R σ n (fun g => No g ∨ (s ≤ g ∧ g < w7.heap.size)) 0 (namedF σ hd) w7 e w8 := OutT.leaf h7 hs7 hb8 hE
  clear hE hb8 hw7 H7 cN e0 e1 e2 e3 e4
  obtain ⟨kn8, hE⟩ := o8
  obtain ⟨r8, h8r⟩ : ∃ r8, r8 = namedF σ hd := ⟨_, rfl⟩
  rw [← h8r] at HR hE
  clear h8r
  cases r8 with
  | none => exact absurd HR.out hr
  | some y =>
   cases y with
   | inl p =>
    have hRR : Hid (r = some (.inl p)) := HR.out
    obtain rfl : e = _ := hE
    refine ⟨rfl, (Kn.of_below Q7).trans (kn8.sub fun g hg => .inl hg), ?_⟩
    rw [hRR.out]
    rfl
   | inr a =>
    have HRa : Hid (r = restR term σ _ a) := HR.out
    obtain ⟨vT, rfl, ok, n8, hTm, hok8, h8, hn8, hs8⟩ := hE
    obtain ⟨ra, rc, qa, qc, sa, sc, rfl, _⟩ := hTm.form
    obtain ⟨x, hx⟩ : ∃ x, x = w6.heap.size := ⟨_, rfl⟩
    have hbv : R.bv ≤ x := by have := F7.lt; omega
    have hpx : p < x ∧ s ≤ x := by have := F7.lt; omega
    rw [← hx] at t7 s7
    simp only [← hx]
    have tx8 := t7.kn kn8 (.inr (by omega))
    have t9 := tx8.put (.int .i64 (a.kind : Nat)) (.int .i64 (a.n : Nat)) (.string (bs a.name)) (.slice ra a.r.length rc) (.slice qa a.kids.length qc) (.slice sa a.sys.length sc)
    have k9 : Kn (fun g => g ≠ x) w8 (pu6 w8 x (.int .i64 (a.kind : Nat)) (.int .i64 (a.n : Nat)) (.string (bs a.name)) (.slice ra a.r.length rc) (.slice qa a.kids.length qc) (.slice sa a.sys.length sc)) := pu6_kn
    obtain ⟨h9, hs9⟩ := h8.off hs8 (x := x) (.inl (.inr (by omega))) hbv k9
    have hT9 := hTm.kn k9 fun g hg => by have : w7.heap.size ≤ g := (hok8 g hg).1; omega
    have I9 : ApI R σ n8 w7.heap.size x (fun g => No g ∨ (s ≤ g ∧ g < w7.heap.size)) w7 a ra qa sa rc qc sc ok (pu6 w8 x (.int .i64 (a.kind : Nat)) (.int .i64 (a.n : Nat)) (.string (bs a.name)) (.slice ra a.r.length rc) (.slice qa a.kids.length qc) (.slice sa a.sys.length sc)) := ⟨t9, hT9, fun g hg => ⟨(hok8 g hg).1, by have := (hok8 g hg).2; have := k9.size; omega⟩, h9, hs9, (kn8.sub fun g hg => hg.1).trans (k9.sub fun g hg => hg.2)⟩
    obtain ⟨c0, c1, c2, c3, c4, c5⟩ := tx8.cells
    have g0 := tx8.cold 0
    have g1 := tx8.cold 1
    have g2 := tx8.cold 2
    have g3 := tx8.cold 3
    have g4 := tx8.cold 4
    have g5 := tx8.cold 5
    have H9 : Hid (ApI R σ n8 w7.heap.size x (fun g => No g ∨ (s ≤ g ∧ g < w7.heap.size)) w7 a ra qa sa rc qc sc ok _) := I9
    clear I9 hT9 t9 k9 h9 hs9 tx8 hTm h8 hs8 kn8 hok8 t7 HR hx
    go_upto_region 13 with fail
    unfold pu6 at H9
    obtain ⟨w9, hw9⟩ : ∃ w9, w9 = (((((w8.setCell ⟨x, 0, none⟩ (.int .i64 (a.kind : Nat))).setCell ⟨x, 1, none⟩ (.int .i64 (a.n : Nat))).setCell ⟨x, 2, none⟩ (.string (bs a.name))).setCell ⟨x, 3, none⟩ (.slice ra a.r.length rc)).setCell ⟨x, 4, none⟩ (.slice qa a.kids.length qc)).setCell ⟨x, 5, none⟩ (.slice sa a.sys.length sc) := ⟨_, rfl⟩
    rw [← hw9] at H9 ⊢
    clear hw9 c0 c1 c2 c3 c4 c5 g0 g1 g2 g3 g4 g5
    have F9 := F7.kn H9.out.kn (fun g hg => hg.elim (fun hg => ⟨.inl (hs.old g hg), by omega⟩) (fun hg => ⟨.inr (by have := F7.lt; omega), by omega⟩))
    obtain ⟨p0, p1⟩ := F9.wx.cells
    have HF : Hid (ApF m s z p R.bw R.bv _ t hd ar _ ka na fka fna aa ta kc nc fkc fnc w7 ∧ Below w.heap.size w w7 ∧ w7.heap.size = x + 1 ∧ R.In w7 σ n) := ⟨F7, Q7, s7, h7⟩
    have hn8 : n8 + cA (ar) ≤ n + c := by have := hcA; omega
    clear F9 F7 Q7 s7 h7 hs7 p0
    have HLh : Hid (ar.length = 0) := HZ0
    go_wp2_with fail
    go_loopw [71] (fun i wr => ∃ (k : Nat) (a : Tm) (ra qa sa : Option Addr) (rc qc sc : Nat) (ok : Nat → Prop) (nr : Nat), k ≤ ar.length ∧ i = .int .i64 k ∧ ApI R σ nr w7.heap.size x (fun g => No g ∨ (s ≤ g ∧ g < w7.heap.size)) w7 a ra qa sa rc qc sc ok wr ∧ nr + cA ((ar).drop k) ≤ n + c ∧ Hid (r = restR term σ ((ar).drop k) a)) (fun i _ => ar.length - (intOf i).toNat)
    case atStart => exact ⟨0, a, ra, qa, sa, rc, qc, sc, ok, n8, Nat.zero_le _, rfl, H9.out, hn8, HRa⟩
    case round =>
     clear HRa H9 p1 hn8
     obtain ⟨k, a, ra, qa, sa, rc, qc, sc, ok, nr, hk, rfl, I, hnr, HRa⟩ := hrel
     obtain ⟨F7, Q7, s7, h7⟩ := HF.out
     by_cases hlt : k < ar.length
     ·exact absurd hlt (by have := HLh.out; omega)
     ·have HRf : Hid (r = some (.inr a)) := by
       have := HRa.out
       rw [List.drop_of_length_le (by first | omega | (simp only [List.length_drop]; have := HLh.out; omega))] at this
       exact this
      have FR := F7.kn I.kn (fun g hg => hg.elim (fun hg => ⟨.inl (hs.old g hg), by omega⟩) (fun hg => ⟨.inr (by have := F7.lt; omega), by omega⟩))
      have hl7 := F7.lt
      have tx8 := FR.tx
      have t8 := tx8.put (.int .i64 (a.kind : Nat)) (.int .i64 (a.n : Nat)) (.string (bs a.name)) (.slice ra a.r.length rc) (.slice qa a.kids.length qc) (.slice sa a.sys.length sc)
      have k8 : Kn (fun g => g ≠ s + 1) wr (pu6 wr (s + 1) (.int .i64 (a.kind : Nat)) (.int .i64 (a.n : Nat)) (.string (bs a.name)) (.slice ra a.r.length rc) (.slice qa a.kids.length qc) (.slice sa a.sys.length sc)) := pu6_kn
      obtain ⟨h8, hs8⟩ := I.rin.off I.sh (x := s + 1) (.inl (.inr (by omega))) (by omega) k8
      have hT8 := I.tm.kn k8 fun g hg => by have := (I.okb g hg).1; omega
      have kn8 : Kn No w (pu6 wr (s + 1) (.int .i64 (a.kind : Nat)) (.int .i64 (a.n : Nat)) (.string (bs a.name)) (.slice ra a.r.length rc) (.slice qa a.kids.length qc) (.slice sa a.sys.length sc)) := ((Kn.of_below Q7).trans (I.kn.sub fun g hg => ⟨.inl hg, fun e => by have := hs.lt g hg; have := Hsz.out; omega⟩)).trans ⟨k8.os, k8.tape, k8.output, k8.size, fun g hg hgl => k8.block g (fun e => by have := hs.lt g hg; have := Hsz.out; omega) hgl⟩
      have hok8 : ∀ g, ok g → w.heap.size ≤ g ∧ g < ((pu6 wr (s + 1) (.int .i64 (a.kind : Nat)) (.int .i64 (a.n : Nat)) (.string (bs a.name)) (.slice ra a.r.length rc) (.slice qa a.kids.length qc) (.slice sa a.sys.length sc))).heap.size := fun g hg => by have := I.okb g hg; have := k8.size; have := Hsz.out; omega
      have hnr2 : nr ≤ n + c := by omega
      obtain ⟨i0, i1, i2, i3, i4, i5⟩ := I.tx.cells
      obtain ⟨c0, c1, c2, c3, c4, c5⟩ := tx8.cells
      have g0 := tx8.cold 0
      have g1 := tx8.cold 1
      have g2 := tx8.cold 2
      have g3 := tx8.cold 3
      have g4 := tx8.cold 4
      have g5 := tx8.cold 5
      have H8 : Hid (Tx (pu6 wr (s + 1) (.int .i64 (a.kind : Nat)) (.int .i64 (a.n : Nat)) (.string (bs a.name)) (.slice ra a.r.length rc) (.slice qa a.kids.length qc) (.slice sa a.sys.length sc)) (s + 1) _ _ _ _ _ _ ∧ R.In (pu6 wr (s + 1) (.int .i64 (a.kind : Nat)) (.int .i64 (a.n : Nat)) (.string (bs a.name)) (.slice ra a.r.length rc) (.slice qa a.kids.length qc) (.slice sa a.sys.length sc)) σ nr ∧ R.Sh (pu6 wr (s + 1) (.int .i64 (a.kind : Nat)) (.int .i64 (a.n : Nat)) (.string (bs a.name)) (.slice ra a.r.length rc) (.slice qa a.kids.length qc) (.slice sa a.sys.length sc)) (fun g => (No g ∨ (s ≤ g ∧ g < w7.heap.size)) ∨ ok g) ∧ TmIn ok (pu6 wr (s + 1) (.int .i64 (a.kind : Nat)) (.int .i64 (a.n : Nat)) (.string (bs a.name)) (.slice ra a.r.length rc) (.slice qa a.kids.length qc) (.slice sa a.sys.length sc)) a _ ∧ Kn No w (pu6 wr (s + 1) (.int .i64 (a.kind : Nat)) (.int .i64 (a.n : Nat)) (.string (bs a.name)) (.slice ra a.r.length rc) (.slice qa a.kids.length qc) (.slice sa a.sys.length sc)) ∧ (∀ g, ok g → w.heap.size ≤ g ∧ g < ((pu6 wr (s + 1) (.int .i64 (a.kind : Nat)) (.int .i64 (a.n : Nat)) (.string (bs a.name)) (.slice ra a.r.length rc) (.slice qa a.kids.length qc) (.slice sa a.sys.length sc))).heap.size)) := ⟨t8, h8, hs8, hT8, kn8, hok8⟩
      clear t8 h8 hs8 hT8 kn8 hok8 k8 tx8 FR F7 Q7 s7 h7 I hnr HRa hl7 HF
      go_wp2
      obtain ⟨t8, h8, hs8, hT8, kn8, hok8⟩ := H8.out
      unfold pu6 at t8 h8 hs8 hT8 kn8 hok8
      obtain ⟨d0, d1, d2, d3, d4, d5⟩ := t8.cells
      refine ⟨rfl, .agg #[.int .i64 (a.kind : Nat), .int .i64 (a.n : Nat), .string (bs a.name), .slice ra a.r.length rc, .slice qa a.kids.length qc, .slice sa a.sys.length sc], by simp only [results, Tryz.results44]; simp [go_sem, d0, d1, d2, d3, d4, d5], kn8, ?_⟩
      rw [HRf.out]
      exact ⟨_, rfl, ok, nr, hT8, hok8, h8, hnr2, hs8.sub (fun g hg => hg.elim (fun h => .inl (.inl h)) .inr) (fun g hg => .inl (hs.old g hg))⟩
 | true => cases HWN.out
end Go.Proofs.YtahnbigkdfmpbaaGreatDoor
