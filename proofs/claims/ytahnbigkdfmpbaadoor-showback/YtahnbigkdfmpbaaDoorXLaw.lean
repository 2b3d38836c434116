/- great, n and two of the statements. -/
import Derived.Test.YtahnbigkdfmpbaaDoorSTop
import Derived.Test.YtahnbigkdfmpbaaDoorXBulk
namespace Go.Proofs.YtahnbigkdfmpbaaDoor
open Go.RowKit
set_option linter.unusedVariables false
set_option linter.unusedSimpArgs false

theorem alloc_size1 (w : World) (b) : (w.alloc b).heap.size = w.heap.size + 1 := by unfold World.alloc; exact Array.size_push ..
theorem nms_nil (n : Nat) (w : World) : NmS n w [] (.slice none 0 0) := ⟨none, 0, rfl, Nat.le_refl _, fun j x hx => by simp at hx⟩
theorem kdp_nil (n : Nat) (w : World) (P : Sx → Value → Prop) (a : Option Addr) : KdP n w P [] a := fun j x hx => by simp at hx
def greatB (l : List Sx) : Bool := decide (1500 < blk (.mk 0 [] l [] 0))
theorem great_any (n : Nat) (l : List Sx) (ka : Option Addr) (kc : Nat) (w : World) (hK : KdP n w (SxIn n w) l ka) (hn : n ≤ w.heap.size) :
    Calls Tryd.prog 5 #[.slice ka l.length kc] w fun e w' => e = .returned (.bool (greatB l)) ∧ Below w.heap.size w w' := by
  have cB := bulk_any _ 1500 n 1500 (.mk 0 [] l [] 0) _ w rfl (by omega) (Nat.le_refl _) (.mk 0 [] l [] 0 (.slice none 0 0) ka kc (nms_nil n w) hK) hn
  go_enter Tryd.func5, Tryd.ntmps5
  go_wp2_with fail
  refine cB.mono ?_
  rintro e w2 ⟨⟨r, rfl, hr⟩, hb2⟩
  go_wp2_with fail
  go_ret
  refine ⟨?_, hb2⟩
  have e : decide ((1500 : Int) < (r : Int)) = greatB l := by
    unfold greatB
    unfold BulkR at hr
    rw [decide_eq_decide]
    omega
  rw [← e]
  rfl
set_option maxRecDepth 100000 in
theorem lawN_any (s : Bs) (w : World) : Calls Tryd.prog 10 #[.string (bs s)] w fun e w' => e = .returned (.agg #[.int .i64 1, .string (bs s), .slice none 0 0, .slice none 0 0, .int .i64 0]) ∧ Below w.heap.size w w' := by
  have hal := below_alloc w (.cells #[.int .i64 1, .string (bs s), .slice none 0 0, .slice none 0 0, .int .i64 0] 25)
  obtain ⟨c0, c1, c2, c3, c4⟩ := (bx_new w (.int .i64 1) (.string (bs s)) (.slice none 0 0) (.slice none 0 0) (.int .i64 0)).cells
  go_enter Tryd.func10, Tryd.ntmps10
  go_wp2
  exact ⟨rfl, .agg #[.int .i64 1, .string (bs s), .slice none 0 0, .slice none 0 0, .int .i64 0], by simp only [results, Tryd.results10]; simp [go_sem], rfl, hal⟩
theorem cell_at (w : World) (vs : Array Value) (ty : TypeId) (i : Nat) (x : Value) (h : vs[i]? = some x) : (w.alloc (.cells vs ty)).cell? ⟨w.heap.size, i, none⟩ = some x := by
  have e : (w.alloc (.cells vs ty)).heap[w.heap.size]? = some (.cells vs ty (0, 0)) := heap_alloc_new w _
  unfold World.cell?
  simp only [e]
  simpa using h
theorem kdp_two {n : Nat} {w : World} {a c : Sx} {u0 u1 u2 u3 u4 v0 v1 v2 v3 v4 : Value} (ty : TypeId) (ha : SxIn n w a (.agg #[u0, u1, u2, u3, u4])) (hc : SxIn n w c (.agg #[v0, v1, v2, v3, v4])) (hn : n ≤ w.heap.size) (W : World) (hW : W = w.alloc (.cells #[u0, u1, u2, u3, u4, v0, v1, v2, v3, v4] ty)) :
    KdP W.heap.size W (SxIn W.heap.size W) [a, c] (some ⟨w.heap.size, 0, none⟩) := by
  have hb : Below w.heap.size w W := by rw [hW]; exact below_alloc _ _
  have hs : W.heap.size = w.heap.size + 1 := by rw [hW]; exact alloc_size1 _ _
  have ce := fun i x h => cell_at w #[u0, u1, u2, u3, u4, v0, v1, v2, v3, v4] ty i x h
  rw [← hW] at ce
  intro j x hx
  match j, hx with
  | 0, hx =>
    simp at hx; subst hx
    exact ⟨w.heap.size, 0, u0, u1, u2, u3, u4, rfl, by omega, (ha.keep (hb.mono hn)).up (by omega), ce 0 _ rfl, ce 1 _ rfl, ce 2 _ rfl, ce 3 _ rfl, ce 4 _ rfl⟩
  | 1, hx =>
    simp at hx; subst hx
    exact ⟨w.heap.size, 0, v0, v1, v2, v3, v4, rfl, by omega, (hc.keep (hb.mono hn)).up (by omega), ce 5 _ rfl, ce 6 _ rfl, ce 7 _ rfl, ce 8 _ rfl, ce 9 _ rfl⟩
  | j + 2, hx => simp at hx
theorem kdp_one {n : Nat} {w : World} {a : Sx} {u0 u1 u2 u3 u4 : Value} (ty : TypeId) (ha : SxIn n w a (.agg #[u0, u1, u2, u3, u4])) (hn : n ≤ w.heap.size) (W : World) (hW : W = w.alloc (.cells #[u0, u1, u2, u3, u4] ty)) :
    KdP W.heap.size W (SxIn W.heap.size W) [a] (some ⟨w.heap.size, 0, none⟩) := by
  have hb : Below w.heap.size w W := by rw [hW]; exact below_alloc _ _
  have hs : W.heap.size = w.heap.size + 1 := by rw [hW]; exact alloc_size1 _ _
  have ce := fun i x h => cell_at w #[u0, u1, u2, u3, u4] ty i x h
  rw [← hW] at ce
  intro j x hx
  match j, hx with
  | 0, hx =>
    simp at hx; subst hx
    exact ⟨w.heap.size, 0, u0, u1, u2, u3, u4, rfl, by omega, (ha.keep (hb.mono hn)).up (by omega), ce 0 _ rfl, ce 1 _ rfl, ce 2 _ rfl, ce 3 _ rfl, ce 4 _ rfl⟩
  | j + 1, hx => simp at hx
set_option maxRecDepth 100000 in
set_option maxHeartbeats 1000000 in
theorem lawTwo_any (k : Int) (n : Nat) (a c : Sx) (va vc : Value) (w : World) (ha : SxIn n w a va) (hc : SxIn n w c vc) (hn : n ≤ w.heap.size) : Calls Tryd.prog 9 #[.int .i64 k, va, vc] w fun e w' => ∃ v, e = .returned v ∧ SxIn w'.heap.size w' (.mk k [] [a, c] [] 0) v ∧ Below w.heap.size w w' := by
  obtain ⟨ka, kc, na, nc, rfl, _, _⟩ := ha.form
  obtain ⟨ka1, kc1, na1, nc1, rfl, _, _⟩ := hc.form
  have f1 := below_alloc w (.cells #[.int .i64 a.kind, .string (bs a.name), .slice ka a.kids.length kc, .slice na a.names.length nc, .int .i64 a.at_] 25)
  have f2 := chain f1 (below_alloc _ (.cells #[.int .i64 c.kind, .string (bs c.name), .slice ka1 c.kids.length kc1, .slice na1 c.names.length nc1, .int .i64 c.at_] 25))
  have f3 := chain f2 (below_alloc _ (.cells #[.int .i64 k, .string ⟨#[]⟩, .slice (some ⟨w.heap.size + 1 + 1 + 1, 0, none⟩) 2 2, .slice none 0 0, .int .i64 0] 25))
  have hS := kdp_two 25 (ha.keep (f3.mono hn)) (hc.keep (f3.mono hn)) (Nat.le_trans hn f3.size) _ rfl
  have f4 := chain f3 (below_alloc _ (.cells #[.int .i64 a.kind, .string (bs a.name), .slice ka a.kids.length kc, .slice na a.names.length nc, .int .i64 a.at_, .int .i64 c.kind, .string (bs c.name), .slice ka1 c.kids.length kc1, .slice na1 c.names.length nc1, .int .i64 c.at_] 25))
  have HS : Hid _ := hS
  have F4 : Hid _ := f4
  clear hS f4 f3 f2 f1
  go_enter Tryd.func9, Tryd.ntmps9
  go_wp2
  refine ⟨rfl, .agg #[.int .i64 k, .string ⟨#[]⟩, .slice (some ⟨w.heap.size + 1 + 1 + 1, 0, none⟩) 2 2, .slice none 0 0, .int .i64 0], by simp only [results, Tryd.results9]; simp [go_sem], _, rfl, ?_, F4.out⟩
  have h9 := HS.out
  rw [alloc_size1, alloc_size1, alloc_size1] at h9
  exact .mk k [] [a, c] [] 0 (.slice none 0 0) _ 2 (nms_nil _ _) h9
def lN (s : Bs) : Sx := .mk 1 s [] [] 0
def lw1 : Sx := .mk 2 [] [.mk 6 [] [lN [102], .mk 6 [] [lN [103], lN [120]] [] 0] [] 0] [[120]] 0
def lw2 : Sx := .mk 4 [] [.mk 9 [] [lN [120], lN [65]] [] 0, lN [66]] [] 0
set_option maxRecDepth 100000 in
theorem lw1_eq : termT 65536 lw1 = ([92, 120, 46, 32, 102, 32, 40, 103, 32, 120, 41], 0) := by kernel_rfl
set_option maxRecDepth 100000 in
theorem lw2_eq : termT 65536 lw2 = ([40, 40, 120, 32, 58, 32, 65, 41, 41, 32, 45, 62, 32, 66], 0) := by kernel_rfl
theorem lw1_blk : blk lw1 ≤ 1000000 := by simp [lw1, lN, blk_mk, blkN, blkK]
theorem lw2_blk : blk lw2 ≤ 1000000 := by simp [lw2, lN, blk_mk, blkN, blkK]
theorem lN_in (s : Bs) (n : Nat) (w : World) : SxIn n w (lN s) (.agg #[.int .i64 1, .string (bs s), .slice none 0 0, .slice none 0 0, .int .i64 0]) := .mk 1 s [] [] 0 (.slice none 0 0) none 0 (nms_nil _ _) (kdp_nil _ _ _ _)
end Go.Proofs.YtahnbigkdfmpbaaDoor
