/- Lifts: a node's number, a row. -/
import Derived.Deep.QuietTactic
import Derived.BigQuiet
import Derived.WalkSmall
import Derived.Test.YtocfamcclfhkcaaGreatYLfM
import Derived.Test.YtocfamcclfhkcaaGreatYCopyD
import Derived.Test.YtocfamcclfhkcaaGreatYOkA
namespace Go.Proofs.YtocfamcclfhkcaaGreat
open Go.RowKit
set_option linter.unusedVariables false
set_option linter.unusedSimpArgs false

def pe (er : Int) : PanicEntry := { v := .iface 29 (.int .i64 er), recovered := false }
/-- It tells a value of which R holds, or gives up with a number that is not 0. -/
def LOut (er : Int) (R : Value → Prop) (e : Ending) : Prop := (er = 0 ∧ ∃ v, e = .returned v ∧ R v) ∨ (er ≠ 0 ∧ e = .panicked [pe er])
theorem LOut.ok {er : Int} {R : Value → Prop} {v : Value} (h : er = 0) (hR : R v) : LOut er R (.returned v) := .inl ⟨h, v, rfl, hR⟩
def sfV (s : Sf) : Value := .agg #[.int .i64 s.vf, .int .i64 s.vb, .int .i64 s.df, .int .i64 s.db]
set_option maxRecDepth 100000 in
set_option maxHeartbeats 2000000 in
theorem lnum_any (s : Sf) (hs : s.ok) (bv bd g off : Nat) (t : Tm) (w : World) (hl : g < w.heap.size) (h0 : w.cell? ⟨g, off, none⟩ = some (.int .i64 t.kind)) (h1 : w.cell? ⟨g, off + 1, none⟩ = some (.int .i64 t.n)) (hn : 0 ≤ t.n ∧ t.n ≤ 9223372036854775807) (hb : bv ≤ 1000000) :
    Calls Tryz.prog 60 #[.agg #[.int .i64 s.vf, .int .i64 s.vb, .int .i64 s.df, .int .i64 s.db], .pointer (some ⟨g, off, none⟩), .agg #[.int .i64 (bv : Int), .int .i64 (bd : Int)]] w fun e w' => LOut (numE s bv t.kind t.n) (fun v => v = .int .i64 (numV s bv t.kind t.n)) e ∧ Below w.heap.size w w' := by
  obtain ⟨k, hk⟩ : ∃ k, k = t.kind := ⟨_, rfl⟩
  obtain ⟨n, hnn⟩ : ∃ n, n = t.n := ⟨_, rfl⟩
  rw [← hk] at h0 ⊢
  rw [← hnn] at h1 hn ⊢
  obtain ⟨vf, vb, df, db⟩ := s
  obtain ⟨s1, s2, s3, s4, s5, s6, s7, s8⟩ := hs
  dsimp only at s1 s2 s3 s4 s5 s6 s7 s8 ⊢
  have HE : Hid (numE ⟨vf, vb, df, db⟩ bv k n = if (k = 1 ∧ vf ≤ n - bv) ∧ 1000000000 - vb < n then 100 else 0) := (by unfold numE farB; rfl : _ = _)
  have HV : Hid (numV ⟨vf, vb, df, db⟩ bv k n = if k = 1 ∧ vf ≤ n - bv then n + vb else n) := (by unfold numV farB; rfl : _ = _)
  clear hk hnn
  obtain ⟨w2, hw2⟩ : ∃ w2, w2 = (w.alloc (.cells #[.int .i64 vf, .int .i64 vb, .int .i64 df, .int .i64 db] 51)).alloc (.cells #[.int .i64 (bv : Int), .int .i64 (bd : Int)] 93) := ⟨_, rfl⟩
  have hb2 : Below w.heap.size w w2 := by rw [hw2]; exact bchain (belowA _ _) (belowA _ _)
  have m1 : w2.heap[w.heap.size]? = some (.cells #[.int .i64 vf, .int .i64 vb, .int .i64 df, .int .i64 db] 51 (0, 0)) := by
    rw [hw2]; exact (Below.heap_alloc _ _ _ (by simp)).trans (heapNew w _)
  have m2 : w2.heap[w.heap.size + 1]? = some (.cells #[.int .i64 (bv : Int), .int .i64 (bd : Int)] 93 (0, 0)) := by
    rw [hw2]; have := heapNew (w.alloc (.cells #[.int .i64 vf, .int .i64 vb, .int .i64 df, .int .i64 db] 51)) (.cells #[.int .i64 (bv : Int), .int .i64 (bd : Int)] 93); rwa [World.size_alloc] at this
  have e0 : w2.cell? ⟨w.heap.size, 0, none⟩ = some (.int .i64 vf) := by simp [World.cell?, m1]
  have e1 : w2.cell? ⟨w.heap.size, 1, none⟩ = some (.int .i64 vb) := by simp [World.cell?, m1]
  have e2 : w2.cell? ⟨w.heap.size + 1, 0, none⟩ = some (.int .i64 (bv : Int)) := by simp [World.cell?, m2]
  have g0 := (hb2.cell (p := ⟨g, off, none⟩) hl).trans h0
  have g1 := (hb2.cell (p := ⟨g, off + 1, none⟩) hl).trans h1
  have H2 : Hid (_ = _) := hw2
  clear hw2 m1 m2 h0 h1
  go_enter Tryz.func60, Tryz.ntmps60
  go_upto_region 1 with fail
  rw [← H2.out]
  by_cases hk : k = 1
  · subst hk
    have wr1 : IntKind.i64.wrap (n - (bv : Int)) = n - (bv : Int) := by simp [IntKind.wrap, IntKind.bits, IntKind.signed]; omega
    by_cases hf : vf ≤ n - bv
    · have hf2 : ¬ n - (bv : Int) < vf := by omega
      have hf3 : decide (n - (bv : Int) < vf) = false := by simpa using hf
      have wr2 : IntKind.i64.wrap (1000000000 - vb) = 1000000000 - vb := by simp [IntKind.wrap, IntKind.bits, IntKind.signed]; omega
      by_cases hg : 1000000000 - vb < n
      · have Hr : Hid (numE ⟨vf, vb, df, db⟩ bv 1 n = 100 ∧ numV ⟨vf, vb, df, db⟩ bv 1 n = n + vb) := ⟨by rw [HE.out]; exact if_pos ⟨⟨rfl, hf⟩, hg⟩, by rw [HV.out]; exact if_pos ⟨rfl, hf⟩⟩
        have hg3 : decide (1000000000 - vb < n) = true := by simpa using hg
        clear HE HV
        go_wp2
        go_quiet (fail)
        go_wp2
        go_quiet (fail)
        go_wp2
        exact ⟨rfl, .inr ⟨by rw [Hr.out.1]; decide, by rw [Hr.out.1]; rfl⟩, bdrewN hb2 _⟩
      · have Hr : Hid (numE ⟨vf, vb, df, db⟩ bv 1 n = 0 ∧ numV ⟨vf, vb, df, db⟩ bv 1 n = n + vb) := ⟨by rw [HE.out]; exact if_neg (fun h => hg h.2), by rw [HV.out]; exact if_pos ⟨rfl, hf⟩⟩
        have hg3 : decide (1000000000 - vb < n) = false := by simpa using hg
        clear HE HV
        have wr3 : IntKind.i64.wrap (n + vb) = n + vb := by simp [IntKind.wrap, IntKind.bits, IntKind.signed]; omega
        go_wp2
        go_quiet (fail)
        go_wp2
        go_quiet (fail)
        go_wp2
        go_quiet (fail)
        go_wp2
        go_ret
        exact ⟨.ok Hr.out.1 (by rw [Hr.out.2]; rfl), ⟨hb2.os, hb2.tape, hb2.output, hb2.size, hb2.block⟩⟩
    · have Hr : Hid (numE ⟨vf, vb, df, db⟩ bv 1 n = 0 ∧ numV ⟨vf, vb, df, db⟩ bv 1 n = n) := ⟨by rw [HE.out]; exact if_neg (fun h => hf h.1.2), by rw [HV.out]; exact if_neg (fun h => hf h.2)⟩
      clear HE HV
      have hf2 : n - (bv : Int) < vf := by omega
      have hf3 : decide (n - (bv : Int) < vf) = true := by simpa using hf2
      go_wp2
      go_quiet (fail)
      go_wp2
      go_ret
      exact ⟨.ok Hr.out.1 (by rw [Hr.out.2]; rfl), ⟨hb2.os, hb2.tape, hb2.output, hb2.size, hb2.block⟩⟩
  · have Hr : Hid (numE ⟨vf, vb, df, db⟩ bv k n = 0 ∧ numV ⟨vf, vb, df, db⟩ bv k n = n) := ⟨by rw [HE.out]; exact if_neg (fun h => hk h.1.1), by rw [HV.out]; exact if_neg (fun h => hk h.1)⟩
    clear HE HV
    have k1 : (k == 1) = false := by simpa using hk
    go_wp2
    go_quiet (fail)
    go_wp2
    go_ret
    exact ⟨.ok Hr.out.1 (by rw [Hr.out.2]; rfl), ⟨hb2.os, hb2.tape, hb2.output, hb2.size, hb2.block⟩⟩
set_option maxRecDepth 100000 in
set_option maxHeartbeats 2000000 in
theorem lrow_any (s : Sf) (hs : s.ok) (bv bd : Nat) (l : List C) (v : Value) (w : World) (hv : ClRow Tt w l v) (hl : l.length ≤ 40000) (hbd : bd ≤ 1000000) :
    Calls Tryz.prog 61 #[.agg #[.int .i64 s.vf, .int .i64 s.vb, .int .i64 s.df, .int .i64 s.db], v, .agg #[.int .i64 (bv : Int), .int .i64 (bd : Int)]] w fun e w' => LOut (rowP s bd l).2 (fun v' => OwnsC w' w.heap.size v' (rowP s bd l).1) e ∧ Below w.heap.size w w' := by
  obtain ⟨vf, vb, df, db⟩ := s
  obtain ⟨s1, s2, s3, s4, s5, s6, s7, s8⟩ := hs
  dsimp only at s1 s2 s3 s4 s5 s6 s7 s8 ⊢
  have HR : Hid (rowP ⟨vf, vb, df, db⟩ bd l = if db = 0 then (l, 0) else liftFF l (min df 24 + bd) db) := (rfl : _ = _)
  obtain ⟨w2, hw2⟩ : ∃ w2, w2 = (w.alloc (.cells #[.int .i64 vf, .int .i64 vb, .int .i64 df, .int .i64 db] 51)).alloc (.cells #[.int .i64 (bv : Int), .int .i64 (bd : Int)] 93) := ⟨_, rfl⟩
  have hb2 : Below w.heap.size w w2 := by rw [hw2]; exact bchain (belowA _ _) (belowA _ _)
  have m1 : w2.heap[w.heap.size]? = some (.cells #[.int .i64 vf, .int .i64 vb, .int .i64 df, .int .i64 db] 51 (0, 0)) := by
    rw [hw2]; exact (Below.heap_alloc _ _ _ (by simp)).trans (heapNew w _)
  have m2 : w2.heap[w.heap.size + 1]? = some (.cells #[.int .i64 (bv : Int), .int .i64 (bd : Int)] 93 (0, 0)) := by
    rw [hw2]; have := heapNew (w.alloc (.cells #[.int .i64 vf, .int .i64 vb, .int .i64 df, .int .i64 db] 51)) (.cells #[.int .i64 (bv : Int), .int .i64 (bd : Int)] 93); rwa [World.size_alloc] at this
  have e2 : w2.cell? ⟨w.heap.size, 2, none⟩ = some (.int .i64 df) := by simp [World.cell?, m1]
  have e3 : w2.cell? ⟨w.heap.size, 3, none⟩ = some (.int .i64 db) := by simp [World.cell?, m1]
  have e4 : w2.cell? ⟨w.heap.size + 1, 1, none⟩ = some (.int .i64 (bd : Int)) := by simp [World.cell?, m2]
  have hv2 := hv.blw hb2
  have H2 : Hid (_ = _) := hw2
  have c1 := clone_any l v w2 hv2 (by omega)
  obtain ⟨P, hP⟩ : ∃ P, P = liftFF l (min df 24 + bd) db := ⟨_, rfl⟩
  have c2 := Lift_any l (min df 24 + bd) db v w2 hv2.frow hl
  rw [← hP] at c2 HR
  obtain ⟨M, er⟩ := P
  dsimp only at c2
  obtain ⟨a, cap, rfl, _⟩ := id hv
  clear hw2 m1 m2 hv hv2 hP
  by_cases hd : db = 0
  · subst hd
    rw [if_pos rfl] at HR
    clear c2
    go_enter Tryz.func61, Tryz.ntmps61
    go_upto_region 1 with fail
    rw [← H2.out]
    clear H2
    go_wp2_with fail
    refine c1.mono ?_
    rintro e w3 ⟨v3, rfl, hO, hb3⟩
    clear c1
    have hO' := OwnsC.mono hO hb2.size
    have hb' := bchain hb2 hb3
    go_wp2_with fail
    go_ret
    exact ⟨.ok (by rw [HR.out]) (by rw [HR.out]; exact hO'), hb'⟩
  · rw [if_neg hd] at HR
    clear c1
    have d1 : (db == 0) = false := by simpa using hd
    have wr : wrap64 (min df 24 + (bd : Int)) = min df 24 + (bd : Int) := by simp [wrap64]; omega
    go_enter Tryz.func61, Tryz.ntmps61
    go_upto_region 1 with fail
    rw [← H2.out]
    clear H2
    go_wp2_with fail
    refine c2.mono ?_
    rintro e w3 ⟨v3, rfl, hO, hb3⟩
    clear c2
    have hO' := OwnsC.mono hO hb2.size
    have hb' := bchain hb2 hb3
    by_cases h0 : er = 0
    · subst h0
      go_wp2_with fail
      go_ret
      exact ⟨.ok (by rw [HR.out]) (by rw [HR.out]; exact hO'), hb'⟩
    · have h1 : (er == 0) = false := by simpa using h0
      go_wp2_with fail
      exact ⟨rfl, .inr ⟨by rw [HR.out]; exact h0, by rw [HR.out]; rfl⟩, hb'⟩
end Go.Proofs.YtocfamcclfhkcaaGreat
