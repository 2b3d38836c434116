/- The chapter's examples hold at the code: works() returns true; nothing that lay before the call turns. -/
import Derived.Test.YtinegcahhafddaaDoorTTell
import Derived.Test.YtinegcahhafddaaDoorFNot
import Derived.Test.YtinegcahhafddaaDoorInts
namespace Go.Proofs.YtinegcahhafddaaDoor
open Go.RowKit
set_option linter.unusedVariables false
set_option linter.unusedSimpArgs false

def k11 : C := (⟨1, by decide⟩, ⟨1, by decide⟩)
def k10 : C := (⟨1, by decide⟩, ⟨0, by decide⟩)
def k20 : C := (⟨2, by decide⟩, ⟨0, by decide⟩)
def k01 : C := (⟨0, by decide⟩, ⟨1, by decide⟩)
theorem ex_eval : evalF [k11] (atZ [2]) = (2, 0) := by decide +kernel
theorem ex_tell : tellF [k10] [k20] = ([1, 0], 0) := by decide +kernel
theorem ex_tell2 : tellF [k01, k10] [top0] = ([2], 0) := by decide +kernel
theorem ex_mt : mtV 2 3 = 0 := by decide
theorem ex_jn : jnV 2 3 = 1 := by decide
theorem ex_nt : ntV 2 = 2 := by decide
theorem tlit (w : World) (l : List C) (cs : Array Value) (n : Nat) (h : cs.toList = flat l) (hn : l.length = n) (hm : n ≤ 1000) : FRow (w.alloc (.cells cs 55)) (.slice (some ⟨w.heap.size, 0, none⟩) n n) l :=
  ⟨row_lit w l cs n h hn (by omega), ⟨_, _, _, rfl, Nat.le_refl _⟩⟩
theorem ints_lit (w : World) (l : List Nat) (cs : Array Value) (n : Nat) (h : cs.toList = l.map encI) (hn : l.length = n) (hm : n ≤ 1000) : RowAt (w.alloc (.cells cs 3)) (.slice (some ⟨w.heap.size, 0, none⟩) n n) l := by
  have hs : cs.size = n * 1 := by rw [← Array.length_toList, h]; simp [hn]
  have h1 := World.ownsRow_lit (base := 0) (e := 3) (size := 1) w cs n (Nat.zero_le _) (by unfold maxLen; omega) hs
  rw [h] at h1
  have h2 : OwnsL (w.alloc (.cells cs 3)) 0 (.slice (some ⟨w.heap.size, 0, none⟩) n n) l := by unfold OwnsL; rw [hn]; exact h1
  exact h2.rowAt

theorem tlit1 (w : World) (o : Obj) (l : List C) (cs : Array Value) (n : Nat) (h : cs.toList = flat l) (hn : l.length = n) (hm : n ≤ 1000) : FRow ((w.alloc o).alloc (.cells cs 55)) (.slice (some ⟨w.heap.size + 1, 0, none⟩) n n) l := by
  have := tlit (w.alloc o) l cs n h hn hm
  rwa [World.size_alloc] at this
theorem ints_lit1 (w : World) (o : Obj) (l : List Nat) (cs : Array Value) (n : Nat) (h : cs.toList = l.map encI) (hn : l.length = n) (hm : n ≤ 1000) : RowAt ((w.alloc o).alloc (.cells cs 3)) (.slice (some ⟨w.heap.size + 1, 0, none⟩) n n) l := by
  have := ints_lit (w.alloc o) l cs n h hn hm
  rwa [World.size_alloc] at this

set_option maxRecDepth 100000 in
set_option maxHeartbeats 4000000 in
theorem tworks_any (w : World) (hT : Tabs w) : Calls Tryd.prog 15 #[] w fun e w' => e = .returned (.bool true) ∧ Below w.heap.size w w' := by
  have HT : Hid (∀ W, Below w.heap.size w W → Tabs W) := fun W h => hT.below h
  have cM := fun W (h : Below w.heap.size w W) => tMeet_any 2 3 W (hT.below h)
  have cJ := fun W (h : Below w.heap.size w W) => tJoin_any 2 3 W (hT.below h)
  have cN := fun W (h : Below w.heap.size w W) => tNot_any 2 W (hT.below h)
  simp only [ex_mt] at cM
  simp only [ex_jn] at cJ
  simp only [ex_nt] at cN
  clear hT
  have b2 := chain (below_alloc w (.cells #[.int .u32 1, .int .u32 1] 55)) (below_alloc (w.alloc (.cells #[.int .u32 1, .int .u32 1] 55)) (.cells #[.int .i64 2] 3))
  have c1 := Eval_any [k11] [2] _ _ _ (HT.out _ b2) ((tlit w [k11] #[.int .u32 1, .int .u32 1] 1 rfl rfl (by omega)).below (below_alloc _ (.cells #[.int .i64 2] 3))) (ints_lit1 w (.cells #[.int .u32 1, .int .u32 1] 55) [2] #[.int .i64 2] 1 rfl rfl (by omega)).rowZ (by simp)
  rw [ex_eval] at c1
  have c2 := fun W (h : Below w.heap.size w W) => Tell_any [k10] [k20] _ _ _ (HT.out _ (chain h (chain (below_alloc W (.cells #[.int .u32 1, .int .u32 0] 55)) (below_alloc _ (.cells #[.int .u32 2, .int .u32 0] 55)))))
    ((tlit W [k10] #[.int .u32 1, .int .u32 0] 1 rfl rfl (by omega)).below (below_alloc _ (.cells #[.int .u32 2, .int .u32 0] 55)))
    (tlit1 W (.cells #[.int .u32 1, .int .u32 0] 55) [k20] #[.int .u32 2, .int .u32 0] 1 rfl rfl (by omega)) (by simp) (by simp)
  simp only [ex_tell] at c2
  have c3 := fun W v vo (h : Below w.heap.size w W) (hv : FRow W v [k01, k10]) (ho : FRow W vo [top0]) => Tell_any [k01, k10] [top0] v vo W (HT.out W h) hv ho (by simp) (by simp)
  simp only [ex_tell2] at c3
  have c4 := fun W v (hv : RowAt W v [1, 0]) => refInts_same [1, 0] v _ _ (hv.below (below_alloc W (.cells #[.int .i64 1, .int .i64 0] 3))) (ints_lit W [1, 0] #[.int .i64 1, .int .i64 0] 2 rfl rfl (by omega)) (by simp)
  have c5 := fun W v (hv : RowAt W v [2]) => refInts_same [2] v _ _ (hv.below (below_alloc W (.cells #[.int .i64 2] 3))) (ints_lit W [2] #[.int .i64 2] 1 rfl rfl (by omega)) (by simp)
  go_enter Tryd.func15, Tryd.ntmps15
  go_wp2_with fail
  refine c1.mono ?_
  rintro e w1 ⟨rfl, hB⟩
  clear c1
  replace hB := chain b2 hB
  clear b2
  replace c2 := c2 w1 hB
  have bb := chain (below_alloc w1 (.cells #[.int .u32 1, .int .u32 0] 55)) (below_alloc (w1.alloc (.cells #[.int .u32 1, .int .u32 0] 55)) (.cells #[.int .u32 2, .int .u32 0] 55))
  go_wp2_with fail
  refine c2.mono ?_
  rintro e w2 ⟨v2, rfl, hO2, hB2⟩
  clear c2
  replace hB := chain (chain hB bb) hB2
  clear hB2 bb
  obtain ⟨p2, q2, rfl⟩ := hO2.len
  replace hO2 := hO2.rowAt
  have bb := below_alloc w2 (.cells #[.int .u32 0, .int .u32 1, .int .u32 1, .int .u32 0] 55)
  have fl := tlit w2 [k01, k10] #[.int .u32 0, .int .u32 1, .int .u32 1, .int .u32 0] 2 rfl rfl (by omega)
  have co := one_any (w2.alloc (.cells #[.int .u32 0, .int .u32 1, .int .u32 1, .int .u32 0] 55))
  replace hO2 := hO2.below bb
  replace hB := chain hB bb
  clear bb
  go_wp2_with fail
  refine co.mono ?_
  rintro e w3 ⟨vo, rfl, ho, hBo⟩
  clear co
  replace hO2 := hO2.below hBo
  replace hB := chain hB hBo
  replace fl := fl.below hBo
  replace c3 := c3 w3 _ vo hB fl (OwnsC.frow ho)
  obtain ⟨po, qo, rfl⟩ := OwnsC.len ho
  clear ho fl hBo
  go_wp2_with fail
  refine c3.mono ?_
  rintro e w4 ⟨v4, rfl, hO4, hB4⟩
  clear c3
  replace hO2 := hO2.below hB4
  replace hB := chain hB hB4
  clear hB4
  obtain ⟨p4, q4, rfl⟩ := hO4.len
  replace hO4 := hO4.rowAt
  go_wp2_with fail
  refine (cM w4 hB).mono ?_
  rintro e w5 ⟨rfl, hB5⟩
  clear cM
  replace hO2 := hO2.below hB5
  replace hO4 := hO4.below hB5
  replace hB := chain hB hB5
  clear hB5
  go_wp2_with fail
  refine (cJ w5 hB).mono ?_
  rintro e w6 ⟨rfl, hB5⟩
  clear cJ
  replace hO2 := hO2.below hB5
  replace hO4 := hO4.below hB5
  replace hB := chain hB hB5
  clear hB5
  go_wp2_with fail
  refine (cN w6 hB).mono ?_
  rintro e w7 ⟨rfl, hB5⟩
  clear cN
  replace hO2 := hO2.below hB5
  replace hO4 := hO4.below hB5
  replace hB := chain hB hB5
  clear hB5
  replace c4 := c4 w7 _ hO2
  have bb := below_alloc w7 (.cells #[.int .i64 1, .int .i64 0] 3)
  go_wp2_with fail
  refine c4.mono ?_
  rintro e w8 ⟨rfl, hB8⟩
  clear c4
  replace hO4 := (hO4.below bb).below hB8
  replace hB := chain (chain hB bb) hB8
  clear bb hB8
  replace c5 := c5 w8 _ hO4
  have bb := below_alloc w8 (.cells #[.int .i64 2] 3)
  go_wp2_with fail
  refine c5.mono ?_
  rintro e w9 ⟨rfl, hB9⟩
  clear c5
  replace hB := chain (chain hB bb) hB9
  go_wp2
  go_ret
  exact ⟨rfl, hB⟩
end Go.Proofs.YtinegcahhafddaaDoor
