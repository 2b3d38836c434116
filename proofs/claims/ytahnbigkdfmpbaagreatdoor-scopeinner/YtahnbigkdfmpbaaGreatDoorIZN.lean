/- The words, in a row. How many arguments a word takes: the statements' own. -/
import Derived.Test.YtahnbigkdfmpbaaGreatDoorIZA
import Derived.Great.Walk
import Derived.Deep.WholeRow
import Derived.Deep.Cut
import Derived.Test.YtahnbigkdfmpbaaGreatDoorIZB
set_option linter.unusedVariables false
set_option linter.unusedSimpArgs false
namespace Go.Proofs.YtahnbigkdfmpbaaGreatDoor
def wd18 : List Bs := [[85], [83, 49], [98, 97, 115, 101], [110, 111, 114, 116, 104], [115, 111, 117, 116, 104], [108, 111, 111, 112], [102, 115, 116], [115, 110, 100], [83, 117, 115, 112], [117, 110, 103, 108, 117, 101], [109, 101, 114, 105, 100], [103, 108, 117, 101], [71, 108, 117, 101], [80, 97, 116, 104], [116, 114, 97, 110, 115, 112], [104, 99, 111, 109, 112], [83, 49, 101, 108, 105, 109], [83, 117, 115, 112, 101, 108, 105, 109]]
def mn18 : List Nat := [0, 0, 0, 0, 0, 0, 1, 1, 1, 1, 1, 2, 2, 3, 3, 3, 4, 5]
def wdA (k : Nat) : Bs := wd18.getD k []
def mnA (k : Nat) : Nat := mn18.getD k 0
theorem wd_fin : ∀ k : Fin 18, isWd (wdA k.val) = true := by decide
theorem wd_is (k : Nat) (h : k < 18) : isWd (wdA k) = true := wd_fin ⟨k, h⟩
theorem wd_not {x : Bs} (h : ∀ k, k < 18 → wdA k ≠ x) : isWd x = false := by
 unfold isWd wordT
 rw [find_none (fun p hp => ?_)]
 ·rfl
 ·unfold wdR at hp
  simp only [List.mem_cons, List.mem_nil_iff, or_false] at hp
  rcases hp with rfl | rfl | rfl | rfl | rfl | rfl | rfl | rfl | rfl | rfl | rfl | rfl | rfl | rfl | rfl | rfl | rfl | rfl
  ·exact h 17 (by omega)
  ·exact h 16 (by omega)
  ·exact h 15 (by omega)
  ·exact h 14 (by omega)
  ·exact h 13 (by omega)
  ·exact h 12 (by omega)
  ·exact h 11 (by omega)
  ·exact h 10 (by omega)
  ·exact h 9 (by omega)
  ·exact h 8 (by omega)
  ·exact h 7 (by omega)
  ·exact h 6 (by omega)
  ·exact h 5 (by omega)
  ·exact h 4 (by omega)
  ·exact h 3 (by omega)
  ·exact h 2 (by omega)
  ·exact h 1 (by omega)
  ·exact h 0 (by omega)
end Go.Proofs.YtahnbigkdfmpbaaGreatDoor
namespace Go.Proofs.YtahnbigkdfmpbaaGreatDoor
open Go.RowKit
theorem wd_get (k : Nat) (h : k < 18) : (wd18.map fun s => Value.string (bs s))[k]? = some (.string (bs (wdA k))) := by
 have : wd18[k]? = some (wdA k) := by
  unfold wdA
  rw [List.getD_eq_getElem?_getD, List.getElem?_eq_getElem (show k < wd18.length from h)]
  rfl
 rw [List.getElem?_map, this]
 rfl
theorem mn_get (k : Nat) (h : k < 18) : (mn18.map fun s => Value.int .i64 ((s : Nat) : Int))[k]? = some (.int .i64 (mnA k : Nat)) := by
 have : mn18[k]? = some (mnA k) := by
  unfold mnA
  rw [List.getD_eq_getElem?_getD, List.getElem?_eq_getElem (show k < mn18.length from h)]
  rfl
 rw [List.getElem?_map, this]
 rfl
def arrZW : Array Value := #[.string ⟨#[]⟩, .string ⟨#[]⟩, .string ⟨#[]⟩, .string ⟨#[]⟩, .string ⟨#[]⟩, .string ⟨#[]⟩, .string ⟨#[]⟩, .string ⟨#[]⟩, .string ⟨#[]⟩, .string ⟨#[]⟩, .string ⟨#[]⟩, .string ⟨#[]⟩, .string ⟨#[]⟩, .string ⟨#[]⟩, .string ⟨#[]⟩, .string ⟨#[]⟩, .string ⟨#[]⟩, .string ⟨#[]⟩]
def arrZM : Array Value := #[.int .i64 0, .int .i64 0, .int .i64 0, .int .i64 0, .int .i64 0, .int .i64 0, .int .i64 0, .int .i64 0, .int .i64 0, .int .i64 0, .int .i64 0, .int .i64 0, .int .i64 0, .int .i64 0, .int .i64 0, .int .i64 0, .int .i64 0, .int .i64 0]
def arrW : Array Value := #[.string ⟨#[85]⟩, .string ⟨#[83, 49]⟩, .string ⟨#[98, 97, 115, 101]⟩, .string ⟨#[110, 111, 114, 116, 104]⟩, .string ⟨#[115, 111, 117, 116, 104]⟩, .string ⟨#[108, 111, 111, 112]⟩, .string ⟨#[102, 115, 116]⟩, .string ⟨#[115, 110, 100]⟩, .string ⟨#[83, 117, 115, 112]⟩, .string ⟨#[117, 110, 103, 108, 117, 101]⟩, .string ⟨#[109, 101, 114, 105, 100]⟩, .string ⟨#[103, 108, 117, 101]⟩, .string ⟨#[71, 108, 117, 101]⟩, .string ⟨#[80, 97, 116, 104]⟩, .string ⟨#[116, 114, 97, 110, 115, 112]⟩, .string ⟨#[104, 99, 111, 109, 112]⟩, .string ⟨#[83, 49, 101, 108, 105, 109]⟩, .string ⟨#[83, 117, 115, 112, 101, 108, 105, 109]⟩]
def arrM : Array Value := #[.int .i64 0, .int .i64 0, .int .i64 0, .int .i64 0, .int .i64 0, .int .i64 0, .int .i64 1, .int .i64 1, .int .i64 1, .int .i64 1, .int .i64 1, .int .i64 2, .int .i64 2, .int .i64 3, .int .i64 3, .int .i64 3, .int .i64 4, .int .i64 5]
theorem arrW_eq : arrW.toList = wd18.map fun s => Value.string (bs s) := by kernel_rfl
theorem arrM_eq : arrM.toList = mn18.map fun s => Value.int .i64 ((s : Nat) : Int) := by kernel_rfl
theorem cell_new (w W : World) (C : Array Value) (ty : TypeId) (h : W.heap[w.heap.size]? = some (.cells C ty (0, 0))) (k : Nat) (v : Value) (hv : C.toList[k]? = some v) : W.cell? ⟨w.heap.size, k, none⟩ = some v := by
 unfold World.cell?
 simp only [h]
 rw [← Array.getElem?_toList]
 simpa using hv
theorem takesW (w W : World) (hW2 : W = (w.alloc (.cells arrW 54)).alloc (.cells arrM 55)) : Below w.heap.size w W ∧ (∀ k, k < 18 → W.cell? ⟨w.heap.size, k, none⟩ = some (.string (bs (wdA k)))) ∧ (∀ k, k < 18 → W.cell? ⟨w.heap.size + 1, k, none⟩ = some (.int .i64 (mnA k : Nat))) := by
 have b1 := below_alloc w (.cells arrW 54)
 have b2 := below_alloc (w.alloc (.cells arrW 54)) (.cells arrM 55)
 have s1 : (w.alloc (.cells arrW 54)).heap.size = w.heap.size + 1 := by simp
 refine ⟨by rw [hW2]; exact chain b1 b2, fun k hk => ?_, fun k hk => ?_⟩
 ·have e : W.heap[w.heap.size]? = some (.cells arrW 54 (0, 0)) := by
   rw [hW2]
   exact (b2.block _ (by omega)).trans (heap_alloc_new w _)
  exact cell_new w W arrW 54 e k _ (by rw [arrW_eq]; exact wd_get k hk)
 ·have e : W.heap[(w.alloc (.cells arrW 54)).heap.size]? = some (.cells arrM 55 (0, 0)) := by
   rw [hW2]
   exact heap_alloc_new _ _
  have := cell_new (w.alloc (.cells arrW 54)) W arrM 55 e k _ (by rw [arrM_eq]; exact mn_get k hk)
  rw [s1] at this
  exact this
set_option maxRecDepth 100000 in
set_option maxHeartbeats 4000000 in
theorem takes_any (x : Bs) (w : World) : Calls Tryz.prog 8 #[.string (bs x)] w fun e w' => ∃ z : Int, e = .returned (.int .i64 z) ∧ (0 ≤ z ↔ isWd x = true) ∧ Below w.heap.size w w' := by
 go_enter Tryz.func8, Tryz.ntmps8
 go_upto_region 1 with fail
 refine wp_region_list ?_
 refine wpList_buildTo rfl 54 _ rfl (some 6) rfl arrW (by kernel_rfl) ?_
 refine Great.wpList_runTo rfl (some 3) rfl (.pointer (some ⟨w.heap.size, 0, none⟩)) (w.alloc (.cells arrZW 54)) (by rfl) ?_
 refine wpList_store_rowTo rfl 54 (.tmp 3) (.tmp 6) rfl rfl w.heap.size arrW rfl rfl 54 arrZW (heap_alloc_last w _) (by kernel_rfl) rfl (by kernel_rfl) ?_
 rw [World.setRow_alloc_new]
 refine wpList_nil ?_
 obtain ⟨w1, hw1⟩ : ∃ w1, w1 = w.alloc (.cells arrW 54) := ⟨_, rfl⟩
 have s1 : w1.heap.size = w.heap.size + 1 := by rw [hw1]; simp
 rw [← hw1]
 obtain ⟨V6, h6⟩ : ∃ V, V = Value.agg arrW := ⟨_, rfl⟩
 rw [← h6]
 clear h6
 have Hs1 : Hid (w1.heap.size = w.heap.size + 1) := s1
 have Hw1 : Hid (w1 = w.alloc (.cells arrW 54)) := hw1
 clear hw1 s1
 go_upto_region 2 with fail
 refine wp_region_list ?_
 refine wpList_buildTo rfl 55 _ rfl (some 7) rfl arrM (by kernel_rfl) ?_
 refine Great.wpList_runTo rfl (some 4) rfl (.pointer (some ⟨w1.heap.size, 0, none⟩)) (w1.alloc (.cells arrZM 55)) (by rfl) ?_
 refine wpList_store_rowTo rfl 55 (.tmp 4) (.tmp 7) rfl rfl w1.heap.size arrM rfl rfl 55 arrZM (heap_alloc_last w1 _) (by kernel_rfl) rfl (by kernel_rfl) ?_
 rw [World.setRow_alloc_new]
 refine wpList_nil ?_
 obtain ⟨W, hW⟩ : ∃ W, W = w1.alloc (.cells arrM 55) := ⟨_, rfl⟩
 rw [← hW]
 have HW : Hid (_ ∧ _ ∧ _) := takesW w W (by rw [hW, Hw1.out])
 clear hW
 obtain ⟨V7, h7⟩ : ∃ V, V = Value.agg arrM := ⟨_, rfl⟩
 rw [← h7]
 clear h7
 simp only [Hs1.out]
 clear Hs1 Hw1
 go_wp2_with fail
 obtain ⟨b, hb⟩ : ∃ b, b = w.heap.size := ⟨_, rfl⟩
 rw [← hb] at HW
 simp only [← hb]
 have Hb : Hid (b = w.heap.size) := hb
 clear hb
 go_loopw [5] (fun i wr => ∃ k : Nat, k ≤ 18 ∧ i = .int .i64 k ∧ (wr = W ∧ ∀ j, j < k → wdA j ≠ x)) (fun i _ => 18 - (intOf i).toNat)
 case atStart => exact ⟨0, by omega, rfl, rfl, fun j hj => by omega⟩
 case round =>
  obtain ⟨k, hk, rfl, hw, hno⟩ := hrel
  rw [hw]
  clear hw
  obtain ⟨hB, h1, h2⟩ := HW.out
  have Hno : Hid (∀ j, j < k → wdA j ≠ x) := hno
  clear hno
  by_cases hlt : k < 18
  ·have c1 := h1 k hlt
   have c2 := h2 k hlt
   have hki : (k : Int) < 18 := by omega
   have HB : Hid (Below b w W) := hB
   clear h1 h2 HW hB
   by_cases hx : wdA k = x
   ·have HX : Hid (wdA k = x) := hx
    have hwd := wd_is k hlt
    rw [hx] at c1 hwd
    have Hwd : Hid (isWd x = true) := hwd
    clear hx hwd
    go_wp2
    go_ret
    exact ⟨_, rfl, ⟨fun _ => Hwd.out, fun _ => by omega⟩, by rw [← Hb.out]; exact HB.out⟩
   ·have hne : ((bs (wdA k)).toList == (bs x).toList) = false := by
     rw [Lib.toList_data, Lib.toList_data, tl_def, tl_def, tl_bs, tl_bs]
     simpa using hx
    have HX : Hid (wdA k ≠ x) := hx
    clear hx
    generalize bs (wdA k) = Y at *
    go_wp2
    refine ⟨⟨k + 1, by omega, by go_num, trivial, fun j hj => (Nat.lt_or_ge j k).elim (fun h => Hno.out j h) (fun h => (show j = k by omega) ▸ HX.out)⟩, by simp [intOf]; omega⟩
  ·have hki : ¬ ((k : Int) < 18) := by omega
   have HB : Hid (Below b w W) := hB
   have hwd := wd_not (x := x) (fun j hj => Hno.out j (by omega))
   have Hwd : Hid (isWd x = false) := hwd
   clear h1 h2 HW hB hwd
   go_wp2
   go_ret
   exact ⟨_, rfl, ⟨fun h => absurd h (by decide), fun h => by rw [Hwd.out] at h; cases h⟩, by rw [← Hb.out]; exact HB.out⟩
end Go.Proofs.YtahnbigkdfmpbaaGreatDoor
