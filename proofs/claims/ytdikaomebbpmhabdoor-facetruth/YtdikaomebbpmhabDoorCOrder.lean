/- ordered: each clause of a row once, rising, in new memory. -/
import Derived.Maps.OwnSet
import Derived.Maps.AppendAt
import Derived.DeepKeys4
import Derived.WideKeyPair
import Derived.Deep.AppendLies
import Derived.Test.YtdikaomebbpmhabDoorCSort
namespace Go.Proofs.YtdikaomebbpmhabDoor
open Go.RowKit Go.Maps
set_option linter.unusedVariables false
set_option linter.unusedSimpArgs false

theorem Tryd.laidOut : laidOutB Tryd.prog = true := by kernel_rfl
theorem Tryd.rowC : (25 : TypeId) < Tryd.prog.types.size := of_decide_eq_true (by kernel_rfl)
theorem Tryd.wideC : (match Tryd.prog.underlying 25 with | some (.array _ _) | some (.struct _) => true | _ => false) = true := by rw [Tryd.underlying25]
set_option maxRecDepth 100000 in
theorem lawC : Keyed Tryd.prog 25 := Keyed.of_law (deep_law_laid Tryd.laidOut (m := 2) (by omega) Tryd.rowC (by kernel_rfl) Tryd.wideC)
theorem zeroU (w : World) : (zeroValue 69).run Tryd.prog w = .ok (.agg #[]) w := by kernel_rfl
theorem makeC (n : Nat) (w : World) : (Instr.makeMap 68 (some (.int .i64 (n : Int)))).run Tryd.prog w = .ok (.map (some w.heap.size)) (w.alloc (.map #[] 0)) := by
  simp [Instr.makeMap, underlying, Tryd.underlying68, Result.andThen]
  rfl
/-- How a clause reads as a key. -/
def keyS (c : C) : Lit := .string (keyBytes [.int .u32 (c.1.val : Int), .int .u32 (c.2.val : Int)])
theorem wf_u32 (x : Fin 4294967296) : (Lit.int .u32 (x.val : Int)).wf = true := by
  have := x.isLt
  simp [Lit.wf, IntKind.min, IntKind.max, IntKind.bits, IntKind.signed]
  omega
theorem Tryd.cellsC : Tryd.prog.cellsOf 25 = 2 := by kernel_rfl
theorem Tryd.cellsU : Tryd.prog.cellsOf 23 = 1 := by kernel_rfl
set_option maxRecDepth 100000 in
theorem Tryd.keyTypeC : Tryd.prog.keyType 25 = true := by kernel_rfl
set_option maxRecDepth 100000 in
theorem keyC (c : C) : keyOf Tryd.prog 25 (clV c) = some (keyS c) := by
  have h1 := wf_u32 c.1
  have h2 := wf_u32 c.2
  obtain ⟨m, hm⟩ : ∃ m, Tryd.prog.types.size = m + 1 := ⟨Tryd.prog.types.size - 1, by kernel_rfl⟩
  unfold keyOf
  simp only [Tryd.underlying25]
  rw [if_pos (by simp [Tryd.keyTypeC, Value.formed, Tryd.underlying25, Tryd.cellsC]), hm]
  unfold Program.keyLits
  simp only [Tryd.underlying25, Value.cells]
  rw [if_pos ⟨by rw [Tryd.cellsC]; rfl, by simp⟩]
  simp [Program.keyLits, Tryd.underlying23, Tryd.cellsU, h1, h2, keyS]
theorem keyS_inj {c d : C} (h : keyS c = keyS d) : c = d := by
  have h1 := keyC c
  rw [h] at h1
  have h2 := lawC.inj h1 (keyC d)
  simp at h2
  exact c_ext (by omega) (by omega)

/-! ### each once -/
def uniq (acc : List C) (c : C) : List C := if acc.contains c then acc else acc ++ [c]
def uniqAll (l : List C) : List C := l.foldl uniq []
theorem uniqAll_snoc (l : List C) (c : C) : uniqAll (l ++ [c]) = uniq (uniqAll l) c := by simp [uniqAll]
theorem mem_uniq {acc : List C} {c x : C} : x ∈ uniq acc c ↔ x ∈ acc ∨ x = c := by
  unfold uniq
  split
  · rename_i h
    have h : c ∈ acc := by simpa using h
    exact ⟨.inl, fun h1 => h1.elim id (fun e => e ▸ h)⟩
  · simp
theorem mem_uniqAll {l : List C} {x : C} : x ∈ uniqAll l ↔ x ∈ l := by
  induction l using snoc_ind with
  | nil => simp [uniqAll]
  | snoc l c ih => rw [uniqAll_snoc, mem_uniq, ih]; simp
theorem uniqAll_nodup (l : List C) : (uniqAll l).Nodup := by
  induction l using snoc_ind with
  | nil => simp [uniqAll]
  | snoc l c ih =>
    rw [uniqAll_snoc]
    unfold uniq
    split
    · exact ih
    · rename_i h
      have h : c ∉ uniqAll l := by simpa using h
      rw [List.nodup_append]
      exact ⟨ih, by simp, fun a ha b hb e => h ((e.trans (List.mem_singleton.1 hb)) ▸ ha)⟩
theorem uniqAll_length_le (l : List C) : (uniqAll l).length ≤ l.length := by
  induction l using snoc_ind with
  | nil => simp [uniqAll]
  | snoc l c ih =>
    rw [uniqAll_snoc]
    unfold uniq
    split <;> simp <;> omega
/-- The set of those that were seen. -/
def setS (acc : List C) : DataW Unit := setOf (.agg []) (acc.map keyS)
theorem setS_snoc (acc : List C) (c : C) : setS (acc ++ [c]) = (setS acc).put (keyS c) (.agg []) := by rw [setS, List.map_append, List.map_cons, List.map_nil, setOf_snoc]; rfl
theorem has_setS (acc : List C) (c : C) : Maps.has (setS acc) (keyS c) = acc.contains c := by
  rw [setS, has_setOf _ _ _ (fun x hx => by obtain ⟨y, _, rfl⟩ := List.mem_map.1 hx; trivial), Bool.eq_iff_iff, List.any_eq_true]
  simp only [List.mem_map, List.contains_iff_mem]
  constructor
  · rintro ⟨_, ⟨y, hy, rfl⟩, hs⟩
    have := keyS_inj (WideAt.sameKey_eq hs)
    exact this ▸ hy
  · intro h
    exact ⟨_, ⟨c, h, rfl⟩, by simp [keyS, Lit.sameKey]⟩

theorem new_two (w : World) (x y : Value) (t : TypeId) : ∀ j u, [x, y][j]? = some u → (w.alloc (.cells #[x, y] t)).cell? ((⟨w.heap.size, 0, none⟩ : Addr).add j) = some u :=
  World.news_of_block (cs := #[x, y]) (MapKept.heap_alloc w _).1
theorem row_not_map {H : Type} {w : World} {base e size : Nat} {v : Value} {n : Nat} {xs : List Value} (h : w.ownsRow base e size v n xs) {P : Program} {k : TypeId} {R : Value → Option (DataW H × List MemPlace)} {b m : Nat} {D : DataW H} (hm : w.ownsMap P k R b m D) : some b ≠ v.ownBlock := by
  obtain ⟨es, clock, hb, _⟩ := hm
  rcases h.2 with ⟨rfl, _⟩ | ⟨g, cap, cur, rfl, _, hg, _⟩
  · simp [Value.ownBlock]
  · intro e
    have e : b = g := by simpa [Value.ownBlock] using e
    subst e
    rw [hb] at hg
    simp at hg

set_option maxHeartbeats 2000000 in
set_option maxRecDepth 100000 in
theorem ordered_any (l : List C) (v : Value) (w : World) (hv : CRow w v l) (hl : l.length ≤ 100000) :
    Calls Tryd.prog 39 #[v] w fun e w' => ∃ v' o, e = .returned v' ∧ CRow w' v' o ∧ risesC o ∧ (∀ c, c ∈ o ↔ c ∈ l) ∧ o.length ≤ l.length ∧ Below w.heap.size w w' := by
  have hmm := makeC l.length
  obtain ⟨i0, hi, hz0, hz1, hz2⟩ := info_parts Tryd.infoC
  have hbytes : i0.bytes * l.length ≤ 281474976710656 := by rw [hz2]; omega
  obtain ⟨a0, cap, rfl⟩ : ∃ a0 cap, v = .slice a0 l.length cap := hv.len
  have hcx : ∀ k c, l[k]? = some c → ∃ g off, a0 = some ⟨g, off, none⟩ ∧ g < w.heap.size ∧ w.cell? ⟨g, off + k * 2, none⟩ = some (.int .u32 (c.1.val : Int)) ∧ w.cell? ⟨g, off + k * 2 + 1, none⟩ = some (.int .u32 (c.2.val : Int)) := fun k c hk => by
    have hz : l ≠ [] := by rintro rfl; simp at hk
    obtain ⟨g, off, cap2, e, hg, hc⟩ := hv.cons hz
    have e2 : a0 = some ⟨g, off, none⟩ := by injection e
    exact ⟨g, off, e2, hg, (hc k c hk).1, (hc k c hk).2⟩
  clear hv
  obtain ⟨n, hn⟩ : ∃ n, n = l.length := ⟨_, rfl⟩
  have Hn : Hid (n = l.length) := hn
  rw [← hn] at hl hmm hbytes ⊢
  clear hn
  go_enter Tryd.func39, Tryd.ntmps39
  go_wp2_with (at_make; refine wpList_make_own _ rfl _ _ 22 rfl (w.heap.size + 1) 25 i0 (.agg #[.int .u32 0, .int .u32 0]) 2 Tryd.underlying22 hi hz0 hz1 .i64 .i64 _ n rfl rfl rfl hbytes (by unfold maxLen; omega) (by simp) ?_; intro w1 hown1 hgrow1)
  go_loopw [4, 17] (fun v i wr => ∃ k : Nat, k ≤ n ∧ i = .int .i64 k ∧ wr.ownsMap Tryd.prog 25 unitElem w.heap.size k (setS (uniqAll (l.take k))) ∧ OwnsC wr (w.heap.size + 1) v (uniqAll (l.take k)) ∧ (∃ g cap, v = .slice (some ⟨g, 0, none⟩) (uniqAll (l.take k)).length cap) ∧
      Below w.heap.size w wr ∧ w.heap.size + 1 ≤ wr.heap.size) (fun _ i _ => n - (intOf i).toNat)
  case atStart =>
    have hB1 : Below w.heap.size w w1 := (below_alloc w (.map #[] 0)).grown hgrow1 (by simp) (fun k h => by cases h)
    have e1 : (w.alloc (.map #[] 0)).heap.size = w.heap.size + 1 := by simp
    rw [e1] at hown1
    exact ⟨0, Nat.zero_le _, rfl, (World.ownsMap_made w _ _ _).kept hgrow1 (by simp), hown1, ⟨_, _, rfl⟩, hB1, by have := hgrow1.size; simp at this; omega⟩
  case round =>
    obtain ⟨k, hk, rfl, hown, hrow, ⟨g1, cap1, rfl⟩, hnx, hws⟩ := hrel
    have hul : (uniqAll (l.take k)).length ≤ k := by
      have h1 := uniqAll_length_le (l.take k)
      have h2 := List.length_take_le k l
      omega
    clear hmm hgrow1 hown1
    by_cases hlt : k < n
    · obtain ⟨c, hck⟩ := get_some (l := l) (k := k) (by rw [← Hn.out]; exact hlt)
      obtain ⟨g, off, rfl, hg, x0, x1⟩ := hcx k c hck
      replace x0 := (hnx.cell (p := ⟨g, off + k * 2, none⟩) hg).trans x0
      replace x1 := (hnx.cell (p := ⟨g, off + k * 2 + 1, none⟩) hg).trans x1
      have htk : l.take (k + 1) = l.take k ++ [c] := by rw [List.take_add_one, hck]; rfl
      have HU : Hid (uniqAll (l.take (k + 1)) = uniq (uniqAll (l.take k)) c) := by rw [htk]; exact uniqAll_snoc _ _
      have hkey := keyC c
      clear hck htk hcx
      by_cases hcon : (uniqAll (l.take k)).contains c = true
      · have HS : Hid (uniqAll (l.take (k + 1)) = uniqAll (l.take k)) := HU.out.trans (by unfold uniq; exact if_pos hcon)
        have hh : Maps.has (setS (uniqAll (l.take k))) (keyS c) = true := by rw [has_setS]; exact hcon
        clear hcon HU
        go_wp2_with (at_lookup; refine wpList_lookup_own_unit _ rfl _ _ 68 rfl 25 69 lawC Tryd.underlying68 (zeroU _) w.heap.size k _ rfl (hown.alloc _) _ _ rfl hkey ?_; rw [hh])
        go_roundw
        case rel =>
          refine ⟨k + 1, by omega, by go_num, ?_, ?_, ⟨g1, cap1, by rw [HS.out]⟩, (hnx.alloc hnx.size _).alloc (by simp; omega) _, by simp; omega⟩
          · rw [HS.out]
            exact ((hown.alloc _).alloc _).mono (Nat.le_succ _)
          · rw [HS.out]
            exact (World.ownsRow.alloc hrow _).alloc _
        case measure => simp [intOf]; omega
      · have hcon : (uniqAll (l.take k)).contains c = false := by simpa using hcon
        have HS : Hid (uniqAll (l.take (k + 1)) = uniqAll (l.take k) ++ [c]) := HU.out.trans (by unfold uniq; exact if_neg (by rw [hcon]; simp))
        have hh : Maps.has (setS (uniqAll (l.take k))) (keyS c) = false := by rw [has_setS]; exact hcon
        clear hcon HU
        have hne := row_not_map hrow hown
        go_wp2_with (first
          | (at_lookup; refine wpList_lookup_own_unit _ rfl _ _ 68 rfl 25 69 lawC Tryd.underlying68 (zeroU _) w.heap.size k _ rfl (hown.alloc _) _ _ rfl hkey ?_; rw [hh])
          | (at_mapUpdate; refine wpList_mapUpdate_own _ rfl _ _ _ 68 rfl 25 69 lawC Tryd.underlying68 (unitElem (H := Unit)) w.heap.size k _ rfl ((hown.alloc _).alloc _) (by unfold maxLen; omega) _ _ _ rfl rfl hkey _ [] unitElem_mk ?_; intro w2 hown2 hgrow2; have y0 : w2.cell? ⟨wr.heap.size, 0, none⟩ = some (.int .u32 (c.1.val : Int)) := (hgrow2.cell_far ⟨wr.heap.size, 0, none⟩ (by simp; omega) (by simp; omega)).trans (by simp [go_sem]); have y1 : w2.cell? ⟨wr.heap.size, 1, none⟩ = some (.int .u32 (c.2.val : Int)) := (hgrow2.cell_far ⟨wr.heap.size, 1, none⟩ (by simp; omega) (by simp; omega)).trans (by simp [go_sem]))
          | (at_builtin; refine wpList_append_own _ rfl _ _ 22 rfl (w.heap.size + 1) 25 i0 (.agg #[.int .u32 0, .int .u32 0]) 2 8 Tryd.underlying22 hi hz0 hz1 hz2 rfl (by decide) _ _ _ rfl ((((World.ownsRow.alloc hrow _).alloc _).kept hgrow2 (Or.inr hne.symm)).alloc _) ⟨w2.heap.size, 0, none⟩ 1 1 (encC c) rfl rfl (new_two _ _ _ _) (flat_one c ▸ flat_oneCell [c]) (by unfold maxLen; omega) (by omega) (by have := hgrow2.size; simp at this ⊢; omega) ?_; intro v' w3 hown3 hgrow3 hnil3))
        have hgrow3' : (w2.alloc (.cells #[.int .u32 (c.1.val : Int), .int .u32 (c.2.val : Int)] 25)).grownBy w3 (some g1) := hgrow3
        have hne' : some w.heap.size ≠ some g1 := hne
        have hg1 := (World.ownsRow.lt hrow g1 rfl).1
        have hrow3 : OwnsC w3 (w.heap.size + 1) v' (uniqAll (l.take k) ++ [c]) := by
          unfold OwnsC
          rw [flat_append, flat_one, List.length_append]
          exact hown3
        obtain ⟨g4, cap4, hv4, _, _⟩ := World.ownsRow.form hown3 (Nat.succ_pos _)
        subst hv4
        have s2 := hgrow2.size
        have s3 := hgrow3'.size
        simp at s2 s3
        clear hgrow3 hnil3 hown3
        go_roundw
        case rel =>
          refine ⟨k + 1, by omega, by go_num, ?_, ?_, ⟨g4, cap4, by rw [HS.out]; simp⟩, ?_, by omega⟩
          · rw [HS.out, setS_snoc]
            exact (hown2.alloc _).kept hgrow3' hne'
          · rw [HS.out]; exact hrow3
          · exact (((((hnx.alloc hnx.size _).alloc (by simp; omega) _).grown hgrow2 (by simp; omega) (fun j hj => by cases hj; exact Nat.le_refl _)).alloc (by omega) _).grown hgrow3' (by simp; omega) (fun j hj => by cases hj; omega))
        case measure => simp [intOf]; omega
    · obtain rfl : k = n := by omega
      have e : l.take k = l := List.take_of_length_le (by rw [← Hn.out]; exact Nat.le_refl _)
      rw [e] at hrow hul ⊢
      have hg1 := (World.ownsRow.lt hrow g1 rfl).1
      have hS := sort_any (uniqAll l) (w.heap.size + 1) g1 cap1 wr hrow (uniqAll_nodup l) (by omega)
      clear hcx
      go_wp2_with (go_at_call 54; refine hS.mono ?_; rintro e w4 ⟨rfl, o, ho1, ho2, ho3, ho4⟩)
      go_ret
      exact ⟨_, o, rfl, ho3, ho1, fun c => by rw [ho2.mem_iff, mem_uniqAll], by rw [ho2.length_eq]; exact hul, hnx.trans (ho4 _ (by omega))⟩
end Go.Proofs.YtdikaomebbpmhabDoor
