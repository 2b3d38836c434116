/- Least: those of a row that are needed, in new memory; or why that is not told. Nothing that lay before the call turns. -/
import Derived.Test.YtdikaomebbpmhabDoorCOrder
import Derived.Test.YtdikaomebbpmhabDoorMathAll
namespace Go.Proofs.YtdikaomebbpmhabDoor
open Go.RowKit
set_option linter.unusedVariables false
set_option linter.unusedSimpArgs false

theorem all_take_step {l : List C} {k : Nat} {c : C} (h : (l.take k).all rightC = true) (h1 : l[k]? = some c) (hc : rightC c = true) : (l.take (k + 1)).all rightC = true := by
  rw [List.take_add_one, h1, List.all_append, h]; simp [hc]
theorem not_all {l : List C} {k : Nat} {c : C} (h1 : l[k]? = some c) (hc : rightC c = false) : l.all rightC = false := by
  rw [List.all_eq_false]
  exact ⟨c, List.mem_of_getElem? h1, by simp [hc]⟩
theorem OwnsC.below {w w' : World} {base : Nat} {v : Value} {l : List C} (h : OwnsC w base v l) (hb : Below w.heap.size w w') : OwnsC w' base v l := by
  have hlt := World.ownsRow.lt h
  obtain ⟨h1, h2⟩ := h
  refine ⟨h1, h2.imp id ?_⟩
  rintro ⟨g, cap, cur, rfl, hg, hh, r⟩
  exact ⟨g, cap, cur, rfl, hg, (hb.block g (hlt g rfl).2).trans hh, r⟩
theorem keepAll_take_step {o : List C} {k : Nat} {c : C} (h1 : o[k]? = some c) : keepAll (o.take (k + 1)) = keep (keepAll (o.take k)) c := by
  have e : o.take (k + 1) = o.take k ++ [c] := by rw [List.take_add_one, h1]; rfl
  rw [e, keepAll_snoc]
theorem keepAll_take_le (o : List C) (k : Nat) : (keepAll (o.take k)).length ≤ (keepAll o).length := by
  have := keepAll_length_mono (o.take k) (o.drop k)
  rwa [List.take_append_drop] at this

set_option maxHeartbeats 2000000 in
set_option maxRecDepth 100000 in
theorem least_any (l : List C) (v : Value) (w : World) (hv : CRow w v l) (hl : l.length ≤ 100000) :
    Calls Tryd.prog 20 #[v] w fun e w' => ∃ v' M er, e = .returned (.tuple #[v', .int .i64 er]) ∧ LeastIs l M er ∧ OwnsC w' w.heap.size v' M ∧ Below w.heap.size w w' := by
  obtain ⟨i0, hi, hz0, hz1, hz2⟩ := info_parts Tryd.infoC
  have hv0 := hv
  obtain ⟨a0, cap, rfl⟩ : ∃ a0 cap, v = .slice a0 l.length cap := hv.len
  have hcx : ∀ k c, l[k]? = some c → ∃ g off, a0 = some ⟨g, off, none⟩ ∧ g < w.heap.size ∧ w.cell? ⟨g, off + k * 2, none⟩ = some (.int .u32 (c.1.val : Int)) ∧ w.cell? ⟨g, off + k * 2 + 1, none⟩ = some (.int .u32 (c.2.val : Int)) := fun k c hk => by
    have hz : l ≠ [] := by rintro rfl; simp at hk
    obtain ⟨g, off, cap2, e, hg, hc⟩ := hv.cons hz
    have e2 : a0 = some ⟨g, off, none⟩ := by injection e
    exact ⟨g, off, e2, hg, (hc k c hk).1, (hc k c hk).2⟩
  clear hv
  have hO : ∀ W, Below w.heap.size w W → Calls Tryd.prog 39 #[.slice a0 l.length cap] W fun e w' => ∃ v' o, e = .returned v' ∧ CRow w' v' o ∧ risesC o ∧ (∀ c, c ∈ o ↔ c ∈ l) ∧ o.length ≤ l.length ∧ Below W.heap.size W w' :=
    fun W hB => ordered_any l _ W (hv0.below hB) hl
  clear hv0
  obtain ⟨n, hn⟩ : ∃ n, n = l.length := ⟨_, rfl⟩
  have Hn : Hid (n = l.length) := hn
  rw [← hn] at hl hO ⊢
  clear hn
  go_enter Tryd.func20, Tryd.ntmps20
  go_wp2
  go_loopw [11] (fun i wr => ∃ k : Nat, k ≤ n ∧ i = .int .i64 k ∧ (l.take k).all rightC = true ∧ Below w.heap.size w wr) (fun i _ => n - (intOf i).toNat)
  case atStart => exact ⟨0, Nat.zero_le _, rfl, rfl, Below.refl _ _⟩
  case round =>
    obtain ⟨k, hk, rfl, hall, hnx⟩ := hrel
    have HA : Hid ((l.take k).all rightC = true) := hall
    clear hall
    by_cases hlt : k < n
    · obtain ⟨c, hck⟩ := get_some (l := l) (k := k) (by rw [← Hn.out]; exact hlt)
      obtain ⟨g, off, rfl, hg, x0, x1⟩ := hcx k c hck
      replace x0 := (hnx.cell (p := ⟨g, off + k * 2, none⟩) hg).trans x0
      replace x1 := (hnx.cell (p := ⟨g, off + k * 2 + 1, none⟩) hg).trans x1
      have HC : Hid (l[k]? = some c) := hck
      clear hck hcx hO
      cases hrc : rightC c
      · go_wp2_with (go_at_call 6; refine (cright_any c _).mono ?_; rintro e w2 ⟨rfl, hG⟩; rw [hrc])
        go_ret2
        exact ⟨_, [], 2, rfl, .inl ⟨not_all HC.out hrc, rfl, rfl⟩, World.ownsRow_nil _ _ _ _, (hnx.alloc hnx.size _).trans (hG.below.mono (by have := hnx.size; simp; omega))⟩
      · go_wp2_with (go_at_call 6; refine (cright_any c _).mono ?_; rintro e w2 ⟨rfl, hG⟩; rw [hrc])
        go_roundw
        case rel => exact ⟨k + 1, by omega, by go_num, all_take_step HA.out HC.out hrc, (hnx.alloc hnx.size _).trans (hG.below.mono (by have := hnx.size; simp; omega))⟩
        case measure => simp [intOf]; omega
    · obtain rfl : k = n := by omega
      have HR : Hid (l.all rightC = true) := by
        have h := HA.out
        rwa [List.take_of_length_le (by rw [← Hn.out]; exact Nat.le_refl _)] at h
      clear hcx
      go_wp2_with (go_at_call 39; refine (hO _ hnx).mono ?_; rintro e w2 ⟨v2, o, rfl, ho1, ho2, ho3, ho4, ho5⟩; obtain ⟨a2, cap2, rfl⟩ := ho1.len)
      have HLst : Hid (IsLeast l (keepAll o)) := isLeast_keepAll (fun c hc => List.all_eq_true.1 HR.out c hc) ho2 ho3
      have hcy : ∀ j c, o[j]? = some c → ∃ g off, a2 = some ⟨g, off, none⟩ ∧ g < w2.heap.size ∧ w2.cell? ⟨g, off + j * 2, none⟩ = some (.int .u32 (c.1.val : Int)) ∧ w2.cell? ⟨g, off + j * 2 + 1, none⟩ = some (.int .u32 (c.2.val : Int)) := fun j c hj => by
        have hz : o ≠ [] := by rintro rfl; simp at hj
        obtain ⟨g, off, cap3, e, hg, hc⟩ := ho1.cons hz
        have e2 : a2 = some ⟨g, off, none⟩ := by injection e
        exact ⟨g, off, e2, hg, (hc j c hj).1, (hc j c hj).2⟩
      have hB2 : Below w.heap.size w w2 := chain hnx ho5
      clear ho1 ho2 ho3 ho5 hO
      obtain ⟨m, hm⟩ : ∃ m, m = o.length := ⟨_, rfl⟩
      have Hm : Hid (m = o.length) := hm
      rw [← hm] at ho4 ⊢
      clear hm
      go_loopw [6, 22] (fun v i wr => ∃ j : Nat, j ≤ m ∧ i = .int .i64 j ∧ OwnsC wr w2.heap.size v (keepAll (o.take j)) ∧ (∃ a cap, v = .slice a (keepAll (o.take j)).length cap) ∧ (keepAll (o.take j)).length ≤ 64 ∧ Below w2.heap.size w2 wr) (fun _ i _ => m - (intOf i).toNat)
      case atStart => exact ⟨0, Nat.zero_le _, rfl, World.ownsRow_nil _ _ _ _, ⟨_, _, rfl⟩, by simp [keepAll], Below.refl _ _⟩
      case round =>
        obtain ⟨j, hj, rfl, hrow, ⟨a3, cap3, rfl⟩, h64, hny⟩ := hrel
        by_cases hlt2 : j < m
        · obtain ⟨c, hcj⟩ := get_some (l := o) (k := j) (by rw [← Hm.out]; exact hlt2)
          obtain ⟨g, off, rfl, hg, x0, x1⟩ := hcy j c hcj
          replace x0 := (hny.cell (p := ⟨g, off + j * 2, none⟩) hg).trans x0
          replace x1 := (hny.cell (p := ⟨g, off + j * 2 + 1, none⟩) hg).trans x1
          have HK : Hid (keepAll (o.take (j + 1)) = keep (keepAll (o.take j)) c) := keepAll_take_step hcj
          have HM : Hid ((keepAll (o.take (j + 1))).length ≤ (keepAll o).length) := keepAll_take_le o (j + 1)
          clear hcj hcy
          have hbo : ∀ ob, Calls Tryd.prog 40 #[clV c, .slice a3 (keepAll (o.take j)).length cap3] (wr.alloc ob) fun e w' => e = .returned (.bool ((keepAll (o.take j)).any (fun b => belC c b))) ∧ Below (wr.alloc ob).heap.size (wr.alloc ob) w' :=
            fun ob => belowOne_any c _ _ _ (OwnsC.row (World.ownsRow.alloc hrow ob)) (by omega)
          cases hany : (keepAll (o.take j)).any (fun b => belC c b)
          · rw [hany] at hbo
            have HS : Hid (keepAll (o.take (j + 1)) = keepAll (o.take j) ++ [c]) := HK.out.trans (by unfold keep; exact if_neg (by rw [hany]; simp))
            clear hany HK
            obtain ⟨q, hq⟩ : ∃ q, q = (keepAll (o.take j)).length := ⟨_, rfl⟩
            have Hq : Hid (q = (keepAll (o.take j)).length) := hq
            by_cases hfull : q = 64
            · have hbig : Hid (64 < (keepAll o).length) := by
                have h := HM.out
                rw [HS.out, List.length_append, ← hq, hfull] at h
                simp at h
                exact h
              rw [← hq, hfull] at hbo ⊢
              clear hq
              go_wp2_with (go_at_call 40; refine (hbo _).mono ?_; rintro e w3 ⟨rfl, hb3⟩)
              go_ret2
              exact ⟨_, [], 3, rfl, .inr ⟨HR.out, _, HLst.out, .inr ⟨hbig.out, rfl, rfl⟩⟩, World.ownsRow_nil _ _ _ _, chain hB2 ((hny.alloc hny.size _).trans (hb3.mono (by have := hny.size; simp; omega)))⟩
            · have hq64 : q < 64 := by omega
              have hrow1 := fun ob w3 (hb3 : Below (wr.alloc ob).heap.size (wr.alloc ob) w3) => OwnsC.below (World.ownsRow.alloc hrow ob) hb3
              rw [← hq] at hbo hrow1 ⊢
              clear hq
              go_wp2_with (first
                | (go_at_call 40; refine (hbo _).mono ?_; rintro e w3 ⟨rfl, hb3⟩; have y0 : w3.cell? ⟨wr.heap.size, 0, none⟩ = some (.int .u32 (c.1.val : Int)) := (hb3.cell (p := ⟨wr.heap.size, 0, none⟩) (by simp)).trans (by simp [go_sem]); have y1 : w3.cell? ⟨wr.heap.size, 1, none⟩ = some (.int .u32 (c.2.val : Int)) := (hb3.cell (p := ⟨wr.heap.size, 1, none⟩) (by simp)).trans (by simp [go_sem]))
                | (at_builtin; refine wpList_append_own _ rfl _ _ 22 rfl w2.heap.size 25 i0 (.agg #[.int .u32 0, .int .u32 0]) 2 8 Tryd.underlying22 hi hz0 hz1 hz2 rfl (by decide) _ _ _ rfl (World.ownsRow.alloc (hrow1 _ _ hb3) _) ⟨w3.heap.size, 0, none⟩ 1 1 (encC c) rfl rfl (new_two _ _ _ _) (flat_one c ▸ flat_oneCell [c]) (by rw [← Hq.out]; unfold maxLen; omega) (by rw [← Hq.out]; omega) (by have := hb3.size; have := hny.size; simp at *; omega) ?_; intro v' w4 hown4 hgrow4 hnil4))
              have hB3 : Below w2.heap.size w2 w3 := (hny.alloc hny.size _).trans (hb3.mono (by have := hny.size; simp; omega))
              have hlow := World.ownsRow.lt hrow
              rw [← Hq.out] at hlow hown4
              have hrow4 : OwnsC w4 w2.heap.size v' (keepAll (o.take j) ++ [c]) := by
                unfold OwnsC
                rw [flat_append, flat_one, List.length_append, ← Hq.out]
                exact hown4
              obtain ⟨g4, cap4, hv4, _, _⟩ := World.ownsRow.form hown4 (Nat.succ_pos _)
              subst hv4
              go_roundw
              case rel => exact ⟨j + 1, by omega, by go_num, by rw [HS.out]; exact hrow4, ⟨_, cap4, by rw [HS.out, List.length_append, ← Hq.out]; rfl⟩, by rw [HS.out, List.length_append, ← Hq.out]; simp; omega, (hB3.alloc hB3.size _).grown hgrow4 (by have := hB3.size; simp; omega) (fun i hi => (hlow i hi).1)⟩
              case measure => simp [intOf]; omega
          · rw [hany] at hbo
            have HS : Hid (keepAll (o.take (j + 1)) = keepAll (o.take j)) := HK.out.trans (by unfold keep; exact if_pos hany)
            clear hany HK
            go_wp2_with (go_at_call 40; refine (hbo _).mono ?_; rintro e w3 ⟨rfl, hb3⟩)
            go_roundw
            case rel => exact ⟨j + 1, by omega, by go_num, by rw [HS.out]; exact OwnsC.below (World.ownsRow.alloc hrow _) hb3, ⟨a3, cap3, by rw [HS.out]⟩, by rw [HS.out]; exact h64, (hny.alloc hny.size _).trans (hb3.mono (by have := hny.size; simp; omega))⟩
            case measure => simp [intOf]; omega
        · obtain rfl : j = m := by omega
          have e : o.take j = o := List.take_of_length_le (by rw [← Hm.out]; exact Nat.le_refl _)
          rw [e] at hrow h64 ⊢
          have hrow' := OwnsC.mono hrow hB2.size
          go_wp2
          go_ret2
          exact ⟨_, keepAll o, 0, rfl, .inr ⟨HR.out, _, HLst.out, .inl ⟨h64, rfl, rfl⟩⟩, hrow', chain hB2 hny⟩
end Go.Proofs.YtdikaomebbpmhabDoor
