/- fold over a row of clauses, from a row on; opposites of a clause's literals. -/
import Derived.Test.YtdikaomebbpmhabDoorFMeet
import Derived.Test.YtdikaomebbpmhabDoorMathAll
import Derived.Test.YtdikaomebbpmhabDoorLoops
import Derived.Test.YtdikaomebbpmhabDoorRefA
namespace Go.Proofs.YtdikaomebbpmhabDoor
open Go.RowKit
set_option linter.unusedVariables false
set_option linter.unusedSimpArgs false

set_option maxRecDepth 100000 in
set_option maxHeartbeats 2000000 in
theorem foldCR_any (fid : Nat) (cap : Array Value) (eg : ∀ args w, (callFunc fid args).run Tryd.prog w = .ok (.enter fid args) w) (l : List C) (vs first : Value) (wb w : World) (hv : CRow wb vs l) (hl : l.length ≤ 100000)
    (I : Nat → Value → World → Prop) (Q : Int → Prop) (hI : ∀ k v W W', I k v W → Below W.heap.size W W' → I k v W') (hB : Below wb.heap.size wb w) (h0 : I 0 first w)
    (hn : ∀ k c v W, l[k]? = some c → Below wb.heap.size wb W → I k v W → Calls Tryd.prog fid (#[v, clV c] ++ cap) W fun e w' => Below wb.heap.size wb w' ∧ ∃ v' er, e = .returned (.tuple #[v', .int .i64 er]) ∧ ((er = 0 ∧ I (k + 1) v' w') ∨ (er ≠ 0 ∧ Q er))) :
    Calls Tryd.prog 57 #[vs, first, .func (.func fid) #[] cap] w fun e w' => Below wb.heap.size wb w' ∧ ∃ v' er, e = .returned (.tuple #[v', .int .i64 er]) ∧ ((er = 0 ∧ I l.length v' w') ∨ (er ≠ 0 ∧ v' = .slice none 0 0 ∧ Q er)) := by
  obtain ⟨pa, ca, rfl⟩ := hv.len
  have Ha : Hid (CRow wb (.slice pa l.length ca) l) := hv
  clear hv
  obtain ⟨n, hn1⟩ : ∃ n, n = l.length := ⟨_, rfl⟩
  have Hn : Hid (n = l.length) := hn1
  rw [← hn1] at hl Ha ⊢
  clear hn1
  have H0 : Hid (I 0 first w) := h0
  have HI : Hid (∀ k v W W', I k v W → Below W.heap.size W W' → I k v W') := hI
  have HN : Hid (∀ k c v W, l[k]? = some c → Below wb.heap.size wb W → I k v W → Calls Tryd.prog fid (#[v, clV c] ++ cap) W fun e w' => Below wb.heap.size wb w' ∧ ∃ v' er, e = .returned (.tuple #[v', .int .i64 er]) ∧ ((er = 0 ∧ I (k + 1) v' w') ∨ (er ≠ 0 ∧ Q er))) := hn
  clear h0 hI hn
  go_enter Tryd.func57, Tryd.ntmps57
  go_wp2
  go_loopw [8, 16] (fun v i wr => ∃ k : Nat, k ≤ n ∧ i = .int .i64 k ∧ Hid (I k v wr) ∧ Below wb.heap.size wb wr) (fun _ i _ => n - (intOf i).toNat)
  case atStart => exact ⟨0, Nat.zero_le _, rfl, H0, hB⟩
  case round =>
    obtain ⟨k, hk, rfl, hIk, hny⟩ := hrel
    by_cases hlt : k < n
    · obtain ⟨c, hck⟩ := get_some (l := l) (k := k) (by rw [← Hn.out]; exact hlt)
      obtain ⟨g, off, rfl, hg, x0, x1⟩ := (Ha.out.below hny).at hck
      have HC := HN.out k c _ (wr.alloc (.cells #[.int .u32 (c.1.val : Int), .int .u32 (c.2.val : Int)] 25)) hck (chain hny (below_alloc _ _)) (HI.out _ _ _ _ hIk.out (below_alloc _ _))
      clear hck
      go_wp2_with fail
      refine HC.mono ?_
      rintro e w2 ⟨hB2, v2, er, rfl, ⟨rfl, hI2⟩ | ⟨hne, hq⟩⟩
      · have HI2 : Hid (I (k + 1) v2 w2) := hI2
        clear hI2 HC
        go_wp2
        go_roundw
        case rel => exact ⟨k + 1, by omega, by go_num, HI2, hB2⟩
        case measure => simp [intOf]; omega
      · have HQ : Hid (Q er) := hq
        clear hq HC
        go_wp2
        go_ret2
        exact ⟨hB2, _, er, rfl, .inr ⟨hne, rfl, HQ.out⟩⟩
    · obtain rfl : k = n := by omega
      go_wp2
      go_ret2
      exact ⟨hny, _, 0, rfl, .inl ⟨rfl, hIk.out⟩⟩

/-! ### opposites -/
theorem with0 (k : Nat) (hk : k < 24) (w : World) : Calls Tryd.prog 45 #[.int .u32 0, .int .i64 (k : Int)] w fun e w' => e = .returned (.int .u32 ((bitF k).val : Int)) ∧ w' = w := by
  have h := with_any 0 (k : Int) w (by decide)
  have e : withN 0 (k : Int) = (bitF k).val := by
    rw [withN, isDimB_nat hk, bitF_val hk]; simp
  rw [e] at h
  exact h
theorem row_neg (w : World) (k : Nat) : CRow (w.alloc (.cells #[.int .u32 0, .int .u32 ((bitF k).val : Int)] 25)) (.slice (some ⟨w.heap.size, 0, none⟩) 1 1) [negB k] := row_one w (negB k)
theorem row_pos (w : World) (k : Nat) : CRow (w.alloc (.cells #[.int .u32 ((bitF k).val : Int), .int .u32 0] 25)) (.slice (some ⟨w.heap.size, 0, none⟩) 1 1) [posB k] := row_one w (posB k)
/-- A row of numbers that is read while another one grows. -/
def Reads (W : World) (a : Option Addr) (n : Nat) (d : List Nat) (v : Value) : Prop := n = 0 ∨ ∃ g, a = some ⟨g, 0, none⟩ ∧ g < W.heap.size ∧ v.ownBlock ≠ some g ∧ ∀ j, j < n → W.cell? ⟨g, j, none⟩ = some (.int .i64 ((d[j]?.getD 0 : Nat) : Int))
theorem Reads.below {W W' : World} {a : Option Addr} {n : Nat} {d : List Nat} {v : Value} (h : Reads W a n d v) (hb : Below W.heap.size W W') : Reads W' a n d v :=
  h.imp id fun ⟨g, h1, h2, h3, h4⟩ => ⟨g, h1, Nat.lt_of_lt_of_le h2 hb.size, h3, fun j hj => (hb.cell (p := ⟨g, j, none⟩) h2).trans (h4 j hj)⟩
theorem Reads.far {W W' : World} {a : Option Addr} {n : Nat} {d : List Nat} {v v' : Value} (h : Reads W a n d v) (hg : W.grownBy W' v.ownBlock) (hv : v'.ownBlock = v.ownBlock ∨ v'.ownBlock = some W.heap.size) : Reads W' a n d v' :=
  h.imp id fun ⟨g, h1, h2, h3, h4⟩ => ⟨g, h1, Nat.lt_of_lt_of_le h2 hg.size, own_next hv h3 h2, fun j hj => (hg.cell_far ⟨g, j, none⟩ h2 h3.symm).trans (h4 j hj)⟩
theorem Reads.of {W : World} {base : Nat} {vl : Value} {d : List Nat} (h : OwnsL W base vl d) : ∃ a cap, vl = .slice a d.length cap ∧ ∀ v : Value, (∀ g, v.ownBlock = some g → g < base) → Reads W a d.length d v := by
  rcases OwnsL.rowAt h with ⟨rfl, rfl⟩ | ⟨g, cap, rfl, hg, hc⟩
  · exact ⟨none, 0, rfl, fun v _ => .inl rfl⟩
  · refine ⟨_, cap, rfl, fun v hv => .inr ⟨g, rfl, hg, fun e => ?_, hc⟩⟩
    have h1 := hv g e
    have h2 := (World.ownsRow.lt h g rfl).1
    omega
theorem map_take_nat {d : List Nat} {f : Nat → C} {k : Nat} (h : k < d.length) : (d.take (k + 1)).map f = (d.take k).map f ++ [f (d[k]?.getD 0)] := by
  have e : d[k]?.getD 0 = d[k] := by simp [h]
  rw [List.take_succ_eq_append_getElem h, List.map_append, e]; rfl

set_option maxRecDepth 100000 in
set_option maxHeartbeats 4000000 in
theorem opp_any (c : C) (w : World) :
    Calls Tryd.prog 60 #[clV c] w fun e w' => ∃ v, e = .returned v ∧ OwnsC w' w.heap.size v (oppC c) ∧ Below w.heap.size w w' := by
  have hA := At.made w c 25
  have hB := below_alloc w (.cells #[.int .u32 (c.1.val : Int), .int .u32 (c.2.val : Int)] 25)
  have hc1 := c.1.isLt
  have hc2 := c.2.isLt
  have hd1 : ∀ {k}, k < (dimsOf c.1.val).length → (dimsOf c.1.val)[k]?.getD 0 < 24 := fun h => getD_lt dimsOf_lt h
  have hd2 : ∀ {k}, k < (dimsOf c.2.val).length → (dimsOf c.2.val)[k]?.getD 0 < 24 := fun h => getD_lt dimsOf_lt h
  have hl1 := dimsOf_length_le c.1.val
  have hl2 := dimsOf_length_le c.2.val
  go_enter Tryd.func60, Tryd.ntmps60
  go_wp2_with fail
  generalize w.alloc (.cells #[.int .u32 (c.1.val : Int), .int .u32 (c.2.val : Int)] 25) = wb at hA hB ⊢
  refine (list_any c.1.val wb hc1).mono ?_
  rintro e w1 ⟨vl, rfl, hOl, hB1⟩
  obtain ⟨pa, ca, rfl, hR⟩ := Reads.of hOl
  replace hR := hR (.slice none 0 0) (fun g h => by cases h)
  obtain ⟨n1, hn1⟩ : ∃ n1, n1 = (dimsOf c.1.val).length := ⟨_, rfl⟩
  have Hn1 : Hid (n1 = (dimsOf c.1.val).length) := hn1
  rw [← hn1] at hl1 hR ⊢
  clear hn1 hOl
  go_wp2
  go_loopw [3, 12] (fun v i wr => ∃ k : Nat, k ≤ n1 ∧ i = .int .i64 k ∧ OwnsC wr wb.heap.size v (((dimsOf c.1.val).take k).map negB) ∧ Reads wr pa n1 (dimsOf c.1.val) v ∧ Below wb.heap.size wb wr) (fun _ i _ => n1 - (intOf i).toNat)
  case atStart => exact ⟨0, Nat.zero_le _, rfl, World.ownsRow_nil _ _ _ _, hR, hB1⟩
  case round =>
    obtain ⟨k, hk, rfl, hO, hRd, hny⟩ := hrel
    clear hR
    by_cases hlt : k < n1
    · obtain ⟨g, rfl, hg, hne, hcell⟩ := hRd.resolve_left (by omega)
      have hRd2 : Reads wr (some ⟨g, 0, none⟩) n1 (dimsOf c.1.val) _ := .inr ⟨g, rfl, hg, hne, hcell⟩
      have x0 := hcell k hlt
      have hx := hd1 (k := k) (by rw [← Hn1.out]; exact hlt)
      have HM : Hid (((dimsOf c.1.val).take (k + 1)).map negB = ((dimsOf c.1.val).take k).map negB ++ [negB ((dimsOf c.1.val)[k]?.getD 0)]) := map_take_nat (by rw [← Hn1.out]; exact hlt)
      have hlen : Hid ((((dimsOf c.1.val).take k).map negB).length + [negB ((dimsOf c.1.val)[k]?.getD 0)].length ≤ 200000) := by
        have := List.length_take_le k (dimsOf c.1.val)
        show (((dimsOf c.1.val).take k).map negB).length + 1 ≤ 200000
        rw [List.length_map]; omega
      clear hcell hne
      generalize (dimsOf c.1.val)[k]?.getD 0 = x at x0 hx HM hlen
      go_wp2_with (first
        | (go_at_call 45; refine (with0 _ hx _).mono ?_; rintro e w3 ⟨rfl, rfl⟩)
        | (at_builtin; refine wpList_append_row rfl _ _ rfl wb.heap.size _ _ _ [negB x] rfl rfl (OwnsC.below hO (below_alloc _ _)) (row_neg _ _) hlen.out (by have := hny.size; simp at *; omega) ?_; intro v4 w4 hO4 hg4 hv4))
      have hX := chain hny (below_alloc w3 (.cells #[.int .u32 0, .int .u32 ((bitF x).val : Int)] 25))
      have hOX := OwnsC.below hO (below_alloc w3 (.cells #[.int .u32 0, .int .u32 ((bitF x).val : Int)] 25))
      have hRX := hRd2.below (below_alloc w3 (.cells #[.int .u32 0, .int .u32 ((bitF x).val : Int)] 25))
      go_roundw
      case rel => exact ⟨k + 1, by omega, by go_num, by rw [HM.out]; exact hO4, hRX.far hg4 hv4, hX.trans (own_grown hOX hg4 hX.size)⟩
      case measure => simp [intOf]; omega
    · obtain rfl : k = n1 := by omega
      have e1 : (dimsOf c.1.val).take k = dimsOf c.1.val := List.take_of_length_le (by rw [← Hn1.out]; exact Nat.le_refl _)
      rw [e1] at hO
      clear hRd
      obtain ⟨z0, z1, z2⟩ := hA.below hny
      go_wp2_with fail
      refine (list_any c.2.val wr hc2).mono ?_
      rintro e w5 ⟨vl, rfl, hOl, hB5⟩
      obtain ⟨pb, cb, rfl, hR⟩ := Reads.of hOl
      have hOw := hO
      have hRb := hR _ (fun g h => (World.ownsRow.lt hOw g h).2)
      clear hR
      have hO5 := OwnsC.below hO hB5
      have hny5 := chain hny hB5
      obtain ⟨n2, hn2⟩ : ∃ n2, n2 = (dimsOf c.2.val).length := ⟨_, rfl⟩
      have Hn2 : Hid (n2 = (dimsOf c.2.val).length) := hn2
      rw [← hn2] at hl2 hRb ⊢
      clear hn2 hOl hO hOw hny z0 z1 z2
      go_wp2
      go_loopw [3, 27] (fun v i wr => ∃ k : Nat, k ≤ n2 ∧ i = .int .i64 k ∧ OwnsC wr wb.heap.size v ((dimsOf c.1.val).map negB ++ ((dimsOf c.2.val).take k).map posB) ∧ Reads wr pb n2 (dimsOf c.2.val) v ∧ Below wb.heap.size wb wr) (fun _ i _ => n2 - (intOf i).toNat)
      case atStart => exact ⟨0, Nat.zero_le _, rfl, by simpa using hO5, hRb, hny5⟩
      case round =>
        obtain ⟨j, hj, rfl, hO, hRd, hny⟩ := hrel
        clear hRb hO5 hny5
        by_cases hlt : j < n2
        · obtain ⟨g, rfl, hg, hne, hcell⟩ := hRd.resolve_left (by omega)
          have hRd2 : Reads wr (some ⟨g, 0, none⟩) n2 (dimsOf c.2.val) _ := .inr ⟨g, rfl, hg, hne, hcell⟩
          have x0 := hcell j hlt
          have hx := hd2 (k := j) (by rw [← Hn2.out]; exact hlt)
          have HM : Hid ((dimsOf c.1.val).map negB ++ ((dimsOf c.2.val).take (j + 1)).map posB = (dimsOf c.1.val).map negB ++ ((dimsOf c.2.val).take j).map posB ++ [posB ((dimsOf c.2.val)[j]?.getD 0)]) := by
            show _ = _
            rw [map_take_nat (by rw [← Hn2.out]; exact hlt), List.append_assoc]
          have hlen : Hid (((dimsOf c.1.val).map negB ++ ((dimsOf c.2.val).take j).map posB).length + [posB ((dimsOf c.2.val)[j]?.getD 0)].length ≤ 200000) := by
            have := List.length_take_le j (dimsOf c.2.val)
            show ((dimsOf c.1.val).map negB ++ ((dimsOf c.2.val).take j).map posB).length + 1 ≤ 200000
            rw [List.length_append, List.length_map, List.length_map, ← Hn1.out]; omega
          clear hcell hne
          generalize (dimsOf c.2.val)[j]?.getD 0 = x at x0 hx HM hlen
          go_wp2_with (first
            | (go_at_call 45; refine (with0 _ hx _).mono ?_; rintro e w3 ⟨rfl, rfl⟩)
            | (at_builtin; refine wpList_append_row rfl _ _ rfl wb.heap.size _ _ _ [posB x] rfl rfl (OwnsC.below hO (below_alloc _ _)) (row_pos _ _) hlen.out (by have := hny.size; simp at *; omega) ?_; intro v4 w4 hO4 hg4 hv4))
          have hX := chain hny (below_alloc w3 (.cells #[.int .u32 ((bitF x).val : Int), .int .u32 0] 25))
          have hOX := OwnsC.below hO (below_alloc w3 (.cells #[.int .u32 ((bitF x).val : Int), .int .u32 0] 25))
          have hRX := hRd2.below (below_alloc w3 (.cells #[.int .u32 ((bitF x).val : Int), .int .u32 0] 25))
          go_roundw
          case rel => exact ⟨j + 1, by omega, by go_num, by rw [HM.out]; exact hO4, hRX.far hg4 hv4, hX.trans (own_grown hOX hg4 hX.size)⟩
          case measure => simp [intOf]; omega
        · obtain rfl : j = n2 := by omega
          have e2 : (dimsOf c.2.val).take j = dimsOf c.2.val := List.take_of_length_le (by rw [← Hn2.out]; exact Nat.le_refl _)
          rw [e2] at hO
          go_wp2
          go_ret
          exact ⟨_, rfl, OwnsC.mono hO hB.size, chain hB hny⟩
end Go.Proofs.YtdikaomebbpmhabDoor
