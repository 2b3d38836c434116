/- The document's answer: Lift and Drop: what they hand back; nothing that lay before the call turns. -/
import Derived.WalkKit
import Derived.OwnWalk
import Derived.Test.YtkklmioejgpknaaRefB
namespace Go.Proofs.Ytkklmioejgpknaa
open Go.RowKit

theorem ownsRow_less {w : World} {base base' : Nat} {e : TypeId} {size : Nat} {v : Value} {n : Nat} {xs : List Value} (h : w.ownsRow base e size v n xs) (hb : base' ≤ base) : w.ownsRow base' e size v n xs :=
  ⟨h.1, h.2.imp id (fun ⟨g, cap, cur, a, b, c⟩ => ⟨g, cap, cur, a, Nat.le_trans hb b, c⟩)⟩
theorem encI_set {l : List Nat} {k x : Nat} : (l.map encI).set k (encI x) = (l.set k x).map encI := by rw [List.map_set]
theorem ret_two {k1 k2 : IntKind} {a b c d : Int} (h : a = b) (h2 : c = d) : Ending.returned (.tuple #[.int k1 a, .int k2 c]) = .returned (.tuple #[.int k1 b, .int k2 d]) := by rw [h, h2]
theorem nil_or_row {w : World} {base : Nat} {v : Value} {l : List Nat} (h : OwnsL w base v l) : (v = .slice none 0 0 ∧ l = []) ∨ ∃ g cap, v = .slice (some ⟨g, 0, none⟩) l.length cap ∧ base ≤ g := by
  obtain ⟨h1, h2 | ⟨g, cap, cur, rfl, hg, hh, hn, hc, hs, ht⟩⟩ := h
  · exact .inl ⟨h2.1, List.length_eq_zero_iff.1 h2.2⟩
  · exact .inr ⟨g, cap, rfl, hg⟩

set_option maxRecDepth 100000 in
set_option maxHeartbeats 1000000 in
theorem refLift_any (s : Nat) (fr by_ : Int) (w : World) (hs : s < 4294967296) :
    Calls Try.prog 79 #[.int .u32 s, .int .i64 fr, .int .i64 by_] w fun e w' => e = .returned (.tuple #[.int .u32 (liftN s fr by_ : Nat), .int .i64 (liftE s fr by_)]) ∧ Below w.heap.size w w' := by
  by_cases h0 : fr < 0
  · have HE := lift_arg (s := s) (argB_from (by_ := by_) h0)
    have H1 : Hid (liftN s fr by_ = 0) := HE.1
    have H2 : Hid (liftE s fr by_ = 2) := HE.2
    clear HE
    go_enter Try.func79, Try.ntmps79
    go_wp2_with fail
    go_ret2
    exact ⟨ret_two (by rw [H1.out]; rfl) (by rw [H2.out]), Below.refl _ _⟩
  · by_cases h1 : by_ < 0
    · have HE := lift_arg (s := s) (argB_by (from_ := fr) h1)
      have H1 : Hid (liftN s fr by_ = 0) := HE.1
      have H2 : Hid (liftE s fr by_ = 2) := HE.2
      clear HE
      go_enter Try.func79, Try.ntmps79
      go_wp2_with fail
      go_ret2
      exact ⟨ret_two (by rw [H1.out]; rfl) (by rw [H2.out]), Below.refl _ _⟩
    · have ha : argB fr by_ = false := argB_no (by omega) (by omega)
      have HBad : Hid (liftBad fr by_ (dimsOf s) = true → liftN s fr by_ = 0 ∧ liftE s fr by_ = 10) := fun h => lift_bad ha h
      have HOk : Hid (liftBad fr by_ (dimsOf s) = false → sumAll ((dimsOf s).map (upK fr by_)) = liftN s fr by_ ∧ liftE s fr by_ = 0) := fun h => by
        rw [(lift_ok ha h).1, (lift_ok ha h).2]
        exact ⟨sumAll_eq (sorted_nodup (up_sorted (by omega) (dimsOf_sorted s))), rfl⟩
      have H24 : Hid (liftBad fr by_ (dimsOf s) = false → ∀ k ∈ (dimsOf s).map (upK fr by_), k < 24) := fun h => up_bd (by omega) dimsOf_lt h
      have HD24 : Hid (∀ k ∈ dimsOf s, k < 24) := dimsOf_lt
      have hdl := dimsOf_length_le s
      have hList := refList_any s w hs
      obtain ⟨l, hl⟩ : ∃ l, l = dimsOf s := ⟨_, rfl⟩
      rw [← hl] at HBad HOk H24 HD24 hdl hList
      clear hl ha
      go_enter Try.func79, Try.ntmps79
      go_wp2_with (go_at_call 75; refine hList.mono ?_; rintro e w1 ⟨v, rfl, hL, hB1⟩)
      rcases nil_or_row hL with ⟨rfl, hnil⟩ | ⟨g, cap, rfl, hg⟩
      · have hE := HOk.out (by rw [hnil]; rfl)
        rw [hnil] at hE
        have H1 : Hid (liftN s fr by_ = 0) := hE.1.symm
        have H2 : Hid (liftE s fr by_ = 0) := hE.2
        clear hE hnil
        go_loopw [9] (fun i wr => i = .int .i64 0 ∧ wr = w1) (fun _ _ => 0)
        case atStart => exact ⟨rfl, rfl⟩
        case round =>
          obtain ⟨rfl, rfl⟩ := hrel
          go_wp2_with (go_at_call 38; refine (refSet_any [] _ _ (.inl ⟨rfl, rfl⟩) (by simp) (by simp)).mono ?_; rintro e w' ⟨rfl, rfl⟩)
          go_ret2
          exact ⟨ret_two (by rw [H1.out]; rfl) (by rw [H2.out]), hB1⟩
      · obtain ⟨n, hn⟩ : ∃ n, n = l.length := ⟨_, rfl⟩
        unfold OwnsL at hL
        rw [← hn] at hL hdl ⊢
        have HN : Hid (n = l.length) := hn
        clear hn
        go_loopw [9] (fun i wr => ∃ k : Nat, k ≤ n ∧ i = .int .i64 k ∧ wr.ownsRow w.heap.size 3 1 (.slice (some ⟨g, 0, none⟩) n cap) n ((midL (upK fr by_) l k).map encI) ∧ Below w.heap.size w wr ∧ Hid (∀ j, j < k → badK fr by_ (l[j]?.getD 0) = false)) (fun i _ => n - (intOf i).toNat)
        case atStart => exact ⟨0, by omega, rfl, by rw [midL_zero]; exact hL, hB1, fun j hj => by omega⟩
        case round =>
          obtain ⟨k, hk, rfl, hown, hB, HA⟩ := hrel
          by_cases hlt : k < n
          · have hk' : k < l.length := by rw [← HN.out]; exact hlt
            have hck : wr.cell? ⟨g, k, none⟩ = some (.int .i64 ((l[k]?.getD 0 : Nat) : Int)) := by
              rw [World.ownsRow.cellAt hown k (by omega), List.getElem?_map, midL_at _ _ _ hk']; rfl
            have hfk := World.ownsRow.frozenAt hown k
            have hx24 : l[k]?.getD 0 < 24 := getD_lt HD24.out hk'
            have hmem : l[k]?.getD 0 ∈ l := by
              have : l[k]?.getD 0 = l[k] := by simp [hk']
              rw [this]; exact List.getElem_mem hk'
            have hset := midL_set (upK fr by_) l k hk'
            have hsame := midL_same (upK fr by_) l k hk'
            have HA' : Hid (badK fr by_ (l[k]?.getD 0) = false → ∀ j, j < k + 1 → badK fr by_ (l[j]?.getD 0) = false) := fun h j hj => by
              by_cases e : j = k
              · rw [e]; exact h
              · exact HA.out j (by omega)
            obtain ⟨x, hx⟩ : ∃ x, x = l[k]?.getD 0 := ⟨_, rfl⟩
            rw [← hx] at hck hx24 hmem hset hsame HA'
            clear hx hL
            by_cases hlo : (x : Int) < fr
            · have hb : badK fr by_ x = false := by simp [badK]; omega
              have HM : Hid (midL (upK fr by_) l (k + 1) = midL (upK fr by_) l k) := hsame (by simp [upK, hlo])
              have HA2 : Hid (∀ j, j < k + 1 → badK fr by_ (l[j]?.getD 0) = false) := HA'.out hb
              clear hset hsame hb hmem
              go_wp2
              go_roundw
              case rel => exact ⟨k + 1, by omega, by go_num, by rw [HM.out]; exact hown, hB, HA2⟩
              case measure => simp [intOf]; omega
            · by_cases hbig : 24 - (x : Int) ≤ by_
              · have hb : badK fr by_ x = true := by simp [badK]; omega
                have hE := HBad.out (liftBad_mem hmem hb)
                have H1 : Hid (liftN s fr by_ = 0) := hE.1
                have H2 : Hid (liftE s fr by_ = 10) := hE.2
                clear hset hsame hb hmem hE
                go_wp2
                go_ret2
                exact ⟨ret_two (by rw [H1.out]; rfl) (by rw [H2.out]), hB⟩
              · have hb : badK fr by_ x = false := by simp [badK]; omega
                have HA2 : Hid (∀ j, j < k + 1 → badK fr by_ (l[j]?.getD 0) = false) := HA'.out hb
                have hup : upK fr by_ x = x + by_.toNat := by simp [upK, hlo]
                have hst := (World.ownsRow.stored hown k (.int .i64 ((x : Int) + by_))).1
                have e1 : ((midL (upK fr by_) l k).map encI).set k (.int .i64 ((x : Int) + by_)) = (midL (upK fr by_) l (k + 1)).map encI := by
                  rw [← hset, hup, ← encI_set]
                  congr 1
                  simp only [encI]
                  congr 1
                  omega
                rw [e1] at hst
                have hBs : Below w.heap.size w (wr.setCell ⟨g, k, none⟩ (.int .i64 ((x : Int) + by_))) := hB.setCell (p := ⟨g, k, none⟩) hg _
                clear hset hsame hb hmem e1 hown hup
                go_wp2
                go_roundw
                case rel => exact ⟨k + 1, by omega, by go_num, hst, hBs, HA2⟩
                case measure => simp [intOf]; omega
          · obtain rfl : k = n := by omega
            have hok : liftBad fr by_ l = false := by
              simp only [liftBad, List.any_eq_false]
              intro x hx
              obtain ⟨j, hj, rfl⟩ := List.getElem_of_mem hx
              have := HA.out j (by rw [HN.out]; exact hj)
              simpa [hj] using this
            have hE := HOk.out hok
            have h24 := H24.out hok
            have hL2 : OwnsL wr w.heap.size (.slice (some ⟨g, 0, none⟩) k cap) (l.map (upK fr by_)) := by
              unfold OwnsL
              have e : (l.map (upK fr by_)).length = k := by rw [List.length_map]; exact HN.out.symm
              have e2 : midL (upK fr by_) l k = l.map (upK fr by_) := by rw [HN.out, midL_end]
              rw [e, ← e2]; exact hown
            have hR := hL2.rowAt
            have hlen : (l.map (upK fr by_)).length ≤ 64 := by rw [List.length_map, ← HN.out]; omega
            have H1 : Hid (sumAll (l.map (upK fr by_)) = liftN s fr by_) := hE.1
            have H2 : Hid (liftE s fr by_ = 0) := hE.2
            have HH : Hid (∀ k ∈ l.map (upK fr by_), k < 24) := h24
            clear hE h24 hok hL2 hown hL
            go_wp2_with (go_at_call 38; refine (refSet_any _ _ _ hR HH.out hlen).mono ?_; rintro e w' ⟨rfl, rfl⟩)
            go_ret2
            exact ⟨ret_two (by rw [H1.out]) (by rw [H2.out]), hB⟩

end Go.Proofs.Ytkklmioejgpknaa
