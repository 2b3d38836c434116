/- The walk of the law MaskAdds: the call returns true; nothing that lay before it turns. -/
import Derived.OpenShut
import Derived.Test.YthchanjbonoppaaWalkRef
import Derived.Test.YthchanjbonoppaaMathC
namespace Go.Proofs.Ythchanjbonoppaa
open Go.RowKit

theorem with_zero (i : Int) (w : World) :
    Calls Try.prog 13 #[.int .u32 0, .int .i64 i] w fun e w' => e = .returned (.int .u32 (withN 0 i : Nat)) ∧ w' = w := with_any 0 i w (by decide)
def oneN (fr a : Int) (k : Nat) : Nat := 2 ^ upK fr a k
def sumN (fr a : Int) (l : List Nat) (k : Nat) : Nat := orAll ((l.take k).map (upK fr a))
theorem sumN_succ {fr a : Int} {l : List Nat} {k : Nat} (h : k < l.length) : sumN fr a l (k + 1) = sumN fr a l k ||| oneN fr a (l[k]?.getD 0) := by
  have e : l[k]?.getD 0 = l[k] := by simp [h]
  unfold sumN oneN
  rw [List.take_succ_eq_append_getElem h, List.map_append, e]
  exact orAll_snoc _ _
theorem sumN_lt {fr a : Int} {l : List Nat} (ha : 0 ≤ a) (h24 : ∀ k ∈ l, k < 24) (hb : liftBad fr a l = false) (k : Nat) : sumN fr a l k < 4294967296 := by
  have : sumN fr a l k < 16777216 := orAll_lt (fun x hx => by
    obtain ⟨y, hy, rfl⟩ := List.mem_map.1 hx
    exact up_bd ha h24 hb _ (List.mem_map.2 ⟨y, List.mem_of_mem_take hy, rfl⟩))
  omega

set_option maxRecDepth 100000 in
set_option maxHeartbeats 4000000 in
theorem walk_MaskAdds_in (s : Nat) (fr a b : Int) (w : World) (hs : s < 4294967296) (h0 : 0 ≤ fr) (ha : 0 ≤ a) (hb : 0 ≤ b) (ha2 : a ≤ 30) (hb2 : b ≤ 30) :
    Calls Try.prog 8 #[.int .u32 s, .int .i64 fr, .int .i64 a, .int .i64 b] w fun e w' => e = .returned (.bool true) ∧ Below w.heap.size w w' := by
  rcases liftE_cases (s := s) (fr := fr) (by_ := a) h0 ha with ⟨hE, hbad⟩ | ⟨hE, hbad⟩
  · obtain ⟨f1, f2⟩ := adds_ok (b := b) h0 ha hb hbad
    have hx : liftN s fr a < 4294967296 := by have := liftN_lt s fr a; omega
    have hlN : liftN s fr a = orAll ((dimsOf s).map (upK fr a)) := (lift_ok (argB_no h0 ha) hbad).1
    have HLN : Hid (liftN s fr a = orAll ((dimsOf s).map (upK fr a))) := hlN
    have HBAD : Hid (liftBad fr a (dimsOf s) = false) := hbad
    have HD24 : Hid (∀ k ∈ dimsOf s, k < 24) := dimsOf_lt
    have hdl := dimsOf_length_le s
    have hcl : countN s = (dimsOf s).length := rfl
    have hList := fun w => list_row s w hs
    rw [hcl] at hList
    clear hlN hbad hcl
    have hB : Below w.heap.size w w := Below.refl _ _
    go_enter Try.func8, Try.ntmps8
    go_wp2_with (first
      | (go_at_call 17; refine (works_any _).mono ?_; rintro e w1 ⟨rfl, hB1⟩; replace hB := chain hB hB1; clear hB1)
      | (go_at_call 24; refine (lift_any _ _ _ _ (by assumption)).mono ?_; rintro e w2 ⟨rfl, hB2⟩; replace hB := chain hB hB2; clear hB2)
      | (go_at_call 21; refine (hList _).mono ?_; clear hList; rintro e w3 ⟨p, c, rfl, hR, hB3⟩; replace hB := chain hB hB3; clear hB3))
    clear f1 f2 hb hb2 ha2 hE
    obtain ⟨l, hl⟩ : ∃ l, l = dimsOf s := ⟨_, rfl⟩
    rw [← hl] at HLN HBAD HD24 hdl hR ⊢
    clear hl
    rcases hR with ⟨hv, hnil⟩ | ⟨g, cap, hv, hg, hc⟩
    · subst hnil
      obtain ⟨rfl, rfl⟩ : p = none ∧ c = 0 := by simpa using hv
      have HX : Hid (liftN s fr a = 0) := HLN.out
      go_loopw [15, 83] (fun m i wr => i = .int .i64 0 ∧ m = .int .u32 0 ∧ wr = w3) (fun _ _ _ => 0)
      case atStart => exact ⟨rfl, rfl, rfl⟩
      case round =>
        obtain ⟨rfl, rfl, rfl⟩ := hrel
        go_wp2
        go_ret
        exact ⟨ret_bool (by rw [HX.out]; rfl), hB⟩
    · obtain ⟨rfl, rfl⟩ : p = some ⟨g, 0, none⟩ ∧ c = cap := by simpa using hv
      clear hv
      obtain ⟨n, hn⟩ : ∃ n, n = l.length := ⟨_, rfl⟩
      rw [← hn] at hc hdl ⊢
      have HN : Hid (n = l.length) := hn
      clear hn
      go_loopw [15, 83] (fun m i wr => ∃ k : Nat, k ≤ n ∧ i = .int .i64 k ∧ m = .int .u32 (sumN fr a l k : Nat) ∧ Below w3.heap.size w3 wr) (fun _ i _ => n - (intOf i).toNat)
      case atStart => exact ⟨0, by omega, rfl, rfl, Below.refl _ _⟩
      case round =>
        obtain ⟨k, hk, rfl, rfl, hBr⟩ := hrel
        by_cases hlt : k < n
        · have hk' : k < l.length := by rw [← HN.out]; exact hlt
          have hck : wr.cell? ⟨g, k, none⟩ = some (.int .i64 ((l[k]?.getD 0 : Nat) : Int)) := (hBr.cell (p := ⟨g, k, none⟩) hg).trans (hc k hlt)
          have hx24 : l[k]?.getD 0 < 24 := getD_lt HD24.out hk'
          have hnb : badK fr a (l[k]?.getD 0) = false := by
            have e : l[k]?.getD 0 = l[k] := by simp [hk']
            have := HBAD.out
            simp only [liftBad, List.any_eq_false] at this
            rw [e]; simpa using this _ (List.getElem_mem hk')
          have HS : Hid (sumN fr a l (k + 1) = sumN fr a l k ||| oneN fr a (l[k]?.getD 0)) := sumN_succ hk'
          have hsl := sumN_lt ha HD24.out HBAD.out k
          have hsl1 := sumN_lt ha HD24.out HBAD.out (k + 1)
          obtain ⟨x, hxe⟩ : ∃ x, x = l[k]?.getD 0 := ⟨_, rfl⟩
          rw [← hxe] at hck hx24 hnb HS
          clear hxe hc hx
          obtain ⟨o1, o2, o3⟩ := one_lift h0 ha hx24 hnb
          have o1' : liftN (withN 0 (x : Int)) fr a = oneN fr a x := o1
          have o3' : countN (oneN fr a x) = 1 := o3
          have ho : oneN fr a x < 4294967296 := by have := liftN_lt (withN 0 (x : Int)) fr a; rw [o1'] at this; omega
          have hw0 : withN 0 (x : Int) < 4294967296 := by have := withN_lt 0 (x : Int); omega
          have HOR : Hid (bits BinOp.or IntKind.u32 ((sumN fr a l k : Nat) : Int) ((oneN fr a x : Nat) : Int) = ((sumN fr a l (k + 1) : Nat) : Int)) := by
            show bits BinOp.or IntKind.u32 _ _ = _
            rw [bits_or32 _ _ hsl ho, HS.out]
          have hl1 := fun w => lift_any (withN 0 (x : Int)) fr a w hw0
          rw [o1', o2] at hl1
          have hc1 := fun w => count_any (oneN fr a x) w ho
          rw [o3'] at hc1
          clear o1 o2 o3 o1' o3' hnb hsl hsl1
          go_wp2_with (first
            | (go_at_call 13; refine (with_zero _ _).mono ?_; rintro e wa ⟨rfl, rfl⟩)
            | (go_at_call 24; refine (hl1 _).mono ?_; clear hl1; rintro e w5 ⟨rfl, hB5⟩; replace hBr := hBr.trans (hB5.mono hBr.size); clear hB5)
            | (go_at_call 18; refine (hc1 _).mono ?_; clear hc1; rintro e w6 ⟨rfl, hB6⟩; replace hBr := hBr.trans (hB6.mono hBr.size); clear hB6))
          go_roundw
          case rel => exact ⟨k + 1, by omega, by go_num, by rw [HOR.out], hBr⟩
          case measure => simp [intOf]; omega
        · obtain rfl : k = n := by omega
          have HX : Hid (sumN fr a l k = liftN s fr a) := by
            show sumN fr a l k = _
            rw [HLN.out, sumN, HN.out, List.take_length]
          go_wp2
          go_ret
          exact ⟨ret_bool (by rw [HX.out]; simp), hB.trans (hBr.mono hB.size)⟩
  · obtain ⟨f1, f2⟩ := adds_bad (b := b) h0 ha hb hbad
    clear hbad
    have hB : Below w.heap.size w w := Below.refl _ _
    go_enter Try.func8, Try.ntmps8
    go_wp2_with (first
      | (go_at_call 17; refine (works_any _).mono ?_; rintro e w1 ⟨rfl, hB1⟩; replace hB := chain hB hB1; clear hB1)
      | (go_at_call 24; refine (lift_any _ _ _ _ hs).mono ?_; rintro e w2 ⟨rfl, hB2⟩; replace hB := chain hB hB2; clear hB2))
    go_ret
    exact ⟨rfl, hB⟩

set_option maxRecDepth 100000 in
set_option maxHeartbeats 4000000 in
theorem walk_MaskAdds (a0 a1 a2 a3 : Int) (w0 : (Lit.int .u32 a0).wf = true) (_ : (Lit.int .i64 a1).wf = true) (_ : (Lit.int .i64 a2).wf = true) (_ : (Lit.int .i64 a3).wf = true) (w : World) :
    Calls Try.prog 8 #[.int .u32 a0, .int .i64 a1, .int .i64 a2, .int .i64 a3] w fun e w' => e = .returned (.bool true) ∧ Below w.heap.size w w' := by
  have hb := bounds_u32 w0
  obtain ⟨s, rfl⟩ := Int.eq_ofNat_of_zero_le hb.1
  have hs : s < 4294967296 := by omega
  clear hb w0
  by_cases h1 : a1 < 0
  · go_enter Try.func8, Try.ntmps8
    go_wp2_with (go_at_call 17; refine (works_any _).mono ?_; rintro e w1 ⟨rfl, hB1⟩)
    go_ret
    exact ⟨rfl, hB1⟩
  by_cases h2 : a2 < 0
  · go_enter Try.func8, Try.ntmps8
    go_wp2_with (go_at_call 17; refine (works_any _).mono ?_; rintro e w1 ⟨rfl, hB1⟩)
    go_ret
    exact ⟨rfl, hB1⟩
  by_cases h3 : a3 < 0
  · go_enter Try.func8, Try.ntmps8
    go_wp2_with (go_at_call 17; refine (works_any _).mono ?_; rintro e w1 ⟨rfl, hB1⟩)
    go_ret
    exact ⟨rfl, hB1⟩
  by_cases h4 : 30 < a2
  · go_enter Try.func8, Try.ntmps8
    go_wp2_with (go_at_call 17; refine (works_any _).mono ?_; rintro e w1 ⟨rfl, hB1⟩)
    go_ret
    exact ⟨rfl, hB1⟩
  by_cases h5 : 30 < a3
  · go_enter Try.func8, Try.ntmps8
    go_wp2_with (go_at_call 17; refine (works_any _).mono ?_; rintro e w1 ⟨rfl, hB1⟩)
    go_ret
    exact ⟨rfl, hB1⟩
  exact walk_MaskAdds_in s a1 a2 a3 w hs (by omega) (by omega) (by omega) (by omega) (by omega)
end Go.Proofs.Ythchanjbonoppaa
