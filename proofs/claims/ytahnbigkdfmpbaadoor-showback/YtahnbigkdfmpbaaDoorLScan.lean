/- The tokens of a text: Scan of the layer lex. -/
import Derived.Test.YtahnbigkdfmpbaaDoorLRow
namespace Go.Proofs.YtahnbigkdfmpbaaDoor
open Go.RowKit
set_option linter.unusedVariables false
set_option linter.unusedSimpArgs false

theorem scanP_in {s : ByteArray} {k f : Nat} (hlt : k < s.size) (acc : List Tok) (R : Nat ⊕ List Tok) (h : finR acc (scanP (f + 1) k ((tl s).drop k)) = R) :
    (tokN ((tl s).drop k) = 0 → R = .inl k) ∧ (tokN ((tl s).drop k) ≠ 0 → finR (acc ++ [⟨kindN ((tl s).drop k), ((tl s).drop k).take (tokN ((tl s).drop k)), k⟩]) (scanQ f (k + tokN ((tl s).drop k)) ((tl s).drop (k + tokN ((tl s).drop k)))) = R) := by
  have hne : (tl s).drop k ≠ [] := by rw [tl_drop s k hlt]; simp
  refine ⟨fun h0 => ?_, fun h0 => ?_⟩
  · rw [scanP_bad _ _ _ hne h0] at h; exact h.symm
  · rw [scanP_tok _ _ _ hne h0, List.drop_drop] at h
    rw [← h]
    cases scanQ f (k + tokN ((tl s).drop k)) ((tl s).drop (k + tokN ((tl s).drop k))) with
    | inl e => rfl
    | inr ts => simp [finR]
theorem scanP_out {s : ByteArray} {k f : Nat} (hlt : ¬ k < s.size) (hf : s.size < k + f) (hk : k ≤ s.size) (acc : List Tok) (R : Nat ⊕ List Tok) (h : finR acc (scanP f k ((tl s).drop k)) = R) : R = .inr (acc ++ [⟨0, [], s.size⟩]) := by
  obtain ⟨g, rfl⟩ : ∃ g, f = g + 1 := ⟨f - 1, by omega⟩
  rw [List.drop_of_length_le (by rw [tl_len]; omega), scanP_nil] at h
  obtain rfl : k = s.size := by omega
  exact h.symm
theorem scanF_mid {s : ByteArray} (hs : s.size ≤ 65536) (hu : ¬ utfP (s.size + 1) (tl s) < s.size) : scanF (tl s) = ansOf (scanP (s.size + 1) (passN false (tl s)) ((tl s).drop (passN false (tl s)))) := by
  rw [scanF, tl_len, if_neg (by omega), if_neg hu]
theorem scanF_utf {s : ByteArray} (hs : s.size ≤ 65536) (hu : utfP (s.size + 1) (tl s) < s.size) : scanF (tl s) = ([], utfP (s.size + 1) (tl s), 60) := by
  rw [scanF, tl_len, if_neg (by omega), if_pos hu]
theorem scanF_big {s : ByteArray} (hs : 65536 < s.size) : scanF (tl s) = ([], 0, 3) := by
  rw [scanF, tl_len, if_pos hs]
theorem app_below {e : TypeId} {w wr w3 : World} {base : Nat} {v : Value} {u : List Tok} {o : Obj} (hB : Below base w wr) (hb : base ≤ wr.heap.size) (hO : OwnsT e wr base v u) (hg : (wr.alloc o).grownBy w3 v.ownBlock) : Below base w w3 :=
  (hB.alloc hb o).trans (own_grown (hO.below (below_alloc wr o)) hg (by simp; omega))
theorem finR_nil (r : Nat ⊕ List Tok) : finR [] r = r := by cases r <;> rfl
theorem owns_nil (e : TypeId) (w : World) (base : Nat) : OwnsT e w base (.slice none 0 0) [] := World.ownsRow_nil _ _ _ _

set_option maxRecDepth 100000 in
set_option maxHeartbeats 2000000 in
theorem scan_any (s : ByteArray) (w : World) (hs : s.size ≤ maxLen) (hT : Tabs w) :
    Calls Tryd.prog 24 #[.string s] w fun e w' => ∃ v, e = .returned (.tuple #[v, .int .i64 ((scanF (tl s)).2.1 : Nat), .int .i64 ((scanF (tl s)).2.2 : Nat)]) ∧ OwnsT 68 w' w.heap.size v (scanF (tl s)).1 ∧ Below w.heap.size w w' := by
  unfold maxLen at hs
  by_cases hbig : 65536 < s.size
  · rw [scanF_big hbig]
    have e1 : (65536 : Int) < (s.size : Int) := by omega
    go_enter Tryd.func24, Tryd.ntmps24
    go_wp2
    go_ret3
    exact ⟨_, rfl, owns_nil _ _ _, Below.refl _ _⟩
  · have hs6 : s.size ≤ 65536 := by omega
    have hW := whole_any s w hs6 hT
    by_cases hu : utfP (s.size + 1) (tl s) < s.size
    · rw [scanF_utf hs6 hu]
      generalize utfP (s.size + 1) (tl s) = q at *
      go_enter Tryd.func24, Tryd.ntmps24
      go_wp2_with (go_at_call 43; refine hW.mono ?_; rintro e w' ⟨rfl, hb⟩)
      go_ret3
      exact ⟨_, rfl, owns_nil _ _ _, hb⟩
    · rw [scanF_mid hs6 hu]
      obtain ⟨R, hR⟩ : ∃ R, scanP (s.size + 1) (passN false (tl s)) ((tl s).drop (passN false (tl s))) = R := ⟨_, rfl⟩
      rw [hR]
      have HR : Hid (_ = _) := hR
      clear hR
      have hple := passN_le false (tl s)
      rw [tl_len] at hple
      have hP0 := fun w => pass_any s 0 w (Nat.zero_le _) hs6
      simp only [List.drop_zero, Nat.zero_add] at hP0
      have hPn : ∀ (k : Nat) (w : World), k ≤ s.size → Calls Tryd.prog 44 #[.string s, .int .i64 k] w fun e w' => e = .returned (.int .i64 ((k + passN false ((tl s).drop k) : Nat) : Int)) ∧ w' = w := fun k w h => pass_any s k w h hs6
      generalize utfP (s.size + 1) (tl s) = q at *
      generalize passN false (tl s) = p0 at *
      go_enter Tryd.func24, Tryd.ntmps24
      go_wp2_with (first
        | (go_at_call 43; refine hW.mono ?_; rintro e w' ⟨rfl, hb⟩)
        | (go_at_call 44; refine (hP0 _).mono ?_; rintro e w2 ⟨rfl, hw⟩; rw [hw]))
      go_loopw [6, 7] (fun o a wr => ∃ (k f : Nat) (acc : List Tok), k ≤ s.size ∧ a = .int .i64 k ∧ acc.length ≤ k ∧ OwnsT 68 wr w.heap.size o acc ∧ Below w.heap.size w wr ∧ Hid (s.size < k + f ∧ finR acc (scanP f k ((tl s).drop k)) = R)) (fun _ a _ => s.size - (intOf a).toNat)
      case atStart => exact ⟨p0, s.size + 1, [], hple, rfl, Nat.zero_le _, owns_nil _ _ _, hb, ⟨by omega, by rw [finR_nil]; exact HR⟩⟩
      case round =>
        obtain ⟨k, f, acc, hk, rfl, hacc, hO, hB, HK⟩ := hrel
        by_cases hlt : k < s.size
        · obtain ⟨f, rfl⟩ : ∃ g, f = g + 1 := ⟨f - 1, by have h1 := HK.out.1; omega⟩
          obtain ⟨hA, hN⟩ := scanP_in hlt acc R HK.out.2
          have HF : Hid (s.size < k + (f + 1)) := HK.out.1
          have hF := first_any (s.extract k s.size) wr (by simp; omega) (hT.below hB)
          rw [tl_from] at hF
          have htl := tokN_le ((tl s).drop k)
          rw [List.length_drop, tl_len] at htl
          by_cases h0 : tokN ((tl s).drop k) = 0
          · have HA : Hid (R = .inl k) := hA h0
            have e1 : firstF ((tl s).drop k) = (0, []) := by rw [firstF, if_pos h0]
            have e2 : bs [] = ⟨#[]⟩ := rfl
            rw [e1, e2] at hF
            clear e1 e2 hN hA h0 htl HK
            go_wp2_with (go_at_call 45; refine hF.mono ?_; rintro e w2 ⟨rfl, hb2⟩)
            go_ret3
            exact ⟨_, by rw [HA.out]; rfl, by rw [HA.out]; exact owns_nil _ _ _, chain hB hb2⟩
          · have HN : Hid (_ = _) := hN h0
            have e1 : firstF ((tl s).drop k) = (kindN ((tl s).drop k), ((tl s).drop k).take (tokN ((tl s).drop k))) := by rw [firstF, if_neg h0]
            rw [e1] at hF
            obtain ⟨n, hn⟩ : ∃ n, tokN ((tl s).drop k) = n := ⟨_, rfl⟩
            obtain ⟨K, hK⟩ : ∃ K, kindN ((tl s).drop k) = K := ⟨_, rfl⟩
            obtain ⟨T, hTx⟩ : ∃ T, ((tl s).drop k).take n = T := ⟨_, rfl⟩
            have hTl : T.length = n := by rw [← hTx, List.length_take, List.length_drop, tl_len]; omega
            rw [hn] at HN hF htl h0
            rw [hK] at HN hF
            rw [hTx] at HN hF
            have hXs : (bs T).size = n := by rw [bs_size, hTl]
            have hP := fun w => hPn (k + n) w (by omega)
            have hple2 := passN_le false ((tl s).drop (k + n))
            rw [List.length_drop, tl_len] at hple2
            obtain ⟨m, hm⟩ : ∃ m, passN false ((tl s).drop (k + n)) = m := ⟨_, rfl⟩
            simp only [hm] at hP
            have HM : Hid (_ = _) := hm
            rw [hm] at hple2
            obtain ⟨X, hX⟩ : ∃ X, bs T = X := ⟨_, rfl⟩
            simp only [hX] at hF hXs
            have HX : Hid (X = bs T) := hX.symm
            have hsz := hB.size
            clear hX hm hTx hK hn hN hA HK e1
            have hXe : X.toList.isEmpty = false := by
              rw [HX.out, Lib.toList_data, tl_def, tl_bs]
              cases T with
              | nil => simp at hTl; omega
              | cons _ _ => rfl
            go_wp2_with (first
              | (go_at_call 45; refine hF.mono ?_; rintro e w2 ⟨rfl, hb2⟩)
              | (at_builtin; refine wpList_append_tok 59 68 Tryd.underlying59 Tryd.infoT rfl _ _ rfl w.heap.size _ ⟨w2.heap.size, 0, none⟩ acc ⟨K, T, k⟩ rfl rfl ((hO.below hb2).below (below_alloc _ _)) (cells_lit _ _ _ _ HX.out _ _ rfl rfl) (by omega) (by have := hb2.size; simp; omega) ?_; intro v' w3 hO' hg')
              | (go_at_call 44; refine (hP _).mono ?_; rintro e w4 ⟨rfl, hw⟩; rw [hw]))
            go_roundw
            case rel => exact ⟨k + n + m, f, acc ++ [⟨K, T, k⟩], by omega, by go_num, by simp; omega, hO', app_below (hB.trans (hb2.mono hsz)) (by have := hb2.size; omega) (hO.below hb2) hg', ⟨by have := HF.out; omega, by
              have h1 := HN.out
              rw [scanQ, HM.out, List.drop_drop] at h1
              exact h1⟩⟩
            case measure => simp [intOf]; omega
        · have HE : Hid (R = .inr (acc ++ [⟨0, [], s.size⟩])) := scanP_out hlt HK.out.1 hk acc R HK.out.2
          have hsz := hB.size
          clear HK
          go_wp2_with (at_builtin; refine wpList_append_tok 59 68 Tryd.underlying59 Tryd.infoT rfl _ _ rfl w.heap.size _ ⟨wr.heap.size, 0, none⟩ acc ⟨0, [], s.size⟩ rfl rfl (hO.below (below_alloc _ _)) (cells_lit _ _ _ _ rfl _ _ rfl rfl) (by omega) (by simp; omega) ?_; intro v' w3 hO' hg')
          go_ret3
          exact ⟨_, by rw [HE.out]; rfl, by rw [HE.out]; exact hO', app_below hB hsz hO hg'⟩
theorem tok_count {s : ByteArray} (h : (scanF (tl s)).2.2 = 0) : (scanF (tl s)).1.length ≤ s.size + 1 := by
  have := tok_count_list h
  rw [tl_len] at this
  exact this
end Go.Proofs.YtahnbigkdfmpbaaDoor
