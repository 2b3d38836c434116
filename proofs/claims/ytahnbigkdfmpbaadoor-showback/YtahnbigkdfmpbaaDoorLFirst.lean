/- The longest token with which a text begins; up to where a text is whole: first, whole of the layer lex. -/
import Derived.Deep.MidRow
import Derived.Test.YtahnbigkdfmpbaaDoorLPass
namespace Go.Proofs.YtahnbigkdfmpbaaDoor
open Go.RowKit
set_option linter.unusedVariables false
set_option linter.unusedSimpArgs false

def signL : List Value := signTab.map fun p => Value.string (bs p)
/-- What the package's variables hold: the signs; the two tables of the library. -/
structure Tabs (w : World) : Prop where
  sg : w.rangeAt 0 0 signL
  u8 : Lib.Utf8Tabs 1 2 w
theorem lt_of_cell {W : World} {g i : Nat} {v : Value} (h : W.cell? ⟨g, i, none⟩ = some v) : g < W.heap.size := by
  apply Nat.lt_of_not_le
  intro hle
  have e : W.heap[g]? = none := Array.getElem?_eq_none hle
  simp [World.cell?, e] at h
theorem Tabs.below {w w' : World} (h : Tabs w) (hb : Below w.heap.size w w') : Tabs w' := by
  refine ⟨fun j v hj => ?_, fun c hc => ?_, fun i hi => ⟨?_, ?_⟩⟩
  · exact (hb.cell (p := ⟨0, 0 + j, none⟩) (lt_of_cell (h.sg j v hj))).trans (h.sg j v hj)
  · exact (hb.cell (p := ⟨1, c, none⟩) (lt_of_cell (h.u8.1 c hc))).trans (h.u8.1 c hc)
  · exact (hb.cell (p := ⟨2, 2 * i, none⟩) (lt_of_cell (h.u8.2 i hi).1)).trans (h.u8.2 i hi).1
  · exact (hb.cell (p := ⟨2, 2 * i + 1, none⟩) (lt_of_cell (h.u8.2 i hi).2)).trans (h.u8.2 i hi).2
set_option maxRecDepth 100000 in
theorem idx_sign (k : Nat) (p : Bs) (h : signTab[k]? = some p) : ∀ w : World, (Instr.index 98 (.agg signL.toArray) (.int .i64 (k : Int))).run Tryd.prog w = .ok (.string (bs p)) w := by
  have hk : k < 20 := by
    rcases Nat.lt_or_ge k 20 with h1 | h1
    · exact h1
    · rw [List.getElem?_eq_none (by simpa [signTab] using h1)] at h; cases h
  rcases (show k = 0 ∨ k = 1 ∨ k = 2 ∨ k = 3 ∨ k = 4 ∨ k = 5 ∨ k = 6 ∨ k = 7 ∨ k = 8 ∨ k = 9 ∨ k = 10 ∨ k = 11 ∨ k = 12 ∨ k = 13 ∨ k = 14 ∨ k = 15 ∨ k = 16 ∨ k = 17 ∨ k = 18 ∨ k = 19 by omega) with rfl | rfl | rfl | rfl | rfl | rfl | rfl | rfl | rfl | rfl | rfl | rfl | rfl | rfl | rfl | rfl | rfl | rfl | rfl | rfl
  all_goals
    simp only [signTab, List.getElem?_cons_zero, List.getElem?_cons_succ, Option.some.injEq] at h
    subst h
    intro w
    kernel_rfl
theorem extract_take (s : ByteArray) (n : Nat) : s.extract 0 n = bs ((tl s).take n) := by
  apply tl_inj
  rw [tl_extract, tl_bs, List.drop_zero]

set_option maxHeartbeats 1000000 in
theorem first_any (s : ByteArray) (w : World) (hs : s.size ≤ 65536) (hT : Tabs w) :
    Calls Tryd.prog 45 #[.string s] w fun e w' => e = .returned (.tuple #[.int .i64 ((firstF (tl s)).1 : Nat), .string (bs (firstF (tl s)).2)]) ∧ Below w.heap.size w w' := by
  have hn := nameLength_any s w hs
  have hle := nameN_le (tl s)
  rw [tl_len] at hle
  by_cases h0 : 0 < nameN (tl s)
  · rw [firstF_name h0]
    have hC := fun w => clone_any (s.extract 0 (nameN (tl s))) w (by simp; omega)
    have HE : Hid (_ = _) := extract_take s (nameN (tl s))
    generalize nameN (tl s) = n at *
    have e1 : (n : Int) ≤ (s.size : Int) := by omega
    have e2 : (0 : Int) < (n : Int) := by omega
    go_enter Tryd.func45, Tryd.ntmps45
    go_wp2_with (first
      | (go_at_call 63; refine hn.mono ?_; rintro e w' ⟨rfl, hw⟩; rw [hw])
      | (go_at_call 64; refine (hC _).mono ?_; rintro e w' ⟨rfl, hb⟩))
    go_ret2
    exact ⟨by rw [HE.out]; rfl, hb⟩
  · obtain ⟨R, hR⟩ : ∃ R, signTab.find? (fun p => p.isPrefixOf (tl s)) = R := ⟨_, rfl⟩
    rw [firstF_sign h0, hR]
    have HR : Hid (_ = _) := hR
    have hz : nameN (tl s) = 0 := by omega
    rw [hz] at hn
    clear hR hz h0 hle
    go_enter Tryd.func45, Tryd.ntmps45
    go_wp2_with (first
      | (go_at_call 63; refine hn.mono ?_; rintro e w' ⟨rfl, hw⟩; rw [hw])
      | (refine wpList_load_mid rfl 98 _ rfl 0 0 rfl signL _ hT.sg Tryd.underlying98 rfl (by kernel_rfl) ?_))
    go_loop [16] (fun i => ∃ k : Nat, k ≤ 20 ∧ i = .int .i64 k ∧ Hid ((signTab.drop k).find? (fun p => p.isPrefixOf (tl s)) = R)) (fun i => 20 - (intOf i).toNat)
    case atStart => exact ⟨0, by omega, rfl, HR⟩
    case round =>
      obtain ⟨k, hk, rfl, HK⟩ := hrel
      by_cases hlt : k < 20
      · obtain ⟨p, hp⟩ : ∃ p, signTab[k]? = some p := ⟨signTab[k]'hlt, List.getElem?_eq_getElem hlt⟩
        have hix := idx_sign k p hp
        have HD : Hid (signTab.drop k = p :: signTab.drop (k + 1)) := by
          have h1 : signTab[k]'hlt = p := by rw [List.getElem?_eq_getElem hlt] at hp; exact Option.some.inj hp
          show _ = _
          rw [List.drop_eq_getElem_cons hlt, h1]
        have hpr := fun w => strings_HasPrefix s (bs p) w
        obtain ⟨r, hr⟩ : ∃ r, p.isPrefixOf (tl s) = r := ⟨_, rfl⟩
        simp only [tl_def, tl_bs, Lib.hasPrefix, hr] at hpr
        have Hr : Hid (_ = _) := hr
        clear hr hp
        cases r
        · go_wp2_with (go_at_call 61; refine (hpr _).mono ?_; rintro e w' ⟨rfl, hw⟩; rw [hw])
          go_round
          case rel => exact ⟨k + 1, by omega, by go_num, by
            have h1 : (signTab.drop k).find? (fun p => p.isPrefixOf (tl s)) = R := HK
            rw [HD.out, List.find?_cons, Hr.out] at h1
            exact h1⟩
          case measure => simp [intOf]; omega
        · have HF : Hid (R = some p) := by
            have h1 : (signTab.drop k).find? (fun p => p.isPrefixOf (tl s)) = R := HK
            rw [HD.out, List.find?_cons, Hr.out] at h1
            exact h1.symm
          go_wp2_with (go_at_call 61; refine (hpr _).mono ?_; rintro e w' ⟨rfl, hw⟩; rw [hw])
          go_ret2
          exact ⟨by rw [HF.out]; rfl, Below.refl _ _⟩
      · have HF : Hid (R = none) := by
          have h1 : (signTab.drop k).find? (fun p => p.isPrefixOf (tl s)) = R := HK
          rw [List.drop_of_length_le (by simp [signTab]; omega)] at h1
          exact h1.symm
        go_wp2
        go_ret2
        exact ⟨by rw [HF.out]; rfl, Below.refl _ _⟩

theorem get_tl (s : ByteArray) (i : Nat) : s.get! i = (tl s).getD i 0 := by
  by_cases h : i < s.size
  · rw [Utf8W.get!_of_lt s i h, List.getD_eq_getElem?_getD, tl_get s i h]; rfl
  · have h1 : s.get! i = default := by
      show s.data[i]! = default
      exact getElem!_neg s.data i h
    rw [h1, List.getD_eq_getElem?_getD, List.getElem?_eq_none (by rw [tl_len]; omega)]
    rfl
theorem dec_eq (s : ByteArray) (h : 0 < s.size) : Lib.decodeGo s = Lib.decodeN s.size ((tl s).getD 0 0).toNat ((tl s).getD 1 0).toNat ((tl s).getD 2 0).toNat ((tl s).getD 3 0).toNat := by
  rw [Lib.decodeGo, if_neg (by omega), Lib.decode_at, Nat.sub_zero, get_tl, get_tl, get_tl, get_tl]
theorem dec_pos (s : ByteArray) (h : 0 < s.size) : 1 ≤ (Lib.decodeGo s).2 := by rw [dec_eq s h]; exact decodeN_pos _ _ _ _ _
theorem dec_step (s : ByteArray) (h : 0 < s.size) : stepN (tl s) = if (Lib.decodeGo s).1 = 65533 ∧ (Lib.decodeGo s).2 = 1 then 0 else (Lib.decodeGo s).2 := by
  rw [stepN, stepM, tl_len, dec_eq s h]

set_option maxHeartbeats 1000000 in
theorem whole_any (s : ByteArray) (w : World) (hs : s.size ≤ 65536) (hT : Tabs w) :
    Calls Tryd.prog 43 #[.string s] w fun e w' => e = .returned (.int .i64 (utfP (s.size + 1) (tl s) : Nat)) ∧ Below w.heap.size w w' := by
  obtain ⟨q, hq⟩ : ∃ q, utfP (s.size + 1) (tl s) = q := ⟨_, rfl⟩
  have HQ : Hid (_ = _) := hq
  rw [hq]
  clear hq
  go_enter Tryd.func43, Tryd.ntmps43
  go_wp2
  go_loopw [3] (fun i wr => ∃ k f : Nat, k ≤ s.size ∧ i = .int .i64 k ∧ Hid (s.size < k + f ∧ k + utfP f ((tl s).drop k) = q) ∧ Below w.heap.size w wr) (fun i _ => s.size - (intOf i).toNat)
  case atStart => exact ⟨0, s.size + 1, Nat.zero_le _, rfl, ⟨by omega, by rw [Nat.zero_add]; exact HQ⟩, Below.refl _ _⟩
  case round =>
    obtain ⟨k, f, hk, rfl, HK, hB⟩ := hrel
    by_cases hlt : k < s.size
    · have hD := utf8_DecodeRuneInString (s.extract k s.size) wr (hT.below hB).u8
      have hsz : (s.extract k s.size).size = s.size - k := by simp
      have hst := dec_step (s.extract k s.size) (by omega)
      have hpos := dec_pos (s.extract k s.size) (by omega)
      rw [tl_from] at hst
      obtain ⟨R, hR⟩ : ∃ R, (Lib.decodeGo (s.extract k s.size)).1 = R := ⟨_, rfl⟩
      obtain ⟨K, hK⟩ : ∃ K, (Lib.decodeGo (s.extract k s.size)).2 = K := ⟨_, rfl⟩
      rw [hR, hK] at hD hst
      rw [hK] at hpos
      obtain ⟨g, rfl⟩ : ∃ g, f = g + 1 := ⟨f - 1, by have h1 := HK.out.1; omega⟩
      have hle := stepN_le ((tl s).drop k) (by rw [List.length_drop, tl_len]; omega)
      rw [List.length_drop, tl_len] at hle
      have HU : Hid (k + (if stepN ((tl s).drop k) = 0 then 0 else stepN ((tl s).drop k) + utfP g ((tl s).drop (k + stepN ((tl s).drop k)))) = q ∧ s.size < k + (g + 1)) := by
        have h1 := HK.out
        refine ⟨?_, h1.1⟩
        have h2 := h1.2
        rw [← List.drop_drop]
        rw [tl_drop s k hlt] at h2 ⊢
        simp only [utfP] at h2
        exact h2
      clear hR hK HK hsz
      by_cases hbad : R = 65533 ∧ K = 1
      · obtain ⟨rfl, rfl⟩ := hbad
        have HE : Hid (k = q) := by
          have h1 := HU.out.1
          rw [hst] at h1
          have h2 : k = q := by simpa using h1
          exact h2
        clear hst hle HU
        go_wp2_with (go_at_call 60; refine hD.mono ?_; rintro e w' ⟨rfl, hb⟩)
        go_ret
        exact ⟨ret_int (by rw [HE.out]), chain hB hb⟩
      · rw [if_neg hbad] at hst
        have hK4 : K ≤ s.size - k := by omega
        have hK0 : K ≠ 0 := by omega
        · have HE : Hid (k + K + utfP g ((tl s).drop (k + K)) = q ∧ s.size < k + (g + 1)) := by
            have h1 := HU.out
            rw [hst, if_neg hK0] at h1
            exact ⟨by omega, h1.2⟩
          clear hst hle HU
          have hbad' : ((R : Int) == 65533) = false ∨ ((K : Int) == 1) = false := by
            by_cases h : R = 65533
            · right; simp; omega
            · left; simp; omega
          rcases hbad' with hb1 | hb1
          all_goals
            go_wp2_with (go_at_call 60; refine hD.mono ?_; rintro e w' ⟨rfl, hb⟩)
            all_goals
              go_roundw
              case rel => exact ⟨k + K, g, by omega, by go_num, ⟨by have := HE.out.2; omega, HE.out.1⟩, chain hB hb⟩
              case measure => simp [intOf]; omega
    · have HE : Hid (k = q) := by
        have h2 := HK.out.2
        rw [List.drop_of_length_le (by rw [tl_len]; omega)] at h2
        have : ∀ f, utfP f [] = 0 := fun f => by cases f <;> rfl
        rw [this] at h2
        exact h2
      go_wp2
      go_ret
      exact ⟨ret_int (by rw [HE.out]), hB⟩
end Go.Proofs.YtahnbigkdfmpbaaDoor
