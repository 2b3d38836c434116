/- Rows of parts by rules: are, all. -/
import Derived.Test.YtahnbigkdfmpbaaDoorSRule
namespace Go.Proofs.YtahnbigkdfmpbaaDoor
open Go.RowKit
set_option linter.unusedVariables false
set_option linter.unusedSimpArgs false

theorem are_len {ok : Nat → Sx → Bool} {l : List Sx} {gs : List Nat} (h : l.length ≠ gs.length) : areB ok l gs = false := by
  induction l generalizing gs with
  | nil => cases gs with
    | nil => exact absurd rfl h
    | cons g gs => rfl
  | cons x l ih => cases gs with
    | nil => rfl
    | cons g gs => rw [areB, ih (by simpa using h), Bool.and_false]
theorem are_drop {ok : Nat → Sx → Bool} {l : List Sx} {gs : List Nat} {k : Nat} {x : Sx} {g : Nat} (h : l[k]? = some x) (hg : gs[k]? = some g) : areB ok (l.drop k) (gs.drop k) = (ok g x && areB ok (l.drop (k + 1)) (gs.drop (k + 1))) := by
  obtain ⟨hlt, e⟩ := List.getElem?_eq_some_iff.1 h
  obtain ⟨hlt2, e2⟩ := List.getElem?_eq_some_iff.1 hg
  rw [List.drop_eq_getElem_cons hlt, List.drop_eq_getElem_cons hlt2, e, e2]; rfl
set_option maxRecDepth 100000 in
set_option maxHeartbeats 2000000 in
theorem are_any (f : Nat) (hR : RuleS f) (gs : List Nat) (hgs : ∀ g ∈ gs, g < 5) (n d : Nat) (kids : List Sx) (ka : Option Addr) (kc rb rc : Nat) (w : World) (hd : d + 1 + f = 65537) (hK : KdP n w (SxIn n w) kids ka) (hn : n ≤ w.heap.size)
    (hkl : kids.length ≤ 1000000) (hgl : gs.length ≤ 100) (hb : ∀ x ∈ kids, blk x ≤ 1000000) (hrb : rb < w.heap.size) (hrc : ∀ (j g : Nat), gs[j]? = some g → w.cell? ⟨rb, j, none⟩ = some (fv g)) :
    Calls Tryd.prog 30 #[.slice ka kids.length kc, .int .i64 (d : Nat), .slice (some ⟨rb, 0, none⟩) gs.length rc] w fun e w' => e = .returned (.bool (areB (okF f) kids gs)) ∧ Below w.heap.size w w' := by
  by_cases hlen : kids.length = gs.length
  · obtain ⟨L, hL⟩ : ∃ L, L = kids.length := ⟨_, rfl⟩
    have HL : Hid (L = kids.length ∧ L = gs.length) := ⟨hL, hL.trans hlen⟩
    rw [← hlen, ← hL]
    rw [← hL] at hkl
    clear hL hlen
    obtain ⟨r, hr⟩ : ∃ r, areB (okF f) kids gs = r := ⟨_, rfl⟩
    rw [hr]
    have H0 : Hid (areB (okF f) (kids.drop 0) (gs.drop 0) = r) := hr
    clear hr
    have HK0 : Hid (KdP n w (SxIn n w) kids ka) := hK
    have HB : Hid (∀ x ∈ kids, blk x ≤ 1000000) := hb
    have HR : Hid (RuleS f) := hR
    have HC : Hid (∀ (j g : Nat), gs[j]? = some g → w.cell? ⟨rb, j, none⟩ = some (fv g)) := hrc
    have HG : Hid (∀ g ∈ gs, g < 5) := hgs
    clear hK hb hR hrc hgs hgl
    go_enter Tryd.func30, Tryd.ntmps30
    go_wp2
    go_loopw [16] (fun i wr => ∃ k : Nat, k ≤ L ∧ i = .int .i64 k ∧ Hid (areB (okF f) (kids.drop k) (gs.drop k) = r) ∧ Below w.heap.size w wr) (fun i _ => L - (intOf i).toNat)
    case atStart => exact ⟨0, Nat.zero_le _, rfl, H0, Below.refl _ _⟩
    case round =>
      obtain ⟨k, hk, rfl, HK, hB⟩ := hrel
      clear H0
      by_cases hlt : k < L
      · obtain ⟨x, hx⟩ := someS (l := kids) (k := k) (by rw [← HL.out.1]; exact hlt)
        obtain ⟨g, hg⟩ := someS (l := gs) (k := k) (by rw [← HL.out.2]; exact hlt)
        have HKb := HK0.out.keep (hB.mono hn)
        obtain ⟨q, off, ka', kc', na, nc, rfl, hq, hxx, c0, c1, c2, c3, c4⟩ := (show KdP n wr (SxIn n wr) kids ka from HKb.mono fun _ _ h => h.keep (hB.mono hn)).at hx
        have cr := (hB.cell (p := ⟨rb, k, none⟩) hrb).trans (HC.out k g hg)
        have cF := fits_any f HR.out g n (d + 1) x _ wr (HG.out g (List.mem_of_getElem? hg)) hd hxx (Nat.le_trans hn hB.size) (HB.out x (List.mem_of_getElem? hx))
        rw [show ((d + 1 : Nat) : Int) = (d : Int) + 1 by omega] at cF
        have HS : Hid ((okF f g x && areB (okF f) (kids.drop (k + 1)) (gs.drop (k + 1))) = r) := by rw [← HK.out]; exact (are_drop hx hg).symm
        clear HK hx hg hxx HKb
        unfold fv at *
        generalize fidOf g = fid at *
        generalize okF f g x = q at *
        generalize bs x.name = X at *
        cases q
        · go_wp2_with fail
          refine cF.mono ?_
          rintro e w' ⟨rfl, hb2⟩
          go_wp2_with fail
          go_ret
          exact ⟨ret_bool (by have := HS.out; simpa using this), chain hB hb2⟩
        · go_wp2_with fail
          refine cF.mono ?_
          rintro e w' ⟨rfl, hb2⟩
          go_wp2_with fail
          go_roundw
          case rel => exact ⟨k + 1, by omega, by go_num, (by have := HS.out; simpa using this : areB (okF f) (kids.drop (k + 1)) (gs.drop (k + 1)) = r), chain hB hb2⟩
          case measure => simp [intOf]; omega
      · have hR : Hid (true = r) := by
          have h := HK.out
          rw [List.drop_of_length_le (by rw [← HL.out.1]; omega), List.drop_of_length_le (by rw [← HL.out.2]; omega)] at h
          exact h
        clear HK
        go_wp2
        go_ret
        exact ⟨ret_bool hR.out, hB⟩
  · rw [are_len hlen]
    have e1 : ((kids.length : Int) != (gs.length : Int)) = true := by simp only [bne_iff_ne]; omega
    generalize kids.length = L at *
    generalize gs.length = M at *
    clear hlen
    go_enter Tryd.func30, Tryd.ntmps30
    go_wp2
    go_ret
    exact ⟨rfl, Below.refl _ _⟩
set_option maxRecDepth 100000 in
set_option maxHeartbeats 2000000 in
theorem all_any (f : Nat) (hR : RuleS f) (g : Nat) (hg : g < 5) (n d : Nat) (kids : List Sx) (ka : Option Addr) (kc : Nat) (w : World) (hd : d + 1 + f = 65537) (hK : KdP n w (SxIn n w) kids ka) (hn : n ≤ w.heap.size)
    (hkl : kids.length ≤ 1000000) (hb : ∀ x ∈ kids, blk x ≤ 1000000) :
    Calls Tryd.prog 33 #[.slice ka kids.length kc, .int .i64 (d : Nat), fv g] w fun e w' => e = .returned (.bool (kids.all (okF f g))) ∧ Below w.heap.size w w' := by
  obtain ⟨L, hL⟩ : ∃ L, L = kids.length := ⟨_, rfl⟩
  have HL : Hid (L = kids.length) := hL
  rw [← hL]
  rw [← hL] at hkl
  clear hL
  obtain ⟨r, hr⟩ : ∃ r, kids.all (okF f g) = r := ⟨_, rfl⟩
  rw [hr]
  have H0 : Hid ((kids.drop 0).all (okF f g) = r) := hr
  clear hr
  have HK0 : Hid (KdP n w (SxIn n w) kids ka) := hK
  have HB : Hid (∀ x ∈ kids, blk x ≤ 1000000) := hb
  have HR : Hid (RuleS f) := hR
  clear hK hb hR
  unfold fv
  go_enter Tryd.func33, Tryd.ntmps33
  go_wp2
  go_loopw [11] (fun i wr => ∃ k : Nat, k ≤ L ∧ i = .int .i64 k ∧ Hid ((kids.drop k).all (okF f g) = r) ∧ Below w.heap.size w wr) (fun i _ => L - (intOf i).toNat)
  case atStart => exact ⟨0, Nat.zero_le _, rfl, H0, Below.refl _ _⟩
  case round =>
    obtain ⟨k, hk, rfl, HK, hB⟩ := hrel
    clear H0
    by_cases hlt : k < L
    · obtain ⟨x, hx⟩ := someS (l := kids) (k := k) (by rw [← HL.out]; exact hlt)
      have HKb := HK0.out.keep (hB.mono hn)
      obtain ⟨q, off, ka', kc', na, nc, rfl, hq, hxx, c0, c1, c2, c3, c4⟩ := (show KdP n wr (SxIn n wr) kids ka from HKb.mono fun _ _ h => h.keep (hB.mono hn)).at hx
      have hal := below_alloc wr (.cells #[.int .i64 x.kind, .string (bs x.name), .slice ka' x.kids.length kc', .slice na x.names.length nc, .int .i64 x.at_] 25)
      have hnw := Nat.le_trans hn hB.size
      have cF := fits_any f HR.out g n (d + 1) x _ _ hg hd (hxx.keep (hal.mono hnw)) (Nat.le_trans hnw hal.size) (HB.out x (List.mem_of_getElem? hx))
      rw [show ((d + 1 : Nat) : Int) = (d : Int) + 1 by omega] at cF
      have HS : Hid ((okF f g x && (kids.drop (k + 1)).all (okF f g)) = r) := by rw [← HK.out]; exact (all_drop _ hx).symm
      clear HK hx hxx HKb
      unfold fv at cF
      generalize fidOf g = fid at *
      generalize okF f g x = q at *
      generalize bs x.name = X at *
      cases q
      · go_wp2_with fail
        refine cF.mono ?_
        rintro e w' ⟨rfl, hb2⟩
        go_wp2_with fail
        go_ret
        exact ⟨ret_bool (by have := HS.out; simpa using this), chain (chain hB hal) hb2⟩
      · go_wp2_with fail
        refine cF.mono ?_
        rintro e w' ⟨rfl, hb2⟩
        go_wp2_with fail
        go_roundw
        case rel => exact ⟨k + 1, by omega, by go_num, (by have := HS.out; simpa using this : (kids.drop (k + 1)).all (okF f g) = r), chain (chain hB hal) hb2⟩
        case measure => simp [intOf]; omega
    · have hR : Hid (true = r) := by
        have h := HK.out
        rw [List.drop_of_length_le (by rw [← HL.out]; omega)] at h
        exact h
      clear HK
      go_wp2
      go_ret
      exact ⟨ret_bool hR.out, hB⟩
end Go.Proofs.YtahnbigkdfmpbaaDoor
