/- The same tokens: same of the statements of the layer lex. -/
import Derived.Deep.QuietTactic
import Derived.BigQuiet
import Derived.WalkSmall
import Derived.Test.YtagofkcjpmgmjaaDoorLScan
namespace Go.Proofs.YtagofkcjpmgmjaaDoor
open Go.RowKit
set_option linter.unusedVariables false
set_option linter.unusedSimpArgs false

theorem get_some {α : Type} {l : List α} {k : Nat} (h : k < l.length) : ∃ c, l[k]? = some c := ⟨l[k], List.getElem?_eq_getElem h⟩
set_option maxRecDepth 100000 in
set_option maxHeartbeats 1000000 in
theorem lsame_any (l : List Tok) (a b : Value) (w : World) (ha : TRow w a l) (hb : TRow w b l) (hl : l.length ≤ 100000) :
    Calls Tryd.prog 9 #[a, b] w fun e w' => e = .returned (.bool true) ∧ Below w.heap.size w w' := by
  by_cases hz : l = []
  · subst hz
    obtain ⟨p, c, rfl⟩ := ha.len
    obtain ⟨q, d, rfl⟩ := hb.len
    clear ha hb
    go_enter Tryd.func9, Tryd.ntmps9
    go_wp2
    go_loop [13] (fun i => i = .int .i64 0) (fun _ => 0)
    case atStart => rfl
    case round =>
      subst hrel
      go_wp2
      go_ret
      exact ⟨rfl, Below.refl _ _⟩
  · obtain ⟨g, off, cap, rfl, hg, hc⟩ := ha.cons hz
    obtain ⟨g2, off2, cap2, rfl, hg2, hc2⟩ := hb.cons hz
    clear ha hb hz
    obtain ⟨n, hn⟩ : ∃ n, n = l.length := ⟨_, rfl⟩
    have Hn : Hid (n = l.length) := hn
    rw [← hn] at hl ⊢
    clear hn
    go_enter Tryd.func9, Tryd.ntmps9
    go_wp2
    go_loopw [13] (fun i wr => ∃ k : Nat, k ≤ n ∧ i = .int .i64 k ∧ Below w.heap.size w wr) (fun i _ => n - (intOf i).toNat)
    case atStart => exact ⟨0, by omega, rfl, Below.refl _ _⟩
    case round =>
      obtain ⟨k, hk, rfl, hB⟩ := hrel
      by_cases hlt : k < n
      · obtain ⟨t, ht⟩ := get_some (l := l) (k := k) (by rw [← Hn.out]; exact hlt)
        obtain ⟨a0, a1, a2⟩ := (hc.below hB hg) k t ht
        obtain ⟨b0, b1, b2⟩ := (hc2.below hB hg2) k t ht
        clear hc hc2 ht
        obtain ⟨X, hX⟩ : ∃ X, bs t.text = X := ⟨_, rfl⟩
        obtain ⟨K, hK⟩ : ∃ K : Int, ((t.kind : Nat) : Int) = K := ⟨_, rfl⟩
        obtain ⟨A, hA⟩ : ∃ A : Int, ((t.at_ : Nat) : Int) = A := ⟨_, rfl⟩
        rw [hX] at a1 b1
        rw [hK] at a0 b0
        rw [hA] at a2 b2
        clear hX hK hA
        go_wp2
        go_quiet (fail)
        go_wp2
        go_roundw
        case rel => exact ⟨k + 1, by omega, by go_num, below_drewN hB _⟩
        case measure => simp [intOf]; omega
      · go_wp2
        go_ret
        exact ⟨rfl, hB⟩
end Go.Proofs.YtagofkcjpmgmjaaDoor
