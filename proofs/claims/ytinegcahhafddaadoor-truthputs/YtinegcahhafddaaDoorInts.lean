/- The document's answer: Ints of two slices that hold the same numbers is true. -/
import Derived.WalkKit
import Derived.Deep.QuietTactic
import Derived.BigQuiet
import Derived.WalkSmall
import Derived.Test.YtinegcahhafddaaDoorSlices
namespace Go.Proofs.YtinegcahhafddaaDoor
open Go.RowKit

set_option maxRecDepth 100000 in
set_option maxHeartbeats 1000000 in
theorem refInts_same (l : List Nat) (a b : Value) (w : World) (ha : RowAt w a l) (hb : RowAt w b l) (hl : l.length ≤ 64) :
    Calls Tryd.prog 21 #[a, b] w fun e w' => e = .returned (.bool true) ∧ Below w.heap.size w w' := by
  by_cases hz : l = []
  · subst hz
    have nil_len : ∀ v, RowAt w v [] → ∃ p c, v = .slice p 0 c := fun v h => by
      rcases h with ⟨rfl, _⟩ | ⟨g, cap, rfl, _⟩
      · exact ⟨_, _, rfl⟩
      · exact ⟨_, _, rfl⟩
    obtain ⟨p, c, rfl⟩ := nil_len a ha
    obtain ⟨q, d, rfl⟩ := nil_len b hb
    clear ha hb
    go_enter Tryd.func21, Tryd.ntmps21
    go_wp2
    go_loop [5] (fun i => i = .int .i64 0) (fun _ => 0)
    case atStart => rfl
    case round =>
      subst hrel
      go_wp2
      go_ret
      exact ⟨rfl, Below.refl _ _⟩
  · rcases ha with ⟨_, h⟩ | ⟨g, cap, rfl, hg, hc⟩
    · exact absurd h hz
    rcases hb with ⟨_, h⟩ | ⟨g2, cap2, rfl, hg2, hc2⟩
    · exact absurd h hz
    obtain ⟨n, hn⟩ : ∃ n, n = l.length := ⟨_, rfl⟩
    rw [← hn] at hc hc2 hl ⊢
    clear hn
    go_enter Tryd.func21, Tryd.ntmps21
    go_wp2
    go_loopw [5] (fun i wr => ∃ k : Nat, k ≤ n ∧ i = .int .i64 k ∧ Below w.heap.size w wr) (fun i _ => n - (intOf i).toNat)
    case atStart => exact ⟨0, by omega, rfl, Below.refl _ _⟩
    case round =>
      obtain ⟨k, hk, rfl, hB⟩ := hrel
      by_cases hlt : k < n
      · have hck := (hB.cell (p := ⟨g, k, none⟩) hg).trans (hc k hlt)
        have hck2 := (hB.cell (p := ⟨g2, k, none⟩) hg2).trans (hc2 k hlt)
        clear hc hc2
        go_wp2
        go_quiet (fail)
        go_wp2
        go_roundw
        case rel => exact ⟨k + 1, by omega, by go_num, below_drewN hB _⟩
        case measure => simp [intOf]; omega
      · go_wp2
        go_ret
        exact ⟨rfl, hB⟩
end Go.Proofs.YtinegcahhafddaaDoor
