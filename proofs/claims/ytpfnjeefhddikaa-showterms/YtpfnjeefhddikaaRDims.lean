/- Texts by the document's answer: rank, join, dims. -/
import Derived.Deep.QuietTactic
import Derived.BigQuiet
import Derived.WalkSmall
import Derived.Test.YtpfnjeefhddikaaSLen
import Derived.Test.YtpfnjeefhddikaaSWriteB
namespace Go.Proofs.Ytpfnjeefhddikaa
open Go.RowKit
set_option linter.unusedVariables false
set_option linter.unusedSimpArgs false

/-- '+' on two strings, in a plain statement. -/
theorem wp_add {w : World} {ops : Array Oper} {rest : List Oper} {o : Oper} {a : Act} {Q : Exit → Act → World → Prop} (hgd : o.guard = none) (x y : Operand) (ho : o.op = .binOp .add 9 x y 9)
    (A B S : ByteArray) (hx : a.eval x = .string A) (hy : a.eval y = .string B) (hS : ∀ w, (Op.stringOp .add A B).run Try.prog w = .ok (.string S) w)
    (h : wpList Try.prog ops Q rest (a.put o.dst (.string S)) w) : wpList Try.prog ops Q (o :: rest) a w := by
  refine wpList_plain hgd fun K hK' => ?_
  unfold Oper.wp
  have e : (binOp .add 9 (.string A) (.string B)).run Try.prog w = .ok (.string S) w := by rw [binOp_string_add]; exact hS w
  simp [execOp, ho, hx, hy, eqGuard, e, Result.andThen]
  exact hK' _ _ h
theorem tl_app2 (a b : ByteArray) : tl (a ++ b) = tl a ++ tl b := by simp [tl]
theorem sum_take (m : List Nat) (k : Nat) : (m.take k).sum ≤ m.sum := by
  induction m generalizing k with
  | nil => simp
  | cons x m ih => cases k with
    | zero => simp
    | succ k => have := ih k; rw [List.take_succ_cons, List.sum_cons, List.sum_cons]; omega
theorem add_bs (a b : Bs) (h : a.length + b.length ≤ 100000000) (w : World) : (Op.stringOp .add (bs a) (bs b)).run Try.prog w = .ok (.string (bs (a ++ b))) w := by
  have z : (bs a ++ bs b) = bs (a ++ b) := tl_inj (by rw [tl_app2, tl_bs, tl_bs, tl_bs])
  rw [run_string_add_sum w _ _ (by rw [bs_size, bs_size]; omega), z]
/-- The worlds that leave the blocks of w. -/
def ClsS (w : World) : Type := { w' : World // Below w.heap.size w w' }
theorem clsS_any (w : World) : Nonempty (ClsS w) := ⟨⟨w, Below.refl _ _⟩⟩
theorem wp_region_clsS {id : Nat} {Q : Exit → Act → World → Prop} {a : Act} {w : World} {l : List Oper} (hm : Try.prog.follows .mixedOrders = true) (hB : Region.lexB .any l.toArray = true)
    (h : wpQuiet Try.prog l.toArray (fun w' => ∃ u : ClsS w, w' = u.1) (fun a' => ∀ w', (∃ u : ClsS w, w' = u.1) → Q .normal a' w') l a) : (Code.region id l.toArray true).wp Try.prog Q a w :=
  wp_region_quiet (C := fun w' => ∃ u : ClsS w, w' = u.1) hm hB ⟨⟨_, Below.drew (Below.refl _ _)⟩, rfl⟩ (by simpa using h)
theorem clsS_call {w : World} {f : FuncId} {args : Array Value} {v : Value} (u : ClsS w) (h : Calls Try.prog f args u.1 fun e w' => e = .returned v ∧ Below u.1.heap.size u.1 w') : Calls Try.prog f args u.1 fun e w' => e = .returned v ∧ ∃ u' : ClsS w, w' = u'.1 :=
  h.mono fun e w' ⟨he, hb⟩ => ⟨he, ⟨w', chain u.2 hb⟩, rfl⟩
def rankF (k : Int) : Nat := if k = 14 then 0 else if k = 15 then 1 else 2
set_option maxRecDepth 100000 in
theorem rank_any (n : Nat) (t : Sx) (v : Value) (w : World) (h : SxIn n w t v) : Calls Try.prog 53 #[v] w fun e w' => e = .returned (.int .i64 (rankF t.kind : Nat)) ∧ Below w.heap.size w w' := by
  obtain ⟨ka, kc, na, nc, rfl, hN, hK⟩ := h.form
  have hal := below_alloc w (.cells #[.int .i64 t.kind, .string (bs t.name), .slice ka t.kids.length kc, .slice na t.names.length nc, .int .i64 t.at_] 25)
  clear h hN hK
  unfold rankF
  generalize t.kind = K at *
  generalize t.kids.length = L at *
  generalize t.names.length = M at *
  by_cases h1 : K = 14
  · rw [if_pos h1]
    have k1 : (K == 14) = true := by rw [h1]; rfl
    clear h1
    go_enter Try.func53, Try.ntmps53
    go_wp2
    go_ret
    exact ⟨rfl, hal⟩
  · rw [if_neg h1]
    have k1 : (K == 14) = false := by simp [h1]
    by_cases h2 : K = 15
    · rw [if_pos h2]
      have k2 : (K == 15) = true := by rw [h2]; rfl
      clear h1 h2
      go_enter Try.func53, Try.ntmps53
      go_wp2
      go_ret
      exact ⟨rfl, hal⟩
    · rw [if_neg h2]
      have k2 : (K == 15) = false := by simp [h2]
      clear h1 h2
      go_enter Try.func53, Try.ntmps53
      go_wp2
      go_ret
      exact ⟨rfl, hal⟩
set_option maxRecDepth 100000 in
set_option maxHeartbeats 1000000 in
/-- join, of a row of texts. -/
theorem join_any (ns : List Bs) (sep : Bs) (a : Option Addr) (cap : Nat) (w : World) (hN : ∀ (j : Nat) (x : Bs), ns[j]? = some x → ∃ g off, a = some ⟨g, off, none⟩ ∧ g < w.heap.size ∧ w.cell? ⟨g, off + j, none⟩ = some (.string (bs x))) (hl : ns.length ≤ 1000000) (hs : (ns.map fun x => x.length + sep.length).sum ≤ 10000000) (hsep : sep.length ≤ 1000) :
    Calls Try.prog 33 #[.slice a ns.length cap, .string (bs sep)] w fun e w' => e = .returned (.string (bs (jn sep ns))) ∧ Below w.heap.size w w' := by
  obtain ⟨L, hL⟩ : ∃ L, L = ns.length := ⟨_, rfl⟩
  have HL : Hid (L = ns.length) := hL
  rw [← hL] at hl ⊢
  clear hL
  have HN : Hid (∀ (j : Nat) (x : Bs), ns[j]? = some x → ∃ g off, a = some ⟨g, off, none⟩ ∧ g < w.heap.size ∧ w.cell? ⟨g, off + j, none⟩ = some (.string (bs x))) := hN
  clear hN
  have HJ : Hid (∀ k, (jn sep (ns.take k)).length ≤ 10000000) := fun k => by
    have h1 := jn_len sep (ns.take k)
    have h2 : ((ns.take k).map fun x => x.length + sep.length).sum ≤ (ns.map fun x => x.length + sep.length).sum := by
      rw [List.map_take]
      exact sum_take _ k
    omega
  have HX : Hid (∀ x ∈ ns, x.length ≤ 10000000) := fun x hx => by
    have := sum_mem (List.mem_map_of_mem (f := fun x : Bs => x.length + sep.length) hx)
    omega
  go_enter Try.func33, Try.ntmps33
  go_wp2
  go_loopw [5, 6] (fun s i wr => ∃ k : Nat, k ≤ L ∧ s = .string (bs (jn sep (ns.take k))) ∧ i = .int .i64 k ∧ Below w.heap.size w wr) (fun _ i _ => L - (intOf i).toNat)
  case atStart => exact ⟨0, Nat.zero_le _, rfl, rfl, Below.refl _ _⟩
  case round =>
    obtain ⟨k, hk, rfl, rfl, hB⟩ := hrel
    by_cases hlt : k < L
    · obtain ⟨x, hx⟩ := someS (l := ns) (k := k) (by rw [← HL.out]; exact hlt)
      obtain ⟨g, off, rfl, hg, c0⟩ := HN.out k x hx
      have c0' := (hB.cell (p := ⟨g, off + k, none⟩) hg).trans c0
      have HT : Hid (jn sep (ns.take (k + 1)) = jn sep (ns.take k) ++ ((if k = 0 then [] else sep) ++ x)) := jn_take sep hx
      have q1 := HJ.out k
      have q2 := HX.out x (List.mem_of_getElem? hx)
      clear c0 hx
      by_cases hk0 : k = 0
      · subst hk0
        have ad := add_bs (jn sep []) x (by simp [jn]; omega)
        simp only [Nat.add_zero] at c0'
        go_wp2_with (refine wp_add rfl _ _ rfl _ _ _ rfl rfl ad ?_)
        go_roundw
        case rel => exact ⟨0 + 1, by omega, by rw [HT.out]; simp, by go_num, hB⟩
        case measure => simp [intOf]; omega
      · have hkp : (0 : Int) < (k : Int) := by omega
        have ad1 := add_bs (jn sep (ns.take k)) sep (by omega)
        have ad2 := add_bs (jn sep (ns.take k) ++ sep) x (by rw [List.length_append]; omega)
        go_wp2_with (first | (refine wp_add rfl _ _ rfl _ _ _ rfl rfl ad1 ?_) | (refine wp_add rfl _ _ rfl _ _ _ rfl rfl ad2 ?_))
        go_roundw
        case rel => exact ⟨k + 1, by omega, by rw [HT.out, if_neg hk0], by go_num, hB⟩
        case measure => simp [intOf]; omega
    · have HE : Hid (ns.take k = ns) := List.take_of_length_le (by rw [← HL.out]; omega)
      go_wp2
      go_ret
      exact ⟨by rw [HE.out]; rfl, hB⟩
end Go.Proofs.Ytpfnjeefhddikaa
