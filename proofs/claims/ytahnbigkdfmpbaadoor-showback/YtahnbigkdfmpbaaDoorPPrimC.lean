/- The reader's functions, further: rows of names; binders that are seen beforehand. -/
import Derived.Test.YtahnbigkdfmpbaaDoorPPrimB
namespace Go.Proofs.YtahnbigkdfmpbaaDoor
open Go.RowKit
set_option linter.unusedVariables false
set_option linter.unusedSimpArgs false

def encS (n : Bs) : Value := .string (bs n)
/-- The slice value v owns the names ns, in a block from 'base' on. -/
def OwnsS (w : World) (base : Nat) (v : Value) (ns : List Bs) : Prop := w.ownsRow base 9 1 v ns.length (ns.map encS)
theorem OwnsS.nm {w : World} {base : Nat} {v : Value} {ns : List Bs} (h : OwnsS w base v ns) (hL : ns.length ≤ 3000000) : NmIn (From base) w ns v := by
  have h0 := h
  obtain ⟨h1, ⟨rfl, h2⟩ | ⟨g, cap, cur, rfl, hg, hh, hn, hc, hs, ht⟩⟩ := h
  · obtain rfl := List.length_eq_zero_iff.1 h2
    exact .nil _ _
  · refine .row ns g 0 cap ⟨hL, hn⟩ hg (World.ownsRow.lt h0 g rfl).2 fun j n hj => ?_
    have hlt : j < ns.length := by
      rcases Nat.lt_or_ge j ns.length with h1 | h1
      · exact h1
      · rw [List.getElem?_eq_none h1] at hj; exact absurd hj (by simp)
    have e0 := World.ownsRow.cellAt h0 j (by omega)
    rw [List.getElem?_map, hj] at e0
    rw [Nat.zero_add]
    exact e0
theorem OwnsS.kp {w w' : World} {b base : Nat} {v : Value} {ns : List Bs} (h : OwnsS w base v ns) (hk : Kp b w w') (hb : b < base) : OwnsS w' base v ns := by
  have hlt := World.ownsRow.lt h
  obtain ⟨h1, h2⟩ := h
  refine ⟨h1, ?_⟩
  rcases h2 with h2 | ⟨g, cap, cur, rfl, hg, hh, r⟩
  · exact .inl h2
  · exact .inr ⟨g, cap, cur, rfl, hg, (hk.block g (hlt g rfl).2 (by omega)).trans hh, r⟩
theorem owns_one (w : World) (base : Nat) (n : Bs) (hb : base ≤ w.heap.size) : OwnsS (w.alloc (.cells #[.string (bs n)] 9)) base (.slice (some ⟨w.heap.size, 0, none⟩) 1 1) [n] :=
  World.ownsRow_lit (size := 1) w #[.string (bs n)] 1 hb (by decide) rfl
/-- append of one name onto a row that is owned, in a plain statement. -/
theorem wpList_append_str {w : World} {ops : Array Oper} {rest : List Oper} {o : Oper} {a : Act} {Q : Exit → Act → World → Prop}
    (hgd : o.guard = none) (s x : Operand)
    (ho : o.op = .call { callee := .builtin .append, args := #[s, x], argTypes := #[23, 23] }) (base : Nat) (v : Value) (ad : Addr) (u : List Bs) (t : Bs) (hs : a.eval s = v) (hx : a.eval x = .slice (some ad) 1 1)
    (hO : OwnsS w base v u) (hr : w.cell? ad = some (.string (bs t))) (hn : u.length ≤ 200000) (hb : base ≤ w.heap.size)
    (h : ∀ v' w', OwnsS w' base v' (u ++ [t]) → w.grownBy w' v.ownBlock → wpList Tryd.prog ops Q rest (a.put o.dst v') w') : wpList Tryd.prog ops Q (o :: rest) a w := by
  refine wpList_plain hgd fun K hK' => ?_
  obtain ⟨i0, hi, hz0, hz1, hz2⟩ := info_parts Tryd.infoStr
  obtain ⟨v', w', hrun, r1, r2, _, r4⟩ := run_append_own_at (P := Tryd.prog) w base 23 o.type 9 i0 _ 1 16 Tryd.underlying23 hi hz0 hz1 hz2 rfl (by decide) v u.length (u.map encS) hO ad 1 1 [encS t] rfl (by
    intro j x hj
    cases j with
    | zero =>
      obtain rfl : encS t = x := by simpa using hj
      rw [show ad.add 0 = ad from by cases ad; simp [Addr.add]]; exact hr
    | succ j => simp at hj) (by intro u hu; simp at hu; subst hu; rfl) (by unfold maxLen; omega) (by omega) hb
  have r1' : OwnsS w' base v' (u ++ [t]) := by
    unfold OwnsS
    rw [List.map_append, List.length_append]
    exact r1
  unfold Oper.wp
  simp [execOp, ho, resolve, invoke, builtin, hs, hx, hrun, Result.andThen]
  exact hK' _ _ (h v' w' r1' r2)
theorem Kp.grown {b base : Nat} {w w' : World} {v : Value} {u : List Bs} (hO : OwnsS w base v u) (hg : w.grownBy w' v.ownBlock) : ∀ w0, Kp b w0 w → w0.heap.size ≤ base → Kp b w0 w' := fun w0 h h0 =>
  ⟨hg.os.trans h.os, hg.tape.trans h.tape, hg.output.trans h.output, Nat.le_trans h.size hg.size, fun k hk hb => (hg.block k (Nat.lt_of_lt_of_le hk h.size) (fun e => by have := (World.ownsRow.lt hO k e.symm).1; omega)).trans (h.block k hk hb)⟩
theorem Rdr.In.grown {r : Rdr} {base : Nat} {w w' : World} {v : Value} {u : List Bs} {R : Ts} (h : r.In w R) (hO : OwnsS w base v u) (hg : w.grownBy w' v.ownBlock) (hb : r.b < base) : r.In w' R := by
  have hB : ∀ k, k ≤ r.b → w'.heap[k]? = w.heap[k]? := fun k hk => hg.block k (by have := h.lt; omega) (fun e => by have := (World.ownsRow.lt hO k e.symm).1; omega)
  have hBl : Below (r.b + 1) w w' := ⟨hg.os, hg.tape, hg.output, hg.size, fun k hk => hB k (by omega)⟩
  exact ⟨⟨h.lt.1, Nat.lt_of_lt_of_le h.lt.2 hg.size⟩, (hBl.cell (Nat.lt_succ_self _)).trans h.c0, let ⟨P, h1, h2⟩ := h.pre; ⟨P, h1, (hBl.cell (Nat.lt_succ_self _)).trans h2⟩, (hBl.frozen (Nat.lt_succ_self _)).trans h.fz, h.toks.below hBl (by have := h.lt; omega)⟩

set_option maxRecDepth 100000 in
set_option maxHeartbeats 2000000 in
theorem names_any (r : Rdr) (w : World) (R : Ts) (hR : r.In w R) (hwf : r.wf) :
    Calls Tryd.prog 68 #[r.ptr] w (Out r w (fun ns w' v => NmIn (From w.heap.size) w' ns v) (namesP r.e R)) := by
  have c := name_any r w R hR hwf
  obtain ⟨X, hX⟩ : ∃ X, namesP r.e R = X := ⟨_, rfl⟩
  rw [hX]
  unfold namesP at hX
  cases hq : nameP r.e R using Rs.cs with
  | bad p x =>
    rw [hq] at c hX
    have HX : Hid (_ = X) := hX
    clear hX hq
    go_enter Tryd.func68, Tryd.ntmps68
    go_wp2_with fail
    refine c.mono ?_
    rintro e w' ⟨rfl, hb⟩
    exact ⟨rfl, Out.bad_of HX.out.symm hb⟩
  | ok n R1 =>
    rw [hq] at c hX
    have HX : Hid (namesL [n] R1 = X) := hX
    clear hX hq
    have hlt := hR.lt
    go_enter Tryd.func68, Tryd.ntmps68
    go_wp2_with fail
    refine c.mono ?_
    rintro e w1 ⟨v, rfl, rfl, hI, hk⟩
    have hsz := hk.size
    go_wp2_with fail
    have hO := owns_one w1 w.heap.size n hsz
    go_loopg [3] R1.length (fun m o wr => ∃ acc R', m = R'.length ∧ acc.length + R'.length ≤ 65537 ∧ OwnsS wr w.heap.size o acc ∧ r.In wr R' ∧ Kp r.b w wr ∧ Hid (namesL acc R' = X))
    case atStart =>
      refine ⟨[n], R1, rfl, ?_, hO, hI.below (below_alloc _ _), hk.alloc _, HX⟩
      obtain ⟨P, hP, _⟩ := hI.pre
      have := hwf.1
      rw [hP] at this
      simp at this ⊢
      omega
    case round =>
      obtain ⟨acc, R', hm, hacc, hO', hI', hk', HK⟩ := hrel
      clear hO hI hk HX c hsz hR
      have cs := seesName_any r wr R' hI' hwf
      cases hq : isN R' with
      | false =>
        rw [hq] at cs
        have HE : Hid (X = .ok acc R') := by
          rw [← HK.out]
          cases R' with
          | nil => rfl
          | cons t R' => show _ = _; simp [isN] at hq; simp [namesL, hq]
        clear HK hq
        go_wp2_with fail
        refine cs.mono ?_
        rintro e w2 ⟨rfl, hb⟩
        go_wp2_with fail
        go_ret
        exact Out.ok_of HE.out ((hO'.nm (by omega)).blw hb) (hI'.below hb) (chainK hk' hb)
      | true =>
        rw [hq] at cs
        obtain ⟨t, R2, rfl, ht⟩ := isN_cons hq
        have HE : Hid (namesL (acc ++ [t.text]) R2 = X) := by
          rw [← HK.out]
          show _ = _
          simp [namesL, ht]
        have cn := fun w (h : r.In w (t :: R2)) => name_any r w (t :: R2) h hwf
        simp only [nameP, hq, if_true, txt, List.tail_cons] at cn
        have hsz := hk'.size
        have A : Aside (gk = (t :: R2).length ∧ acc.length + (t :: R2).length ≤ 65537) := ⟨hm, hacc⟩
        clear HK hq ht hm hacc
        go_wp2_with fail
        refine cs.mono ?_
        rintro e w2 ⟨rfl, hb⟩
        have cn2 := cn w2 (hI'.below hb)
        clear cn cs
        go_wp2_with fail
        refine cn2.mono ?_
        rintro e w3 ⟨v, rfl, rfl, hI3, hk3⟩
        clear cn2
        have hO3 : OwnsS w3 w.heap.size _ acc := (hO'.kp (Kp.of_below (b := r.b) hb) (by omega)).kp hk3 (by omega)
        have hK3 := (chainK hk' hb).trans hk3
        have hal := below_alloc w3 (.cells #[.string (bs t.text)] 9)
        have hO4 := hO3.kp (Kp.of_below (b := r.b) hal) (by omega)
        have hsz3 := hK3.size
        obtain ⟨Y, hY⟩ : ∃ Y, bs t.text = Y := ⟨_, rfl⟩
        have HY : Hid (bs t.text = Y) := hY
        simp only [hY] at hO4 hal ⊢
        clear hY
        go_wp2_with (at_builtin; refine wpList_append_str rfl _ _ rfl w.heap.size _ ⟨w3.heap.size, 0, none⟩ acc t.text rfl rfl hO4 (by rw [HY.out]; simp [go_sem]) (by have := A.out.2; omega) (by simp; omega) ?_; intro v' w4 hO5 hg5)
        go_roundg R2.length
        case measure => have := A.out.1; simp at this; omega
        case rel => exact ⟨acc ++ [t.text], R2, rfl, by have := A.out.2; simp at this ⊢; omega, hO5, (hI3.below hal).grown hO4 hg5 (by omega), Kp.grown hO4 hg5 w (hK3.trans (Kp.of_below hal)) (Nat.le_refl _), HE⟩
end Go.Proofs.YtahnbigkdfmpbaaDoor
