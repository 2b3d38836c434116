/- A part where it stands: brackets or none; what is put by one call. -/
import Derived.Test.YtahnbigkdfmpbaaDoorSPut
namespace Go.Proofs.YtahnbigkdfmpbaaDoor
open Go.RowKit
set_option linter.unusedVariables false
set_option linter.unusedSimpArgs false

theorem WB.step {B b : Nat} {X A s : Bs} {w : World} (h : WB B b (cut (cut (X ++ A) ++ s)) w) : WB B b (cut (X ++ (A ++ s))) w := by
  rw [cut_cut, List.append_assoc] at h; exact h
theorem WB.start {B b : Nat} {X : Bs} {w : World} (h : WB B b X w) (hX : X.length ≤ 65537) : WB B b (cut (X ++ [])) w := by
  rw [List.append_nil, cut_self hX]; exact h
theorem WB.fit {B b : Nat} {X A s : Bs} {w : World} (h : WB B b (cut (X ++ A)) w) (e : A = s) : WB B b (cut (X ++ s)) w := by rw [← e]; exact h
theorem sr_new (w : World) (ss : List Bs) : SR (w.alloc (.cells ((ss.map fun s => Value.string (bs s)).toArray) 9)) w.heap.size ss := heap_alloc_new w _
theorem KW.of_alloc (B b : Nat) (w : World) (hB : B ≤ w.heap.size) (o : Obj) : KW B b w (w.alloc o) := (KW.refl B b w).alloc hB o
theorem putN_any (B b : Nat) (X : Bs) (ss : List Bs) (w : World) (h : WB B b X w) (hX : X.length ≤ 65537) (hBw : B ≤ w.heap.size) (hl : ss.length ≤ 100) (hc : ∀ s ∈ ss, s.length ≤ 1000000) :
    Calls Tryd.prog 21 #[wp_ b, .slice (some ⟨w.heap.size, 0, none⟩) ss.length ss.length] (w.alloc (.cells ((ss.map fun s => Value.string (bs s)).toArray) 9)) fun e w' => e = .returned (.tuple #[]) ∧ WB B b (cut (X ++ ss.flatten)) w' ∧ KW B b w w' :=
  (put_any B b X ss w.heap.size _ (h.alloc _) hX (by simp; omega) (sr_new w ss) (by have := h.lt; omega) hl hc).mono fun e w' ⟨h1, h2, h3⟩ => ⟨h1, h2, (KW.of_alloc B b w hBw _).trans h3⟩
theorem put1_any (B b : Nat) (X : Bs) (S1 : ByteArray) (w : World) (h : WB B b X w) (hX : X.length ≤ 65537) (hBw : B ≤ w.heap.size) (h1 : S1.size ≤ 1000000) :
    Calls Tryd.prog 21 #[wp_ b, .slice (some ⟨w.heap.size, 0, none⟩) 1 1] (w.alloc (.cells #[.string S1] 9)) fun e w' => e = .returned (.tuple #[]) ∧ WB B b (cut (X ++ tl S1)) w' ∧ KW B b w w' := by
  have c := putN_any B b X [tl S1] w h hX hBw (by simp) (by simp [tl_len, h1])
  simp only [List.map_cons, List.map_nil, bs_tl, List.flatten_cons, List.flatten_nil, List.append_nil] at c
  exact c
theorem put2_any (B b : Nat) (X : Bs) (S1 S2 : ByteArray) (w : World) (h : WB B b X w) (hX : X.length ≤ 65537) (hBw : B ≤ w.heap.size) (h1 : S1.size ≤ 1000000) (h2 : S2.size ≤ 1000000) :
    Calls Tryd.prog 21 #[wp_ b, .slice (some ⟨w.heap.size, 0, none⟩) 2 2] (w.alloc (.cells #[.string S1, .string S2] 9)) fun e w' => e = .returned (.tuple #[]) ∧ WB B b (cut (X ++ (tl S1 ++ tl S2))) w' ∧ KW B b w w' := by
  have c := putN_any B b X [tl S1, tl S2] w h hX hBw (by simp) (by simp [tl_len, h1, h2])
  simp only [List.map_cons, List.map_nil, bs_tl, List.flatten_cons, List.flatten_nil, List.append_nil] at c
  exact c
theorem put3_any (B b : Nat) (X : Bs) (S1 S2 S3 : ByteArray) (w : World) (h : WB B b X w) (hX : X.length ≤ 65537) (hBw : B ≤ w.heap.size) (h1 : S1.size ≤ 1000000) (h2 : S2.size ≤ 1000000) (h3 : S3.size ≤ 1000000) :
    Calls Tryd.prog 21 #[wp_ b, .slice (some ⟨w.heap.size, 0, none⟩) 3 3] (w.alloc (.cells #[.string S1, .string S2, .string S3] 9)) fun e w' => e = .returned (.tuple #[]) ∧ WB B b (cut (X ++ (tl S1 ++ (tl S2 ++ tl S3)))) w' ∧ KW B b w w' := by
  have c := putN_any B b X [tl S1, tl S2, tl S3] w h hX hBw (by simp) (by simp [tl_len, h1, h2, h3])
  simp only [List.map_cons, List.map_nil, bs_tl, List.flatten_cons, List.flatten_nil, List.append_nil] at c
  exact c
theorem put5_any (B b : Nat) (X : Bs) (S1 S2 S3 S4 S5 : ByteArray) (w : World) (h : WB B b X w) (hX : X.length ≤ 65537) (hBw : B ≤ w.heap.size) (h1 : S1.size ≤ 1000000) (h2 : S2.size ≤ 1000000) (h3 : S3.size ≤ 1000000) (h4 : S4.size ≤ 1000000) (h5 : S5.size ≤ 1000000) :
    Calls Tryd.prog 21 #[wp_ b, .slice (some ⟨w.heap.size, 0, none⟩) 5 5] (w.alloc (.cells #[.string S1, .string S2, .string S3, .string S4, .string S5] 9)) fun e w' => e = .returned (.tuple #[]) ∧ WB B b (cut (X ++ (tl S1 ++ (tl S2 ++ (tl S3 ++ (tl S4 ++ tl S5)))))) w' ∧ KW B b w w' := by
  have c := putN_any B b X [tl S1, tl S2, tl S3, tl S4, tl S5] w h hX hBw (by simp) (by simp [tl_len, h1, h2, h3, h4, h5])
  simp only [List.map_cons, List.map_nil, bs_tl, List.flatten_cons, List.flatten_nil, List.append_nil] at c
  exact c

/-! ### what the parts are -/
theorem are1_inv {ok : Nat → Sx → Bool} {l : List Sx} {g : Nat} (h : areB ok l [g] = true) : ∃ a, l = [a] ∧ ok g a = true := by
  match l, h with
  | [a], h => exact ⟨a, rfl, by simpa [areB] using h⟩
  | a :: b :: l, h => simp [areB] at h
theorem are2_inv {ok : Nat → Sx → Bool} {l : List Sx} {g k : Nat} (h : areB ok l [g, k] = true) : ∃ a c, l = [a, c] ∧ ok g a = true ∧ ok k c = true := by
  match l, h with
  | [a], h => simp [areB] at h
  | [a, c], h => exact ⟨a, c, rfl, by simpa [areB] using h⟩
  | a :: b :: c :: l, h => simp [areB] at h
theorem snames_any {t : Sx} (h : blk t ≤ 1000000) : ∀ x ∈ t.names, x.length ≤ 1000000 := fun x hx => by have := blk_names hx; omega
/-- What a tree that may be a term's or a dim's is, by its kind. -/
structure Parts (f : Nat) (t : Sx) : Prop where
  one : t.kind = 2 ∨ t.kind = 3 → t.names ≠ [] ∧ ∃ a, t.kids = [a] ∧ okF f 0 a = true
  bind : t.kind = 4 ∨ t.kind = 5 → t.names.length < 2 ∧ ∃ a c, t.kids = [a, c] ∧ okF f 0 a = true ∧ okF f 0 c = true
  two : t.kind = 6 ∨ t.kind = 8 ∨ t.kind = 9 → ∃ a c, t.kids = [a, c] ∧ okF f 0 a = true ∧ okF f 0 c = true
  at7 : t.kind = 7 → ∃ a c, t.kids = [a, c] ∧ okF f 0 a = true ∧ okF f 1 c = true
  box : t.kind = 10 → t.kids.all (okF f 2) = true
  not : t.kind = 16 → ∃ a, t.kids = [a] ∧ okF f 1 a = true
  dims : t.kind = 14 ∨ t.kind = 15 → ∃ a c, t.kids = [a, c] ∧ okF f 1 a = true ∧ okF f 1 c = true
  kinds : t.kind = 1 ∨ t.kind = 2 ∨ t.kind = 3 ∨ t.kind = 4 ∨ t.kind = 5 ∨ t.kind = 6 ∨ t.kind = 7 ∨ t.kind = 8 ∨ t.kind = 9 ∨ t.kind = 10 ∨ t.kind = 14 ∨ t.kind = 15 ∨ t.kind = 16 ∨ t.kind = 17
theorem parts_term {f : Nat} {t : Sx} (h : okF (f + 1) 0 t = true) : Parts f t := by
  rw [okF_s] at h
  have h : termB (okF f) t = true := h
  unfold termB at h
  by_cases h1 : t.kind = 1
  · exact ⟨by omega, by omega, by omega, by omega, by omega, by omega, by omega, by omega⟩
  rw [if_neg h1] at h
  by_cases h2 : t.kind = 2 ∨ t.kind = 3
  · rw [if_pos h2] at h
    simp only [Bool.and_eq_true, decide_eq_true_eq] at h
    exact ⟨fun _ => ⟨h.2.1, are1_inv h.2.2.2⟩, by omega, by omega, by omega, by omega, by omega, by omega, by omega⟩
  rw [if_neg h2] at h
  by_cases h3 : t.kind = 4 ∨ t.kind = 5
  · rw [if_pos h3] at h
    simp only [Bool.and_eq_true, decide_eq_true_eq] at h
    exact ⟨by omega, fun _ => ⟨h.2.1, are2_inv h.2.2.2⟩, by omega, by omega, by omega, by omega, by omega, by omega⟩
  rw [if_neg h3] at h
  by_cases h4 : t.kind = 6 ∨ t.kind = 8 ∨ t.kind = 9
  · rw [if_pos h4] at h
    simp only [Bool.and_eq_true] at h
    exact ⟨by omega, by omega, fun _ => are2_inv h.2, by omega, by omega, by omega, by omega, by omega⟩
  rw [if_neg h4] at h
  by_cases h5 : t.kind = 7
  · rw [if_pos h5] at h
    simp only [Bool.and_eq_true] at h
    exact ⟨by omega, by omega, by omega, fun _ => are2_inv h.2, by omega, by omega, by omega, by omega⟩
  rw [if_neg h5] at h
  by_cases h6 : t.kind = 10
  · rw [if_pos h6] at h
    simp only [Bool.and_eq_true] at h
    exact ⟨by omega, by omega, by omega, by omega, fun _ => h.2, by omega, by omega, by omega⟩
  rw [if_neg h6] at h
  cases h
theorem parts_dim {f : Nat} {t : Sx} (h : okF (f + 1) 1 t = true) : Parts f t := by
  rw [okF_s] at h
  have h : dimB (okF f) t = true := h
  unfold dimB at h
  by_cases h1 : t.kind = 1
  · exact ⟨by omega, by omega, by omega, by omega, by omega, by omega, by omega, by omega⟩
  rw [if_neg h1] at h
  by_cases h2 : t.kind = 17
  · exact ⟨by omega, by omega, by omega, by omega, by omega, by omega, by omega, by omega⟩
  rw [if_neg h2] at h
  by_cases h3 : t.kind = 16
  · rw [if_pos h3] at h
    simp only [Bool.and_eq_true] at h
    exact ⟨by omega, by omega, by omega, by omega, by omega, fun _ => are1_inv h.2, by omega, by omega⟩
  rw [if_neg h3] at h
  by_cases h4 : t.kind = 15 ∨ t.kind = 14
  · rw [if_pos h4] at h
    simp only [Bool.and_eq_true] at h
    exact ⟨by omega, by omega, by omega, by omega, by omega, by omega, fun _ => are2_inv h.2, by omega⟩
  rw [if_neg h4] at h
  cases h
theorem parts_of {f g : Nat} {t : Sx} (hg : g < 2) (h : okF (f + 1) g t = true) : Parts f t := by
  rcases (show g = 0 ∨ g = 1 by omega) with rfl | rfl
  · exact parts_term h
  · exact parts_dim h

set_option maxRecDepth 100000 in
set_option maxHeartbeats 1000000 in
theorem lastPlace_any (K : Int) (w : World) : Calls Tryd.prog 36 #[.int .i64 K] w fun e w' => e = .returned (.int .i64 (lastP K : Nat)) ∧ w' = w := by
  obtain ⟨r, hr⟩ : ∃ r, lastP K = r := ⟨_, rfl⟩
  rw [hr]
  have H : Hid (lastP K = r) := hr
  clear hr
  go_enter Tryd.func36, Tryd.ntmps36
  go_wp2
  all_goals
    go_ret
    refine ⟨ret_int ?_, rfl⟩
    have h := H.out
    clear H
    unfold lastP at h
    first | (simp_all; done) | (simp_all; omega) | (split at h <;> simp_all <;> omega)
end Go.Proofs.YtahnbigkdfmpbaaDoor
