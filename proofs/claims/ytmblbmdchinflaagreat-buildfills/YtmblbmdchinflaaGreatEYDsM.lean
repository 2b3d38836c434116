/- A row that was lifted by 1 from a dimension on, and the dimension dropped again: the row itself. -/
import Derived.Test.YtmblbmdchinflaaGreatEG17
set_option linter.unusedVariables false
set_option linter.unusedSimpArgs false
namespace Go.Proofs.YtmblbmdchinflaaGreat
open Go.RowKit
theorem lift_bits {s j:Nat} (h:liftE s (j:Int) 1=0) (hs:s<16777216) (k:Nat):(liftN s (j:Int) 1).testBit k=if k<j then s.testBit k else if k=j then false else s.testBit (k - 1):=by
 have ha:argB (j:Int) 1=false:=by cases ha:argB (j:Int) 1 with | false=>rfl | true=>rw [(lift_arg ha).2] at h;cases h
 have hb:liftBad (j:Int) 1 (dimsOf s)=false:=by cases hb:liftBad (j:Int) 1 (dimsOf s) with | false=>rfl | true=>rw [(lift_bad ha hb).2] at h;cases h
 have h24:∀ d,s.testBit d=true→d<24:=fun d hd=>by
  rcases Nat.lt_or_ge d 24 with h|h
  ·exact h
  ·rw [Nat.testBit_lt_two_pow (Nat.lt_of_lt_of_le hs (Nat.pow_le_pow_right (n:=2) (by omega) h))] at hd;cases hd
 rw [(lift_ok ha hb).1,testBit_orAll,Bool.eq_iff_iff,decide_eq_true_iff,List.mem_map]
 constructor
 ·rintro⟨d,hd,e⟩
  rw [mem_dimsOf] at hd
  unfold upK at e
  split at e
  ·rename_i hdj
   subst e
   rw [if_pos (by omega)];exact hd.2
  ·rename_i hdj
   have e:d+1=k:=by simpa using e
   subst e
   rw [if_neg (by omega),if_neg (by omega)]
   exact hd.2
 ·intro hk
  split at hk
  ·rename_i hkj
   exact⟨k,by rw [mem_dimsOf];exact⟨h24 k hk,hk⟩,by unfold upK;rw [if_pos (by omega)]⟩
  ·split at hk
   ·cases hk
   ·rename_i h1 h2
    exact⟨k - 1,by rw [mem_dimsOf];exact⟨h24 _ hk,hk⟩,by unfold upK;rw [if_neg (by omega)];show k - 1+1=k;omega⟩
theorem drop_bits {s j:Nat} (hj:j<24) (hs:s<16777216) (k:Nat):(dropN s (j:Int)).testBit k=if k<j then s.testBit k else s.testBit (k+1):=by
 have h24:∀ d,s.testBit d=true→d<24:=fun d hd=>by
  rcases Nat.lt_or_ge d 24 with h|h
  ·exact h
  ·rw [Nat.testBit_lt_two_pow (Nat.lt_of_lt_of_le hs (Nat.pow_le_pow_right (n:=2) (by omega) h))] at hd;cases hd
 unfold dropN
 rw [if_pos (isDimB_nat hj),testBit_orAll,Bool.eq_iff_iff,decide_eq_true_iff,List.mem_map]
 have ej:(j:Int).toNat=j:=by simp
 rw [ej]
 constructor
 ·rintro⟨d,hd,e⟩
  rw [List.mem_filter,mem_dimsOf] at hd
  have hne:(j:Int)≠(d:Int):=by have:=hd.2;unfold notI at this;exact of_decide_eq_true this
  unfold downK at e
  split at e
  ·subst e
   rw [if_pos (by omega)];exact hd.1.2
  ·subst e
   rw [if_neg (by omega)]
   have:d - 1+1=d:=by omega
   rw [this];exact hd.1.2
 ·intro hk
  split at hk
  ·rename_i hkj
   exact⟨k,by rw [List.mem_filter,mem_dimsOf];exact⟨⟨h24 k hk,hk⟩,decide_eq_true (by omega)⟩,by unfold downK;rw [if_pos hkj]⟩
  ·rename_i hkj
   exact⟨k+1,by rw [List.mem_filter,mem_dimsOf];exact⟨⟨h24 _ hk,hk⟩,decide_eq_true (by omega)⟩,by unfold downK;rw [if_neg (by omega)];omega⟩
theorem drop_lift {s j:Nat} (h:liftE s (j:Int) 1=0) (hs:s<16777216):dropN (liftN s (j:Int) 1) (j:Int)=s:=by
 have hb:=lift_bits h hs
 have hl:=liftN_lt s (j:Int) 1
 rcases Nat.lt_or_ge j 24 with hj|hj
 ·refine Nat.eq_of_testBit_eq fun k=>?_
  rw [drop_bits hj hl]
  split
  ·rename_i hk;rw [hb,if_pos hk]
  ·rename_i hk;rw [hb,if_neg (by omega),if_neg (by omega)];rfl
 ·have e:liftN s (j:Int) 1=s:=by
   refine Nat.eq_of_testBit_eq fun k=>?_
   rw [hb]
   split
   ·rfl
   ·rename_i hk
    have e1:∀ m,24≤m→s.testBit m=false:=fun m hm=>Nat.testBit_lt_two_pow (Nat.lt_of_lt_of_le hs (Nat.pow_le_pow_right (n:=2) (by omega) hm))
    rw [e1 k (by omega)]
    split
    ·rfl
    ·have hz:(liftN s (j:Int) 1).testBit k=false:=Nat.testBit_lt_two_pow (Nat.lt_of_lt_of_le hl (Nat.pow_le_pow_right (n:=2) (by omega) (by omega:24≤k)))
     rw [hb,if_neg (by omega),if_neg (by omega)] at hz
     exact hz
  rw [e]
  unfold dropN
  rw [if_neg (by unfold isDimB;simp;omega)]
  have:=Nat.and_two_pow_sub_one_of_lt_two_pow (n:=24) hs
  exact this
theorem top_diff {x y:Nat}:∀ n,(∀ k,n≤k→x.testBit k=y.testBit k)→x≠y→∃ k,x.testBit k≠y.testBit k∧∀ m,k<m→x.testBit m=y.testBit m
 | 0,h,hne=>absurd (Nat.eq_of_testBit_eq fun k=>h k (Nat.zero_le _)) hne
 | n+1,h,hne=>by
  by_cases hn:x.testBit n=y.testBit n
  ·exact top_diff n (fun k hk=>by
    rcases Nat.eq_or_lt_of_le hk with e|e
    ·rw [← e];exact hn
    ·exact h k e) hne
  ·exact⟨n,hn,fun m hm=>h m hm⟩
theorem lt_bits {x y:Nat} (k:Nat) (hx:x.testBit k=false) (hy:y.testBit k=true) (h:∀ m,k<m→x.testBit m=y.testBit m):x<y:=by
 rw [Nat.testBit_eq_decide_div_mod_eq,decide_eq_false_iff_not] at hx
 rw [Nat.testBit_eq_decide_div_mod_eq,decide_eq_true_iff] at hy
 have e:x / 2 ^ k / 2=y / 2 ^ k / 2:=by
  rw [Nat.div_div_eq_div_mul,Nat.div_div_eq_div_mul,← Nat.pow_succ]
  refine Nat.eq_of_testBit_eq fun m=>?_
  rw [Nat.testBit_div_two_pow,Nat.testBit_div_two_pow]
  exact h _ (by omega)
 rcases Nat.lt_or_ge x y with h1|h1
 ·exact h1
 ·have:=Nat.div_le_div_right (c:=2 ^ k) h1
  omega
theorem lt_top {x y:Nat} (hx:x<16777216) (hy:y<16777216) (h:x<y):∃ k,x.testBit k=false∧y.testBit k=true∧∀ m,k<m→x.testBit m=y.testBit m:=by
 have e1:∀ z,z<16777216→∀ m,24≤m→z.testBit m=false:=fun z hz m hm=>Nat.testBit_lt_two_pow (Nat.lt_of_lt_of_le hz (Nat.pow_le_pow_right (n:=2) (by omega) hm))
 obtain⟨k,hk,hm⟩:=top_diff 24 (fun m hm=>by rw [e1 x hx m hm,e1 y hy m hm]) (by omega:x≠y)
 cases ha:x.testBit k <;> cases hb:y.testBit k
 ·rw [ha,hb] at hk;exact absurd rfl hk
 ·exact⟨k,ha,hb,hm⟩
 ·have:=lt_bits k hb ha (fun m hm'=>(hm m hm').symm)
  omega
 ·rw [ha,hb] at hk;exact absurd rfl hk
theorem lift_lt' {x y j:Nat} (hx:x<16777216) (hy:y<16777216) (ex:liftE x (j:Int) 1=0) (ey:liftE y (j:Int) 1=0) (h:x<y):liftN x (j:Int) 1<liftN y (j:Int) 1:=by
 obtain⟨k,h1,h2,h3⟩:=lt_top hx hy h
 have bx:=lift_bits ex hx
 have by_:=lift_bits ey hy
 by_cases hk:k<j
 ·refine lt_bits k (by rw [bx,if_pos hk,h1]) (by rw [by_,if_pos hk,h2]) (fun m hm=>?_)
  rw [bx,by_]
  split
  ·exact h3 m hm
  ·split
   ·rfl
   ·exact h3 (m - 1) (by omega)
 ·refine lt_bits (k+1) (by rw [bx,if_neg (by omega),if_neg (by omega)];exact h1) (by rw [by_,if_neg (by omega),if_neg (by omega)];exact h2) (fun m hm=>?_)
  rw [bx,by_]
  split
  ·exact h3 m (by omega)
  ·split
   ·rfl
   ·exact h3 (m - 1) (by omega)
theorem liftC_ok {c:C} {j:Nat} (h:liftCE c (j:Int) 1=0):rightC c=true∧liftE c.1.val (j:Int) 1=0∧liftE c.2.val (j:Int) 1=0:=by
 unfold liftCE at h
 split at h
 ·split at h
  ·exact⟨‹_›,‹_›,h⟩
  ·exact absurd h ‹_›
 ·cases h
theorem right_lts {c:C} (h:rightC c=true):c.1.val<16777216∧c.2.val<16777216:=by
 have:=rightC_iff.1 h
 exact⟨by first | exact this.1 | (have:=this.1;omega),by first | exact this.2 | (have:=this.2;omega)⟩
theorem liftC_eq {c:C} {j:Nat} (h:liftCE c (j:Int) 1=0):(liftC c (j:Int) 1).1.val=liftN c.1.val (j:Int) 1∧(liftC c (j:Int) 1).2.val=liftN c.2.val (j:Int) 1:=by
 unfold liftC
 rw [if_pos (liftC_ok h)]
 exact⟨rfl,rfl⟩
theorem drC_lift {c:C} {j:Nat} (h:liftCE c (j:Int) 1=0):drC (j:Int) (liftC c (j:Int) 1)=c:=by
 obtain⟨hr,h1,h2⟩:=liftC_ok h
 obtain⟨l1,l2⟩:=right_lts hr
 obtain⟨e1,e2⟩:=liftC_eq h
 refine Prod.ext (Fin.ext ?_) (Fin.ext ?_)
 ·show dropN (liftC c (j:Int) 1).1.val (j:Int)=_;rw [e1];exact drop_lift h1 l1
 ·show dropN (liftC c (j:Int) 1).2.val (j:Int)=_;rw [e2];exact drop_lift h2 l2
theorem ltC_lift {a b:C} {j:Nat} (ha:liftCE a (j:Int) 1=0) (hb:liftCE b (j:Int) 1=0) (h:ltC a b=true):ltC (liftC a (j:Int) 1) (liftC b (j:Int) 1)=true:=by
 obtain⟨ra,a1,a2⟩:=liftC_ok ha
 obtain⟨rb,b1,b2⟩:=liftC_ok hb
 obtain⟨la1,la2⟩:=right_lts ra
 obtain⟨lb1,lb2⟩:=right_lts rb
 unfold ltC at h ⊢
 rw [(liftC_eq ha).1,(liftC_eq ha).2,(liftC_eq hb).1,(liftC_eq hb).2]
 simp only [Bool.or_eq_true,Bool.and_eq_true,decide_eq_true_eq] at h ⊢
 rcases h with h|⟨h,h'⟩
 ·exact .inl (lift_lt' la1 lb1 a1 b1 h)
 ·exact .inr ⟨by rw [h],lift_lt' la2 lb2 a2 b2 h'⟩
theorem belC_lift {a b:C} {j:Nat} (ha:liftCE a (j:Int) 1=0) (hb:liftCE b (j:Int) 1=0) (h:belC (liftC a (j:Int) 1) (liftC b (j:Int) 1)=true):belC a b=true:=by
 obtain⟨ra,a1,a2⟩:=liftC_ok ha
 obtain⟨rb,b1,b2⟩:=liftC_ok hb
 obtain⟨la1,la2⟩:=right_lts ra
 obtain⟨lb1,lb2⟩:=right_lts rb
 have h':=belC_iff.1 h
 rw [(liftC_eq ha).1,(liftC_eq ha).2,(liftC_eq hb).1,(liftC_eq hb).2] at h'
 have gen:∀ (x y:Nat),x<16777216→y<16777216→liftE x (j:Int) 1=0→liftE y (j:Int) 1=0→(∀ k,k<24→(liftN y (j:Int) 1).testBit k=true→(liftN x (j:Int) 1).testBit k=true)→∀ k,k<24→y.testBit k=true→x.testBit k=true:=by
  intro x y hx hy ex ey hh k hk hyk
  have bx:=lift_bits ex hx
  have by_:=lift_bits ey hy
  have h24:∀ d,(liftN y (j:Int) 1).testBit d=true→d<24:=fun d hd=>by
   rcases Nat.lt_or_ge d 24 with h|h
   ·exact h
   ·rw [Nat.testBit_lt_two_pow (Nat.lt_of_lt_of_le (liftN_lt y (j:Int) 1) (Nat.pow_le_pow_right (n:=2) (by omega) h))] at hd;cases hd
  by_cases hkj:k<j
  ·have e:(liftN y (j:Int) 1).testBit k=true:=by rw [by_,if_pos hkj];exact hyk
   have:=hh k (h24 k e) e
   rw [bx,if_pos hkj] at this
   exact this
  ·have e:(liftN y (j:Int) 1).testBit (k+1)=true:=by rw [by_,if_neg (by omega),if_neg (by omega)];exact hyk
   have:=hh (k+1) (h24 _ e) e
   rw [bx,if_neg (by omega),if_neg (by omega)] at this
   exact this
 exact belC_iff.2 ⟨gen _ _ la1 lb1 a1 b1 h'.1,gen _ _ la2 lb2 a2 b2 h'.2⟩
theorem liftS_map {j:Nat} (l:List C):(liftS l (j:Int) 1).2=0→(liftS l (j:Int) 1).1=l.map (fun c=>liftC c (j:Int) 1)∧∀ c∈l,liftCE c (j:Int) 1=0:=by
 induction l using snoc_ind with
 | nil=>intro _;exact⟨rfl,fun c hc=>by cases hc⟩
 | snoc l c ih =>
  intro h
  rw [liftS_snoc] at h ⊢
  unfold stepL at h ⊢
  by_cases h0:(liftS l (j:Int) 1).2=0
  ·rw [if_pos h0] at h ⊢
   by_cases h1:liftCE c (j:Int) 1=0
   ·rw [if_pos h1]
    obtain⟨e,hall⟩:=ih h0
    refine⟨by rw [List.map_append,← e];rfl,fun d hd=>?_⟩
    rcases List.mem_append.1 hd with hd|hd
    ·exact hall d hd
    ·rw [List.mem_singleton.1 hd];exact h1
   ·rw [if_neg h1] at h;exact absurd h h1
  ·rw [if_neg h0] at h;exact absurd h h0
theorem lift_row {f:List C} {j:Nat} (h:(liftFF f (j:Int) 1).2=0):(liftFF f (j:Int) 1).1=f.map (fun c=>liftC c (j:Int) 1)∧(∀ c∈f,liftCE c (j:Int) 1=0):=by
 unfold liftFF at h ⊢
 by_cases hr:rightF f=true
 ·rw [if_pos hr] at h ⊢
  by_cases h0:(liftS f (j:Int) 1).2=0
  ·rw [if_pos h0] at h ⊢
   obtain⟨e,hall⟩:=liftS_map f h0
   rw [e] at h ⊢
   obtain⟨hp,hlen⟩:=rightF_iff.1 hr
   have hP:PreOk (f.map fun c=>liftC c (j:Int) 1):=by
    refine⟨?_,?_,?_⟩
    ·rw [List.all_eq_true]
     intro x hx
     obtain⟨c,hc,rfl⟩:=List.mem_map.1 hx
     rw [rightC_iff,(liftC_eq (hall c hc)).1,(liftC_eq (hall c hc)).2]
     exact⟨liftN_lt _ _ _,liftN_lt _ _ _⟩
    ·exact List.pairwise_map.2 (List.Pairwise.imp_of_mem (fun ha hb h=>ltC_lift (hall _ ha) (hall _ hb) h) hp.rises)
    ·intro x hx
     obtain⟨c,hc,rfl⟩:=List.mem_map.1 hx
     rw [needed_iff]
     intro y hy hb
     obtain⟨d,hd,rfl⟩:=List.mem_map.1 hy
     rw [needed_iff.1 (hp.need c hc) d hd (belC_lift (hall c hc) (hall d hd) hb)]
   have hR:rightF (f.map fun c=>liftC c (j:Int) 1)=true:=rightF_iff.2 ⟨hP,by simpa using hlen⟩
   rw [rightF_eq hR]
   exact⟨rfl,hall⟩
  ·rw [if_neg h0] at h;exact absurd h h0
 ·rw [if_neg hr] at h;cases h
theorem drop_row {f:List C} {j:Nat} (h:(liftFF f (j:Int) 1).2=0):(liftFF f (j:Int) 1).1.map (drC (j:Int))=f:=by
 obtain⟨e,hall⟩:=lift_row h
 rw [e,List.map_map]
 conv=>rhs;rw [← List.map_id f]
 exact List.map_congr_left (fun c hc=>drC_lift (hall c hc))
end Go.Proofs.YtmblbmdchinflaaGreat
