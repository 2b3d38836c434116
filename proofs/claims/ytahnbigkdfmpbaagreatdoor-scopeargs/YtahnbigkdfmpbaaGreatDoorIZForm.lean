/- The formula of a tree. -/
import Derived.Test.YtahnbigkdfmpbaaGreatDoorIZDim
import Derived.Test.YtahnbigkdfmpbaaGreatDoorIFC
set_option linter.unusedVariables false
set_option linter.unusedSimpArgs false
namespace Go.Proofs.YtahnbigkdfmpbaaGreatDoor
open Go.RowKit Go.Maps Go.WideMaps
def endF (t:Sx) (r:List Cl × Int):Rz (List Cl):=if r.2=0 then (if r.1.length≤40000 then some (.inr r.1) else none) else if 0<r.2 then refuse t r.2.toNat else none
def fmR (σ:Sg):Nat→Sx→Rz (List Cl)
 | 0,_=>none
 | f+1,t =>
  if t.kind=1 then (dimR σ t).bnd fun i=>endF t (F.dimF (i:Nat))
  else if t.kind=16 then (fmR σ f (kd t 0)).bnd fun l=>endF t (F.notF l)
  else none
theorem fm_s (σ:Sg) (f:Nat) (t:Sx):fmR σ (f+1) t=if t.kind=1 then (dimR σ t).bnd fun i=>endF t (F.dimF (i:Nat))
  else if t.kind=16 then (fmR σ f (kd t 0)).bnd fun l=>endF t (F.notF l)
  else none:=rfl
theorem ok_not {f:Nat} {t:Sx} (h:okF (f+1) 1 t=true) (hk:t.kind=16):t.kids.length=1∧okF f 1 (kd t 0)=true:=by
 rw [okF_s] at h
 unfold okR dimB at h
 rw [if_neg (by decide),if_pos rfl,hk] at h
 simp at h
 exact are_one h.2
theorem owns_form {w:World} {base:Nat} {v:Value} {l:List Cl} (h:F.OwnsC w base v l):∃ a cap,v=.slice a l.length cap:=by
 obtain⟨_,⟨rfl,h0⟩ | ⟨g,cap,cur,rfl,_⟩⟩:=h
 ·exact⟨none,0,by rw [h0]⟩
 ·exact⟨_,cap,rfl⟩
theorem endF_nat {t:Sx} {l:List Cl} {e:Int} (h:endF t (l,e)≠none) (h0:e≠0):∃ k:Nat,e=(k:Int):=by
 unfold endF at h
 simp only [h0,if_false] at h
 by_cases h1:0<e
 ·exact⟨e.toNat,by omega⟩
 ·rw [if_neg h1] at h;exact absurd rfl h
theorem endF_bad {t:Sx} {l:List Cl} {k:Nat} {P:List Cl→Value→World→Prop} {w:World} (h0:(k:Int)≠0):EndZ (endF t (l,(k:Int))) P (.panicked [fltS t.at_ k]) w:=by
 unfold endF
 simp only [h0,if_false]
 rw [if_pos (by omega)]
 show _=_
 rfl
theorem endF_ok {t:Sx} {l:List Cl} {P:List Cl→Value→World→Prop} {v:Value} {w:World} (h:endF t (l,0)≠none) (hP:P l v w):EndZ (endF t (l,0)) P (.returned v) w:=by
 unfold endF at h ⊢
 simp only [if_true] at h ⊢
 by_cases hl:l.length≤40000
 ·rw [if_pos hl]
  exact⟨v,rfl,hP⟩
 ·rw [if_neg hl] at h;exact absurd rfl h
theorem endF_len {t:Sx} {r:List Cl × Int} {l:List Cl} (h:endF t r=some (.inr l)):l.length≤40000:=by
 unfold endF at h
 split at h
 ·split at h
  ·injection h with h
   injection h with h
   rw [← h];assumption
  ·cases h
 ·split at h
  ·unfold refuse at h;cases h
  ·cases h
theorem rz_inr {α β:Type} {x:Rz α} {k:α→Rz β} {b:β} (h:Rz.bnd x k=some (.inr b)):∃ a,x=some (.inr a)∧k a=some (.inr b):=by
 cases x with
 | none=>cases h
 | some y=>cases y with
  | inl p=>cases h
  | inr a=>exact⟨a,rfl,h⟩
theorem fm_len {σ:Sg} {f:Nat} {t:Sx} {l:List Cl} (h:fmR σ f t=some (.inr l)):l.length≤40000:=by
 cases f with
 | zero=>cases h
 | succ f =>
  rw [fm_s] at h
  split at h
  ·obtain⟨_,_,h⟩:=rz_inr h
   exact endF_len h
  ·split at h
   ·obtain⟨_,_,h⟩:=rz_inr h
    exact endF_len h
   ·cases h
set_option maxRecDepth 100000 in
set_option maxHeartbeats 4000000 in
theorem fm_any (R:Rsv) (σ:Sg) (n m:Nat):∀ (f:Nat) (t:Sx) (v:Value) (w:World),R.In w σ n→SxIn m w t v→m≤w.heap.size→okF f 1 t=true→blk t≤1000000→fmR σ f t≠none →
  Calls Tryz.prog 78 #[R.ptr,v] w fun e w'=>EndZ (fmR σ f t) (fun l v w'=>F.OwnsC w' w.heap.size v l) e w'∧Below w.heap.size w w':=by
 intro f
 induction f with
 | zero=>intro t v w _ _ _ hok;cases hok
 | succ f ih =>
  intro t v w h ht hm hok hb hne
  obtain⟨ka,kc,na,nc,rfl,hN,hK⟩:=ht.form
  obtain⟨w1,hw1⟩:∃ w1,w1=w.alloc (.cells #[.int .i64 t.kind,.string (bs t.name),.slice ka t.kids.length kc,.slice na t.names.length nc,.int .i64 t.at_] 26):=⟨_,rfl⟩
  have q:Below w.heap.size w w1:=by rw [hw1];exact below_alloc _ _
  have bx:Bx w1 w.heap.size (.int .i64 t.kind) (.string (bs t.name)) (.slice ka t.kids.length kc) (.slice na t.names.length nc) (.int .i64 t.at_):=by rw [hw1];exact bx_new _ _ _ _ _ _
  have ht1:=ht.keep (q.mono hm)
  have h1:=h.keep q
  have hm1:m≤w1.heap.size:=Nat.le_trans hm q.size
  have Hw1:Hid (w1=w.alloc (.cells #[.int .i64 t.kind,.string (bs t.name),.slice ka t.kids.length kc,.slice na t.names.length nc,.int .i64 t.at_] 26)):=hw1
  clear hw1
  have Hsz:Hid (w.heap.size<w1.heap.size):=bx.lt
  obtain⟨s,hs⟩:∃ s,s=w.heap.size:=⟨_,rfl⟩
  rw [← hs] at q bx Hsz ⊢
  obtain⟨r,hr⟩:∃ r,r=fmR σ (f+1) t:=⟨_,rfl⟩
  rw [← hr] at hne ⊢
  rw [fm_s] at hr
  by_cases k1:t.kind=1
  ·have cD:=dimZ_any R σ n m t _ w1 h1 ht1 hm1 (by have:=blk_name t;omega)
   rw [if_pos k1] at hr
   unfold dimR at hr
   rw [k1] at bx cD ht1
   have hBX:Hid (Bx w1 s (.int .i64 1) (.string (bs t.name)) (.slice ka t.kids.length kc) (.slice na t.names.length nc) (.int .i64 t.at_)):=bx
   obtain⟨x0,x1,x2,x3,x4⟩:=bx.cells
   unfold Rsv.ptr at cD ⊢
   rw [k1] at Hw1 ⊢
   have Ht:Hid (SxIn m w1 t (.agg #[.int .i64 1,.string (bs t.name),.slice ka t.kids.length kc,.slice na t.names.length nc,.int .i64 t.at_])):=ht1
   have Hq:Hid (Below s w w1):=q
   have Hs:Hid (s=w.heap.size):=hs
   clear ht1 h h1 ht hN hK bx q ih
   cases hF:fndR t.name σ.d with
   | none =>
    rw [hF] at cD hr
    have Hr:Hid (r=some (.inl (t.at_,90))):=hr
    clear hr hne
    have e:=Hw1.out
    clear Hw1
    subst e hs
    go_enter Tryz.func78,Tryz.ntmps78
    go_wp2_with (go_at_call 100;refine cD.mono ?_;rintro e w2 ⟨rfl,hb2⟩)
    refine⟨rfl,?_,Hq.out.trans (hb2.mono Hq.out.size)⟩
    rw [Hr.out]
    rfl
   | some i =>
    rw [hF] at cD hr
    have Hr:Hid (r=endF t (F.dimF (i:Nat))):=hr
    have cF:=fun w2=>F.dim_any (i:Nat) w2
    have e:=Hw1.out
    clear Hw1
    replace hne:endF t (F.dimF (i:Nat))≠none:=by rw [hr] at hne;exact hne
    clear hr
    subst e hs
    generalize hrF:F.dimF (i:Nat)=rF at *
    obtain⟨lF,eF⟩:=rF
    simp only at cF
    by_cases h0:eF=0
    ·subst h0
     go_enter Tryz.func78,Tryz.ntmps78
     go_wp2_with (first
      | (go_at_call 100;refine cD.mono ?_;rintro e w2 ⟨rfl,hb2⟩)
      | (go_at_call 99;refine (cF _).mono ?_;rintro e w3 ⟨vF,rfl,hO,hb3⟩;obtain⟨pa,ca,rfl⟩:=owns_form hO))
     go_ret
     have hq2:=Hq.out.trans (hb2.mono Hq.out.size)
     refine⟨?_,hq2.trans (hb3.mono hq2.size)⟩
     rw [Hr.out]
     exact endF_ok hne (hO.mono hq2.size)
    ·obtain⟨k,rfl⟩:∃ k:Nat,eF=(k:Int):=endF_nat hne h0
     have cG:=fun w3 (hb:Below (w.alloc (.cells #[.int .i64 1,.string (bs t.name),.slice ka t.kids.length kc,.slice na t.names.length nc,.int .i64 t.at_] 26)).heap.size (w.alloc (.cells #[.int .i64 1,.string (bs t.name),.slice ka t.kids.length kc,.slice na t.names.length nc,.int .i64 t.at_] 26)) w3)=>giveUp_any m t _ k w3 (Ht.out.keep (hb.mono hm1))
     go_enter Tryz.func78,Tryz.ntmps78
     go_wp2_with (first
      | (go_at_call 100;refine cD.mono ?_;rintro e w2 ⟨rfl,hb2⟩)
      | (go_at_call 99;refine (cF _).mono ?_;rintro e w3 ⟨vF,rfl,hO,hb3⟩;obtain⟨pa,ca,rfl⟩:=owns_form hO;have hb23:=hb2.trans (hb3.mono hb2.size);obtain⟨y0,y1,y2,y3,y4⟩:=(hBX.out.blw hb23).cells)
      | (go_at_call 50;refine (cG _ hb23).mono ?_;rintro e w4 ⟨rfl,hb4⟩))
     have hq3:=Hq.out.trans (hb23.mono Hq.out.size)
     refine⟨rfl,?_,hq3.trans (hb4.mono hq3.size)⟩
     rw [Hr.out]
     exact endF_bad h0
  ·rw [if_neg k1] at hr
   by_cases k2:t.kind=16
   ·rw [if_pos k2] at hr
    obtain⟨hl1,ok0⟩:=ok_not hok k2
    obtain⟨a',c',na',nc',e,_,hKd⟩:=ht1.form
    simp only [Value.agg.injEq,Array.mk.injEq,List.cons.injEq,Value.slice.injEq,and_true,true_and] at e
    obtain⟨⟨rfl,rfl⟩,rfl,rfl⟩:=e
    obtain⟨g,off,ka0,kc0,na0,nc0,rfl,hg,hz,z0,z1,z2,z3,z4⟩:=hKd.at (kd_at (t:=t) (j:=0) (by omega))
    have hbk:blk (kd t 0)≤1000000:=by have:=blk_kid (List.mem_of_getElem? (kd_at (t:=t) (j:=0) (by omega)));omega
    have hne2:fmR σ f (kd t 0)≠none:=fun e=>by rw [hr,e] at hne;exact hne rfl
    have cI:=ih (kd t 0) _ w1 h1 hz hm1 ok0 hbk hne2
    simp only [Nat.zero_mul,Nat.add_zero] at z0 z1 z2 z3 z4
    rw [k2] at bx ht1
    have hBX:Hid (Bx w1 s (.int .i64 16) (.string (bs t.name)) (.slice (some ⟨g,off,none⟩) t.kids.length kc) (.slice na t.names.length nc) (.int .i64 t.at_)):=bx
    rw [hl1] at bx
    obtain⟨x0,x1,x2,x3,x4⟩:=bx.cells
    unfold Rsv.ptr at cI ⊢
    rw [k2] at Hw1 ⊢
    have Ht:Hid (SxIn m w1 t (.agg #[.int .i64 16,.string (bs t.name),.slice (some ⟨g,off,none⟩) t.kids.length kc,.slice na t.names.length nc,.int .i64 t.at_])):=ht1
    have Hq:Hid (Below s w w1):=q
    have Hs:Hid (s=w.heap.size):=hs
    clear ht1 h h1 ht hN hK bx q ih hKd hz
    rw [hl1] at Hw1 hBX Ht ⊢
    have e:=Hw1.out
    clear Hw1
    subst e hs
    cases hF:fmR σ f (kd t 0) with
    | none=>exact absurd hF hne2
    | some y =>
     rw [hF] at cI hr hne2
     cases y with
     | inl p =>
      have Hr:Hid (r=some (.inl p)):=hr
      clear hr hne hne2
      unfold EndZ at cI
      simp only at cI
      go_enter Tryz.func78,Tryz.ntmps78
      go_wp2_with (go_at_call 78;refine cI.mono ?_;rintro e w2 ⟨rfl,hb2⟩)
      refine⟨rfl,?_,Hq.out.trans (hb2.mono Hq.out.size)⟩
      rw [Hr.out]
      rfl
     | inr l =>
      have hll:l.length≤40000:=fm_len hF
      have Hr:Hid (r=endF t (F.notF l)):=hr
      replace hne:endF t (F.notF l)≠none:=by rw [hr] at hne;exact hne
      clear hr hne2
      unfold EndZ at cI
      simp only at cI
      have cF:=fun v w2 (B:Nat) (hO:F.OwnsC w2 B v l)=>F.Not_any l v w2 hO.frow hll
      generalize hrF:F.notF l=rF at *
      obtain⟨lF,eF⟩:=rF
      simp only at cF
      by_cases h0:eF=0
      ·subst h0
       go_enter Tryz.func78,Tryz.ntmps78
       go_wp2_with (first
        | (go_at_call 78;refine cI.mono ?_;rintro e w2 ⟨⟨vI,rfl,hOI⟩,hb2⟩;obtain⟨pi,ci,rfl⟩:=owns_form hOI)
        | (go_at_call 102;refine (cF _ _ _ hOI).mono ?_;rintro e w3 ⟨vF,rfl,hO,hb3⟩;obtain⟨pa,ca,rfl⟩:=owns_form hO))
       go_ret
       have hq2:=Hq.out.trans (hb2.mono Hq.out.size)
       refine⟨?_,hq2.trans (hb3.mono hq2.size)⟩
       rw [Hr.out]
       exact endF_ok hne (hO.mono hq2.size)
      ·obtain⟨k,rfl⟩:∃ k:Nat,eF=(k:Int):=endF_nat hne h0
       have cG:=fun w3 (hb:Below (w.alloc (.cells #[.int .i64 16,.string (bs t.name),.slice (some ⟨g,off,none⟩) 1 kc,.slice na t.names.length nc,.int .i64 t.at_] 26)).heap.size (w.alloc (.cells #[.int .i64 16,.string (bs t.name),.slice (some ⟨g,off,none⟩) 1 kc,.slice na t.names.length nc,.int .i64 t.at_] 26)) w3)=>giveUp_any m t _ k w3 (Ht.out.keep (hb.mono hm1))
       go_enter Tryz.func78,Tryz.ntmps78
       go_wp2_with (first
        | (go_at_call 78;refine cI.mono ?_;rintro e w2 ⟨⟨vI,rfl,hOI⟩,hb2⟩;obtain⟨pi,ci,rfl⟩:=owns_form hOI)
        | (go_at_call 102;refine (cF _ _ _ hOI).mono ?_;rintro e w3 ⟨vF,rfl,hO,hb3⟩;obtain⟨pa,ca,rfl⟩:=owns_form hO;have hb23:=hb2.trans (hb3.mono hb2.size);obtain⟨y0,y1,y2,y3,y4⟩:=(hBX.out.blw hb23).cells)
        | (go_at_call 50;refine (cG _ hb23).mono ?_;rintro e w4 ⟨rfl,hb4⟩))
       have hq3:=Hq.out.trans (hb23.mono Hq.out.size)
       refine⟨rfl,?_,hq3.trans (hb4.mono hq3.size)⟩
       rw [Hr.out]
       exact endF_bad h0
   ·rw [if_neg k2] at hr
    exact absurd hr hne
end Go.Proofs.YtahnbigkdfmpbaaGreatDoor
