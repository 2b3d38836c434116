/- A part of the proof. -/
import Derived.Test.YtblbhmnahoiecaaGreatHG32
set_option linter.unusedVariables false
set_option linter.unusedSimpArgs false
set_option maxRecDepth 100000
set_option maxHeartbeats 4000000
namespace Go.Proofs.YtblbhmnahoiecaaGreat
open Go.RowKit
theorem free_lift1 {r:List C} {i:Nat} (h:(liftFF r (i:Int) 1).2=0):freeL i (liftFF r (i:Int) 1).1:=fun x hx=>by
 have h':(liftFF r (i:Int) ((1:Nat):Int)).2=0:=h
 obtain⟨_,hall,m1,_,_⟩:=liftFF_facts h'
 obtain⟨c,hc,rfl⟩:=m1 x hx
 have b:=liftC_bits (hall c hc) i
 have e1:¬ i<i:=by omega
 have e2:i<i+1:=by omega
 rw [if_neg e1,if_pos e2,if_neg e1,if_pos e2] at b
 exact b
theorem free_up {s:List C} {i bd:Nat} (h:(liftFF s 0 (bd:Int)).2=0) (hf:freeL i s):freeL (i+bd) (liftFF s 0 (bd:Int)).1:=fun x hx=>by
 have h':(liftFF s ((0:Nat):Int) (bd:Int)).2=0:=h
 obtain⟨_,hall,m1,_,_⟩:=liftFF_facts h'
 obtain⟨c,hc,rfl⟩:=m1 x hx
 have b:=liftC_bits (hall c hc) (i+bd)
 have e1:¬ i+bd<0:=by omega
 have e2:¬ i+bd<0+bd:=by omega
 rw [if_neg e1,if_neg e2,if_neg e1,if_neg e2,Nat.add_sub_cancel] at b
 have q:=hf c hc
 exact⟨b.1.trans q.1,b.2.trans q.2⟩
theorem freeL.calm {k:Nat} {l:List C} (h:freeL k l):freeL k (calmC l):=fun c hc=>h c (mem_calm.1 hc).1
theorem freeA_prt {i:Nat} (hi:i<24) {c:C} {one:List C} {z:List C × Int} (h1:freeL i one) (hz:freeL i z.1):freeL i (prtA c (i:Int) one z).1:=by
 unfold prtA
 split
 ·unfold mtR;exact (freeL.pairs (out_free hi) h1).calm.least
 ·split
  ·split
   ·unfold mtR;exact (freeL.pairs (out_free hi) hz).calm.least
   ·exact hz
  ·exact out_free hi
theorem freeA_pts {i:Nat} (hi:i<24) {f one:List C} {z:List C × Int} (h1:freeL i one) (hz:freeL i z.1):freeL i (ptS f (i:Int) one z).1:=by
 induction f using snoc_ind with
 | nil=>exact freeL.nil i
 | snoc f c ih =>
  rw [ptS_snoc]
  unfold stpA
  split
  ·split
   ·exact (freeL.append ih (freeA_prt hi h1 hz)).least
   ·exact freeL.nil i
  ·exact ih
theorem free_ofF {i:Nat} {r:List C} (h:freeL i r):freeL i (ofF r).1:=by
 unfold ofF;split
 ·exact h.calm.least
 ·exact freeL.nil i
theorem free_ofZ {i:Nat} {r:List C} (h:freeL i r):freeL i (ofZ r).1:=by
 unfold ofZ;split
 ·have:freeL i (notF r).1:=by
   unfold notF;split
   ·exact freeL.not h
   ·exact freeL.nil i
  exact this.calm.least
 ·exact freeL.nil i
theorem putF_free {i:Nat} (hi:i<24) {l r:List C} (h:freeL i r):freeL i (putF l (i:Int) r).1:=by
 unfold putF;split
 ·unfold putR;exact freeL.put hi h (freeL.not h)
 ·exact freeL.nil i
theorem ptA_free {i:Nat} (hi:i<24) {l r:List C} (h:freeL i r):freeL i (ptA l (i:Int) r).1:=by
 unfold ptA;split
 ·exact freeA_pts hi (free_ofF h) (free_ofZ h)
 ·exact freeL.nil i
theorem row_freeR {PF:List C->Int->List C->List C × Int} (hPF:∀ (i:Nat),i<24->∀ (l r:List C),freeL i r->freeL i (PF l (i:Int) r).1) {i bd:Nat} {s l:List C} (hs:freeL i s) (h24:i+bd<24):freeL (i+bd) (putRow PF (i:Int) s l bd).1:=by
 rcases row_cases (i:=i) (bd:=bd) (l:=l) with ⟨_,hin⟩|hin
 ·have e1:((i:Int) + (bd:Int))=((i+bd:Nat):Int):=by omega
  unfold putRow
  split
  ·split
   ·rename_i h;rw [e1];exact hPF _ h24 _ _ (free_up h hs)
   ·exact freeL.nil _
  ·rename_i h
   rw [e1,hasB_nat h24,dimsN_bit,hin] at h
   simp [h24] at h
 ·rw [put_no hin]
  intro c hc
  have h0:=hin h24
  constructor
  ·cases hb:c.1.val.testBit (i+bd)
   ·rfl
   ·rw [inF_iff.2 ⟨c,hc,.inl hb⟩] at h0;cases h0
  ·cases hb:c.2.val.testBit (i+bd)
   ·rfl
   ·rw [inF_iff.2 ⟨c,hc,.inr hb⟩] at h0;cases h0
theorem lift_drC {c:C} {j:Nat} (hj:j<24) (hr:rightC c=true) (hf:freeC j c):LiC j 1 (drC (j:Int) c) c:=fun k=>by
 have b:=drC_bits hj hr k
 have b1:=drC_bits hj hr (k - 1)
 rw [b.1,b.2,b1.1,b1.2]
 by_cases h1:k<j
 ·simp [h1]
 ·by_cases h2:k<j+1
  ·obtain rfl:k=j:=by omega
   have e:=hf
   simp only [h1,if_false,h2,if_true]
   exact hf
  ·have h3:¬ k - 1<j:=by omega
   have h4:k - 1+1=k:=by omega
   simp [h1,h2,h3,h4]
theorem cut_free {l:List C} {j:Nat} (hj:j<24) (hl:rightF l=true) (hf:freeL j l):cutL (j:Int) l=l.map (drC (j:Int)):=by
 have h0:=cut_least (j:=(j:Int)) (rightF_len hl)
 have hr:rightF (cutL (j:Int) l)=true:=leastF_right _
 have hL:LiR j 1 (l.map (drC (j:Int))) l:=by
  refine⟨fun d hd=>?_,fun d hd=>⟨_,List.mem_map_of_mem hd,lift_drC hj (mem_right hl hd) (hf d hd)⟩⟩
  obtain⟨c,hc,rfl⟩:=List.mem_map.1 hd
  exact⟨c,hc,lift_drC hj (mem_right hl hc) (hf c hc)⟩
 have hbit:∀ c∈l,(∀ k,((drC (j:Int) c).1.val.testBit k=true\/(drC (j:Int) c).2.val.testBit k=true)->k<23\/k<j):=fun c hc k hk=>by
  have q:=lift_drC hj (mem_right hl hc) (hf c hc)
  have u:=q.up k
  have hrc:=right_bit (mem_right hl hc) (k:=if k<j then k else k+1)
  by_cases hkj:k<j
  ·exact .inr hkj
  ·left
   rw [if_neg hkj] at u hrc
   rcases hk with hk|hk
   ·have:=hrc.1 (u.1.trans hk);omega
   ·have:=hrc.2 (u.2.trans hk);omega
 have hE:∀ c∈l,liftCE (drC (j:Int) c) (j:Int) 1=0:=fun c hc=>by
  have one:∀ s:Nat,(∀ k,s.testBit k=true->k<23\/k<j)->liftE s (j:Int) 1=0:=fun s hs=>by
   have ha:argB (j:Int) 1=false:=argB_no (by omega) (by omega)
   refine (lift_ok ha ?_).2
   unfold liftBad
   rw [List.any_eq_false]
   intro k hk
   rw [mem_dimsOf] at hk
   have:=hs k hk.2
   rw [Bool.not_eq_true]
   unfold badK
   simp only [Bool.and_eq_false_iff,decide_eq_false_iff_not]
   omega
  unfold liftCE
  rw [if_pos (drC_right _ c),if_pos (one _ fun k hk=>hbit c hc k (.inl hk))]
  exact one _ fun k hk=>hbit c hc k (.inr hk)
 have hsub:∀ x∈cutL (j:Int) l,∃ c∈l,x=drC (j:Int) c:=fun x hx=>by
  obtain⟨c,hc,rfl⟩:=List.mem_map.1 (leastF_sub x hx)
  exact⟨c,hc,rfl⟩
 have hlift:(liftFF (cutL (j:Int) l) (j:Int) 1).2=0:=by
  have hall:∀ x∈cutL (j:Int) l,liftCE x (j:Int) 1=0:=fun x hx=>by
   obtain⟨c,hc,rfl⟩:=hsub x hx
   exact hE c hc
  have h1:=liftS_all _ hall
  unfold liftFF
  rw [if_pos hr,if_pos h1]
  obtain⟨e,_⟩:=liftS_mapN _ h1
  rw [e]
  refine least_small (all_mem fun x hx=>?_) (by rw [List.length_map];exact rightF_len hr)
  obtain⟨c,hc,rfl⟩:=List.mem_map.1 hx
  exact rightC_lift c _ _
 have hlift':(liftFF (cutL (j:Int) l) (j:Int) ((1:Nat):Int)).2=0:=hlift
 have hP:=lfR_map hlift'
 have hback:(liftFF (cutL (j:Int) l) (j:Int) 1).1=l:=by
  refine rightF_ext (lift_right hlift) hl fun y _=>?_
  have e1:=hP.dn (fun d hd=>mem_right hr hd) (fun d hd=>mem_right (lift_right hlift) hd) y
  have e2:=hL.dn (fun d hd=>by obtain⟨c,_,rfl⟩:=List.mem_map.1 hd;exact drC_right _ c) (fun d hd=>mem_right hl hd) y
  have e3:dn (cutL (j:Int) l) (unC j 1 y)↔dn (l.map (drC (j:Int))) (unC j 1 y):=leastF_dn h0 _
  exact (e1.trans e3).trans e2.symm
 have:=drop_row hlift
 rw [hback] at this
 exact this.symm
theorem cut_any {l:List C} {j:Nat} (hl:rightF l=true) (hf:j<24->freeL j l):cutL (j:Int) l=l.map (drC (j:Int)):=by
 by_cases hj:j<24
 ·exact cut_free hj hl (hf hj)
 ·have e:=drop_far (Nat.le_of_not_lt hj) hl
  unfold cutL
  rw [e,rightF_eq hl]
theorem refOp_false (i:Int) (r:List C):refOp false i r=putOp i r:=by
 have h:∀ (j:Int) (p:List C × Int),cutP false j p=p:=fun j p=>by unfold cutP;rw [if_neg (by simp)]
 unfold refOp putOp
 simp only [h]
theorem row_rightF {fb:Bool} {i:Int} {r l:List C} {bd:Nat} (hl:rightF l=true) (hA:fb=true->rightA l=true):rightF (putRow (pfB fb) i r l bd).1=true:=by
 unfold putRow
 split
 ·split
  ·cases fb
   ·exact putF_right _ _ _
   ·exact rightA_right (ptA_right _ _ _)
  ·exact rightF_nil
 ·exact hl
theorem stay_ref {i:Int} {r:List C} {bd:Nat} {f:List C} (hA:rightA f=true):stayB (refOp true i r) bd f=stayB (putOp i r) bd f:=by
 have hlen:(putRow ptA i r f bd).1.length<=64:=rightF_len (row_rightF (fb:=true) (rightA_right hA) (fun _=>hA))
 show (!(cutP true (i+bd) (putRow ptA i r f bd)).1.isEmpty) = !(putRow ptA i r f bd).1.isEmpty
 unfold cutP
 split
 ·show (!(cutL (i+bd) (putRow ptA i r f bd).1).isEmpty)=_
  rw [cut_empty hlen]
 ·rfl
theorem cut_rowT {j:Int} {p:List C × Int} (h:p.2=0):(cutP true j p).1=cutL j p.1:=by unfold cutP;rw [if_pos ⟨rfl,h⟩]
theorem own_er (i:Int) (r:List C) (k:Int) (l:List C) (bd:Nat):(ownP (refOp true i r) k l bd).2=(ownP (putOp i r) k l bd).2:=by
 unfold ownP
 split
 ·exact cutP_er _ _ _
 ·exact cutP_er _ _ _
theorem e_ref {i:Int} {r:List C}:∀ (N:Nat) (t:Tm) (bd:Nat),blk t<=N->OkX t->eT (refOp true i r) t bd=eT (putOp i r) t bd
 | 0,t,bd,hN,_=>by have:=blk_pos t;omega
 | N+1,t,bd,hN,hok=>by
  obtain⟨sb1,sb2⟩:=okx_sub hok
  rw [e_eq,e_eq,own_er]
  have h1:eK (refOp true i r) t.kind t.kids bd=eK (putOp i r) t.kind t.kids bd:=by
   refine List.ext_getElem? fun j=>?_
   cases hj:t.kids[j]? with
   | none=>rw [List.getElem?_eq_none_iff] at hj;rw [List.getElem?_eq_none_iff.2 (by rw [eK_len];exact hj),List.getElem?_eq_none_iff.2 (by rw [eK_len];exact hj)]
   | some x=>rw [eK_get hj,eK_get hj,e_ref N x _ (by have:=blk_kid (List.mem_of_getElem? hj);omega) (sb1 j x hj)]
  have h2:eS (refOp true i r) t.kind t.sys bd=eS (putOp i r) t.kind t.sys bd:=by
   unfold eS
   refine List.map_congr_left fun b hb=>?_
   unfold eB
   have e1:((refOp true i r).fc b.1 bd).2=((putOp i r).fc b.1 bd).2:=cutP_er _ _ _
   have e2:eBk (refOp true i r) t.kind b bd=eBk (putOp i r) t.kind b bd:=by
    unfold eBk
    exact List.map_congr_left fun x hx=>e_ref N x _ (by have:=blk_sub hb hx;omega) ((sb2 b hb).2 x hx)
   rw [e1,e2,stay_ref (sb2 b hb).1]
  rw [h1,h2]
theorem e_dropR (i:Int):∀ (t:Tm) (bd:Nat),eT (dropOp i) t bd=0:=fun t bd =>
 e_zero (o:=dropOp i) (fun _ _=>True) (fun t bd _=>⟨by unfold ownP;split <;> rfl,fun _ _ _=>trivial,fun b _=>⟨rfl,fun _ _=>trivial⟩⟩) _ t bd (Nat.le_refl _) trivial
theorem own_ref {i:Nat} {s:List C} (hs:freeL i s) {k:Int} {l:List C} {bd:Nat} (hl:rightF l=true) (hA:k=14->rightA l=true) (h:(ownP (putOp (i:Int) s) k l bd).2=0):(ownP (refOp true (i:Int) s) k l bd).1=(ownP (dropOp (i:Int)) k (ownP (putOp (i:Int) s) k l bd).1 bd).1:=by
 have e1:((i:Int) + (bd:Int))=((i+bd:Nat):Int):=by omega
 unfold ownP at h ⊢
 by_cases h14:k=14
 ·rw [if_pos h14] at h ⊢
  rw [if_pos h14,if_pos h14]
  show (cutP true ((i:Int) + bd) (putRow ptA (i:Int) s l bd)).1=(putRow ptA (i:Int) s l bd).1.map (drC ((i:Int) + bd))
  refine (cut_rowT h).trans ?_
  rw [e1]
  exact cut_any (row_rightF (fb:=true) hl (fun _=>hA h14)) (fun h24=>row_freeR (fun _ h1 _ _ h2=>ptA_free h1 h2) hs h24)
 ·rw [if_neg h14] at h ⊢
  rw [if_neg h14,if_neg h14]
  show (cutP true ((i:Int) + bd) (putRow putF (i:Int) s l bd)).1=(putRow putF (i:Int) s l bd).1.map (drC ((i:Int) + bd))
  refine (cut_rowT h).trans ?_
  rw [e1]
  exact cut_any (row_rightF (fb:=false) hl (fun h=>by cases h)) (fun h24=>row_freeR (fun _ h1 _ _ h2=>putF_free h1 h2) hs h24)
theorem d_ref {i:Nat} {s:List C} (hs:freeL i s):∀ (N:Nat) (t:Tm) (bd:Nat),blk t<=N->OkX t->eT (putOp (i:Int) s) t bd=0->dT (refOp true (i:Int) s) t bd=dT (dropOp (i:Int)) (dT (putOp (i:Int) s) t bd) bd
 | 0,t,bd,hN,_,_=>by have:=blk_pos t;omega
 | N+1,t,bd,hN,hok,he=>by
  obtain⟨ow1,ow2⟩:=okx_own hok
  obtain⟨sb1,sb2⟩:=okx_sub hok
  obtain⟨e1,e2,e3⟩:=e_parts he
  obtain⟨k,n,nm,rr,kids,sys⟩:=t
  rw [d_eq,d_eq (putOp (i:Int) s),d_eq (dropOp (i:Int))]
  dsimp only at ow1 ow2 sb1 sb2 e1 e2 e3 ⊢
  congr 1
  ·exact own_ref hs ow1 ow2 e1
  ·refine List.ext_getElem? fun j=>?_
   rw [dK_get?,dK_get?,dK_get?]
   cases hj:kids[j]? with
   | none=>rfl
   | some x =>
    simp only [Option.map_some]
    rw [d_ref hs N x _ (by have:=blk_kid (t:=.mk k n nm rr kids sys) (List.mem_of_getElem? hj);omega) (sb1 j x hj) (e2 j x hj)]
  ·unfold dS
   have ef:sys.filter (fun b=>stayB (refOp true (i:Int) s) bd b.1)=sys.filter fun b=>stayB (putOp (i:Int) s) bd b.1 :=
    List.filter_congr fun b hb=>stay_ref (sb2 b hb).1
   have eg:((sys.filter fun b=>stayB (putOp (i:Int) s) bd b.1).map fun b=>dB (putOp (i:Int) s) k b bd).filter (fun b=>stayB (dropOp (i:Int)) bd b.1)=(sys.filter fun b=>stayB (putOp (i:Int) s) bd b.1).map fun b=>dB (putOp (i:Int) s) k b bd:=by
    refine List.filter_eq_self.2 fun c hc=>?_
    obtain⟨b,hb,rfl⟩:=List.mem_map.1 hc
    have h1:=(List.mem_filter.1 hb).2
    unfold stayB at h1 ⊢
    show (!((((putOp (i:Int) s).fc b.1 bd).1).map (drC ((i:Int) + bd))).isEmpty)=true
    rw [List.isEmpty_map]
    exact h1
   rw [ef,eg,List.map_map]
   refine List.map_congr_left fun b hb=>?_
   obtain⟨hb1,hst⟩:=List.mem_filter.1 hb
   show dB (refOp true (i:Int) s) k b bd=dB (dropOp (i:Int)) k (dB (putOp (i:Int) s) k b bd) bd
   unfold dB
   dsimp only
   rw [List.map_map]
   congr 1
   ·exact own_ref hs (k:=14) (rightA_right (sb2 b hb1).1) (fun _=>(sb2 b hb1).1) (by unfold ownP;rw [if_pos rfl];exact (e3 b hb1).1)
   ·exact List.map_congr_left fun x hx=>d_ref hs N x _ (by have:=blk_sub (t:=.mk k n nm rr kids sys) hb1 hx;omega) ((sb2 b hb1).2 x hx) ((e3 b hb1).2 hst x hx)
def doneT (t:Tm):Tm:=if t.kind<0 then noT else t
def doneE (t:Tm):Int:=if t.kind<0 then -t.kind else 0
theorem done_rp {o:DOp} (ho:o.eb) {t:Tm} (hk:1<=t.kind):doneE (rpT o t 0)=eT o t 0/\doneT (rpT o t 0)=ansD o t:=by
 have h:=rpT_kind ho (bd:=0) hk
 unfold doneE doneT ansD
 by_cases h0:eT o t 0=0
 ·have hn:¬ (rpT o t 0).kind<0:=fun q=>h.1 q h0
  rw [if_neg hn,if_neg hn,if_pos h0,h0]
  exact⟨rfl,by unfold rpT;rw [if_pos h0]⟩
 ·have hn:=h.2 h0
  rw [if_pos hn,if_pos hn,if_neg h0]
  refine⟨?_,rfl⟩
  unfold rpT;rw [if_neg h0]
  show - -(eT o t 0)=_
  omega
def rapT (i:Int) (r:List C) (t:Tm):Tm:=if t.kind<0 then t else if (liftFF r i 1).2=0 then rpT (refOp true i (liftFF r i 1).1) t 0 else badT (liftFF r i 1).2
theorem tak_ap {i:Nat} {r:List C} {t:Tm} (hok:OkX t) (hk:1<=t.kind) (h:wrD (i:Int) r t=0):doneE (rapT (i:Int) r t)=takE (i:Int) r t/\doneT (rapT (i:Int) r t)=takT (i:Int) r t:=by
 unfold takE takT rapT
 rw [if_pos h,if_pos h,if_neg (by omega)]
 by_cases hs:(liftFF r (i:Int) 1).2=0
 ·rw [if_pos hs,if_pos hs,if_pos hs]
  have hf:=free_lift1 hs
  obtain⟨d1,d2⟩:=done_rp (refOp_eb true (i:Int) (liftFF r (i:Int) 1).1) hk
  rw [d1,d2]
  have ee:=e_ref (i:=(i:Int)) (r:=(liftFF r (i:Int) 1).1) _ t 0 (Nat.le_refl _) hok
  by_cases h0:eT (putOp (i:Int) (liftFF r (i:Int) 1).1) t 0=0
  ·rw [if_pos h0,if_pos h0,ee,h0,e_dropR]
   refine⟨rfl,?_⟩
   unfold ansD
   rw [ee,if_pos h0,if_pos h0,if_pos (e_dropR _ _ _)]
   exact d_ref hf _ t 0 (Nat.le_refl _) hok h0
  ·rw [if_neg h0,if_neg h0,ee]
   refine⟨rfl,?_⟩
   unfold ansD
   rw [ee,if_neg h0]
 ·rw [if_neg hs,if_neg hs,if_neg hs]
  have hb:=liftFF_er r (i:Int) 1
  unfold doneE doneT
  have hn:(badT (liftFF r (i:Int) 1).2).kind<0:=by show -(liftFF r (i:Int) 1).2<0;omega
  rw [if_pos hn,if_pos hn]
  refine⟨?_,rfl⟩
  show - -(liftFF r (i:Int) 1).2=_
  omega
theorem rname_any (s:ByteArray) (w:World) (hl:s.size<=1000000):Calls Tryz.prog 200 #[.string s] w fun e w'=>e=.returned (.bool (nmB s))/\w'=w:=by
 go_enter Tryz.func200,Tryz.ntmps200
 go_wp2
 go_loop [3] (fun i=>∃ j:Nat,j<=s.size/\i=.int .i64 j/\nmTo s j) (fun i=>s.size - (intOf i).toNat)
 case atStart=>exact⟨0,Nat.zero_le _,rfl,nmTo_zero s⟩
 case round =>
  obtain⟨j,hj,rfl,hn⟩:=hrel
  by_cases hlt:j<s.size
  ·have hjI:(j:Int) < (s.size:Int):=by omega
   have hc:(s[j]).toNat<256:=(s[j]).toNat_lt
   have HS:Hid ((letterU s[j] || (decide (0<j) && digitU s[j]))=true->nmTo s (j+1)):=fun h=>nmTo_step hn hlt h
   have HB:Hid ((letterU s[j] || (decide (0<j) && digitU s[j]))=false->nmB s=false):=fun h=>nmB_bad j hlt h
   have HL:Hid (∀ n,(s[j]).toNat=n->letterU s[j]=((97<=n && n<=122) || (65<=n && n<=90) || n == 95)/\digitU s[j]=(48<=n && n<=57)):=fun n e=>by subst e;exact⟨rfl,rfl⟩
   obtain⟨n,hn1⟩:∃ n,n=(s[j]).toNat:=⟨_,rfl⟩
   have HN:Hid ((s[j]).toNat=n):=hn1.symm
   obtain⟨e1,e2⟩:=HL.out n hn1.symm
   rw [<- hn1] at hc
   clear HL hn
   rcases (show (n<48)\/(48<=n/\n<=57)\/(58<=n/\n<=64)\/(65<=n/\n<=90)\/(91<=n/\n<=94)\/(n=95)\/(n=96)\/(97<=n/\n<=122)\/(123<=n/\n<256) by omega) with hr|hr|hr|hr|hr|hr|hr|hr|hr
   ·have f0:decide ((48:Int)<=((s[j]).toNat:Int))=false:=by rw [HN.out];simp;try omega
    have f1:decide (((s[j]).toNat:Int)<=57)=true:=by rw [HN.out];simp;try omega
    have f2:(((s[j]).toNat:Int) == 95)=false:=by rw [HN.out];simp;try omega
    have f3:decide (((s[j]).toNat:Int) < 97)=true:=by rw [HN.out];simp;try omega
    have f4:decide ((122:Int) < ((s[j]).toNat:Int))=false:=by rw [HN.out];simp;try omega
    have f5:decide (((s[j]).toNat:Int) < 65)=true:=by rw [HN.out];simp;try omega
    have f6:decide ((90:Int) < ((s[j]).toNat:Int))=false:=by rw [HN.out];simp;try omega
    have g0:¬ 48<=(s[j]).toNat:=by rw [HN.out];omega
    have g1:(s[j]).toNat<=57:=by rw [HN.out];omega
    have g2:¬ (s[j]).toNat=95:=by rw [HN.out];omega
    have g3:(s[j]).toNat<97:=by rw [HN.out];omega
    have g4:¬ 122<(s[j]).toNat:=by rw [HN.out];omega
    have g5:(s[j]).toNat<65:=by rw [HN.out];omega
    have g6:¬ 90<(s[j]).toNat:=by rw [HN.out];omega
    have e3:letterU s[j]=false:=by rw [e1];simp;omega
    have e4:digitU s[j]=false:=by rw [e2];simp;try omega
    clear e1 e2 hr HN hn1 hc
    have HB':Hid (nmB s=false):=HB.out (by rw [e3,e4];simp;try omega)
    clear e3 e4 HS HB
    go_wp2
    go_ret
    exact⟨ret_bool HB'.out.symm,rfl⟩
   ·have f0:decide ((48:Int)<=((s[j]).toNat:Int))=true:=by rw [HN.out];simp;try omega
    have f1:decide (((s[j]).toNat:Int)<=57)=true:=by rw [HN.out];simp;try omega
    have f2:(((s[j]).toNat:Int) == 95)=false:=by rw [HN.out];simp;try omega
    have f3:decide (((s[j]).toNat:Int) < 97)=true:=by rw [HN.out];simp;try omega
    have f4:decide ((122:Int) < ((s[j]).toNat:Int))=false:=by rw [HN.out];simp;try omega
    have f5:decide (((s[j]).toNat:Int) < 65)=true:=by rw [HN.out];simp;try omega
    have f6:decide ((90:Int) < ((s[j]).toNat:Int))=false:=by rw [HN.out];simp;try omega
    have g0:48<=(s[j]).toNat:=by rw [HN.out];omega
    have g1:(s[j]).toNat<=57:=by rw [HN.out];omega
    have g2:¬ (s[j]).toNat=95:=by rw [HN.out];omega
    have g3:(s[j]).toNat<97:=by rw [HN.out];omega
    have g4:¬ 122<(s[j]).toNat:=by rw [HN.out];omega
    have g5:(s[j]).toNat<65:=by rw [HN.out];omega
    have g6:¬ 90<(s[j]).toNat:=by rw [HN.out];omega
    have e3:letterU s[j]=false:=by rw [e1];simp;omega
    have e4:digitU s[j]=true:=by rw [e2];simp;try omega
    clear e1 e2 hr HN hn1 hc
    by_cases hj0:0<j
    ·have k0:decide ((0:Int) < (j:Int))=true:=by simpa using hj0
     have HS':Hid (nmTo s (j+1)):=HS.out (by rw [e3,e4];simp;try omega)
     clear e3 e4 HS HB
     go_wp2
     go_round
     case rel=>exact⟨j+1,by omega,by go_num,HS'.out⟩
     case measure=>simp [intOf];omega
    ·have k0:decide ((0:Int) < (j:Int))=false:=by simpa using hj0
     have HB':Hid (nmB s=false):=HB.out (by rw [e3,e4];simp;try omega)
     clear e3 e4 HS HB
     go_wp2
     go_ret
     exact⟨ret_bool HB'.out.symm,rfl⟩
   ·have f0:decide ((48:Int)<=((s[j]).toNat:Int))=true:=by rw [HN.out];simp;try omega
    have f1:decide (((s[j]).toNat:Int)<=57)=false:=by rw [HN.out];simp;try omega
    have f2:(((s[j]).toNat:Int) == 95)=false:=by rw [HN.out];simp;try omega
    have f3:decide (((s[j]).toNat:Int) < 97)=true:=by rw [HN.out];simp;try omega
    have f4:decide ((122:Int) < ((s[j]).toNat:Int))=false:=by rw [HN.out];simp;try omega
    have f5:decide (((s[j]).toNat:Int) < 65)=true:=by rw [HN.out];simp;try omega
    have f6:decide ((90:Int) < ((s[j]).toNat:Int))=false:=by rw [HN.out];simp;try omega
    have g0:48<=(s[j]).toNat:=by rw [HN.out];omega
    have g1:¬ (s[j]).toNat<=57:=by rw [HN.out];omega
    have g2:¬ (s[j]).toNat=95:=by rw [HN.out];omega
    have g3:(s[j]).toNat<97:=by rw [HN.out];omega
    have g4:¬ 122<(s[j]).toNat:=by rw [HN.out];omega
    have g5:(s[j]).toNat<65:=by rw [HN.out];omega
    have g6:¬ 90<(s[j]).toNat:=by rw [HN.out];omega
    have e3:letterU s[j]=false:=by rw [e1];simp;omega
    have e4:digitU s[j]=false:=by rw [e2];simp;try omega
    clear e1 e2 hr HN hn1 hc
    have HB':Hid (nmB s=false):=HB.out (by rw [e3,e4];simp;try omega)
    clear e3 e4 HS HB
    go_wp2
    go_ret
    exact⟨ret_bool HB'.out.symm,rfl⟩
   ·have f0:decide ((48:Int)<=((s[j]).toNat:Int))=true:=by rw [HN.out];simp;try omega
    have f1:decide (((s[j]).toNat:Int)<=57)=false:=by rw [HN.out];simp;try omega
    have f2:(((s[j]).toNat:Int) == 95)=false:=by rw [HN.out];simp;try omega
    have f3:decide (((s[j]).toNat:Int) < 97)=true:=by rw [HN.out];simp;try omega
    have f4:decide ((122:Int) < ((s[j]).toNat:Int))=false:=by rw [HN.out];simp;try omega
    have f5:decide (((s[j]).toNat:Int) < 65)=false:=by rw [HN.out];simp;try omega
    have f6:decide ((90:Int) < ((s[j]).toNat:Int))=false:=by rw [HN.out];simp;try omega
    have g0:48<=(s[j]).toNat:=by rw [HN.out];omega
    have g1:¬ (s[j]).toNat<=57:=by rw [HN.out];omega
    have g2:¬ (s[j]).toNat=95:=by rw [HN.out];omega
    have g3:(s[j]).toNat<97:=by rw [HN.out];omega
    have g4:¬ 122<(s[j]).toNat:=by rw [HN.out];omega
    have g5:¬ (s[j]).toNat<65:=by rw [HN.out];omega
    have g6:¬ 90<(s[j]).toNat:=by rw [HN.out];omega
    have e3:letterU s[j]=true:=by rw [e1];simp;omega
    have e4:digitU s[j]=false:=by rw [e2];simp;try omega
    clear e1 e2 hr HN hn1 hc
    have HS':Hid (nmTo s (j+1)):=HS.out (by rw [e3,e4];simp;try omega)
    clear e3 e4 HS HB
    go_wp2
    go_round
    case rel=>exact⟨j+1,by omega,by go_num,HS'.out⟩
    case measure=>simp [intOf];omega
   ·have f0:decide ((48:Int)<=((s[j]).toNat:Int))=true:=by rw [HN.out];simp;try omega
    have f1:decide (((s[j]).toNat:Int)<=57)=false:=by rw [HN.out];simp;try omega
    have f2:(((s[j]).toNat:Int) == 95)=false:=by rw [HN.out];simp;try omega
    have f3:decide (((s[j]).toNat:Int) < 97)=true:=by rw [HN.out];simp;try omega
    have f4:decide ((122:Int) < ((s[j]).toNat:Int))=false:=by rw [HN.out];simp;try omega
    have f5:decide (((s[j]).toNat:Int) < 65)=false:=by rw [HN.out];simp;try omega
    have f6:decide ((90:Int) < ((s[j]).toNat:Int))=true:=by rw [HN.out];simp;try omega
    have g0:48<=(s[j]).toNat:=by rw [HN.out];omega
    have g1:¬ (s[j]).toNat<=57:=by rw [HN.out];omega
    have g2:¬ (s[j]).toNat=95:=by rw [HN.out];omega
    have g3:(s[j]).toNat<97:=by rw [HN.out];omega
    have g4:¬ 122<(s[j]).toNat:=by rw [HN.out];omega
    have g5:¬ (s[j]).toNat<65:=by rw [HN.out];omega
    have g6:90<(s[j]).toNat:=by rw [HN.out];omega
    have e3:letterU s[j]=false:=by rw [e1];simp;omega
    have e4:digitU s[j]=false:=by rw [e2];simp;try omega
    clear e1 e2 hr HN hn1 hc
    have HB':Hid (nmB s=false):=HB.out (by rw [e3,e4];simp;try omega)
    clear e3 e4 HS HB
    go_wp2
    go_ret
    exact⟨ret_bool HB'.out.symm,rfl⟩
   ·have f0:decide ((48:Int)<=((s[j]).toNat:Int))=true:=by rw [HN.out];simp;try omega
    have f1:decide (((s[j]).toNat:Int)<=57)=false:=by rw [HN.out];simp;try omega
    have f2:(((s[j]).toNat:Int) == 95)=true:=by rw [HN.out];simp;try omega
    have f3:decide (((s[j]).toNat:Int) < 97)=true:=by rw [HN.out];simp;try omega
    have f4:decide ((122:Int) < ((s[j]).toNat:Int))=false:=by rw [HN.out];simp;try omega
    have f5:decide (((s[j]).toNat:Int) < 65)=false:=by rw [HN.out];simp;try omega
    have f6:decide ((90:Int) < ((s[j]).toNat:Int))=true:=by rw [HN.out];simp;try omega
    have g0:48<=(s[j]).toNat:=by rw [HN.out];omega
    have g1:¬ (s[j]).toNat<=57:=by rw [HN.out];omega
    have g2:(s[j]).toNat=95:=by rw [HN.out];omega
    have g3:(s[j]).toNat<97:=by rw [HN.out];omega
    have g4:¬ 122<(s[j]).toNat:=by rw [HN.out];omega
    have g5:¬ (s[j]).toNat<65:=by rw [HN.out];omega
    have g6:90<(s[j]).toNat:=by rw [HN.out];omega
    have e3:letterU s[j]=true:=by rw [e1,hr];rfl
    have e4:digitU s[j]=false:=by rw [e2,hr];rfl
    clear e1 e2 hr HN hn1 hc
    have HS':Hid (nmTo s (j+1)):=HS.out (by rw [e3,e4];simp;try omega)
    clear e3 e4 HS HB
    go_wp2
    go_round
    case rel=>exact⟨j+1,by omega,by go_num,HS'.out⟩
    case measure=>simp [intOf];omega
   ·have f0:decide ((48:Int)<=((s[j]).toNat:Int))=true:=by rw [HN.out];simp;try omega
    have f1:decide (((s[j]).toNat:Int)<=57)=false:=by rw [HN.out];simp;try omega
    have f2:(((s[j]).toNat:Int) == 95)=false:=by rw [HN.out];simp;try omega
    have f3:decide (((s[j]).toNat:Int) < 97)=true:=by rw [HN.out];simp;try omega
    have f4:decide ((122:Int) < ((s[j]).toNat:Int))=false:=by rw [HN.out];simp;try omega
    have f5:decide (((s[j]).toNat:Int) < 65)=false:=by rw [HN.out];simp;try omega
    have f6:decide ((90:Int) < ((s[j]).toNat:Int))=true:=by rw [HN.out];simp;try omega
    have g0:48<=(s[j]).toNat:=by rw [HN.out];omega
    have g1:¬ (s[j]).toNat<=57:=by rw [HN.out];omega
    have g2:¬ (s[j]).toNat=95:=by rw [HN.out];omega
    have g3:(s[j]).toNat<97:=by rw [HN.out];omega
    have g4:¬ 122<(s[j]).toNat:=by rw [HN.out];omega
    have g5:¬ (s[j]).toNat<65:=by rw [HN.out];omega
    have g6:90<(s[j]).toNat:=by rw [HN.out];omega
    have e3:letterU s[j]=false:=by rw [e1,hr];rfl
    have e4:digitU s[j]=false:=by rw [e2,hr];rfl
    clear e1 e2 hr HN hn1 hc
    have HB':Hid (nmB s=false):=HB.out (by rw [e3,e4];simp;try omega)
    clear e3 e4 HS HB
    go_wp2
    go_ret
    exact⟨ret_bool HB'.out.symm,rfl⟩
   ·have f0:decide ((48:Int)<=((s[j]).toNat:Int))=true:=by rw [HN.out];simp;try omega
    have f1:decide (((s[j]).toNat:Int)<=57)=false:=by rw [HN.out];simp;try omega
    have f2:(((s[j]).toNat:Int) == 95)=false:=by rw [HN.out];simp;try omega
    have f3:decide (((s[j]).toNat:Int) < 97)=false:=by rw [HN.out];simp;try omega
    have f4:decide ((122:Int) < ((s[j]).toNat:Int))=false:=by rw [HN.out];simp;try omega
    have f5:decide (((s[j]).toNat:Int) < 65)=false:=by rw [HN.out];simp;try omega
    have f6:decide ((90:Int) < ((s[j]).toNat:Int))=true:=by rw [HN.out];simp;try omega
    have g0:48<=(s[j]).toNat:=by rw [HN.out];omega
    have g1:¬ (s[j]).toNat<=57:=by rw [HN.out];omega
    have g2:¬ (s[j]).toNat=95:=by rw [HN.out];omega
    have g3:¬ (s[j]).toNat<97:=by rw [HN.out];omega
    have g4:¬ 122<(s[j]).toNat:=by rw [HN.out];omega
    have g5:¬ (s[j]).toNat<65:=by rw [HN.out];omega
    have g6:90<(s[j]).toNat:=by rw [HN.out];omega
    have e3:letterU s[j]=true:=by rw [e1];simp;omega
    have e4:digitU s[j]=false:=by rw [e2];simp;try omega
    clear e1 e2 hr HN hn1 hc
    have HS':Hid (nmTo s (j+1)):=HS.out (by rw [e3,e4];simp;try omega)
    clear e3 e4 HS HB
    go_wp2
    go_round
    case rel=>exact⟨j+1,by omega,by go_num,HS'.out⟩
    case measure=>simp [intOf];omega
   ·have f0:decide ((48:Int)<=((s[j]).toNat:Int))=true:=by rw [HN.out];simp;try omega
    have f1:decide (((s[j]).toNat:Int)<=57)=false:=by rw [HN.out];simp;try omega
    have f2:(((s[j]).toNat:Int) == 95)=false:=by rw [HN.out];simp;try omega
    have f3:decide (((s[j]).toNat:Int) < 97)=false:=by rw [HN.out];simp;try omega
    have f4:decide ((122:Int) < ((s[j]).toNat:Int))=true:=by rw [HN.out];simp;try omega
    have f5:decide (((s[j]).toNat:Int) < 65)=false:=by rw [HN.out];simp;try omega
    have f6:decide ((90:Int) < ((s[j]).toNat:Int))=true:=by rw [HN.out];simp;try omega
    have g0:48<=(s[j]).toNat:=by rw [HN.out];omega
    have g1:¬ (s[j]).toNat<=57:=by rw [HN.out];omega
    have g2:¬ (s[j]).toNat=95:=by rw [HN.out];omega
    have g3:¬ (s[j]).toNat<97:=by rw [HN.out];omega
    have g4:122<(s[j]).toNat:=by rw [HN.out];omega
    have g5:¬ (s[j]).toNat<65:=by rw [HN.out];omega
    have g6:90<(s[j]).toNat:=by rw [HN.out];omega
    have e3:letterU s[j]=false:=by rw [e1];simp;omega
    have e4:digitU s[j]=false:=by rw [e2];simp;try omega
    clear e1 e2 hr HN hn1 hc
    have HB':Hid (nmB s=false):=HB.out (by rw [e3,e4];simp;try omega)
    clear e3 e4 HS HB
    go_wp2
    go_ret
    exact⟨ret_bool HB'.out.symm,rfl⟩
  ·have hjI:¬ (j:Int) < (s.size:Int):=by omega
   obtain rfl:j=s.size:=by omega
   by_cases hz:s.size=0
   ·have HB:Hid (nmB s=false):=nmB_zero hz
    go_wp2
    go_ret
    exact⟨ret_bool (by rw [HB.out] <;> simp [hz]),rfl⟩
   ·have HB:Hid (nmB s=true):=nmB_true (by omega) hn
    go_wp2
    go_ret
    exact⟨ret_bool (by rw [HB.out];simp <;> omega),rfl⟩
theorem dims_zero {s:Nat} (hs:s<16777216) (h:dimsOf s=[]):s=0:=by
 apply Nat.eq_of_testBit_eq
 intro i
 rw [Nat.zero_testBit]
 by_cases hi:i<24
 ·rw [Bool.eq_false_iff]
  intro hb
  have:i∈dimsOf s:=mem_dimsOf.2 ⟨hi,hb⟩
  rw [h] at this;cases this
 ·exact Nat.testBit_lt_two_pow (Nat.lt_of_lt_of_le (show s<2 ^ 24 from hs) (Nat.pow_le_pow_right (by omega) (by omega)))
theorem pair_last {l:List Nat} (hp:l.Pairwise (· < ·)) {x:Nat} (hx:l[l.length - 1]? = some x) {k:Nat} (hk:k∈l):k<=x:=by
  obtain⟨i,hi⟩:=List.mem_iff_getElem?.1 hk
  have h1:=some_lt hi
  rcases Nat.lt_or_ge i (l.length - 1) with h|h
  . have h2:=some_lt hx
    have e1:=(List.getElem?_eq_some_iff.1 hi).2
    have e2:=(List.getElem?_eq_some_iff.1 hx).2
    have:=List.pairwise_iff_getElem.1 hp i (l.length - 1) h1 h2 h
    omega
  . obtain rfl:i=l.length - 1:=by omega
    rw [hi] at hx;cases hx;exact Nat.le_refl _
theorem low_last {s D x:Nat} (hs:s<16777216) (h:(dimsOf s)[(dimsOf s).length - 1]? = some x):decide ((x:Int) < (D:Int))=decide (s / 2 ^ D=0):=by
 rw [decide_eq_decide]
 have hx:=mem_dimsOf.1 (List.mem_of_getElem? h)
 rw [Nat.div_eq_zero_iff_lt (Nat.pow_pos (by omega))]
 constructor
 ·intro hxD
  refine Nat.lt_pow_two_of_testBit _ fun i hi=>?_
  rw [Bool.eq_false_iff]
  intro hb
  by_cases h24:i<24
  ·have:=pair_last (dimsOf_sorted s) h (mem_dimsOf.2 ⟨h24,hb⟩);omega
  ·rw [Nat.testBit_lt_two_pow (Nat.lt_of_lt_of_le (show s<2 ^ 24 from hs) (Nat.pow_le_pow_right (by omega) (by omega)))] at hb;cases hb
 ·intro hlt
  have h9:x<D:=by
   rcases Nat.lt_or_ge x D with h|h
   ·exact h
   ·rw [Nat.testBit_lt_two_pow (Nat.lt_of_lt_of_le hlt (Nat.pow_le_pow_right (by omega) h))] at hx;cases hx.2
  omega
theorem rlow_any (l:List C) (v:Value) (D:Nat) (w:World) (hv:CRow w v l) (hl:l.length<=40000) :
  Calls Tryz.prog 202 #[v,.int .i64 (D:Int)] w fun e w'=>e=.returned (.bool (decide (dimsN l / 2 ^ D=0)))/\Below w.heap.size w w':=by
 have c1:=rDims_any l v w hv hl
 have hsl:=dimsN_lt l
 obtain⟨s,hs⟩:∃ s,s=dimsN l:=⟨_,rfl⟩
 rw [<- hs] at c1 hsl ⊢
 clear hs
 obtain⟨pa,ca,rfl⟩:=hv.len
 clear hv
 go_enter Tryz.func202,Tryz.ntmps202
 go_wp2_with fail
 refine c1.mono ?_
 rintro e w2 ⟨rfl,b2⟩
 clear c1
 have c2:=refList_any s w2 (by omega)
 go_wp2_with fail
 refine c2.mono ?_
 rintro e w3 ⟨v3,rfl,hO,b3⟩
 clear c2
 have hal:=bchain b2 b3
 rcases hO.rowAt with ⟨rfl,hnil⟩|⟨g,cap,rfl,hg,hc⟩
 ·have HZ:Hid (s / 2 ^ D=0):=(by rw [dims_zero hsl hnil];exact Nat.zero_div _:s / 2 ^ D=0)
  clear hO hnil
  go_wp2_with fail
  go_ret
  exact⟨ret_bool (by rw [HZ.out];rfl),hal⟩
 ·obtain⟨n,hn⟩:∃ n,n=(dimsOf s).length:=⟨_,rfl⟩
  have hnb:n<=24:=by rw [hn];exact dimsOf_length_le s
  by_cases h0:n=0
  ·have HZ:Hid (s / 2 ^ D=0):=(by rw [dims_zero hsl (List.eq_nil_of_length_eq_zero (by omega))];exact Nat.zero_div _:s / 2 ^ D=0)
   rw [<- hn]
   clear hO hc
   subst h0
   clear hn
   go_wp2_with fail
   go_ret
   exact⟨ret_bool (by rw [HZ.out];rfl),hal⟩
  ·obtain⟨x,hx⟩:=someL (l:=dimsOf s) (k:=n - 1) (by omega)
   have hcx:=hc (n - 1) (by omega)
   rw [hx] at hcx
   simp only [Option.getD_some] at hcx
   have HD:Hid (decide ((x:Int) < (D:Int))=decide (s / 2 ^ D=0)):=low_last hsl (by rw [<- hn];exact hx)
   have hx24:=(mem_dimsOf.1 (List.mem_of_getElem? hx)).1
   rw [<- hn]
   obtain⟨q,rfl⟩:∃ q,n=q+1:=⟨n - 1,by omega⟩
   simp only [Nat.add_sub_cancel] at hcx
   clear hO hc hn hx h0
   go_wp2_with fail
   go_ret
   exact⟨ret_bool (by rw [show ((q:Int) + 1 == 0)=false by simp;omega,Bool.false_or,<- HD.out,decide_eq_decide];omega),hal⟩
end Go.Proofs.YtblbhmnahoiecaaGreat
