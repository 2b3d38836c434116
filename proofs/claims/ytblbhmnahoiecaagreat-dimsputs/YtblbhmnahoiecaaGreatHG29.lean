/- A part of the proof. -/
import Derived.Test.YtblbhmnahoiecaaGreatHYDmV
import Derived.Test.YtblbhmnahoiecaaGreatHYDnM
import Derived.Test.YtblbhmnahoiecaaGreatHFE
set_option linter.unusedVariables false
set_option linter.unusedSimpArgs false
set_option maxRecDepth 100000
set_option maxHeartbeats 4000000
namespace Go.Proofs.YtblbhmnahoiecaaGreat
open Go.RowKit
theorem mt_top' {c:C} (h:rightC c=true) (hk:okC c=true):mtR [c] [top0]=([c],0):=by
 have e:meetC c top0=c:=by
  have h1:=fright_bits h
  refine c_bits (fun k=>?_) (fun k=>?_)
  ·rw [(meet_bits c top0 k).1];rw [<- (h1 k).1];simp [top0]
  ·rw [(meet_bits c top0 k).2];rw [<- (h1 k).2];simp [top0]
 have e2:calmC (pairsC [c] [top0])=[c]:=by simp [pairsC,calmC,e,hk]
 unfold mtR;rw [e2];exact leastF_one h
theorem mt_nil' (l:List C):mtR l []=([],0):=by
 have e2:calmC (pairsC l [])=[]:=by simp [pairsC,calmC]
 unfold mtR;rw [e2];decide
theorem least_more {A B:List C} (hA:A.all rightC=true) (hB:B.all rightC=true) (h0:(leastF A).2=0):leastF ((leastF A).1++B)=leastF (A++B):=by
 refine leastF_ext (by rw [List.all_append,leastF_all,hB];rfl) (by rw [List.all_append,hA,hB];rfl) (fun c _=>?_)
 rw [dn_append,dn_append,leastF_dn h0]
theorem all_mem {l:List C} (h:∀ c∈l,rightC c=true):l.all rightC=true:=List.all_eq_true.2 h
theorem rst_app (f g:List C) (p:C):rstL (f++g) p=rstL f p++rstL g p:=by simp [rstL]
theorem rst_right' {f:List C} (h:∀ c∈f,rightC c=true) (p:C):∀ c∈rstL f p,rightC c=true:=fun x hx=>by
 obtain⟨a,ha,_,rfl⟩:=mem_rst.1 hx
 exact cut_right (h a ha)
theorem cut_one {c:C} {i:Nat} (hi:i<24) (hr:rightC c=true) (hk:okC c=true) (h:c.2.val.testBit i=false):cutC (posB i) c=outC c (i:Int):=by
 have h1:=fright_bits hr
 refine c_bits (fun k=>?_) (fun k=>?_)
 ·rw [(cut_bits _ c k).1,(out_bits c i k hi).1,(posB_bits i k hi).1]
  have:=(h1 k).1
  by_cases hik:i=k
  ·subst hik;simp_all
  ·simp_all
 ·rw [(cut_bits _ c k).2,(out_bits c i k hi).2,(posB_bits i k hi).2]
  have:=(h1 k).2
  by_cases hik:i=k
  ·subst hik;simp_all
  ·simp_all
theorem with_one {c:C} {i:Nat} (hi:i<24) (hk:okC c=true):withC (posB i) c = !c.2.val.testBit i:=by
 unfold withC
 rw [Bool.eq_iff_iff,meet_ok,Bool.not_eq_true']
 constructor
 ·intro h
  have:=h i hi
  rw [(posB_bits i i hi).1,(posB_bits i i hi).2] at this
  simpa using this
 ·intro h k hk24
  have h2:=okC_iff.1 hk k hk24
  rw [(posB_bits i k hi).1,(posB_bits i k hi).2]
  by_cases hik:i=k
  ·subst hik;simp [h]
  ·simp [hik];simpa using h2
theorem rst1_one {c:C} {i:Nat} (hi:i<24) (hr:rightC c=true) (hk:okC c=true):rstL [c] (posB i)=if c.2.val.testBit i then [] else [outC c (i:Int)]:=by
 unfold rstL
 rw [List.filter_cons,with_one hi hk]
 cases h:c.2.val.testBit i
 ·simp [cut_one hi hr hk h]
 ·simp
theorem prt_one {c:C} {i:Nat} (hi:i<24) (hk:okC c=true):prtA c (i:Int) [top0] ([],0)=(if c.2.val.testBit i then [] else [outC c (i:Int)],0):=by
 have h0:=okC_iff.1 hk i hi
 have hB1:hasB c.1.val (i:Int)=c.1.val.testBit i:=hasB_nat hi
 have hB2:hasB c.2.val (i:Int)=c.2.val.testBit i:=hasB_nat hi
 unfold prtA
 rw [hB1,hB2]
 cases h1:c.1.val.testBit i <;> cases h2:c.2.val.testBit i
 ·simp
 ·simp [mt_nil']
 ·simp [mt_top' (out_right c i) (out_ok hk)]
 ·exact absurd ⟨h1,h2⟩ h0
theorem pts_one {i:Nat} (hi:i<24) (f:List C):(∀ c∈f,rightC c=true/\okC c=true)->f.length<=64->ptS f (i:Int) [top0] ([],0)=leastF (rstL f (posB i)):=by
 induction f using snoc_ind with
 | nil=>intro _ _;simp only [ptS,List.foldl_nil,rstL,List.filter_nil,List.map_nil];decide
 | snoc f c ih =>
  intro h hl
  have hf:∀ x∈f,rightC x=true/\okC x=true:=fun x hx=>h x (List.mem_append_left _ hx)
  obtain⟨hr,hk⟩:=h c (by simp)
  have hl2:f.length<=64:=by simp at hl;omega
  have hA:(rstL f (posB i)).all rightC=true:=all_mem (rst_right' (fun x hx=>(hf x hx).1) _)
  have h0:(leastF (rstL f (posB i))).2=0:=least_small hA (Nat.le_trans (rst_len f _) hl2)
  rw [ptS_snoc,ih hf hl2]
  have e:=leastF_pair h0
  rw [e,stpA_some,prt_one hi hk,if_pos rfl,rst_app,rst1_one hi hr hk,least_more hA (all_mem (fun x hx=>?_)) h0]
  split at hx
  ·cases hx
  ·rw [List.mem_singleton.1 hx];exact out_right c i
theorem put_one {i:Nat} (hi:i<24) {f:List C} (hf:rightA f=true):putRow ptA (i:Int) [top0] f 0=rstA f (posB i):=by
 have hs:singleC (posB i)=true:=singleC_iff.2 ⟨posB_right i,okC_iff.2 (fun k _ h=>by rw [(posB_bits i k hi).1,(posB_bits i k hi).2] at h;simp at h)⟩
 have hR:rstA f (posB i)=leastF (rstL f (posB i)):=by unfold rstA;rw [hf,hs];rfl
 have hall:∀ c∈f,rightC c=true/\okC c=true:=fun c hc=>⟨List.all_eq_true.1 (rightF_all (rightA_right hf)) c hc,rightA_ok hf c hc⟩
 have e0:((i:Int) + ((0:Nat):Int))=(i:Int):=by omega
 unfold putRow
 rw [e0]
 cases hh:hasB (dimsN f) (i:Int)
 ·rw [if_neg (by simp),hR]
  rw [hasB_nat hi,dimsN_bit] at hh
  have hno:∀ c∈f,c.1.val.testBit i=false/\c.2.val.testBit i=false:=fun c hc=>by
   simp only [hi,decide_true,Bool.true_and] at hh
   have:=List.any_eq_false.1 hh c hc
   simpa using this
  have e:rstL f (posB i)=f:=by
   unfold rstL
   rw [List.filter_eq_self.2 (fun c hc=>by rw [with_one hi (hall c hc).2,(hno c hc).2];rfl)]
   conv=>rhs;rw [<- List.map_id f]
   refine List.map_congr_left (fun c hc=>?_)
   rw [cut_one hi (hall c hc).1 (hall c hc).2 (hno c hc).2]
   have h1:=fright_bits (hall c hc).1
   refine c_bits (fun k=>?_) (fun k=>?_)
   ·rw [(out_bits c i k hi).1]
    have:=(h1 k).1
    by_cases hik:i=k
    ·subst hik;simp [(hno c hc).1]
    ·simp_all
   ·rw [(out_bits c i k hi).2]
    have:=(h1 k).2
    by_cases hik:i=k
    ·subst hik;simp [(hno c hc).2]
    ·simp_all
  rw [e,rightF_eq (rightA_right hf)]
 ·rw [if_pos rfl]
  have eL:liftFF [top0] 0 ((0:Nat):Int)=([top0],0):=by decide
  rw [eL,if_pos rfl]
  show ptA f (i:Int) [top0]=_
  have hd:isDimB (i:Int)=true:=isDimB_nat hi
  have hq:rightF [top0]=true:=by decide
  unfold ptA
  rw [hf,hd,hq]
  have e1:(ofF [top0]).1=[top0]:=by decide
  have e2:ofZ [top0]=([],0):=by decide
  rw [e1,e2,hR]
  exact pts_one hi f hall (rightA_len hf)
theorem cut_nil {c:C} {i:Nat} (hi:i<24) (hr:rightC c=true) (hk:okC c=true) (h:c.1.val.testBit i=false):cutC (negB i) c=outC c (i:Int):=by
 have h1:=fright_bits hr
 refine c_bits (fun k=>?_) (fun k=>?_)
 ·rw [(cut_bits _ c k).1,(out_bits c i k hi).1,(negB_bits i k hi).1]
  have:=(h1 k).1
  by_cases hik:i=k
  ·subst hik;simp_all
  ·simp_all
 ·rw [(cut_bits _ c k).2,(out_bits c i k hi).2,(negB_bits i k hi).2]
  have:=(h1 k).2
  by_cases hik:i=k
  ·subst hik;simp_all
  ·simp_all
theorem with_nil {c:C} {i:Nat} (hi:i<24) (hk:okC c=true):withC (negB i) c = !c.1.val.testBit i:=by
 unfold withC
 rw [Bool.eq_iff_iff,meet_ok,Bool.not_eq_true']
 constructor
 ·intro h
  have:=h i hi
  rw [(negB_bits i i hi).1,(negB_bits i i hi).2] at this
  simpa using this
 ·intro h k hk24
  have h2:=okC_iff.1 hk k hk24
  rw [(negB_bits i k hi).1,(negB_bits i k hi).2]
  by_cases hik:i=k
  ·subst hik;simp [h]
  ·simp [hik];simpa using h2
theorem rst1_nil {c:C} {i:Nat} (hi:i<24) (hr:rightC c=true) (hk:okC c=true):rstL [c] (negB i)=if c.1.val.testBit i then [] else [outC c (i:Int)]:=by
 unfold rstL
 rw [List.filter_cons,with_nil hi hk]
 cases h:c.1.val.testBit i
 ·simp [cut_nil hi hr hk h]
 ·simp
theorem prt_nil {c:C} {i:Nat} (hi:i<24) (hk:okC c=true):prtA c (i:Int) [] ([top0],0)=(if c.1.val.testBit i then [] else [outC c (i:Int)],0):=by
 have h0:=okC_iff.1 hk i hi
 have hB1:hasB c.1.val (i:Int)=c.1.val.testBit i:=hasB_nat hi
 have hB2:hasB c.2.val (i:Int)=c.2.val.testBit i:=hasB_nat hi
 unfold prtA
 rw [hB1,hB2]
 cases h1:c.1.val.testBit i <;> cases h2:c.2.val.testBit i
 ·simp
 ·simp [mt_top' (out_right c i) (out_ok hk)]
 ·simp [mt_nil']
 ·exact absurd ⟨h1,h2⟩ h0
theorem pts_nil {i:Nat} (hi:i<24) (f:List C):(∀ c∈f,rightC c=true/\okC c=true)->f.length<=64->ptS f (i:Int) [] ([top0],0)=leastF (rstL f (negB i)):=by
 induction f using snoc_ind with
 | nil=>intro _ _;simp only [ptS,List.foldl_nil,rstL,List.filter_nil,List.map_nil];decide
 | snoc f c ih =>
  intro h hl
  have hf:∀ x∈f,rightC x=true/\okC x=true:=fun x hx=>h x (List.mem_append_left _ hx)
  obtain⟨hr,hk⟩:=h c (by simp)
  have hl2:f.length<=64:=by simp at hl;omega
  have hA:(rstL f (negB i)).all rightC=true:=all_mem (rst_right' (fun x hx=>(hf x hx).1) _)
  have h0:(leastF (rstL f (negB i))).2=0:=least_small hA (Nat.le_trans (rst_len f _) hl2)
  rw [ptS_snoc,ih hf hl2]
  have e:=leastF_pair h0
  rw [e,stpA_some,prt_nil hi hk,if_pos rfl,rst_app,rst1_nil hi hr hk,least_more hA (all_mem (fun x hx=>?_)) h0]
  split at hx
  ·cases hx
  ·rw [List.mem_singleton.1 hx];exact out_right c i
theorem put_nil {i:Nat} (hi:i<24) {f:List C} (hf:rightA f=true):putRow ptA (i:Int) [] f 0=rstA f (negB i):=by
 have hs:singleC (negB i)=true:=singleC_iff.2 ⟨negB_right i,okC_iff.2 (fun k _ h=>by rw [(negB_bits i k hi).1,(negB_bits i k hi).2] at h;simp at h)⟩
 have hR:rstA f (negB i)=leastF (rstL f (negB i)):=by unfold rstA;rw [hf,hs];rfl
 have hall:∀ c∈f,rightC c=true/\okC c=true:=fun c hc=>⟨List.all_eq_true.1 (rightF_all (rightA_right hf)) c hc,rightA_ok hf c hc⟩
 have e0:((i:Int) + ((0:Nat):Int))=(i:Int):=by omega
 unfold putRow
 rw [e0]
 cases hh:hasB (dimsN f) (i:Int)
 ·rw [if_neg (by simp),hR]
  rw [hasB_nat hi,dimsN_bit] at hh
  have hno:∀ c∈f,c.1.val.testBit i=false/\c.2.val.testBit i=false:=fun c hc=>by
   simp only [hi,decide_true,Bool.true_and] at hh
   have:=List.any_eq_false.1 hh c hc
   simpa using this
  have e:rstL f (negB i)=f:=by
   unfold rstL
   rw [List.filter_eq_self.2 (fun c hc=>by rw [with_nil hi (hall c hc).2,(hno c hc).1];rfl)]
   conv=>rhs;rw [<- List.map_id f]
   refine List.map_congr_left (fun c hc=>?_)
   rw [cut_nil hi (hall c hc).1 (hall c hc).2 (hno c hc).1]
   have h1:=fright_bits (hall c hc).1
   refine c_bits (fun k=>?_) (fun k=>?_)
   ·rw [(out_bits c i k hi).1]
    have:=(h1 k).1
    by_cases hik:i=k
    ·subst hik;simp [(hno c hc).1]
    ·simp_all
   ·rw [(out_bits c i k hi).2]
    have:=(h1 k).2
    by_cases hik:i=k
    ·subst hik;simp [(hno c hc).2]
    ·simp_all
  rw [e,rightF_eq (rightA_right hf)]
 ·rw [if_pos rfl]
  have eL:liftFF [] 0 ((0:Nat):Int)=([],0):=by decide
  rw [eL,if_pos rfl]
  show ptA f (i:Int) []=_
  have hd:isDimB (i:Int)=true:=isDimB_nat hi
  have hq:rightF []=true:=by decide
  unfold ptA
  rw [hf,hd,hq]
  have e1:(ofF []).1=[]:=by decide
  have e2:ofZ []=([top0],0):=by decide
  rw [e1,e2,hR]
  exact pts_nil hi f hall (rightA_len hf)
def Rf (c:C) (f:List C):List C:=(rstA f c).1
structure DStp where
 i:Nat
 r:List C
 p:C
def DStp.ok (s:DStp):Prop:=s.i<24/\((s.r=[top0]/\s.p=posB s.i)\/(s.r=[]/\s.p=negB s.i))
theorem DStp.put {s:DStp} (h:s.ok) {f:List C} (hf:rightA f=true):(putRow ptA (s.i:Int) s.r f 0).1=Rf s.p f:=by
 obtain⟨hi,⟨hr,hp⟩ | ⟨hr,hp⟩⟩:=h
 ·rw [hr,hp,put_one hi hf];rfl
 ·rw [hr,hp,put_nil hi hf];rfl
theorem node_iff (o:Bool) (V:Int) (D:Nat) (t:Tm) (bv bd:Nat):t.node o V D bv bd=true ↔
  (o || decide (bd+D<=24))=true/\(t.kids.length:Int)=kidsK t.kind/\numB o V bv t.kind t.n=true/\nameB t.kind t.name=true/\rowB o (D+bd) t.kind t.r=true/\∀ b∈t.sys,brB o (D+bd) t.kind (b.1,b.2.length)=true:=by
 unfold Tm.node nodeB
 simp only [Bool.and_eq_true,decide_eq_true_eq,List.all_map,List.all_eq_true,Function.comp_def]
 constructor
 ·rintro⟨⟨⟨⟨⟨h1,h2⟩,h3⟩,h4⟩,h5⟩,h6⟩;exact⟨h1,h2,h3,h4,h5,h6⟩
 ·rintro⟨h1,h2,h3,h4,h5,h6⟩;exact⟨⟨⟨⟨⟨h1,h2⟩,h3⟩,h4⟩,h5⟩,h6⟩
theorem ok_iff (o:Bool) (V:Int) (D:Nat) (t:Tm) (bv bd:Nat):okT o V D t bv bd=true↔t.node o V D bv bd=true/\∀ p∈t.pts,okT o V D p.1 (bv+p.2.1) (bd+p.2.2)=true:=by
 rw [ok_eq,Bool.and_eq_true,List.all_eq_true]
theorem inF_iff {l:List C} {k:Nat}:inF l k=true↔∃ c∈l,c.1.val.testBit k=true\/c.2.val.testBit k=true:=by
 unfold inF;rw [List.any_eq_true];simp only [Bool.or_eq_true]
theorem put_no {PF:List C->Int->List C->List C × Int} {i bd:Nat} {r l:List C} (h:i+bd<24->inF l (i+bd)=false):putRow PF (i:Int) r l bd=(l,0):=by
 unfold putRow
 have e:hasB (dimsN l) ((i:Int) + (bd:Int))=false:=by
  have e1:((i:Int) + (bd:Int))=((i+bd:Nat):Int):=by omega
  rw [e1]
  by_cases h24:i+bd<24
  ·rw [hasB_nat h24,dimsN_bit,h h24];simp
  ·exact hasB_no (by simp [isDimB];omega)
 rw [e];rfl
theorem row_cases {i bd:Nat} {l:List C}:(i+bd<24/\inF l (i+bd)=true)\/(i+bd<24->inF l (i+bd)=false):=by
 by_cases h:i+bd<24
 ·cases hh:inF l (i+bd)
  ·exact .inr (fun _=>rfl)
  ·exact .inl ⟨h,rfl⟩
 ·exact .inr (fun h'=>absurd h' h)
def pfB (fb:Bool):List C->Int->List C->List C × Int:=if fb then ptA else putF
theorem rrow_any {B:Nat->Prop} (fb:Bool) (i:Int) (r l:List C) (bd:Nat) (v vr:Value) (w:World) (hl:ClRow B w l v) (hr:ClRow Tt w r vr) (hll:l.length<=40000) (hrl:r.length<=40000) (hbd:bd<=60000) (hi0:0<=i/\i<=1000000) (hB:∀ q,B q->q<w.heap.size) :
  Calls Tryz.prog 164 #[v,.bool fb,.int .i64 i,vr,.int .i64 (bd:Int)] w fun e w'=>∃ v',e=.returned (.tuple #[v',.int .i64 (putRow (pfB fb) i r l bd).2])/\ClRow (OkS B w.heap.size w') w' (putRow (pfB fb) i r l bd).1 v'/\Below w.heap.size w w':=by
 have hlT:ClRow Tt w l v:=hl.keep (Nat.le_refl _) (fun _ _=>trivial) (fun _ _ _=>rfl)
 have hdlt:=dimsN_lt32 l
 have cD:=rDims_any l v w hlT.row hll
 have HQ:Hid (putRow (pfB fb) i r l bd=if hasB (dimsN l) (i+bd) then (if (liftFF r 0 bd).2=0 then pfB fb l (i+bd) (liftFF r 0 bd).1 else ([],(liftFF r 0 bd).2)) else (l,0)):=(rfl:_=_)
 obtain⟨PR,hPR⟩:∃ P,P=putRow (pfB fb) i r l bd:=⟨_,rfl⟩
 rw [<- hPR] at HQ ⊢
 have cL:Hid (∀ V,Below w.heap.size w V->Calls Tryz.prog 122 #[vr,.int .i64 0,.int .i64 (bd:Int)] V fun e w'=>∃ v,e=.returned (.tuple #[v,.int .i64 (liftFF r 0 bd).2])/\OwnsC w' V.heap.size v (liftFF r 0 bd).1/\Below V.heap.size V w'):=fun V q=>rLift_any r 0 bd vr V (hr.blw q).row hrl
 have c5:Hid (∀ V vq,Below w.heap.size w V->CRow V vq (liftFF r 0 bd).1->Calls Tryz.prog 208 #[v,.int .i64 (i+(bd:Int)),vq] V fun e w'=>∃ v,e=.returned (.tuple #[v,.int .i64 (ptA l (i+bd) (liftFF r 0 bd).1).2])/\OwnsC w' V.heap.size v (ptA l (i+bd) (liftFF r 0 bd).1).1/\Below V.heap.size V w'):=fun V vq q hq=>rAPut_any l (liftFF r 0 bd).1 (i+bd) v vq V (hlT.blw q).row hq hll (by have:=liftFF_len r 0 bd;omega)
 have c3:Hid (∀ V vq,Below w.heap.size w V->CRow V vq (liftFF r 0 bd).1->Calls Tryz.prog 209 #[v,.int .i64 (i+(bd:Int)),vq] V fun e w'=>∃ v,e=.returned (.tuple #[v,.int .i64 (putF l (i+bd) (liftFF r 0 bd).1).2])/\OwnsC w' V.heap.size v (putF l (i+bd) (liftFF r 0 bd).1).1/\Below V.heap.size V w'):=fun V vq q hq=>rPut_any l (liftFF r 0 bd).1 (i+bd) v vq V (hlT.blw q).row hq hll (by have:=liftFF_len r 0 bd;omega)
 obtain⟨LF,hLF⟩:∃ L,L=liftFF r 0 bd:=⟨_,rfl⟩
 rw [<- hLF] at HQ cL c5 c3
 have wr2:wrap64 (i+(bd:Int))=i+(bd:Int):=by simp [wrap64];omega
 have HSh:Hid (∀ V,Below w.heap.size w V->ClRow (OkS B w.heap.size V) V l v):=fun V q=>hl.keep q.size (fun g hg=>.inl ⟨hg,by have:=q.size;have:=hB g hg;omega⟩) (fun g _ hs=>q.block g hs)
 obtain⟨va,vc,rfl,_⟩:=id hl
 obtain⟨rva,rvc,rfl,_⟩:=id hr
 obtain⟨LL,hLL⟩:∃ L,L=l.length:=⟨_,rfl⟩
 obtain⟨LR,hLR⟩:∃ L,L=r.length:=⟨_,rfl⟩
 rw [<- hLL] at cD c5 c3 HSh
 rw [<- hLR] at cL
 simp only [<- hLL,<- hLR]
 obtain⟨DN,hDN⟩:∃ d,d=dimsN l:=⟨_,rfl⟩
 rw [<- hDN] at cD HQ hdlt
 clear hPR hLF hl hr hlT hLL hLR hDN
 go_enter Tryz.func164,Tryz.ntmps164
 go_wp2_with fail
 refine cD.mono ?_
 rintro e w2 ⟨rfl,b2⟩
 clear cD
 have cH:=refHas_any DN (i+(bd:Int)) w2 hdlt
 go_wp2_with fail
 refine cH.mono ?_
 rintro e w3 ⟨rfl,hw3⟩
 replace hw3:=hw3.symm
 subst hw3
 clear cH
 cases hh:hasB DN (i+bd)
 ·have hq:PR=(l,0):=by rw [HQ.out,hh];rfl
  subst hq
  have hS:=HSh.out w2 b2
  clear cL c5 c3 HQ
  go_wp2_with fail
  go_ret2
  exact⟨_,rfl,hS,b2⟩
 ·have hq:PR=if LF.2=0 then pfB fb l (i+bd) LF.1 else ([],LF.2):=by rw [HQ.out,hh];rfl
  have HP1:Hid (LF.2≠0->PR=([],LF.2)):=fun h=>by rw [hq,if_neg h]
  have HP0:Hid (LF.2=0->PR=pfB fb l (i+bd) LF.1):=fun h=>by rw [hq,if_pos h]
  have cc:=cL.out w2 b2
  clear hq HQ HSh cL
  go_wp2_with fail
  refine cc.mono ?_
  rintro e w4 ⟨v4,rfl,hO4,b4⟩
  clear cc
  have b24:Below w.heap.size w w4:=b2.trans (b4.mono b2.size)
  obtain⟨a4,c4,rfl⟩:=OwnsC.len hO4
  obtain⟨L4,hL4⟩:∃ L,L=LF.1.length:=⟨_,rfl⟩
  rw [<- hL4] at hO4 ⊢
  obtain⟨e4,he4⟩:∃ e,e=LF.2:=⟨_,rfl⟩
  rw [<- he4] at HP1 HP0 ⊢
  have hF4:=OwnsC.row hO4
  clear hL4 he4
  by_cases hz:e4=0
  rotate_left
  ·have hz1:(e4 == 0)=false:=by simpa using hz
   have HPe:Hid (PR=([],e4)):=HP1.out hz
   clear c5 c3 HP0 HP1
   go_wp2_with fail
   go_ret2
   exact⟨_,by rw [HPe.out];rfl,by rw [HPe.out];exact cl_nil _ _,b24⟩
  subst hz
  have HPe:Hid (PR=pfB fb l (i+bd) LF.1):=HP0.out rfl
  cases fb
  ·have c:=c3.out w4 _ b24 hF4
   have HPe:Hid (PR=putF l (i+bd) LF.1):=HPe.out
   rw [<- HPe.out] at c
   clear c5 c3 HP0 HP1
   go_wp2_with fail
   refine c.mono ?_
   rintro e w5 ⟨v5,rfl,hO5,b5⟩
   clear c
   have b25:Below w.heap.size w w5:=b24.trans (b5.mono b24.size)
   have hO6:=(OwnsC.okn (OwnsC.mono hO5 b24.size)).keep (Nat.le_refl _) (fun q hq=>(.inr hq:OkS B w.heap.size w5 q)) (fun _ _ _=>rfl)
   go_wp2_with fail
   go_ret2
   exact⟨_,rfl,hO6,b25⟩
  ·have c:=c5.out w4 _ b24 hF4
   have HPe:Hid (PR=ptA l (i+bd) LF.1):=HPe.out
   rw [<- HPe.out] at c
   clear c5 c3 HP0 HP1
   go_wp2_with fail
   refine c.mono ?_
   rintro e w5 ⟨v5,rfl,hO5,b5⟩
   clear c
   have b25:Below w.heap.size w w5:=b24.trans (b5.mono b24.size)
   have hO6:=(OwnsC.okn (OwnsC.mono hO5 b24.size)).keep (Nat.le_refl _) (fun q hq=>(.inr hq:OkS B w.heap.size w5 q)) (fun _ _ _=>rfl)
   go_wp2_with fail
   go_ret2
   exact⟨_,rfl,hO6,b25⟩
theorem lift_bits {s j:Nat} (h:liftE s (j:Int) 1=0) (hs:s<16777216) (k:Nat):(liftN s (j:Int) 1).testBit k=if k<j then s.testBit k else if k=j then false else s.testBit (k - 1):=by
 have ha:argB (j:Int) 1=false:=by cases ha:argB (j:Int) 1 with | false=>rfl | true=>rw [(lift_arg ha).2] at h;cases h
 have hb:liftBad (j:Int) 1 (dimsOf s)=false:=by cases hb:liftBad (j:Int) 1 (dimsOf s) with | false=>rfl | true=>rw [(lift_bad ha hb).2] at h;cases h
 have h24:∀ d,s.testBit d=true->d<24:=fun d hd=>by
  rcases Nat.lt_or_ge d 24 with h|h
  ·exact h
  ·rw [Nat.testBit_lt_two_pow (Nat.lt_of_lt_of_le hs (Nat.pow_le_pow_right (n:=2) (by omega) h))] at hd;cases hd
 rw [(lift_ok ha hb).1,testBit_orAll,Bool.eq_iff_iff,decide_eq_true_iff,List.mem_map]
 constructor
 ·rintro⟨d,hd,e⟩
  rw [mem_dimsOf] at hd
  unfold upK at e
  split at e
  ·rename_i hdj
   subst e
   rw [if_pos (by omega)];exact hd.2
  ·rename_i hdj
   have e:d+1=k:=by simpa using e
   subst e
   rw [if_neg (by omega),if_neg (by omega)]
   exact hd.2
 ·intro hk
  split at hk
  ·rename_i hkj
   exact⟨k,by rw [mem_dimsOf];exact⟨h24 k hk,hk⟩,by unfold upK;rw [if_pos (by omega)]⟩
  ·split at hk
   ·cases hk
   ·rename_i h1 h2
    exact⟨k - 1,by rw [mem_dimsOf];exact⟨h24 _ hk,hk⟩,by unfold upK;rw [if_neg (by omega)];show k - 1+1=k;omega⟩
theorem drop_bits {s j:Nat} (hj:j<24) (hs:s<16777216) (k:Nat):(dropN s (j:Int)).testBit k=if k<j then s.testBit k else s.testBit (k+1):=by
 have h24:∀ d,s.testBit d=true->d<24:=fun d hd=>by
  rcases Nat.lt_or_ge d 24 with h|h
  ·exact h
  ·rw [Nat.testBit_lt_two_pow (Nat.lt_of_lt_of_le hs (Nat.pow_le_pow_right (n:=2) (by omega) h))] at hd;cases hd
 unfold dropN
 rw [if_pos (isDimB_nat hj),testBit_orAll,Bool.eq_iff_iff,decide_eq_true_iff,List.mem_map]
 have ej:(j:Int).toNat=j:=by simp
 rw [ej]
 constructor
 ·rintro⟨d,hd,e⟩
  rw [List.mem_filter,mem_dimsOf] at hd
  have hne:(j:Int)≠(d:Int):=by have:=hd.2;unfold notI at this;exact of_decide_eq_true this
  unfold downK at e
  split at e
  ·subst e
   rw [if_pos (by omega)];exact hd.1.2
  ·subst e
   rw [if_neg (by omega)]
   have:d - 1+1=d:=by omega
   rw [this];exact hd.1.2
 ·intro hk
  split at hk
  ·rename_i hkj
   exact⟨k,by rw [List.mem_filter,mem_dimsOf];exact⟨⟨h24 k hk,hk⟩,decide_eq_true (by omega)⟩,by unfold downK;rw [if_pos hkj]⟩
  ·rename_i hkj
   exact⟨k+1,by rw [List.mem_filter,mem_dimsOf];exact⟨⟨h24 _ hk,hk⟩,decide_eq_true (by omega)⟩,by unfold downK;rw [if_neg (by omega)];omega⟩
theorem drop_lift {s j:Nat} (h:liftE s (j:Int) 1=0) (hs:s<16777216):dropN (liftN s (j:Int) 1) (j:Int)=s:=by
 have hb:=lift_bits h hs
 have hl:=liftN_lt s (j:Int) 1
 rcases Nat.lt_or_ge j 24 with hj|hj
 ·refine Nat.eq_of_testBit_eq fun k=>?_
  rw [drop_bits hj hl]
  split
  ·rename_i hk;rw [hb,if_pos hk]
  ·rename_i hk;rw [hb,if_neg (by omega),if_neg (by omega)];rfl
 ·have e:liftN s (j:Int) 1=s:=by
   refine Nat.eq_of_testBit_eq fun k=>?_
   rw [hb]
   split
   ·rfl
   ·rename_i hk
    have e1:∀ m,24<=m->s.testBit m=false:=fun m hm=>Nat.testBit_lt_two_pow (Nat.lt_of_lt_of_le hs (Nat.pow_le_pow_right (n:=2) (by omega) hm))
    rw [e1 k (by omega)]
    split
    ·rfl
    ·have hz:(liftN s (j:Int) 1).testBit k=false:=Nat.testBit_lt_two_pow (Nat.lt_of_lt_of_le hl (Nat.pow_le_pow_right (n:=2) (by omega) (by omega:24<=k)))
     rw [hb,if_neg (by omega),if_neg (by omega)] at hz
     exact hz
  rw [e]
  unfold dropN
  rw [if_neg (by unfold isDimB;simp;omega)]
  have:=Nat.and_two_pow_sub_one_of_lt_two_pow (n:=24) hs
  exact this
theorem top_diff {x y:Nat}:∀ n,(∀ k,n<=k->x.testBit k=y.testBit k)->x≠y->∃ k,x.testBit k≠y.testBit k/\∀ m,k<m->x.testBit m=y.testBit m
 | 0,h,hne=>absurd (Nat.eq_of_testBit_eq fun k=>h k (Nat.zero_le _)) hne
 | n+1,h,hne=>by
  by_cases hn:x.testBit n=y.testBit n
  ·exact top_diff n (fun k hk=>by
    rcases Nat.eq_or_lt_of_le hk with e|e
    ·rw [<- e];exact hn
    ·exact h k e) hne
  ·exact⟨n,hn,fun m hm=>h m hm⟩
theorem lt_bits {x y:Nat} (k:Nat) (hx:x.testBit k=false) (hy:y.testBit k=true) (h:∀ m,k<m->x.testBit m=y.testBit m):x<y:=by
 rw [Nat.testBit_eq_decide_div_mod_eq,decide_eq_false_iff_not] at hx
 rw [Nat.testBit_eq_decide_div_mod_eq,decide_eq_true_iff] at hy
 have e:x / 2 ^ k / 2=y / 2 ^ k / 2:=by
  rw [Nat.div_div_eq_div_mul,Nat.div_div_eq_div_mul,<- Nat.pow_succ]
  refine Nat.eq_of_testBit_eq fun m=>?_
  rw [Nat.testBit_div_two_pow,Nat.testBit_div_two_pow]
  exact h _ (by omega)
 rcases Nat.lt_or_ge x y with h1|h1
 ·exact h1
 ·have:=Nat.div_le_div_right (c:=2 ^ k) h1
  omega
theorem lt_top {x y:Nat} (hx:x<16777216) (hy:y<16777216) (h:x<y):∃ k,x.testBit k=false/\y.testBit k=true/\∀ m,k<m->x.testBit m=y.testBit m:=by
 have e1:∀ z,z<16777216->∀ m,24<=m->z.testBit m=false:=fun z hz m hm=>Nat.testBit_lt_two_pow (Nat.lt_of_lt_of_le hz (Nat.pow_le_pow_right (n:=2) (by omega) hm))
 obtain⟨k,hk,hm⟩:=top_diff 24 (fun m hm=>by rw [e1 x hx m hm,e1 y hy m hm]) (by omega:x≠y)
 cases ha:x.testBit k <;> cases hb:y.testBit k
 ·rw [ha,hb] at hk;exact absurd rfl hk
 ·exact⟨k,ha,hb,hm⟩
 ·have:=lt_bits k hb ha (fun m hm'=>(hm m hm').symm)
  omega
 ·rw [ha,hb] at hk;exact absurd rfl hk
theorem lift_lt' {x y j:Nat} (hx:x<16777216) (hy:y<16777216) (ex:liftE x (j:Int) 1=0) (ey:liftE y (j:Int) 1=0) (h:x<y):liftN x (j:Int) 1<liftN y (j:Int) 1:=by
 obtain⟨k,h1,h2,h3⟩:=lt_top hx hy h
 have bx:=lift_bits ex hx
 have by_:=lift_bits ey hy
 by_cases hk:k<j
 ·refine lt_bits k (by rw [bx,if_pos hk,h1]) (by rw [by_,if_pos hk,h2]) (fun m hm=>?_)
  rw [bx,by_]
  split
  ·exact h3 m hm
  ·split
   ·rfl
   ·exact h3 (m - 1) (by omega)
 ·refine lt_bits (k+1) (by rw [bx,if_neg (by omega),if_neg (by omega)];exact h1) (by rw [by_,if_neg (by omega),if_neg (by omega)];exact h2) (fun m hm=>?_)
  rw [bx,by_]
  split
  ·exact h3 m (by omega)
  ·split
   ·rfl
   ·exact h3 (m - 1) (by omega)
theorem liftC_ok {c:C} {j:Nat} (h:liftCE c (j:Int) 1=0):rightC c=true/\liftE c.1.val (j:Int) 1=0/\liftE c.2.val (j:Int) 1=0:=by
 unfold liftCE at h
 split at h
 ·split at h
  ·exact⟨‹_›,‹_›,h⟩
  ·exact absurd h ‹_›
 ·cases h
theorem right_lts {c:C} (h:rightC c=true):c.1.val<16777216/\c.2.val<16777216:=by
 have:=rightC_iff.1 h
 exact⟨by first | exact this.1 | (have:=this.1;omega),by first | exact this.2 | (have:=this.2;omega)⟩
theorem liftC_eq {c:C} {j:Nat} (h:liftCE c (j:Int) 1=0):(liftC c (j:Int) 1).1.val=liftN c.1.val (j:Int) 1/\(liftC c (j:Int) 1).2.val=liftN c.2.val (j:Int) 1:=by
 unfold liftC
 rw [if_pos (liftC_ok h)]
 exact⟨rfl,rfl⟩
theorem drC_lift {c:C} {j:Nat} (h:liftCE c (j:Int) 1=0):drC (j:Int) (liftC c (j:Int) 1)=c:=by
 obtain⟨hr,h1,h2⟩:=liftC_ok h
 obtain⟨l1,l2⟩:=right_lts hr
 obtain⟨e1,e2⟩:=liftC_eq h
 refine Prod.ext (Fin.ext ?_) (Fin.ext ?_)
 ·show dropN (liftC c (j:Int) 1).1.val (j:Int)=_;rw [e1];exact drop_lift h1 l1
 ·show dropN (liftC c (j:Int) 1).2.val (j:Int)=_;rw [e2];exact drop_lift h2 l2
theorem ltC_lift {a b:C} {j:Nat} (ha:liftCE a (j:Int) 1=0) (hb:liftCE b (j:Int) 1=0) (h:ltC a b=true):ltC (liftC a (j:Int) 1) (liftC b (j:Int) 1)=true:=by
 obtain⟨ra,a1,a2⟩:=liftC_ok ha
 obtain⟨rb,b1,b2⟩:=liftC_ok hb
 obtain⟨la1,la2⟩:=right_lts ra
 obtain⟨lb1,lb2⟩:=right_lts rb
 unfold ltC at h ⊢
 rw [(liftC_eq ha).1,(liftC_eq ha).2,(liftC_eq hb).1,(liftC_eq hb).2]
 simp only [Bool.or_eq_true,Bool.and_eq_true,decide_eq_true_eq] at h ⊢
 rcases h with h|⟨h,h'⟩
 ·exact .inl (lift_lt' la1 lb1 a1 b1 h)
 ·exact .inr ⟨by rw [h],lift_lt' la2 lb2 a2 b2 h'⟩
theorem belC_lift {a b:C} {j:Nat} (ha:liftCE a (j:Int) 1=0) (hb:liftCE b (j:Int) 1=0) (h:belC (liftC a (j:Int) 1) (liftC b (j:Int) 1)=true):belC a b=true:=by
 obtain⟨ra,a1,a2⟩:=liftC_ok ha
 obtain⟨rb,b1,b2⟩:=liftC_ok hb
 obtain⟨la1,la2⟩:=right_lts ra
 obtain⟨lb1,lb2⟩:=right_lts rb
 have h':=belC_iff.1 h
 rw [(liftC_eq ha).1,(liftC_eq ha).2,(liftC_eq hb).1,(liftC_eq hb).2] at h'
 have gen:∀ (x y:Nat),x<16777216->y<16777216->liftE x (j:Int) 1=0->liftE y (j:Int) 1=0->(∀ k,k<24->(liftN y (j:Int) 1).testBit k=true->(liftN x (j:Int) 1).testBit k=true)->∀ k,k<24->y.testBit k=true->x.testBit k=true:=by
  intro x y hx hy ex ey hh k hk hyk
  have bx:=lift_bits ex hx
  have by_:=lift_bits ey hy
  have h24:∀ d,(liftN y (j:Int) 1).testBit d=true->d<24:=fun d hd=>by
   rcases Nat.lt_or_ge d 24 with h|h
   ·exact h
   ·rw [Nat.testBit_lt_two_pow (Nat.lt_of_lt_of_le (liftN_lt y (j:Int) 1) (Nat.pow_le_pow_right (n:=2) (by omega) h))] at hd;cases hd
  by_cases hkj:k<j
  ·have e:(liftN y (j:Int) 1).testBit k=true:=by rw [by_,if_pos hkj];exact hyk
   have:=hh k (h24 k e) e
   rw [bx,if_pos hkj] at this
   exact this
  ·have e:(liftN y (j:Int) 1).testBit (k+1)=true:=by rw [by_,if_neg (by omega),if_neg (by omega)];exact hyk
   have:=hh (k+1) (h24 _ e) e
   rw [bx,if_neg (by omega),if_neg (by omega)] at this
   exact this
 exact belC_iff.2 ⟨gen _ _ la1 lb1 a1 b1 h'.1,gen _ _ la2 lb2 a2 b2 h'.2⟩
theorem liftS_map {j:Nat} (l:List C):(liftS l (j:Int) 1).2=0->(liftS l (j:Int) 1).1=l.map (fun c=>liftC c (j:Int) 1)/\∀ c∈l,liftCE c (j:Int) 1=0:=by
 induction l using snoc_ind with
 | nil=>intro _;exact⟨rfl,fun c hc=>by cases hc⟩
 | snoc l c ih =>
  intro h
  rw [liftS_snoc] at h ⊢
  unfold stepL at h ⊢
  by_cases h0:(liftS l (j:Int) 1).2=0
  ·rw [if_pos h0] at h ⊢
   by_cases h1:liftCE c (j:Int) 1=0
   ·rw [if_pos h1]
    obtain⟨e,hall⟩:=ih h0
    refine⟨by rw [List.map_append,<- e];rfl,fun d hd=>?_⟩
    rcases List.mem_append.1 hd with hd|hd
    ·exact hall d hd
    ·rw [List.mem_singleton.1 hd];exact h1
   ·rw [if_neg h1] at h;exact absurd h h1
  ·rw [if_neg h0] at h;exact absurd h h0
theorem lift_row {f:List C} {j:Nat} (h:(liftFF f (j:Int) 1).2=0):(liftFF f (j:Int) 1).1=f.map (fun c=>liftC c (j:Int) 1)/\(∀ c∈f,liftCE c (j:Int) 1=0):=by
 unfold liftFF at h ⊢
 by_cases hr:rightF f=true
 ·rw [if_pos hr] at h ⊢
  by_cases h0:(liftS f (j:Int) 1).2=0
  ·rw [if_pos h0] at h ⊢
   obtain⟨e,hall⟩:=liftS_map f h0
   rw [e] at h ⊢
   obtain⟨hp,hlen⟩:=rightF_iff.1 hr
   have hP:PreOk (f.map fun c=>liftC c (j:Int) 1):=by
    refine⟨?_,?_,?_⟩
    ·rw [List.all_eq_true]
     intro x hx
     obtain⟨c,hc,rfl⟩:=List.mem_map.1 hx
     rw [rightC_iff,(liftC_eq (hall c hc)).1,(liftC_eq (hall c hc)).2]
     exact⟨liftN_lt _ _ _,liftN_lt _ _ _⟩
    ·exact List.pairwise_map.2 (List.Pairwise.imp_of_mem (fun ha hb h=>ltC_lift (hall _ ha) (hall _ hb) h) hp.rises)
    ·intro x hx
     obtain⟨c,hc,rfl⟩:=List.mem_map.1 hx
     rw [needed_iff]
     intro y hy hb
     obtain⟨d,hd,rfl⟩:=List.mem_map.1 hy
     rw [needed_iff.1 (hp.need c hc) d hd (belC_lift (hall c hc) (hall d hd) hb)]
   have hR:rightF (f.map fun c=>liftC c (j:Int) 1)=true:=rightF_iff.2 ⟨hP,by simpa using hlen⟩
   rw [rightF_eq hR]
   exact⟨rfl,hall⟩
  ·rw [if_neg h0] at h;exact absurd h h0
 ·rw [if_neg hr] at h;cases h
theorem drop_row {f:List C} {j:Nat} (h:(liftFF f (j:Int) 1).2=0):(liftFF f (j:Int) 1).1.map (drC (j:Int))=f:=by
 obtain⟨e,hall⟩:=lift_row h
 rw [e,List.map_map]
 conv=>rhs;rw [<- List.map_id f]
 exact List.map_congr_left (fun c hc=>drC_lift (hall c hc))
end Go.Proofs.YtblbhmnahoiecaaGreat
