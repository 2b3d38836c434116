/- Lifts: what a term becomes, and what is refused first. -/
import Derived.Test.YtmblbmdchinflaaGreatBFC
import Derived.Test.YtmblbmdchinflaaGreatBG3
import Derived.Deep.QuietTactic
import Derived.BigQuiet
import Derived.WalkSmall
import Derived.Test.YtmblbmdchinflaaGreatBG6
import Derived.Test.YtmblbmdchinflaaGreatBG7
import Derived.Laws.EntriesVeiled
import Derived.Laws.MakeOwn
import Derived.Deep.Cut
set_option linter.unusedVariables false
set_option linter.unusedSimpArgs false
namespace Go.Proofs.YtmblbmdchinflaaGreat
open Go.RowKit
structure Sf where
 vf:Int
 vb:Int
 df:Int
 db:Int
def Sf.ok (s:Sf):Prop:=0≤s.vf∧s.vf≤9223372036854775807∧0≤s.vb∧s.vb≤1000000∧0≤s.df∧s.df≤9223372036854775807∧0≤s.db∧s.db≤1000000
def farB (s:Sf) (bv:Nat) (k n:Int):Prop:=k=1∧s.vf≤n - bv
instance (s:Sf) (bv:Nat) (k n:Int):Decidable (farB s bv k n):=by unfold farB;infer_instance
def numE (s:Sf) (bv:Nat) (k n:Int):Int:=if farB s bv k n∧1000000000 - s.vb<n then 100 else 0
def numV (s:Sf) (bv:Nat) (k n:Int):Int:=if farB s bv k n then n+s.vb else n
def rowP (s:Sf) (bd:Nat) (r:List C):List C × Int:=if s.db=0 then (r,0) else liftFF r (min s.df 24+bd) s.db
def firstE (l:List Int):Int:=l.foldr (fun a b=>if a=0 then b else a) 0
theorem firstE_nil:firstE []=0:=rfl
theorem firstE_cons (a:Int) (l:List Int):firstE (a :: l)=if a=0 then firstE l else a:=rfl
theorem firstE_append (l m:List Int):firstE (l++m)=if firstE l=0 then firstE m else firstE l:=by
 induction l with
 | nil=>simp [firstE_nil]
 | cons a l ih =>
  rw [List.cons_append,firstE_cons,firstE_cons,ih]
  by_cases h:a=0
  ·simp [h]
  ·simp [h]
theorem firstE_zero {l:List Int}:firstE l=0↔∀ x∈l,x=0:=by
 induction l with
 | nil=>simp [firstE_nil]
 | cons a l ih =>
  rw [firstE_cons]
  by_cases h:a=0
  ·simp [h,ih]
  ·simp [h]
theorem firstE_step {l:List Int} {k:Nat} {a:Int} (h:l[k]? = some a):firstE (l.take (k+1))=if firstE (l.take k)=0 then a else firstE (l.take k):=by
 rw [List.take_add_one,h,firstE_append]
 simp only [Option.toList_some,firstE_cons,firstE_nil]
 split
 ·split
  ·rename_i h2;rw [h2]
  ·rfl
 ·rfl
theorem firstE_stuck {l:List Int} {k:Nat} (h:firstE (l.take k)≠0):firstE l=firstE (l.take k):=by
 have e:=firstE_append (l.take k) (l.drop k)
 rw [List.take_append_drop] at e
 rw [e,if_neg h]
def liT (s:Sf):Tm→Nat→Nat→Tm:=Tm.fold fun k n nm r ks sys bv bd =>
 .mk k (numV s bv k n) nm (rowP s bd r).1 (ks.zipIdx.map fun p=>p.1 (bv+bvK k p.2) (bd+bdK k p.2)) (sys.map fun b=>((rowP s bd b.1).1,b.2.map fun f=>f bv (bd+moreK k)))
def liK (s:Sf) (k:Int) (l:List Tm) (bv bd:Nat):List Tm:=l.zipIdx.map fun p=>liT s p.1 (bv+bvK k p.2) (bd+bdK k p.2)
def liB (s:Sf) (k:Int) (b:List C × List Tm) (bv bd:Nat):List C × List Tm:=((rowP s bd b.1).1,b.2.map fun x=>liT s x bv (bd+moreK k))
theorem li_eq (s:Sf) (t:Tm) (bv bd:Nat):liT s t bv bd=.mk t.kind (numV s bv t.kind t.n) t.name (rowP s bd t.r).1 (liK s t.kind t.kids bv bd) (t.sys.map fun b=>liB s t.kind b bv bd):=by
 unfold liT
 rw [fold_mk]
 simp only [List.zipIdx_map,List.map_map,Function.comp_def,Prod.map]
 rfl
def erT (s:Sf):Tm→Nat→Nat→Int:=Tm.fold fun k n nm r ks sys bv bd =>
 firstE (numE s bv k n :: (rowP s bd r).2 :: ((ks.zipIdx.map fun p=>p.1 (bv+bvK k p.2) (bd+bdK k p.2)) ++ sys.map fun b=>firstE ((rowP s bd b.1).2 :: b.2.map fun f=>f bv (bd+moreK k))))
def erK (s:Sf) (k:Int) (l:List Tm) (bv bd:Nat):List Int:=l.zipIdx.map fun p=>erT s p.1 (bv+bvK k p.2) (bd+bdK k p.2)
def erB (s:Sf) (k:Int) (b:List C × List Tm) (bv bd:Nat):Int:=firstE ((rowP s bd b.1).2 :: b.2.map fun x=>erT s x bv (bd+moreK k))
theorem er_eq (s:Sf) (t:Tm) (bv bd:Nat):erT s t bv bd=firstE (numE s bv t.kind t.n :: (rowP s bd t.r).2 :: (erK s t.kind t.kids bv bd++t.sys.map fun b=>erB s t.kind b bv bd)):=by
 unfold erT
 rw [fold_mk]
 simp only [List.zipIdx_map,List.map_map,Function.comp_def,Prod.map]
 rfl
theorem liK_len (s:Sf) (k:Int) (l:List Tm) (bv bd:Nat):(liK s k l bv bd).length=l.length:=by simp [liK]
theorem erK_len (s:Sf) (k:Int) (l:List Tm) (bv bd:Nat):(erK s k l bv bd).length=l.length:=by simp [erK]
theorem liK_get {s:Sf} {k:Int} {l:List Tm} {bv bd i:Nat} {x:Tm} (h:l[i]? = some x):(liK s k l bv bd)[i]? = some (liT s x (bv+bvK k i) (bd+bdK k i)):=by
 unfold liK;rw [List.getElem?_map,List.getElem?_zipIdx,h];simp
theorem erK_get {s:Sf} {k:Int} {l:List Tm} {bv bd i:Nat} {x:Tm} (h:l[i]? = some x):(erK s k l bv bd)[i]? = some (erT s x (bv+bvK k i) (bd+bdK k i)):=by
 unfold erK;rw [List.getElem?_map,List.getElem?_zipIdx,h];simp
def Fm:Tm→Prop:=Tm.fold fun k n _ r ks sys=>0≤n∧(k=1→r=[])∧(∀ p∈ks,p)∧∀ b∈sys,∀ p∈b.2,p
theorem fm_eq (t:Tm):Fm t↔(0≤t.n∧(t.kind=1→t.r=[])∧(∀ x∈t.kids,Fm x)∧∀ b∈t.sys,∀ x∈b.2,Fm x):=by
 unfold Fm
 rw [fold_mk]
 simp only [List.mem_map,forall_exists_index,and_imp,forall_apply_eq_imp_iff₂]
theorem rowP_nil (s:Sf) (bd:Nat):(rowP s bd []).2=0:=by
 unfold rowP
 split
 ·rfl
 ·have e1:rightF []=true:=by decide
  have e2:leastF []=([],0):=by decide
  simp [liftFF,liftS,e1,e2]
theorem num_row {s:Sf} {bv bd:Nat} {t:Tm} (h:Fm t) (hn:numE s bv t.kind t.n≠0):(rowP s bd t.r).2=0:=by
 have h1:t.kind=1:=by
  unfold numE at hn
  split at hn
  ·rename_i h2;exact h2.1.1
  ·exact absurd rfl hn
 rw [((fm_eq t).1 h).2.1 h1]
 exact rowP_nil s bd
end Go.Proofs.YtmblbmdchinflaaGreat
set_option linter.unusedVariables false
set_option linter.unusedSimpArgs false
namespace Go.Proofs.YtmblbmdchinflaaGreat
open Go.RowKit
def pe (er:Int):PanicEntry:={ v:=.iface 31 (.int .i64 er),recovered:=false }
def LOut (er:Int) (R:Value→Prop) (e:Ending):Prop:=(er=0∧∃ v,e=.returned v∧R v)∨(er≠0∧e=.panicked [pe er])
theorem LOut.ok {er:Int} {R:Value→Prop} {v:Value} (h:er=0) (hR:R v):LOut er R (.returned v):=.inl ⟨h,v,rfl,hR⟩
set_option maxRecDepth 100000 in
set_option maxHeartbeats 2000000 in
theorem lnum_any (s:Sf) (hs:s.ok) (bv bd g off:Nat) (t:Tm) (w:World) (hl:g<w.heap.size) (h0:w.cell? ⟨g,off,none⟩=some (.int .i64 t.kind)) (h1:w.cell? ⟨g,off+1,none⟩=some (.int .i64 t.n)) (hn:0≤t.n∧t.n≤9223372036854775807) (hb:bv≤1000000) :
  Calls Tryz.prog 154 #[.agg #[.int .i64 s.vf,.int .i64 s.vb,.int .i64 s.df,.int .i64 s.db],.pointer (some ⟨g,off,none⟩),.agg #[.int .i64 (bv:Int),.int .i64 (bd:Int)]] w fun e w'=>LOut (numE s bv t.kind t.n) (fun v=>v=.int .i64 (numV s bv t.kind t.n)) e∧Below w.heap.size w w':=by
 obtain⟨k,hk⟩:∃ k,k=t.kind:=⟨_,rfl⟩
 obtain⟨n,hnn⟩:∃ n,n=t.n:=⟨_,rfl⟩
 rw [← hk] at h0 ⊢
 rw [← hnn] at h1 hn ⊢
 obtain⟨vf,vb,df,db⟩:=s
 obtain⟨s1,s2,s3,s4,s5,s6,s7,s8⟩:=hs
 dsimp only at s1 s2 s3 s4 s5 s6 s7 s8 ⊢
 have HE:Hid (numE ⟨vf,vb,df,db⟩ bv k n=if (k=1∧vf≤n - bv)∧1000000000 - vb<n then 100 else 0):=(by unfold numE farB;rfl:_=_)
 have HV:Hid (numV ⟨vf,vb,df,db⟩ bv k n=if k=1∧vf≤n - bv then n+vb else n):=(by unfold numV farB;rfl:_=_)
 clear hk hnn
 obtain⟨w2,hw2⟩:∃ w2,w2=(w.alloc (.cells #[.int .i64 vf,.int .i64 vb,.int .i64 df,.int .i64 db] 129)).alloc (.cells #[.int .i64 (bv:Int),.int .i64 (bd:Int)] 152):=⟨_,rfl⟩
 have hb2:Below w.heap.size w w2:=by rw [hw2];exact bchain (belowA _ _) (belowA _ _)
 have m1:w2.heap[w.heap.size]? = some (.cells #[.int .i64 vf,.int .i64 vb,.int .i64 df,.int .i64 db] 129 (0,0)):=by
  rw [hw2];exact (Below.heap_alloc _ _ _ (by simp)).trans (heapNew w _)
 have m2:w2.heap[w.heap.size+1]? = some (.cells #[.int .i64 (bv:Int),.int .i64 (bd:Int)] 152 (0,0)):=by
  rw [hw2];have:=heapNew (w.alloc (.cells #[.int .i64 vf,.int .i64 vb,.int .i64 df,.int .i64 db] 129)) (.cells #[.int .i64 (bv:Int),.int .i64 (bd:Int)] 152);rwa [World.size_alloc] at this
 have e0:w2.cell? ⟨w.heap.size,0,none⟩=some (.int .i64 vf):=by simp [World.cell?,m1]
 have e1:w2.cell? ⟨w.heap.size,1,none⟩=some (.int .i64 vb):=by simp [World.cell?,m1]
 have e2:w2.cell? ⟨w.heap.size+1,0,none⟩=some (.int .i64 (bv:Int)):=by simp [World.cell?,m2]
 have g0:=(hb2.cell (p:=⟨g,off,none⟩) hl).trans h0
 have g1:=(hb2.cell (p:=⟨g,off+1,none⟩) hl).trans h1
 have H2:Hid (_=_):=hw2
 clear hw2 m1 m2 h0 h1
 go_enter Tryz.func154,Tryz.ntmps154
 go_upto_region 1 with fail
 rw [← H2.out]
 by_cases hk:k=1
 ·subst hk
  have wr1:IntKind.i64.wrap (n - (bv:Int))=n - (bv:Int):=by simp [IntKind.wrap,IntKind.bits,IntKind.signed];omega
  by_cases hf:vf≤n - bv
  ·have hf2:¬ n - (bv:Int) < vf:=by omega
   have hf3:decide (n - (bv:Int) < vf)=false:=by simpa using hf
   have wr2:IntKind.i64.wrap (1000000000 - vb)=1000000000 - vb:=by simp [IntKind.wrap,IntKind.bits,IntKind.signed];omega
   by_cases hg:1000000000 - vb<n
   ·have Hr:Hid (numE ⟨vf,vb,df,db⟩ bv 1 n=100∧numV ⟨vf,vb,df,db⟩ bv 1 n=n+vb):=⟨by rw [HE.out];exact if_pos ⟨⟨rfl,hf⟩,hg⟩,by rw [HV.out];exact if_pos ⟨rfl,hf⟩⟩
    have hg3:decide (1000000000 - vb<n)=true:=by simpa using hg
    clear HE HV
    go_wp2
    go_quiet (fail)
    go_wp2
    go_quiet (fail)
    go_wp2
    exact⟨rfl,.inr ⟨by rw [Hr.out.1];decide,by rw [Hr.out.1];rfl⟩,bdrewN hb2 _⟩
   ·have Hr:Hid (numE ⟨vf,vb,df,db⟩ bv 1 n=0∧numV ⟨vf,vb,df,db⟩ bv 1 n=n+vb):=⟨by rw [HE.out];exact if_neg (fun h=>hg h.2),by rw [HV.out];exact if_pos ⟨rfl,hf⟩⟩
    have hg3:decide (1000000000 - vb<n)=false:=by simpa using hg
    clear HE HV
    have wr3:IntKind.i64.wrap (n+vb)=n+vb:=by simp [IntKind.wrap,IntKind.bits,IntKind.signed];omega
    go_wp2
    go_quiet (fail)
    go_wp2
    go_quiet (fail)
    go_wp2
    go_quiet (fail)
    go_wp2
    go_ret
    exact⟨.ok Hr.out.1 (by rw [Hr.out.2];rfl),⟨hb2.os,hb2.tape,hb2.output,hb2.size,hb2.block⟩⟩
  ·have Hr:Hid (numE ⟨vf,vb,df,db⟩ bv 1 n=0∧numV ⟨vf,vb,df,db⟩ bv 1 n=n):=⟨by rw [HE.out];exact if_neg (fun h=>hf h.1.2),by rw [HV.out];exact if_neg (fun h=>hf h.2)⟩
   clear HE HV
   have hf2:n - (bv:Int) < vf:=by omega
   have hf3:decide (n - (bv:Int) < vf)=true:=by simpa using hf2
   go_wp2
   go_quiet (fail)
   go_wp2
   go_ret
   exact⟨.ok Hr.out.1 (by rw [Hr.out.2];rfl),⟨hb2.os,hb2.tape,hb2.output,hb2.size,hb2.block⟩⟩
 ·have Hr:Hid (numE ⟨vf,vb,df,db⟩ bv k n=0∧numV ⟨vf,vb,df,db⟩ bv k n=n):=⟨by rw [HE.out];exact if_neg (fun h=>hk h.1.1),by rw [HV.out];exact if_neg (fun h=>hk h.1)⟩
  clear HE HV
  have k1:(k == 1)=false:=by simpa using hk
  go_wp2
  go_quiet (fail)
  go_wp2
  go_ret
  exact⟨.ok Hr.out.1 (by rw [Hr.out.2];rfl),⟨hb2.os,hb2.tape,hb2.output,hb2.size,hb2.block⟩⟩
set_option maxRecDepth 100000 in
set_option maxHeartbeats 2000000 in
theorem lrow_any (s:Sf) (hs:s.ok) (bv bd:Nat) (l:List C) (v:Value) (w:World) (hv:ClRow Tt w l v) (hl:l.length≤40000) (hbd:bd≤1000000) :
  Calls Tryz.prog 155 #[.agg #[.int .i64 s.vf,.int .i64 s.vb,.int .i64 s.df,.int .i64 s.db],v,.agg #[.int .i64 (bv:Int),.int .i64 (bd:Int)]] w fun e w'=>LOut (rowP s bd l).2 (fun v'=>OwnsC w' w.heap.size v' (rowP s bd l).1) e∧Below w.heap.size w w':=by
 obtain⟨vf,vb,df,db⟩:=s
 obtain⟨s1,s2,s3,s4,s5,s6,s7,s8⟩:=hs
 dsimp only at s1 s2 s3 s4 s5 s6 s7 s8 ⊢
 have HR:Hid (rowP ⟨vf,vb,df,db⟩ bd l=if db=0 then (l,0) else liftFF l (min df 24+bd) db):=(rfl:_=_)
 obtain⟨w2,hw2⟩:∃ w2,w2=(w.alloc (.cells #[.int .i64 vf,.int .i64 vb,.int .i64 df,.int .i64 db] 129)).alloc (.cells #[.int .i64 (bv:Int),.int .i64 (bd:Int)] 152):=⟨_,rfl⟩
 have hb2:Below w.heap.size w w2:=by rw [hw2];exact bchain (belowA _ _) (belowA _ _)
 have m1:w2.heap[w.heap.size]? = some (.cells #[.int .i64 vf,.int .i64 vb,.int .i64 df,.int .i64 db] 129 (0,0)):=by
  rw [hw2];exact (Below.heap_alloc _ _ _ (by simp)).trans (heapNew w _)
 have m2:w2.heap[w.heap.size+1]? = some (.cells #[.int .i64 (bv:Int),.int .i64 (bd:Int)] 152 (0,0)):=by
  rw [hw2];have:=heapNew (w.alloc (.cells #[.int .i64 vf,.int .i64 vb,.int .i64 df,.int .i64 db] 129)) (.cells #[.int .i64 (bv:Int),.int .i64 (bd:Int)] 152);rwa [World.size_alloc] at this
 have e2:w2.cell? ⟨w.heap.size,2,none⟩=some (.int .i64 df):=by simp [World.cell?,m1]
 have e3:w2.cell? ⟨w.heap.size,3,none⟩=some (.int .i64 db):=by simp [World.cell?,m1]
 have e4:w2.cell? ⟨w.heap.size+1,1,none⟩=some (.int .i64 (bd:Int)):=by simp [World.cell?,m2]
 have hv2:=hv.blw hb2
 have H2:Hid (_=_):=hw2
 have c1:=clone_any l v w2 hv2 (by omega)
 obtain⟨P,hP⟩:∃ P,P=liftFF l (min df 24+bd) db:=⟨_,rfl⟩
 have c2:=Lift_any l (min df 24+bd) db v w2 hv2.frow hl
 rw [← hP] at c2 HR
 obtain⟨M,er⟩:=P
 dsimp only at c2
 obtain⟨a,cap,rfl,_⟩:=id hv
 clear hw2 m1 m2 hv hv2 hP
 by_cases hd:db=0
 ·subst hd
  rw [if_pos rfl] at HR
  clear c2
  go_enter Tryz.func155,Tryz.ntmps155
  go_upto_region 1 with fail
  rw [← H2.out]
  clear H2
  go_wp2_with fail
  refine c1.mono ?_
  rintro e w3 ⟨v3,rfl,hO,hb3⟩
  clear c1
  have hO':=OwnsC.mono hO hb2.size
  have hb':=bchain hb2 hb3
  go_wp2_with fail
  go_ret
  exact⟨.ok (by rw [HR.out]) (by rw [HR.out];exact hO'),hb'⟩
 ·rw [if_neg hd] at HR
  clear c1
  have d1:(db == 0)=false:=by simpa using hd
  have wr:wrap64 (min df 24+(bd:Int))=min df 24+(bd:Int):=by simp [wrap64];omega
  go_enter Tryz.func155,Tryz.ntmps155
  go_upto_region 1 with fail
  rw [← H2.out]
  clear H2
  go_wp2_with fail
  refine c2.mono ?_
  rintro e w3 ⟨v3,rfl,hO,hb3⟩
  clear c2
  have hO':=OwnsC.mono hO hb2.size
  have hb':=bchain hb2 hb3
  by_cases h0:er=0
  ·subst h0
   go_wp2_with fail
   go_ret
   exact⟨.ok (by rw [HR.out]) (by rw [HR.out];exact hO'),hb'⟩
  ·have h1:(er == 0)=false:=by simpa using h0
   go_wp2_with fail
   exact⟨rfl,.inr ⟨by rw [HR.out];exact h0,by rw [HR.out];rfl⟩,hb'⟩
end Go.Proofs.YtmblbmdchinflaaGreat
set_option linter.unusedVariables false
set_option linter.unusedSimpArgs false
namespace Go.Proofs.YtmblbmdchinflaaGreat
open Go.RowKit
def atT (v:Value) (k:Nat) (p:Addr):Prop:=∃ g off n c,v=.slice (some ⟨g,off,none⟩) n c∧p=⟨g,off+k*6,none⟩
def atB (v:Value) (k:Nat) (p:Addr):Prop:=∃ g off n c,v=.slice (some ⟨g,off,none⟩) n c∧p=⟨g,off+k*2,none⟩
set_option maxRecDepth 100000 in
set_option maxHeartbeats 4000000 in
theorem lbecT_any (fid:FuncId) (caps:Array Value) (eg:∀ args w,(callFunc fid args).run Tryz.prog w=.ok (.enter fid args) w) (l res:List Tm) (ers:List Int) (hres:res.length=l.length) (hers:ers.length=l.length) (v:Value) (w:World) (hl:KdT Tt w (TmIn Tt w) l v) (hb:l.length≤100000)
  (hF:∀ (k:Nat) (x y:Tm) (e0:Int) (p:Addr) (W:World),l[k]? = some x→res[k]? = some y→ers[k]? = some e0→atT v k p→Below w.heap.size w W→Calls Tryz.prog fid (#[.int .i64 (k:Int),.pointer (some p)] ++ caps) W fun e w'=>LOut e0 (TmIn (OkN W.heap.size w') w' y) e∧Below W.heap.size W w') :
  Calls Tryz.prog 156 #[v,.func (.func fid) #[] caps] w fun e w'=>LOut (firstE ers) (fun v'=>KdT (OkN w.heap.size w') w' (TmIn (OkN w.heap.size w') w') res v') e∧Below w.heap.size w w':=by
 obtain⟨a,cap,rfl,_⟩:=id hl
 by_cases hz:l=[]
 ·subst hz
  obtain rfl:res=[]:=List.length_eq_zero_iff.1 hres
  obtain rfl:ers=[]:=List.length_eq_zero_iff.1 hers
  go_enter Tryz.func156,Tryz.ntmps156
  go_wp2
  go_ret
  exact⟨.ok firstE_nil (kt_nil _ _ _),Below.refl _ _⟩
 ·have hpos:0<l.length:=List.length_pos_iff.2 hz
  obtain⟨L,hL⟩:∃ L,L=l.length:=⟨_,rfl⟩
  have HL:Hid (L=l.length∧res.length=L∧ers.length=L):=⟨hL,by omega,by omega⟩
  have Hl:Hid (KdT Tt w (TmIn Tt w) l (.slice a L cap)):=by rw [hL];exact hl
  have HF:Hid (∀ (k:Nat) (x y:Tm) (e0:Int) (p:Addr) (W:World),l[k]? = some x→res[k]? = some y→ers[k]? = some e0→atT (.slice a L cap) k p→Below w.heap.size w W→Calls Tryz.prog fid (#[.int .i64 (k:Int),.pointer (some p)] ++ caps) W fun e w'=>LOut e0 (TmIn (OkN W.heap.size w') w' y) e∧Below W.heap.size W w'):=by rw [hL];exact hF
  rw [← hL] at hpos hb ⊢
  have q0:((L:Int) == 0)=false:=by simp;omega
  obtain⟨W,hmk,hBlk,hbW,sW⟩:=makeT L w (by omega)
  clear hL hl hz hF hres hers
  go_enter Tryz.func156,Tryz.ntmps156
  go_wp2
  go_loopw [15] (fun i wr=>∃ k:Nat,k≤L∧i=.int .i64 k∧PutT wr w.heap.size res k∧BlkC wr w.heap.size 26 (L*6)∧Below w.heap.size w wr∧Hid (firstE (ers.take k)=0)) (fun i _=>L - (intOf i).toNat)
  case atStart=>exact⟨0,Nat.zero_le _,rfl,fun j x hj=>by omega,hBlk,hbW,firstE_nil⟩
  case round =>
   obtain⟨wo,hwo⟩:∃ wo,wo=wr:=⟨_,rfl⟩
   subst hwo
   obtain⟨k,hk,rfl,hP,hBk,hB,HZ⟩:=hrel
   by_cases hlt:k<L
   ·have hkI:(k:Int) < (L:Int):=by omega
    obtain⟨x,hx⟩:=someL (l:=l) (k:=k) (by rw [← HL.out.1];exact hlt)
    obtain⟨y,hy⟩:=someL (l:=res) (k:=k) (by rw [HL.out.2.1];exact hlt)
    obtain⟨e0,he⟩:=someL (l:=ers) (k:=k) (by rw [HL.out.2.2];exact hlt)
    obtain⟨g1,o1,ra,rc,ka,kc,sa,sc,rfl,_,h6,ht⟩:=(Hl.out.blw hB).at hx
    have cc:=HF.out k x y e0 ⟨g1,o1+k*6,none⟩ wo hx hy he ⟨g1,o1,L,cap,rfl,rfl⟩ hB
    have HS:Hid (_=_):=firstE_step he
    have HT:Hid (firstE (ers.take (k+1))≠0→firstE ers=firstE (ers.take (k+1))):=fun h=>firstE_stuck h
    have HY:Hid (_=_):=hy
    have hGlt:=hBk.lt
    clear h6 ht hx hy he
    go_wp2_with fail
    refine cc.mono ?_
    rintro e w2 ⟨⟨h0,v2,rfl,hv2⟩ | ⟨hne,rfl⟩,hb2⟩
    ·clear cc
     obtain⟨ra2,rc2,ka2,kc2,sa2,sc2,rfl,ht2⟩:=hv2.form
     have hBk2:=hBk.kn (No:=fun _=>True) (Kn.of_below hb2) trivial
     have hP2:=hP.kn hb2 hBk.lt
     have hB2:=bchain hB hb2
     obtain⟨o0,e0⟩:=hBk2.cell (k*6) (by omega)
     obtain⟨o1,e1⟩:=hBk2.cell (k*6+1) (by omega)
     obtain⟨o2,e2⟩:=hBk2.cell (k*6+2) (by omega)
     obtain⟨o3,e3⟩:=hBk2.cell (k*6+3) (by omega)
     obtain⟨o4,e4⟩:=hBk2.cell (k*6+4) (by omega)
     obtain⟨o5,e5⟩:=hBk2.cell (k*6+5) (by omega)
     have f0:=hBk2.soft (k*6)
     have f1:=hBk2.soft (k*6+1)
     have f2:=hBk2.soft (k*6+2)
     have f3:=hBk2.soft (k*6+3)
     have f4:=hBk2.soft (k*6+4)
     have f5:=hBk2.soft (k*6+5)
     have hfin:=hP2.put hBk2 HY.out (by omega) _ _ _ _ _ _ (ht2.value.up fun q hq=>hq.mono (by omega))
     unfold set6 at hfin
     have HFn:Hid (_∧_∧_):=hfin
     have HZ':Hid (firstE (ers.take (k+1))=0):=(by rw [HS.out,if_pos HZ.out];exact h0:firstE (ers.take (k+1))=0)
     clear hfin h0
     go_wp2_with fail
     obtain⟨q1,q2,q3⟩:=HFn.out
     go_roundw
     case rel=>exact⟨k+1,by omega,by go_num,q1,q2,hB2.trans (q3.below (fun q hq=>by omega) hB2.size),HZ'⟩
     case measure=>simp [intOf];omega
    ·clear cc
     have hE:firstE (ers.take (k+1))=e0:=by rw [HS.out,if_pos HZ.out]
     have hE2:=HT.out (by rw [hE];exact hne)
     rw [hE] at hE2
     exact⟨rfl,.inr ⟨by rw [hE2];exact hne,by rw [hE2]⟩,bchain hB hb2⟩
   ·have hkI:¬ (k:Int) < (L:Int):=by omega
    obtain rfl:k=L:=by omega
    have hr:=PutT.row (base:=w.heap.size) (l:=res) (G:=w.heap.size) (by rw [HL.out.2.1];exact hP) (by rw [HL.out.2.1];exact hBk) (Nat.le_refl _)
    rw [HL.out.2.1] at hr
    have HZ2:Hid (firstE ers=0):=(by have:=HZ.out;rwa [List.take_of_length_le (by rw [HL.out.2.2];exact Nat.le_refl _)] at this:firstE ers=0)
    clear hP hBk HZ
    go_wp2_with fail
    go_ret
    exact⟨.ok HZ2.out hr,hB⟩
def BrIn (base:Nat) (w:World) (b:List C × List Tm) (v:Value):Prop:=∃ fa fc ka kc,v=.agg #[.slice fa b.1.length fc,.slice ka b.2.length kc]∧ClRow (OkN base w) w b.1 (.slice fa b.1.length fc)∧KdT (OkN base w) w (TmIn (OkN base w) w) b.2 (.slice ka b.2.length kc)
set_option maxRecDepth 100000 in
set_option maxHeartbeats 4000000 in
theorem lbecB_any (fid:FuncId) (caps:Array Value) (eg:∀ args w,(callFunc fid args).run Tryz.prog w=.ok (.enter fid args) w) (l res:List (List C × List Tm)) (ers:List Int) (hres:res.length=l.length) (hers:ers.length=l.length) (v:Value) (w:World) (hl:SyT Tt w (TmIn Tt w) l v) (hb:l.length≤100000)
  (hF:∀ (k:Nat) (x y:List C × List Tm) (e0:Int) (p:Addr) (W:World),l[k]? = some x→res[k]? = some y→ers[k]? = some e0→atB v k p→Below w.heap.size w W→Calls Tryz.prog fid (#[.int .i64 (k:Int),.pointer (some p)] ++ caps) W fun e w'=>LOut e0 (BrIn W.heap.size w' y) e∧Below W.heap.size W w') :
  Calls Tryz.prog 158 #[v,.func (.func fid) #[] caps] w fun e w'=>LOut (firstE ers) (fun v'=>SyT (OkN w.heap.size w') w' (TmIn (OkN w.heap.size w') w') res v') e∧Below w.heap.size w w':=by
 obtain⟨a,cap,rfl,_⟩:=id hl
 by_cases hz:l=[]
 ·subst hz
  obtain rfl:res=[]:=List.length_eq_zero_iff.1 hres
  obtain rfl:ers=[]:=List.length_eq_zero_iff.1 hers
  go_enter Tryz.func158,Tryz.ntmps158
  go_wp2
  go_ret
  exact⟨.ok firstE_nil (sy_nil _ _ _),Below.refl _ _⟩
 ·have hpos:0<l.length:=List.length_pos_iff.2 hz
  obtain⟨L,hL⟩:∃ L,L=l.length:=⟨_,rfl⟩
  have HL:Hid (L=l.length∧res.length=L∧ers.length=L):=⟨hL,by omega,by omega⟩
  have Hl:Hid (SyT Tt w (TmIn Tt w) l (.slice a L cap)):=by rw [hL];exact hl
  have HF:Hid (∀ (k:Nat) (x y:List C × List Tm) (e0:Int) (p:Addr) (W:World),l[k]? = some x→res[k]? = some y→ers[k]? = some e0→atB (.slice a L cap) k p→Below w.heap.size w W→Calls Tryz.prog fid (#[.int .i64 (k:Int),.pointer (some p)] ++ caps) W fun e w'=>LOut e0 (BrIn W.heap.size w' y) e∧Below W.heap.size W w'):=by rw [hL];exact hF
  rw [← hL] at hpos hb ⊢
  have q0:((L:Int) == 0)=false:=by simp;omega
  obtain⟨W,hmk,hBlk,hbW,sW⟩:=makeB L w (by omega)
  clear hL hl hz hF hres hers
  go_enter Tryz.func158,Tryz.ntmps158
  go_wp2
  go_loopw [15] (fun i wr=>∃ k:Nat,k≤L∧i=.int .i64 k∧PutB wr w.heap.size res k∧BlkC wr w.heap.size 50 (L*2)∧Below w.heap.size w wr∧Hid (firstE (ers.take k)=0)) (fun i _=>L - (intOf i).toNat)
  case atStart=>exact⟨0,Nat.zero_le _,rfl,fun j x hj=>by omega,hBlk,hbW,firstE_nil⟩
  case round =>
   obtain⟨wo,hwo⟩:∃ wo,wo=wr:=⟨_,rfl⟩
   subst hwo
   obtain⟨k,hk,rfl,hP,hBk,hB,HZ⟩:=hrel
   by_cases hlt:k<L
   ·have hkI:(k:Int) < (L:Int):=by omega
    obtain⟨x,hx⟩:=someL (l:=l) (k:=k) (by rw [← HL.out.1];exact hlt)
    obtain⟨y,hy⟩:=someL (l:=res) (k:=k) (by rw [HL.out.2.1];exact hlt)
    obtain⟨e0,he⟩:=someL (l:=ers) (k:=k) (by rw [HL.out.2.2];exact hlt)
    obtain⟨g1,o1,fa,fc,ka,kc,rfl,_,h6,hcl,ht⟩:=(Hl.out.blw hB).at hx
    have cc:=HF.out k x y e0 ⟨g1,o1+k*2,none⟩ wo hx hy he ⟨g1,o1,L,cap,rfl,rfl⟩ hB
    have HS:Hid (_=_):=firstE_step he
    have HT:Hid (firstE (ers.take (k+1))≠0→firstE ers=firstE (ers.take (k+1))):=fun h=>firstE_stuck h
    have HY:Hid (_=_):=hy
    have hGlt:=hBk.lt
    clear h6 hcl ht hx hy he
    go_wp2_with fail
    refine cc.mono ?_
    rintro e w2 ⟨⟨h0,v2,rfl,hv2⟩ | ⟨hne,rfl⟩,hb2⟩
    ·clear cc
     obtain⟨fa2,fc2,ka2,kc2,rfl,hc2,hk2⟩:=hv2
     have hBk2:=hBk.kn (No:=fun _=>True) (Kn.of_below hb2) trivial
     have hP2:=hP.kn hb2 hBk.lt
     have hB2:=bchain hB hb2
     obtain⟨o0,e0⟩:=hBk2.cell (k*2) (by omega)
     obtain⟨o1,e1⟩:=hBk2.cell (k*2+1) (by omega)
     have f0:=hBk2.soft (k*2)
     have f1:=hBk2.soft (k*2+1)
     have hfin:=hP2.put hBk2 HY.out (by omega) _ _ (hc2.keep (Nat.le_refl _) (fun q hq=>hq.mono (by omega)) (fun _ _ _=>rfl)) (hk2.all (Nat.le_refl _) (fun q hq=>hq.mono (by omega)) (fun _ _ _=>rfl))
     unfold set2 at hfin
     have HFn:Hid (_∧_∧_):=hfin
     have HZ':Hid (firstE (ers.take (k+1))=0):=(by rw [HS.out,if_pos HZ.out];exact h0:firstE (ers.take (k+1))=0)
     clear hfin h0
     go_wp2_with fail
     obtain⟨q1,q2,q3⟩:=HFn.out
     go_roundw
     case rel=>exact⟨k+1,by omega,by go_num,q1,q2,hB2.trans (q3.below (fun q hq=>by omega) hB2.size),HZ'⟩
     case measure=>simp [intOf];omega
    ·clear cc
     have hE:firstE (ers.take (k+1))=e0:=by rw [HS.out,if_pos HZ.out]
     have hE2:=HT.out (by rw [hE];exact hne)
     rw [hE] at hE2
     exact⟨rfl,.inr ⟨by rw [hE2];exact hne,by rw [hE2]⟩,bchain hB hb2⟩
   ·have hkI:¬ (k:Int) < (L:Int):=by omega
    obtain rfl:k=L:=by omega
    have hr:=PutB.row (base:=w.heap.size) (l:=res) (G:=w.heap.size) (by rw [HL.out.2.1];exact hP) (by rw [HL.out.2.1];exact hBk) (Nat.le_refl _)
    rw [HL.out.2.1] at hr
    have HZ2:Hid (firstE ers=0):=(by have:=HZ.out;rwa [List.take_of_length_le (by rw [HL.out.2.2];exact Nat.le_refl _)] at this:firstE ers=0)
    clear hP hBk HZ
    go_wp2_with fail
    go_ret
    exact⟨.ok HZ2.out hr,hB⟩
end Go.Proofs.YtmblbmdchinflaaGreat
