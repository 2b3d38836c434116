/- A part of the proof. -/
import Derived.Test.YtblbhmnahoiecaaGreatHFC
import Derived.Test.YtblbhmnahoiecaaGreatHYUses
set_option linter.unusedVariables false
set_option linter.unusedSimpArgs false
namespace Go.Proofs.YtblbhmnahoiecaaGreat
open Go.RowKit
structure Sf where
 vf:Int
 vb:Int
 df:Int
 db:Int
def Sf.ok (s:Sf):Prop:=0<=s.vf/\s.vf<=9223372036854775807/\0<=s.vb/\s.vb<=1000000/\0<=s.df/\s.df<=9223372036854775807/\0<=s.db/\s.db<=1000000
def farB (s:Sf) (bv:Nat) (k n:Int):Prop:=k=1/\s.vf<=n - bv
instance (s:Sf) (bv:Nat) (k n:Int):Decidable (farB s bv k n):=by unfold farB;infer_instance
def firstE (l:List Int):Int:=l.foldr (fun a b=>if a=0 then b else a) 0
theorem firstE_nil:firstE []=0:=rfl
theorem firstE_cons (a:Int) (l:List Int):firstE (a :: l)=if a=0 then firstE l else a:=rfl
theorem firstE_append (l m:List Int):firstE (l++m)=if firstE l=0 then firstE m else firstE l:=by
 induction l with
 | nil=>simp [firstE_nil]
 | cons a l ih =>
  rw [List.cons_append,firstE_cons,firstE_cons,ih]
  by_cases h:a=0
  ·simp [h]
  ·simp [h]
theorem firstE_zero {l:List Int}:firstE l=0↔∀ x∈l,x=0:=by
 induction l with
 | nil=>simp [firstE_nil]
 | cons a l ih =>
  rw [firstE_cons]
  by_cases h:a=0
  ·simp [h,ih]
  ·simp [h]
theorem firstE_mem {l:List Int} (h:firstE l≠0):firstE l∈l:=by
 induction l with
 | nil=>exact absurd firstE_nil h
 | cons a l ih =>
  rw [firstE_cons] at h ⊢
  by_cases h0:a=0
  ·simp only [h0,if_true] at h ⊢; exact List.mem_cons_of_mem _ (ih h)
  ·simp [h0]
theorem firstE_step {l:List Int} {k:Nat} {a:Int} (h:l[k]? = some a):firstE (l.take (k+1))=if firstE (l.take k)=0 then a else firstE (l.take k):=by
 rw [List.take_add_one,h,firstE_append]
 simp only [Option.toList_some,firstE_cons,firstE_nil]
 split
 ·split
  ·rename_i h2;rw [h2]
  ·rfl
 ·rfl
theorem firstE_stuck {l:List Int} {k:Nat} (h:firstE (l.take k)≠0):firstE l=firstE (l.take k):=by
 have e:=firstE_append (l.take k) (l.drop k)
 rw [List.take_append_drop] at e
 rw [e,if_neg h]
structure DOp where
 fn:List C->Nat->List C × Int
 fc:List C->Nat->List C × Int
def ownP (o:DOp) (k:Int) (r:List C) (bd:Nat):List C × Int:=if k=14 then o.fc r bd else o.fn r bd
def stayB (o:DOp) (bd:Nat) (f:List C):Bool:=!(o.fc f bd).1.isEmpty
def dT (o:DOp):Tm->Nat->Tm:=Tm.fold fun k n nm r ks sys bd =>
 .mk k n nm (ownP o k r bd).1 (ks.zipIdx.map fun p=>p.1 (bd+bdK k p.2)) ((sys.filter fun b=>stayB o bd b.1).map fun b=>((o.fc b.1 bd).1,b.2.map fun f=>f (bd+moreK k)))
def dK (o:DOp) (k:Int) (l:List Tm) (bd:Nat):List Tm:=l.zipIdx.map fun p=>dT o p.1 (bd+bdK k p.2)
def dB (o:DOp) (k:Int) (b:List C × List Tm) (bd:Nat):List C × List Tm:=((o.fc b.1 bd).1,b.2.map fun x=>dT o x (bd+moreK k))
def dS (o:DOp) (k:Int) (l:List (List C × List Tm)) (bd:Nat):List (List C × List Tm):=(l.filter fun b=>stayB o bd b.1).map fun b=>dB o k b bd
theorem filter_fold (p:List C->Bool) {α:Type} (g:Tm->α) (l:List (List C × List Tm)):(l.map fun b=>(b.1,b.2.map g)).filter (fun b=>p b.1)=(l.filter fun b=>p b.1).map fun b=>(b.1,b.2.map g):=by
 rw [List.filter_map];rfl
theorem d_eq (o:DOp) (t:Tm) (bd:Nat):dT o t bd=.mk t.kind t.n t.name (ownP o t.kind t.r bd).1 (dK o t.kind t.kids bd) (dS o t.kind t.sys bd):=by
 unfold dT
 rw [fold_mk]
 simp only [List.zipIdx_map,List.map_map,Function.comp_def,Prod.map,filter_fold]
 rfl
def eT (o:DOp):Tm->Nat->Int:=Tm.fold fun k n nm r ks sys bd =>
 firstE ((ownP o k r bd).2 :: ((ks.zipIdx.map fun p=>p.1 (bd+bdK k p.2)) ++ sys.map fun b=>firstE ((o.fc b.1 bd).2 :: (if stayB o bd b.1 then b.2.map fun f=>f (bd+moreK k) else []))))
def eK (o:DOp) (k:Int) (l:List Tm) (bd:Nat):List Int:=l.zipIdx.map fun p=>eT o p.1 (bd+bdK k p.2)
def eBk (o:DOp) (k:Int) (b:List C × List Tm) (bd:Nat):List Int:=b.2.map fun x=>eT o x (bd+moreK k)
def eB (o:DOp) (k:Int) (b:List C × List Tm) (bd:Nat):Int:=firstE ((o.fc b.1 bd).2 :: (if stayB o bd b.1 then eBk o k b bd else []))
def eS (o:DOp) (k:Int) (l:List (List C × List Tm)) (bd:Nat):List Int:=l.map fun b=>eB o k b bd
theorem e_eq (o:DOp) (t:Tm) (bd:Nat):eT o t bd=firstE ((ownP o t.kind t.r bd).2 :: (eK o t.kind t.kids bd++eS o t.kind t.sys bd)):=by
 unfold eT
 rw [fold_mk]
 simp only [List.zipIdx_map,List.map_map,Function.comp_def,Prod.map]
 rfl
theorem dK_len (o:DOp) (k:Int) (l:List Tm) (bd:Nat):(dK o k l bd).length=l.length:=by simp [dK]
theorem eK_len (o:DOp) (k:Int) (l:List Tm) (bd:Nat):(eK o k l bd).length=l.length:=by simp [eK]
theorem eS_len (o:DOp) (k:Int) (l:List (List C × List Tm)) (bd:Nat):(eS o k l bd).length=l.length:=by simp [eS]
theorem dK_get {o:DOp} {k:Int} {l:List Tm} {bd i:Nat} {x:Tm} (h:l[i]? = some x):(dK o k l bd)[i]? = some (dT o x (bd+bdK k i)):=by
 unfold dK;rw [List.getElem?_map,List.getElem?_zipIdx,h];simp
theorem eK_get {o:DOp} {k:Int} {l:List Tm} {bd i:Nat} {x:Tm} (h:l[i]? = some x):(eK o k l bd)[i]? = some (eT o x (bd+bdK k i)):=by
 unfold eK;rw [List.getElem?_map,List.getElem?_zipIdx,h];simp
theorem eS_get {o:DOp} {k:Int} {l:List (List C × List Tm)} {bd i:Nat} {x:List C × List Tm} (h:l[i]? = some x):(eS o k l bd)[i]? = some (eB o k x bd):=by
 unfold eS;rw [List.getElem?_map,h];rfl
def cN (o:DOp) (l:List (List C × List Tm)) (bd j:Nat):Nat:=((l.take j).filter fun b=>stayB o bd b.1).length
theorem cN_le (o:DOp) (l:List (List C × List Tm)) (bd j:Nat):cN o l bd j<=j:=Nat.le_trans (List.length_filter_le _ _) (by rw [List.length_take];omega)
theorem cN_end (o:DOp) (k:Int) (l:List (List C × List Tm)) (bd:Nat):cN o l bd l.length=(dS o k l bd).length:=by
 unfold cN dS;rw [List.take_of_length_le (Nat.le_refl _),List.length_map]
theorem cN_goes {o:DOp} {l:List (List C × List Tm)} {bd j:Nat} {b:List C × List Tm} (h:l[j]? = some b) (hs:stayB o bd b.1=false):cN o l bd (j+1)=cN o l bd j:=by
 unfold cN;rw [List.take_add_one,h];simp [List.filter_append,hs]
theorem cN_stays {o:DOp} {l:List (List C × List Tm)} {bd j:Nat} {b:List C × List Tm} (h:l[j]? = some b) (hs:stayB o bd b.1=true):cN o l bd (j+1)=cN o l bd j+1:=by
 unfold cN;rw [List.take_add_one,h];simp [List.filter_append,hs]
theorem dS_at {o:DOp} {k:Int} {l:List (List C × List Tm)} {bd j:Nat} {b:List C × List Tm} (h:l[j]? = some b) (hs:stayB o bd b.1=true):(dS o k l bd)[cN o l bd j]? = some (dB o k b bd):=by
 have hl:l=l.take j++b :: l.drop (j+1):=by
  have hj:=(List.getElem?_eq_some_iff.1 h).1
  rw [List.getElem?_eq_getElem hj] at h
  injection h with h
  rw [<- h,List.getElem_cons_drop]
  exact (List.take_append_drop j l).symm
 unfold dS cN
 conv=>lhs;arg 1;rw [hl]
 rw [List.filter_append,List.map_append,List.getElem?_append_right (by simp)]
 simp [hs]
def pe (er:Int):PanicEntry:={ v:=.iface 30 (.int .i64 er),recovered:=false }
def LOut (er:Int) (R:Value->Prop) (e:Ending):Prop:=(er=0/\∃ v,e=.returned v/\R v)\/(er≠0/\e=.panicked [pe er])
theorem LOut.ok {er:Int} {R:Value->Prop} {v:Value} (h:er=0) (hR:R v):LOut er R (.returned v):=.inl ⟨h,v,rfl,hR⟩
attribute [local go_sem] Oper.semAt_some
def nrm (Q:Exit->Act->World->Prop) (e:Exit) (a:Act) (w:World):Prop:=e=.normal/\Q .normal a w
theorem nrm_to {Q:Exit->Act->World->Prop} (e:Exit) (a:Act) (w:World) (h:nrm Q e a w):Q e a w:=by rw [h.1];exact h.2
theorem region_nrm {id:Nat} {P:Program} {ops:Array Oper} {Q:Exit->Act->World->Prop} {S:World->Prop} {a:Act} {w:World} (hm:P.follows .mixedOrders=true) (hS:S w.drew)
  (h:S w.drew->wpAnyH P .any ops (nrm Q) S ops.size (Array.replicate ops.size false) a w.drew):(Code.region id ops true).wp P Q a w:=wp_mono (wp_region_held_drew hm hS h) nrm_to
def dmTo (t:Tm) (bd k:Nat):Nat:=(t.own >>> bd) ||| orL ((t.pts.take k).map fun p=>dmT p.1 (bd+p.2.2))
def DmI (t:Tm) (bd:Nat) (w4:World) (s3 s5:Nat) (k:Nat) (W:World):Prop :=
 Kn (fun q=>q<w4.heap.size/\q≠s3/\q≠s5) w4 W/\W.heap[s5]? = some (.cells #[.int .u32 ((dmTo t bd k:Nat):Int)] 36 (0,0))
theorem DmI.keep {t:Tm} {bd:Nat} {w4:World} {s3 s5:Nat} (hs:s5<w4.heap.size/\s5≠s3):∀ k W1 W2,DmI t bd w4 s3 s5 k W1->Kn (fun g=>g<w4.heap.size/\g≠s3) W1 W2->DmI t bd w4 s3 s5 k W2 :=
 fun k W1 W2 ⟨b,c⟩ h=>⟨b.trans (h.sub fun q hq=>⟨hq.1,hq.2.1⟩),(h.block s5 hs (Array.getElem?_eq_some_iff.1 c).1).trans c⟩
end Go.Proofs.YtblbhmnahoiecaaGreat
