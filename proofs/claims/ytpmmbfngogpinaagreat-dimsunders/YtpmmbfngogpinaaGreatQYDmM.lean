/- Formulas in the places of dimensions: what a term becomes, and what is refused first. -/
import Derived.Test.YtpmmbfngogpinaaGreatQYLfM
set_option linter.unusedVariables false
set_option linter.unusedSimpArgs false
namespace Go.Proofs.YtpmmbfngogpinaaGreat
open Go.RowKit
structure DOp where
 fn:List C→Nat→List C × Int
 fc:List C→Nat→List C × Int
def ownP (o:DOp) (k:Int) (r:List C) (bd:Nat):List C × Int:=if k=14 then o.fc r bd else o.fn r bd
def stayB (o:DOp) (bd:Nat) (f:List C):Bool:=!(o.fc f bd).1.isEmpty
def dT (o:DOp):Tm→Nat→Tm:=Tm.fold fun k n nm r ks sys bd =>
 .mk k n nm (ownP o k r bd).1 (ks.zipIdx.map fun p=>p.1 (bd+bdK k p.2)) ((sys.filter fun b=>stayB o bd b.1).map fun b=>((o.fc b.1 bd).1,b.2.map fun f=>f (bd+moreK k)))
def dK (o:DOp) (k:Int) (l:List Tm) (bd:Nat):List Tm:=l.zipIdx.map fun p=>dT o p.1 (bd+bdK k p.2)
def dB (o:DOp) (k:Int) (b:List C × List Tm) (bd:Nat):List C × List Tm:=((o.fc b.1 bd).1,b.2.map fun x=>dT o x (bd+moreK k))
def dS (o:DOp) (k:Int) (l:List (List C × List Tm)) (bd:Nat):List (List C × List Tm):=(l.filter fun b=>stayB o bd b.1).map fun b=>dB o k b bd
theorem filter_fold (p:List C→Bool) {α:Type} (g:Tm→α) (l:List (List C × List Tm)):(l.map fun b=>(b.1,b.2.map g)).filter (fun b=>p b.1)=(l.filter fun b=>p b.1).map fun b=>(b.1,b.2.map g):=by
 rw [List.filter_map];rfl
theorem d_eq (o:DOp) (t:Tm) (bd:Nat):dT o t bd=.mk t.kind t.n t.name (ownP o t.kind t.r bd).1 (dK o t.kind t.kids bd) (dS o t.kind t.sys bd):=by
 unfold dT
 rw [fold_mk]
 simp only [List.zipIdx_map,List.map_map,Function.comp_def,Prod.map,filter_fold]
 rfl
def eT (o:DOp):Tm→Nat→Int:=Tm.fold fun k n nm r ks sys bd =>
 firstE ((ownP o k r bd).2 :: ((ks.zipIdx.map fun p=>p.1 (bd+bdK k p.2)) ++ sys.map fun b=>firstE ((o.fc b.1 bd).2 :: (if stayB o bd b.1 then b.2.map fun f=>f (bd+moreK k) else []))))
def eK (o:DOp) (k:Int) (l:List Tm) (bd:Nat):List Int:=l.zipIdx.map fun p=>eT o p.1 (bd+bdK k p.2)
def eBk (o:DOp) (k:Int) (b:List C × List Tm) (bd:Nat):List Int:=b.2.map fun x=>eT o x (bd+moreK k)
def eB (o:DOp) (k:Int) (b:List C × List Tm) (bd:Nat):Int:=firstE ((o.fc b.1 bd).2 :: (if stayB o bd b.1 then eBk o k b bd else []))
def eS (o:DOp) (k:Int) (l:List (List C × List Tm)) (bd:Nat):List Int:=l.map fun b=>eB o k b bd
theorem e_eq (o:DOp) (t:Tm) (bd:Nat):eT o t bd=firstE ((ownP o t.kind t.r bd).2 :: (eK o t.kind t.kids bd++eS o t.kind t.sys bd)):=by
 unfold eT
 rw [fold_mk]
 simp only [List.zipIdx_map,List.map_map,Function.comp_def,Prod.map]
 rfl
theorem dK_len (o:DOp) (k:Int) (l:List Tm) (bd:Nat):(dK o k l bd).length=l.length:=by simp [dK]
theorem eK_len (o:DOp) (k:Int) (l:List Tm) (bd:Nat):(eK o k l bd).length=l.length:=by simp [eK]
theorem eS_len (o:DOp) (k:Int) (l:List (List C × List Tm)) (bd:Nat):(eS o k l bd).length=l.length:=by simp [eS]
theorem dK_get {o:DOp} {k:Int} {l:List Tm} {bd i:Nat} {x:Tm} (h:l[i]? = some x):(dK o k l bd)[i]? = some (dT o x (bd+bdK k i)):=by
 unfold dK;rw [List.getElem?_map,List.getElem?_zipIdx,h];simp
theorem eK_get {o:DOp} {k:Int} {l:List Tm} {bd i:Nat} {x:Tm} (h:l[i]? = some x):(eK o k l bd)[i]? = some (eT o x (bd+bdK k i)):=by
 unfold eK;rw [List.getElem?_map,List.getElem?_zipIdx,h];simp
theorem eS_get {o:DOp} {k:Int} {l:List (List C × List Tm)} {bd i:Nat} {x:List C × List Tm} (h:l[i]? = some x):(eS o k l bd)[i]? = some (eB o k x bd):=by
 unfold eS;rw [List.getElem?_map,h];rfl
def cN (o:DOp) (l:List (List C × List Tm)) (bd j:Nat):Nat:=((l.take j).filter fun b=>stayB o bd b.1).length
theorem cN_le (o:DOp) (l:List (List C × List Tm)) (bd j:Nat):cN o l bd j≤j:=Nat.le_trans (List.length_filter_le _ _) (by rw [List.length_take];omega)
theorem cN_end (o:DOp) (k:Int) (l:List (List C × List Tm)) (bd:Nat):cN o l bd l.length=(dS o k l bd).length:=by
 unfold cN dS;rw [List.take_of_length_le (Nat.le_refl _),List.length_map]
theorem cN_goes {o:DOp} {l:List (List C × List Tm)} {bd j:Nat} {b:List C × List Tm} (h:l[j]? = some b) (hs:stayB o bd b.1=false):cN o l bd (j+1)=cN o l bd j:=by
 unfold cN;rw [List.take_add_one,h];simp [List.filter_append,hs]
theorem cN_stays {o:DOp} {l:List (List C × List Tm)} {bd j:Nat} {b:List C × List Tm} (h:l[j]? = some b) (hs:stayB o bd b.1=true):cN o l bd (j+1)=cN o l bd j+1:=by
 unfold cN;rw [List.take_add_one,h];simp [List.filter_append,hs]
theorem dS_at {o:DOp} {k:Int} {l:List (List C × List Tm)} {bd j:Nat} {b:List C × List Tm} (h:l[j]? = some b) (hs:stayB o bd b.1=true):(dS o k l bd)[cN o l bd j]? = some (dB o k b bd):=by
 have hl:l=l.take j++b :: l.drop (j+1):=by
  have hj:=(List.getElem?_eq_some_iff.1 h).1
  rw [List.getElem?_eq_getElem hj] at h
  injection h with h
  rw [← h,List.getElem_cons_drop]
  exact (List.take_append_drop j l).symm
 unfold dS cN
 conv=>lhs;arg 1;rw [hl]
 rw [List.filter_append,List.map_append,List.getElem?_append_right (by simp)]
 simp [hs]
end Go.Proofs.YtpmmbfngogpinaaGreat
