/- What is applied, and to what. -/
import Derived.Test.YtahnbigkdfmpbaaGreatDoorZLay
import Derived.Test.YtahnbigkdfmpbaaGreatDoorIZB
import Derived.Test.YtahnbigkdfmpbaaGreatDoorISR
import Derived.Test.YtahnbigkdfmpbaaGreatDoorIPRow
set_option linter.unusedVariables false
set_option linter.unusedSimpArgs false
namespace Go.Proofs.YtahnbigkdfmpbaaGreatDoor
open Go.RowKit Go.Shelf Go.Lib
theorem are_two {ok:Nat→Sx→Bool} {t:Sx} {g k:Nat} (h:areB ok t.kids [g,k]=true):t.kids.length=2∧ok g (kd t 0)=true∧ok k (kd t 1)=true:=by
 unfold kd
 cases hk:t.kids with
 | nil=>rw [hk] at h;cases h
 | cons a l =>
  cases l with
  | nil=>rw [hk] at h;unfold areB at h;simp [areB] at h
  | cons b l =>
   cases l with
   | nil=>rw [hk] at h;simp [areB] at h;exact⟨rfl,h.1,h.2⟩
   | cons c l=>rw [hk] at h;simp [areB] at h
theorem are_one {ok:Nat→Sx→Bool} {t:Sx} {g:Nat} (h:areB ok t.kids [g]=true):t.kids.length=1∧ok g (kd t 0)=true:=by
 unfold kd
 cases hk:t.kids with
 | nil=>rw [hk] at h;cases h
 | cons a l =>
  cases l with
  | nil=>rw [hk] at h;simp [areB] at h;exact⟨rfl,h⟩
  | cons b l=>rw [hk] at h;simp [areB] at h
theorem ok_app {f:Nat} {t:Sx} (h:okF (f+1) 0 t=true) (hk:t.kind=6):t.kids.length=2∧okF f 0 (kd t 0)=true∧okF f 0 (kd t 1)=true:=by
 rw [okF_s] at h
 unfold okR termB at h
 rw [if_pos rfl,hk] at h
 simp at h
 exact are_two h.2
theorem kd_at {t:Sx} {j:Nat} (h:j<t.kids.length):t.kids[j]? = some (kd t j):=by
 unfold kd
 rw [List.getElem?_eq_getElem h,List.getD_eq_getElem?_getD,List.getElem?_eq_getElem h]
 rfl
structure Tv where
 k:Int
 nm:ByteArray
 ka:Option Addr
 kl:Nat
 kc:Nat
 na:Option Addr
 nl:Nat
 nc:Nat
 p:Int
instance:Inhabited Tv:=⟨⟨0,⟨#[]⟩,none,0,0,none,0,0,0⟩⟩
def encV (x:Tv):List Value:=[.int .i64 x.k,.string x.nm,.slice x.ka x.kl x.kc,.slice x.na x.nl x.nc,.int .i64 x.p]
theorem encV_len (x:Tv):(encV x).length=5:=rfl
theorem encV_one (x:Tv):∀ v∈encV x,v.oneCell'=true:=by
 intro v hv
 simp only [encV,List.mem_cons,List.not_mem_nil,or_false] at hv
 rcases hv with rfl|rfl|rfl|rfl|rfl <;> rfl
def flatV (d:List Tv):List Value:=d.flatMap encV
theorem flatV_at {d:List Tv} {j:Nat} {x:Tv} (h:d[j]? = some x) {i:Nat} (hi:i<5):(flatV d)[j*5+i]? = (encV x)[i]?:=by
 induction d generalizing j with
 | nil=>simp at h
 | cons y d ih =>
  unfold flatV at *
  rw [List.flatMap_cons]
  cases j with
  | zero =>
   obtain rfl:y=x:=by simpa using h
   rw [Nat.zero_mul,Nat.zero_add,List.getElem?_append_left (by rw [encV_len];exact hi)]
  | succ j =>
   rw [List.getElem?_append_right (by rw [encV_len];omega),encV_len,show (j+1) * 5+i - 5=j*5+i from by omega]
   exact ih (by simpa using h)
def Vals (n:Nat) (w:World) (l:List Sx) (d:List Tv):Prop:=d.length=l.length∧∀ (j:Nat) (x:Sx) (y:Tv),l[j]? = some x→d[j]? = some y→SxIn n w x (.agg (encV y).toArray)
theorem Vals.nil (n:Nat) (w:World):Vals n w [] []:=⟨rfl,fun j x y h=>by simp at h⟩
theorem Vals.keep {n:Nat} {w w':World} {l:List Sx} {d:List Tv} (h:Vals n w l d) (hb:Below n w w'):Vals n w' l d:=⟨h.1,fun j x y h1 h2=>(h.2 j x y h1 h2).keep hb⟩
theorem Vals.snoc {n:Nat} {w:World} {l:List Sx} {d:List Tv} (h:Vals n w l d) {x:Sx} {y:Tv} (hx:SxIn n w x (.agg (encV y).toArray)):Vals n w (l ++ [x]) (d ++ [y]):=by
 refine⟨by rw [List.length_append,List.length_append,h.1];rfl,fun j a b h1 h2=>?_⟩
 rcases Nat.lt_trichotomy j l.length with hj|hj|hj
 ·rw [List.getElem?_append_left hj] at h1
  rw [List.getElem?_append_left (by rw [h.1];exact hj)] at h2
  exact h.2 j a b h1 h2
 ·subst hj
  rw [List.getElem?_append_right (Nat.le_refl _),Nat.sub_self] at h1
  rw [List.getElem?_append_right (by rw [h.1];exact Nat.le_refl _),h.1,Nat.sub_self] at h2
  obtain rfl:x=a:=by simpa using h1
  obtain rfl:y=b:=by simpa using h2
  exact hx
 ·rw [List.getElem?_eq_none (by simp;omega)] at h1
  cases h1
theorem Vals.rev {n:Nat} {w:World} {l:List Sx} {d:List Tv} (h:Vals n w l d):Vals n w l.reverse d.reverse:=by
 refine⟨by simp [h.1],fun j a b h1 h2=>?_⟩
 have hj:j<l.length:=by simpa using (List.getElem?_eq_some_iff.1 h1).1
 rw [List.getElem?_reverse hj] at h1
 rw [List.getElem?_reverse (by rw [h.1];exact hj),h.1] at h2
 exact h.2 _ a b h1 h2
def AR (n lo:Nat) (w:World) (l:List Sx) (v:Value):Prop :=
 ∃ a cap,v=.slice a l.length cap∧l.length≤cap∧∀ (j:Nat) (x:Sx),l[j]? = some x→∃ g ka kc na nc,a=some ⟨g,0,none⟩∧lo≤g∧g<w.heap.size∧SxIn n w x (.agg #[.int .i64 x.kind,.string (bs x.name),.slice ka x.kids.length kc,.slice na x.names.length nc,.int .i64 x.at_]) ∧
  w.cell? ⟨g,j*5,none⟩=some (.int .i64 x.kind)∧w.cell? ⟨g,j*5+1,none⟩=some (.string (bs x.name))∧w.cell? ⟨g,j*5+2,none⟩=some (.slice ka x.kids.length kc)∧w.cell? ⟨g,j*5+3,none⟩=some (.slice na x.names.length nc)∧w.cell? ⟨g,j*5+4,none⟩=some (.int .i64 x.at_)
open Go.Sort in
theorem holdsV {w:World} {base g cap:Nat} {d:List Tv} (h:w.ownsRow base 26 5 (.slice (some ⟨g,0,none⟩) d.length cap) d.length (flatV d)):HoldsK encV 5 w g 0 d.toArray:=by
 intro t ht
 rw [size_flatK] at ht
 have hlen:d.toArray.size=d.length:=by simp
 rw [hlen] at ht
 refine⟨?_,World.ownsRow.frozenAt h _⟩
 have e1:=World.ownsRow.cellAt h t ht
 rw [Nat.zero_add,e1,get_flatK _ _ _ _ (by rw [hlen];exact ht)]
 have hj:t / 5<d.length:=by omega
 have e2:d.toArray[t / 5]! = d[t / 5]:=by rw [getElem!_pos _ _ (by simpa using hj)];simp
 rw [e2]
 have e3:t / 5*5+t % 5=t:=by omega
 have e4:=flatV_at (List.getElem?_eq_getElem hj) (i:=t % 5) (by omega)
 rw [e3] at e4
 rw [e4,List.getElem?_eq_getElem (by rw [encV_len];omega),getElem!_pos _ _ (by rw [encV_len];omega)]
 rfl
open Go.Sort in
theorem grownV {w:World} {g n:Nat} (d:Array Tv):w.grownBy (putRowK encV 5 (Sort.ahead w n) g 0 d) (some g):=by
 refine⟨rfl,rfl,rfl,by simp [putRowK,putRow,mapBlock,Sort.ahead],fun k hk hne=>?_⟩
 have:g≠k:=fun e=>hne (by rw [e])
 simp [putRowK,putRow,mapBlock,Sort.ahead,Array.getElem?_modify,this]
open Go.Sort in
theorem reverse_any (n lo:Nat) (l:List Sx) (d:List Tv) (v:Value) (w:World) (hl:l.length≤1000000) (hv:Vals n w l d) (h:w.ownsRow lo 26 5 v d.length (flatV d)) (hn:n≤lo) :
  Calls Tryz.prog 93 #[v] w fun e w'=>e=.returned (.tuple #[])∧AR n lo w' l.reverse v∧w.grownBy w' v.ownBlock:=by
 have h0:=h
 obtain⟨h1,⟨rfl,h2⟩ | ⟨g,cap,cur,rfl,hg,hh,r⟩⟩:=h
 ·refine (AnyQ.slices_Reverse_empty revT none 0 w).mono ?_
  rintro e w' ⟨rfl,rfl⟩
  obtain rfl:=List.length_eq_zero_iff.1 (hv.1.symm.trans h2)
  exact⟨rfl,⟨none,0,rfl,Nat.le_refl _,fun j x hx=>by simp at hx⟩,⟨rfl,rfl,rfl,Nat.le_refl _,fun _ _ _=>rfl⟩⟩
 ·have hH:=holdsV h0
  have hcon:=AnyQ.slices_Reverse revT 5 Tryz.isAgg26 Tryz.sizeOf26 encV encV_len encV_one g 0 cap d.toArray w hH (by have:=hv.1;simp;omega)
  have hlen:d.toArray.size=d.length:=by simp
  rw [hlen] at hcon
  refine hcon.mono ?_
  rintro e w' ⟨rfl,m,rfl⟩
  have hgr:=grownV (w:=w) (g:=g) (n:=m) d.toArray.reverse
  have hgw:g<w.heap.size:=(Array.getElem?_eq_some_iff.1 hh).1
  have hB:Below n w (putRowK encV 5 (Sort.ahead w m) g 0 d.toArray.reverse):=⟨hgr.os,hgr.tape,hgr.output,hgr.size,fun k hk=>hgr.block k (by omega) (fun e=>by injection e with e;omega)⟩
  have hR:HoldsK encV 5 (putRowK encV 5 (Sort.ahead w m) g 0 d.toArray.reverse) g 0 d.toArray.reverse:=by
   apply holdsK_putRowK (d0:=d.toArray)
   ·exact hH
   ·simp
  have hV:=(hv.keep hB).rev
  refine⟨rfl,⟨some ⟨g,0,none⟩,cap,by rw [List.length_reverse,hv.1],by rw [List.length_reverse,← hv.1];exact r.1,fun j x hx=>?_⟩,hgr⟩
  obtain⟨y,hy⟩:=someS (l:=d.reverse) (k:=j) (by rw [hV.1];exact (List.getElem?_eq_some_iff.1 hx).1)
  have hS:=hV.2 j x y hx hy
  obtain⟨ka,kc,na,nc,e,_,_⟩:=hS.form
  have hjd:j<d.toArray.reverse.size:=by have:=(List.getElem?_eq_some_iff.1 hy).1;simpa using this
  have ey:d.toArray.reverse[j]! = y:=by
   rw [getElem!_pos d.toArray.reverse j hjd]
   have:=(List.getElem?_eq_some_iff.1 hy).2
   simpa using this
  have cc:∀ c,c<5→(putRowK encV 5 (Sort.ahead w m) g 0 d.toArray.reverse).cell? ⟨g,j*5+c,none⟩=some (encV y)[c]!:=fun c hc=>by
   have:=(hR.cell hjd hc).1
   rw [ey,Nat.zero_add] at this
   exact this
  have c0:=cc 0 (by omega)
  have c1:=cc 1 (by omega)
  have c2:=cc 2 (by omega)
  have c3:=cc 3 (by omega)
  have c4:=cc 4 (by omega)
  unfold encV at e c0 c1 c2 c3 c4
  simp only [Value.agg.injEq,List.toArray_inj,Array.mk.injEq,List.cons.injEq,and_true] at e
  obtain⟨e0,e1,e2,e3,e4⟩:=e
  refine⟨g,ka,kc,na,nc,rfl,hg,Nat.lt_of_lt_of_le hgw hgr.size,?_,c0.trans (congrArg some e0),c1.trans (congrArg some e1),c2.trans (congrArg some e2),c3.trans (congrArg some e3),c4.trans (congrArg some e4)⟩
  rw [← e0,← e1,← e2,← e3,← e4]
  exact hS
structure SpI (n f s:Nat) (t:Sx) (w:World) (kk:Nat) (va:Value) (wr:World) (c:Sx) (ka:Option Addr) (kc:Nat) (na:Option Addr) (nc:Nat) (done:List Sx) (d:List Tv):Prop where
 box:Bx wr s (.int .i64 c.kind) (.string (bs c.name)) (.slice ka c.kids.length kc) (.slice na c.names.length nc) (.int .i64 c.at_)
 res:Bx wr (s+1) (.int .i64 0) (.string ⟨#[]⟩) (.slice none 0 0) (.slice none 0 0) (.int .i64 0)
 cur:SxIn n wr c (.agg #[.int .i64 c.kind,.string (bs c.name),.slice ka c.kids.length kc,.slice na c.names.length nc,.int .i64 c.at_])
 ok:okF kk 0 c=true
 eq:spineR f t=((spineR kk c).1,done++(spineR kk c).2)
 vals:Vals n wr done d
 row:wr.ownsRow (s+2) 26 5 va d.length (flatV d)
 old:Below s w wr
 size:s+2≤wr.heap.size
 few:done.length+kk≤f
theorem pu5_block (w:World) (x:Nat) (v0 v1 v2 v3 v4:Value) {k:Nat} (h:k≠x):(pu5 w x v0 v1 v2 v3 v4).heap[k]? = w.heap[k]?:=by
 unfold pu5
 rw [Below.heap_setCell _ _ _ _ h,Below.heap_setCell _ _ _ _ h,Below.heap_setCell _ _ _ _ h,Below.heap_setCell _ _ _ _ h,Below.heap_setCell _ _ _ _ h]
theorem pu5_kn {w:World} {x:Nat} {v0 v1 v2 v3 v4:Value}:Kn (fun g=>g≠x) w (pu5 w x v0 v1 v2 v3 v4):=(((((Kn.refl _ w).setCell (p:=⟨x,0,none⟩) (.inl fun h=>h rfl) v0).setCell (p:=⟨x,1,none⟩) (.inl fun h=>h rfl) v1).setCell (p:=⟨x,2,none⟩) (.inl fun h=>h rfl) v2).setCell (p:=⟨x,3,none⟩) (.inl fun h=>h rfl) v3).setCell (p:=⟨x,4,none⟩) (.inl fun h=>h rfl) v4
theorem Bx.put {w:World} {x:Nat} {o0 o1 o2 o3 o4:Value} (h:Bx w x o0 o1 o2 o3 o4) (v0 v1 v2 v3 v4:Value):Bx (pu5 w x v0 v1 v2 v3 v4) x v0 v1 v2 v3 v4:=by
 unfold Bx at h ⊢
 simp [pu5,World.setCell,Array.getElem?_modify,h]
theorem Bx.cold {w:World} {x:Nat} {v0 v1 v2 v3 v4:Value} (h:Bx w x v0 v1 v2 v3 v4) (i:Nat):w.frozen? ⟨x,i,none⟩=false:=by
 unfold Bx at h
 simp [World.frozen?,h]
theorem Bx.kn {No:Nat→Prop} {x:Nat} {w w':World} {v0 v1 v2 v3 v4:Value} (h:Bx w x v0 v1 v2 v3 v4) (hk:Kn No w w') (hx:No x):Bx w' x v0 v1 v2 v3 v4:=(hk.block x hx h.lt).trans h
theorem spine_s (f:Nat) (t:Sx) (h:t.kind=6):spineR (f+1) t=((spineR f (kd t 0)).1,kd t 1 :: (spineR f (kd t 0)).2):=by
 show (if t.kind=6 then _ else _)=_
 rw [if_pos h]
theorem spine_e (f:Nat) (t:Sx) (h:t.kind≠6):spineR f t=(t,[]):=by
 cases f with
 | zero=>rfl
 | succ f=>show (if t.kind=6 then _ else _)=_;rw [if_neg h]
theorem flatV_snoc (d:List Tv) (y:Tv):flatV (d ++ [y])=flatV d++encV y:=by simp [flatV]
theorem SpI.step {n f s:Nat} {t:Sx} {w:World} {m:Nat} {va:Value} {wr:World} {c:Sx} {ka:Option Addr} {kc:Nat} {na:Option Addr} {nc:Nat} {done:List Sx} {d:List Tv} (h:SpI n f s t w (m+1) va wr c ka kc na nc done d) (hn:n≤s) (h6:c.kind=6) (ok0:okF m 0 (kd c 0)=true)
  {w1:World} {v':Value} {y:Tv} (hy:SxIn n wr (kd c 1) (.agg (encV y).toArray)) (hb:Below (s+2) wr w1) (hown:w1.ownsRow (s+2) 26 5 v' (d.length+1) (flatV d++encV y)) {ka0:Option Addr} {kc0:Nat} {na0:Option Addr} {nc0:Nat}
  (hz:SxIn n wr (kd c 0) (.agg #[.int .i64 (kd c 0).kind,.string (bs (kd c 0).name),.slice ka0 (kd c 0).kids.length kc0,.slice na0 (kd c 0).names.length nc0,.int .i64 (kd c 0).at_])) :
  SpI n f s t w m v' (pu5 w1 s (.int .i64 (kd c 0).kind) (.string (bs (kd c 0).name)) (.slice ka0 (kd c 0).kids.length kc0) (.slice na0 (kd c 0).names.length nc0) (.int .i64 (kd c 0).at_)) (kd c 0) ka0 kc0 na0 nc0 (done ++ [kd c 1]) (d ++ [y]):=by
 have hsz:=h.size
 have k1:Kn (fun g=>g<s+2) wr w1:=⟨hb.os,hb.tape,hb.output,hb.size,fun k hk _=>hb.block k hk⟩
 have k2:Kn (fun g=>g<s+2∧g≠s) wr (pu5 w1 s (.int .i64 (kd c 0).kind) (.string (bs (kd c 0).name)) (.slice ka0 (kd c 0).kids.length kc0) (.slice na0 (kd c 0).names.length nc0) (.int .i64 (kd c 0).at_)):=(k1.sub fun g h=>h.1).trans (pu5_kn.sub fun g h=>h.2)
 have hB:Below s wr (pu5 w1 s (.int .i64 (kd c 0).kind) (.string (bs (kd c 0).name)) (.slice ka0 (kd c 0).kids.length kc0) (.slice na0 (kd c 0).names.length nc0) (.int .i64 (kd c 0).at_)):=k2.below (fun g hg=>⟨by omega,by omega⟩) (by omega)
 refine⟨(h.box.kn k1 (by omega)).put _ _ _ _ _,h.res.kn k2 ⟨by omega,by omega⟩,hz.keep (hB.mono hn),ok0,?_,(h.vals.keep (hB.mono hn)).snoc (hy.keep (hB.mono hn)),?_,h.old.trans hB,Nat.le_trans hsz k2.size,by rw [List.length_append];have:=h.few;simp;omega⟩
 ·rw [h.eq,spine_s m c h6]
  simp
 ·rw [flatV_snoc,List.length_append]
  exact owns_keep hown fun g hg=>pu5_block _ _ _ _ _ _ _ (by have:=(World.ownsRow.lt hown g hg).1;omega)
theorem AR.kn {No:Nat→Prop} {n lo:Nat} {w w':World} {l:List Sx} {v:Value} (h:AR n lo w l v) (hk:Kn No w w') (hb:Below n w w') (hN:∀ g,v.ownBlock=some g→No g):AR n lo w' l v:=by
 obtain⟨a,cap,rfl,h1,h2⟩:=h
 refine⟨a,cap,rfl,h1,fun j x hx=>?_⟩
 obtain⟨g,ka,kc,na,nc,rfl,e1,e2,e3,c0,c1,c2,c3,c4⟩:=h2 j x hx
 have c:=fun i=>hk.cell (p:=⟨g,i,none⟩) (hN g rfl) e2
 exact⟨g,ka,kc,na,nc,rfl,e1,Nat.lt_of_lt_of_le e2 hk.size,e3.keep hb,(c _).trans c0,(c _).trans c1,(c _).trans c2,(c _).trans c3,(c _).trans c4⟩
theorem SpI.last {n f s:Nat} {t:Sx} {w:World} {kk:Nat} {va:Value} {wr:World} {c:Sx} {ka:Option Addr} {kc:Nat} {na:Option Addr} {nc:Nat} {done:List Sx} {d:List Tv} (h:SpI n f s t w kk va wr c ka kc na nc done d) (hn:n≤s) {u:Value} (hob:∀ k,u.ownBlock=some k→s+2≤k) {w1:World} (hgr:wr.grownBy w1 u.ownBlock) :
  Bx w1 s (.int .i64 c.kind) (.string (bs c.name)) (.slice ka c.kids.length kc) (.slice na c.names.length nc) (.int .i64 c.at_)∧Bx w1 (s+1) (.int .i64 0) (.string ⟨#[]⟩) (.slice none 0 0) (.slice none 0 0) (.int .i64 0)∧True∧True∧True ∧
  ∀ w2,w2=pu5 w1 (s+1) (.int .i64 c.kind) (.string (bs c.name)) (.slice ka c.kids.length kc) (.slice na c.names.length nc) (.int .i64 c.at_) →
   Bx w2 (s+1) (.int .i64 c.kind) (.string (bs c.name)) (.slice ka c.kids.length kc) (.slice na c.names.length nc) (.int .i64 c.at_)∧SxIn n w2 c (.agg #[.int .i64 c.kind,.string (bs c.name),.slice ka c.kids.length kc,.slice na c.names.length nc,.int .i64 c.at_])∧Below s w w2∧∀ l,AR n (s+2) w1 l u→AR n s w2 l u:=by
 have hsz:=h.size
 have k1:Kn (fun g=>g<s+2) wr w1:=⟨hgr.os,hgr.tape,hgr.output,hgr.size,fun k hk hl=>hgr.block k hl fun e=>by have:=hob k e.symm;omega⟩
 refine⟨h.box.kn k1 (by omega),h.res.kn k1 (by omega),trivial,trivial,trivial,fun w2 e=>?_⟩
 have k2:Kn (fun g=>g≠s+1) w1 w2:=by rw [e];exact pu5_kn
 have k3:Kn (fun g=>g<s+1) wr w2:=(k1.sub fun g h=>by omega).trans (k2.sub fun g h=>by omega)
 have hs1:s+2≤w1.heap.size:=Nat.le_trans hsz k1.size
 have hB:Below s wr w2:=k3.below (fun g hg=>by omega) (by omega)
 refine⟨by rw [e];exact (h.res.kn k1 (by omega)).put _ _ _ _ _,h.cur.keep (hB.mono hn),h.old.trans hB,fun l hl=>?_⟩
 have h2:=hl.kn k2 (k2.below (fun g hg=>by omega) (by omega)) (fun g hg=>by have:=hob g hg;omega)
 obtain⟨a,cap,e1,e2,e3⟩:=h2
 refine⟨a,cap,e1,e2,fun j x hx=>?_⟩
 obtain⟨g,ka,kc,na,nc,a1,a2,a3⟩:=e3 j x hx
 exact⟨g,ka,kc,na,nc,a1,by omega,a3⟩
set_option maxRecDepth 100000 in
set_option maxHeartbeats 4000000 in
theorem spine_any (f n:Nat) (t:Sx) (v:Value) (w:World) (h:SxIn n w t v) (hn:n≤w.heap.size) (hok:okF f 0 t=true) (hf:f≤1000000) :
  Calls Tryz.prog 73 #[v] w fun e w'=>∃ vf va,e=.returned (.tuple #[vf,va])∧SxIn n w' (spineR f t).1 vf∧AR n w.heap.size w' (spineR f t).2.reverse va∧Below w.heap.size w w':=by
 obtain⟨ka,kc,na,nc,rfl,hN,hK⟩:=h.form
 obtain⟨i0,hi,hz0,hz1,hz2⟩:=info_parts Tryz.infoTree
 have I0:∀ w2,w2=(w.alloc (.cells #[.int .i64 t.kind,.string (bs t.name),.slice ka t.kids.length kc,.slice na t.names.length nc,.int .i64 t.at_] 26)).alloc (.cells #[.int .i64 0,.string ⟨#[]⟩,.slice none 0 0,.slice none 0 0,.int .i64 0] 26)→SpI n f w.heap.size t w f (.slice none 0 0) w2 t ka kc na nc [] []:=by
  intro w2 e
  obtain⟨w1,h1⟩:∃ w1,w1=w.alloc (.cells #[.int .i64 t.kind,.string (bs t.name),.slice ka t.kids.length kc,.slice na t.names.length nc,.int .i64 t.at_] 26):=⟨_,rfl⟩
  rw [← h1] at e
  have b1:Below w.heap.size w w1:=by rw [h1];exact below_alloc _ _
  have b2:Below w1.heap.size w1 w2:=by rw [e];exact below_alloc _ _
  have s1:w1.heap.size=w.heap.size+1:=by rw [h1];simp
  have b3:=b1.trans (b2.mono b1.size)
  have x1:Bx w1 w.heap.size (.int .i64 t.kind) (.string (bs t.name)) (.slice ka t.kids.length kc) (.slice na t.names.length nc) (.int .i64 t.at_):=by rw [h1];exact bx_new _ _ _ _ _ _
  refine⟨x1.blw b2,?_,h.keep (b3.mono hn),hok,rfl,Vals.nil _ _,World.ownsRow_nil _ _ _ _,b3,by rw [e];simp [s1],by simp⟩
  rw [e,← s1]
  exact bx_new _ _ _ _ _ _
 obtain⟨s,hs⟩:∃ s,s=w.heap.size:=⟨_,rfl⟩
 rw [← hs] at I0 hn ⊢
 have Hs:Hid (s=w.heap.size):=hs
 have H0:Hid (∀ w2,w2=(w.alloc (.cells #[.int .i64 t.kind,.string (bs t.name),.slice ka t.kids.length kc,.slice na t.names.length nc,.int .i64 t.at_] 26)).alloc (.cells #[.int .i64 0,.string ⟨#[]⟩,.slice none 0 0,.slice none 0 0,.int .i64 0] 26)→SpI n f s t w f (.slice none 0 0) w2 t ka kc na nc [] []):=I0
 clear I0 hok h hN hK
 go_enter Tryz.func73,Tryz.ntmps73
 go_wp2
 simp only [← hs]
 clear hs
 go_loopg [3] f (fun q va wr=>∃ kk c ka kc na nc done d a cap,kk≤q∧va=.slice a d.length cap∧SpI n f s t w kk (.slice a d.length cap) wr c ka kc na nc done d)
 case atStart=>exact⟨f,t,ka,kc,na,nc,[],[],none,0,Nat.le_refl _,rfl,H0.out _ rfl⟩
 case round =>
  clear H0
  obtain⟨kk,c,ka,kc,na,nc,done,d,a,cap,hkq,rfl,hI⟩:=hrel
  obtain⟨x0,x1,x2,x3,x4⟩:=hI.box.cells
  by_cases h6:c.kind=6
  ·obtain⟨m,rfl⟩:∃ m,kk=m+1:=by
    cases kk with
    | zero=>have:=hI.ok;rw [okF_z] at this;cases this
    | succ m=>exact⟨m,rfl⟩
   obtain⟨hl2,ok0,ok1⟩:=ok_app hI.ok h6
   obtain⟨a',c',na',nc',e,_,hKd⟩:=hI.cur.form
   simp only [Value.agg.injEq,Array.mk.injEq,List.cons.injEq,Value.slice.injEq,and_true,true_and] at e
   obtain⟨⟨rfl,rfl⟩,rfl,rfl⟩:=e
   obtain⟨g,off,ka1,kc1,na1,nc1,rfl,hg,hy,y0,y1,y2,y3,y4⟩:=hKd.at (kd_at (t:=c) (j:=1) (by omega))
   obtain⟨g',off',ka0,kc0,na0,nc0,e,hg',hz,z0,z1,z2,z3,z4⟩:=hKd.at (kd_at (t:=c) (j:=0) (by omega))
   obtain⟨rfl,rfl⟩:g=g'∧off=off':=by
    injection e with e
    injection e with e1 e2
    exact⟨e1,e2⟩
   clear e hg'
   rw [h6] at x0
   rw [hl2] at x2
   simp only [Nat.one_mul,Nat.zero_mul,Nat.add_zero,Nat.add_assoc,Nat.reduceAdd] at y0 y1 y2 y3 y4 z0 z1 z2 z3 z4
   have hrow:=hI.row
   have hsz:=hI.size
   have hdl:d.length≤1000000:=by have:=hI.few;have:=hI.vals.1;omega
   have HI:Hid (SpI n f s t w (m+1) (.slice a d.length cap) wr c (some ⟨g,off,none⟩) kc na nc done d):=hI
   clear hI hKd
   generalize hY:kd c 1=Y at *
   generalize hZ:kd c 0=Z at *
   have q:=below_alloc wr (.cells #[.int .i64 Y.kind,.string (bs Y.name),.slice ka1 Y.kids.length kc1,.slice na1 Y.names.length nc1,.int .i64 Y.at_] 26)
   have hrow2:=hrow.alloc (.cells #[.int .i64 Y.kind,.string (bs Y.name),.slice ka1 Y.kids.length kc1,.slice na1 Y.names.length nc1,.int .i64 Y.at_] 26)
   obtain⟨L,hL⟩:∃ L,L=d.length:=⟨_,rfl⟩
   rw [← hL] at hrow hrow2 hdl HI
   simp only [← hL]
   have HL:Hid (L=d.length):=hL
   clear hL
   go_wp2_with (at_builtin;refine wpList_append_own _ rfl _ _ 24 rfl (s+2) 26 i0 _ 5 80 Tryz.underlying24 hi hz0 hz1 hz2 rfl (by decide) _ _ _ rfl hrow2 ⟨_,0,none⟩ 1 1 [.int .i64 Y.kind,.string (bs Y.name),.slice ka1 Y.kids.length kc1,.slice na1 Y.names.length nc1,.int .i64 Y.at_] rfl rfl (fun j u hj=>by rw [Addr.add_lit,Nat.zero_add];exact new_cell _ _ _ _ j u rfl hj) (encV_one ⟨Y.kind,bs Y.name,ka1,Y.kids.length,kc1,na1,Y.names.length,nc1,Y.at_⟩) (by unfold maxLen;omega) (by omega) (by simp;omega) ?_)
   intro v' w1 hown hgr _
   obtain⟨g1,cap1,rfl⟩:∃ g1 cap1,v'=.slice (some ⟨g1,0,none⟩) (L+1) cap1:=by
    obtain⟨_,⟨_,h0⟩ | ⟨g1,cap1,cur,e,_⟩⟩:=id hown
    ·omega
    ·exact⟨g1,cap1,e⟩
   have hb1:Below (s+2) wr w1:=(q.mono hsz).trans ⟨hgr.os,hgr.tape,hgr.output,hgr.size,fun k hk=>hgr.block k (by have:=q.size;omega) (fun e=>by have:=(World.ownsRow.lt hrow2 k e.symm).1;omega)⟩
   have bx1:=HI.out.box.kn (No:=fun g=>g<s+2) ⟨hb1.os,hb1.tape,hb1.output,hb1.size,fun k hk _=>hb1.block k hk⟩ (by omega)
   rw [h6,hl2] at bx1
   obtain⟨b0,b1,b2,b3,b4⟩:=bx1.cells
   have f0:=bx1.cold 0
   have f1:=bx1.cold 1
   have f2:=bx1.cold 2
   have f3:=bx1.cold 3
   have f4:=bx1.cold 4
   have hgs:g<s+2:=by omega
   have e0:=(hb1.cell (p:=⟨g,off,none⟩) hgs).trans z0
   have e1:=(hb1.cell (p:=⟨g,off+1,none⟩) hgs).trans z1
   have e2:=(hb1.cell (p:=⟨g,off+2,none⟩) hgs).trans z2
   have e3:=(hb1.cell (p:=⟨g,off+3,none⟩) hgs).trans z3
   have e4:=(hb1.cell (p:=⟨g,off+4,none⟩) hgs).trans z4
   have HN:Hid (SpI n f s t w m (.slice (some ⟨g1,0,none⟩) (L+1) cap1) (pu5 w1 s (.int .i64 Z.kind) (.string (bs Z.name)) (.slice ka0 Z.kids.length kc0) (.slice na0 Z.names.length nc0) (.int .i64 Z.at_)) Z ka0 kc0 na0 nc0 (done ++ [Y]) (d ++ [⟨Y.kind,bs Y.name,ka1,Y.kids.length,kc1,na1,Y.names.length,nc1,Y.at_⟩])):=by
    rw [← hY,← hZ] at *
    have HH:=HI.out
    rw [HL.out] at HH hown
    rw [HL.out]
    exact HH.step (y:=⟨(kd c 1).kind,bs (kd c 1).name,ka1,(kd c 1).kids.length,kc1,na1,(kd c 1).names.length,nc1,(kd c 1).at_⟩) hn h6 ok0 hy hb1 hown hz
   have HL2:Hid (L+1=(d ++ [(⟨Y.kind,bs Y.name,ka1,Y.kids.length,kc1,na1,Y.names.length,nc1,Y.at_⟩:Tv)]).length):=by
    show _=_
    rw [List.length_append,HL.out]
    rfl
   clear hown hgr hrow hrow2 x0 x1 x2 x3 x4 y0 y1 y2 y3 y4 z0 z1 z2 z3 z4 q HI hy hz ok0 ok1 hb1 bx1
   go_wp2
   go_roundg m
   case rel=>exact⟨m,Z,ka0,kc0,na0,nc0,done ++ [Y],_,some ⟨g1,0,none⟩,cap1,Nat.le_refl _,by rw [← HL2.out],by rw [← HL2.out];exact HN.out⟩
   case measure=>omega
  ·have hne:¬ (c.kind=6):=h6
   have hsp:=hI.eq
   rw [spine_e kk c h6] at hsp
   have hrow:=hI.row
   have hvs:=hI.vals
   have hsz:=hI.size
   have hfew:=hI.few
   have HI:Hid (SpI n f s t w kk (.slice a d.length cap) wr c ka kc na nc done d):=hI
   have hrv:=reverse_any n (s+2) done d _ wr (by omega) hvs hrow (by omega)
   have hob:∀ k,(Value.slice a d.length cap).ownBlock=some k→s+2≤k:=fun k hk=>(World.ownsRow.lt hrow k hk).1
   obtain⟨L,hL⟩:∃ L,L=d.length:=⟨_,rfl⟩
   rw [← hL] at hrv hob
   simp only [← hL]
   clear hI hrow hvs hL
   go_wp2_with (go_at_call 93;refine hrv.mono ?_;rintro e w1 ⟨rfl,hAR,hgr⟩;obtain⟨r0,r1,r2,r3,r4,hr⟩:=HI.out.last hn hob hgr;obtain⟨b0,b1,b2,b3,b4⟩:=r0.cells;obtain⟨a0,a1,a2,a3,a4⟩:=r1.cells;have f0:=r1.cold 0;have f1:=r1.cold 1;have f2:=r1.cold 2;have f3:=r1.cold 3;have f4:=r1.cold 4)
   obtain⟨w2,hw2⟩:∃ w2,w2=((((w1.setCell ⟨s+1,0,none⟩ (.int .i64 c.kind)).setCell ⟨s+1,1,none⟩ (.string (bs c.name))).setCell ⟨s+1,2,none⟩ (.slice ka c.kids.length kc)).setCell ⟨s+1,3,none⟩ (.slice na c.names.length nc)).setCell ⟨s+1,4,none⟩ (.int .i64 c.at_):=⟨_,rfl⟩
   obtain⟨q0,q1,q2,q3⟩:=hr w2 hw2
   rw [← hw2]
   obtain⟨g0,g1,g2,g3,g4⟩:=q0.cells
   refine⟨rfl,.tuple #[.agg #[.int .i64 c.kind,.string (bs c.name),.slice ka c.kids.length kc,.slice na c.names.length nc,.int .i64 c.at_],.slice a L cap],by simp only [results,Tryz.results73];simp [go_sem,g0,g1,g2,g3,g4],_,_,rfl,?_,?_,q2⟩
   ·rw [hsp];exact q1
   ·rw [hsp,List.append_nil];exact q3 _ hAR
end Go.Proofs.YtahnbigkdfmpbaaGreatDoor
