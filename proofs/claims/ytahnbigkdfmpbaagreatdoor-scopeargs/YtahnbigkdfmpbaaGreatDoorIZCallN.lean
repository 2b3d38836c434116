/- A word with arguments that are terms. -/
import Derived.Test.YtahnbigkdfmpbaaGreatDoorIZAppl
import Derived.Test.YtahnbigkdfmpbaaGreatDoorIZJ
set_option linter.unusedVariables false
set_option linter.unusedSimpArgs false
namespace Go.Proofs.YtahnbigkdfmpbaaGreatDoor
open Go.RowKit Go.Maps Go.WideMaps
structure Tq where
 u0:Value
 u1:Value
 u2:Value
 u3:Value
 u4:Value
 u5:Value
def encQ (y:Tq):List Value:=[y.u0,y.u1,y.u2,y.u3,y.u4,y.u5]
def flatQ (d:List Tq):List Value:=(d.map encQ).flatten
theorem flatQ_snoc (d:List Tq) (y:Tq):flatQ (d ++ [y])=flatQ d++encQ y:=by simp [flatQ]
theorem flatQ_get {d:List Tq} {j:Nat} {y:Tq} (h:d[j]? = some y) {i:Nat} (hi:i<6):(flatQ d)[j*6+i]? = (encQ y)[i]?:=by
 induction d generalizing j with
 | nil=>simp at h
 | cons x d ih =>
  have e:flatQ (x :: d)=encQ x++flatQ d:=rfl
  have hl:(encQ x).length=6:=rfl
  rw [e]
  cases j with
  | zero =>
   simp only [List.getElem?_cons_zero,Option.some.injEq] at h
   subst h
   rw [List.getElem?_append_left (by omega)]
   congr 1
   omega
  | succ j =>
   rw [List.getElem?_append_right (by omega),hl]
   rw [List.getElem?_cons_succ] at h
   have:=ih h
   rw [← this]
   congr 1
   omega
def ValsQ (ok:Nat→Prop) (w:World) (l:List Tm) (d:List Tq):Prop:=d.length=l.length∧∀ (j:Nat) (x:Tm) (y:Tq),l[j]? = some x→d[j]? = some y→TmIn ok w x (.agg (encQ y).toArray)
theorem ValsQ.keep {ok ok':Nat→Prop} {w w':World} {l:List Tm} {d:List Tq} (h:ValsQ ok w l d) (hs:w.heap.size≤w'.heap.size) (ho:∀ g,ok g→ok' g) (hb:∀ g,ok g→g<w.heap.size→w'.heap[g]? = w.heap[g]?):ValsQ ok' w' l d:=⟨h.1,fun j x y h1 h2=>(h.2 j x y h1 h2).keep hs ho hb⟩
theorem ValsQ.snoc {ok:Nat→Prop} {w:World} {l:List Tm} {d:List Tq} (h:ValsQ ok w l d) {x:Tm} {y:Tq} (hx:TmIn ok w x (.agg (encQ y).toArray)):ValsQ ok w (l ++ [x]) (d ++ [y]):=by
 refine⟨by rw [List.length_append,List.length_append,h.1];rfl,fun j a b h1 h2=>?_⟩
 rcases Nat.lt_trichotomy j l.length with hj|hj|hj
 ·rw [List.getElem?_append_left hj] at h1
  rw [List.getElem?_append_left (by rw [h.1];exact hj)] at h2
  exact h.2 j a b h1 h2
 ·subst hj
  rw [List.getElem?_append_right (Nat.le_refl _),Nat.sub_self] at h1
  rw [List.getElem?_append_right (by rw [h.1];exact Nat.le_refl _),h.1,Nat.sub_self] at h2
  simp only [List.getElem?_cons_zero,Option.some.injEq] at h1 h2
  subst h1 h2
  exact hx
 ·rw [List.getElem?_eq_none (by rw [List.length_append];simp;omega)] at h1
  cases h1
open Go.Sort in
theorem kdt_row {ok:Nat→Prop} {w:World} {base:Nat} {l:List Tm} {d:List Tq} {v:Value} (h:w.ownsRow base 37 6 v d.length (flatQ d)) (hv:ValsQ ok w l d) (hok:∀ g,v.ownBlock=some g→ok g):KdT ok w (TmIn ok w) l v:=by
 have h0:=h
 obtain⟨h1,⟨rfl,h2⟩ | ⟨g,cap,cur,rfl,hg,hh,hn,hc,hs,ht⟩⟩:=h
 ·have e:l=[]:=List.length_eq_zero_iff.1 (hv.1.symm.trans h2)
  subst e
  exact kt_nil _ _ _
 ·rw [hv.1]
  rw [hv.1] at hn
  refine⟨_,_,rfl,hn,fun j x hx=>?_⟩
  obtain⟨y,hy⟩:∃ y,d[j]? = some y:=⟨_,List.getElem?_eq_getElem (by rw [hv.1];exact (List.getElem?_eq_some_iff.1 hx).1)⟩
  have hT:=hv.2 j x y hx hy
  have cc:∀ i v,i<6→(encQ y)[i]? = some v→w.cell? ⟨g,0+j*6+i,none⟩=some v:=fun i v hi hiv=>by
   rw [Nat.zero_add]
   have hjl:=(List.getElem?_eq_some_iff.1 hy).1
   rw [World.ownsRow.cellAt h0 (j*6+i) (by omega),flatQ_get hy hi]
   exact hiv
  have lt:=(World.ownsRow.lt h0 g rfl).2
  exact⟨g,0,y.u0,y.u1,y.u2,y.u3,y.u4,y.u5,rfl,hok g rfl,lt,hT,by simpa using cc 0 _ (by omega) rfl,cc 1 _ (by omega) rfl,cc 2 _ (by omega) rfl,cc 3 _ (by omega) rfl,cc 4 _ (by omega) rfl,cc 5 _ (by omega) rfl⟩
theorem Tryz.infoTerm:(Tryz.prog.info? 37).map (fun i=>(i.zero,i.size,i.bytes))=some (some (.agg #[.int .i64 0,.int .i64 0,.string ByteArray.empty,.slice none 0 0,.slice none 0 0,.slice none 0 0]),6,104):=by kernel_rfl
theorem Tx.put4 {w:World} {x:Nat} {o0 o1 o2 o3 o4 o5:Value} (h:Tx w x o0 o1 o2 o3 o4 o5) (v4:Value):Tx (w.setCell ⟨x,4,none⟩ v4) x o0 o1 o2 o3 v4 o5:=by
 unfold Tx at h ⊢
 simp [World.setCell,Array.getElem?_modify,h]
theorem Rsv.grown {R:Rsv} {w w':World} {σ:Sg} {n:Nat} {No:Nat→Prop} {row:Option Nat} (h:R.In w σ n) (hs:R.Sh w No) (hg:w.grownBy w' row) (hrow:∀ g,row=some g→No g∧R.bv≤g):R.In w' σ n∧R.Sh w' No:=by
 cases row with
 | none =>
  have hb:Below w.heap.size w w':=⟨hg.os,hg.tape,hg.output,hg.size,fun k hk=>hg.block k hk (by simp)⟩
  exact⟨h.keep hb,hs.keep h hb⟩
 | some x =>
  obtain⟨h1,h2⟩:=hrow x rfl
  exact h.off hs h1 h2 ⟨hg.os,hg.tape,hg.output,hg.size,fun k hk hb=>hg.block k hb (fun e=>hk (by injection e))⟩
theorem Rsv.Sh.grownMore {R:Rsv} {w w':World} {σ:Sg} {n:Nat} {No:Nat→Prop} {row:Option Nat} (h:R.In w σ n) (hs0:R.Sh w No) (hs:R.Sh w' No) (hg:w.grownBy w' row) (hrow:∀ g,row=some g→No g):R.Sh w' (fun g=>No g∨(w.heap.size≤g∧g<w'.heap.size)):=by
 have ev:w'.heap[R.bv]? = w.heap[R.bv]?:=hg.block _ h.vs.lt (fun e=>hs0.bv (hrow _ e.symm))
 have ed:w'.heap[R.bd]? = w.heap[R.bd]?:=hg.block _ h.ds.lt (fun e=>hs0.bd (hrow _ e.symm))
 have lr:=h.rlt
 have lv:=h.vs.lt
 have ld:=h.ds.lt
 refine⟨fun es clock hb x hx g hgx hN=>?_,fun es clock hb x hx g hgx hN=>?_,?_,?_,?_,?_,fun g hg=>.inl (hs.old g hg)⟩
 ·rcases hN with hN|hN
  ·exact hs.v es clock hb x hx g hgx hN
  ·have:=(RB.lt h.vs ⟨es,clock,x,ev.symm.trans hb,hx,hgx⟩).2.1
   omega
 ·rcases hN with hN|hN
  ·exact hs.d es clock hb x hx g hgx hN
  ·have:=(RB.lt h.ds ⟨es,clock,x,ed.symm.trans hb,hx,hgx⟩).2.1
   omega
 ·rintro (e | e)
  ·exact hs.r e
  ·omega
 ·rintro (e | e)
  ·exact hs.bv e
  ·omega
 ·rintro (e | e)
  ·exact hs.bd e
  ·omega
 ·rintro g (e | e)
  ·exact hs.lt g e
  ·exact e.2
structure ClI (R:Rsv) (σ:Sg) (n s k:Nat) (No:Nat→Prop) (w:World) (acc:List Tm) (d:List Tq) (qa:Option Addr) (qc:Nat) (ok:Nat→Prop) (wr:World):Prop where
 wx:Tx wr (s+2) (.int .i64 (k:Nat)) (.int .i64 0) (.string ⟨#[]⟩) (.slice none 0 0) (.slice qa d.length qc) (.slice none 0 0)
 tx:Tx wr (s+1) (.int .i64 0) (.int .i64 0) (.string ⟨#[]⟩) (.slice none 0 0) (.slice none 0 0) (.slice none 0 0)
 row:wr.ownsRow (s+3) 37 6 (.slice qa d.length qc) d.length (flatQ d)
 vals:ValsQ ok wr acc d
 own:∀ g,(Value.slice qa d.length qc).ownBlock=some g→¬ ok g
 okb:∀ g,ok g→s+3≤g∧g<wr.heap.size
 rin:R.In wr σ n
 sh:R.Sh wr (fun g=>No g∨((s≤g∧g<s+3)∨(ok g∨(Value.slice qa d.length qc).ownBlock=some g)))
 kn:Kn No w wr
 size:s+3≤wr.heap.size
set_option maxRecDepth 100000 in
set_option maxHeartbeats 4000000 in
theorem call_any (R:Rsv) (term:Sg→Sx→Rz Tm) (σ:Sg) (n m:Nat) (args:List Sx) (hT:∀ x∈args,TermP R term (2*blk x) x) (hm:m≤R.bv) (hn:n+cA args≤40000000) (hv:σ.v.length+cA args≤40000000) (hd:σ.d.length+cA args≤40000000) (hal:args.length≤1000):CallP R term σ n m args:=by
 intro k tk lo hi a ta cap No w hin hsh htk har hlen hcap hNo hhi hr
 obtain⟨w1,hw1⟩:∃ w1,w1=((w.alloc (.cells #[.int .i64 (k:Nat),.slice ta tk.length tk.length] 97)).alloc (.cells #[.int .i64 0,.int .i64 0,.string ⟨#[]⟩,.slice none 0 0,.slice none 0 0,.slice none 0 0] 37)).alloc (.cells #[.int .i64 (k:Nat),.int .i64 0,.string ⟨#[]⟩,.slice none 0 0,.slice none 0 0,.slice none 0 0] 37):=⟨_,rfl⟩
 have q1:Below w.heap.size w w1:=by rw [hw1];exact chain (chain (below_alloc _ _) (below_alloc _ _)) (below_alloc _ _)
 have t1:Tx w1 (w.heap.size+1) (.int .i64 0) (.int .i64 0) (.string ⟨#[]⟩) (.slice none 0 0) (.slice none 0 0) (.slice none 0 0):=by
  rw [hw1]
  have:=(tx_new (w.alloc (.cells #[.int .i64 (k:Nat),.slice ta tk.length tk.length] 97)) (.int .i64 0) (.int .i64 0) (.string ⟨#[]⟩) (.slice none 0 0) (.slice none 0 0) (.slice none 0 0)).blw (below_alloc _ (.cells #[.int .i64 (k:Nat),.int .i64 0,.string ⟨#[]⟩,.slice none 0 0,.slice none 0 0,.slice none 0 0] 37))
  simpa using this
 have t2:Tx w1 (w.heap.size+2) (.int .i64 (k:Nat)) (.int .i64 0) (.string ⟨#[]⟩) (.slice none 0 0) (.slice none 0 0) (.slice none 0 0):=by
  rw [hw1]
  have:=tx_new ((w.alloc (.cells #[.int .i64 (k:Nat),.slice ta tk.length tk.length] 97)).alloc (.cells #[.int .i64 0,.int .i64 0,.string ⟨#[]⟩,.slice none 0 0,.slice none 0 0,.slice none 0 0] 37)) (.int .i64 (k:Nat)) (.int .i64 0) (.string ⟨#[]⟩) (.slice none 0 0) (.slice none 0 0) (.slice none 0 0)
  simpa using this
 have s1:w1.heap.size=w.heap.size+3:=by rw [hw1];simp
 have I0:ClI R σ n w.heap.size k No w [] [] none 0 (fun _=>False) w1 :=
  ⟨t2,t1,World.ownsRow_nil _ _ _ _,⟨rfl,fun j x y h=>(by simp at h)⟩,fun g hg=>(by cases hg),fun g hg=>hg.elim,hin.keep q1,(hsh.more (ok:=fun g=>w.heap.size≤g∧g<w.heap.size+3) hin q1 (fun g hg=>by omega)).sub (fun g hg=>hg.elim .inl (fun h=>.inr (h.elim id (fun h=>h.elim False.elim (fun h=>by cases h))))) (fun g hg=>.inl (hsh.old g hg)),Kn.of_below q1,by omega⟩
 obtain⟨s,hsz⟩:∃ s,s=w.heap.size:=⟨_,rfl⟩
 rw [← hsz] at I0
 have H0:Hid (ClI R σ n s k No w [] [] none 0 (fun _=>False) w1∧w1=_):=⟨I0,hw1⟩
 have Hsz:Hid (s=w.heap.size):=hsz
 obtain⟨r,hrr⟩:∃ r,r=callR term σ k tk (args.take tk.length) []:=⟨_,rfl⟩
 rw [← hrr] at hr ⊢
 have hcA:=cA_app (args.take tk.length) (args.drop tk.length)
 rw [List.take_append_drop] at hcA
 obtain⟨ag,has⟩:∃ ag,ag=args.take tk.length:=⟨_,rfl⟩
 have hasl:ag.length=tk.length:=by rw [has,List.length_take];omega
 have hTa:∀ x∈ag,TermP R term (2*blk x) x:=fun x hx=>hT x (by rw [has] at hx;exact List.mem_of_mem_take hx)
 rw [← has] at hrr har hcA ⊢
 have HR:Hid (r=callR term σ k (tk.drop 0) (ag.drop 0) []):=by rw [List.drop_zero,List.drop_zero];exact hrr
 obtain⟨L,hL⟩:∃ L,L=tk.length:=⟨_,rfl⟩
 have HL:Hid (L=tk.length∧ag.length=L):=⟨hL,by rw [hasl,hL]⟩
 have hL5:L≤1000:=by omega
 have HTK:Hid (TkIn R.bw R.bv w tk (.slice ta L L)):=by rw [hL];exact htk
 have HAR:Hid (AR2 m lo hi w ag a):=har
 rw [← hL] at H0 hcap ⊢
 have hwA:n+cA ag≤40000000∧σ.v.length+cA ag≤40000000∧σ.d.length+cA ag≤40000000:=⟨by omega,by omega,by omega⟩
 clear q1 t1 t2 s1 I0 hsz hw1 hrr has hasl hL htk har hcA hT hn hv hd hal hlen
 unfold Rsv.ptr
 go_enter Tryz.func75,Tryz.ntmps75
 go_wp2_with fail
 obtain⟨I0,hw1⟩:=H0.out
 have e3:w.heap.size+1+1=w.heap.size+2:=rfl
 simp only [e3,← Hsz.out]
 rw [Hsz.out,← hw1,← Hsz.out]
 go_loopw [16] (fun i wr=>∃ (j:Nat) (acc:List Tm) (d:List Tq) (qa:Option Addr) (qc:Nat) (ok:Nat→Prop) (nr:Nat),j≤L∧i=.int .i64 j∧ClI R σ nr s k No w acc d qa qc ok wr∧nr+cA (ag.drop j)≤n+cA ag∧Hid (r=callR term σ k (tk.drop j) (ag.drop j) acc)∧Hid (acc.length=j)) (fun i _=>L - (intOf i).toNat)
 case atStart=>exact⟨0,[],[],none,0,fun _=>False,n,Nat.zero_le _,rfl,I0,(by rw [List.drop_zero];exact Nat.le_refl _),HR,rfl⟩
 case round =>
  clear I0 hw1 H0 HR
  obtain⟨j,acc,d,qa,qc,ok,nr,hj,rfl,I,hnr,HRa,HAL⟩:=hrel
  obtain⟨hL,hagl⟩:=HL.out
  have kw:Kn No w wr:=I.kn
  have hsw:=hsh.lt
  by_cases hlt:j<L
  ·obtain⟨x,hx⟩:∃ x,tk[j]? = some x:=⟨_,List.getElem?_eq_getElem (by omega)⟩
   obtain⟨y,hy⟩:∃ y,ag[j]? = some y:=⟨_,List.getElem?_eq_getElem (by omega)⟩
   have hdx:tk.drop j=x :: tk.drop (j+1):=by
    obtain⟨h2,e⟩:=List.getElem?_eq_some_iff.1 hx
    rw [List.drop_eq_getElem_cons h2,e]
   have hdy:ag.drop j=y :: ag.drop (j+1):=by
    obtain⟨h2,e⟩:=List.getElem?_eq_some_iff.1 hy
    rw [List.drop_eq_getElem_cons h2,e]
   have hcy:2*blk y+cA (ag.drop (j+1))=cA (ag.drop j):=by rw [hdy];rfl
   have hcl:cA (ag.drop j)≤cA ag:=by have:=cA_app (ag.take j) (ag.drop j);rw [List.take_append_drop] at this;omega
   have hx0:x=0:=by
    have e:=HRa.out
    rw [hdx,hdy] at e
    unfold callR at e
    by_cases h:x=0
    ·exact h
    ·rw [if_neg h] at e
     exact absurd e hr
   have HRb:Hid (r=(term σ y).bnd fun v=>callR term σ k (tk.drop (j+1)) (ag.drop (j+1)) (acc ++ [v])):=by
    have e:=HRa.out
    rw [hdx,hdy] at e
    unfold callR at e
    rw [if_pos hx0] at e
    exact e
   have hry:term σ y≠none:=fun e=>hr (by rw [HRb.out,e];rfl)
   obtain⟨ta',eta,htk⟩:=HTK.out
   injection eta with eta et1 et2
   clear et1 et2
   subst eta
   obtain⟨gt,rfl,gt1,gt2,ct⟩:=htk j x hx
   rw [hx0] at ct
   have hbvw:R.bv<w.heap.size:=hin.vs.lt
   have ct2:=(kw.cell (p:=⟨gt,j,none⟩) (hsh.old gt gt2) (by show gt<_;omega)).trans ct
   obtain⟨gy,off,yka,ykc,yna,ync,rfl,hg1,hg2,hSy,y0,y1,y2,y3,y4⟩:=HAR.out j y hy
   have kc:=fun i=>kw.cell (p:=⟨gy,i,none⟩) (hNo gy hg1 hg2) (by show gy<_;omega)
   have hBm:Below m w wr:=kw.below (fun g hg=>hsh.old g (by omega)) (by omega)
   have sy:=hSy.keep hBm
   obtain⟨fy,hfy⟩:∃ fy,fy=off+j*5:=⟨_,rfl⟩
   have hS0:wr.cell? ⟨gy,fy,none⟩=some (.int .i64 y.kind)∧wr.cell? ⟨gy,fy+1,none⟩=some (.string (bs y.name))∧wr.cell? ⟨gy,fy+2,none⟩=some (.slice yka y.kids.length ykc)∧wr.cell? ⟨gy,fy+3,none⟩=some (.slice yna y.names.length ync)∧wr.cell? ⟨gy,fy+4,none⟩=some (.int .i64 y.at_):=by
    rw [hfy]
    exact⟨(kc _).trans y0,(kc _).trans y1,(kc _).trans y2,(kc _).trans y3,(kc _).trans y4⟩
   have cT:Hid (∀ w4,w4.heap=wr.heap→w4.os=wr.os→w4.tape=wr.tape→w4.output=wr.output→Calls Tryz.prog 26 #[.pointer (some ⟨R.r,0,none⟩),.agg #[.int .i64 y.kind,.string (bs y.name),.slice yka y.kids.length ykc,.slice yna y.names.length ync,.int .i64 y.at_]] w4 (OutT R σ nr (fun g=>No g∨((s≤g∧g<s+3)∨(ok g∨(Value.slice qa d.length qc).ownBlock=some g))) (2*blk y) (term σ y) w4)):=by
    intro w4 e1 e2 e3 e4
    have hbl:Below wr.heap.size wr w4:=⟨e2,e3,e4,by rw [e1];exact Nat.le_refl _,fun k _=>by rw [e1]⟩
    have hsz:=I.size
    exact hTa y (List.mem_of_getElem? hy) σ nr m _ _ w4 (I.rin.keep hbl) (I.sh.keep I.rin hbl) (sy.keep (hbl.mono (by have:=kw.size;omega))) hm (by omega) (by omega) (by omega) hry
   obtain⟨dl,hdl⟩:∃ dl,dl=d.length:=⟨_,rfl⟩
   have wx:=I.wx
   rw [← hdl] at wx
   have HI:Hid (ClI R σ nr s k No w acc d qa qc ok wr∧dl=d.length∧d.length=acc.length):=⟨I,hdl,I.vals.1⟩
   have Hy:Hid (nr+cA (ag.drop j)≤n+cA ag∧2*blk y+cA (ag.drop (j+1))=cA (ag.drop j)∧term σ y≠none∧No gy∧gy<wr.heap.size):=⟨hnr,hcy,hry,hNo gy hg1 hg2,by have:=kw.size;omega⟩
   have hji:(j:Int) < (L:Int):=by omega
   have Hfy:Hid (fy=off+j*5):=hfy
   have hdl5:dl≤1000:=by have:=HAL.out;have:=I.vals.1;omega
   clear I hnr HRa hdx hdy hcy hcl hx0 hry htk ct hSy y0 y1 y2 y3 y4 kc hBm sy hx hy hL hagl hdl kw hfy hg1 hg2
   go_wp2_with fail
   refine wp_region_held_drew (S:=fun w9=>w9.cell? ⟨gy,fy,none⟩=some (.int .i64 y.kind)∧w9.cell? ⟨gy,fy+1,none⟩=some (.string (bs y.name))∧w9.cell? ⟨gy,fy+2,none⟩=some (.slice yka y.kids.length ykc)∧w9.cell? ⟨gy,fy+3,none⟩=some (.slice yna y.names.length ync)∧w9.cell? ⟨gy,fy+4,none⟩=some (.int .i64 y.at_)) (by kernel_rfl) hS0 (fun hS=>?_)
   refine wpAnyH_take (i:=0) (v:=.pointer (some ⟨s+2,4,none⟩)) rfl (by kernel_rfl) (by kernel_rfl) (by kernel_rfl) (fun _ _ _ h=>h) (Or.inl ⟨by rfl,fun w hS=>by go_simp⟩) hS ?_
   simp only [Act.put,List.getElem_toArray,List.getElem_cons_zero,List.getElem_cons_succ,List.setIfInBounds_toArray,List.set_cons_zero,List.set_cons_succ]
   refine wpAnyH_take (i:=2) (v:=.pointer (some ⟨R.r,0,none⟩)) rfl (by kernel_rfl) (by kernel_rfl) (by kernel_rfl) (fun _ _ _ h=>h) (Or.inl ⟨by rfl,fun w hS=>by go_simp⟩) hS ?_
   simp only [Act.put,List.getElem_toArray,List.getElem_cons_zero,List.getElem_cons_succ,List.setIfInBounds_toArray,List.set_cons_zero,List.set_cons_succ]
   refine wpAnyH_take (i:=3) (v:=.slice (some ⟨gy,off,none⟩) L cap) rfl (by kernel_rfl) (by kernel_rfl) (by kernel_rfl) (fun _ _ _ h=>h) (Or.inl ⟨by rfl,fun w hS=>by go_simp⟩) hS ?_
   simp only [Act.put,List.getElem_toArray,List.getElem_cons_zero,List.getElem_cons_succ,List.setIfInBounds_toArray,List.set_cons_zero,List.set_cons_succ]
   refine wpAnyH_take (i:=4) (v:=.int .i64 (j:Nat)) rfl (by kernel_rfl) (by kernel_rfl) (by kernel_rfl) (fun _ _ _ h=>h) (Or.inl ⟨by rfl,fun w hS=>by go_simp⟩) hS ?_
   simp only [Act.put,List.getElem_toArray,List.getElem_cons_zero,List.getElem_cons_succ,List.setIfInBounds_toArray,List.set_cons_zero,List.set_cons_succ]
   refine wpAnyH_take (i:=5) (v:=.pointer (some ⟨gy,fy,none⟩)) rfl (by kernel_rfl) (by kernel_rfl) (by kernel_rfl) (fun _ _ _ h=>h) (Or.inl ⟨by rfl,fun w hS=>by have e:=Hfy.out;go_simp⟩) hS ?_
   simp only [Act.put,List.getElem_toArray,List.getElem_cons_zero,List.getElem_cons_succ,List.setIfInBounds_toArray,List.set_cons_zero,List.set_cons_succ]
   refine wpAnyH_take (i:=6) (v:=.agg #[.int .i64 y.kind,.string (bs y.name),.slice yka y.kids.length ykc,.slice yna y.names.length ync,.int .i64 y.at_]) rfl (by kernel_rfl) (by kernel_rfl) (by kernel_rfl) (fun _ _ _ h=>h) (Or.inl ⟨by rfl,fun w hS=>by obtain⟨e0,e1,e2,e3,e4⟩:=hS;go_simp⟩) hS ?_
   simp only [Act.put,List.getElem_toArray,List.getElem_cons_zero,List.getElem_cons_succ,List.setIfInBounds_toArray,List.set_cons_zero,List.set_cons_succ]
   refine wpAnyH_ready (rs:=[1,7]) (by kernel_rfl) (by simp) ?_
   refine ready_cons rfl (fun KK hKK=>?_) (ready_cons rfl (fun KK hKK=>?_) AllReadyH.nil)
   ·refine⟨?_⟩
    have e4:=wx.cells.2.2.2.2.1
    go_simp
    clear e4
    refine hKK.out _ _ hS (fun hS=>?_)
    clear hKK KK
    try simp only [Act.put,List.getElem_toArray,List.getElem_cons_zero,List.getElem_cons_succ,List.setIfInBounds_toArray,List.set_cons_zero,List.set_cons_succ]
    refine wpAnyH_ready (rs:=[7]) (by kernel_rfl) (by simp) ?_
    refine ready_cons rfl (fun KK hKK=>?_) AllReadyH.nil
    refine⟨?_⟩
    go_simp
    refine (cT.out wr.drew rfl rfl rfl rfl).mono ?_
    rintro e w4 ⟨hk4,hE⟩
    obtain⟨hnr,hcy,hry,hNgy,hgyl⟩:=Hy.out
    obtain⟨I,hdl,hda⟩:=HI.out
    have kn4:Kn No w w4:=I.kn.trans ((Kn.drewR No wr).trans (hk4.sub fun g hg=>.inl hg))
    obtain⟨ry,hry2⟩:∃ ry,ry=term σ y:=⟨_,rfl⟩
    rw [← hry2] at HRb hE hry
    clear hry2
    cases ry with
    | none=>exact absurd rfl hry
    | some yy =>
     cases yy with
     | inl p =>
      have hRR:Hid (r=some (.inl p)):=HRb.out
      obtain rfl:e=_:=hE
      refine⟨rfl,kn4,?_⟩
      rw [hRR.out]
      rfl
     | inr b =>
      have HRd:Hid (r=callR term σ k (tk.drop (j+1)) (ag.drop (j+1)) (acc ++ [b])):=HRb.out
      obtain⟨vT,rfl,ok2,n4,hTm,hok4,h4,hn4,hs4⟩:=hE
      have hok4':∀ g,ok2 g→wr.heap.size≤g∧g<w4.heap.size:=hok4
      have hz4:wr.heap.size≤w4.heap.size:=hk4.size
      have hszr:=I.size
      have wx4:Tx w4 (s+2) (.int .i64 (k:Nat)) (.int .i64 0) (.string ⟨#[]⟩) (.slice none 0 0) (.slice qa dl qc) (.slice none 0 0):=Tx.kn (w:=wr.drew) wx hk4 (.inr (.inl (by omega)))
      have tx4:Tx w4 (s+1) _ _ _ _ _ _:=Tx.kn (w:=wr.drew) I.tx hk4 (.inr (.inl (by omega)))
      have kcy:=fun i=>hk4.cell (p:=⟨gy,i,none⟩) (.inl hNgy) hgyl
      have hS4:w4.cell? ⟨gy,fy,none⟩=some (.int .i64 y.kind)∧w4.cell? ⟨gy,fy+1,none⟩=some (.string (bs y.name))∧w4.cell? ⟨gy,fy+2,none⟩=some (.slice yka y.kids.length ykc)∧w4.cell? ⟨gy,fy+3,none⟩=some (.slice yna y.names.length ync)∧w4.cell? ⟨gy,fy+4,none⟩=some (.int .i64 y.at_):=by
       obtain⟨z0,z1,z2,z3,z4⟩:=hS0
       exact⟨(kcy _).trans z0,(kcy _).trans z1,(kcy _).trans z2,(kcy _).trans z3,(kcy _).trans z4⟩
      have row4:w4.ownsRow (s+3) 37 6 (.slice qa d.length qc) d.length (flatQ d):=owns_keep I.row fun g hg=>hk4.block g (.inr (.inr (.inr hg))) (World.ownsRow.lt I.row g hg).2
      have val4:ValsQ (fun g=>ok g∨ok2 g) w4 acc d:=I.vals.keep hz4 (fun g hg=>.inl hg) (fun g hg hgl=>hk4.block g (.inr (.inr (.inl hg))) hgl)
      have tm4:TmIn (fun g=>ok g∨ok2 g) w4 b vT:=hTm.up fun g hg=>.inr hg
      obtain⟨u0,u1,u2,u3,u4,u5,rfl,o0,o1,o2,o3,o4,o5⟩:=hTm.six
      have H4:Hid (R.In w4 σ n4∧n4≤nr+2*blk y∧R.Sh w4 (fun g=>(No g∨((s≤g∧g<s+3)∨(ok g∨(Value.slice qa d.length qc).ownBlock=some g)))∨ok2 g)∧(∀ g,ok2 g→wr.heap.size≤g∧g<w4.heap.size)∧Kn No w w4∧Tx w4 (s+1) (.int .i64 0) (.int .i64 0) (.string ⟨#[]⟩) (.slice none 0 0) (.slice none 0 0) (.slice none 0 0)∧ValsQ (fun g=>ok g∨ok2 g) w4 acc d∧TmIn (fun g=>ok g∨ok2 g) w4 b (.agg #[u0,u1,u2,u3,u4,u5])∧w4.ownsRow (s+3) 37 6 (.slice qa d.length qc) d.length (flatQ d)∧(s+3≤wr.heap.size∧wr.heap.size≤w4.heap.size)∧nr+cA (ag.drop j)≤n+cA ag∧2*blk y+cA (ag.drop (j+1))=cA (ag.drop j)∧No gy∧gy<w4.heap.size∧dl=d.length∧d.length=acc.length∧(∀ g,ok g→s+3≤g∧g<wr.heap.size)∧(∀ g,(Value.slice qa d.length qc).ownBlock=some g→¬ ok g∧g<wr.heap.size)∧Tx w4 (s+2) (.int .i64 (k:Nat)) (.int .i64 0) (.string ⟨#[]⟩) (.slice none 0 0) (.slice qa dl qc) (.slice none 0 0)):=⟨h4,hn4,hs4,hok4',kn4,tx4,val4,tm4,row4,⟨hszr,hz4⟩,hnr,hcy,hNgy,by omega,hdl,hda,I.okb,fun g hg=>⟨I.own g hg,(World.ownsRow.lt I.row g hg).2⟩,wx4⟩
      have hob:=hsh.lt
      clear h4 hn4 hs4 hok4 hok4' kn4 tx4 val4 tm4 row4 hTm hk4 I HI Hy cT hS hS0 hry HRb hnr hcy kcy hz4 hszr wx hda hdl hNgy hgyl
      refine hKK.out _ _ hS4 (fun hS=>?_)
      clear hKK KK
      try simp only [Act.put,List.getElem_toArray,List.getElem_cons_zero,List.getElem_cons_succ,List.setIfInBounds_toArray,List.set_cons_zero,List.set_cons_succ]
      refine wpAnyH_ready (rs:=[8]) (by kernel_rfl) (by simp) ?_
      refine ready_cons rfl (fun KK hKK=>?_) AllReadyH.nil
      refine⟨?_⟩
      go_simp
      obtain⟨w5,hw5⟩:∃ w5,w5=w4.alloc (.cells #[u0,u1,u2,u3,u4,u5] 37):=⟨_,rfl⟩
      have h45:Below w4.heap.size w4 w5:=by rw [hw5];exact below_alloc _ _
      have hgy5:=fun i=>h45.cell (p:=⟨gy,i,none⟩) H4.out.2.2.2.2.2.2.2.2.2.2.2.2.2.1
      have hS5:w5.cell? ⟨gy,fy,none⟩=some (.int .i64 y.kind)∧w5.cell? ⟨gy,fy+1,none⟩=some (.string (bs y.name))∧w5.cell? ⟨gy,fy+2,none⟩=some (.slice yka y.kids.length ykc)∧w5.cell? ⟨gy,fy+3,none⟩=some (.slice yna y.names.length ync)∧w5.cell? ⟨gy,fy+4,none⟩=some (.int .i64 y.at_):=⟨(hgy5 _).trans hS.1,(hgy5 _).trans hS.2.1,(hgy5 _).trans hS.2.2.1,(hgy5 _).trans hS.2.2.2.1,(hgy5 _).trans hS.2.2.2.2⟩
      rw [← hw5]
      refine hKK.out _ _ hS5 (fun hS=>?_)
      clear hKK KK
      try simp only [Act.put,List.getElem_toArray,List.getElem_cons_zero,List.getElem_cons_succ,List.setIfInBounds_toArray,List.set_cons_zero,List.set_cons_succ]
      obtain⟨h4,hn4,hs4,hok4,kn4,tx4,val4,tm4,row4,hz4,hnr,hcy,hNgy,hgyl,hdl,hda,hokb,hown,wx4'⟩:=H4.out
      have s5:w5.heap.size=w4.heap.size+1:=by rw [hw5];simp
      have row5:w5.ownsRow (s+3) 37 6 (.slice qa dl qc) dl (flatQ d):=by rw [hdl,hw5];exact row4.alloc _
      have hcn:∀ j u,[u0,u1,u2,u3,u4,u5][j]? = some u→w5.cell? ((⟨w4.heap.size,0,none⟩:Addr).add j)=some u:=fun j u hj=>by
       rw [Addr.add_lit,Nat.zero_add,hw5]
       exact new_cell _ _ _ _ j u rfl hj
      obtain⟨i0,hi,hz0,hz1,hz2⟩:=info_parts Tryz.infoTerm
      have hAP:=run_append_own_at (P:=Tryz.prog) w5 (s+3) 34 34 37 i0 _ 6 104 Tryz.underlying34 hi hz0 hz1 hz2 rfl (by decide) (.slice qa dl qc) dl (flatQ d) row5 ⟨w4.heap.size,0,none⟩ 1 1 [u0,u1,u2,u3,u4,u5] rfl hcn (fun u hu=>by simp only [List.mem_cons,List.mem_nil_iff,or_false] at hu;rcases hu with rfl | rfl | rfl | rfl | rfl | rfl <;> assumption) (by unfold maxLen;omega) (by omega) (by omega)
      obtain⟨v2,w6,hrun2,hown2,hgr2,_,hloc⟩:=hAP
      obtain⟨g1,cap1,rfl⟩:∃ g1 cap1,v2=.slice (some ⟨g1,0,none⟩) (dl+1) cap1:=by
       obtain⟨_,⟨_,h0⟩ | ⟨g1,cap1,cur,e,_⟩⟩:=id hown2
       ·omega
       ·exact⟨g1,cap1,e⟩
      have hgs:gy<s:=by have:=hob gy hNgy;have:=Hsz.out;omega
      have hlow:∀ g,g<s+3→w6.heap[g]? = w5.heap[g]?:=fun g hg=>hgr2.block g (by omega) (fun e=>by rw [hdl] at e;have:=(World.ownsRow.lt row4 g e.symm).1;omega)
      have hgy6:=fun i=>World.cell?_of_block (w:=w5) (w':=w6) (a:=⟨gy,i,none⟩) (hlow gy (by omega))
      have hS6:w6.cell? ⟨gy,fy,none⟩=some (.int .i64 y.kind)∧w6.cell? ⟨gy,fy+1,none⟩=some (.string (bs y.name))∧w6.cell? ⟨gy,fy+2,none⟩=some (.slice yka y.kids.length ykc)∧w6.cell? ⟨gy,fy+3,none⟩=some (.slice yna y.names.length ync)∧w6.cell? ⟨gy,fy+4,none⟩=some (.int .i64 y.at_):=⟨(hgy6 _).trans hS5.1,(hgy6 _).trans hS5.2.1,(hgy6 _).trans hS5.2.2.1,(hgy6 _).trans hS5.2.2.2.1,(hgy6 _).trans hS5.2.2.2.2⟩
      have wx6:Tx w6 (s+2) (.int .i64 (k:Nat)) (.int .i64 0) (.string ⟨#[]⟩) (.slice none 0 0) (.slice qa dl qc) (.slice none 0 0):=(hlow _ (by omega)).trans (wx4'.blw h45)
      refine wpAnyH_ready (rs:=[9]) (by kernel_rfl) (by simp) ?_
      refine ready_cons rfl (fun KK hKK=>?_) AllReadyH.nil
      refine StepP.append (by rfl) (.tmp 33) (.tmp 40) 34 (by rfl) (by rfl) (by rfl) hrun2 ?_
      have c4:=wx6.cells.2.2.2.2.1
      have z4:=wx6.cold 4
      have HW:Hid (Tx w6 (s+2) (.int .i64 (k:Nat)) (.int .i64 0) (.string ⟨#[]⟩) (.slice none 0 0) (.slice qa dl qc) (.slice none 0 0)∧w5=_∧Below w4.heap.size w4 w5∧w5.heap.size=w4.heap.size+1∧w6.ownsRow (s+3) 37 6 (.slice (some ⟨g1,0,none⟩) (dl+1) cap1) (dl+1) (flatQ d ++ [u0,u1,u2,u3,u4,u5])∧w5.grownBy w6 (Value.slice qa dl qc).ownBlock∧((Value.slice (some ⟨g1,0,none⟩) (dl+1) cap1).ownBlock=(Value.slice qa dl qc).ownBlock∨(Value.slice (some ⟨g1,0,none⟩) (dl+1) cap1).ownBlock=some w5.heap.size)∧gy<s):=⟨wx6,hw5,h45,s5,hown2,hgr2,hloc,hgs⟩
      clear h4 hn4 hs4 hok4 kn4 tx4 val4 tm4 row4 hz4 hnr hcy hNgy hgyl hdl hda hokb hown wx4' row5 hcn hi hz0 hz1 hz2 hrun2 hown2 hgr2 hloc hgy5 hgs hlow hgy6 wx6 hw5 h45 s5 hS hS5 hS4 wx4
      refine hKK.out _ _ hS6 (fun hS=>?_)
      clear hKK KK
      try simp only [Act.put,List.getElem_toArray,List.getElem_cons_zero,List.getElem_cons_succ,List.setIfInBounds_toArray,List.set_cons_zero,List.set_cons_succ]
      refine wpAnyH_ready (rs:=[10]) (by kernel_rfl) (by simp) ?_
      refine ready_cons rfl (fun KK hKK=>?_) AllReadyH.nil
      refine⟨?_⟩
      go_simp
      refine hKK.out _ _ hS (fun hS=>?_)
      clear hKK KK
      try simp only [Act.put,List.getElem_toArray,List.getElem_cons_zero,List.getElem_cons_succ,List.setIfInBounds_toArray,List.set_cons_zero,List.set_cons_succ]
      refine wpAnyH_ready (rs:=[11]) (by kernel_rfl) (by simp) ?_
      refine ready_cons rfl (fun KK hKK=>?_) AllReadyH.nil
      refine⟨?_⟩
      go_simp
      obtain⟨h4,hn4,hs4,hok4,kn4,tx4,val4,tm4,row4,hz4,hnr,hcy,hNgy,hgyl,hdl,hda,hokb,hown,wx4'⟩:=H4.out
      obtain⟨wx6,hw5,h45,s5,hown2,hgr2,hloc,hgs⟩:=HW.out
      obtain⟨w7,hw7⟩:∃ w7,w7=w6.setCell ⟨s+2,4,none⟩ (.slice (some ⟨g1,0,none⟩) (dl+1) cap1):=⟨_,rfl⟩
      have k7:Kn (fun g=>g≠s+2) w6 w7:=by rw [hw7];exact (Kn.refl _ w6).setCell (p:=⟨s+2,4,none⟩) (.inl fun h=>h rfl) _
      have wx7:Tx w7 (s+2) (.int .i64 (k:Nat)) (.int .i64 0) (.string ⟨#[]⟩) (.slice none 0 0) (.slice (some ⟨g1,0,none⟩) (dl+1) cap1) (.slice none 0 0):=by rw [hw7];exact wx6.put4 _
      have hz6:w5.heap.size≤w6.heap.size:=hgr2.size
      have hz7:w6.heap.size≤w7.heap.size:=k7.size
      have hrb:∀ g,(Value.slice qa d.length qc).ownBlock=some g→s+3≤g∧g<wr.heap.size∧¬ ok g:=fun g hg=>⟨(World.ownsRow.lt row4 g hg).1,(hown g hg).2,(hown g hg).1⟩
      have hk6:∀ g,g<w5.heap.size→(Value.slice qa d.length qc).ownBlock≠some g→w6.heap[g]? = w5.heap[g]?:=fun g hg hne=>hgr2.block g hg (fun e=>hne (by rw [← hdl];exact e.symm))
      have okbl:∀ g,(ok g∨ok2 g)→s+3≤g∧g<w4.heap.size∧(Value.slice qa d.length qc).ownBlock≠some g:=fun g hg=>by
       rcases hg with hg|hg
       ·exact⟨(hokb g hg).1,by have:=(hokb g hg).2;omega,fun e=>(hrb g e).2.2 hg⟩
       ·have:=hok4 g hg
        exact⟨by omega,by omega,fun e=>by have:=(hrb g e).2.1;omega⟩
      have b47:∀ g,(ok g∨ok2 g)→g<w4.heap.size→w7.heap[g]? = w4.heap[g]?:=fun g hg hgl=>by
       obtain⟨o1,o2,o3⟩:=okbl g hg
       exact (k7.block g (by show g≠s+2;omega) (by omega)).trans ((hk6 g (by omega) o3).trans (h45.block g hgl))
      have val7:=val4.keep (w':=w7) (by omega) (fun _ h=>h) b47
      have tm7:=tm4.keep (w':=w7) (by omega) (fun _ h=>h) b47
      have row7:w7.ownsRow (s+3) 37 6 (.slice (some ⟨g1,0,none⟩) (d ++ [(⟨u0,u1,u2,u3,u4,u5⟩:Tq)]).length cap1) (d ++ [(⟨u0,u1,u2,u3,u4,u5⟩:Tq)]).length (flatQ (d ++ [(⟨u0,u1,u2,u3,u4,u5⟩:Tq)])):=by
       rw [List.length_append,flatQ_snoc,← hdl]
       exact owns_keep hown2 fun g hg=>by
        have:=World.ownsRow.lt hown2 g hg
        exact k7.block g (by show g≠s+2;omega) this.2
      have own7:∀ g,(Value.slice (some ⟨g1,0,none⟩) (d ++ [(⟨u0,u1,u2,u3,u4,u5⟩:Tq)]).length cap1).ownBlock=some g→¬ (ok g∨ok2 g)∧(s+3≤g∧((Value.slice qa d.length qc).ownBlock=some g∨(w4.heap.size≤g∧g<w6.heap.size))):=fun g hg=>by
       have hg':(Value.slice (some ⟨g1,0,none⟩) (dl+1) cap1).ownBlock=some g:=hg
       have hl6:=World.ownsRow.lt hown2 g hg'
       rcases hloc with e|e
       ·rw [hg',hdl] at e
        exact⟨fun h=>(okbl g h).2.2 e.symm,hl6.1,.inl e.symm⟩
       ·rw [hg'] at e
        injection e with e
        exact⟨fun h=>by have:=(okbl g h).2.1;omega,hl6.1,.inr (by omega)⟩
      have in5:=h4.keep h45
      have hbvs:R.bv≤s:=by have:=hin.vs.lt;have:=Hsz.out;omega
      have sh5:=hs4.more (ok:=fun g=>g=w4.heap.size) h4 h45 (fun g hg=>by omega)
      have hrg:∀ g,(Value.slice qa dl qc).ownBlock=some g→(((No g∨((s≤g∧g<s+3)∨(ok g∨(Value.slice qa d.length qc).ownBlock=some g)))∨ok2 g)∨g=w4.heap.size)∧R.bv≤g:=fun g hg=>by rw [hdl] at hg;exact⟨.inl (.inl (.inr (.inr (.inr hg)))),by have:=(hrb g hg).1;omega⟩
      obtain⟨in6,sh6a⟩:=Rsv.grown in5 sh5 hgr2 hrg
      have sh6:=Rsv.Sh.grownMore in5 sh5 sh6a hgr2 (fun g hg=>(hrg g hg).1)
      obtain⟨in7,sh7⟩:=in6.off sh6 (x:=s+2) (.inl (.inl (.inl (.inr (.inl (by omega)))))) (by omega) k7
      have kn7:Kn No w w7:=(kn4.trans (Kn.of_below h45)).trans (Kn.trans (w2:=w6) ⟨hgr2.os,hgr2.tape,hgr2.output,hgr2.size,fun g hg hgl=>hk6 g hgl (fun e=>by have:=(hrb g e).1;have:=hob g hg;have:=Hsz.out;omega)⟩ ⟨k7.os,k7.tape,k7.output,k7.size,fun g hg hgl=>k7.block g (fun e=>by have:=hob g hg;have:=Hsz.out;omega) hgl⟩)
      have tx7:Tx w7 (s+1) (.int .i64 0) (.int .i64 0) (.string ⟨#[]⟩) (.slice none 0 0) (.slice none 0 0) (.slice none 0 0):=(k7.block (s+1) (by show s+1≠_;omega) (by omega)).trans ((hk6 (s+1) (by omega) (fun e=>by have:=(hrb _ e).1;omega)).trans (tx4.blw h45))
      have I7:ClI R σ n4 s k No w (acc ++ [b]) (d ++ [(⟨u0,u1,u2,u3,u4,u5⟩:Tq)]) (some ⟨g1,0,none⟩) cap1 (fun g=>ok g∨ok2 g) w7 :=
       ⟨by rw [List.length_append,← hdl];exact wx7,tx7,row7,val7.snoc tm7,fun g hg=>(own7 g hg).1,fun g hg=>⟨(okbl g hg).1,by have:=(okbl g hg).2.1;omega⟩,in7,
        sh7.sub (fun g hg=>by
         rcases hg with hg|hg|(hg|hg)|hg
         ·exact .inl (.inl (.inl (.inl hg)))
         ·exact .inl (.inl (.inl (.inr (.inl hg))))
         ·exact .inl (.inl (.inl (.inr (.inr (.inl hg)))))
         ·exact .inl (.inl (.inr hg))
         ·rcases (own7 g hg).2.2 with h|h
          ·exact .inl (.inl (.inl (.inr (.inr (.inr h)))))
          ·rcases Nat.lt_or_ge g w5.heap.size with h2|h2
           ·exact .inl (.inr (by omega))
           ·exact .inr ⟨h2,h.2⟩) (fun g hg=>.inl (hsh.old g hg)),kn7,by omega⟩
      have hgy7:=fun i=>World.cell?_of_block (w:=w6) (w':=w7) (a:=⟨gy,i,none⟩) (k7.block gy (by show gy≠s+2;omega) (by omega))
      have hS7:w7.cell? ⟨gy,fy,none⟩=some (.int .i64 y.kind)∧w7.cell? ⟨gy,fy+1,none⟩=some (.string (bs y.name))∧w7.cell? ⟨gy,fy+2,none⟩=some (.slice yka y.kids.length ykc)∧w7.cell? ⟨gy,fy+3,none⟩=some (.slice yna y.names.length ync)∧w7.cell? ⟨gy,fy+4,none⟩=some (.int .i64 y.at_):=⟨(hgy7 _).trans hS.1,(hgy7 _).trans hS.2.1,(hgy7 _).trans hS.2.2.1,(hgy7 _).trans hS.2.2.2.1,(hgy7 _).trans hS.2.2.2.2⟩
      have H7:Hid (ClI R σ n4 s k No w (acc ++ [b]) (d ++ [(⟨u0,u1,u2,u3,u4,u5⟩:Tq)]) (some ⟨g1,0,none⟩) cap1 (fun g=>ok g∨ok2 g) w7∧n4+cA (ag.drop (j+1))≤n+cA ag):=⟨I7,by omega⟩
      have e7:w6.setCell ⟨s+1+1,4,none⟩ (.slice (some ⟨g1,0,none⟩) (dl+1) cap1)=w7:=by rw [hw7]
      rw [e7]
      clear e7 h4 hn4 hs4 hok4 kn4 tx4 val4 tm4 row4 hz4 hnr hcy hNgy hgyl hdl hda hokb hown wx4' wx6 hw5 h45 s5 hown2 hgr2 hloc hgs hw7 k7 wx7 hz6 hz7 hrb hk6 okbl b47 val7 tm7 row7 own7 in5 hbvs sh5 hrg in6 sh6a sh6 in7 sh7 kn7 tx7 I7 hgy7 c4 z4 hS6 HW H4
      refine hKK.out _ _ hS7 (fun hS=>?_)
      clear hKK KK hS hS7
      try simp only [Act.put,List.getElem_toArray,List.getElem_cons_zero,List.getElem_cons_succ,List.setIfInBounds_toArray,List.set_cons_zero,List.set_cons_succ]
      refine wpAnyH_done (by kernel_rfl) ?_ _
      go_wp2_with fail
      go_roundw
      case rel=>exact⟨j+1,_,_,_,_,_,n4,by omega,by go_num,H7.out.1,H7.out.2,HRd,(by show _=_;rw [List.length_append,HAL.out];rfl)⟩
      case measure=>simp [intOf];omega
   ·refine⟨?_⟩
    go_simp
    refine (cT.out wr.drew rfl rfl rfl rfl).mono ?_
    rintro e w4 ⟨hk4,hE⟩
    obtain⟨hnr,hcy,hry,hNgy,hgyl⟩:=Hy.out
    obtain⟨I,hdl,hda⟩:=HI.out
    have kn4:Kn No w w4:=I.kn.trans ((Kn.drewR No wr).trans (hk4.sub fun g hg=>.inl hg))
    obtain⟨ry,hry2⟩:∃ ry,ry=term σ y:=⟨_,rfl⟩
    rw [← hry2] at HRb hE hry
    clear hry2
    cases ry with
    | none=>exact absurd rfl hry
    | some yy =>
     cases yy with
     | inl p =>
      have hRR:Hid (r=some (.inl p)):=HRb.out
      obtain rfl:e=_:=hE
      refine⟨rfl,kn4,?_⟩
      rw [hRR.out]
      rfl
     | inr b =>
      have HRd:Hid (r=callR term σ k (tk.drop (j+1)) (ag.drop (j+1)) (acc ++ [b])):=HRb.out
      obtain⟨vT,rfl,ok2,n4,hTm,hok4,h4,hn4,hs4⟩:=hE
      have hok4':∀ g,ok2 g→wr.heap.size≤g∧g<w4.heap.size:=hok4
      have hz4:wr.heap.size≤w4.heap.size:=hk4.size
      have hszr:=I.size
      have wx4:Tx w4 (s+2) (.int .i64 (k:Nat)) (.int .i64 0) (.string ⟨#[]⟩) (.slice none 0 0) (.slice qa dl qc) (.slice none 0 0):=Tx.kn (w:=wr.drew) wx hk4 (.inr (.inl (by omega)))
      have tx4:Tx w4 (s+1) _ _ _ _ _ _:=Tx.kn (w:=wr.drew) I.tx hk4 (.inr (.inl (by omega)))
      have kcy:=fun i=>hk4.cell (p:=⟨gy,i,none⟩) (.inl hNgy) hgyl
      have hS4:w4.cell? ⟨gy,fy,none⟩=some (.int .i64 y.kind)∧w4.cell? ⟨gy,fy+1,none⟩=some (.string (bs y.name))∧w4.cell? ⟨gy,fy+2,none⟩=some (.slice yka y.kids.length ykc)∧w4.cell? ⟨gy,fy+3,none⟩=some (.slice yna y.names.length ync)∧w4.cell? ⟨gy,fy+4,none⟩=some (.int .i64 y.at_):=by
       obtain⟨z0,z1,z2,z3,z4⟩:=hS0
       exact⟨(kcy _).trans z0,(kcy _).trans z1,(kcy _).trans z2,(kcy _).trans z3,(kcy _).trans z4⟩
      have row4:w4.ownsRow (s+3) 37 6 (.slice qa d.length qc) d.length (flatQ d):=owns_keep I.row fun g hg=>hk4.block g (.inr (.inr (.inr hg))) (World.ownsRow.lt I.row g hg).2
      have val4:ValsQ (fun g=>ok g∨ok2 g) w4 acc d:=I.vals.keep hz4 (fun g hg=>.inl hg) (fun g hg hgl=>hk4.block g (.inr (.inr (.inl hg))) hgl)
      have tm4:TmIn (fun g=>ok g∨ok2 g) w4 b vT:=hTm.up fun g hg=>.inr hg
      obtain⟨u0,u1,u2,u3,u4,u5,rfl,o0,o1,o2,o3,o4,o5⟩:=hTm.six
      have H4:Hid (R.In w4 σ n4∧n4≤nr+2*blk y∧R.Sh w4 (fun g=>(No g∨((s≤g∧g<s+3)∨(ok g∨(Value.slice qa d.length qc).ownBlock=some g)))∨ok2 g)∧(∀ g,ok2 g→wr.heap.size≤g∧g<w4.heap.size)∧Kn No w w4∧Tx w4 (s+1) (.int .i64 0) (.int .i64 0) (.string ⟨#[]⟩) (.slice none 0 0) (.slice none 0 0) (.slice none 0 0)∧ValsQ (fun g=>ok g∨ok2 g) w4 acc d∧TmIn (fun g=>ok g∨ok2 g) w4 b (.agg #[u0,u1,u2,u3,u4,u5])∧w4.ownsRow (s+3) 37 6 (.slice qa d.length qc) d.length (flatQ d)∧(s+3≤wr.heap.size∧wr.heap.size≤w4.heap.size)∧nr+cA (ag.drop j)≤n+cA ag∧2*blk y+cA (ag.drop (j+1))=cA (ag.drop j)∧No gy∧gy<w4.heap.size∧dl=d.length∧d.length=acc.length∧(∀ g,ok g→s+3≤g∧g<wr.heap.size)∧(∀ g,(Value.slice qa d.length qc).ownBlock=some g→¬ ok g∧g<wr.heap.size)∧Tx w4 (s+2) (.int .i64 (k:Nat)) (.int .i64 0) (.string ⟨#[]⟩) (.slice none 0 0) (.slice qa dl qc) (.slice none 0 0)):=⟨h4,hn4,hs4,hok4',kn4,tx4,val4,tm4,row4,⟨hszr,hz4⟩,hnr,hcy,hNgy,by omega,hdl,hda,I.okb,fun g hg=>⟨I.own g hg,(World.ownsRow.lt I.row g hg).2⟩,wx4⟩
      have hob:=hsh.lt
      clear h4 hn4 hs4 hok4 hok4' kn4 tx4 val4 tm4 row4 hTm hk4 I HI Hy cT hS hS0 hry HRb hnr hcy kcy hz4 hszr wx hda hdl hNgy hgyl
      refine hKK.out _ _ hS4 (fun hS=>?_)
      clear hKK KK
      try simp only [Act.put,List.getElem_toArray,List.getElem_cons_zero,List.getElem_cons_succ,List.setIfInBounds_toArray,List.set_cons_zero,List.set_cons_succ]
      refine wpAnyH_ready (rs:=[1,8]) (by kernel_rfl) (by simp) ?_
      refine ready_cons rfl (fun KK hKK=>?_) (ready_cons rfl (fun KK hKK=>?_) AllReadyH.nil)
      ·refine⟨?_⟩
       have e4:=wx4.cells.2.2.2.2.1
       go_simp
       clear e4
       refine hKK.out _ _ hS (fun hS=>?_)
       clear hKK KK
       try simp only [Act.put,List.getElem_toArray,List.getElem_cons_zero,List.getElem_cons_succ,List.setIfInBounds_toArray,List.set_cons_zero,List.set_cons_succ]
       refine wpAnyH_ready (rs:=[8]) (by kernel_rfl) (by simp) ?_
       refine ready_cons rfl (fun KK hKK=>?_) AllReadyH.nil
       refine⟨?_⟩
       go_simp
       obtain⟨w5,hw5⟩:∃ w5,w5=w4.alloc (.cells #[u0,u1,u2,u3,u4,u5] 37):=⟨_,rfl⟩
       have h45:Below w4.heap.size w4 w5:=by rw [hw5];exact below_alloc _ _
       have hgy5:=fun i=>h45.cell (p:=⟨gy,i,none⟩) H4.out.2.2.2.2.2.2.2.2.2.2.2.2.2.1
       have hS5:w5.cell? ⟨gy,fy,none⟩=some (.int .i64 y.kind)∧w5.cell? ⟨gy,fy+1,none⟩=some (.string (bs y.name))∧w5.cell? ⟨gy,fy+2,none⟩=some (.slice yka y.kids.length ykc)∧w5.cell? ⟨gy,fy+3,none⟩=some (.slice yna y.names.length ync)∧w5.cell? ⟨gy,fy+4,none⟩=some (.int .i64 y.at_):=⟨(hgy5 _).trans hS.1,(hgy5 _).trans hS.2.1,(hgy5 _).trans hS.2.2.1,(hgy5 _).trans hS.2.2.2.1,(hgy5 _).trans hS.2.2.2.2⟩
       rw [← hw5]
       refine hKK.out _ _ hS5 (fun hS=>?_)
       clear hKK KK
       try simp only [Act.put,List.getElem_toArray,List.getElem_cons_zero,List.getElem_cons_succ,List.setIfInBounds_toArray,List.set_cons_zero,List.set_cons_succ]
       obtain⟨h4,hn4,hs4,hok4,kn4,tx4,val4,tm4,row4,hz4,hnr,hcy,hNgy,hgyl,hdl,hda,hokb,hown,wx4'⟩:=H4.out
       have s5:w5.heap.size=w4.heap.size+1:=by rw [hw5];simp
       have row5:w5.ownsRow (s+3) 37 6 (.slice qa dl qc) dl (flatQ d):=by rw [hdl,hw5];exact row4.alloc _
       have hcn:∀ j u,[u0,u1,u2,u3,u4,u5][j]? = some u→w5.cell? ((⟨w4.heap.size,0,none⟩:Addr).add j)=some u:=fun j u hj=>by
        rw [Addr.add_lit,Nat.zero_add,hw5]
        exact new_cell _ _ _ _ j u rfl hj
       obtain⟨i0,hi,hz0,hz1,hz2⟩:=info_parts Tryz.infoTerm
       have hAP:=run_append_own_at (P:=Tryz.prog) w5 (s+3) 34 34 37 i0 _ 6 104 Tryz.underlying34 hi hz0 hz1 hz2 rfl (by decide) (.slice qa dl qc) dl (flatQ d) row5 ⟨w4.heap.size,0,none⟩ 1 1 [u0,u1,u2,u3,u4,u5] rfl hcn (fun u hu=>by simp only [List.mem_cons,List.mem_nil_iff,or_false] at hu;rcases hu with rfl | rfl | rfl | rfl | rfl | rfl <;> assumption) (by unfold maxLen;omega) (by omega) (by omega)
       obtain⟨v2,w6,hrun2,hown2,hgr2,_,hloc⟩:=hAP
       obtain⟨g1,cap1,rfl⟩:∃ g1 cap1,v2=.slice (some ⟨g1,0,none⟩) (dl+1) cap1:=by
        obtain⟨_,⟨_,h0⟩ | ⟨g1,cap1,cur,e,_⟩⟩:=id hown2
        ·omega
        ·exact⟨g1,cap1,e⟩
       have hgs:gy<s:=by have:=hob gy hNgy;have:=Hsz.out;omega
       have hlow:∀ g,g<s+3→w6.heap[g]? = w5.heap[g]?:=fun g hg=>hgr2.block g (by omega) (fun e=>by rw [hdl] at e;have:=(World.ownsRow.lt row4 g e.symm).1;omega)
       have hgy6:=fun i=>World.cell?_of_block (w:=w5) (w':=w6) (a:=⟨gy,i,none⟩) (hlow gy (by omega))
       have hS6:w6.cell? ⟨gy,fy,none⟩=some (.int .i64 y.kind)∧w6.cell? ⟨gy,fy+1,none⟩=some (.string (bs y.name))∧w6.cell? ⟨gy,fy+2,none⟩=some (.slice yka y.kids.length ykc)∧w6.cell? ⟨gy,fy+3,none⟩=some (.slice yna y.names.length ync)∧w6.cell? ⟨gy,fy+4,none⟩=some (.int .i64 y.at_):=⟨(hgy6 _).trans hS5.1,(hgy6 _).trans hS5.2.1,(hgy6 _).trans hS5.2.2.1,(hgy6 _).trans hS5.2.2.2.1,(hgy6 _).trans hS5.2.2.2.2⟩
       have wx6:Tx w6 (s+2) (.int .i64 (k:Nat)) (.int .i64 0) (.string ⟨#[]⟩) (.slice none 0 0) (.slice qa dl qc) (.slice none 0 0):=(hlow _ (by omega)).trans (wx4'.blw h45)
       refine wpAnyH_ready (rs:=[9]) (by kernel_rfl) (by simp) ?_
       refine ready_cons rfl (fun KK hKK=>?_) AllReadyH.nil
       refine StepP.append (by rfl) (.tmp 33) (.tmp 40) 34 (by rfl) (by rfl) (by rfl) hrun2 ?_
       have c4:=wx6.cells.2.2.2.2.1
       have z4:=wx6.cold 4
       have HW:Hid (Tx w6 (s+2) (.int .i64 (k:Nat)) (.int .i64 0) (.string ⟨#[]⟩) (.slice none 0 0) (.slice qa dl qc) (.slice none 0 0)∧w5=_∧Below w4.heap.size w4 w5∧w5.heap.size=w4.heap.size+1∧w6.ownsRow (s+3) 37 6 (.slice (some ⟨g1,0,none⟩) (dl+1) cap1) (dl+1) (flatQ d ++ [u0,u1,u2,u3,u4,u5])∧w5.grownBy w6 (Value.slice qa dl qc).ownBlock∧((Value.slice (some ⟨g1,0,none⟩) (dl+1) cap1).ownBlock=(Value.slice qa dl qc).ownBlock∨(Value.slice (some ⟨g1,0,none⟩) (dl+1) cap1).ownBlock=some w5.heap.size)∧gy<s):=⟨wx6,hw5,h45,s5,hown2,hgr2,hloc,hgs⟩
       clear h4 hn4 hs4 hok4 kn4 tx4 val4 tm4 row4 hz4 hnr hcy hNgy hgyl hdl hda hokb hown wx4' row5 hcn hi hz0 hz1 hz2 hrun2 hown2 hgr2 hloc hgy5 hgs hlow hgy6 wx6 hw5 h45 s5 hS hS5 hS4 wx4
       refine hKK.out _ _ hS6 (fun hS=>?_)
       clear hKK KK
       try simp only [Act.put,List.getElem_toArray,List.getElem_cons_zero,List.getElem_cons_succ,List.setIfInBounds_toArray,List.set_cons_zero,List.set_cons_succ]
       refine wpAnyH_ready (rs:=[10]) (by kernel_rfl) (by simp) ?_
       refine ready_cons rfl (fun KK hKK=>?_) AllReadyH.nil
       refine⟨?_⟩
       go_simp
       refine hKK.out _ _ hS (fun hS=>?_)
       clear hKK KK
       try simp only [Act.put,List.getElem_toArray,List.getElem_cons_zero,List.getElem_cons_succ,List.setIfInBounds_toArray,List.set_cons_zero,List.set_cons_succ]
       refine wpAnyH_ready (rs:=[11]) (by kernel_rfl) (by simp) ?_
       refine ready_cons rfl (fun KK hKK=>?_) AllReadyH.nil
       refine⟨?_⟩
       go_simp
       obtain⟨h4,hn4,hs4,hok4,kn4,tx4,val4,tm4,row4,hz4,hnr,hcy,hNgy,hgyl,hdl,hda,hokb,hown,wx4'⟩:=H4.out
       obtain⟨wx6,hw5,h45,s5,hown2,hgr2,hloc,hgs⟩:=HW.out
       obtain⟨w7,hw7⟩:∃ w7,w7=w6.setCell ⟨s+2,4,none⟩ (.slice (some ⟨g1,0,none⟩) (dl+1) cap1):=⟨_,rfl⟩
       have k7:Kn (fun g=>g≠s+2) w6 w7:=by rw [hw7];exact (Kn.refl _ w6).setCell (p:=⟨s+2,4,none⟩) (.inl fun h=>h rfl) _
       have wx7:Tx w7 (s+2) (.int .i64 (k:Nat)) (.int .i64 0) (.string ⟨#[]⟩) (.slice none 0 0) (.slice (some ⟨g1,0,none⟩) (dl+1) cap1) (.slice none 0 0):=by rw [hw7];exact wx6.put4 _
       have hz6:w5.heap.size≤w6.heap.size:=hgr2.size
       have hz7:w6.heap.size≤w7.heap.size:=k7.size
       have hrb:∀ g,(Value.slice qa d.length qc).ownBlock=some g→s+3≤g∧g<wr.heap.size∧¬ ok g:=fun g hg=>⟨(World.ownsRow.lt row4 g hg).1,(hown g hg).2,(hown g hg).1⟩
       have hk6:∀ g,g<w5.heap.size→(Value.slice qa d.length qc).ownBlock≠some g→w6.heap[g]? = w5.heap[g]?:=fun g hg hne=>hgr2.block g hg (fun e=>hne (by rw [← hdl];exact e.symm))
       have okbl:∀ g,(ok g∨ok2 g)→s+3≤g∧g<w4.heap.size∧(Value.slice qa d.length qc).ownBlock≠some g:=fun g hg=>by
        rcases hg with hg|hg
        ·exact⟨(hokb g hg).1,by have:=(hokb g hg).2;omega,fun e=>(hrb g e).2.2 hg⟩
        ·have:=hok4 g hg
         exact⟨by omega,by omega,fun e=>by have:=(hrb g e).2.1;omega⟩
       have b47:∀ g,(ok g∨ok2 g)→g<w4.heap.size→w7.heap[g]? = w4.heap[g]?:=fun g hg hgl=>by
        obtain⟨o1,o2,o3⟩:=okbl g hg
        exact (k7.block g (by show g≠s+2;omega) (by omega)).trans ((hk6 g (by omega) o3).trans (h45.block g hgl))
       have val7:=val4.keep (w':=w7) (by omega) (fun _ h=>h) b47
       have tm7:=tm4.keep (w':=w7) (by omega) (fun _ h=>h) b47
       have row7:w7.ownsRow (s+3) 37 6 (.slice (some ⟨g1,0,none⟩) (d ++ [(⟨u0,u1,u2,u3,u4,u5⟩:Tq)]).length cap1) (d ++ [(⟨u0,u1,u2,u3,u4,u5⟩:Tq)]).length (flatQ (d ++ [(⟨u0,u1,u2,u3,u4,u5⟩:Tq)])):=by
        rw [List.length_append,flatQ_snoc,← hdl]
        exact owns_keep hown2 fun g hg=>by
         have:=World.ownsRow.lt hown2 g hg
         exact k7.block g (by show g≠s+2;omega) this.2
       have own7:∀ g,(Value.slice (some ⟨g1,0,none⟩) (d ++ [(⟨u0,u1,u2,u3,u4,u5⟩:Tq)]).length cap1).ownBlock=some g→¬ (ok g∨ok2 g)∧(s+3≤g∧((Value.slice qa d.length qc).ownBlock=some g∨(w4.heap.size≤g∧g<w6.heap.size))):=fun g hg=>by
        have hg':(Value.slice (some ⟨g1,0,none⟩) (dl+1) cap1).ownBlock=some g:=hg
        have hl6:=World.ownsRow.lt hown2 g hg'
        rcases hloc with e|e
        ·rw [hg',hdl] at e
         exact⟨fun h=>(okbl g h).2.2 e.symm,hl6.1,.inl e.symm⟩
        ·rw [hg'] at e
         injection e with e
         exact⟨fun h=>by have:=(okbl g h).2.1;omega,hl6.1,.inr (by omega)⟩
       have in5:=h4.keep h45
       have hbvs:R.bv≤s:=by have:=hin.vs.lt;have:=Hsz.out;omega
       have sh5:=hs4.more (ok:=fun g=>g=w4.heap.size) h4 h45 (fun g hg=>by omega)
       have hrg:∀ g,(Value.slice qa dl qc).ownBlock=some g→(((No g∨((s≤g∧g<s+3)∨(ok g∨(Value.slice qa d.length qc).ownBlock=some g)))∨ok2 g)∨g=w4.heap.size)∧R.bv≤g:=fun g hg=>by rw [hdl] at hg;exact⟨.inl (.inl (.inr (.inr (.inr hg)))),by have:=(hrb g hg).1;omega⟩
       obtain⟨in6,sh6a⟩:=Rsv.grown in5 sh5 hgr2 hrg
       have sh6:=Rsv.Sh.grownMore in5 sh5 sh6a hgr2 (fun g hg=>(hrg g hg).1)
       obtain⟨in7,sh7⟩:=in6.off sh6 (x:=s+2) (.inl (.inl (.inl (.inr (.inl (by omega)))))) (by omega) k7
       have kn7:Kn No w w7:=(kn4.trans (Kn.of_below h45)).trans (Kn.trans (w2:=w6) ⟨hgr2.os,hgr2.tape,hgr2.output,hgr2.size,fun g hg hgl=>hk6 g hgl (fun e=>by have:=(hrb g e).1;have:=hob g hg;have:=Hsz.out;omega)⟩ ⟨k7.os,k7.tape,k7.output,k7.size,fun g hg hgl=>k7.block g (fun e=>by have:=hob g hg;have:=Hsz.out;omega) hgl⟩)
       have tx7:Tx w7 (s+1) (.int .i64 0) (.int .i64 0) (.string ⟨#[]⟩) (.slice none 0 0) (.slice none 0 0) (.slice none 0 0):=(k7.block (s+1) (by show s+1≠_;omega) (by omega)).trans ((hk6 (s+1) (by omega) (fun e=>by have:=(hrb _ e).1;omega)).trans (tx4.blw h45))
       have I7:ClI R σ n4 s k No w (acc ++ [b]) (d ++ [(⟨u0,u1,u2,u3,u4,u5⟩:Tq)]) (some ⟨g1,0,none⟩) cap1 (fun g=>ok g∨ok2 g) w7 :=
        ⟨by rw [List.length_append,← hdl];exact wx7,tx7,row7,val7.snoc tm7,fun g hg=>(own7 g hg).1,fun g hg=>⟨(okbl g hg).1,by have:=(okbl g hg).2.1;omega⟩,in7,
         sh7.sub (fun g hg=>by
          rcases hg with hg|hg|(hg|hg)|hg
          ·exact .inl (.inl (.inl (.inl hg)))
          ·exact .inl (.inl (.inl (.inr (.inl hg))))
          ·exact .inl (.inl (.inl (.inr (.inr (.inl hg)))))
          ·exact .inl (.inl (.inr hg))
          ·rcases (own7 g hg).2.2 with h|h
           ·exact .inl (.inl (.inl (.inr (.inr (.inr h)))))
           ·rcases Nat.lt_or_ge g w5.heap.size with h2|h2
            ·exact .inl (.inr (by omega))
            ·exact .inr ⟨h2,h.2⟩) (fun g hg=>.inl (hsh.old g hg)),kn7,by omega⟩
       have hgy7:=fun i=>World.cell?_of_block (w:=w6) (w':=w7) (a:=⟨gy,i,none⟩) (k7.block gy (by show gy≠s+2;omega) (by omega))
       have hS7:w7.cell? ⟨gy,fy,none⟩=some (.int .i64 y.kind)∧w7.cell? ⟨gy,fy+1,none⟩=some (.string (bs y.name))∧w7.cell? ⟨gy,fy+2,none⟩=some (.slice yka y.kids.length ykc)∧w7.cell? ⟨gy,fy+3,none⟩=some (.slice yna y.names.length ync)∧w7.cell? ⟨gy,fy+4,none⟩=some (.int .i64 y.at_):=⟨(hgy7 _).trans hS.1,(hgy7 _).trans hS.2.1,(hgy7 _).trans hS.2.2.1,(hgy7 _).trans hS.2.2.2.1,(hgy7 _).trans hS.2.2.2.2⟩
       have H7:Hid (ClI R σ n4 s k No w (acc ++ [b]) (d ++ [(⟨u0,u1,u2,u3,u4,u5⟩:Tq)]) (some ⟨g1,0,none⟩) cap1 (fun g=>ok g∨ok2 g) w7∧n4+cA (ag.drop (j+1))≤n+cA ag):=⟨I7,by omega⟩
       have e7:w6.setCell ⟨s+1+1,4,none⟩ (.slice (some ⟨g1,0,none⟩) (dl+1) cap1)=w7:=by rw [hw7]
       rw [e7]
       clear e7 h4 hn4 hs4 hok4 kn4 tx4 val4 tm4 row4 hz4 hnr hcy hNgy hgyl hdl hda hokb hown wx4' wx6 hw5 h45 s5 hown2 hgr2 hloc hgs hw7 k7 wx7 hz6 hz7 hrb hk6 okbl b47 val7 tm7 row7 own7 in5 hbvs sh5 hrg in6 sh6a sh6 in7 sh7 kn7 tx7 I7 hgy7 c4 z4 hS6 HW H4
       refine hKK.out _ _ hS7 (fun hS=>?_)
       clear hKK KK hS hS7
       try simp only [Act.put,List.getElem_toArray,List.getElem_cons_zero,List.getElem_cons_succ,List.setIfInBounds_toArray,List.set_cons_zero,List.set_cons_succ]
       refine wpAnyH_done (by kernel_rfl) ?_ _
       go_wp2_with fail
       go_roundw
       case rel=>exact⟨j+1,_,_,_,_,_,n4,by omega,by go_num,H7.out.1,H7.out.2,HRd,(by show _=_;rw [List.length_append,HAL.out];rfl)⟩
       case measure=>simp [intOf];omega
      ·refine⟨?_⟩
       go_simp
       obtain⟨w5,hw5⟩:∃ w5,w5=w4.alloc (.cells #[u0,u1,u2,u3,u4,u5] 37):=⟨_,rfl⟩
       have h45:Below w4.heap.size w4 w5:=by rw [hw5];exact below_alloc _ _
       have hgy5:=fun i=>h45.cell (p:=⟨gy,i,none⟩) H4.out.2.2.2.2.2.2.2.2.2.2.2.2.2.1
       have hS5:w5.cell? ⟨gy,fy,none⟩=some (.int .i64 y.kind)∧w5.cell? ⟨gy,fy+1,none⟩=some (.string (bs y.name))∧w5.cell? ⟨gy,fy+2,none⟩=some (.slice yka y.kids.length ykc)∧w5.cell? ⟨gy,fy+3,none⟩=some (.slice yna y.names.length ync)∧w5.cell? ⟨gy,fy+4,none⟩=some (.int .i64 y.at_):=⟨(hgy5 _).trans hS.1,(hgy5 _).trans hS.2.1,(hgy5 _).trans hS.2.2.1,(hgy5 _).trans hS.2.2.2.1,(hgy5 _).trans hS.2.2.2.2⟩
       rw [← hw5]
       refine hKK.out _ _ hS5 (fun hS=>?_)
       clear hKK KK
       try simp only [Act.put,List.getElem_toArray,List.getElem_cons_zero,List.getElem_cons_succ,List.setIfInBounds_toArray,List.set_cons_zero,List.set_cons_succ]
       refine wpAnyH_ready (rs:=[1]) (by kernel_rfl) (by simp) ?_
       refine ready_cons rfl (fun KK hKK=>?_) AllReadyH.nil
       refine⟨?_⟩
       have e4:=(wx4.blw h45).cells.2.2.2.2.1
       have HW5:Hid (w5=_∧Below w4.heap.size w4 w5):=⟨hw5,h45⟩
       clear hw5 h45 hS5 hgy5
       go_simp
       clear e4
       obtain⟨hw5,h45⟩:=HW5.out
       refine hKK.out _ _ hS (fun hS=>?_)
       clear hKK KK
       try simp only [Act.put,List.getElem_toArray,List.getElem_cons_zero,List.getElem_cons_succ,List.setIfInBounds_toArray,List.set_cons_zero,List.set_cons_succ]
       have hgy5:=hS
       have hS5:=hS
       obtain⟨h4,hn4,hs4,hok4,kn4,tx4,val4,tm4,row4,hz4,hnr,hcy,hNgy,hgyl,hdl,hda,hokb,hown,wx4'⟩:=H4.out
       have s5:w5.heap.size=w4.heap.size+1:=by rw [hw5];simp
       have row5:w5.ownsRow (s+3) 37 6 (.slice qa dl qc) dl (flatQ d):=by rw [hdl,hw5];exact row4.alloc _
       have hcn:∀ j u,[u0,u1,u2,u3,u4,u5][j]? = some u→w5.cell? ((⟨w4.heap.size,0,none⟩:Addr).add j)=some u:=fun j u hj=>by
        rw [Addr.add_lit,Nat.zero_add,hw5]
        exact new_cell _ _ _ _ j u rfl hj
       obtain⟨i0,hi,hz0,hz1,hz2⟩:=info_parts Tryz.infoTerm
       have hAP:=run_append_own_at (P:=Tryz.prog) w5 (s+3) 34 34 37 i0 _ 6 104 Tryz.underlying34 hi hz0 hz1 hz2 rfl (by decide) (.slice qa dl qc) dl (flatQ d) row5 ⟨w4.heap.size,0,none⟩ 1 1 [u0,u1,u2,u3,u4,u5] rfl hcn (fun u hu=>by simp only [List.mem_cons,List.mem_nil_iff,or_false] at hu;rcases hu with rfl | rfl | rfl | rfl | rfl | rfl <;> assumption) (by unfold maxLen;omega) (by omega) (by omega)
       obtain⟨v2,w6,hrun2,hown2,hgr2,_,hloc⟩:=hAP
       obtain⟨g1,cap1,rfl⟩:∃ g1 cap1,v2=.slice (some ⟨g1,0,none⟩) (dl+1) cap1:=by
        obtain⟨_,⟨_,h0⟩ | ⟨g1,cap1,cur,e,_⟩⟩:=id hown2
        ·omega
        ·exact⟨g1,cap1,e⟩
       have hgs:gy<s:=by have:=hob gy hNgy;have:=Hsz.out;omega
       have hlow:∀ g,g<s+3→w6.heap[g]? = w5.heap[g]?:=fun g hg=>hgr2.block g (by omega) (fun e=>by rw [hdl] at e;have:=(World.ownsRow.lt row4 g e.symm).1;omega)
       have hgy6:=fun i=>World.cell?_of_block (w:=w5) (w':=w6) (a:=⟨gy,i,none⟩) (hlow gy (by omega))
       have hS6:w6.cell? ⟨gy,fy,none⟩=some (.int .i64 y.kind)∧w6.cell? ⟨gy,fy+1,none⟩=some (.string (bs y.name))∧w6.cell? ⟨gy,fy+2,none⟩=some (.slice yka y.kids.length ykc)∧w6.cell? ⟨gy,fy+3,none⟩=some (.slice yna y.names.length ync)∧w6.cell? ⟨gy,fy+4,none⟩=some (.int .i64 y.at_):=⟨(hgy6 _).trans hS5.1,(hgy6 _).trans hS5.2.1,(hgy6 _).trans hS5.2.2.1,(hgy6 _).trans hS5.2.2.2.1,(hgy6 _).trans hS5.2.2.2.2⟩
       have wx6:Tx w6 (s+2) (.int .i64 (k:Nat)) (.int .i64 0) (.string ⟨#[]⟩) (.slice none 0 0) (.slice qa dl qc) (.slice none 0 0):=(hlow _ (by omega)).trans (wx4'.blw h45)
       refine wpAnyH_ready (rs:=[9]) (by kernel_rfl) (by simp) ?_
       refine ready_cons rfl (fun KK hKK=>?_) AllReadyH.nil
       refine StepP.append (by rfl) (.tmp 33) (.tmp 40) 34 (by rfl) (by rfl) (by rfl) hrun2 ?_
       have c4:=wx6.cells.2.2.2.2.1
       have z4:=wx6.cold 4
       have HW:Hid (Tx w6 (s+2) (.int .i64 (k:Nat)) (.int .i64 0) (.string ⟨#[]⟩) (.slice none 0 0) (.slice qa dl qc) (.slice none 0 0)∧w5=_∧Below w4.heap.size w4 w5∧w5.heap.size=w4.heap.size+1∧w6.ownsRow (s+3) 37 6 (.slice (some ⟨g1,0,none⟩) (dl+1) cap1) (dl+1) (flatQ d ++ [u0,u1,u2,u3,u4,u5])∧w5.grownBy w6 (Value.slice qa dl qc).ownBlock∧((Value.slice (some ⟨g1,0,none⟩) (dl+1) cap1).ownBlock=(Value.slice qa dl qc).ownBlock∨(Value.slice (some ⟨g1,0,none⟩) (dl+1) cap1).ownBlock=some w5.heap.size)∧gy<s):=⟨wx6,hw5,h45,s5,hown2,hgr2,hloc,hgs⟩
       clear h4 hn4 hs4 hok4 kn4 tx4 val4 tm4 row4 hz4 hnr hcy hNgy hgyl hdl hda hokb hown wx4' row5 hcn hi hz0 hz1 hz2 hrun2 hown2 hgr2 hloc hgy5 hgs hlow hgy6 wx6 hw5 h45 s5 hS hS5 hS4 wx4
       refine hKK.out _ _ hS6 (fun hS=>?_)
       clear hKK KK
       try simp only [Act.put,List.getElem_toArray,List.getElem_cons_zero,List.getElem_cons_succ,List.setIfInBounds_toArray,List.set_cons_zero,List.set_cons_succ]
       refine wpAnyH_ready (rs:=[10]) (by kernel_rfl) (by simp) ?_
       refine ready_cons rfl (fun KK hKK=>?_) AllReadyH.nil
       refine⟨?_⟩
       go_simp
       refine hKK.out _ _ hS (fun hS=>?_)
       clear hKK KK
       try simp only [Act.put,List.getElem_toArray,List.getElem_cons_zero,List.getElem_cons_succ,List.setIfInBounds_toArray,List.set_cons_zero,List.set_cons_succ]
       refine wpAnyH_ready (rs:=[11]) (by kernel_rfl) (by simp) ?_
       refine ready_cons rfl (fun KK hKK=>?_) AllReadyH.nil
       refine⟨?_⟩
       go_simp
       obtain⟨h4,hn4,hs4,hok4,kn4,tx4,val4,tm4,row4,hz4,hnr,hcy,hNgy,hgyl,hdl,hda,hokb,hown,wx4'⟩:=H4.out
       obtain⟨wx6,hw5,h45,s5,hown2,hgr2,hloc,hgs⟩:=HW.out
       obtain⟨w7,hw7⟩:∃ w7,w7=w6.setCell ⟨s+2,4,none⟩ (.slice (some ⟨g1,0,none⟩) (dl+1) cap1):=⟨_,rfl⟩
       have k7:Kn (fun g=>g≠s+2) w6 w7:=by rw [hw7];exact (Kn.refl _ w6).setCell (p:=⟨s+2,4,none⟩) (.inl fun h=>h rfl) _
       have wx7:Tx w7 (s+2) (.int .i64 (k:Nat)) (.int .i64 0) (.string ⟨#[]⟩) (.slice none 0 0) (.slice (some ⟨g1,0,none⟩) (dl+1) cap1) (.slice none 0 0):=by rw [hw7];exact wx6.put4 _
       have hz6:w5.heap.size≤w6.heap.size:=hgr2.size
       have hz7:w6.heap.size≤w7.heap.size:=k7.size
       have hrb:∀ g,(Value.slice qa d.length qc).ownBlock=some g→s+3≤g∧g<wr.heap.size∧¬ ok g:=fun g hg=>⟨(World.ownsRow.lt row4 g hg).1,(hown g hg).2,(hown g hg).1⟩
       have hk6:∀ g,g<w5.heap.size→(Value.slice qa d.length qc).ownBlock≠some g→w6.heap[g]? = w5.heap[g]?:=fun g hg hne=>hgr2.block g hg (fun e=>hne (by rw [← hdl];exact e.symm))
       have okbl:∀ g,(ok g∨ok2 g)→s+3≤g∧g<w4.heap.size∧(Value.slice qa d.length qc).ownBlock≠some g:=fun g hg=>by
        rcases hg with hg|hg
        ·exact⟨(hokb g hg).1,by have:=(hokb g hg).2;omega,fun e=>(hrb g e).2.2 hg⟩
        ·have:=hok4 g hg
         exact⟨by omega,by omega,fun e=>by have:=(hrb g e).2.1;omega⟩
       have b47:∀ g,(ok g∨ok2 g)→g<w4.heap.size→w7.heap[g]? = w4.heap[g]?:=fun g hg hgl=>by
        obtain⟨o1,o2,o3⟩:=okbl g hg
        exact (k7.block g (by show g≠s+2;omega) (by omega)).trans ((hk6 g (by omega) o3).trans (h45.block g hgl))
       have val7:=val4.keep (w':=w7) (by omega) (fun _ h=>h) b47
       have tm7:=tm4.keep (w':=w7) (by omega) (fun _ h=>h) b47
       have row7:w7.ownsRow (s+3) 37 6 (.slice (some ⟨g1,0,none⟩) (d ++ [(⟨u0,u1,u2,u3,u4,u5⟩:Tq)]).length cap1) (d ++ [(⟨u0,u1,u2,u3,u4,u5⟩:Tq)]).length (flatQ (d ++ [(⟨u0,u1,u2,u3,u4,u5⟩:Tq)])):=by
        rw [List.length_append,flatQ_snoc,← hdl]
        exact owns_keep hown2 fun g hg=>by
         have:=World.ownsRow.lt hown2 g hg
         exact k7.block g (by show g≠s+2;omega) this.2
       have own7:∀ g,(Value.slice (some ⟨g1,0,none⟩) (d ++ [(⟨u0,u1,u2,u3,u4,u5⟩:Tq)]).length cap1).ownBlock=some g→¬ (ok g∨ok2 g)∧(s+3≤g∧((Value.slice qa d.length qc).ownBlock=some g∨(w4.heap.size≤g∧g<w6.heap.size))):=fun g hg=>by
        have hg':(Value.slice (some ⟨g1,0,none⟩) (dl+1) cap1).ownBlock=some g:=hg
        have hl6:=World.ownsRow.lt hown2 g hg'
        rcases hloc with e|e
        ·rw [hg',hdl] at e
         exact⟨fun h=>(okbl g h).2.2 e.symm,hl6.1,.inl e.symm⟩
        ·rw [hg'] at e
         injection e with e
         exact⟨fun h=>by have:=(okbl g h).2.1;omega,hl6.1,.inr (by omega)⟩
       have in5:=h4.keep h45
       have hbvs:R.bv≤s:=by have:=hin.vs.lt;have:=Hsz.out;omega
       have sh5:=hs4.more (ok:=fun g=>g=w4.heap.size) h4 h45 (fun g hg=>by omega)
       have hrg:∀ g,(Value.slice qa dl qc).ownBlock=some g→(((No g∨((s≤g∧g<s+3)∨(ok g∨(Value.slice qa d.length qc).ownBlock=some g)))∨ok2 g)∨g=w4.heap.size)∧R.bv≤g:=fun g hg=>by rw [hdl] at hg;exact⟨.inl (.inl (.inr (.inr (.inr hg)))),by have:=(hrb g hg).1;omega⟩
       obtain⟨in6,sh6a⟩:=Rsv.grown in5 sh5 hgr2 hrg
       have sh6:=Rsv.Sh.grownMore in5 sh5 sh6a hgr2 (fun g hg=>(hrg g hg).1)
       obtain⟨in7,sh7⟩:=in6.off sh6 (x:=s+2) (.inl (.inl (.inl (.inr (.inl (by omega)))))) (by omega) k7
       have kn7:Kn No w w7:=(kn4.trans (Kn.of_below h45)).trans (Kn.trans (w2:=w6) ⟨hgr2.os,hgr2.tape,hgr2.output,hgr2.size,fun g hg hgl=>hk6 g hgl (fun e=>by have:=(hrb g e).1;have:=hob g hg;have:=Hsz.out;omega)⟩ ⟨k7.os,k7.tape,k7.output,k7.size,fun g hg hgl=>k7.block g (fun e=>by have:=hob g hg;have:=Hsz.out;omega) hgl⟩)
       have tx7:Tx w7 (s+1) (.int .i64 0) (.int .i64 0) (.string ⟨#[]⟩) (.slice none 0 0) (.slice none 0 0) (.slice none 0 0):=(k7.block (s+1) (by show s+1≠_;omega) (by omega)).trans ((hk6 (s+1) (by omega) (fun e=>by have:=(hrb _ e).1;omega)).trans (tx4.blw h45))
       have I7:ClI R σ n4 s k No w (acc ++ [b]) (d ++ [(⟨u0,u1,u2,u3,u4,u5⟩:Tq)]) (some ⟨g1,0,none⟩) cap1 (fun g=>ok g∨ok2 g) w7 :=
        ⟨by rw [List.length_append,← hdl];exact wx7,tx7,row7,val7.snoc tm7,fun g hg=>(own7 g hg).1,fun g hg=>⟨(okbl g hg).1,by have:=(okbl g hg).2.1;omega⟩,in7,
         sh7.sub (fun g hg=>by
          rcases hg with hg|hg|(hg|hg)|hg
          ·exact .inl (.inl (.inl (.inl hg)))
          ·exact .inl (.inl (.inl (.inr (.inl hg))))
          ·exact .inl (.inl (.inl (.inr (.inr (.inl hg)))))
          ·exact .inl (.inl (.inr hg))
          ·rcases (own7 g hg).2.2 with h|h
           ·exact .inl (.inl (.inl (.inr (.inr (.inr h)))))
           ·rcases Nat.lt_or_ge g w5.heap.size with h2|h2
            ·exact .inl (.inr (by omega))
            ·exact .inr ⟨h2,h.2⟩) (fun g hg=>.inl (hsh.old g hg)),kn7,by omega⟩
       have hgy7:=fun i=>World.cell?_of_block (w:=w6) (w':=w7) (a:=⟨gy,i,none⟩) (k7.block gy (by show gy≠s+2;omega) (by omega))
       have hS7:w7.cell? ⟨gy,fy,none⟩=some (.int .i64 y.kind)∧w7.cell? ⟨gy,fy+1,none⟩=some (.string (bs y.name))∧w7.cell? ⟨gy,fy+2,none⟩=some (.slice yka y.kids.length ykc)∧w7.cell? ⟨gy,fy+3,none⟩=some (.slice yna y.names.length ync)∧w7.cell? ⟨gy,fy+4,none⟩=some (.int .i64 y.at_):=⟨(hgy7 _).trans hS.1,(hgy7 _).trans hS.2.1,(hgy7 _).trans hS.2.2.1,(hgy7 _).trans hS.2.2.2.1,(hgy7 _).trans hS.2.2.2.2⟩
       have H7:Hid (ClI R σ n4 s k No w (acc ++ [b]) (d ++ [(⟨u0,u1,u2,u3,u4,u5⟩:Tq)]) (some ⟨g1,0,none⟩) cap1 (fun g=>ok g∨ok2 g) w7∧n4+cA (ag.drop (j+1))≤n+cA ag):=⟨I7,by omega⟩
       have e7:w6.setCell ⟨s+1+1,4,none⟩ (.slice (some ⟨g1,0,none⟩) (dl+1) cap1)=w7:=by rw [hw7]
       rw [e7]
       clear e7 h4 hn4 hs4 hok4 kn4 tx4 val4 tm4 row4 hz4 hnr hcy hNgy hgyl hdl hda hokb hown wx4' wx6 hw5 h45 s5 hown2 hgr2 hloc hgs hw7 k7 wx7 hz6 hz7 hrb hk6 okbl b47 val7 tm7 row7 own7 in5 hbvs sh5 hrg in6 sh6a sh6 in7 sh7 kn7 tx7 I7 hgy7 c4 z4 hS6 HW H4
       refine hKK.out _ _ hS7 (fun hS=>?_)
       clear hKK KK hS hS7
       try simp only [Act.put,List.getElem_toArray,List.getElem_cons_zero,List.getElem_cons_succ,List.setIfInBounds_toArray,List.set_cons_zero,List.set_cons_succ]
       refine wpAnyH_done (by kernel_rfl) ?_ _
       go_wp2_with fail
       go_roundw
       case rel=>exact⟨j+1,_,_,_,_,_,n4,by omega,by go_num,H7.out.1,H7.out.2,HRd,(by show _=_;rw [List.length_append,HAL.out];rfl)⟩
       case measure=>simp [intOf];omega
  ·have hji:¬ ((j:Int) < (L:Int)):=by omega
   have HRf:Hid (r=some (.inr (tmK k acc))):=by
    have e:=HRa.out
    rw [List.drop_of_length_le (show tk.length≤j by omega)] at e
    unfold callR at e
    exact e
   have hda:=I.vals.1
   have hsz:=I.size
   obtain⟨dl,hdl⟩:∃ dl,dl=d.length:=⟨_,rfl⟩
   have hK:KdT (fun g=>ok g∨(Value.slice qa d.length qc).ownBlock=some g) wr (TmIn (fun g=>ok g∨(Value.slice qa d.length qc).ownBlock=some g) wr) acc (.slice qa d.length qc):=kdt_row I.row (I.vals.keep (Nat.le_refl _) (fun g hg=>.inl hg) (fun _ _ _=>rfl)) (fun g hg=>.inr hg)
   have hTk:TmIn (fun g=>ok g∨(Value.slice qa d.length qc).ownBlock=some g) wr (tmK k acc) (.agg #[.int .i64 (k:Nat),.int .i64 0,.string ⟨#[]⟩,.slice none 0 0,.slice qa dl qc,.slice none 0 0]):=by
    rw [hdl]
    exact TmIn.mk k 0 [] [] acc [] _ _ _ (cl_nil _ _) hK (sy_nil _ _ _)
   have hokB:∀ g,(ok g∨(Value.slice qa d.length qc).ownBlock=some g)→s+3≤g∧g<wr.heap.size:=fun g hg=>hg.elim (I.okb g) (World.ownsRow.lt I.row g)
   have wx:=I.wx
   rw [← hdl] at wx
   have tx8:=I.tx
   have t8:=tx8.put (.int .i64 (k:Nat)) (.int .i64 0) (.string ⟨#[]⟩) (.slice none 0 0) (.slice qa dl qc) (.slice none 0 0)
   have k8:Kn (fun g=>g≠s+1) wr (pu6 wr (s+1) (.int .i64 (k:Nat)) (.int .i64 0) (.string ⟨#[]⟩) (.slice none 0 0) (.slice qa dl qc) (.slice none 0 0)):=pu6_kn
   obtain⟨h8,hs8⟩:=I.rin.off I.sh (x:=s+1) (.inr (.inl (by omega))) (by have:=hin.vs.lt;have:=Hsz.out;omega) k8
   have hT8:=hTk.kn k8 fun g hg=>by have:=(hokB g hg).1;omega
   have kn8:Kn No w (pu6 wr (s+1) (.int .i64 (k:Nat)) (.int .i64 0) (.string ⟨#[]⟩) (.slice none 0 0) (.slice qa dl qc) (.slice none 0 0)):=I.kn.trans ⟨k8.os,k8.tape,k8.output,k8.size,fun g hg hgl=>k8.block g (fun e=>by have:=hsh.lt g hg;have:=Hsz.out;omega) hgl⟩
   have hok8:∀ g,(ok g∨(Value.slice qa d.length qc).ownBlock=some g)→w.heap.size≤g∧g<((pu6 wr (s+1) (.int .i64 (k:Nat)) (.int .i64 0) (.string ⟨#[]⟩) (.slice none 0 0) (.slice qa dl qc) (.slice none 0 0))).heap.size:=fun g hg=>by have:=hokB g hg;have:=k8.size;have:=Hsz.out;omega
   obtain⟨i0,i1,i2,i3,i4,i5⟩:=wx.cells
   obtain⟨c0,c1,c2,c3,c4,c5⟩:=tx8.cells
   have g0:=tx8.cold 0
   have g1:=tx8.cold 1
   have g2:=tx8.cold 2
   have g3:=tx8.cold 3
   have g4:=tx8.cold 4
   have g5:=tx8.cold 5
   have hnr2:nr≤n+cA ag:=by omega
   have H8:Hid (Tx (pu6 wr (s+1) (.int .i64 (k:Nat)) (.int .i64 0) (.string ⟨#[]⟩) (.slice none 0 0) (.slice qa dl qc) (.slice none 0 0)) (s+1) _ _ _ _ _ _∧R.In (pu6 wr (s+1) (.int .i64 (k:Nat)) (.int .i64 0) (.string ⟨#[]⟩) (.slice none 0 0) (.slice qa dl qc) (.slice none 0 0)) σ nr∧R.Sh (pu6 wr (s+1) (.int .i64 (k:Nat)) (.int .i64 0) (.string ⟨#[]⟩) (.slice none 0 0) (.slice qa dl qc) (.slice none 0 0)) (fun g=>No g∨((s≤g∧g<s+3)∨(ok g∨(Value.slice qa d.length qc).ownBlock=some g)))∧TmIn (fun g=>ok g∨(Value.slice qa d.length qc).ownBlock=some g) (pu6 wr (s+1) (.int .i64 (k:Nat)) (.int .i64 0) (.string ⟨#[]⟩) (.slice none 0 0) (.slice qa dl qc) (.slice none 0 0)) (tmK k acc) _∧Kn No w (pu6 wr (s+1) (.int .i64 (k:Nat)) (.int .i64 0) (.string ⟨#[]⟩) (.slice none 0 0) (.slice qa dl qc) (.slice none 0 0))∧(∀ g,(ok g∨(Value.slice qa d.length qc).ownBlock=some g)→w.heap.size≤g∧g<((pu6 wr (s+1) (.int .i64 (k:Nat)) (.int .i64 0) (.string ⟨#[]⟩) (.slice none 0 0) (.slice qa dl qc) (.slice none 0 0))).heap.size)):=⟨t8,h8,hs8,hT8,kn8,hok8⟩
   clear t8 h8 hs8 hT8 kn8 hok8 k8 tx8 wx I hnr HRa hda hdl hK hTk hokB kw hL hagl
   go_wp2
   obtain⟨t8,h8,hs8,hT8,kn8,hok8⟩:=H8.out
   unfold pu6 at t8 h8 hs8 hT8 kn8 hok8
   obtain⟨d0,d1,d2,d3,d4,d5⟩:=t8.cells
   refine⟨rfl,.agg #[.int .i64 (k:Nat),.int .i64 0,.string ⟨#[]⟩,.slice none 0 0,.slice qa dl qc,.slice none 0 0],by simp only [results,Tryz.results75];simp [go_sem,d0,d1,d2,d3,d4,d5],kn8,?_⟩
   rw [HRf.out]
   exact⟨_,rfl,_,nr,hT8,hok8,h8,hnr2,hs8.sub (fun g hg=>hg.elim .inl (fun h=>.inr (.inr h))) (fun g hg=>.inl (hsh.old g hg))⟩
end Go.Proofs.YtahnbigkdfmpbaaGreatDoor
