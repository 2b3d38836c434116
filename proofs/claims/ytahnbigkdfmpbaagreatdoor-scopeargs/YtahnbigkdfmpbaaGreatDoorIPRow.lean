/- Variables that hold trees; rows of trees that a rule owns. -/
import Derived.Test.YtahnbigkdfmpbaaGreatDoorIPA
set_option linter.unusedVariables false
set_option linter.unusedSimpArgs false
namespace Go.Proofs.YtahnbigkdfmpbaaGreatDoor
open Go.RowKit
def But (n x:Nat) (g:Nat):Prop:=n≤g∧g≠x
theorem TrIn.kpB {n x b:Nat} {w w':World} {t:Tr} {v:Value} (h:TrIn (But n x) w t v) (hk:Kp b w w') (hb:b<n):TrIn (But n x) w' t v:=h.keep hk.size (fun _ h=>h) (fun g h1 h2=>hk.block g h2 (by have:=h1.1;omega))
theorem TrIn.putB {n x i:Nat} {w:World} {t:Tr} {v:Value} (h:TrIn (But n x) w t v) (u:Value):TrIn (But n x) (w.setCell ⟨x,i,none⟩ u) t v :=
 h.keep (by simp [World.setCell]) (fun _ h=>h) (fun g h1 _=>Below.heap_setCell _ _ _ _ h1.2)
theorem TrIn.putB5 {n x:Nat} {w:World} {t:Tr} {v:Value} (h:TrIn (But n x) w t v) (u0 u1 u2 u3 u4:Value):TrIn (But n x) (pu5 w x u0 u1 u2 u3 u4) t v:=((((h.putB _).putB _).putB _).putB _).putB _
theorem TrIn.putE {n x:Nat} {w W:World} {t:Tr} {v:Value} {u0 u1 u2 u3 u4:Value} (h:TrIn (But n x) w t v) (hw:W=pu5 w x u0 u1 u2 u3 u4):TrIn (But n x) W t v:=by subst hw;exact h.putB5 _ _ _ _ _
theorem NmIn.putE {n x:Nat} {w W:World} {t:List Bs} {v:Value} {u0 u1 u2 u3 u4:Value} (h:NmIn (But n x) w t v) (hw:W=pu5 w x u0 u1 u2 u3 u4):NmIn (But n x) W t v:=by
 subst hw
 refine h.keep (by rw [put5_size];exact Nat.le_refl _) (fun _ h=>h) (fun g h1 _=>?_)
 unfold pu5
 rw [Below.heap_setCell _ _ _ _ h1.2,Below.heap_setCell _ _ _ _ h1.2,Below.heap_setCell _ _ _ _ h1.2,Below.heap_setCell _ _ _ _ h1.2,Below.heap_setCell _ _ _ _ h1.2]
theorem NmIn.fromB {n x:Nat} {w:World} {t:List Bs} {v:Value} (h:NmIn (But n x) w t v):NmIn (From n) w t v:=h.keep (Nat.le_refl _) (fun g hg=>hg.1) (fun _ _ _=>rfl)
theorem TrIn.toB {n m x:Nat} {w:World} {t:Tr} {v:Value} (h:TrIn (From m) w t v) (h1:n≤m) (h2:x<m):TrIn (But n x) w t v:=h.keep (Nat.le_refl _) (fun g hg=>⟨Nat.le_trans h1 hg,by unfold From at hg;omega⟩) (fun _ _ _=>rfl)
theorem TrIn.bounded {ok:Nat→Prop} {w:World} {t:Tr} {v:Value} (h:TrIn ok w t v):TrIn (fun g=>ok g∧g<w.heap.size) w t v:=by
 have hN:∀ {ns vn},NmIn ok w ns vn→NmIn (fun g=>ok g∧g<w.heap.size) w ns vn:=by
  rintro ns vn (⟨a,cap,rfl,rfl⟩ | ⟨g,off,cap,hL,hok,hg,hc,rfl⟩)
  ·exact .nil a cap
  ·exact .row _ g off cap hL ⟨hok,hg⟩ hg hc
 exact h (TrIn (fun g=>ok g∧g<w.heap.size) w) ⟨fun k nm ns p a cap vn hn=>.leaf k nm ns p a cap vn (hN hn),fun k nm kids ns p vn g off cap U hL hn hok hg hc ih=>.node k nm kids ns p vn g off cap U hL (hN hn) ⟨hok,hg⟩ hg hc ih⟩
theorem TrIn.ahead {n x:Nat} {w w':World} {t:Tr} {v:Value} (h:TrIn (From n) w t v) (hx:w.heap.size≤x) (hb:Below w.heap.size w w'):TrIn (But n x) w' t v :=
 (TrIn.bounded h).keep hb.size (fun g hg=>⟨hg.1,by have:=hg.2;omega⟩) (fun g _ hg=>hb.block g hg)
theorem NmIn.ahead {n x:Nat} {w w':World} {t:List Bs} {v:Value} (h:NmIn (From n) w t v) (hx:w.heap.size≤x) (hb:Below w.heap.size w w'):NmIn (But n x) w' t v:=by
 rcases h with ⟨a,cap,rfl,rfl⟩|⟨g,off,cap,hL,hok,hg,hc,rfl⟩
 ·exact .nil a cap
 ·exact .row _ g off cap hL ⟨hok,by omega⟩ (Nat.lt_of_lt_of_le hg hb.size) (fun j n hj=>(hb.cell (p:=⟨g,off+j,none⟩) hg).trans (hc j n hj))
theorem TrIn.fromB {n x:Nat} {w:World} {t:Tr} {v:Value} (h:TrIn (But n x) w t v):TrIn (From n) w t v:=h.keep (Nat.le_refl _) (fun g hg=>hg.1) (fun _ _ _=>rfl)
theorem blk_put (w:World) (x:Nat) (o0 o1 o2 o3 o4 u0 u1 u2 u3 u4:Value) (h:Blk w x o0 o1 o2 o3 o4):Blk (pu5 w x u0 u1 u2 u3 u4) x u0 u1 u2 u3 u4:=by
 unfold Blk at h ⊢
 unfold pu5
 simp [World.setCell,Array.getElem?_modify,h]
def TVar (n x:Nat) (w:World) (t:Tr):Prop:=∃ ka kc na nc,Blk w x (.int .i64 (t.kind:Nat)) (.string (bs t.name)) (.slice ka t.kids.length kc) (.slice na t.names.length nc) (.int .i64 (t.at_:Nat)) ∧
 TrIn (But n x) w t (.agg #[.int .i64 (t.kind:Nat),.string (bs t.name),.slice ka t.kids.length kc,.slice na t.names.length nc,.int .i64 (t.at_:Nat)])
theorem TVar.kp {n x b:Nat} {w w':World} {t:Tr} (h:TVar n x w t) (hk:Kp b w w') (hb:b<n) (hx:b<x):TVar n x w' t:=by
 obtain⟨ka,kc,na,nc,h1,h2⟩:=h
 exact⟨ka,kc,na,nc,h1.kp hk h1.lt hx,h2.kpB hk hb⟩
theorem TVar.put {n x:Nat} {w:World} {t:Tr} {o0 o1 o2 o3 o4:Value} {ka na:Option Addr} {kc nc:Nat} (hb:Blk w x o0 o1 o2 o3 o4) (h:TrIn (But n x) w t (.agg #[.int .i64 (t.kind:Nat),.string (bs t.name),.slice ka t.kids.length kc,.slice na t.names.length nc,.int .i64 (t.at_:Nat)])) :
  TVar n x (pu5 w x (.int .i64 (t.kind:Nat)) (.string (bs t.name)) (.slice ka t.kids.length kc) (.slice na t.names.length nc) (.int .i64 (t.at_:Nat))) t :=
 ⟨ka,kc,na,nc,blk_put w x _ _ _ _ _ _ _ _ _ _ hb,h.putB5 _ _ _ _ _⟩
theorem NmIn.kpB {n x b:Nat} {w w':World} {t:List Bs} {v:Value} (h:NmIn (But n x) w t v) (hk:Kp b w w') (hb:b<n):NmIn (But n x) w' t v:=h.keep hk.size (fun _ h=>h) (fun g h1 h2=>hk.block g h2 (by have:=h1.1;omega))
theorem NmIn.putB {n x i:Nat} {w:World} {t:List Bs} {v:Value} (h:NmIn (But n x) w t v) (u:Value):NmIn (But n x) (w.setCell ⟨x,i,none⟩ u) t v :=
 h.keep (by simp [World.setCell]) (fun _ h=>h) (fun g h1 _=>Below.heap_setCell _ _ _ _ h1.2)
theorem NmIn.toB {n m x:Nat} {w:World} {t:List Bs} {v:Value} (h:NmIn (From m) w t v) (h1:n≤m) (h2:x<m):NmIn (But n x) w t v:=h.keep (Nat.le_refl _) (fun g hg=>⟨Nat.le_trans h1 hg,by unfold From at hg;omega⟩) (fun _ _ _=>rfl)
theorem Blk.set1 {w:World} {x:Nat} {v0 v1 v2 v3 v4:Value} (h:Blk w x v0 v1 v2 v3 v4) (u:Value):Blk (w.setCell ⟨x,1,none⟩ u) x v0 u v2 v3 v4:=by unfold Blk at h ⊢; simp [World.setCell,Array.getElem?_modify,h]
theorem Blk.set2 {w:World} {x:Nat} {v0 v1 v2 v3 v4:Value} (h:Blk w x v0 v1 v2 v3 v4) (u:Value):Blk (w.setCell ⟨x,2,none⟩ u) x v0 v1 u v3 v4:=by unfold Blk at h ⊢; simp [World.setCell,Array.getElem?_modify,h]
theorem Blk.set3 {w:World} {x:Nat} {v0 v1 v2 v3 v4:Value} (h:Blk w x v0 v1 v2 v3 v4) (u:Value):Blk (w.setCell ⟨x,3,none⟩ u) x v0 v1 v2 u v4:=by unfold Blk at h ⊢; simp [World.setCell,Array.getElem?_modify,h]
theorem heap_put {w:World} {x i k:Nat} {u:Value} (h:k≠x):(w.setCell ⟨x,i,none⟩ u).heap[k]? = w.heap[k]?:=Below.heap_setCell _ _ _ _ h
def KOk (n x:Nat) (v:Value) (g:Nat):Prop:=n≤g∧g≠x∧some g≠v.ownBlock
def kidV (vals:List Value) (j:Nat):Value:=agg5 fun i=>vals.getD (j*5+i) undef
def KRow (n x:Nat) (w:World) (v:Value) (kids:List Tr):Prop:=∃ vals,w.ownsRow n 26 5 v kids.length vals∧some x≠v.ownBlock∧(∀ j kid,kids[j]? = some kid→TrIn (KOk n x v) w kid (kidV vals j))∧kids.length≤2000001
theorem KRow.nil (n x:Nat) (w:World):KRow n x w (.slice none 0 0) []:=⟨[],World.ownsRow_nil _ _ _ _,by simp [Value.ownBlock],fun j kid h=>by simp at h,by simp⟩
theorem owns_keep {w w':World} {n e s:Nat} {v:Value} {m:Nat} {vals:List Value} (h:w.ownsRow n e s v m vals) (hb:∀ g,v.ownBlock=some g→w'.heap[g]? = w.heap[g]?):w'.ownsRow n e s v m vals:=by
 obtain⟨h1,h2⟩:=h
 refine⟨h1,?_⟩
 rcases h2 with h2|⟨g,cap,cur,rfl,hg,hh,r⟩
 ·exact .inl h2
 ·exact .inr ⟨g,cap,cur,rfl,hg,(hb g rfl).trans hh,r⟩
theorem KRow.kp {n x b:Nat} {w w':World} {v:Value} {kids:List Tr} (h:KRow n x w v kids) (hk:Kp b w w') (hb:b<n):KRow n x w' v kids:=by
 obtain⟨vals,h1,h2,h3,hL⟩:=h
 have hlt:=World.ownsRow.lt h1
 exact⟨vals,owns_keep h1 (fun g hg=>hk.block g (hlt g hg).2 (by have:=(hlt g hg).1;omega)),h2,fun j kid hj=>(h3 j kid hj).keep hk.size (fun _ h=>h) (fun g h1 h2=>hk.block g h2 (by have:=h1.1;omega)),hL⟩
theorem KRow.put {n x i:Nat} {w:World} {v:Value} {kids:List Tr} (h:KRow n x w v kids) (u:Value):KRow n x (w.setCell ⟨x,i,none⟩ u) v kids:=by
 obtain⟨vals,h1,h2,h3,hL⟩:=h
 exact⟨vals,owns_keep h1 (fun g hg=>heap_put (fun e=>h2 (by rw [hg,e]))),h2,fun j kid hj=>(h3 j kid hj).keep (by simp [World.setCell]) (fun _ h=>h) (fun g h1 h2=>heap_put h1.2.1),hL⟩
theorem KRow.form {n x:Nat} {w:World} {v:Value} {kids:List Tr} (h:KRow n x w v kids):∃ a cap,v=.slice a kids.length cap:=by
 obtain⟨vals,⟨h1,⟨rfl,h2⟩ | ⟨g,cap,cur,rfl,_⟩⟩,_⟩:=h
 ·exact⟨none,0,by rw [h2]⟩
 ·exact⟨_,cap,rfl⟩
theorem KRow.form2 {n x:Nat} {w:World} {v:Value} {kids:List Tr} (h:KRow n x w v kids):∃ a l cap,v=.slice a l cap:=let ⟨a,cap,e⟩:=h.form;⟨a,_,cap,e⟩
theorem KRow.tree {n x:Nat} {w:World} {v vn:Value} {kids:List Tr} (h:KRow n x w v kids) (k:Nat) (nm:Bs) (ns:List Bs) (p:Nat) (hm:NmIn (But n x) w ns vn) :
  TrIn (But n x) w (.mk k nm kids ns p) (.agg #[.int .i64 (k:Nat),.string (bs nm),v,vn,.int .i64 (p:Nat)]):=by
 obtain⟨vals,h1,h2,h3,hL⟩:=h
 have h1':=h1
 obtain⟨hl,⟨rfl,h0⟩ | ⟨g,cap,cur,rfl,hg,_⟩⟩:=h1
 ·obtain rfl:=List.length_eq_zero_iff.1 h0
  exact .leaf k nm ns p none 0 vn hm
 ·refine .node k nm kids ns p vn g 0 cap (fun j i=>vals.getD (j*5+i) undef) (by omega) hm ⟨hg,fun e=>h2 (by rw [e];rfl)⟩ (World.ownsRow.lt h1' g rfl).2 ?_ ?_
  ·intro j hj i hi
   rw [Nat.zero_add,World.ownsRow.cellAt h1' (j*5+i) (by omega)]
   have hlt:j*5+i<vals.length:=by omega
   rw [List.getD_eq_getElem?_getD,List.getElem?_eq_getElem hlt]
   rfl
  ·intro j kid hj
   exact (h3 j kid hj).keep (Nat.le_refl _) (fun g hg=>⟨hg.1,hg.2.1⟩) (fun _ _ _=>rfl)
theorem append_tree {n x m:Nat} {w:World} {v:Value} {kids:List Tr} {t:Tr} {a0 a1 a2 a3 a4:Value} {ad:Nat} (ty:TypeId) (h:KRow n x w v kids) (ht:TrIn (From m) w t (.agg #[a0,a1,a2,a3,a4])) (hone:∀ u∈[a0,a1,a2,a3,a4],u.oneCell'=true)
  (hm:∀ g,v.ownBlock=some g→g<m) (hx:x<m) (hn:n≤m) (hc:∀ j u,[a0,a1,a2,a3,a4][j]? = some u→w.cell? ⟨ad,j,none⟩=some u) (hl:kids.length≤2000000) (hnw:n≤w.heap.size) (hxw:x<w.heap.size) :
  ∃ v' w',(Builtin.append_ #[24,24] ty #[v,.slice (some ⟨ad,0,none⟩) 1 1]).run Tryz.prog w=.ok v' w'∧KRow n x w' v' (kids ++ [t])∧w.grownBy w' v.ownBlock:=by
 obtain⟨vals,h1,h2,h3,hL⟩:=h
 obtain⟨i0,hi,hz0,hz1,hz2⟩:=info_parts Tryz.infoTree
 obtain⟨v',w',hrun,r1,r2,_,r4⟩:=run_append_own_at (P:=Tryz.prog) w n 24 ty 26 i0 _ 5 80 Tryz.underlying24 hi hz0 hz1 hz2 rfl (by decide) v kids.length vals h1 ⟨ad,0,none⟩ 1 1 [a0,a1,a2,a3,a4] rfl (by
  intro j u hj
  rw [Addr.add_lit,Nat.zero_add]
  exact hc j u hj) hone (by unfold maxLen;omega) (by omega) hnw
 have hlt:=World.ownsRow.lt h1
 refine⟨v',w',hrun,⟨vals ++ [a0,a1,a2,a3,a4],by rw [List.length_append];exact r1,?_,?_,by rw [List.length_append];simp;omega⟩,r2⟩
 ·rcases r4 with h|h
  ·rw [h];exact h2
  ·rw [h];intro e;injection e with e;omega
 ·have hvl:vals.length=kids.length*5:=h1.1
  intro j kid hj
  rcases Nat.lt_or_ge j kids.length with hlt2|hge
  ·rw [List.getElem?_append_left hlt2] at hj
   have he:kidV (vals ++ [a0,a1,a2,a3,a4]) j=kidV vals j:=by
    unfold kidV agg5
    simp only [List.getD_eq_getElem?_getD]
    rw [List.getElem?_append_left (by omega),List.getElem?_append_left (by omega),List.getElem?_append_left (by omega),List.getElem?_append_left (by omega),List.getElem?_append_left (by omega)]
   rw [he]
   have h4:=h3 j kid hj
   have h5:TrIn (fun g=>KOk n x v g∧g<w.heap.size) w kid (kidV vals j):=TrIn.bounded h4
   refine h5.keep r2.size (fun g hg=>⟨hg.1.1,hg.1.2.1,?_⟩) (fun g h6 h7=>r2.block g h7 h6.1.2.2)
   rcases r4 with h|h
   ·rw [h];exact hg.1.2.2
   ·rw [h];intro e;injection e with e;have:=hg.2;omega
  ·have hj1:j=kids.length:=by
    rcases Nat.lt_or_ge j (kids.length+1) with h|h
    ·omega
    ·rw [List.getElem?_eq_none (by simp;omega)] at hj;cases hj
   subst hj1
   rw [List.getElem?_append_right (Nat.le_refl _),Nat.sub_self] at hj
   obtain rfl:t=kid:=by simpa using hj
   have he:kidV (vals ++ [a0,a1,a2,a3,a4]) kids.length=.agg #[a0,a1,a2,a3,a4]:=by
    unfold kidV agg5
    simp only [List.getD_eq_getElem?_getD]
    rw [List.getElem?_append_right (by omega),List.getElem?_append_right (by omega),List.getElem?_append_right (by omega),List.getElem?_append_right (by omega),List.getElem?_append_right (by omega),hvl]
    simp only [Nat.add_sub_cancel_left]
    rfl
   rw [he]
   have h5:=TrIn.bounded ht
   refine h5.keep r2.size (fun g hg=>⟨Nat.le_trans hn hg.1,fun e=>by have:=hg.1;unfold From at this;omega,?_⟩) (fun g h6 h7=>r2.block g h7 (fun e=>by have:=hm g e.symm;have:=h6.1;unfold From at this;omega))
   rcases r4 with h|h
   ·rw [h];intro e;have:=hm g e.symm;have:=hg.1;unfold From at this;omega
   ·rw [h];intro e;injection e with e;have:=hg.2;omega
theorem Kp.grownK {b n x:Nat} {w0 w w':World} {v:Value} {kids:List Tr} (h:Kp b w0 w) (hr:KRow n x w v kids) (hg:w.grownBy w' v.ownBlock) (h0:w0.heap.size≤n):Kp b w0 w':=by
 obtain⟨vals,h1,h2,h3,hL⟩:=hr
 have hlt:=World.ownsRow.lt h1
 exact⟨hg.os.trans h.os,hg.tape.trans h.tape,hg.output.trans h.output,Nat.le_trans h.size hg.size,fun k hk hb=>(hg.block k (Nat.lt_of_lt_of_le hk h.size) (fun e=>by have:=(hlt k e.symm).1;omega)).trans (h.block k hk hb)⟩
theorem Rdr.In.grownK {r:Rdr} {n x:Nat} {w w':World} {v:Value} {kids:List Tr} {R:Ts} (h:r.In w R) (hr:KRow n x w v kids) (hg:w.grownBy w' v.ownBlock) (hb:r.b<n):r.In w' R:=by
 obtain⟨vals,h1,h2,h3,hL⟩:=hr
 have hlt:=World.ownsRow.lt h1
 have hB:∀ k,k≤r.b→w'.heap[k]? = w.heap[k]?:=fun k hk=>hg.block k (by have:=h.lt;omega) (fun e=>by have:=(hlt k e.symm).1;omega)
 have hBl:Below (r.b+1) w w':=⟨hg.os,hg.tape,hg.output,hg.size,fun k hk=>hB k (by omega)⟩
 exact⟨⟨h.lt.1,Nat.lt_of_lt_of_le h.lt.2 hg.size⟩,(hBl.cell (Nat.lt_succ_self _)).trans h.c0,let ⟨P,h1,h2⟩:=h.pre;⟨P,h1,(hBl.cell (Nat.lt_succ_self _)).trans h2⟩,(hBl.frozen (Nat.lt_succ_self _)).trans h.fz,h.toks.below hBl (by have:=h.lt;omega)⟩
theorem Blk.grownK {n x:Nat} {w w':World} {v:Value} {kids:List Tr} {v0 v1 v2 v3 v4:Value} (h:Blk w x v0 v1 v2 v3 v4) (hr:KRow n x w v kids) (hg:w.grownBy w' v.ownBlock):Blk w' x v0 v1 v2 v3 v4:=by
 obtain⟨vals,h1,h2,h3,hL⟩:=hr
 exact (hg.block x h.lt h2).trans h
theorem KRow.own {n x:Nat} {w:World} {v:Value} {kids:List Tr} (h:KRow n x w v kids):∀ g,v.ownBlock=some g→g<w.heap.size:=by
 obtain⟨vals,h1,h2,h3,hL⟩:=h
 exact fun g hg=>(World.ownsRow.lt h1 g hg).2
theorem step_append_tree {ops:Array Oper} {o:Oper} {a:Act} {w:World} {K:Act→World→Prop} {Q:Exit→Act→World→Prop} {E:Prop}
  (hgd:o.guard=none) (s y:Operand) (ho:o.op=.call { callee:=.builtin .append,args:=#[s,y],argTypes:=#[24,24] }) {n x m:Nat} {v:Value} {kids:List Tr} {t:Tr} {a0 a1 a2 a3 a4:Value} {ad:Nat} (hs:a.eval s=v) (hy:a.eval y=.slice (some ⟨ad,0,none⟩) 1 1)
  (h:KRow n x w v kids) (ht:TrIn (From m) w t (.agg #[a0,a1,a2,a3,a4])) (hone:∀ u∈[a0,a1,a2,a3,a4],u.oneCell'=true)
  (hm:∀ g,v.ownBlock=some g→g<m) (hx:x<m) (hn:n≤m) (hc:∀ j u,[a0,a1,a2,a3,a4][j]? = some u→w.cell? ⟨ad,j,none⟩=some u) (hl:kids.length≤2000000) (hnw:n≤w.heap.size) (hxw:x<w.heap.size)
  (hK:∀ v' w',KRow n x w' v' (kids ++ [t])→w.grownBy w' v.ownBlock→K (a.put o.dst v') w') :
  if Region.wanted o (yielded ops a.tmps)=true then Oper.wp Tryz.prog o a w K Q else E:=by
 have hw:Region.wanted o (yielded ops a.tmps)=true:=by simp [Region.wanted,hgd]
 rw [if_pos hw]
 obtain⟨v',w',hrun,r1,r2⟩:=append_tree o.type h ht hone hm hx hn hc hl hnw hxw
 unfold Oper.wp
 simp [execOp,ho,resolve,invoke,builtin,hs,hy,hrun,Result.andThen]
 exact hK v' w' r1 r2
theorem one_cells (t:Tr) (ka na:Option Addr) (kc nc kl nl:Nat):∀ u∈[Value.int .i64 (t.kind:Nat),.string (bs t.name),.slice ka kl kc,.slice na nl nc,.int .i64 (t.at_:Nat)],u.oneCell'=true:=by
 intro u hu
 simp at hu
 rcases hu with rfl|rfl|rfl|rfl|rfl <;> rfl
theorem rule_oneA {r:Rdr} {w w1 w9:World} {n m:Nat} {k:Nat} {nm:Bs} {ns:List Bs} {p:Nat} {a:Tr} {vn a0 a1 a2 a3 a4:Value} {R:Ts} {X:Rs Tr} (hX:X=.ok (.mk k nm [a] ns p) R) (hB1:Below w.heap.size w w1) (hn:n=w.heap.size) (hn1:n<w1.heap.size) (hI:r.In w9 R) (hlt:r.b<n) (hK:Kp r.b w1 w9) (hm9:m=w9.heap.size)
  (ha:TrIn (From w1.heap.size) w9 a (.agg #[a0,a1,a2,a3,a4])) (hm:NmIn (From w1.heap.size) w9 ns vn) (u0 u1 u2 u3 u4:Value) :
  Out r w (TrV w.heap.size) X (.returned (.agg #[.int .i64 (k:Nat),.string (bs nm),.slice (some ⟨m,0,none⟩) 1 1,vn,.int .i64 (p:Nat)])) ((pu5 w9 n u0 u1 u2 u3 u4).alloc (.cells #[a0,a1,a2,a3,a4] 26)):=by
 subst hn hm9
 have hal:=below_alloc (pu5 w9 w.heap.size u0 u1 u2 u3 u4) (.cells #[a0,a1,a2,a3,a4] 26)
 have hsz:=hK.size
 refine Out.ok_of hX (TrIn.from (n:=w1.heap.size) ?_ (Nat.le_of_lt hn1)) ((hI.put5 hlt _ _ _ _ _).below hal) ((((Kp.of_below hB1).trans hK).put5 (Nat.le_refl _) _ _ _ _ _).alloc _)
 exact TrIn.one k nm ns p ((ha.put5 hn1 _ _ _ _ _).blw hal) ((hm.put5 hn1 _ _ _ _ _).blw hal) hsz (by simp [put5_size]) (fun j x hj=>new_cell _ _ _ _ j x (by rw [put5_size]) hj)
theorem set_size (w:World) (p:Addr) (u:Value):(w.setCell p u).heap.size=w.heap.size:=by simp [World.setCell]
def RuleD (r:Rdr) (fid:FuncId) (P:Nat→Ts→Rs Tr):Prop:=∀ (l:Nat) (R:Ts) (w:World),l≤200→r.In w R→NF (P l R)→Calls Tryz.prog fid #[r.ptr,.int .i64 (l:Nat)] w (Out r w (TrV w.heap.size) (P l R))
def RuleC0 (r:Rdr) (fid:FuncId) (P:Ts→Rs Tr):Prop:=∀ (R:Ts) (w:World),r.In w R→NF (P R)→Calls Tryz.prog fid #[r.ptr] w (Out r w (TrV w.heap.size) (P R))
theorem names_one (w:World) (n:Bs):NmIn (From w.heap.size) (w.alloc (.cells #[.string (bs n)] 9)) [n] (.slice (some ⟨w.heap.size,0,none⟩) 1 1):=(owns_one w w.heap.size n (Nat.le_refl _)).nm (by simp)
theorem rename_two {ok:Nat→Prop} {w:World} {k:Nat} {a b:Tr} {v0 v1 v2 v3 v4 vn:Value} (h:TrIn ok w (two k a b) (.agg #[v0,v1,v2,v3,v4])) (ns:List Bs) (p:Nat) (hn:NmIn ok w ns vn):TrIn ok w (.mk k [] [a,b] ns p) (.agg #[v0,v1,v2,vn,.int .i64 (p:Nat)]):=by
 rcases h.inv with ⟨k,nm,ns,p,a,cap,vn,hn,e1,e2⟩|⟨k,nm,kids,ns,p,vn,g,off,cap,U,hL,hn0,hok,hg,hc,hk,e1,e2⟩
 ·cases e1
 ·cases e1;cases e2
  exact .node _ [] [a,b] _ _ _ g off cap U hL hn hok hg hc hk
end Go.Proofs.YtahnbigkdfmpbaaGreatDoor
