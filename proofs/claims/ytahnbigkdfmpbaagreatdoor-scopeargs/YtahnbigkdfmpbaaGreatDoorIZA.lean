/- The plain mathematics of layer 9: terms, words, names, and which term a tree is. Terms in memory; worlds in which some blocks are as they were. Steps of regions that draw their order: look-ups and stores of maps, appends, calls. Names of variables, and of dimensions, in memory: how many there are, and where each stands. The innermost one of a name; names that are taken out again. -/
import Derived.Test.YtahnbigkdfmpbaaGreatDoorIMMath
import Derived.Test.YtahnbigkdfmpbaaGreatDoorISA
import Derived.Maps.GroupsBeside
import Derived.Deep.RegionHeld3
import Derived.Deep.DrawnRows
import Derived.Deep.QuietTactic
import Derived.BigQuiet
import Derived.WalkSmall
set_option linter.unusedVariables false
set_option linter.unusedSimpArgs false
namespace Go.Proofs.YtahnbigkdfmpbaaGreatDoor
abbrev Cl:=Fin 4294967296 × Fin 4294967296
structure Tm where
 mk ::
 kind:Nat
 n:Nat
 name:Bs
 r:List Cl
 kids:List Tm
 sys:List (List Cl × List Tm)
def tmK (k:Nat) (kids:List Tm):Tm:=.mk k 0 [] [] kids []
def wdR:List (Bs × Nat × List Nat):=[
 ([83,117,115,112,101,108,105,109],27,[2,0,0,0,0]),([83,49,101,108,105,109],22,[2,0,0,0]),([104,99,111,109,112],15,[0,4,0]),([116,114,97,110,115,112],14,[1,3,0]),([80,97,116,104],11,[1,0,0]),
 ([71,108,117,101],16,[0,5]),([103,108,117,101],17,[0,6]),([109,101,114,105,100],26,[0]),([117,110,103,108,117,101],18,[0]),([83,117,115,112],23,[0]),([115,110,100],10,[0]),([102,115,116],9,[0]),
 ([108,111,111,112],21,[]),([115,111,117,116,104],25,[]),([110,111,114,116,104],24,[]),([98,97,115,101],20,[]),([83,49],19,[]),([85],3,[])]
def findW:List (Bs × Nat × List Nat)→Bs→Option (Nat × List Nat)
 | [],_=>none
 | (k,x) :: l,s=>if k=s then some x else findW l s
def wordT (s:Bs):Option (Nat × List Nat):=findW wdR s
def isWd (s:Bs):Bool:=(wordT s).isSome
def wdOf (s:Bs):Nat × List Nat:=(wordT s).getD (0,[])
def posR (s:Bs):Nat→List Bs→List Int
 | _,[]=>[]
 | k,x :: l=>if x=s then (k:Int) :: posR s (k+1) l else posR s (k+1) l
theorem pos_app (s:Bs):∀ (k:Nat) (l m:List Bs),posR s k (l++m)=posR s k l++posR s (k+l.length) m
 | k,[],m=>by simp [posR]
 | k,x :: l,m=>by
  have ih:=pos_app s (k+1) l m
  have e:k+1+l.length=k+(x :: l).length:=by simp;omega
  rw [e] at ih
  have c:∀ (k:Nat) (l:List Bs),posR s k (x :: l)=if x=s then (k:Int) :: posR s (k+1) l else posR s (k+1) l:=fun _ _=>rfl
  rw [List.cons_append,c,c,ih]
  split <;> rfl
theorem pos_len (s:Bs):∀ (k:Nat) (l:List Bs),(posR s k l).length≤l.length
 | _,[]=>by simp [posR]
 | k,x :: l=>by
  have:=pos_len s (k+1) l
  unfold posR
  split <;> simp <;> omega
theorem pos_last {s:Bs} {l:List Bs} {x:Int} (h:(posR s 0 l).getLast? = some x):0≤x∧x<(l.length:Int):=by
 have key:∀ (k:Nat) (l:List Bs) (y:Int),y∈posR s k l→(k:Int)≤y∧y<(k:Int) + l.length:=by
  intro k l
  induction l generalizing k with
  | nil=>intro y hy;cases hy
  | cons z l ih =>
   intro y hy
   unfold posR at hy
   have hl:((z :: l).length:Int)=(l.length:Int) + 1:=by simp
   split at hy
   ·rcases List.mem_cons.1 hy with rfl|hy
    ·omega
    ·have:=ih (k+1) y hy;omega
   ·have:=ih (k+1) y hy;omega
 have:=key 0 l x (List.mem_of_getLast? h)
 omega
def fndR (s:Bs) (l:List Bs):Option Nat:=(posR s 0 l).getLast?.map fun x=>l.length - 1 - x.toNat
abbrev Rz (α:Type):=Option (Sum (Int × Nat) α)
def Rz.bnd {α β:Type} (x:Rz α) (k:α→Rz β):Rz β:=match x with
 | none=>none
 | some (.inl p)=>some (.inl p)
 | some (.inr a)=>k a
def refuse {α:Type} (t:Sx) (e:Nat):Rz α:=some (.inl (t.at_,e))
structure Sg where
 g:List Bs
 v:List Bs
 d:List Bs
def spineR:Nat→Sx→Sx × List Sx
 | 0,t=>(t,[])
 | f+1,t=>if t.kind=6 then ((spineR f (kd t 0)).1,kd t 1 :: (spineR f (kd t 0)).2) else (t,[])
def inAllF (k:Nat):Nat→Tm→Tm
 | 0,t=>t
 | m+1,t=>inAllF k m (tmK k [t])
def namedF (σ:Sg) (h:Sx):Rz Tm:=match fndR h.name σ.v with
 | some n=>some (.inr (.mk 1 n [] [] [] []))
 | none=>if h.name∈σ.g then some (.inr (.mk 2 0 h.name [] [] [])) else refuse h 90
end Go.Proofs.YtahnbigkdfmpbaaGreatDoor
namespace Go.Proofs.YtahnbigkdfmpbaaGreatDoor
open Go.RowKit
structure Kn (No:Nat→Prop) (w w':World):Prop where
 os:w'.os=w.os
 tape:w'.tape=w.tape
 output:w'.output=w.output
 size:w.heap.size≤w'.heap.size
 block:∀ k,No k→k<w.heap.size→w'.heap[k]? = w.heap[k]?
theorem Kn.refl (No:Nat→Prop) (w:World):Kn No w w:=⟨rfl,rfl,rfl,Nat.le_refl _,fun _ _ _=>rfl⟩
theorem Kn.trans {No:Nat→Prop} {w1 w2 w3:World} (h:Kn No w1 w2) (k:Kn No w2 w3):Kn No w1 w3 :=
 ⟨k.os.trans h.os,k.tape.trans h.tape,k.output.trans h.output,Nat.le_trans h.size k.size,fun i hi hb=>(k.block i hi (Nat.lt_of_lt_of_le hb h.size)).trans (h.block i hi hb)⟩
theorem Kn.sub {No No':Nat→Prop} {w w':World} (h:Kn No w w') (hs:∀ g,No' g→No g):Kn No' w w':=⟨h.os,h.tape,h.output,h.size,fun k hk hb=>h.block k (hs k hk) hb⟩
theorem Kn.of_below {No:Nat→Prop} {w w':World} (h:Below w.heap.size w w'):Kn No w w':=⟨h.os,h.tape,h.output,h.size,fun k _ hb=>h.block k hb⟩
theorem Kn.below {No:Nat→Prop} {n:Nat} {w w':World} (h:Kn No w w') (hn:∀ g,g<n→No g) (hs:n≤w.heap.size):Below n w w':=⟨h.os,h.tape,h.output,h.size,fun k hk=>h.block k (hn k hk) (Nat.lt_of_lt_of_le hk hs)⟩
theorem Kn.cell {No:Nat→Prop} {w w':World} (h:Kn No w w') {p:Addr} (hp:No p.block) (hs:p.block<w.heap.size):w'.cell? p=w.cell? p:=World.cell?_of_block (w:=w) (h.block p.block hp hs)
theorem Kn.frozen {No:Nat→Prop} {w w':World} (h:Kn No w w') {p:Addr} (hp:No p.block) (hs:p.block<w.heap.size):w'.frozen? p=w.frozen? p:=World.frozen?_of_block (w:=w) (h.block p.block hp hs)
theorem Kn.drew {No:Nat→Prop} {w w':World} (h:Kn No w w'):Kn No w w'.drew:=⟨h.os,h.tape,h.output,h.size,h.block⟩
theorem Kn.alloc {No:Nat→Prop} {w w':World} (h:Kn No w w') (o:Obj):Kn No w (w'.alloc o):=h.trans (Kn.of_below (below_alloc w' o))
theorem Kn.setCell {No:Nat→Prop} {w w':World} (h:Kn No w w') {p:Addr} (hp:¬ No p.block∨w.heap.size≤p.block) (u:Value):Kn No w (w'.setCell p u):=by
 refine⟨h.os,h.tape,h.output,by simpa [World.setCell] using h.size,fun k hk hb=>(Below.heap_setCell _ _ _ _ ?_).trans (h.block k hk hb)⟩
 rcases hp with hp|hp
 ·intro e
  subst e
  exact hp hk
 ·omega
theorem Kn.grown {No:Nat→Prop} {w w1 w2:World} {row:Option Nat} (h:Kn No w w1) (hg:w1.grownBy w2 row) (hr:∀ g,row=some g→¬ No g):Kn No w w2 :=
 h.trans ⟨hg.os,hg.tape,hg.output,hg.size,fun k hk hb=>hg.block k hb fun e=>hr k e.symm hk⟩
def ClRow (ok:Nat→Prop) (w:World) (l:List Cl) (v:Value):Prop :=
 ∃ a cap,v=.slice a l.length cap∧l.length≤cap∧∀ (j:Nat) (c:Cl),l[j]? = some c→∃ g off,a=some ⟨g,off,none⟩∧ok g∧g<w.heap.size∧w.cell? ⟨g,off+j*2,none⟩=some (.int .u32 (c.1:Nat))∧w.cell? ⟨g,off+j*2+1,none⟩=some (.int .u32 (c.2:Nat))
def KdT (ok:Nat→Prop) (w:World) (P:Tm→Value→Prop) (l:List Tm) (v:Value):Prop :=
 ∃ a cap,v=.slice a l.length cap∧l.length≤cap∧∀ (j:Nat) (x:Tm),l[j]? = some x→∃ g off u0 u1 u2 u3 u4 u5,a=some ⟨g,off,none⟩∧ok g∧g<w.heap.size∧P x (.agg #[u0,u1,u2,u3,u4,u5]) ∧
  w.cell? ⟨g,off+j*6,none⟩=some u0∧w.cell? ⟨g,off+j*6+1,none⟩=some u1∧w.cell? ⟨g,off+j*6+2,none⟩=some u2∧w.cell? ⟨g,off+j*6+3,none⟩=some u3∧w.cell? ⟨g,off+j*6+4,none⟩=some u4∧w.cell? ⟨g,off+j*6+5,none⟩=some u5
def SyT (ok:Nat→Prop) (w:World) (P:Tm→Value→Prop) (l:List (List Cl × List Tm)) (v:Value):Prop :=
 ∃ a cap,v=.slice a l.length cap∧l.length≤cap∧∀ (j:Nat) (x:List Cl × List Tm),l[j]? = some x→∃ g off vf vk,a=some ⟨g,off,none⟩∧ok g∧g<w.heap.size∧ClRow ok w x.1 vf∧KdT ok w P x.2 vk∧w.cell? ⟨g,off+j*2,none⟩=some vf∧w.cell? ⟨g,off+j*2+1,none⟩=some vk
def TmCl (ok:Nat→Prop) (w:World) (P:Tm→Value→Prop):Prop :=
 ∀ (k n:Nat) (nm:Bs) (r:List Cl) (kids:List Tm) (sys:List (List Cl × List Tm)) (vr vk vs:Value),ClRow ok w r vr→KdT ok w P kids vk→SyT ok w P sys vs→P (.mk k n nm r kids sys) (.agg #[.int .i64 (k:Nat),.int .i64 (n:Nat),.string (bs nm),vr,vk,vs])
def TmIn (ok:Nat→Prop) (w:World) (t:Tm) (v:Value):Prop:=∀ P:Tm→Value→Prop,TmCl ok w P→P t v
theorem KdT.mono {ok:Nat→Prop} {w:World} {P Q:Tm→Value→Prop} {l:List Tm} {v:Value} (h:KdT ok w P l v) (hq:∀ x v,P x v→Q x v):KdT ok w Q l v:=by
 obtain⟨a,cap,h1,h2,h3⟩:=h
 refine⟨a,cap,h1,h2,fun j x hx=>?_⟩
 obtain⟨g,off,u0,u1,u2,u3,u4,u5,a1,a2,a3,a4,a5⟩:=h3 j x hx
 exact⟨g,off,u0,u1,u2,u3,u4,u5,a1,a2,a3,hq _ _ a4,a5⟩
theorem SyT.mono {ok:Nat→Prop} {w:World} {P Q:Tm→Value→Prop} {l:List (List Cl × List Tm)} {v:Value} (h:SyT ok w P l v) (hq:∀ x v,P x v→Q x v):SyT ok w Q l v:=by
 obtain⟨a,cap,h1,h2,h3⟩:=h
 refine⟨a,cap,h1,h2,fun j x hx=>?_⟩
 obtain⟨g,off,vf,vk,a1,a2,a3,a4,a5,a6⟩:=h3 j x hx
 exact⟨g,off,vf,vk,a1,a2,a3,a4,a5.mono hq,a6⟩
theorem TmIn.mk {ok:Nat→Prop} {w:World} (k n:Nat) (nm:Bs) (r:List Cl) (kids:List Tm) (sys:List (List Cl × List Tm)) (vr vk vs:Value) (h1:ClRow ok w r vr) (h2:KdT ok w (TmIn ok w) kids vk) (h3:SyT ok w (TmIn ok w) sys vs) :
  TmIn ok w (.mk k n nm r kids sys) (.agg #[.int .i64 (k:Nat),.int .i64 (n:Nat),.string (bs nm),vr,vk,vs]) :=
 fun P h=>h k n nm r kids sys vr vk vs h1 (h2.mono fun _ _ hx=>hx P h) (h3.mono fun _ _ hx=>hx P h)
def TmTop (ok:Nat→Prop) (w:World) (t:Tm) (v:Value):Prop :=
 ∃ ra rc ka kc sa sc,v=.agg #[.int .i64 (t.kind:Nat),.int .i64 (t.n:Nat),.string (bs t.name),.slice ra t.r.length rc,.slice ka t.kids.length kc,.slice sa t.sys.length sc]∧ClRow ok w t.r (.slice ra t.r.length rc)∧KdT ok w (TmIn ok w) t.kids (.slice ka t.kids.length kc)∧SyT ok w (TmIn ok w) t.sys (.slice sa t.sys.length sc)
theorem TmIn.form {ok:Nat→Prop} {w:World} {t:Tm} {v:Value} (h:TmIn ok w t v):TmTop ok w t v:=by
 have h2:=h (fun t v=>TmIn ok w t v∧TmTop ok w t v) (fun k n nm r kids sys vr vk vs h1 h2 h3=>by
  refine⟨.mk k n nm r kids sys vr vk vs h1 (h2.mono fun _ _ h=>h.1) (h3.mono fun _ _ h=>h.1),?_⟩
  have e2:=h2.mono (Q:=TmIn ok w) fun _ _ h=>h.1
  have e3:=h3.mono (Q:=TmIn ok w) fun _ _ h=>h.1
  obtain⟨ra,rc,rfl,_⟩:=id h1
  obtain⟨ka,kc,rfl,_⟩:=id h2
  obtain⟨sa,sc,rfl,_⟩:=id h3
  exact⟨ra,rc,ka,kc,sa,sc,rfl,h1,e2,e3⟩)
 exact h2.2
theorem ClRow.keep {ok ok':Nat→Prop} {w w':World} {l:List Cl} {v:Value} (h:ClRow ok w l v) (hs:w.heap.size≤w'.heap.size) (ho:∀ g,ok g→ok' g) (hb:∀ g,ok g→g<w.heap.size→w'.heap[g]? = w.heap[g]?):ClRow ok' w' l v:=by
 obtain⟨a,cap,h1,h2,h3⟩:=h
 refine⟨a,cap,h1,h2,fun j x hx=>?_⟩
 obtain⟨g,off,a1,a2,a3,a4,a5⟩:=h3 j x hx
 exact⟨g,off,a1,ho g a2,Nat.lt_of_lt_of_le a3 hs,(World.cell?_of_block (w:=w) (a:=⟨g,off+j*2,none⟩) (hb g a2 a3)).trans a4,(World.cell?_of_block (w:=w) (a:=⟨g,off+j*2+1,none⟩) (hb g a2 a3)).trans a5⟩
theorem KdT.keep {ok ok':Nat→Prop} {w w':World} {P:Tm→Value→Prop} {l:List Tm} {v:Value} (h:KdT ok w P l v) (hs:w.heap.size≤w'.heap.size) (ho:∀ g,ok g→ok' g) (hb:∀ g,ok g→g<w.heap.size→w'.heap[g]? = w.heap[g]?):KdT ok' w' P l v:=by
 obtain⟨a,cap,h1,h2,h3⟩:=h
 refine⟨a,cap,h1,h2,fun j x hx=>?_⟩
 obtain⟨g,off,u0,u1,u2,u3,u4,u5,a1,a2,a3,a4,c0,c1,c2,c3,c4,c5⟩:=h3 j x hx
 have c:=fun i=>World.cell?_of_block (w:=w) (w':=w') (a:=⟨g,i,none⟩) (hb g a2 a3)
 exact⟨g,off,u0,u1,u2,u3,u4,u5,a1,ho g a2,Nat.lt_of_lt_of_le a3 hs,a4,(c _).trans c0,(c _).trans c1,(c _).trans c2,(c _).trans c3,(c _).trans c4,(c _).trans c5⟩
theorem TmIn.keep {ok ok':Nat→Prop} {w w':World} {t:Tm} {v:Value} (h:TmIn ok w t v) (hs:w.heap.size≤w'.heap.size) (ho:∀ g,ok g→ok' g) (hb:∀ g,ok g→g<w.heap.size→w'.heap[g]? = w.heap[g]?):TmIn ok' w' t v:=by
 refine h (TmIn ok' w') fun k n nm r kids sys vr vk vs h1 h2 h3=>.mk k n nm r kids sys vr vk vs (h1.keep hs ho hb) (h2.keep hs ho hb) ?_
 obtain⟨a,cap,e1,e2,e3⟩:=h3
 refine⟨a,cap,e1,e2,fun j x hx=>?_⟩
 obtain⟨g,off,vf,vk,a1,a2,a3,a4,a5,c0,c1⟩:=e3 j x hx
 have c:=fun i=>World.cell?_of_block (w:=w) (w':=w') (a:=⟨g,i,none⟩) (hb g a2 a3)
 exact⟨g,off,vf,vk,a1,ho g a2,Nat.lt_of_lt_of_le a3 hs,a4.keep hs ho hb,a5.keep hs ho hb,(c _).trans c0,(c _).trans c1⟩
theorem TmIn.blw {ok:Nat→Prop} {w w':World} {t:Tm} {v:Value} (h:TmIn ok w t v) (hb:Below w.heap.size w w'):TmIn ok w' t v:=h.keep hb.size (fun _ h=>h) (fun g _ hg=>hb.block g hg)
theorem TmIn.kn {ok No:Nat→Prop} {w w':World} {t:Tm} {v:Value} (h:TmIn ok w t v) (hk:Kn No w w') (ho:∀ g,ok g→No g):TmIn ok w' t v:=h.keep hk.size (fun _ h=>h) (fun g h1 h2=>hk.block g (ho g h1) h2)
theorem TmIn.up {ok ok':Nat→Prop} {w:World} {t:Tm} {v:Value} (h:TmIn ok w t v) (ho:∀ g,ok g→ok' g):TmIn ok' w t v:=h.keep (Nat.le_refl _) ho (fun _ _ _=>rfl)
theorem cl_nil (ok:Nat→Prop) (w:World):ClRow ok w [] (.slice none 0 0):=⟨none,0,rfl,Nat.le_refl _,fun j x hx=>by simp at hx⟩
theorem kt_nil (ok:Nat→Prop) (w:World) (P:Tm→Value→Prop):KdT ok w P [] (.slice none 0 0):=⟨none,0,rfl,Nat.le_refl _,fun j x hx=>by simp at hx⟩
theorem sy_nil (ok:Nat→Prop) (w:World) (P:Tm→Value→Prop):SyT ok w P [] (.slice none 0 0):=⟨none,0,rfl,Nat.le_refl _,fun j x hx=>by simp at hx⟩
def Tx (w:World) (x:Nat) (v0 v1 v2 v3 v4 v5:Value):Prop:=w.heap[x]? = some (.cells #[v0,v1,v2,v3,v4,v5] 37 (0,0))
theorem tx_new (w:World) (v0 v1 v2 v3 v4 v5:Value):Tx (w.alloc (.cells #[v0,v1,v2,v3,v4,v5] 37)) w.heap.size v0 v1 v2 v3 v4 v5:=heap_alloc_new w _
theorem Tx.lt {x:Nat} {w:World} {v0 v1 v2 v3 v4 v5:Value} (h:Tx w x v0 v1 v2 v3 v4 v5):x<w.heap.size:=by
 rcases Nat.lt_or_ge x w.heap.size with h1|h1
 ·exact h1
 ·unfold Tx at h;rw [Array.getElem?_eq_none h1] at h;cases h
theorem Tx.blw {x:Nat} {w w':World} {v0 v1 v2 v3 v4 v5:Value} (h:Tx w x v0 v1 v2 v3 v4 v5) (hb:Below w.heap.size w w'):Tx w' x v0 v1 v2 v3 v4 v5:=(hb.block x h.lt).trans h
theorem Tx.kn {No:Nat→Prop} {x:Nat} {w w':World} {v0 v1 v2 v3 v4 v5:Value} (h:Tx w x v0 v1 v2 v3 v4 v5) (hk:Kn No w w') (hx:No x):Tx w' x v0 v1 v2 v3 v4 v5:=(hk.block x hx h.lt).trans h
theorem Tx.cells {w:World} {x:Nat} {v0 v1 v2 v3 v4 v5:Value} (h:Tx w x v0 v1 v2 v3 v4 v5):w.cell? ⟨x,0,none⟩=some v0∧w.cell? ⟨x,1,none⟩=some v1∧w.cell? ⟨x,2,none⟩=some v2∧w.cell? ⟨x,3,none⟩=some v3∧w.cell? ⟨x,4,none⟩=some v4∧w.cell? ⟨x,5,none⟩=some v5:=by
 unfold Tx at h
 refine⟨?_,?_,?_,?_,?_,?_⟩ <;> simp [World.cell?,h]
theorem Tx.cold {w:World} {x:Nat} {v0 v1 v2 v3 v4 v5:Value} (h:Tx w x v0 v1 v2 v3 v4 v5) (i:Nat):w.frozen? ⟨x,i,none⟩=false:=by
 unfold Tx at h
 simp [World.frozen?,h]
theorem kt_new {ok:Nat→Prop} {w W:World} {l:List Tm} {cs:Array Value} (hW:W=w.alloc (.cells cs 37)) (hl:∀ (j:Nat) (x:Tm),l[j]? = some x→∃ u0 u1 u2 u3 u4 u5,TmIn ok w x (.agg #[u0,u1,u2,u3,u4,u5])∧cs[j*6]? = some u0∧cs[j*6+1]? = some u1∧cs[j*6+2]? = some u2∧cs[j*6+3]? = some u3∧cs[j*6+4]? = some u4∧cs[j*6+5]? = some u5) :
  KdT (fun g=>ok g∨g=w.heap.size) W (TmIn (fun g=>ok g∨g=w.heap.size) W) l (.slice (some ⟨w.heap.size,0,none⟩) l.length l.length):=by
 have hb:Below w.heap.size w W:=by rw [hW];exact below_alloc _ _
 have hs:w.heap.size<W.heap.size:=by rw [hW];simp
 have ce:∀ i x,cs[i]? = some x→W.cell? ⟨w.heap.size,i,none⟩=some x:=fun i x h=>by
  have e:W.heap[w.heap.size]? = some (.cells cs 37 (0,0)):=by rw [hW];exact heap_alloc_new w _
  unfold World.cell?
  simp only [e]
  simpa using h
 refine⟨_,_,rfl,Nat.le_refl _,fun j x hx=>?_⟩
 obtain⟨u0,u1,u2,u3,u4,u5,h1,c0,c1,c2,c3,c4,c5⟩:=hl j x hx
 refine⟨w.heap.size,0,u0,u1,u2,u3,u4,u5,rfl,.inr rfl,hs,(h1.blw hb).up fun g h=>.inl h,?_,?_,?_,?_,?_,?_⟩
 ·exact ce _ _ (by simpa using c0)
 ·exact ce _ _ (by simpa using c1)
 ·exact ce _ _ (by simpa using c2)
 ·exact ce _ _ (by simpa using c3)
 ·exact ce _ _ (by simpa using c4)
 ·exact ce _ _ (by simpa using c5)
end Go.Proofs.YtahnbigkdfmpbaaGreatDoor
namespace Go.Proofs.YtahnbigkdfmpbaaGreatDoor
open Go.RowKit Go.Maps Go.WideMaps
structure StepP (P:Program) (ops:Array Oper) (Q:Exit→Act→World→Prop) (o:Oper) (a:Act) (w:World) (K:Act→World→Prop):Prop where
 out:if Region.wanted o (yielded ops a.tmps)=true then Oper.wp P o a w K Q else K (a.put o.dst undef) w
theorem ready_cons {P:Program} {md:Region.Mode} {ops:Array Oper} {Q:Exit→Act→World→Prop} {S:World→Prop} {fuel:Nat} {listed:Array Bool} {a:Act} {w:World} {i:Nat} {o:Oper} {rs:List Nat} (ho:ops[i]? = some o)
  (h:∀ K':Act→World→Prop,Shut (∀ a w,S w→(S w→wpAnyH P md ops Q S fuel (listed.setIfInBounds i true) a w)→K' a w)→StepP P ops Q o a w K')
  (hs:AllReadyH P md ops Q S fuel listed a w rs):AllReadyH P md ops Q S fuel listed a w (i :: rs):=AllReadyH.cons ho (fun K' hK=>(h K' hK).out) hs
section
variable {P:Program} {ops:Array Oper} {o:Oper} {a:Act} {w w':World} {K:Act→World→Prop} {Q:Exit→Act→World→Prop}
theorem StepP.lookup (hgd:o.guard=none) (m x:Operand) (t:TypeId) (c:Bool) (ho:o.op=Op.lookup t m x c) {M X v:Value} (hm:a.eval m=M) (hx:a.eval x=X) (hrun:(Instr.lookup t M X c).run P w=.ok v w) (hK:K (a.put o.dst v) w):StepP P ops Q o a w K:=by
 have hw:Region.wanted o (yielded ops a.tmps)=true:=by simp [Region.wanted,hgd]
 refine⟨?_⟩
 rw [if_pos hw]
 unfold Oper.wp
 simp [execOp,ho,hm,hx,hrun,Result.andThen]
 exact hK
theorem StepP.mapUpdate (hgd:o.guard=none) (m x y:Operand) (t:TypeId) (ho:o.op=Op.mapUpdate t m x y) {M X V:Value} (hm:a.eval m=M) (hx:a.eval x=X) (hy:a.eval y=V) (hrun:(Instr.mapUpdate t M X V).run P w=.ok () w') (hK:K (a.put o.dst undef) w'):StepP P ops Q o a w K:=by
 have hw:Region.wanted o (yielded ops a.tmps)=true:=by simp [Region.wanted,hgd]
 refine⟨?_⟩
 rw [if_pos hw]
 unfold Oper.wp
 simp [execOp,ho,hm,hx,hy,hrun,Result.andThen]
 exact hK
theorem StepP.append (hgd:o.guard=none) (s y:Operand) (t:TypeId) (ho:o.op=.call { callee:=.builtin .append,args:=#[s,y],argTypes:=#[t,t] }) {S Y v:Value} (hs:a.eval s=S) (hy:a.eval y=Y) (hrun:(Builtin.append_ #[t,t] o.type #[S,Y]).run P w=.ok v w') (hK:K (a.put o.dst v) w'):StepP P ops Q o a w K:=by
 have hw:Region.wanted o (yielded ops a.tmps)=true:=by simp [Region.wanted,hgd]
 refine⟨?_⟩
 rw [if_pos hw]
 unfold Oper.wp
 simp [execOp,ho,resolve,invoke,builtin,hs,hy,hrun,Result.andThen]
 exact hK
end
theorem Kn.drewR (No:Nat→Prop) (w:World):Kn No w w.drew:=(Kn.refl No w).drew
end Go.Proofs.YtahnbigkdfmpbaaGreatDoor
namespace Go.Proofs.YtahnbigkdfmpbaaGreatDoor
open Go.RowKit Go.Maps Go.WideMaps
theorem lawStr:Keyed Tryz.prog 9:=string_keyed Tryz.underlying9
theorem keyS (s:Bs) (h:s.length≤1000000):keyOf Tryz.prog 9 (.string (bs s))=some (.string s):=by
 rw [keyOf_string Tryz.underlying9]
 unfold mapKey
 rw [Tryz.underlying9]
 have e:(bs s).data.toList=s:=tl_bs s
 have h2:(bs s).size≤maxLen:=by rw [bs_size];unfold maxLen;omega
 simp only [h2,if_true,e]
theorem zeroHave (w:World):(zeroValue 121).run Tryz.prog w=.ok (.slice none 0 0) w:=by kernel_rfl
theorem Tryz.infoInt:(Tryz.prog.info? 3).map (fun i=>(i.zero,i.size,i.bytes))=some (some (.int .i64 0),1,8):=by kernel_rfl
theorem keyLit {s:Bs}:WideAt.IsKeyLit (.string s):=by unfold WideAt.IsKeyLit;simp
def itemsD:DataW Unit→List Int
 | .slice es _=>es.filterMap fun d=>match d with | .lit (.int _ z)=>some z | _=>none
 | _=>[]
theorem items_row {w:World} {base:Nat} {e:TypeId} {v:Value} {zs:List Int} (h:w.ownsInts base e .i64 v zs):itemsD (rowDatum .i64 v zs)=zs:=by
 rcases h.datum (H:=Unit) with ⟨h1,rfl⟩|h1
 ·rw [h1];rfl
 ·rw [h1]
  show (Go.ChangeShapes.lits .i64 zs).filterMap _=zs
  unfold Go.ChangeShapes.lits
  rw [List.filterMap_map]
  exact List.filterMap_some
def NmMem (w:World) (b base n:Nat) (U:List Bs):Prop:=∃ D:DataW Unit,w.ownsGroups Tryz.prog 9 base 3 .i64 b n D∧∀ s,itemsD (D.atKey (.string s) .nil)=posR s 0 U
theorem NmMem.made (w:World):NmMem (w.alloc (.map #[] 0)) w.heap.size (w.heap.size+1) 0 []:=⟨.map [],World.ownsGroups_made _ _ _ _ _,fun s=>rfl⟩
theorem NmMem.lt {w:World} {b base n:Nat} {U:List Bs} (h:NmMem w b base n U):b<w.heap.size:=by
 obtain⟨D,⟨es,clock,hb,_⟩,_⟩:=h
 exact (Array.getElem?_eq_some_iff.1 hb).1
def NmK (No:Nat→Prop) (w:World) (ns:List Bs) (v:Value):Prop :=
 ∃ a cap,v=.slice a ns.length cap∧∀ (j:Nat) (x:Bs),ns[j]? = some x→∃ g off,a=some ⟨g,off,none⟩∧No g∧g<w.heap.size∧w.cell? ⟨g,off+j,none⟩=some (.string (bs x))
theorem NmS.nmk {No:Nat→Prop} {n:Nat} {w:World} {ns:List Bs} {v:Value} (h:NmS n w ns v) (hn:∀ g,g<n→No g) (hs:n≤w.heap.size):NmK No w ns v:=by
 obtain⟨a,cap,h1,_,h2⟩:=h
 refine⟨a,cap,h1,fun j x hx=>?_⟩
 obtain⟨g,off,a1,a2,a3⟩:=h2 j x hx
 exact⟨g,off,a1,hn g a2,Nat.lt_of_lt_of_le a2 hs,a3⟩
theorem NmK.kn {No:Nat→Prop} {w w':World} {ns:List Bs} {v:Value} (h:NmK No w ns v) (hk:Kn No w w'):NmK No w' ns v:=by
 obtain⟨a,cap,h1,h2⟩:=h
 refine⟨a,cap,h1,fun j x hx=>?_⟩
 obtain⟨g,off,a1,a2,a3,a4⟩:=h2 j x hx
 exact⟨g,off,a1,a2,Nat.lt_of_lt_of_le a3 hk.size,(hk.cell (p:=⟨g,off+j,none⟩) a2 a3).trans a4⟩
theorem look_shuns {P:Program} {k t E e:TypeId} {q:IntKind} {w:World} {base b n:Nat} {D:DataW Unit} {key:Value} {kl:Lit} {v:Value} {No:Nat→Prop} (hown:w.ownsGroups P k base e q b n D) (K:Keyed P k) (ht:P.underlying t=some (.map k E)) (hz:(zeroValue E).run P w=.ok (.slice none 0 0) w) (hkey:keyOf P k key=some kl)
  (hrun:(Instr.lookup t (.map (some b)) key false).run P w=.ok v w) (hs:w.Shuns b No):∀ g,v.ownBlock=some g→¬ No g:=by
 obtain⟨es,clock,hb,F,_⟩:=hown
 rcases Maps.fit_look false K ht hz hb F hkey with ⟨hrun',_,_⟩|⟨e0,y,hm0,_,hrun',_,_,_⟩
 ·rw [hrun] at hrun'
  obtain rfl:v=.slice none 0 0:=by simpa using hrun'
  intro g hg
  cases hg
 ·rw [hrun] at hrun'
  obtain rfl:v=e0.val:=by simpa using hrun'
  exact fun g hg=>hs es clock hb e0 hm0 g hg
theorem back_shuns {P:Program} {k t E e:TypeId} {q:IntKind} {w0 w w2:World} {base b n:Nat} {D:DataW Unit} {key:Value} {kl:Lit} {u v':Value} {zs:List Int} {No:Nat→Prop} (K:Keyed P k) (ht:P.underlying t=some (.map k E)) (hkey:keyOf P k key=some kl) (hown0:w0.ownsGroups P k base e q b n D) (hn:n<maxLen)
  (hu:w0.ownsInts base e q u zs) (hsh:w0.Shuns b No) (hno:∀ g,v'.ownBlock=some g→¬ No g) (hgr:w0.grownBy w u.ownBlock) (hrun:(Instr.mapUpdate t (.map (some b)) key v').run P w=.ok () w2):w2.Shuns b No:=by
 obtain⟨es,clock,hb,F,hs,_,hbb,_⟩:=hown0
 have hblt:b<w0.heap.size:=(Array.getElem?_eq_some_iff.1 hb).1
 have hb1:w.heap[b]? = some (.map es clock):=(hgr.block b hblt (fun e1=>by have:=(hu.1.lt b e1.symm).1;omega)).trans hb
 obtain⟨es',clock',hb2,hwho⟩:=stored_who K ht hb1 F (Nat.lt_of_le_of_lt hs hn) hkey hrun
 intro es2 clock2 hb2' y hy g hyg
 obtain⟨rfl,rfl⟩:es'=es2∧clock'=clock2:=by rw [hb2] at hb2'; simpa using hb2'
 rcases hwho y hy with ⟨hy0,_⟩|⟨_,hval⟩
 ·exact hsh es clock hb y hy0 g hyg
 ·exact hno g (hval ▸ hyg)
theorem NmMem.put {w w2:World} {b base n:Nat} {U:List Bs} {D:DataW Unit} {v v':Value} {zs:List Int} {x:Bs} (hD:∀ s,itemsD (D.atKey (.string s) .nil)=posR s 0 U) (hm:IsMap D) (hat:D.atKey (.string x) .nil=rowDatum .i64 v zs) (ho:w.ownsInts base 3 .i64 v zs)
  {w1:World} (ho':w1.ownsInts base 3 .i64 v' (zs ++ [(U.length:Int)])) (h2:w2.ownsGroups Tryz.prog 9 base 3 .i64 b n (D.put (.string x) (rowDatum .i64 v' (zs ++ [(U.length:Int)])))):NmMem w2 b base n (U ++ [x]):=by
 refine⟨_,h2,fun s=>?_⟩
 have ez:zs=posR x 0 U:=by rw [← hD x,hat,items_row ho]
 rw [pos_app]
 by_cases hs:x=s
 ·subst hs
  rw [atKey_put_same hm keyLit,items_row ho',ez]
  show _=_++(if x=x then _ else _)
  rw [if_pos rfl]
  show _=_ ++ [((0+U.length:Nat):Int)]
  rw [Nat.zero_add]
 ·rw [atKey_put_other (fun e=>hs (by injection e with e;exact e.symm)),hD s]
  show _=_++(if x=s then _ else _)
  rw [if_neg hs]
  simp [posR]
structure NmB (w:World) (p o b k:Nat) (cs:Array Value) (ty:TypeId):Prop where
 blk:w.heap[p]? = some (.cells (cs.setIfInBounds o (.int .i64 (k:Nat))) ty (0,0))
 map:cs[o+1]? = some (.map (some b))
 room:o<cs.size
theorem NmB.lt {w:World} {p o b k:Nat} {cs:Array Value} {ty:TypeId} (h:NmB w p o b k cs ty):p<w.heap.size:=(Array.getElem?_eq_some_iff.1 h.blk).1
theorem NmB.c0 {w:World} {p o b k:Nat} {cs:Array Value} {ty:TypeId} (h:NmB w p o b k cs ty):w.cell? ⟨p,o,none⟩=some (.int .i64 (k:Nat)):=by
 unfold World.cell?
 simp [h.blk,h.room]
theorem NmB.c1 {w:World} {p o b k:Nat} {cs:Array Value} {ty:TypeId} (h:NmB w p o b k cs ty):w.cell? ⟨p,o+1,none⟩=some (.map (some b)):=by
 unfold World.cell?
 simp [h.blk,h.map]
theorem NmB.fz {w:World} {p o b k:Nat} {cs:Array Value} {ty:TypeId} (h:NmB w p o b k cs ty) (i:Nat):w.frozen? ⟨p,i,none⟩=false:=by
 unfold World.frozen?
 simp [h.blk]
theorem NmB.kn {No:Nat→Prop} {w w':World} {p o b k:Nat} {cs:Array Value} {ty:TypeId} (h:NmB w p o b k cs ty) (hk:Kn No w w') (hp:No p):NmB w' p o b k cs ty:=⟨(hk.block p hp h.lt).trans h.blk,h.map,h.room⟩
theorem NmB.turn {w:World} {p o b k:Nat} {cs:Array Value} {ty:TypeId} (h:NmB w p o b k cs ty) (m:Nat):NmB (w.setCell ⟨p,o,none⟩ (.int .i64 (m:Nat))) p o b m cs ty:=by
 refine⟨?_,h.map,h.room⟩
 have e:=h.blk
 simp [World.setCell,Array.getElem?_modify,e]
theorem Shuns.set {w:World} {b:Nat} {No:Nat→Prop} (h:w.Shuns b No) {a:Addr} (ha:b≠a.block) (u:Value):(w.setCell a u).Shuns b No:=fun es clock hb=>h es clock ((Below.heap_setCell _ _ _ _ ha).symm.trans hb)
theorem NmMem.set {w:World} {b base n:Nat} {U:List Bs} {No:Nat→Prop} (h:NmMem w b base n U) (hs:w.Shuns b No) {a:Addr} (ha:b≠a.block) (hN:No a.block) (u:Value):NmMem (w.setCell a u) b base n U:=by
 obtain⟨D,h1,h2⟩:=h
 have hg:w.grownBy (w.setCell a u) (some a.block):=⟨rfl,rfl,rfl,by simp [World.setCell],fun i _ hi=>Below.heap_setCell _ _ _ _ (fun e=>hi (by rw [e]))⟩
 exact⟨D,h1.kept hg (fun e=>ha (by injection e)) (hs.rowsOff fun j hj=>by injection hj with hj;rw [← hj];exact hN),h2⟩
theorem NmMem.kn {w w':World} {b base n:Nat} {U:List Bs} {No:Nat→Prop} (h:NmMem w b base n U) (hk:Kn No w w') (hb:No b) (hr:∀ es clock,w.heap[b]? = some (.map es clock)→∀ x∈es.toList,∀ g,x.val.ownBlock=some g→No g):NmMem w' b base n U:=by
 obtain⟨D,⟨es,clock,hb0,F,hs,rfl,hbb,hlen,hap⟩,h2⟩:=h
 have hkeep:∀ x∈es.toList,∀ zs,w.ownsInts base 3 .i64 x.val zs→w'.ownsInts base 3 .i64 x.val zs:=by
  intro x hx zs ho
  refine⟨?_,ho.2⟩
  obtain⟨h1,h3⟩:=ho.1
  refine⟨h1,h3.imp id fun ⟨g,cap,cur,e,hg,hh,r⟩=>⟨g,cap,cur,e,hg,?_,r⟩⟩
  exact (hk.block g (hr es clock hb0 x hx g (by rw [e];rfl)) (Array.getElem?_eq_some_iff.1 hh).1).trans hh
 obtain⟨F1,hmap,_⟩:=F.stay (R':=rowElem w' base 3 .i64) (fun x hx z hz=>by
  obtain⟨zs,ho,rfl⟩:=rowElem_inv hz
  exact rowElem_mk (hkeep x hx zs ho))
 refine⟨_,⟨es,clock,(hk.block b hb (Array.getElem?_eq_some_iff.1 hb0).1).trans hb0,F1,hs,rfl,hbb,fun x hx zs ho=>?_,hap⟩,fun s=>?_⟩
 ·obtain⟨y,hy⟩:=F.reads x hx
  obtain⟨z,hz,_⟩:=Go.WideElems.rd_val hy
  obtain⟨zs0,ho0,_⟩:=rowElem_inv hz
  rw [ho.unique (hkeep x hx zs0 ho0)]
  exact hlen x hx zs0 ho0
 ·rw [hmap]
  exact h2 s
set_option maxRecDepth 100000 in
set_option maxHeartbeats 4000000 in
theorem bind_any (p o b base n:Nat) (No:Nat→Prop) (cs:Array Value) (ty:TypeId) (U l:List Bs) (vl:Value) (w:World) (hp:NmB w p o b U.length cs ty) (hM:NmMem w b base n U) (hS:w.Shuns b No) (hNp:No p) (hNb:¬ No b) (hl:NmK (fun g=>No g∧g≠p) w l vl)
  (hn:n+l.length≤100000000) (hU:U.length+l.length≤100000000) (hc:∀ x∈l,x.length≤1000000) (hbase:base≤w.heap.size) (hNo:∀ g,No g→g<w.heap.size) :
  Calls Tryz.prog 40 #[.pointer (some ⟨p,o,none⟩),vl] w fun e w'=>e=.returned (.tuple #[])∧NmB w' p o b (U.length+l.length) cs ty∧NmMem w' b base (n+l.length) (U++l)∧w'.Shuns b No∧Kn (fun g=>No g∧g≠p) w w':=by
 have hpb:p≠b:=fun e=>hNb (e ▸ hNp)
 obtain⟨a,cap,rfl,hl⟩:=hl
 obtain⟨i0,hi,hz0,hz1,hz2⟩:=info_parts Tryz.infoInt
 obtain⟨m,hm⟩:∃ m,m=l.length:=⟨_,rfl⟩
 obtain⟨q,hq⟩:∃ q,q=U.length:=⟨_,rfl⟩
 have Hm:Hid (m=l.length):=hm
 have Hq:Hid (q=U.length):=hq
 rw [← hm] at hn hU ⊢
 rw [← hq] at hp hU ⊢
 clear hm hq
 go_enter Tryz.func40,Tryz.ntmps40
 go_wp2
 go_loopw [8] (fun i wr=>∃ k:Nat,k≤m∧i=.int .i64 k∧NmB wr p o b (q+k) cs ty∧NmMem wr b base (n+k) (U++l.take k)∧wr.Shuns b No∧Kn (fun g=>No g∧g≠p) w wr) (fun i _=>m - (intOf i).toNat)
 case atStart=>exact⟨0,Nat.zero_le _,rfl,hp,by simpa using hM,hS,Kn.refl _ _⟩
 case round =>
  obtain⟨k,hk,rfl,hpk,hMk,hSk,hKk⟩:=hrel
  by_cases hlt:k<m
  ·obtain⟨x,hx⟩:=someS (l:=l) (k:=k) (by rw [← Hm.out];exact hlt)
   have hxl:=hc x (List.mem_of_getElem? hx)
   obtain⟨g,off,rfl,hNg,hg,cx⟩:=hl k x hx
   have cx2:=(hKk.cell (p:=⟨g,off+k,none⟩) hNg hg).trans cx
   have hkey:=keyS x hxl
   have htk:Hid (l.take (k+1)=l.take k ++ [x]):=by
    obtain⟨hlt2,e⟩:=List.getElem?_eq_some_iff.1 hx
    show _=_
    rw [List.take_succ_eq_append_getElem hlt2,e]
   have hUl:Hid ((U++l.take k).length=q+k):=by
    show _=_
    rw [List.length_append,List.length_take,← Hq.out,← Hm.out]
    omega
   obtain⟨c,hcd⟩:∃ c,c=q+k:=⟨_,rfl⟩
   have hcb:c+1≤100000000:=by omega
   rw [← hcd] at hUl hpk
   have Hc:Hid (c=q+k):=hcd
   clear hcd
   have hmx:n+k<maxLen:=by unfold maxLen;omega
   have hmx2:n+k+1≤maxLen:=by unfold maxLen;omega
   have hby:(n+k+1) * 8≤140737488355328:=by omega
   clear cx hx
   generalize bs x=X at cx2 hkey
   go_wp2
   have c0:=hpk.c0
   have c1:=hpk.c1
   refine wp_region_held_drew (S:=fun w9=>w9.cell? ⟨p,o,none⟩=some (.int .i64 (c:Int))∧w9.cell? ⟨p,o+1,none⟩=some (.map (some b))) (by kernel_rfl) ⟨c0,c1⟩ (fun hS=>?_)
   obtain⟨w5,hw5⟩:∃ w0,w0=wr.drew:=⟨_,rfl⟩
   have hpk0:NmB w5 p o b c cs ty:=by rw [hw5];exact⟨hpk.blk,hpk.map,hpk.room⟩
   have hSk0:w5.Shuns b No:=by rw [hw5];exact hSk
   have hKk0:Kn (fun g=>No g∧g≠p) w w5:=by rw [hw5];exact hKk.drew
   obtain⟨D,hown0,hD0⟩:NmMem w5 b base (n+k) (U++l.take k):=by rw [hw5];exact hMk
   rw [← hw5] at hS ⊢
   have hbase2:base≤w5.heap.size:=Nat.le_trans hbase hKk0.size
   have hpl:p<w5.heap.size:=hpk0.lt
   have hmap:IsMap D:=by obtain⟨_,_,_,_,_,e,_⟩:=hown0;exact⟨_,e⟩
   have hNo5:∀ g,No g→g<w5.heap.size:=fun g hg=>Nat.lt_of_lt_of_le (hNo g hg) hKk0.size
   clear hw5 hpk hSk hKk hMk c0 c1 cx2
   refine wpAnyH_take (i:=0) (v:=.pointer (some ⟨p,o,none⟩)) rfl (by kernel_rfl) (by kernel_rfl) (by kernel_rfl) (fun _ _ _ h=>h) (Or.inl ⟨by rfl,fun w hS=>by go_simp⟩) hS ?_
   simp only [Act.put,List.getElem_toArray,List.getElem_cons_zero,List.getElem_cons_succ,List.setIfInBounds_toArray,List.set_cons_zero,List.set_cons_succ]
   refine wpAnyH_take (i:=1) (v:=.pointer (some ⟨p,o,none⟩)) rfl (by kernel_rfl) (by kernel_rfl) (by kernel_rfl) (fun _ _ _ h=>h) (Or.inl ⟨by rfl,fun w hS=>by go_simp⟩) hS ?_
   simp only [Act.put,List.getElem_toArray,List.getElem_cons_zero,List.getElem_cons_succ,List.setIfInBounds_toArray,List.set_cons_zero,List.set_cons_succ]
   refine wpAnyH_take (i:=2) (v:=.pointer (some ⟨p,o+1,none⟩)) rfl (by kernel_rfl) (by kernel_rfl) (by kernel_rfl) (fun _ _ _ h=>h) (Or.inl ⟨by rfl,fun w hS=>by go_simp⟩) hS ?_
   simp only [Act.put,List.getElem_toArray,List.getElem_cons_zero,List.getElem_cons_succ,List.setIfInBounds_toArray,List.set_cons_zero,List.set_cons_succ]
   refine wpAnyH_take (i:=3) (v:=.map (some b)) rfl (by kernel_rfl) (by kernel_rfl) (by kernel_rfl) (fun _ _ _ h=>h) (Or.inl ⟨by rfl,fun w hS=>by obtain⟨s0,s1⟩:=hS;go_simp⟩) hS ?_
   simp only [Act.put,List.getElem_toArray,List.getElem_cons_zero,List.getElem_cons_succ,List.setIfInBounds_toArray,List.set_cons_zero,List.set_cons_succ]
   refine wpAnyH_take (i:=4) (v:=.string X) rfl (by kernel_rfl) (by kernel_rfl) (by kernel_rfl) (fun _ _ _ h=>h) (Or.inl ⟨by rfl,fun w hS=>by go_simp⟩) hS ?_
   simp only [Act.put,List.getElem_toArray,List.getElem_cons_zero,List.getElem_cons_succ,List.setIfInBounds_toArray,List.set_cons_zero,List.set_cons_succ]
   refine wpAnyH_take (i:=5) (v:=.pointer (some ⟨p,o,none⟩)) rfl (by kernel_rfl) (by kernel_rfl) (by kernel_rfl) (fun _ _ _ h=>h) (Or.inl ⟨by rfl,fun w hS=>by go_simp⟩) hS ?_
   simp only [Act.put,List.getElem_toArray,List.getElem_cons_zero,List.getElem_cons_succ,List.setIfInBounds_toArray,List.set_cons_zero,List.set_cons_succ]
   refine wpAnyH_take (i:=6) (v:=.pointer (some ⟨p,o,none⟩)) rfl (by kernel_rfl) (by kernel_rfl) (by kernel_rfl) (fun _ _ _ h=>h) (Or.inl ⟨by rfl,fun w hS=>by go_simp⟩) hS ?_
   simp only [Act.put,List.getElem_toArray,List.getElem_cons_zero,List.getElem_cons_succ,List.setIfInBounds_toArray,List.set_cons_zero,List.set_cons_succ]
   refine wpAnyH_take (i:=7) (v:=.pointer (some ⟨p,o+1,none⟩)) rfl (by kernel_rfl) (by kernel_rfl) (by kernel_rfl) (fun _ _ _ h=>h) (Or.inl ⟨by rfl,fun w hS=>by go_simp⟩) hS ?_
   simp only [Act.put,List.getElem_toArray,List.getElem_cons_zero,List.getElem_cons_succ,List.setIfInBounds_toArray,List.set_cons_zero,List.set_cons_succ]
   refine wpAnyH_take (i:=8) (v:=.map (some b)) rfl (by kernel_rfl) (by kernel_rfl) (by kernel_rfl) (fun _ _ _ h=>h) (Or.inl ⟨by rfl,fun w hS=>by obtain⟨s0,s1⟩:=hS;go_simp⟩) hS ?_
   simp only [Act.put,List.getElem_toArray,List.getElem_cons_zero,List.getElem_cons_succ,List.setIfInBounds_toArray,List.set_cons_zero,List.set_cons_succ]
   refine wpAnyH_take (i:=9) (v:=.string X) rfl (by kernel_rfl) (by kernel_rfl) (by kernel_rfl) (fun _ _ _ h=>h) (Or.inl ⟨by rfl,fun w hS=>by go_simp⟩) hS ?_
   simp only [Act.put,List.getElem_toArray,List.getElem_cons_zero,List.getElem_cons_succ,List.setIfInBounds_toArray,List.set_cons_zero,List.set_cons_succ]
   refine wpAnyH_take (i:=11) (v:=.pointer (some ⟨p,o,none⟩)) rfl (by kernel_rfl) (by kernel_rfl) (by kernel_rfl) (fun _ _ _ h=>h) (Or.inl ⟨by rfl,fun w hS=>by go_simp⟩) hS ?_
   simp only [Act.put,List.getElem_toArray,List.getElem_cons_zero,List.getElem_cons_succ,List.setIfInBounds_toArray,List.set_cons_zero,List.set_cons_succ]
   refine wpAnyH_take (i:=12) (v:=.pointer (some ⟨p,o,none⟩)) rfl (by kernel_rfl) (by kernel_rfl) (by kernel_rfl) (fun _ _ _ h=>h) (Or.inl ⟨by rfl,fun w hS=>by go_simp⟩) hS ?_
   simp only [Act.put,List.getElem_toArray,List.getElem_cons_zero,List.getElem_cons_succ,List.setIfInBounds_toArray,List.set_cons_zero,List.set_cons_succ]
   refine wpAnyH_take (i:=13) (v:=.pointer (some ⟨p,o,none⟩)) rfl (by kernel_rfl) (by kernel_rfl) (by kernel_rfl) (fun _ _ _ h=>h) (Or.inl ⟨by rfl,fun w hS=>by go_simp⟩) hS ?_
   simp only [Act.put,List.getElem_toArray,List.getElem_cons_zero,List.getElem_cons_succ,List.setIfInBounds_toArray,List.set_cons_zero,List.set_cons_succ]
   refine wpAnyH_take (i:=14) (v:=.int .i64 (c:Int)) rfl (by kernel_rfl) (by kernel_rfl) (by kernel_rfl) (fun _ _ _ h=>h) (Or.inl ⟨by rfl,fun w hS=>by obtain⟨s0,s1⟩:=hS;go_simp⟩) hS ?_
   simp only [Act.put,List.getElem_toArray,List.getElem_cons_zero,List.getElem_cons_succ,List.setIfInBounds_toArray,List.set_cons_zero,List.set_cons_succ]
   refine wpAnyH_ready (rs:=[10,15]) (by kernel_rfl) (by simp) ?_
   refine ready_cons rfl (fun KK hKK=>?_) (ready_cons rfl (fun KK hKK=>?_) AllReadyH.nil)
   ·skip
    have hAT:=hown0.at lawStr Tryz.underlying75 (zeroHave w5) hmx hkey
    obtain⟨v,zs,hrun,hat,hoi,hzl,hback⟩:=hAT
    have hsv:∀ j,v.ownBlock=some j→¬ No j:=look_shuns hown0 lawStr Tryz.underlying75 (zeroHave w5) hkey hrun hSk0
    refine StepP.lookup (by rfl) (.tmp 20) (.tmp 21) 75 false (by rfl) (by rfl) (by rfl) hrun ?_
    refine hKK.out _ _ hS (fun hS=>?_)
    clear hKK KK
    try simp only [Act.put,List.getElem_toArray,List.getElem_cons_zero,List.getElem_cons_succ,List.setIfInBounds_toArray,List.set_cons_zero,List.set_cons_succ]
    refine wpAnyH_ready (rs:=[15]) (by kernel_rfl) (by simp) ?_
    refine ready_cons rfl (fun KK hKK=>?_) AllReadyH.nil
    refine⟨?_⟩
    go_simp
    have hal:=below_alloc w5 (.cells #[.int .i64 (c:Int)] 3)
    have hcn:=cell_one_new w5 (.int .i64 (c:Int)) 3
    obtain⟨w6,hwn⟩:∃ w0,w0=w5.alloc (.cells #[.int .i64 (c:Int)] 3):=⟨_,rfl⟩
    rw [← hwn] at hal hcn ⊢
    have hbn:w5.heap.size<w6.heap.size:=by rw [hwn];simp
    replace hS:w6.cell? ⟨p,o,none⟩=some (.int .i64 (c:Int))∧w6.cell? ⟨p,o+1,none⟩=some (.map (some b)):=⟨(hal.cell (p:=⟨p,o,none⟩) hpl).trans hS.1,(hal.cell (p:=⟨p,o+1,none⟩) hpl).trans hS.2⟩
    have hg01:w5.grownBy w6 v.ownBlock:=by rw [hwn];exact World.grownBy_alloc _ _ _
    have hoi1:w6.ownsRow base 3 1 v zs.length (zs.map (Value.int .i64)):=by rw [hwn];exact hoi.1.alloc _
    have hpl1:p<w6.heap.size:=Nat.lt_trans hpl hbn
    have hbase3:base≤w6.heap.size:=Nat.le_trans hbase2 (Nat.le_of_lt hbn)
    clear hwn
    obtain⟨bn,hbneq⟩:∃ bn,bn=w5.heap.size:=⟨_,rfl⟩
    rw [← hbneq] at hcn ⊢
    refine hKK.out _ _ hS (fun hS=>?_)
    clear hKK KK
    try simp only [Act.put,List.getElem_toArray,List.getElem_cons_zero,List.getElem_cons_succ,List.setIfInBounds_toArray,List.set_cons_zero,List.set_cons_succ]
    refine wpAnyH_ready (rs:=[16]) (by kernel_rfl) (by simp) ?_
    refine ready_cons rfl (fun KK hKK=>?_) AllReadyH.nil
    have hAP:=run_append_own_at w6 base 121 121 3 i0 (.int .i64 0) 1 8 Tryz.underlying121 hi hz0 hz1 hz2 rfl (by decide) v zs.length (zs.map (Value.int .i64)) hoi1 ⟨bn,0,none⟩ 1 1 [.int .i64 (c:Int)] rfl hcn (ints_oneCell .i64 [(c:Int)]) (Nat.le_trans (Nat.succ_le_succ hzl) hmx2) (Nat.le_trans (Nat.mul_le_mul_right 8 (Nat.succ_le_succ hzl)) hby) hbase3
    obtain⟨v2,w7,hrun2,hown2,hgr2,_,hloc⟩:=hAP
    refine StepP.append (by rfl) (.tmp 22) (.tmp 27) 121 (by rfl) (by rfl) (by rfl) hrun2 ?_
    have hoi2:=hoi.appended hown2 (WalkArith.wf_i64 (by omega))
    have hg02:=hg01.trans hgr2
    replace hS:w7.cell? ⟨p,o,none⟩=some (.int .i64 (c:Int))∧w7.cell? ⟨p,o+1,none⟩=some (.map (some b)):=⟨(World.cell?_of_block (w:=w6) (a:=⟨p,o,none⟩) (hgr2.block p hpl1 (fun e=>hsv p e.symm hNp))).trans hS.1,(World.cell?_of_block (w:=w6) (a:=⟨p,o+1,none⟩) (hgr2.block p hpl1 (fun e=>hsv p e.symm hNp))).trans hS.2⟩
    refine hKK.out _ _ hS (fun hS=>?_)
    clear hKK KK
    try simp only [Act.put,List.getElem_toArray,List.getElem_cons_zero,List.getElem_cons_succ,List.setIfInBounds_toArray,List.set_cons_zero,List.set_cons_succ]
    refine wpAnyH_ready (rs:=[17]) (by kernel_rfl) (by simp) ?_
    refine ready_cons rfl (fun KK hKK=>?_) AllReadyH.nil
    have hloc2:v2.ownBlock=v.ownBlock∨∃ g,v2.ownBlock=some g∧w5.heap.size≤g:=hloc.imp id fun h=>⟨_,h,hg01.size⟩
    have hBK:=hback w7 v2 _ hg02 hoi2 (by rw [List.length_append];exact Nat.succ_le_succ hzl) hloc2
    obtain⟨w8,hrun3,hown3,hgr3⟩:=hBK
    have hsh3:w8.Shuns b No:=back_shuns lawStr Tryz.underlying75 hkey hown0 hmx hoi hSk0 (fun g hg hN=>by
     rcases hloc2 with h|⟨g2,h,h2⟩
     ·exact hsv g (h ▸ hg) hN
     ·rw [h] at hg
      injection hg with hg
      subst hg
      exact absurd (hNo5 g2 hN) (by omega)) hg02 hrun3
    refine StepP.mapUpdate (by rfl) (.tmp 15) (.tmp 16) (.tmp 28) 75 (by rfl) (by rfl) (by rfl) (by rfl) hrun3 ?_
    have hK8:Kn No w5 w8:=((Kn.refl No _).grown hg02 (fun g e hN=>hsv g e hN)).grown hgr3 (fun g e hN=>by injection e with e;subst e;exact hNb hN)
    have hp8:=hpk0.kn hK8 hNp
    rw [← hUl.out] at hoi2 hown3
    have hM8:=NmMem.put (n:=n+k+1) hD0 hmap hat hoi hoi2 hown3
    replace hS:w8.cell? ⟨p,o,none⟩=some (.int .i64 (c:Int))∧w8.cell? ⟨p,o+1,none⟩=some (.map (some b)):=⟨hp8.c0,hp8.c1⟩
    refine hKK.out _ _ hS (fun hS=>?_)
    clear hKK KK
    try simp only [Act.put,List.getElem_toArray,List.getElem_cons_zero,List.getElem_cons_succ,List.setIfInBounds_toArray,List.set_cons_zero,List.set_cons_succ]
    refine wpAnyH_done (by kernel_rfl) ?_ _
    have c0:=hp8.c0
    have z0:=hp8.fz o
    go_wp2
    go_roundw
    case rel =>
     have hcc:q+(k+1)=c+1:=by have:=Hc.out;omega
     refine⟨k+1,by omega,by go_num,(by rw [hcc];exact hp8.turn (c+1)),?_,Shuns.set hsh3 (fun e=>hpb e.symm) _,((hKk0.trans (hK8.sub fun g h=>h.1)).setCell (.inl fun h=>h.2 rfl) _)⟩
     rw [htk.out,← List.append_assoc]
     exact NmMem.set hM8 hsh3 (fun e=>hpb e.symm) hNp _
    case measure=>simp [intOf];omega
   ·skip
    refine⟨?_⟩
    go_simp
    have hal:=below_alloc w5 (.cells #[.int .i64 (c:Int)] 3)
    have hcn:=cell_one_new w5 (.int .i64 (c:Int)) 3
    obtain⟨w6,hwn⟩:∃ w0,w0=w5.alloc (.cells #[.int .i64 (c:Int)] 3):=⟨_,rfl⟩
    rw [← hwn] at hal hcn ⊢
    have hbn:w5.heap.size<w6.heap.size:=by rw [hwn];simp
    replace hS:w6.cell? ⟨p,o,none⟩=some (.int .i64 (c:Int))∧w6.cell? ⟨p,o+1,none⟩=some (.map (some b)):=⟨(hal.cell (p:=⟨p,o,none⟩) hpl).trans hS.1,(hal.cell (p:=⟨p,o+1,none⟩) hpl).trans hS.2⟩
    have hown6:w6.ownsGroups Tryz.prog 9 base 3 .i64 b (n+k) D:=by rw [hwn];exact hown0.kept (World.grownBy_alloc _ _ none) (by simp) (fun _ _ _ x _=>by cases x.val.ownBlock <;> simp)
    have hSk6:w6.Shuns b No:=by rw [hwn];exact hSk0.kept (World.grownBy_alloc _ _ none) (by obtain⟨_,_,hb0,_⟩:=hown0;exact (Array.getElem?_eq_some_iff.1 hb0).1) (by simp)
    have hNo6:∀ g,No g→g<w6.heap.size:=fun g hg=>Nat.lt_of_lt_of_le (hNo5 g hg) (Nat.le_of_lt hbn)
    have hpk6:NmB w6 p o b c cs ty:=⟨(hal.block p hpl).trans hpk0.blk,hpk0.map,hpk0.room⟩
    have hpl1:p<w6.heap.size:=Nat.lt_trans hpl hbn
    have hbase3:base≤w6.heap.size:=Nat.le_trans hbase2 (Nat.le_of_lt hbn)
    clear hwn
    obtain⟨bn,hbneq⟩:∃ bn,bn=w5.heap.size:=⟨_,rfl⟩
    rw [← hbneq] at hcn ⊢
    refine hKK.out _ _ hS (fun hS=>?_)
    clear hKK KK
    try simp only [Act.put,List.getElem_toArray,List.getElem_cons_zero,List.getElem_cons_succ,List.setIfInBounds_toArray,List.set_cons_zero,List.set_cons_succ]
    refine wpAnyH_ready (rs:=[10]) (by kernel_rfl) (by simp) ?_
    refine ready_cons rfl (fun KK hKK=>?_) AllReadyH.nil
    have hAT:=hown6.at lawStr Tryz.underlying75 (zeroHave w6) hmx hkey
    obtain⟨v,zs,hrun,hat,hoi,hzl,hback⟩:=hAT
    have hsv:∀ j,v.ownBlock=some j→¬ No j:=look_shuns hown6 lawStr Tryz.underlying75 (zeroHave w6) hkey hrun hSk6
    refine StepP.lookup (by rfl) (.tmp 20) (.tmp 21) 75 false (by rfl) (by rfl) (by rfl) hrun ?_
    refine hKK.out _ _ hS (fun hS=>?_)
    clear hKK KK
    try simp only [Act.put,List.getElem_toArray,List.getElem_cons_zero,List.getElem_cons_succ,List.setIfInBounds_toArray,List.set_cons_zero,List.set_cons_succ]
    have hg01:w6.grownBy w6 v.ownBlock:=⟨rfl,rfl,rfl,Nat.le_refl _,fun _ _ _=>rfl⟩
    have hoi1:=hoi.1
    refine wpAnyH_ready (rs:=[16]) (by kernel_rfl) (by simp) ?_
    refine ready_cons rfl (fun KK hKK=>?_) AllReadyH.nil
    have hAP:=run_append_own_at w6 base 121 121 3 i0 (.int .i64 0) 1 8 Tryz.underlying121 hi hz0 hz1 hz2 rfl (by decide) v zs.length (zs.map (Value.int .i64)) hoi1 ⟨bn,0,none⟩ 1 1 [.int .i64 (c:Int)] rfl hcn (ints_oneCell .i64 [(c:Int)]) (Nat.le_trans (Nat.succ_le_succ hzl) hmx2) (Nat.le_trans (Nat.mul_le_mul_right 8 (Nat.succ_le_succ hzl)) hby) hbase3
    obtain⟨v2,w7,hrun2,hown2,hgr2,_,hloc⟩:=hAP
    refine StepP.append (by rfl) (.tmp 22) (.tmp 27) 121 (by rfl) (by rfl) (by rfl) hrun2 ?_
    have hoi2:=hoi.appended hown2 (WalkArith.wf_i64 (by omega))
    have hg02:=hg01.trans hgr2
    replace hS:w7.cell? ⟨p,o,none⟩=some (.int .i64 (c:Int))∧w7.cell? ⟨p,o+1,none⟩=some (.map (some b)):=⟨(World.cell?_of_block (w:=w6) (a:=⟨p,o,none⟩) (hgr2.block p hpl1 (fun e=>hsv p e.symm hNp))).trans hS.1,(World.cell?_of_block (w:=w6) (a:=⟨p,o+1,none⟩) (hgr2.block p hpl1 (fun e=>hsv p e.symm hNp))).trans hS.2⟩
    refine hKK.out _ _ hS (fun hS=>?_)
    clear hKK KK
    try simp only [Act.put,List.getElem_toArray,List.getElem_cons_zero,List.getElem_cons_succ,List.setIfInBounds_toArray,List.set_cons_zero,List.set_cons_succ]
    refine wpAnyH_ready (rs:=[17]) (by kernel_rfl) (by simp) ?_
    refine ready_cons rfl (fun KK hKK=>?_) AllReadyH.nil
    have hloc2:v2.ownBlock=v.ownBlock∨∃ g,v2.ownBlock=some g∧w6.heap.size≤g:=hloc.imp id fun h=>⟨_,h,hg01.size⟩
    have hBK:=hback w7 v2 _ hg02 hoi2 (by rw [List.length_append];exact Nat.succ_le_succ hzl) hloc2
    obtain⟨w8,hrun3,hown3,hgr3⟩:=hBK
    have hsh3:w8.Shuns b No:=back_shuns lawStr Tryz.underlying75 hkey hown6 hmx hoi hSk6 (fun g hg hN=>by
     rcases hloc2 with h|⟨g2,h,h2⟩
     ·exact hsv g (h ▸ hg) hN
     ·rw [h] at hg
      injection hg with hg
      subst hg
      exact absurd (hNo6 g2 hN) (by omega)) hg02 hrun3
    refine StepP.mapUpdate (by rfl) (.tmp 15) (.tmp 16) (.tmp 28) 75 (by rfl) (by rfl) (by rfl) (by rfl) hrun3 ?_
    have hK8:Kn No w6 w8:=((Kn.refl No _).grown hg02 (fun g e hN=>hsv g e hN)).grown hgr3 (fun g e hN=>by injection e with e;subst e;exact hNb hN)
    have hp8:=hpk6.kn hK8 hNp
    rw [← hUl.out] at hoi2 hown3
    have hM8:=NmMem.put (n:=n+k+1) hD0 hmap hat hoi hoi2 hown3
    replace hS:w8.cell? ⟨p,o,none⟩=some (.int .i64 (c:Int))∧w8.cell? ⟨p,o+1,none⟩=some (.map (some b)):=⟨hp8.c0,hp8.c1⟩
    refine hKK.out _ _ hS (fun hS=>?_)
    clear hKK KK
    try simp only [Act.put,List.getElem_toArray,List.getElem_cons_zero,List.getElem_cons_succ,List.setIfInBounds_toArray,List.set_cons_zero,List.set_cons_succ]
    refine wpAnyH_done (by kernel_rfl) ?_ _
    have c0:=hp8.c0
    have z0:=hp8.fz o
    go_wp2
    go_roundw
    case rel =>
     have hcc:q+(k+1)=c+1:=by have:=Hc.out;omega
     refine⟨k+1,by omega,by go_num,(by rw [hcc];exact hp8.turn (c+1)),?_,Shuns.set hsh3 (fun e=>hpb e.symm) _,((hKk0.trans ((Kn.of_below hal).trans (hK8.sub fun g h=>h.1))).setCell (.inl fun h=>h.2 rfl) _)⟩
     rw [htk.out,← List.append_assoc]
     exact NmMem.set hM8 hsh3 (fun e=>hpb e.symm) hNp _
    case measure=>simp [intOf];omega
  ·obtain rfl:k=m:=by omega
   go_wp2
   go_end0
   refine⟨rfl,hpk,?_,hSk,hKk⟩
   rw [List.take_of_length_le (by rw [← Hm.out];exact Nat.le_refl _)] at hMk
   exact hMk
end Go.Proofs.YtahnbigkdfmpbaaGreatDoor
namespace Go.Proofs.YtahnbigkdfmpbaaGreatDoor
open Go.RowKit Go.Maps Go.WideMaps
def fndV (x:Option Nat):Value:=.tuple #[.int .i64 ((x.getD 0:Nat):Int),.bool x.isSome]
theorem ints_form {w:World} {base:Nat} {e:TypeId} {v:Value} {zs:List Int} (h:w.ownsInts base e .i64 v zs):∃ a cap,v=.slice a zs.length cap∧zs.length≤cap∧∀ (j:Nat) (x:Int),zs[j]? = some x→∃ g,a=some ⟨g,0,none⟩∧w.cell? ⟨g,j,none⟩=some (.int .i64 x):=by
 have h0:=h.1
 rcases h.1.2 with ⟨rfl,h2⟩|⟨g,cap,cur,rfl,hg,hh,hn,hc,hs,ht⟩
 ·have e:=List.length_eq_zero_iff.1 h2
  subst e
  exact⟨none,0,rfl,Nat.le_refl _,fun j x hx=>by simp at hx⟩
 ·refine⟨_,cap,rfl,hn,fun j x hx=>⟨g,rfl,?_⟩⟩
  have hlt:j<zs.length:=by
   rcases Nat.lt_or_ge j zs.length with h1|h1
   ·exact h1
   ·rw [List.getElem?_eq_none h1] at hx;cases hx
  have e0:=World.ownsRow.cellAt h0 j (by omega)
  rw [List.getElem?_map,hx] at e0
  exact e0
set_option maxRecDepth 100000 in
set_option maxHeartbeats 2000000 in
theorem find_any (p o b base n:Nat) (cs:Array Value) (ty:TypeId) (U:List Bs) (s:Bs) (w:World) (hp:NmB w p o b U.length cs ty) (hM:NmMem w b base n U) (hn:n≤100000000) (hU:U.length≤100000000) (hs:s.length≤1000000) :
  Calls Tryz.prog 97 #[.pointer (some ⟨p,o,none⟩),.string (bs s)] w fun e w'=>e=.returned (fndV (fndR s U))∧Below w.heap.size w w':=by
 obtain⟨D,hown,hD⟩:=hM
 have hkey:=keyS s hs
 have hmx:n<maxLen:=by unfold maxLen;omega
 have hAT:=hown.at lawStr Tryz.underlying75 (zeroHave w) hmx hkey
 obtain⟨v,zs,hrun,hat,hoi,hzl,_⟩:=hAT
 have ez:zs=posR s 0 U:=by rw [← hD s,hat,items_row hoi]
 have hF:Hid (fndR s U=(zs.getLast?).map fun x=>U.length - 1 - x.toNat):=by show _=_;unfold fndR;rw [ez]
 have hL:∀ x,zs.getLast? = some x→0≤x∧x<(U.length:Int):=fun x hx=>pos_last (by rw [← ez];exact hx)
 have hzU:zs.length≤U.length:=by rw [ez];exact pos_len s 0 U
 clear ez hD hat hown hzl
 obtain⟨a,cap,rfl,hcap,hc⟩:=ints_form hoi
 have c0:=hp.c0
 have c1:=hp.c1
 obtain⟨q,hq⟩:∃ q,q=U.length:=⟨_,rfl⟩
 rw [← hq] at c0 hF hL hzU hU
 clear hp hoi hq
 generalize bs s=X at hrun hkey ⊢
 generalize fndR s U=F at *
 by_cases h0:zs.length=0
 ·obtain rfl:=List.length_eq_zero_iff.1 h0
  obtain rfl:F=none:=hF.out
  go_enter Tryz.func97,Tryz.ntmps97
  go_wp2
  go_ret2
  exact⟨rfl,Below.refl _ _⟩
 ·obtain⟨x,hx⟩:∃ x,zs.getLast? = some x:=by
   cases h:zs.getLast? with
   | none=>exact absurd (by rw [List.getLast?_eq_none_iff.1 h];rfl) h0
   | some x=>exact⟨x,rfl⟩
  obtain⟨hx0,hx1⟩:=hL x hx
  have hg:zs[zs.length - 1]? = some x:=by rw [← List.getLast?_eq_getElem?];exact hx
  obtain⟨g,rfl,cg⟩:=hc _ x hg
  have hF2:F=some (q - 1 - x.toNat):=by rw [hF.out,hx];rfl
  obtain⟨m,hm⟩:∃ m,zs.length=m+1:=⟨zs.length - 1,by omega⟩
  rw [hm] at hrun hcap cg h0 hzU
  have cg2:w.cell? ⟨g,m,none⟩=some (.int .i64 x):=by simpa using cg
  clear cg hc hg hm hx hL hF
  have e1:(((q - 1 - x.toNat:Nat)):Int)=(q:Int) - 1 - x:=by omega
  subst hF2
  unfold fndV
  simp only [Option.getD_some,Option.isSome_some,e1]
  clear e1
  go_enter Tryz.func97,Tryz.ntmps97
  go_wp2
  go_quiet (fail)
  go_wp2
  go_ret2
  exact⟨rfl,below_drewN (Below.refl _ _) _⟩
theorem NmMem.drop {w w2:World} {b base n:Nat} {U:List Bs} {D:DataW Unit} {v v':Value} {x:Bs} {zs:List Int} (hD:∀ s,itemsD (D.atKey (.string s) .nil)=posR s 0 (U ++ [x])) (hm:IsMap D) (hat:D.atKey (.string x) .nil=rowDatum .i64 v zs) (ho:w.ownsInts base 3 .i64 v zs)
  {w1:World} (ho':w1.ownsInts base 3 .i64 v' zs.dropLast) (h2:w2.ownsGroups Tryz.prog 9 base 3 .i64 b n (D.put (.string x) (rowDatum .i64 v' zs.dropLast))):NmMem w2 b base n U:=by
 refine⟨_,h2,fun s=>?_⟩
 have ez:zs=posR x 0 U ++ [(U.length:Int)]:=by
  rw [← items_row ho,← hat,hD x,pos_app]
  show _++(if x=x then _ else _)=_
  rw [if_pos rfl]
  show _ ++ [((0+U.length:Nat):Int)]=_
  rw [Nat.zero_add]
 by_cases hs:x=s
 ·subst hs
  rw [atKey_put_same hm keyLit,items_row ho',ez,List.dropLast_concat]
 ·rw [atKey_put_other (fun e=>hs (by injection e with e;exact e.symm)),hD s,pos_app]
  show _++(if x=s then _ else _)=_
  rw [if_neg hs]
  simp [posR]
theorem ints_drop {w:World} {base g cap:Nat} {e:TypeId} {zs:List Int} {m:Nat} (h:w.ownsInts base e .i64 (.slice (some ⟨g,0,none⟩) (m+1) cap) zs) (hm:zs.length=m+1):w.ownsInts base e .i64 (.slice (some ⟨g,0,none⟩) m cap) zs.dropLast:=by
 refine⟨?_,fun z hz=>h.2 z (List.dropLast_subset _ hz)⟩
 rcases h.1.2 with ⟨h1,_⟩|⟨g2,cap2,cur,e2,hg,hh,hn,hc,hs,ht⟩
 ·cases h1
 ·simp only [Value.slice.injEq,Option.some.injEq,Addr.mk.injEq] at e2
  obtain⟨⟨rfl,_⟩,_,rfl⟩:=e2
  have hl:zs.dropLast.length=m:=by rw [List.length_dropLast,hm];rfl
  refine⟨by simp,.inr ⟨g,cap,cur,by rw [hl],hg,hh,by rw [hl];omega,hc,hs,?_⟩⟩
  rw [hl]
  have:=congrArg (List.take (m*1)) ht
  rw [List.take_take,hm] at this
  have e3:min (m*1) ((m+1) * 1)=m*1:=by omega
  rw [e3] at this
  rw [this,← List.map_take]
  congr 1
  rw [List.dropLast_eq_take,hm]
  simp
theorem wrapZ {x:Int} (h0 : -9223372036854775808≤x) (h1:x≤9223372036854775807):IntKind.i64.wrap x=x:=by
 simp [IntKind.wrap,IntKind.bits,IntKind.signed,IntKind.min,IntKind.max]
 omega
def NmF (w:World) (b base n:Nat) (f:Bs→List Int):Prop:=∃ D:DataW Unit,w.ownsGroups Tryz.prog 9 base 3 .i64 b n D∧∀ s,itemsD (D.atKey (.string s) .nil)=f s
def dropF (U l:List Bs) (k:Nat) (s:Bs):List Int:=(posR s 0 (U++l)).take ((posR s 0 (U++l)).length - (l.take k).count s)
theorem pos_count (s:Bs):∀ (k:Nat) (l:List Bs),(posR s k l).length=l.count s
 | _,[]=>rfl
 | k,x :: l=>by
  have c:posR s k (x :: l)=if x=s then (k:Int) :: posR s (k+1) l else posR s (k+1) l:=rfl
  have ih:=pos_count s (k+1) l
  rw [c,List.count_cons]
  by_cases h:x=s
  ·rw [if_pos h,if_pos (by simp [h]),List.length_cons,ih]
  ·rw [if_neg h,if_neg (by simp [h]),ih];rfl
theorem dropF_z (U l:List Bs):dropF U l 0=fun s=>posR s 0 (U++l):=by
 funext s
 unfold dropF
 simp
theorem dropF_end (U l:List Bs):dropF U l l.length=fun s=>posR s 0 U:=by
 funext s
 unfold dropF
 rw [List.take_length,pos_app,List.length_append,pos_count s (0+U.length) l]
 rw [Nat.add_sub_cancel,List.take_left]
theorem dropF_s {U l:List Bs} {k:Nat} {x:Bs} (hx:l[k]? = some x) (s:Bs):dropF U l (k+1) s=if x=s then (dropF U l k s).dropLast else dropF U l k s:=by
 obtain⟨hlt,e⟩:=List.getElem?_eq_some_iff.1 hx
 unfold dropF
 rw [List.take_succ_eq_append_getElem hlt,e,List.count_append,List.count_singleton]
 by_cases h:x=s
 ·subst h
  rw [if_pos rfl,if_pos (by simp),List.dropLast_eq_take,List.take_take,List.length_take]
  congr 1
  omega
 ·rw [if_neg h,if_neg (by simp [h])]
  rfl
theorem dropF_pos {U l:List Bs} {k:Nat} {x:Bs} (hx:l[k]? = some x):∃ m,(dropF U l k x).length=m+1:=by
 obtain⟨hlt,e⟩:=List.getElem?_eq_some_iff.1 hx
 have h1:(l.take (k+1)).count x≤l.count x:=List.Sublist.count_le _ (List.take_sublist _ _)
 rw [List.take_succ_eq_append_getElem hlt,e,List.count_append,List.count_singleton,if_pos (by simp)] at h1
 refine⟨(dropF U l k x).length - 1,?_⟩
 unfold dropF
 rw [List.length_take,pos_count,List.count_append]
 omega
theorem NmF.set {w:World} {b base n:Nat} {f:Bs→List Int} {No:Nat→Prop} (h:NmF w b base n f) (hs:w.Shuns b No) {a:Addr} (ha:b≠a.block) (hN:No a.block) (u:Value):NmF (w.setCell a u) b base n f:=by
 obtain⟨D,h1,h2⟩:=h
 have hg:w.grownBy (w.setCell a u) (some a.block):=⟨rfl,rfl,rfl,by simp [World.setCell],fun i _ hi=>Below.heap_setCell _ _ _ _ (fun e=>hi (by rw [e]))⟩
 exact⟨D,h1.kept hg (fun e=>ha (by injection e)) (hs.rowsOff fun j hj=>by injection hj with hj;rw [← hj];exact hN),h2⟩
set_option maxRecDepth 100000 in
set_option maxHeartbeats 4000000 in
theorem release_any (p o b base n:Nat) (No:Nat→Prop) (cs:Array Value) (ty:TypeId) (U l:List Bs) (vl:Value) (w:World) (hp:NmB w p o b (U.length+l.length) cs ty) (hM:NmMem w b base n (U++l)) (hS:w.Shuns b No) (hNp:No p) (hNb:¬ No b) (hl:NmK (fun g=>No g∧g≠p) w l vl)
  (hn:n+l.length≤100000000) (hU:U.length+l.length≤100000000) (hc:∀ x∈l,x.length≤1000000) :
  Calls Tryz.prog 98 #[.pointer (some ⟨p,o,none⟩),vl] w fun e w'=>e=.returned (.tuple #[])∧NmB w' p o b U.length cs ty∧NmMem w' b base (n+l.length) U∧w'.Shuns b No∧Kn (fun g=>No g∧g≠p) w w':=by
 have hpb:p≠b:=fun e=>hNb (e ▸ hNp)
 obtain⟨a,cap,rfl,hl⟩:=hl
 obtain⟨m,hm⟩:∃ m,m=l.length:=⟨_,rfl⟩
 obtain⟨q,hq⟩:∃ q,q=U.length:=⟨_,rfl⟩
 have Hm:Hid (m=l.length):=hm
 rw [← hm] at hn hU hp ⊢
 rw [← hq] at hp hU ⊢
 clear hm hq
 have hF0:Hid (NmF w b base (n+0) (dropF U l 0)):=by
  obtain⟨D,h1,h2⟩:=hM
  exact⟨D,h1,fun s=>by rw [h2 s,dropF_z]⟩
 clear hM
 obtain⟨c,hcd⟩:∃ c,c=q+m:=⟨_,rfl⟩
 have Hc:Hid (c=q+m):=hcd
 rw [← hcd] at hp
 have hcb:c≤100000000:=by omega
 clear hcd
 go_enter Tryz.func98,Tryz.ntmps98
 go_wp2
 go_loopw [9] (fun i wr=>∃ k:Nat,k≤m∧i=.int .i64 k∧NmB wr p o b c cs ty∧Hid (NmF wr b base (n+k) (dropF U l k))∧wr.Shuns b No∧Kn No w wr) (fun i _=>m - (intOf i).toNat)
 case atStart=>exact⟨0,Nat.zero_le _,rfl,hp,hF0,hS,Kn.refl _ _⟩
 case round =>
  obtain⟨k,hk,rfl,hpk,hMk,hSk,hKk⟩:=hrel
  by_cases hlt:k<m
  ·obtain⟨x,hx⟩:=someS (l:=l) (k:=k) (by rw [← Hm.out];exact hlt)
   have hxl:=hc x (List.mem_of_getElem? hx)
   obtain⟨g,off,rfl,hNg,hg,cx⟩:=hl k x hx
   have cx2:=(hKk.cell (p:=⟨g,off+k,none⟩) hNg.1 hg).trans cx
   have hkey:=keyS x hxl
   have hmx:n+k<maxLen:=by unfold maxLen;omega
   obtain⟨D,hown0,hD0⟩:=hMk.out
   clear hMk hF0
   have hmap:IsMap D:=by obtain⟨_,_,_,_,_,e,_⟩:=hown0;exact⟨_,e⟩
   have hAT:=hown0.at lawStr Tryz.underlying75 (zeroHave wr) hmx hkey
   obtain⟨v,zs,hrun,hat,hoi,hzl,hback⟩:=hAT
   have hsv:∀ j,v.ownBlock=some j→¬ No j:=look_shuns hown0 lawStr Tryz.underlying75 (zeroHave wr) hkey hrun hSk
   have hzs:zs=dropF U l k x:=by rw [← hD0 x,hat,items_row hoi]
   obtain⟨m1,hm1⟩:=dropF_pos (U:=U) hx
   rw [← hzs] at hm1
   obtain⟨a1,cap1,rfl,hcap1,hc1⟩:=ints_form hoi
   obtain⟨g1,rfl,hdead⟩:=hc1 0 (zs[0]'(by omega)) (List.getElem?_eq_getElem (by omega))
   rw [hm1] at hrun hoi hcap1 hsv hback hat
   have hoi2:=ints_drop hoi hm1
   have hFs:Hid (∀ s,dropF U l (k+1) s=if x=s then (dropF U l k s).dropLast else dropF U l k s):=dropF_s hx
   have hm1b:m1+1≤100000000:=by omega
   have Hzl:Hid (zs.length≤n+k):=hzl
   have hmc:¬ (cap1<m1):=by omega
   have g8:IntKind.i64.wrap (m1:Int)=(m1:Int):=wrapZ (by omega) (by omega)
   have Hm1:Hid (zs.length=m1+1):=hm1
   have Hzs:Hid (zs=dropF U l k x):=hzs
   clear hdead
   clear cx hx hc1 hm1 hzs hzl
   generalize bs x=X at cx2 hkey hrun hback
   have c1:=hpk.c1
   go_wp2
   refine wp_region_held_drew (S:=fun w9=>w9.cell? ⟨p,o+1,none⟩=some (.map (some b))) (by kernel_rfl) c1 (fun hS=>?_)
   obtain⟨w5,hw5⟩:∃ w0,w0=wr.drew:=⟨_,rfl⟩
   have hpk0:NmB w5 p o b c cs ty:=by rw [hw5];exact⟨hpk.blk,hpk.map,hpk.room⟩
   have hKk0:Kn No w w5:=by rw [hw5];exact hKk.drew
   have hg05:wr.grownBy w5 (some g1):=by rw [hw5];exact⟨rfl,rfl,rfl,Nat.le_refl _,fun _ _ _=>rfl⟩
   have hoi5:w5.ownsInts base 3 .i64 (.slice (some ⟨g1,0,none⟩) m1 cap1) zs.dropLast:=by rw [hw5];exact hoi2
   rw [← hw5] at hS ⊢
   clear hw5
   refine wpAnyH_take (i:=0) (v:=.pointer (some ⟨p,o,none⟩)) rfl (by kernel_rfl) (by kernel_rfl) (by kernel_rfl) (fun _ _ _ h=>h) (Or.inl ⟨by rfl,fun w hS=>by go_simp⟩) hS ?_
   simp only [Act.put,List.getElem_toArray,List.getElem_cons_zero,List.getElem_cons_succ,List.setIfInBounds_toArray,List.set_cons_zero,List.set_cons_succ]
   refine wpAnyH_take (i:=1) (v:=.pointer (some ⟨p,o,none⟩)) rfl (by kernel_rfl) (by kernel_rfl) (by kernel_rfl) (fun _ _ _ h=>h) (Or.inl ⟨by rfl,fun w hS=>by go_simp⟩) hS ?_
   simp only [Act.put,List.getElem_toArray,List.getElem_cons_zero,List.getElem_cons_succ,List.setIfInBounds_toArray,List.set_cons_zero,List.set_cons_succ]
   refine wpAnyH_take (i:=2) (v:=.pointer (some ⟨p,o+1,none⟩)) rfl (by kernel_rfl) (by kernel_rfl) (by kernel_rfl) (fun _ _ _ h=>h) (Or.inl ⟨by rfl,fun w hS=>by go_simp⟩) hS ?_
   simp only [Act.put,List.getElem_toArray,List.getElem_cons_zero,List.getElem_cons_succ,List.setIfInBounds_toArray,List.set_cons_zero,List.set_cons_succ]
   refine wpAnyH_take (i:=3) (v:=.map (some b)) rfl (by kernel_rfl) (by kernel_rfl) (by kernel_rfl) (fun _ _ _ h=>h) (Or.inl ⟨by rfl,fun w hS=>by go_simp⟩) hS ?_
   simp only [Act.put,List.getElem_toArray,List.getElem_cons_zero,List.getElem_cons_succ,List.setIfInBounds_toArray,List.set_cons_zero,List.set_cons_succ]
   refine wpAnyH_take (i:=4) (v:=.string X) rfl (by kernel_rfl) (by kernel_rfl) (by kernel_rfl) (fun _ _ _ h=>h) (Or.inl ⟨by rfl,fun w hS=>by go_simp⟩) hS ?_
   simp only [Act.put,List.getElem_toArray,List.getElem_cons_zero,List.getElem_cons_succ,List.setIfInBounds_toArray,List.set_cons_zero,List.set_cons_succ]
   refine wpAnyH_take (i:=5) (v:=.slice (some ⟨g1,0,none⟩) (m1+1) cap1) rfl (by kernel_rfl) (by kernel_rfl) (by kernel_rfl) (fun _ _ _ h=>h) (Or.inl ⟨by rfl,fun w hS=>by go_simp⟩) hS ?_
   simp only [Act.put,List.getElem_toArray,List.getElem_cons_zero,List.getElem_cons_succ,List.setIfInBounds_toArray,List.set_cons_zero,List.set_cons_succ]
   refine wpAnyH_take (i:=6) (v:=.slice (some ⟨g1,0,none⟩) (m1+1) cap1) rfl (by kernel_rfl) (by kernel_rfl) (by kernel_rfl) (fun _ _ _ h=>h) (Or.inl ⟨by rfl,fun w hS=>by go_simp⟩) hS ?_
   simp only [Act.put,List.getElem_toArray,List.getElem_cons_zero,List.getElem_cons_succ,List.setIfInBounds_toArray,List.set_cons_zero,List.set_cons_succ]
   refine wpAnyH_take (i:=7) (v:=.int .i64 ((m1:Int) + 1)) rfl (by kernel_rfl) (by kernel_rfl) (by kernel_rfl) (fun _ _ _ h=>h) (Or.inl ⟨by rfl,fun w hS=>by go_simp⟩) hS ?_
   simp only [Act.put,List.getElem_toArray,List.getElem_cons_zero,List.getElem_cons_succ,List.setIfInBounds_toArray,List.set_cons_zero,List.set_cons_succ]
   refine wpAnyH_take (i:=8) (v:=.int .i64 (m1:Int)) rfl (by kernel_rfl) (by kernel_rfl) (by kernel_rfl) (fun _ _ _ h=>h) (Or.inl ⟨by rfl,fun w hS=>by go_simp⟩) hS ?_
   simp only [Act.put,List.getElem_toArray,List.getElem_cons_zero,List.getElem_cons_succ,List.setIfInBounds_toArray,List.set_cons_zero,List.set_cons_succ]
   refine wpAnyH_take (i:=9) (v:=.slice (some ⟨g1,0,none⟩) m1 cap1) rfl (by kernel_rfl) (by kernel_rfl) (by kernel_rfl) (fun _ _ _ h=>h) (Or.inl ⟨by rfl,fun w hS=>by go_simp⟩) hS ?_
   simp only [Act.put,List.getElem_toArray,List.getElem_cons_zero,List.getElem_cons_succ,List.setIfInBounds_toArray,List.set_cons_zero,List.set_cons_succ]
   refine wpAnyH_ready (rs:=[10]) (by kernel_rfl) (by simp) ?_
   refine ready_cons rfl (fun KK hKK=>?_) AllReadyH.nil
   have hBK:=hback w5 (.slice (some ⟨g1,0,none⟩) m1 cap1) _ hg05 hoi5 (by have:=Hzl.out;rw [List.length_dropLast];omega) (.inl rfl)
   obtain⟨w8,hrun3,hown3,hgr3⟩:=hBK
   have hsh3:w8.Shuns b No:=back_shuns (v':=.slice (some ⟨g1,0,none⟩) m1 cap1) lawStr Tryz.underlying75 hkey hown0 hmx hoi hSk (fun j hj hN=>hsv j hj hN) hg05 hrun3
   refine StepP.mapUpdate rfl (.tmp 22) (.tmp 23) (.tmp 28) 75 rfl rfl rfl rfl hrun3 ?_
   have hK8:Kn No w w8:=hKk0.grown hgr3 (fun j e hN=>by injection e with e;subst e;exact hNb hN)
   have hp8:NmB w8 p o b c cs ty:=⟨(hgr3.block p hpk0.lt (fun e=>hpb (by injection e))).trans hpk0.blk,hpk0.map,hpk0.room⟩
   replace hS:w8.cell? ⟨p,o+1,none⟩=some (.map (some b)):=hp8.c1
   refine hKK.out _ _ hS (fun hS=>?_)
   clear hKK KK
   try simp only [Act.put,List.getElem_toArray,List.getElem_cons_zero,List.getElem_cons_succ,List.setIfInBounds_toArray,List.set_cons_zero,List.set_cons_succ]
   refine wpAnyH_done (by kernel_rfl) ?_ _
   go_wp2
   go_roundw
   case rel =>
    refine⟨k+1,by omega,by go_num,hp8,⟨_,hown3,fun s=>?_⟩,hsh3,hK8⟩
    rw [hFs.out s]
    by_cases hs:x=s
    ·subst hs
     rw [if_pos rfl,atKey_put_same hmap keyLit,items_row hoi5,← Hzs.out]
    ·rw [if_neg hs,atKey_put_other (fun e=>hs (by injection e with e;exact e.symm)),hD0 s]
   case measure=>simp [intOf];omega
  ·obtain rfl:k=m:=by omega
   have c0:=hpk.c0
   have z0:=hpk.fz o
   have e1:(c:Int) - (k:Int)=(q:Int):=by have:=Hc.out;omega
   go_wp2
   go_end0
   have hM9:NmMem wr b base (n+k) U:=by
    obtain⟨D,h1,h2⟩:=hMk.out
    exact⟨D,h1,fun s=>by rw [h2 s,Hm.out,dropF_end]⟩
   refine⟨rfl,?_,NmMem.set hM9 hSk (fun e=>hpb e.symm) hNp _,Shuns.set hSk (fun e=>hpb e.symm) _,(hKk.sub fun g h=>h.1).setCell (.inl fun h=>h.2 rfl) _⟩
   have h9:=hpk.turn q
   first | exact h9 | (rw [e1];exact h9)
end Go.Proofs.YtahnbigkdfmpbaaGreatDoor
