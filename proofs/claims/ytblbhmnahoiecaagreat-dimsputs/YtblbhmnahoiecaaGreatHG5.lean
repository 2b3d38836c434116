/- A part of the proof. -/
import Derived.Test.YtblbhmnahoiecaaGreatHG4
import Derived.Laws.Cover3
set_option linter.unusedVariables false
set_option linter.unusedSimpArgs false
set_option maxRecDepth 100000
set_option maxHeartbeats 2000000
namespace Go.Proofs.YtblbhmnahoiecaaGreat
open Go.RowKit
theorem belowA (w:World) (o:Obj):Below w.heap.size w (w.alloc o):=(Below.refl _ _).alloc (Nat.le_refl _) _
theorem bchain {a b c:World} (h1:Below a.heap.size a b) (h2:Below b.heap.size b c):Below a.heap.size a c:=h1.trans (h2.mono h1.size)
theorem heapNew (w:World) (o:Obj):(w.alloc o).heap[w.heap.size]? = some o:=by show (w.heap.push o)[w.heap.size]? = some o;simp
structure Kn (No:Nat->Prop) (w w':World):Prop where
 os:w'.os=w.os
 tape:w'.tape=w.tape
 output:w'.output=w.output
 size:w.heap.size<=w'.heap.size
 block:∀ k,No k->k<w.heap.size->w'.heap[k]? = w.heap[k]?
theorem Kn.refl (No:Nat->Prop) (w:World):Kn No w w:=⟨rfl,rfl,rfl,Nat.le_refl _,fun _ _ _=>rfl⟩
theorem Kn.trans {No:Nat->Prop} {w1 w2 w3:World} (h:Kn No w1 w2) (k:Kn No w2 w3):Kn No w1 w3 :=
 ⟨k.os.trans h.os,k.tape.trans h.tape,k.output.trans h.output,Nat.le_trans h.size k.size,fun i hi hb=>(k.block i hi (Nat.lt_of_lt_of_le hb h.size)).trans (h.block i hi hb)⟩
theorem Kn.sub {No No':Nat->Prop} {w w':World} (h:Kn No w w') (hs:∀ g,No' g->No g):Kn No' w w':=⟨h.os,h.tape,h.output,h.size,fun k hk hb=>h.block k (hs k hk) hb⟩
theorem Kn.of_below {No:Nat->Prop} {w w':World} (h:Below w.heap.size w w'):Kn No w w':=⟨h.os,h.tape,h.output,h.size,fun k _ hb=>h.block k hb⟩
theorem Kn.below {No:Nat->Prop} {n:Nat} {w w':World} (h:Kn No w w') (hn:∀ g,g<n->No g) (hs:n<=w.heap.size):Below n w w':=⟨h.os,h.tape,h.output,h.size,fun k hk=>h.block k (hn k hk) (Nat.lt_of_lt_of_le hk hs)⟩
theorem Kn.cell {No:Nat->Prop} {w w':World} (h:Kn No w w') {p:Addr} (hp:No p.block) (hs:p.block<w.heap.size):w'.cell? p=w.cell? p:=World.cell?_of_block (w:=w) (h.block p.block hp hs)
theorem Kn.frozen {No:Nat->Prop} {w w':World} (h:Kn No w w') {p:Addr} (hp:No p.block) (hs:p.block<w.heap.size):w'.frozen? p=w.frozen? p:=World.frozen?_of_block (w:=w) (h.block p.block hp hs)
theorem Kn.drew {No:Nat->Prop} {w w':World} (h:Kn No w w'):Kn No w w'.drew:=⟨h.os,h.tape,h.output,h.size,h.block⟩
theorem Kn.alloc {No:Nat->Prop} {w w':World} (h:Kn No w w') (o:Obj):Kn No w (w'.alloc o):=h.trans (Kn.of_below (belowA w' o))
theorem Kn.setCell {No:Nat->Prop} {w w':World} (h:Kn No w w') {p:Addr} (hp:¬ No p.block\/w.heap.size<=p.block) (u:Value):Kn No w (w'.setCell p u):=by
 refine⟨h.os,h.tape,h.output,by simpa [World.setCell] using h.size,fun k hk hb=>(Below.heap_setCell _ _ _ _ ?_).trans (h.block k hk hb)⟩
 rcases hp with hp|hp
 ·intro e
  subst e
  exact hp hk
 ·omega
def I64 (n:Int):Prop:=-9223372036854775808<=n/\n<=9223372036854775807
def ClRow (ok:Nat->Prop) (w:World) (l:List C) (v:Value):Prop :=
 ∃ a cap,v=.slice a l.length cap/\l.length<=cap/\∀ (j:Nat) (c:C),l[j]? = some c->∃ g off,a=some ⟨g,off,none⟩/\ok g/\g<w.heap.size/\w.cell? ⟨g,off+j*2,none⟩=some (.int .u32 (c.1.val:Int))/\w.cell? ⟨g,off+j*2+1,none⟩=some (.int .u32 (c.2.val:Int))
def KdT (ok:Nat->Prop) (w:World) (P:Tm->Value->Prop) (l:List Tm) (v:Value):Prop :=
 ∃ a cap,v=.slice a l.length cap/\l.length<=cap/\∀ (j:Nat) (x:Tm),l[j]? = some x->∃ g off u0 u1 u2 u3 u4 u5,a=some ⟨g,off,none⟩/\ok g/\g<w.heap.size/\P x (.agg #[u0,u1,u2,u3,u4,u5]) /\
  w.cell? ⟨g,off+j*6,none⟩=some u0/\w.cell? ⟨g,off+j*6+1,none⟩=some u1/\w.cell? ⟨g,off+j*6+2,none⟩=some u2/\w.cell? ⟨g,off+j*6+3,none⟩=some u3/\w.cell? ⟨g,off+j*6+4,none⟩=some u4/\w.cell? ⟨g,off+j*6+5,none⟩=some u5
def SyT (ok:Nat->Prop) (w:World) (P:Tm->Value->Prop) (l:List (List C × List Tm)) (v:Value):Prop :=
 ∃ a cap,v=.slice a l.length cap/\l.length<=cap/\∀ (j:Nat) (x:List C × List Tm),l[j]? = some x->∃ g off vf vk,a=some ⟨g,off,none⟩/\ok g/\g<w.heap.size/\ClRow ok w x.1 vf/\KdT ok w P x.2 vk/\w.cell? ⟨g,off+j*2,none⟩=some vf/\w.cell? ⟨g,off+j*2+1,none⟩=some vk
def TmCl (ok:Nat->Prop) (w:World) (P:Tm->Value->Prop):Prop :=
 ∀ (k n:Int) (nm:ByteArray) (r:List C) (kids:List Tm) (sys:List (List C × List Tm)) (vr vk vs:Value),I64 k->I64 n->ClRow ok w r vr->KdT ok w P kids vk->SyT ok w P sys vs->P (.mk k n nm r kids sys) (.agg #[.int .i64 k,.int .i64 n,.string nm,vr,vk,vs])
def TmIn (ok:Nat->Prop) (w:World) (t:Tm) (v:Value):Prop:=∀ P:Tm->Value->Prop,TmCl ok w P->P t v
theorem KdT.mono {ok:Nat->Prop} {w:World} {P Q:Tm->Value->Prop} {l:List Tm} {v:Value} (h:KdT ok w P l v) (hq:∀ x v,P x v->Q x v):KdT ok w Q l v:=by
 obtain⟨a,cap,h1,h2,h3⟩:=h
 refine⟨a,cap,h1,h2,fun j x hx=>?_⟩
 obtain⟨g,off,u0,u1,u2,u3,u4,u5,a1,a2,a3,a4,a5⟩:=h3 j x hx
 exact⟨g,off,u0,u1,u2,u3,u4,u5,a1,a2,a3,hq _ _ a4,a5⟩
theorem SyT.mono {ok:Nat->Prop} {w:World} {P Q:Tm->Value->Prop} {l:List (List C × List Tm)} {v:Value} (h:SyT ok w P l v) (hq:∀ x v,P x v->Q x v):SyT ok w Q l v:=by
 obtain⟨a,cap,h1,h2,h3⟩:=h
 refine⟨a,cap,h1,h2,fun j x hx=>?_⟩
 obtain⟨g,off,vf,vk,a1,a2,a3,a4,a5,a6⟩:=h3 j x hx
 exact⟨g,off,vf,vk,a1,a2,a3,a4,a5.mono hq,a6⟩
theorem TmIn.mk {ok:Nat->Prop} {w:World} (k n:Int) (nm:ByteArray) (r:List C) (kids:List Tm) (sys:List (List C × List Tm)) (vr vk vs:Value) (hk:I64 k) (hn:I64 n) (h1:ClRow ok w r vr) (h2:KdT ok w (TmIn ok w) kids vk) (h3:SyT ok w (TmIn ok w) sys vs) :
  TmIn ok w (.mk k n nm r kids sys) (.agg #[.int .i64 k,.int .i64 n,.string nm,vr,vk,vs]) :=
 fun P h=>h k n nm r kids sys vr vk vs hk hn h1 (h2.mono fun _ _ hx=>hx P h) (h3.mono fun _ _ hx=>hx P h)
structure TmTop (ok:Nat->Prop) (w:World) (t:Tm) (ra:Option Addr) (rc:Nat) (ka:Option Addr) (kc:Nat) (sa:Option Addr) (sc:Nat):Prop where
 ik:I64 t.kind
 inn:I64 t.n
 row:ClRow ok w t.r (.slice ra t.r.length rc)
 kids:KdT ok w (TmIn ok w) t.kids (.slice ka t.kids.length kc)
 sys:SyT ok w (TmIn ok w) t.sys (.slice sa t.sys.length sc)
theorem TmTop.value {ok:Nat->Prop} {w:World} {t:Tm} {ra rc ka kc sa sc} (h:TmTop ok w t ra rc ka kc sa sc):TmIn ok w t (.agg #[.int .i64 t.kind,.int .i64 t.n,.string t.name,.slice ra t.r.length rc,.slice ka t.kids.length kc,.slice sa t.sys.length sc]):=by
 obtain⟨k,n,s,r,kids,sys⟩:=t
 exact .mk _ _ _ _ _ _ _ _ _ h.ik h.inn h.row h.kids h.sys
theorem TmIn.form {ok:Nat->Prop} {w:World} {t:Tm} {v:Value} (h:TmIn ok w t v):∃ ra rc ka kc sa sc,v=.agg #[.int .i64 t.kind,.int .i64 t.n,.string t.name,.slice ra t.r.length rc,.slice ka t.kids.length kc,.slice sa t.sys.length sc]/\TmTop ok w t ra rc ka kc sa sc:=by
 have h2:=h (fun t v=>TmIn ok w t v/\∃ ra rc ka kc sa sc,v=.agg #[.int .i64 t.kind,.int .i64 t.n,.string t.name,.slice ra t.r.length rc,.slice ka t.kids.length kc,.slice sa t.sys.length sc]/\TmTop ok w t ra rc ka kc sa sc) (fun k n nm r kids sys vr vk vs hk hn h1 h2 h3=>by
  refine⟨.mk k n nm r kids sys vr vk vs hk hn h1 (h2.mono fun _ _ h=>h.1) (h3.mono fun _ _ h=>h.1),?_⟩
  have e2:=h2.mono (Q:=TmIn ok w) fun _ _ h=>h.1
  have e3:=h3.mono (Q:=TmIn ok w) fun _ _ h=>h.1
  obtain⟨ra,rc,rfl,_⟩:=id h1
  obtain⟨ka,kc,rfl,_⟩:=id h2
  obtain⟨sa,sc,rfl,_⟩:=id h3
  exact⟨ra,rc,ka,kc,sa,sc,rfl,hk,hn,h1,e2,e3⟩)
 exact h2.2
theorem ClRow.keep {ok ok':Nat->Prop} {w w':World} {l:List C} {v:Value} (h:ClRow ok w l v) (hs:w.heap.size<=w'.heap.size) (ho:∀ g,ok g->ok' g) (hb:∀ g,ok g->g<w.heap.size->w'.heap[g]? = w.heap[g]?):ClRow ok' w' l v:=by
 obtain⟨a,cap,h1,h2,h3⟩:=h
 refine⟨a,cap,h1,h2,fun j x hx=>?_⟩
 obtain⟨g,off,a1,a2,a3,a4,a5⟩:=h3 j x hx
 exact⟨g,off,a1,ho g a2,Nat.lt_of_lt_of_le a3 hs,(World.cell?_of_block (w:=w) (a:=⟨g,off+j*2,none⟩) (hb g a2 a3)).trans a4,(World.cell?_of_block (w:=w) (a:=⟨g,off+j*2+1,none⟩) (hb g a2 a3)).trans a5⟩
theorem KdT.keep {ok ok':Nat->Prop} {w w':World} {P:Tm->Value->Prop} {l:List Tm} {v:Value} (h:KdT ok w P l v) (hs:w.heap.size<=w'.heap.size) (ho:∀ g,ok g->ok' g) (hb:∀ g,ok g->g<w.heap.size->w'.heap[g]? = w.heap[g]?):KdT ok' w' P l v:=by
 obtain⟨a,cap,h1,h2,h3⟩:=h
 refine⟨a,cap,h1,h2,fun j x hx=>?_⟩
 obtain⟨g,off,u0,u1,u2,u3,u4,u5,a1,a2,a3,a4,c0,c1,c2,c3,c4,c5⟩:=h3 j x hx
 have c:=fun i=>World.cell?_of_block (w:=w) (w':=w') (a:=⟨g,i,none⟩) (hb g a2 a3)
 exact⟨g,off,u0,u1,u2,u3,u4,u5,a1,ho g a2,Nat.lt_of_lt_of_le a3 hs,a4,(c _).trans c0,(c _).trans c1,(c _).trans c2,(c _).trans c3,(c _).trans c4,(c _).trans c5⟩
theorem SyT.keep {ok ok':Nat->Prop} {w w':World} {P:Tm->Value->Prop} {l:List (List C × List Tm)} {v:Value} (h:SyT ok w P l v) (hs:w.heap.size<=w'.heap.size) (ho:∀ g,ok g->ok' g) (hb:∀ g,ok g->g<w.heap.size->w'.heap[g]? = w.heap[g]?):SyT ok' w' P l v:=by
 obtain⟨a,cap,e1,e2,e3⟩:=h
 refine⟨a,cap,e1,e2,fun j x hx=>?_⟩
 obtain⟨g,off,vf,vk,a1,a2,a3,a4,a5,c0,c1⟩:=e3 j x hx
 have c:=fun i=>World.cell?_of_block (w:=w) (w':=w') (a:=⟨g,i,none⟩) (hb g a2 a3)
 exact⟨g,off,vf,vk,a1,ho g a2,Nat.lt_of_lt_of_le a3 hs,a4.keep hs ho hb,a5.keep hs ho hb,(c _).trans c0,(c _).trans c1⟩
theorem TmIn.keep {ok ok':Nat->Prop} {w w':World} {t:Tm} {v:Value} (h:TmIn ok w t v) (hs:w.heap.size<=w'.heap.size) (ho:∀ g,ok g->ok' g) (hb:∀ g,ok g->g<w.heap.size->w'.heap[g]? = w.heap[g]?):TmIn ok' w' t v :=
 h (TmIn ok' w') fun k n nm r kids sys vr vk vs hk hn h1 h2 h3=>.mk k n nm r kids sys vr vk vs hk hn (h1.keep hs ho hb) (h2.keep hs ho hb) (h3.keep hs ho hb)
theorem TmTop.keep {ok ok':Nat->Prop} {w w':World} {t:Tm} {ra rc ka kc sa sc} (h:TmTop ok w t ra rc ka kc sa sc) (hs:w.heap.size<=w'.heap.size) (ho:∀ g,ok g->ok' g) (hb:∀ g,ok g->g<w.heap.size->w'.heap[g]? = w.heap[g]?):TmTop ok' w' t ra rc ka kc sa sc :=
 ⟨h.ik,h.inn,h.row.keep hs ho hb,(h.kids.keep hs ho hb).mono fun _ _ hx=>hx.keep hs ho hb,(h.sys.keep hs ho hb).mono fun _ _ hx=>hx.keep hs ho hb⟩
theorem KdT.all {ok ok':Nat->Prop} {w w':World} {l:List Tm} {v:Value} (h:KdT ok w (TmIn ok w) l v) (hs:w.heap.size<=w'.heap.size) (ho:∀ g,ok g->ok' g) (hb:∀ g,ok g->g<w.heap.size->w'.heap[g]? = w.heap[g]?):KdT ok' w' (TmIn ok' w') l v :=
 (h.keep hs ho hb).mono fun _ _ hx=>hx.keep hs ho hb
theorem SyT.all {ok ok':Nat->Prop} {w w':World} {l:List (List C × List Tm)} {v:Value} (h:SyT ok w (TmIn ok w) l v) (hs:w.heap.size<=w'.heap.size) (ho:∀ g,ok g->ok' g) (hb:∀ g,ok g->g<w.heap.size->w'.heap[g]? = w.heap[g]?):SyT ok' w' (TmIn ok' w') l v :=
 (h.keep hs ho hb).mono fun _ _ hx=>hx.keep hs ho hb
theorem TmIn.blw {ok:Nat->Prop} {w w':World} {t:Tm} {v:Value} (h:TmIn ok w t v) (hb:Below w.heap.size w w'):TmIn ok w' t v:=h.keep hb.size (fun _ h=>h) (fun g _ hg=>hb.block g hg)
theorem TmTop.blw {ok:Nat->Prop} {w w':World} {t:Tm} {ra rc ka kc sa sc} (h:TmTop ok w t ra rc ka kc sa sc) (hb:Below w.heap.size w w'):TmTop ok w' t ra rc ka kc sa sc:=h.keep hb.size (fun _ h=>h) (fun g _ hg=>hb.block g hg)
theorem KdT.blw {ok:Nat->Prop} {w w':World} {l:List Tm} {v:Value} (h:KdT ok w (TmIn ok w) l v) (hb:Below w.heap.size w w'):KdT ok w' (TmIn ok w') l v:=h.all hb.size (fun _ h=>h) (fun g _ hg=>hb.block g hg)
theorem SyT.blw {ok:Nat->Prop} {w w':World} {l:List (List C × List Tm)} {v:Value} (h:SyT ok w (TmIn ok w) l v) (hb:Below w.heap.size w w'):SyT ok w' (TmIn ok w') l v:=h.all hb.size (fun _ h=>h) (fun g _ hg=>hb.block g hg)
theorem ClRow.blw {ok:Nat->Prop} {w w':World} {l:List C} {v:Value} (h:ClRow ok w l v) (hb:Below w.heap.size w w'):ClRow ok w' l v:=h.keep hb.size (fun _ h=>h) (fun g _ hg=>hb.block g hg)
theorem TmTop.kn {ok No:Nat->Prop} {w w':World} {t:Tm} {ra rc ka kc sa sc} (h:TmTop ok w t ra rc ka kc sa sc) (hk:Kn No w w') (ho:∀ g,ok g->No g):TmTop ok w' t ra rc ka kc sa sc:=h.keep hk.size (fun _ h=>h) (fun g h1 h2=>hk.block g (ho g h1) h2)
theorem KdT.kn {ok No:Nat->Prop} {w w':World} {l:List Tm} {v:Value} (h:KdT ok w (TmIn ok w) l v) (hk:Kn No w w') (ho:∀ g,ok g->No g):KdT ok w' (TmIn ok w') l v:=h.all hk.size (fun _ h=>h) (fun g h1 h2=>hk.block g (ho g h1) h2)
theorem SyT.kn {ok No:Nat->Prop} {w w':World} {l:List (List C × List Tm)} {v:Value} (h:SyT ok w (TmIn ok w) l v) (hk:Kn No w w') (ho:∀ g,ok g->No g):SyT ok w' (TmIn ok w') l v:=h.all hk.size (fun _ h=>h) (fun g h1 h2=>hk.block g (ho g h1) h2)
theorem TmIn.kn {ok No:Nat->Prop} {w w':World} {t:Tm} {v:Value} (h:TmIn ok w t v) (hk:Kn No w w') (ho:∀ g,ok g->No g):TmIn ok w' t v:=h.keep hk.size (fun _ h=>h) (fun g h1 h2=>hk.block g (ho g h1) h2)
theorem TmIn.up {ok ok':Nat->Prop} {w:World} {t:Tm} {v:Value} (h:TmIn ok w t v) (ho:∀ g,ok g->ok' g):TmIn ok' w t v:=h.keep (Nat.le_refl _) ho (fun _ _ _=>rfl)
theorem TmTop.up {ok ok':Nat->Prop} {w:World} {t:Tm} {ra rc ka kc sa sc} (h:TmTop ok w t ra rc ka kc sa sc) (ho:∀ g,ok g->ok' g):TmTop ok' w t ra rc ka kc sa sc:=h.keep (Nat.le_refl _) ho (fun _ _ _=>rfl)
theorem cl_nil (ok:Nat->Prop) (w:World):ClRow ok w [] (.slice none 0 0):=⟨none,0,rfl,Nat.le_refl _,fun j x hx=>by simp at hx⟩
theorem kt_nil (ok:Nat->Prop) (w:World) (P:Tm->Value->Prop):KdT ok w P [] (.slice none 0 0):=⟨none,0,rfl,Nat.le_refl _,fun j x hx=>by simp at hx⟩
theorem sy_nil (ok:Nat->Prop) (w:World) (P:Tm->Value->Prop):SyT ok w P [] (.slice none 0 0):=⟨none,0,rfl,Nat.le_refl _,fun j x hx=>by simp at hx⟩
structure Cs6 (w:World) (g off:Nat) (t:Tm) (ra:Option Addr) (rc:Nat) (ka:Option Addr) (kc:Nat) (sa:Option Addr) (sc:Nat):Prop where
 lt:g<w.heap.size
 c0:w.cell? ⟨g,off,none⟩=some (.int .i64 t.kind)
 c1:w.cell? ⟨g,off+1,none⟩=some (.int .i64 t.n)
 c2:w.cell? ⟨g,off+2,none⟩=some (.string t.name)
 c3:w.cell? ⟨g,off+3,none⟩=some (.slice ra t.r.length rc)
 c4:w.cell? ⟨g,off+4,none⟩=some (.slice ka t.kids.length kc)
 c5:w.cell? ⟨g,off+5,none⟩=some (.slice sa t.sys.length sc)
theorem Cs6.keep {w w':World} {g off:Nat} {t:Tm} {ra rc ka kc sa sc} (h:Cs6 w g off t ra rc ka kc sa sc) (hs:w.heap.size<=w'.heap.size) (hb:w'.heap[g]? = w.heap[g]?):Cs6 w' g off t ra rc ka kc sa sc:=by
 have c:=fun i=>World.cell?_of_block (w:=w) (w':=w') (a:=⟨g,i,none⟩) hb
 exact⟨Nat.lt_of_lt_of_le h.lt hs,(c _).trans h.c0,(c _).trans h.c1,(c _).trans h.c2,(c _).trans h.c3,(c _).trans h.c4,(c _).trans h.c5⟩
theorem Cs6.blw {w w':World} {g off:Nat} {t:Tm} {ra rc ka kc sa sc} (h:Cs6 w g off t ra rc ka kc sa sc) (hb:Below w.heap.size w w'):Cs6 w' g off t ra rc ka kc sa sc:=h.keep hb.size (hb.block g h.lt)
theorem Cs6.kn {No:Nat->Prop} {w w':World} {g off:Nat} {t:Tm} {ra rc ka kc sa sc} (h:Cs6 w g off t ra rc ka kc sa sc) (hk:Kn No w w') (hg:No g):Cs6 w' g off t ra rc ka kc sa sc:=h.keep hk.size (hk.block g hg h.lt)
theorem KdT.at {ok:Nat->Prop} {w:World} {l:List Tm} {a:Option Addr} {n cap:Nat} (h:KdT ok w (TmIn ok w) l (.slice a n cap)) {j:Nat} {x:Tm} (hx:l[j]? = some x) :
  ∃ g off ra rc ka kc sa sc,a=some ⟨g,off,none⟩/\ok g/\Cs6 w g (off+j*6) x ra rc ka kc sa sc/\TmTop ok w x ra rc ka kc sa sc:=by
 obtain⟨a',cap',e,_,h3⟩:=h
 cases e
 obtain⟨g,off,u0,u1,u2,u3,u4,u5,a1,a2,a3,a4,c0,c1,c2,c3,c4,c5⟩:=h3 j x hx
 obtain⟨ra,rc,ka,kc,sa,sc,e,ht⟩:=a4.form
 injection e with e
 simp only [Array.mk.injEq,List.cons.injEq,and_true] at e
 obtain⟨rfl,rfl,rfl,rfl,rfl,rfl⟩:=e
 exact⟨g,off,ra,rc,ka,kc,sa,sc,a1,a2,⟨a3,c0,c1,c2,c3,c4,c5⟩,ht⟩
structure Cs2 (w:World) (g off:Nat) (b:List C × List Tm) (fa:Option Addr) (fc:Nat) (ka:Option Addr) (kc:Nat):Prop where
 lt:g<w.heap.size
 c0:w.cell? ⟨g,off,none⟩=some (.slice fa b.1.length fc)
 c1:w.cell? ⟨g,off+1,none⟩=some (.slice ka b.2.length kc)
theorem Cs2.keep {w w':World} {g off:Nat} {b:List C × List Tm} {fa fc ka kc} (h:Cs2 w g off b fa fc ka kc) (hs:w.heap.size<=w'.heap.size) (hb:w'.heap[g]? = w.heap[g]?):Cs2 w' g off b fa fc ka kc:=by
 have c:=fun i=>World.cell?_of_block (w:=w) (w':=w') (a:=⟨g,i,none⟩) hb
 exact⟨Nat.lt_of_lt_of_le h.lt hs,(c _).trans h.c0,(c _).trans h.c1⟩
theorem Cs2.blw {w w':World} {g off:Nat} {b:List C × List Tm} {fa fc ka kc} (h:Cs2 w g off b fa fc ka kc) (hb:Below w.heap.size w w'):Cs2 w' g off b fa fc ka kc:=h.keep hb.size (hb.block g h.lt)
theorem SyT.at {ok:Nat->Prop} {w:World} {l:List (List C × List Tm)} {a:Option Addr} {n cap:Nat} (h:SyT ok w (TmIn ok w) l (.slice a n cap)) {j:Nat} {x:List C × List Tm} (hx:l[j]? = some x) :
  ∃ g off fa fc ka kc,a=some ⟨g,off,none⟩/\ok g/\Cs2 w g (off+j*2) x fa fc ka kc/\ClRow ok w x.1 (.slice fa x.1.length fc)/\KdT ok w (TmIn ok w) x.2 (.slice ka x.2.length kc):=by
 obtain⟨a',cap',e,_,h3⟩:=h
 cases e
 obtain⟨g,off,vf,vk,a1,a2,a3,a4,a5,c0,c1⟩:=h3 j x hx
 obtain⟨fa,fc,rfl,_⟩:=id a4
 obtain⟨ka,kc,rfl,_⟩:=id a5
 exact⟨g,off,fa,fc,ka,kc,a1,a2,⟨a3,c0,c1⟩,a4,a5⟩
theorem ClRow.cap {ok:Nat->Prop} {w:World} {l:List C} {a:Option Addr} {n cap:Nat} (h:ClRow ok w l (.slice a n cap)):l.length<=cap:=by
 obtain⟨a',cap',e,h2,_⟩:=h;cases e;exact h2
theorem KdT.cap {ok:Nat->Prop} {w:World} {P} {l:List Tm} {a:Option Addr} {n cap:Nat} (h:KdT ok w P l (.slice a n cap)):l.length<=cap:=by
 obtain⟨a',cap',e,h2,_⟩:=h;cases e;exact h2
theorem SyT.cap {ok:Nat->Prop} {w:World} {P} {l:List (List C × List Tm)} {a:Option Addr} {n cap:Nat} (h:SyT ok w P l (.slice a n cap)):l.length<=cap:=by
 obtain⟨a',cap',e,h2,_⟩:=h;cases e;exact h2
theorem cs6_of {w:World} {x:Nat} {t:Tm} {ra:Option Addr} {rc:Nat} {ka:Option Addr} {kc:Nat} {sa:Option Addr} {sc:Nat} {ty:TypeId} {f:Nat × Nat} (h:w.heap[x]? = some (.cells #[.int .i64 t.kind,.int .i64 t.n,.string t.name,.slice ra t.r.length rc,.slice ka t.kids.length kc,.slice sa t.sys.length sc] ty f)):Cs6 w x 0 t ra rc ka kc sa sc:=by
 refine⟨(Array.getElem?_eq_some_iff.1 h).1,?_,?_,?_,?_,?_,?_⟩ <;> simp [World.cell?,h]
theorem cs6_new (w:World) (t:Tm) (ra:Option Addr) (rc:Nat) (ka:Option Addr) (kc:Nat) (sa:Option Addr) (sc:Nat):Cs6 (w.alloc (.cells #[.int .i64 t.kind,.int .i64 t.n,.string t.name,.slice ra t.r.length rc,.slice ka t.kids.length kc,.slice sa t.sys.length sc] 26)) w.heap.size 0 t ra rc ka kc sa sc:=cs6_of (heapNew w _)
theorem cs2_of {w:World} {x:Nat} {b:List C × List Tm} {fa:Option Addr} {fc:Nat} {ka:Option Addr} {kc:Nat} {ty:TypeId} {f:Nat × Nat} (h:w.heap[x]? = some (.cells #[.slice fa b.1.length fc,.slice ka b.2.length kc] ty f)):Cs2 w x 0 b fa fc ka kc:=by
 refine⟨(Array.getElem?_eq_some_iff.1 h).1,?_,?_⟩ <;> simp [World.cell?,h]
theorem cs2_new (w:World) (b:List C × List Tm) (fa:Option Addr) (fc:Nat) (ka:Option Addr) (kc:Nat):Cs2 (w.alloc (.cells #[.slice fa b.1.length fc,.slice ka b.2.length kc] 40)) w.heap.size 0 b fa fc ka kc:=cs2_of (heapNew w _)
theorem someL {α:Type} {l:List α} {k:Nat} (h:k<l.length):∃ c,l[k]? = some c:=⟨l[k],List.getElem?_eq_getElem h⟩
theorem some_lt {α:Type} {l:List α} {k:Nat} {x:α} (h:l[k]? = some x):k<l.length:=(List.getElem?_eq_some_iff.1 h).1
theorem ClRow.row {ok:Nat->Prop} {w:World} {l:List C} {v:Value} (h:ClRow ok w l v):CRow w v l:=by
 obtain⟨a,cap,rfl,h2,h3⟩:=h
 by_cases hz:l=[]
 ·subst hz;exact .inl ⟨_,_,rfl,rfl⟩
 ·obtain⟨c,hc⟩:=someL (l:=l) (k:=0) (List.length_pos_iff.2 hz)
  obtain⟨g,off,rfl,_,hg,_⟩:=h3 0 c hc
  refine .inr ⟨g,off,cap,rfl,hg,fun j c hj=>?_⟩
  obtain⟨g',off',e,_,_,c0,c1⟩:=h3 j c hj
  cases e
  exact⟨c0,c1⟩
theorem ClRow.frow {ok:Nat->Prop} {w:World} {l:List C} {v:Value} (h:ClRow ok w l v):FRow w v l :=
 ⟨h.row,by obtain⟨a,cap,rfl,h2,h3⟩:=h;exact⟨_,_,_,rfl,h2⟩⟩
def Cw (w:World):Type:={ w':World // Below w.heap.size w w' }
theorem cw_any (w:World):Nonempty (Cw w):=⟨⟨w,Below.refl _ _⟩⟩
theorem wp_region_cw {id:Nat} {Q:Exit->Act->World->Prop} {a:Act} {w:World} {l:List Oper} (hm:Tryz.prog.follows .mixedOrders=true) (hB:Region.lexB .any l.toArray=true)
  (h:wpQuiet Tryz.prog l.toArray (fun w'=>∃ u:Cw w,w'=u.1) (fun a'=>∀ w',(∃ u:Cw w,w'=u.1)->Q .normal a' w') l a):(Code.region id l.toArray true).wp Tryz.prog Q a w :=
 wp_region_quiet (C:=fun w'=>∃ u:Cw w,w'=u.1) hm hB ⟨⟨_,Below.drew (Below.refl _ _)⟩,rfl⟩ (by simpa using h)
theorem cw_call {w:World} {f:FuncId} {args:Array Value} {v:Value} (u:Cw w) (h:Calls Tryz.prog f args u.1 fun e w'=>e=.returned v/\Below u.1.heap.size u.1 w'):Calls Tryz.prog f args u.1 fun e w'=>e=.returned v/\∃ u':Cw w,w'=u'.1 :=
 h.mono fun e w' ⟨he,hb⟩=>⟨he,⟨w',bchain u.2 hb⟩,rfl⟩
abbrev Tt:Nat->Prop:=fun _=>True
theorem TmTop.tt {ok:Nat->Prop} {w:World} {t:Tm} {ra rc ka kc sa sc} (h:TmTop ok w t ra rc ka kc sa sc):TmTop Tt w t ra rc ka kc sa sc:=h.up fun _ _=>trivial
theorem bool_of (p:Prop):∃ b:Bool,(b=true↔p):=⟨@decide p (Classical.propDecidable p),by simp⟩
theorem Tm.eq_iff (t u:Tm):t=u↔t.kind=u.kind/\t.n=u.n/\t.name=u.name/\t.r=u.r/\t.kids=u.kids/\t.sys=u.sys:=by
 obtain⟨a,b,c,d,e,f⟩:=t
 obtain⟨a',b',c',d',e',f'⟩:=u
 simp
theorem ClRow.lo {w:World} {l:List C} {v:Value} (h:ClRow Tt w l v):ClRow (fun q=>q<w.heap.size) w l v:=by
 obtain⟨a,cap,h1,h2,h3⟩:=h
 refine⟨a,cap,h1,h2,fun j x hx=>?_⟩
 obtain⟨g,off,a1,_,a3,a4⟩:=h3 j x hx
 exact⟨g,off,a1,a3,a3,a4⟩
theorem KdT.lo {w:World} {P:Tm->Value->Prop} {l:List Tm} {v:Value} (h:KdT Tt w P l v):KdT (fun q=>q<w.heap.size) w P l v:=by
 obtain⟨a,cap,h1,h2,h3⟩:=h
 refine⟨a,cap,h1,h2,fun j x hx=>?_⟩
 obtain⟨g,off,u0,u1,u2,u3,u4,u5,a1,_,a3,a4⟩:=h3 j x hx
 exact⟨g,off,u0,u1,u2,u3,u4,u5,a1,a3,a3,a4⟩
theorem SyT.lo {w:World} {P:Tm->Value->Prop} {l:List (List C × List Tm)} {v:Value} (h:SyT Tt w P l v):SyT (fun q=>q<w.heap.size) w P l v:=by
 obtain⟨a,cap,h1,h2,h3⟩:=h
 refine⟨a,cap,h1,h2,fun j x hx=>?_⟩
 obtain⟨g,off,vf,vk,a1,_,a3,a4,a5,a6⟩:=h3 j x hx
 exact⟨g,off,vf,vk,a1,a3,a3,a4.lo,a5.lo,a6⟩
theorem TmIn.lo {w:World} {t:Tm} {v:Value} (h:TmIn Tt w t v):TmIn (fun q=>q<w.heap.size) w t v :=
 h _ fun k n nm r kids sys vr vk vs hk hn h1 h2 h3=>.mk k n nm r kids sys vr vk vs hk hn h1.lo h2.lo h3.lo
theorem TmTop.lo {w:World} {t:Tm} {ra rc ka kc sa sc} (h:TmTop Tt w t ra rc ka kc sa sc):TmTop (fun q=>q<w.heap.size) w t ra rc ka kc sa sc :=
 ⟨h.ik,h.inn,h.row.lo,h.kids.lo.mono fun _ _ hx=>hx.lo,h.sys.lo.mono fun _ _ hx=>hx.lo⟩
theorem empty_own (w:World) (base:Nat) (hb:base<=w.heap.size):OwnsC (w.alloc (.cells #[] 38)) base (.slice (some ⟨w.heap.size,0,none⟩) 0 0) [] :=
 ⟨rfl,.inr ⟨w.heap.size,0,#[],rfl,hb,heapNew w _,Nat.le_refl _,by unfold maxLen;omega,rfl,rfl⟩⟩
theorem OwnsC.cl {w:World} {base:Nat} {v:Value} {l:List C} (h:OwnsC w base v l):ClRow (fun q=>base<=q) w l v:=by
 rcases h.form with ⟨rfl,rfl⟩|⟨g,cap,rfl,hb,hg,hc⟩
 ·exact cl_nil _ _
 ·refine⟨_,_,rfl,?_,fun j c hj=>⟨g,0,rfl,hb,hg,hc j c hj⟩⟩
  rcases h.2 with ⟨e,_⟩|⟨g',cap',cur,e,_,_,hn,_⟩
  ·cases e
  ·cases e;exact hn
theorem eqlNil (a:Option Addr) (n cap:Nat) (w:World):(binOp .eql 22 (.slice a n cap) (.slice none 0 0)).run Tryz.prog w=.ok (.bool a.isNone) w:=by
 have:binOp .eql 22 (.slice a n cap) (.slice none 0 0)=(do pure (.bool (<- Op.equal 22 (.slice a n cap) (.slice none 0 0)))):=rfl
 rw [this]
 simp [Sem.run_bind,run_equal_slice_nil w 22 38 a n cap Tryz.underlying22,Result.andThen]
theorem clone_any (l:List C) (v:Value) (w:World) (hv:ClRow Tt w l v) (hl:l.length<=100000) :
  Calls Tryz.prog 105 #[v] w fun e w'=>∃ v',e=.returned v'/\OwnsC w' w.heap.size v' l/\Below w.heap.size w w':=by
 have hr:=hv.row
 obtain⟨a,cap,rfl,_,hc⟩:=id hv
 have Hr:Hid (∀ w1,Below w.heap.size w w1->CRow w1 (.slice a l.length cap) l):=fun w1 h=>hr.below h
 have Hl:Hid (l.length<=100000):=hl
 have hE:=empty_own w w.heap.size (Nat.le_refl _)
 have hB3:=belowA w (.cells #[] 38)
 cases a with
 | none =>
  have hz:l=[]:=by
   cases l with
   | nil=>rfl
   | cons x l=>obtain⟨g,off,e,_⟩:=hc 0 x rfl;cases e
  subst hz
  have he:=eqlNil none 0 cap w
  simp only [Option.isNone_none] at he
  go_enter Tryz.func105,Tryz.ntmps105
  go_wp2
  go_ret
  exact⟨_,rfl,World.ownsRow_nil _ _ _ _,Below.refl _ _⟩
 | some ad =>
  obtain⟨n,hn⟩:∃ n,n=l.length:=⟨_,rfl⟩
  rw [<- hn] at Hr ⊢
  have he:=eqlNil (some ad) n cap w
  simp only [Option.isNone_some] at he
  clear hr hc hv hn hl
  go_enter Tryz.func105,Tryz.ntmps105
  go_wp2_with (at_builtin;refine wpList_append_row rfl _ _ rfl w.heap.size _ _ [] l rfl rfl hE (Hr.out _ hB3) (by have:=Hl.out;simp;omega) hB3.size ?_;intro v4 w4 hO4 hg4 hv4;have hB4:=hB3.trans (own_grown hE hg4 hB3.size))
  go_ret
  exact⟨_,rfl,hO4,hB4⟩
end Go.Proofs.YtblbhmnahoiecaaGreat
