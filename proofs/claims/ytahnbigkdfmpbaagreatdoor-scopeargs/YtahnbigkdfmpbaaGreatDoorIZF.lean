/- Names bound and released in what resolves. Which term a tree is: the rules, and what each leaves. -/
import Derived.Test.YtahnbigkdfmpbaaGreatDoorIZDim
import Derived.Test.YtahnbigkdfmpbaaGreatDoorIZBack
set_option linter.unusedVariables false
set_option linter.unusedSimpArgs false
namespace Go.Proofs.YtahnbigkdfmpbaaGreatDoor
open Go.RowKit Go.Maps Go.WideMaps
theorem NmMem.mono {w:World} {b base n n':Nat} {U:List Bs} (h:NmMem w b base n U) (hn:n≤n'):NmMem w b base n' U:=by
 obtain⟨D,⟨es,clock,h1,F,hs,e,hb,hl,ha⟩,h2⟩:=h
 exact⟨D,⟨es,clock,h1,F,Nat.le_trans hs hn,e,hb,fun x hx zs ho=>Nat.le_trans (hl x hx zs ho) hn,ha⟩,h2⟩
theorem NmMem.ints {w:World} {b base n:Nat} {U:List Bs} (h:NmMem w b base n U) {es:Array MapEntry} {clock:Nat} (hb:w.heap[b]? = some (.map es clock)) {x:MapEntry} (hx:x∈es.toList) {g:Nat} (hg:x.val.ownBlock=some g):base≤g∧∃ cs f,w.heap[g]? = some (.cells cs 3 f):=by
 obtain⟨D,⟨es',clock',hb',F,_⟩,_⟩:=h
 obtain⟨rfl,rfl⟩:es'=es∧clock'=clock:=by rw [hb'] at hb;simpa using hb
 obtain⟨y,hy⟩:=F.reads x hx
 obtain⟨z,hz,_⟩:=Go.WideElems.rd_val hy
 obtain⟨zs,ho,_⟩:=rowElem_inv hz
 obtain⟨h1,h3⟩:=ho.1
 rcases h3 with h3|⟨g',cap,cur,e,hg',hh,r⟩
 ·rw [h3.1] at hg
  cases hg
 ·rw [e] at hg
  cases hg
  exact⟨hg',_,_,hh⟩
def NoV (R:Rsv) (w:World) (No:Nat→Prop) (g:Nat):Prop:=No g∨g=R.r∨g=R.bd∨RB w R.bd g
def NoD (R:Rsv) (w:World) (No:Nat→Prop) (g:Nat):Prop:=No g∨g=R.r∨g=R.bv∨RB w R.bv g
theorem RB.lt {w:World} {b base n:Nat} {U:List Bs} (h:NmMem w b base n U) {g:Nat} (hg:RB w b g):base≤g∧g<w.heap.size∧∃ cs f,w.heap[g]? = some (.cells cs 3 f):=by
 obtain⟨es,clock,x,hb,hx,hxg⟩:=hg
 obtain⟨h1,cs,f,h2⟩:=h.ints hb hx hxg
 exact⟨h1,(Array.getElem?_eq_some_iff.1 h2).1,cs,f,h2⟩
theorem rvs_int:(80:Nat)≠3:=by decide
theorem Rsv.In.notR {R:Rsv} {w:World} {σ:Sg} {n b base k:Nat} {U:List Bs} (h:R.In w σ n) (hM:NmMem w b base k U):¬ RB w b R.r:=fun hg=>by
 obtain⟨_,_,cs,f,e⟩:=RB.lt hM hg
 rw [h.blk] at e
 injection e with e
 injection e with _ e _
 exact rvs_int e
theorem map_not {w:World} {b base k b':Nat} {U:List Bs} (hM:NmMem w b base k U) {k' base':Nat} {U':List Bs} (hM':NmMem w b' base' k' U'):¬ RB w b b':=fun hg=>by
 obtain⟨_,_,cs,f,e⟩:=RB.lt hM hg
 obtain⟨D,⟨es,clock,hb,_⟩,_⟩:=hM'
 rw [hb] at e
 cases e
theorem Rsv.In.shV {R:Rsv} {w:World} {σ:Sg} {n:Nat} {No:Nat→Prop} (h:R.In w σ n) (hs:R.Sh w No):w.Shuns R.bv (NoV R w No):=fun es clock hb x hx g hg hN=>by
 have hRB:RB w R.bv g:=⟨es,clock,x,hb,hx,hg⟩
 rcases hN with hN|rfl|rfl|hN
 ·exact hs.v es clock hb x hx g hg hN
 ·exact h.notR h.vs hRB
 ·exact map_not h.vs h.ds hRB
 ·exact h.apart es clock hb x hx g hg hN
theorem Rsv.In.shD {R:Rsv} {w:World} {σ:Sg} {n:Nat} {No:Nat→Prop} (h:R.In w σ n) (hs:R.Sh w No):w.Shuns R.bd (NoD R w No):=fun es clock hb x hx g hg hN=>by
 have hRB:RB w R.bd g:=⟨es,clock,x,hb,hx,hg⟩
 rcases hN with hN|rfl|rfl|hN
 ·exact hs.d es clock hb x hx g hg hN
 ·exact h.notR h.ds hRB
 ·exact map_not h.ds h.vs hRB
 ·obtain⟨es2,clock2,y,hb2,hy,hyg⟩:=hN
  exact h.apart es2 clock2 hb2 y hy g hyg hRB
theorem Rsv.In.ltV {R:Rsv} {w:World} {σ:Sg} {n:Nat} {No:Nat→Prop} (h:R.In w σ n) (hs:R.Sh w No):∀ g,NoV R w No g→g<w.heap.size:=by
 rintro g (hN | rfl | rfl | hN)
 ·exact hs.lt g hN
 ·exact h.rlt
 ·exact h.ds.lt
 ·exact (RB.lt h.ds hN).2.1
theorem Rsv.In.ltD {R:Rsv} {w:World} {σ:Sg} {n:Nat} {No:Nat→Prop} (h:R.In w σ n) (hs:R.Sh w No):∀ g,NoD R w No g→g<w.heap.size:=by
 rintro g (hN | rfl | rfl | hN)
 ·exact hs.lt g hN
 ·exact h.rlt
 ·exact h.vs.lt
 ·exact (RB.lt h.vs hN).2.1
theorem Rsv.stepV {R:Rsv} {w w':World} {σ:Sg} {n n':Nat} {No:Nat→Prop} {U:List Bs} (h:R.In w σ n) (hs:R.Sh w No) (h1:NmB w' R.r 2 R.bv U.length (R.cells σ.v.length σ.d.length) 80) (h2:NmMem w' R.bv (R.bv+1) n' U) (h3:w'.Shuns R.bv (NoV R w No)) (h4:Kn (fun g=>NoV R w No g∧g≠R.r) w w') (hn:n≤n') (hf:n'≤50000000∧U.length≤50000000) :
  R.In w' { σ with v:=U } n'∧R.Sh w' No∧Kn No w w':=by
 have hlt:=h.lt
 have hrN:∀ g,No g→g≠R.r:=fun g hg e=>hs.r (e ▸ hg)
 have hk:Kn No w w':=h4.sub fun g hg=>⟨.inl hg,hrN g hg⟩
 have hbd:w'.heap[R.bd]? = w.heap[R.bd]?:=h4.block _ ⟨.inr (.inr (.inl rfl)),by omega⟩ h.ds.lt
 have hds:NmMem w' R.bd (R.bd+1) n σ.d:=h.ds.kn h4 ⟨.inr (.inr (.inl rfl)),by omega⟩ fun es clock hb x hx g hg=>⟨.inr (.inr (.inr ⟨es,clock,x,hb,hx,hg⟩)),fun e=>h.notR h.ds (e ▸ ⟨es,clock,x,hb,hx,hg⟩)⟩
 have hRB:∀ g,RB w' R.bd g→RB w R.bd g:=fun g ⟨es,clock,x,hb,hx,hg⟩=>⟨es,clock,x,hbd.symm.trans hb,hx,hg⟩
 refine⟨⟨h1.blk,h.wd.kn hk fun g hg=>hs.old g hg,h.gl.kn hk (hs.old _ hlt.1),h2,hds.mono hn,hlt,fun es clock hb x hx g hg hR=>h3 es clock hb x hx g hg (.inr (.inr (.inr (hRB g hR)))),hf.1,hf.2,h.few.2.2⟩,⟨fun es clock hb x hx g hg hN=>h3 es clock hb x hx g hg (.inl hN),shuns_of hs.d hbd,hs.r,hs.bv,hs.bd,fun g hg=>Nat.lt_of_lt_of_le (hs.lt g hg) hk.size,hs.old⟩,hk⟩
theorem Rsv.stepD {R:Rsv} {w w':World} {σ:Sg} {n n':Nat} {No:Nat→Prop} {U:List Bs} (h:R.In w σ n) (hs:R.Sh w No) (h1:NmB w' R.r 4 R.bd U.length (R.cells σ.v.length σ.d.length) 80) (h2:NmMem w' R.bd (R.bd+1) n' U) (h3:w'.Shuns R.bd (NoD R w No)) (h4:Kn (fun g=>NoD R w No g∧g≠R.r) w w') (hn:n≤n') (hf:n'≤50000000∧U.length≤50000000) :
  R.In w' { σ with d:=U } n'∧R.Sh w' No∧Kn No w w':=by
 have hlt:=h.lt
 have hrN:∀ g,No g→g≠R.r:=fun g hg e=>hs.r (e ▸ hg)
 have hk:Kn No w w':=h4.sub fun g hg=>⟨.inl hg,hrN g hg⟩
 have hbv:w'.heap[R.bv]? = w.heap[R.bv]?:=h4.block _ ⟨.inr (.inr (.inl rfl)),by omega⟩ h.vs.lt
 have hvs:NmMem w' R.bv (R.bv+1) n σ.v:=h.vs.kn h4 ⟨.inr (.inr (.inl rfl)),by omega⟩ fun es clock hb x hx g hg=>⟨.inr (.inr (.inr ⟨es,clock,x,hb,hx,hg⟩)),fun e=>h.notR h.vs (e ▸ ⟨es,clock,x,hb,hx,hg⟩)⟩
 refine⟨⟨h1.blk,h.wd.kn hk fun g hg=>hs.old g hg,h.gl.kn hk (hs.old _ hlt.1),hvs.mono hn,h2,hlt,fun es clock hb x hx g hg ⟨es2,clock2,y,hb2,hy,hyg⟩=>h3 es2 clock2 hb2 y hy g hyg (.inr (.inr (.inr ⟨es,clock,x,hbv.symm.trans hb,hx,hg⟩))),hf.1,h.few.2.1,hf.2⟩,⟨shuns_of hs.v hbv,fun es clock hb x hx g hg hN=>h3 es clock hb x hx g hg (.inl hN),hs.r,hs.bv,hs.bd,fun g hg=>Nat.lt_of_lt_of_le (hs.lt g hg) hk.size,hs.old⟩,hk⟩
theorem Rsv.In.noV {R:Rsv} {w:World} {σ:Sg} {n:Nat} {No:Nat→Prop} (h:R.In w σ n) (hs:R.Sh w No):¬ NoV R w No R.bv:=by
 have hlt:=h.lt
 rintro (hN | hN | hN | hN)
 ·exact hs.bv hN
 ·omega
 ·omega
 ·exact map_not h.ds h.vs hN
theorem Rsv.In.nkV {R:Rsv} {w:World} {σ:Sg} {n m:Nat} {No:Nat→Prop} {l:List Bs} {vl:Value} (h:R.In w σ n) (hs:R.Sh w No) (hl:NmS m w l vl) (hm:m≤R.bv):NmK (fun g=>NoV R w No g∧g≠R.r) w l vl :=
 hl.nmk (fun g hg=>⟨.inl (hs.old g (by omega)),by have:=h.lt;omega⟩) (by have:=h.lt;have:=h.rlt;omega)
theorem bindV (R:Rsv) (σ:Sg) (n m:Nat) (No:Nat→Prop) (l:List Bs) (vl:Value) (w:World) (h:R.In w σ n) (hs:R.Sh w No) (hl:NmS m w l vl) (hm:m≤R.bv) (hn:n+l.length≤50000000) (hU:σ.v.length+l.length≤50000000) (hc:∀ x∈l,x.length≤1000000) :
  Calls Tryz.prog 40 #[.pointer (some ⟨R.r,2,none⟩),vl] w fun e w'=>e=.returned (.tuple #[])∧R.In w' { σ with v:=σ.v++l } (n+l.length)∧R.Sh w' No∧Kn No w w':=by
 refine (bind_any R.r 2 R.bv (R.bv+1) n (NoV R w No) _ _ σ.v l vl w h.nv h.vs (h.shV hs) (.inr (.inl rfl)) (h.noV hs) (h.nkV hs hl hm) (by omega) (by omega) hc (by have:=h.vs.lt;omega) (h.ltV hs)).mono ?_
 rintro e w' ⟨rfl,h1,h2,h3,h4⟩
 exact⟨rfl,Rsv.stepV h hs (by rw [List.length_append];exact h1) h2 h3 h4 (by omega) ⟨hn,by rw [List.length_append];exact hU⟩⟩
theorem releaseV (R:Rsv) (σ:Sg) (n m:Nat) (No:Nat→Prop) (U l:List Bs) (vl:Value) (w:World) (h:R.In w { σ with v:=U++l } n) (hs:R.Sh w No) (hl:NmS m w l vl) (hm:m≤R.bv) (hn:n+l.length≤50000000) (hU:U.length+l.length≤50000000) (hc:∀ x∈l,x.length≤1000000) :
  Calls Tryz.prog 98 #[.pointer (some ⟨R.r,2,none⟩),vl] w fun e w'=>e=.returned (.tuple #[])∧R.In w' { σ with v:=U } (n+l.length)∧R.Sh w' No∧Kn No w w':=by
 have hB:=h.nv
 simp only [List.length_append] at hB
 refine (release_any R.r 2 R.bv (R.bv+1) n (NoV R w No) _ _ U l vl w hB h.vs (h.shV hs) (.inr (.inl rfl)) (h.noV hs) (h.nkV hs hl hm) (by omega) (by omega) hc).mono ?_
 rintro e w' ⟨rfl,h1,h2,h3,h4⟩
 have hst:=Rsv.stepV (U:=U) h hs (by simp only [List.length_append];exact h1) h2 h3 h4 (by omega) ⟨hn,by omega⟩
 exact⟨rfl,hst⟩
theorem Rsv.In.noD {R:Rsv} {w:World} {σ:Sg} {n:Nat} {No:Nat→Prop} (h:R.In w σ n) (hs:R.Sh w No):¬ NoD R w No R.bd:=by
 have hlt:=h.lt
 rintro (hN | hN | hN | hN)
 ·exact hs.bd hN
 ·omega
 ·omega
 ·exact map_not h.vs h.ds hN
theorem Rsv.In.nkD {R:Rsv} {w:World} {σ:Sg} {n m:Nat} {No:Nat→Prop} {l:List Bs} {vl:Value} (h:R.In w σ n) (hs:R.Sh w No) (hl:NmS m w l vl) (hm:m≤R.bv):NmK (fun g=>NoD R w No g∧g≠R.r) w l vl :=
 hl.nmk (fun g hg=>⟨.inl (hs.old g (by omega)),by have:=h.lt;omega⟩) (by have:=h.lt;have:=h.rlt;omega)
theorem bindD (R:Rsv) (σ:Sg) (n m:Nat) (No:Nat→Prop) (l:List Bs) (vl:Value) (w:World) (h:R.In w σ n) (hs:R.Sh w No) (hl:NmS m w l vl) (hm:m≤R.bv) (hn:n+l.length≤50000000) (hU:σ.d.length+l.length≤50000000) (hc:∀ x∈l,x.length≤1000000) :
  Calls Tryz.prog 40 #[.pointer (some ⟨R.r,4,none⟩),vl] w fun e w'=>e=.returned (.tuple #[])∧R.In w' { σ with d:=σ.d++l } (n+l.length)∧R.Sh w' No∧Kn No w w':=by
 refine (bind_any R.r 4 R.bd (R.bd+1) n (NoD R w No) _ _ σ.d l vl w h.nd h.ds (h.shD hs) (.inr (.inl rfl)) (h.noD hs) (h.nkD hs hl hm) (by omega) (by omega) hc (by have:=h.ds.lt;omega) (h.ltD hs)).mono ?_
 rintro e w' ⟨rfl,h1,h2,h3,h4⟩
 exact⟨rfl,Rsv.stepD h hs (by rw [List.length_append];exact h1) h2 h3 h4 (by omega) ⟨hn,by rw [List.length_append];exact hU⟩⟩
theorem releaseD (R:Rsv) (σ:Sg) (n m:Nat) (No:Nat→Prop) (U l:List Bs) (vl:Value) (w:World) (h:R.In w { σ with d:=U++l } n) (hs:R.Sh w No) (hl:NmS m w l vl) (hm:m≤R.bv) (hn:n+l.length≤50000000) (hU:U.length+l.length≤50000000) (hc:∀ x∈l,x.length≤1000000) :
  Calls Tryz.prog 98 #[.pointer (some ⟨R.r,4,none⟩),vl] w fun e w'=>e=.returned (.tuple #[])∧R.In w' { σ with d:=U } (n+l.length)∧R.Sh w' No∧Kn No w w':=by
 have hB:=h.nd
 simp only [List.length_append] at hB
 refine (release_any R.r 4 R.bd (R.bd+1) n (NoD R w No) _ _ U l vl w hB h.ds (h.shD hs) (.inr (.inl rfl)) (h.noD hs) (h.nkD hs hl hm) (by omega) (by omega) hc).mono ?_
 rintro e w' ⟨rfl,h1,h2,h3,h4⟩
 have hst:=Rsv.stepD (U:=U) h hs (by simp only [List.length_append];exact h1) h2 h3 h4 (by omega) ⟨hn,by omega⟩
 exact⟨rfl,hst⟩
end Go.Proofs.YtahnbigkdfmpbaaGreatDoor
namespace Go.Proofs.YtahnbigkdfmpbaaGreatDoor
open Go.RowKit Go.Maps Go.WideMaps
def bodyR (term:Sg→Sx→Rz Tm) (σ:Sg) (t:Sx):Rz Tm :=
 if t.names.any isWd then refuse t 61
 else if t.kind=2 then term { σ with v:=σ.v++t.names } (kd t 0)
 else if t.names.length+σ.d.length > 24 then refuse t 10
 else term { σ with d:=σ.d++t.names } (kd t 0)
def callR (term:Sg→Sx→Rz Tm) (σ:Sg) (k:Nat):List Nat→List Sx→List Tm→Rz Tm
 | [],_,out=>some (.inr (tmK k out))
 | a :: tk,x :: xs,out=>if a=0 then (term σ x).bnd fun y=>callR term σ k tk xs (out ++ [y]) else none
 | _ :: _,[],_=>none
def restR (term:Sg→Sx→Rz Tm) (σ:Sg):List Sx→Tm→Rz Tm
 | [],out=>some (.inr out)
 | x :: xs,out=>(term σ x).bnd fun y=>restR term σ xs (tmK 6 [out,y])
def headR (term:Sg→Sx→Rz Tm) (σ:Sg) (h:Sx) (args:List Sx):Rz Tm :=
 if isWd h.name then callR term σ (wdOf h.name).1 (wdOf h.name).2 (args.take (wdOf h.name).2.length) []
 else if h.kind=1 then namedF σ h else term σ h
def appliedR (f:Nat) (term:Sg→Sx→Rz Tm) (σ:Sg) (t:Sx):Rz Tm :=
 if isWd (spineR f t).1.name && decide ((spineR f t).2.length<(wdOf (spineR f t).1.name).2.length) then refuse t 61
 else if isWd (spineR f t).1.name && decide ((wdOf (spineR f t).1.name).1=21∨(wdOf (spineR f t).1.name).1=26) then refuse (spineR f t).1 61
 else (headR term σ (spineR f t).1 (spineR f t).2.reverse).bnd fun out=>restR term σ ((spineR f t).2.reverse.drop (wdOf (spineR f t).1.name).2.length) out
def OutT (R:Rsv) (σ:Sg) (n:Nat) (No:Nat→Prop) (c:Nat) (r:Rz Tm) (w:World) (e:Ending) (w':World):Prop :=
 Kn No w w'∧EndZ r (fun a v w'=>∃ ok n',TmIn ok w' a v∧(∀ g,ok g→w.heap.size≤g∧g<w'.heap.size)∧R.In w' σ n'∧n'≤n+c∧R.Sh w' (fun g=>No g∨ok g)) e w'
theorem Rsv.In.off {R:Rsv} {w w':World} {σ:Sg} {n:Nat} {No:Nat→Prop} (h:R.In w σ n) (hs:R.Sh w No) {x:Nat} (hx:No x) (hxb:R.bv≤x) (hk:Kn (fun g=>g≠x) w w'):R.In w' σ n∧R.Sh w' No:=by
 have hr:R.r≠x:=fun e=>hs.r (e ▸ hx)
 have hv:R.bv≠x:=fun e=>hs.bv (e ▸ hx)
 have hd:R.bd≠x:=fun e=>hs.bd (e ▸ hx)
 have ev:=hk.block _ hv h.vs.lt
 have ed:=hk.block _ hd h.ds.lt
 refine⟨⟨(hk.block _ hr h.rlt).trans h.blk,h.wd.kn hk fun g hg=>by omega,h.gl.kn hk (by have:=h.lt;omega),h.vs.kn hk hv fun es clock hb y hy g hg e=>hs.v es clock hb y hy g hg (e ▸ hx),h.ds.kn hk hd fun es clock hb y hy g hg e=>hs.d es clock hb y hy g hg (e ▸ hx),h.lt,?_,h.few⟩,⟨shuns_of hs.v ev,shuns_of hs.d ed,hs.r,hs.bv,hs.bd,fun g hg=>Nat.lt_of_lt_of_le (hs.lt g hg) hk.size,hs.old⟩⟩
 intro es clock hb y hy g hg hR
 obtain⟨es2,clock2,z,hb2,hz,hzg⟩:=hR
 exact h.apart es clock (ev.symm.trans hb) y hy g hg ⟨es2,clock2,z,ed.symm.trans hb2,hz,hzg⟩
theorem Rsv.Sh.sub {R:Rsv} {w:World} {No No':Nat→Prop} (h:R.Sh w No) (hs:∀ g,No' g→No g) (ho:∀ g,g<R.bv→No' g):R.Sh w No' :=
 ⟨fun es clock hb x hx g hg hN=>h.v es clock hb x hx g hg (hs g hN),fun es clock hb x hx g hg hN=>h.d es clock hb x hx g hg (hs g hN),fun e=>h.r (hs _ e),fun e=>h.bv (hs _ e),fun e=>h.bd (hs _ e),fun g hg=>h.lt g (hs g hg),ho⟩
theorem pu6_kn {w:World} {x:Nat} {v0 v1 v2 v3 v4 v5:Value}:Kn (fun g=>g≠x) w (pu6 w x v0 v1 v2 v3 v4 v5):=((((((Kn.refl _ w).setCell (p:=⟨x,0,none⟩) (.inl fun h=>h rfl) v0).setCell (p:=⟨x,1,none⟩) (.inl fun h=>h rfl) v1).setCell (p:=⟨x,2,none⟩) (.inl fun h=>h rfl) v2).setCell (p:=⟨x,3,none⟩) (.inl fun h=>h rfl) v3).setCell (p:=⟨x,4,none⟩) (.inl fun h=>h rfl) v4).setCell (p:=⟨x,5,none⟩) (.inl fun h=>h rfl) v5
theorem Rsv.two {R:Rsv} {w w2:World} {σ:Sg} {n:Nat} {No:Nat→Prop} (h:R.In w σ n) (hs:R.Sh w No) (hb:Below w.heap.size w w2) (h2:w.heap.size+2≤w2.heap.size):R.In w2 σ n∧R.Sh w2 (fun g=>No g∨(g=w.heap.size∨g=w.heap.size+1)) :=
 ⟨h.keep hb,hs.more h hb fun g hg=>by omega⟩
set_option maxRecDepth 100000 in
set_option maxHeartbeats 4000000 in
theorem behindZ_any (R:Rsv) (σ σ2:Sg) (n m o L c:Nat) (No:Nat→Prop) (l:List Bs) (vl:Value) (t:Sx) (v:Value) (w:World) (r:Rz Tm) (h:R.In w σ n) (hs:R.Sh w No) (hl:NmS m w l vl) (ht:SxIn m w t v) (hm:m≤R.bv) (hr:r≠none) (hn:n+c+2*L≤40000000)
  (hB:∀ w n No,R.In w σ n→R.Sh w No→NmS m w l vl→n+L≤50000000→Calls Tryz.prog 40 #[.pointer (some ⟨R.r,o,none⟩),vl] w fun e w'=>e=.returned (.tuple #[])∧R.In w' σ2 (n+L)∧R.Sh w' No∧Kn No w w')
  (hR:∀ w n No,R.In w σ2 n→R.Sh w No→NmS m w l vl→n+L≤50000000→Calls Tryz.prog 98 #[.pointer (some ⟨R.r,o,none⟩),vl] w fun e w'=>e=.returned (.tuple #[])∧R.In w' σ (n+L)∧R.Sh w' No∧Kn No w w')
  (hT:∀ w No,R.In w σ2 (n+L)→R.Sh w No→SxIn m w t v→Calls Tryz.prog 26 #[R.ptr,v] w (OutT R σ2 (n+L) No c r w)) :
  Calls Tryz.prog 77 #[R.ptr,.pointer (some ⟨R.r,o,none⟩),vl,v] w (OutT R σ n No (c+2*L) r w):=by
 obtain⟨ka,kc,na,nc,rfl,hN,hK⟩:=ht.form
 obtain⟨la,lc,rfl⟩:∃ a cap,vl=.slice a l.length cap:=let ⟨a,cap,e,_⟩:=hl;⟨a,cap,e⟩
 have hmw:m≤w.heap.size:=by have:=h.lt;have:=h.rlt;omega
 obtain⟨w1,hw1⟩:∃ w1,w1=w.alloc (.cells #[.int .i64 t.kind,.string (bs t.name),.slice ka t.kids.length kc,.slice na t.names.length nc,.int .i64 t.at_] 26):=⟨_,rfl⟩
 have q:Below w.heap.size w w1:=by rw [hw1];exact below_alloc _ _
 have bx:Bx w1 w.heap.size (.int .i64 t.kind) (.string (bs t.name)) (.slice ka t.kids.length kc) (.slice na t.names.length nc) (.int .i64 t.at_):=by rw [hw1];exact bx_new _ _ _ _ _ _
 have s1:w1.heap.size=w.heap.size+1:=by rw [hw1];simp
 obtain⟨w2,hw2⟩:∃ w2,w2=w1.alloc (.cells #[.int .i64 0,.int .i64 0,.string ⟨#[]⟩,.slice none 0 0,.slice none 0 0,.slice none 0 0] 37):=⟨_,rfl⟩
 have q2:Below w1.heap.size w1 w2:=by rw [hw2];exact below_alloc _ _
 have tx:Tx w2 (w.heap.size+1) (.int .i64 0) (.int .i64 0) (.string ⟨#[]⟩) (.slice none 0 0) (.slice none 0 0) (.slice none 0 0):=by rw [hw2,← s1];exact tx_new _ _ _ _ _ _ _
 have s2:w2.heap.size=w.heap.size+2:=by rw [hw2];simp [s1]
 have qq:Below w.heap.size w w2:=q.trans (q2.mono q.size)
 have bx2:=bx.blw q2
 rw [hw1] at hw2
 obtain⟨h2,hs2⟩:=Rsv.two h hs qq (by omega)
 have cB:=hB w2 n _ h2 hs2 (hl.keep (qq.mono hmw)) (by omega)
 rw [hw2] at cB
 unfold Rsv.ptr at hT ⊢
 have Hs:Hid (w2=_∧Bx w2 w.heap.size _ _ _ _ _∧Tx w2 (w.heap.size+1) _ _ _ _ _ _∧w2.heap.size=w.heap.size+2∧Below w.heap.size w w2):=⟨hw2,bx2,tx,s2,qq⟩
 clear q bx s1 hw1 q2 tx s2 qq bx2 h2 hs2 hw2
 go_enter Tryz.func77,Tryz.ntmps77
 go_wp2_with fail
 refine cB.mono ?_
 rintro e w3 ⟨rfl,h3,hs3,hk3⟩
 obtain⟨hw2,bx2,tx,s2,qq⟩:=Hs.out
 rw [← hw2] at hk3
 have bx3:=bx2.kn hk3 (.inr (.inl rfl))
 have tx3:=tx.kn hk3 (.inr (.inr rfl))
 have hB3:Below m w w3:=(qq.mono hmw).trans (hk3.below (fun g hg=>.inl (hs.old g (by omega))) (by omega))
 have cT:=hT w3 _ h3 hs3 (ht.keep hB3)
 obtain⟨x0,x1,x2,x3,x4⟩:=bx3.cells
 have H3:Hid (_∧_∧_∧_∧_∧_∧_):=⟨hk3,bx3,tx3,hB3,hw2,s2,qq⟩
 clear hw2 bx2 tx s2 qq bx3 tx3 hB3 cB Hs hk3
 go_wp2_with fail
 refine cT.mono ?_
 rintro e w4 ⟨hk4,hE⟩
 obtain⟨hk3,bx3,tx3,hB3,hw2,s2,qq⟩:=H3.out
 have kn4:Kn No w w4:=(Kn.of_below qq).trans ((hk3.trans hk4).sub fun g hg=>.inl hg)
 cases r with
 | none=>exact absurd rfl hr
 | some y =>
  cases y with
  | inl p =>
   obtain rfl:e=_:=hE
   exact⟨rfl,kn4,rfl⟩
  | inr a =>
   obtain⟨vT,rfl,ok,n4,hTm,hok,h4,hn4,hs4⟩:=hE
   obtain⟨ra,rc,qa,qc,sa,sc,rfl,_⟩:=hTm.form
   have tx4:=tx3.kn hk4 (.inr (.inr rfl))
   have sz3:w2.heap.size≤w3.heap.size:=hk3.size
   have sz4:w3.heap.size≤w4.heap.size:=hk4.size
   have t6:=tx_new w4 (.int .i64 (a.kind:Nat)) (.int .i64 (a.n:Nat)) (.string (bs a.name)) (.slice ra a.r.length rc) (.slice qa a.kids.length qc) (.slice sa a.sys.length sc)
   have b6:=below_alloc w4 (.cells #[.int .i64 (a.kind:Nat),.int .i64 (a.n:Nat),.string (bs a.name),.slice ra a.r.length rc,.slice qa a.kids.length qc,.slice sa a.sys.length sc] 37)
   obtain⟨w6,hw6⟩:∃ z,z=w4.alloc (.cells #[.int .i64 (a.kind:Nat),.int .i64 (a.n:Nat),.string (bs a.name),.slice ra a.r.length rc,.slice qa a.kids.length qc,.slice sa a.sys.length sc] 37):=⟨_,rfl⟩
   rw [← hw6] at t6 b6
   have z6s:w6.heap.size=w4.heap.size+1:=by rw [hw6];simp
   have hi6:R.In w6 σ2 n4:=h4.keep b6
   have hsh6:R.Sh w6 (fun g=>((No g∨(g=w.heap.size∨g=w.heap.size+1))∨ok g)∨g=w4.heap.size):=hs4.more h4 b6 fun g hg=>by omega
   have hB6:Below m w w6:=hB3.trans ((hk4.below (n:=m) (fun g hg=>Or.inl (hs.old g (by omega))) (by omega)).trans (b6.mono (by omega)))
   have cR:=hR w6 n4 _ hi6 hsh6 (hl.keep hB6) (by omega)
   rw [hw6] at cR
   have H6:Hid (Below w4.heap.size w4 w6∧Tx w6 w4.heap.size _ _ _ _ _ _∧Tx w4 (w.heap.size+1) _ _ _ _ _ _∧TmIn ok w4 a _∧(∀ g,ok g→w3.heap.size≤g∧g<w4.heap.size)∧n4≤n+L+c∧w.heap.size+2≤w4.heap.size∧w.heap.size+2≤w3.heap.size∧Kn No w w4∧R.bv≤w.heap.size∧w6=_):=⟨b6,t6,tx4,hTm,hok,hn4,by omega,by omega,kn4,by have:=h.lt;have:=h.rlt;omega,hw6⟩
   clear b6 t6 tx4 hTm hok hn4 sz3 sz4 s2 kn4 hi6 hsh6 hs4 h4 hk4 hk3 bx3 tx3 hB3 hw2 qq H3 cT hT z6s hB6 hB hR x0 x1 x2 x3 x4 h3 hs3 hw6
   go_wp2_with fail
   refine cR.mono ?_
   rintro e w7 ⟨rfl,h7,hs7,hk7⟩
   obtain⟨b6,t6,tx4,hTm,hok,hn4,sz4,sz3,kn4,hbv,hw6⟩:=H6.out
   rw [← hw6] at hk7
   have t7:=t6.kn hk7 (.inr rfl)
   have tx7:=(tx4.blw b6).kn hk7 (.inl (.inl (.inr (.inr rfl))))
   have hT7:TmIn ok w7 a _:=(hTm.blw b6).kn hk7 fun g hg=>.inl (.inr hg)
   have kn7:Kn No w w7:=kn4.trans ((Kn.of_below b6).trans (hk7.sub fun g hg=>.inl (.inl (.inl hg))))
   have t8:=tx7.put (.int .i64 (a.kind:Nat)) (.int .i64 (a.n:Nat)) (.string (bs a.name)) (.slice ra a.r.length rc) (.slice qa a.kids.length qc) (.slice sa a.sys.length sc)
   have k8:Kn (fun g=>g≠w.heap.size+1) w7 (pu6 w7 (w.heap.size+1) (.int .i64 (a.kind:Nat)) (.int .i64 (a.n:Nat)) (.string (bs a.name)) (.slice ra a.r.length rc) (.slice qa a.kids.length qc) (.slice sa a.sys.length sc)):=pu6_kn
   obtain⟨h8,hs8⟩:=h7.off hs7 (x:=w.heap.size+1) (.inl (.inl (.inr (.inr rfl)))) (by omega) k8
   have hT8:=hT7.kn k8 fun g hg=>by have:=hok g hg;omega
   have kn8:Kn No w (pu6 w7 (w.heap.size+1) (.int .i64 (a.kind:Nat)) (.int .i64 (a.n:Nat)) (.string (bs a.name)) (.slice ra a.r.length rc) (.slice qa a.kids.length qc) (.slice sa a.sys.length sc)):=kn7.trans ⟨k8.os,k8.tape,k8.output,k8.size,fun g hg hgl=>k8.block g (fun e=>by have:=hs.lt g hg;omega) hgl⟩
   have sz8:w4.heap.size≤(pu6 w7 (w.heap.size+1) (.int .i64 (a.kind:Nat)) (.int .i64 (a.n:Nat)) (.string (bs a.name)) (.slice ra a.r.length rc) (.slice qa a.kids.length qc) (.slice sa a.sys.length sc)).heap.size:=Nat.le_trans b6.size (Nat.le_trans hk7.size k8.size)
   obtain⟨y0,y1,y2,y3,y4,y5⟩:=t7.cells
   obtain⟨c0,c1,c2,c3,c4,c5⟩:=tx7.cells
   have f0:=tx7.cold 0
   have f1:=tx7.cold 1
   have f2:=tx7.cold 2
   have f3:=tx7.cold 3
   have f4:=tx7.cold 4
   have f5:=tx7.cold 5
   have H8:Hid (_∧_∧_∧_∧_∧_∧_∧_∧_):=⟨t8,h8,hs8,hT8,kn8,sz8,hok,sz3,hn4⟩
   clear t8 h8 hs8 hT8 kn8 sz8 k8 t7 tx7 hT7 kn7 h7 hs7 hk7 b6 t6 tx4 hTm hok cR H6 hw6 hn4 sz3
   go_wp2
   obtain⟨t8,h8,hs8,hT8,kn8,sz8,hok,sz3,hn4⟩:=H8.out
   unfold pu6 at t8 h8 hs8 hT8 kn8 sz8
   obtain⟨d0,d1,d2,d3,d4,d5⟩:=t8.cells
   refine⟨rfl,.agg #[.int .i64 (a.kind:Nat),.int .i64 (a.n:Nat),.string (bs a.name),.slice ra a.r.length rc,.slice qa a.kids.length qc,.slice sa a.sys.length sc],by simp only [results,Tryz.results77];simp [go_sem,d0,d1,d2,d3,d4,d5],kn8,_,rfl,ok,n4+L,hT8,fun g hg=>?_,h8,by omega,hs8.sub (fun g hg=>hg.elim (fun h=>.inl (.inl (.inl h))) (fun h=>.inl (.inr h))) (fun g hg=>.inl (hs.old g hg))⟩
   have:=hok g hg
   omega
end Go.Proofs.YtahnbigkdfmpbaaGreatDoor
