/- The reader and trees in memory: what they are, and what keeps them. The reader's small functions: what they tell, and what they pass. The reader's functions, further: what may begin, digits, arrows, names, binders. The reader's functions, further: rows of names; binders that are seen beforehand. What stands behind a bracket that is next; binders that are seen beforehand. Trees of two parts, laid in memory. How a rule of the reader ends. -/
import Derived.Test.YtahnbigkdfmpbaaGreatDoorILA
import Derived.Test.YtahnbigkdfmpbaaGreatDoorIMMath
import Derived.Deep.QuietTactic
import Derived.BigQuiet
import Derived.WalkSmall
import Derived.Deep.LoopGhost
set_option linter.unusedVariables false
set_option linter.unusedSimpArgs false
namespace Go.Proofs.YtahnbigkdfmpbaaGreatDoor
open Go.RowKit
theorem Tryz.infoTree:(Tryz.prog.info? 26).map (fun i=>(i.zero,i.size,i.bytes))=some (some (.agg #[.int .i64 0,.string ByteArray.empty,.slice none 0 0,.slice none 0 0,.int .i64 0]),5,80):=by kernel_rfl
theorem Tryz.infoStr:(Tryz.prog.info? 9).map (fun i=>(i.zero,i.size,i.bytes))=some (some (.string ByteArray.empty),1,16):=by kernel_rfl
structure Kp (b:Nat) (w w':World):Prop where
 os:w'.os=w.os
 tape:w'.tape=w.tape
 output:w'.output=w.output
 size:w.heap.size≤w'.heap.size
 block:∀ k,k<w.heap.size→k≠b→w'.heap[k]? = w.heap[k]?
theorem Kp.refl (b:Nat) (w:World):Kp b w w:=⟨rfl,rfl,rfl,Nat.le_refl _,fun _ _ _=>rfl⟩
theorem Kp.trans {b:Nat} {w1 w2 w3:World} (h:Kp b w1 w2) (k:Kp b w2 w3):Kp b w1 w3 :=
 ⟨k.os.trans h.os,k.tape.trans h.tape,k.output.trans h.output,Nat.le_trans h.size k.size,fun i hi hb=>(k.block i (Nat.lt_of_lt_of_le hi h.size) hb).trans (h.block i hi hb)⟩
theorem Kp.of_below {b:Nat} {w w':World} (h:Below w.heap.size w w'):Kp b w w':=⟨h.os,h.tape,h.output,h.size,fun k hk _=>h.block k hk⟩
theorem Kp.alloc {b:Nat} {w1 w:World} (h:Kp b w1 w) (o:Obj):Kp b w1 (w.alloc o):=h.trans (Kp.of_below (below_alloc w o))
theorem Kp.drew {b:Nat} {w1 w:World} (h:Kp b w1 w):Kp b w1 w.drew:=⟨h.os,h.tape,h.output,h.size,h.block⟩
theorem Kp.setCell {b:Nat} {w1 w:World} (h:Kp b w1 w) {p:Addr} (hp:p.block=b∨w1.heap.size≤p.block) (u:Value):Kp b w1 (w.setCell p u) :=
 ⟨h.os,h.tape,h.output,by simpa [World.setCell] using h.size,fun k hk hb=>(Below.heap_setCell _ _ _ _ (by omega)).trans (h.block k hk hb)⟩
theorem Kp.below {b:Nat} {w w':World} (h:Kp b w w') (hb:b≤w.heap.size):Below b w w':=⟨h.os,h.tape,h.output,h.size,fun k hk=>h.block k (by omega) (by omega)⟩
theorem Kp.cell {b:Nat} {w w':World} (h:Kp b w w') {p:Addr} (hp:p.block<w.heap.size) (hb:p.block≠b):w'.cell? p=w.cell? p:=World.cell?_of_block (w:=w) (h.block p.block hp hb)
theorem Kp.frozen {b:Nat} {w w':World} (h:Kp b w w') {p:Addr} (hp:p.block<w.heap.size) (hb:p.block≠b):w'.frozen? p=w.frozen? p:=World.frozen?_of_block (w:=w) (h.block p.block hp hb)
structure Rdr where
 b:Nat
 g:Nat
 cap:Nat
 A:Ts
 e:Nat
def Rdr.all (r:Rdr):Ts:=r.A ++ [⟨0,[],r.e⟩]
def OkT (t:Tok):Prop:=(t.kind=1∨t.kind=2)∧t.at_≤65536∧t.text≠[]∧(t.kind=1→∃ c l,t.text=c :: l∧letterB c=true)
def Rdr.wf (r:Rdr):Prop:=r.A.length≤65536∧r.e≤65536∧(∀ t∈r.A,OkT t)∧r.A.length<r.cap
structure Rdr.In (r:Rdr) (w:World) (R:Ts):Prop where
 lt:r.g<r.b∧r.b<w.heap.size
 c0:w.cell? ⟨r.b,0,none⟩=some (.slice (some ⟨r.g,0,none⟩) (r.A.length+1) r.cap)
 pre:∃ P,r.A=P++R∧w.cell? ⟨r.b,1,none⟩=some (.int .i64 (P.length:Nat))
 fz:w.frozen? ⟨r.b,1,none⟩=false
 toks:CellsT w r.g 0 r.all
theorem Rdr.In.below {r:Rdr} {w w':World} {R:Ts} (h:r.In w R) (hb:Below w.heap.size w w'):r.In w' R :=
 ⟨⟨h.lt.1,Nat.lt_of_lt_of_le h.lt.2 hb.size⟩,(hb.cell h.lt.2).trans h.c0,let ⟨P,h1,h2⟩:=h.pre;⟨P,h1,(hb.cell h.lt.2).trans h2⟩,(hb.frozen h.lt.2).trans h.fz,h.toks.below hb (by have:=h.lt;omega)⟩
theorem Rdr.In.kp {r:Rdr} {w w1 w2:World} {R R':Ts} (h:r.In w R) (h1:r.In w1 R') (hk:Kp r.b w w1):r.In w1 R':=h1
theorem alloc_cell {w:World} {o:Obj} {p:Addr} (h:p.block<w.heap.size):(w.alloc o).cell? p=w.cell? p:=(below_alloc w o).cell h
theorem Rdr.In.pass {r:Rdr} {w:World} {t:Tok} {R:Ts} (h:r.In w (t :: R)):∃ n:Nat,w.cell? ⟨r.b,1,none⟩=some (.int .i64 n)∧n<r.A.length∧r.A[n]? = some t∧r.In (w.setCell ⟨r.b,1,none⟩ (.int .i64 ((n:Int) + 1))) R:=by
 obtain⟨P,h1,h2⟩:=h.pre
 refine⟨P.length,h2,by rw [h1];simp,by rw [h1];simp,⟨h.lt.1,by simpa [World.setCell] using h.lt.2⟩,?_,⟨P ++ [t],by simp [h1],?_⟩,?_,?_⟩
 ·rw [World.cell?_setCell_other _ _ _ _ (by simp)];exact h.c0
 ·have:=World.cell?_setCell_same w ⟨r.b,1,none⟩ (.int .i64 ((P.length:Int) + 1)) h2
  simpa using this
 ·rw [World.frozen?_setCell];exact h.fz
 ·intro j c hj
  have hne:r.g≠r.b:=by have:=h.lt;omega
  obtain⟨a,b,c⟩:=h.toks j c hj
  refine⟨?_,?_,?_⟩
  ·rw [World.cell?_setCell_other _ _ _ _ (fun hx=>hne (congrArg Addr.block hx).symm)];exact a
  ·rw [World.cell?_setCell_other _ _ _ _ (fun hx=>hne (congrArg Addr.block hx).symm)];exact b
  ·rw [World.cell?_setCell_other _ _ _ _ (fun hx=>hne (congrArg Addr.block hx).symm)];exact c
def NmIn (ok:Nat→Prop) (w:World) (ns:List Bs) (v:Value):Prop :=
 (∃ a cap,ns=[]∧v=.slice a 0 cap) ∨
 (∃ g off cap,(ns.length≤3000000∧ns.length≤cap)∧ok g∧g<w.heap.size∧(∀ j n,ns[j]? = some n→w.cell? ⟨g,off+j,none⟩=some (.string (bs n)))∧v=.slice (some ⟨g,off,none⟩) ns.length cap)
theorem NmIn.nil {ok:Nat→Prop} {w:World} (a:Option Addr) (cap:Nat):NmIn ok w [] (.slice a 0 cap):=.inl ⟨a,cap,rfl,rfl⟩
theorem NmIn.row {ok:Nat→Prop} {w:World} (ns:List Bs) (g off cap:Nat) (hL:ns.length≤3000000∧ns.length≤cap) (hok:ok g) (hg:g<w.heap.size) (hc:∀ j n,ns[j]? = some n→w.cell? ⟨g,off+j,none⟩=some (.string (bs n))):NmIn ok w ns (.slice (some ⟨g,off,none⟩) ns.length cap) :=
 .inr ⟨g,off,cap,hL,hok,hg,hc,rfl⟩
def agg5 (u:Nat→Value):Value:=.agg #[u 0,u 1,u 2,u 3,u 4]
structure TrCl (ok:Nat→Prop) (w:World) (P:Tr→Value→Prop):Prop where
 leaf:∀ (k:Nat) (nm:Bs) (ns:List Bs) (p:Nat) (a:Option Addr) (cap:Nat) (vn:Value) (hn:NmIn ok w ns vn),P (.mk k nm [] ns p) (.agg #[.int .i64 (k:Nat),.string (bs nm),.slice a 0 cap,vn,.int .i64 (p:Nat)])
 node:∀ (k:Nat) (nm:Bs) (kids:List Tr) (ns:List Bs) (p:Nat) (vn:Value) (g off cap:Nat) (U:Nat→Nat→Value) (hL:kids.length≤3000000) (hn:NmIn ok w ns vn) (hok:ok g) (hg:g<w.heap.size)
   (hc:∀ j,j<kids.length→∀ i,i<5→w.cell? ⟨g,off+j*5+i,none⟩=some (U j i)) (hk:∀ j kid,kids[j]? = some kid→P kid (agg5 (U j))),
   P (.mk k nm kids ns p) (.agg #[.int .i64 (k:Nat),.string (bs nm),.slice (some ⟨g,off,none⟩) kids.length cap,vn,.int .i64 (p:Nat)])
def TrIn (ok:Nat→Prop) (w:World) (t:Tr) (v:Value):Prop:=∀ P:Tr→Value→Prop,TrCl ok w P→P t v
theorem TrIn.leaf {ok:Nat→Prop} {w:World} (k:Nat) (nm:Bs) (ns:List Bs) (p:Nat) (a:Option Addr) (cap:Nat) (vn:Value) (hn:NmIn ok w ns vn):TrIn ok w (.mk k nm [] ns p) (.agg #[.int .i64 (k:Nat),.string (bs nm),.slice a 0 cap,vn,.int .i64 (p:Nat)]) :=
 fun P h=>h.leaf k nm ns p a cap vn hn
theorem TrIn.node {ok:Nat→Prop} {w:World} (k:Nat) (nm:Bs) (kids:List Tr) (ns:List Bs) (p:Nat) (vn:Value) (g off cap:Nat) (U:Nat→Nat→Value) (hL:kids.length≤3000000) (hn:NmIn ok w ns vn) (hok:ok g) (hg:g<w.heap.size)
   (hc:∀ j,j<kids.length→∀ i,i<5→w.cell? ⟨g,off+j*5+i,none⟩=some (U j i)) (hk:∀ j kid,kids[j]? = some kid→TrIn ok w kid (agg5 (U j))) :
   TrIn ok w (.mk k nm kids ns p) (.agg #[.int .i64 (k:Nat),.string (bs nm),.slice (some ⟨g,off,none⟩) kids.length cap,vn,.int .i64 (p:Nat)]) :=
 fun P h=>h.node k nm kids ns p vn g off cap U hL hn hok hg hc (fun j kid hj=>hk j kid hj P h)
def TrTop (ok:Nat→Prop) (w:World) (Q:Tr→Value→Prop) (t:Tr) (v:Value):Prop :=
  (∃ (k:Nat) (nm:Bs) (ns:List Bs) (p:Nat) (a:Option Addr) (cap:Nat) (vn:Value),NmIn ok w ns vn∧t=.mk k nm [] ns p∧v=.agg #[.int .i64 (k:Nat),.string (bs nm),.slice a 0 cap,vn,.int .i64 (p:Nat)]) ∨
  (∃ (k : Nat) (nm : Bs) (kids : List Tr) (ns : List Bs) (p : Nat) (vn : Value) (g off cap : Nat) (U : Nat → Nat → Value), kids.length ≤ 3000000 ∧ NmIn ok w ns vn ∧ ok g ∧ g < w.heap.size ∧
      (∀ j,j<kids.length→∀ i,i<5→w.cell? ⟨g,off+j*5+i,none⟩=some (U j i))∧(∀ j kid,kids[j]? = some kid→Q kid (agg5 (U j))) ∧
      t=.mk k nm kids ns p∧v=.agg #[.int .i64 (k:Nat),.string (bs nm),.slice (some ⟨g,off,none⟩) kids.length cap,vn,.int .i64 (p:Nat)])
theorem TrIn.inv {ok:Nat→Prop} {w:World} {t:Tr} {v:Value} (h:TrIn ok w t v):TrTop ok w (TrIn ok w) t v:=by
 have h2:=h (fun t v=>TrIn ok w t v∧TrTop ok w (TrIn ok w) t v) ⟨fun k nm ns p a cap vn hn=>⟨.leaf k nm ns p a cap vn hn,.inl ⟨k,nm,ns,p,a,cap,vn,hn,rfl,rfl⟩⟩,
  fun k nm kids ns p vn g off cap U hL hn hok hg hc hk=>⟨.node k nm kids ns p vn g off cap U hL hn hok hg hc (fun j kid hj=>(hk j kid hj).1),.inr ⟨k,nm,kids,ns,p,vn,g,off,cap,U,hL,hn,hok,hg,hc,fun j kid hj=>(hk j kid hj).1,rfl,rfl⟩⟩⟩
 exact h2.2
theorem NmIn.keep {ok ok':Nat→Prop} {w w':World} {ns:List Bs} {v:Value} (h:NmIn ok w ns v) (hs:w.heap.size≤w'.heap.size) (ho:∀ g,ok g→ok' g) (hb:∀ g,ok g→g<w.heap.size→w'.heap[g]? = w.heap[g]?):NmIn ok' w' ns v:=by
 rcases h with ⟨a,cap,rfl,rfl⟩|⟨g,off,cap,hL,hok,hg,hc,rfl⟩
 ·exact .nil a cap
 ·exact .row _ g off cap hL (ho g hok) (Nat.lt_of_lt_of_le hg hs) (fun j n hj=>(World.cell?_of_block (w:=w) (a:=⟨g,off+j,none⟩) (hb g hok hg)).trans (hc j n hj))
theorem TrIn.keep {ok ok':Nat→Prop} {w w':World} {t:Tr} {v:Value} (h:TrIn ok w t v) (hs:w.heap.size≤w'.heap.size) (ho:∀ g,ok g→ok' g) (hb:∀ g,ok g→g<w.heap.size→w'.heap[g]? = w.heap[g]?):TrIn ok' w' t v:=by
 refine h (TrIn ok' w') ⟨fun k nm ns p a cap vn hn=>.leaf k nm ns p a cap vn (hn.keep hs ho hb),fun k nm kids ns p vn g off cap U hL hn hok hg hc ih=>?_⟩
 exact .node k nm kids ns p vn g off cap U hL (hn.keep hs ho hb) (ho g hok) (Nat.lt_of_lt_of_le hg hs) (fun j hj i hi=>(World.cell?_of_block (w:=w) (a:=⟨g,off+j*5+i,none⟩) (hb g hok hg)).trans (hc j hj i hi)) ih
theorem TrIn.blw {ok:Nat→Prop} {w w':World} {t:Tr} {v:Value} (h:TrIn ok w t v) (hb:Below w.heap.size w w'):TrIn ok w' t v:=h.keep hb.size (fun _ h=>h) (fun g _ hg=>hb.block g hg)
def From (n:Nat) (g:Nat):Prop:=n≤g
theorem TrIn.kp {n b:Nat} {w w':World} {t:Tr} {v:Value} (h:TrIn (From n) w t v) (hk:Kp b w w') (hb:b<n):TrIn (From n) w' t v:=h.keep hk.size (fun _ h=>h) (fun g h1 h2=>hk.block g h2 (by unfold From at h1;omega))
theorem TrIn.from {n m:Nat} {w:World} {t:Tr} {v:Value} (h:TrIn (From n) w t v) (hn:m≤n):TrIn (From m) w t v:=h.keep (Nat.le_refl _) (fun _ h=>Nat.le_trans hn h) (fun _ _ _=>rfl)
theorem NmIn.blw {ok:Nat→Prop} {w w':World} {t:List Bs} {v:Value} (h:NmIn ok w t v) (hb:Below w.heap.size w w'):NmIn ok w' t v:=h.keep hb.size (fun _ h=>h) (fun g _ hg=>hb.block g hg)
theorem NmIn.kp {n b:Nat} {w w':World} {t:List Bs} {v:Value} (h:NmIn (From n) w t v) (hk:Kp b w w') (hb:b<n):NmIn (From n) w' t v:=h.keep hk.size (fun _ h=>h) (fun g h1 h2=>hk.block g h2 (by unfold From at h1;omega))
theorem TrIn.form {ok:Nat→Prop} {w:World} {t:Tr} {v:Value} (h:TrIn ok w t v):∃ vk vn,v=.agg #[.int .i64 (t.kind:Nat),.string (bs t.name),vk,vn,.int .i64 (t.at_:Nat)]∧NmIn ok w t.names vn∧(∃ a cap,vk=.slice a t.kids.length cap):=by
 rcases h.inv with ⟨k,nm,ns,p,a,cap,vn,hn,rfl,rfl⟩|⟨k,nm,kids,ns,p,vn,g,off,cap,U,hL,hn,hok,hg,hc,hk,rfl,rfl⟩
 ·exact⟨_,_,rfl,hn,a,cap,rfl⟩
 ·exact⟨_,_,rfl,hn,_,cap,rfl⟩
theorem NmIn.form {ok:Nat→Prop} {w:World} {ns:List Bs} {v:Value} (h:NmIn ok w ns v):∃ a cap,v=.slice a ns.length cap:=by
 rcases h with ⟨a,cap,rfl,rfl⟩|⟨g,off,cap,hL,hok,hg,hc,rfl⟩
 ·exact⟨a,cap,rfl⟩
 ·exact⟨_,cap,rfl⟩
end Go.Proofs.YtahnbigkdfmpbaaGreatDoor
namespace Go.Proofs.YtahnbigkdfmpbaaGreatDoor
open Go.RowKit
theorem Rdr.In.head {r:Rdr} {w:World} {R:Ts} (h:r.In w R):∃ n:Nat,n≤r.A.length∧w.cell? ⟨r.b,1,none⟩=some (.int .i64 n)∧w.cell? ⟨r.g,n*3,none⟩=some (.int .i64 ((hd r.e R).kind:Nat))∧w.cell? ⟨r.g,n*3+1,none⟩=some (.string (bs (hd r.e R).text))∧w.cell? ⟨r.g,n*3+2,none⟩=some (.int .i64 ((hd r.e R).at_:Nat)):=by
 obtain⟨P,h1,h2⟩:=h.pre
 have hj:r.all[P.length]? = some (hd r.e R):=by
  rw [Rdr.all,h1,List.append_assoc,List.getElem?_append_right (Nat.le_refl _),Nat.sub_self]
  cases R with
  | nil=>rfl
  | cons t R=>rfl
 obtain⟨a,b,c⟩:=h.toks _ _ hj
 simp only [Nat.zero_add] at a b c
 exact⟨P.length,by rw [h1];simp,h2,a,b,c⟩
theorem hd_at (e:Nat) (R:Ts):(hd e R).at_=atP e R:=by cases R <;> rfl
theorem hd_txt (e:Nat) (R:Ts):(hd e R).text=txt R:=by cases R <;> rfl
theorem hd_kind (e:Nat) (R:Ts):decide ((hd e R).kind=1)=isN R:=by cases R <;> rfl
theorem sees_txt (s:Bs) (R:Ts):sees s R=decide (txt R=s):=by cases R <;> simp [sees,txt,eq_comm]
abbrev Rdr.ptr (r:Rdr):Value:=.pointer (some ⟨r.b,0,none⟩)
set_option maxRecDepth 100000 in
set_option maxHeartbeats 1000000 in
theorem at_q (r:Rdr) (w:World) (R:Ts) (h:r.In w R) (hwf:r.wf):Calls Tryz.prog 38 #[r.ptr] w fun e w'=>e=.returned (.int .i64 (atP r.e R:Nat))∧∃ m,w'=w.drewN m:=by
 obtain⟨n,hn,c1,k0,k1,k2⟩:=h.head
 have c0:=h.c0
 have hl:=hwf.1
 rw [hd_at] at k2
 clear h hwf k0 k1
 generalize r.A.length=N at *
 have e1:(n:Int) < (N:Int) + 1:=by omega
 go_enter Tryz.func38,Tryz.ntmps38
 go_wp2
 go_quiet (fail)
 go_wp2
 go_ret
 exact⟨rfl,_,rfl⟩
theorem at_any (r:Rdr) (w:World) (R:Ts) (h:r.In w R) (hwf:r.wf):Calls Tryz.prog 38 #[r.ptr] w fun e w'=>e=.returned (.int .i64 (atP r.e R:Nat))∧Below w.heap.size w w' :=
 (at_q r w R h hwf).mono fun e w' ⟨h1,m,h2⟩=>⟨h1,by rw [h2];exact below_drewN (Below.refl _ _) _⟩
def flt (p x:Nat):PanicEntry:={ v:=.iface 63 (.agg #[.int .i64 (p:Nat),.int .i64 (x:Nat)]),recovered:=false }
set_option maxRecDepth 100000 in
set_option maxHeartbeats 1000000 in
theorem seesName_q (r:Rdr) (w:World) (R:Ts) (h:r.In w R) (hwf:r.wf):Calls Tryz.prog 56 #[r.ptr] w fun e w'=>e=.returned (.bool (isN R))∧∃ m,w'=w.drewN m:=by
 obtain⟨n,hn,c1,k0,k1,k2⟩:=h.head
 have c0:=h.c0
 have hl:=hwf.1
 have hk:=hd_kind r.e R
 clear h hwf k1 k2
 generalize r.A.length=N at *
 generalize (hd r.e R).kind=K at *
 have e1:(n:Int) < (N:Int) + 1:=by omega
 have hk2:((K:Int) == 1)=isN R:=by rw [← hk,Bool.eq_iff_iff];simp only [beq_iff_eq,decide_eq_true_eq];omega
 clear hk
 go_enter Tryz.func56,Tryz.ntmps56
 go_wp2
 go_quiet (fail)
 go_wp2
 go_ret
 exact⟨rfl,_,rfl⟩
theorem seesName_any (r:Rdr) (w:World) (R:Ts) (h:r.In w R) (hwf:r.wf):Calls Tryz.prog 56 #[r.ptr] w fun e w'=>e=.returned (.bool (isN R))∧Below w.heap.size w w' :=
 (seesName_q r w R h hwf).mono fun e w' ⟨h1,m,h2⟩=>⟨h1,by rw [h2];exact below_drewN (Below.refl _ _) _⟩
theorem bs_beq (a b:Bs):((bs a).toList == (bs b).toList)=decide (a=b):=by
 rw [Lib.toList_data,Lib.toList_data,tl_def,tl_def,tl_bs,tl_bs]
 rw [Bool.eq_iff_iff];simp
set_option maxRecDepth 100000 in
set_option maxHeartbeats 1000000 in
theorem sees_q (s:Bs) (r:Rdr) (w:World) (R:Ts) (h:r.In w R) (hwf:r.wf):Calls Tryz.prog 31 #[r.ptr,.string (bs s)] w fun e w'=>e=.returned (.bool (sees s R))∧∃ m,w'=w.drewN m:=by
 obtain⟨n,hn,c1,k0,k1,k2⟩:=h.head
 have c0:=h.c0
 have hl:=hwf.1
 rw [hd_txt] at k1
 have hk2:((bs (txt R)).toList == (bs s).toList)=sees s R:=by rw [sees_txt,bs_beq]
 clear h hwf k0 k2
 generalize r.A.length=N at *
 generalize bs (txt R)=X at *
 generalize bs s=Y at *
 have e1:(n:Int) < (N:Int) + 1:=by omega
 go_enter Tryz.func31,Tryz.ntmps31
 go_wp2
 go_quiet (fail)
 go_wp2
 go_ret
 exact⟨rfl,_,rfl⟩
theorem sees_any (s:Bs) (r:Rdr) (w:World) (R:Ts) (h:r.In w R) (hwf:r.wf):Calls Tryz.prog 31 #[r.ptr,.string (bs s)] w fun e w'=>e=.returned (.bool (sees s R))∧Below w.heap.size w w' :=
 (sees_q s r w R h hwf).mono fun e w' ⟨h1,m,h2⟩=>⟨h1,by rw [h2];exact below_drewN (Below.refl _ _) _⟩
set_option maxRecDepth 100000 in
set_option maxHeartbeats 1000000 in
theorem wrong_any (x:Nat) (r:Rdr) (w:World) (R:Ts) (h:r.In w R) (hwf:r.wf):Calls Tryz.prog 19 #[r.ptr,.int .i64 (x:Nat)] w fun e w'=>e=.panicked [flt (atP r.e R) x]∧Below w.heap.size w w':=by
 have c:=at_any r w R h hwf
 generalize atP r.e R=p at *
 go_enter Tryz.func19,Tryz.ntmps19
 go_wp2_with (go_at_call 38;refine c.mono ?_;rintro e w' ⟨rfl,hb⟩)
 exact⟨rfl,rfl,hb⟩
theorem wrap_in {x:Int} (h1 : -9223372036854775808≤x) (h2:x≤9223372036854775807):IntKind.i64.wrap x=x:=by
 simp [IntKind.wrap,IntKind.bits,IntKind.signed,IntKind.min,IntKind.max]
 omega
def Out {α:Type} (r:Rdr) (w:World) (val:α→World→Value→Prop):Rs α→Ending→World→Prop
 | .inl (p,x),e,w'=>e=.panicked [flt p x]∧Below r.b w w'
 | .inr (a,R),e,w'=>∃ v,e=.returned v∧val a w' v∧r.In w' R∧Kp r.b w w'
theorem Out.bad_of {α:Type} {r:Rdr} {w w':World} {val:α→World→Value→Prop} {X:Rs α} {p x:Nat} (hX:X=.bad p x) (h:Below r.b w w'):Out r w val X (.panicked [flt p x]) w':=by subst hX;exact⟨rfl,h⟩
theorem Out.ok_of {α:Type} {r:Rdr} {w w':World} {val:α→World→Value→Prop} {X:Rs α} {a:α} {R:Ts} {v:Value} (hX:X=.ok a R) (h:val a w' v) (hI:r.In w' R) (hk:Kp r.b w w'):Out r w val X (.returned v) w':=by subst hX;exact⟨v,rfl,h,hI,hk⟩
theorem Rdr.In.ble {r:Rdr} {w w':World} {R:Ts} (h:r.In w R) (hb:Below w.heap.size w w'):Below r.b w w':=hb.mono (Nat.le_of_lt h.lt.2)
theorem sees_cons {s:Bs} (hs:s≠[]) {R:Ts} (h:sees s R=true):∃ t R',R=t :: R'∧t.text=s:=by
 cases R with
 | nil=>simp [sees] at h;exact absurd h hs
 | cons t R=>exact⟨t,R,rfl,by simpa [sees] using h⟩
theorem isN_cons {R:Ts} (h:isN R=true):∃ t R',R=t :: R'∧t.kind=1:=by
 cases R with
 | nil=>cases h
 | cons t R=>exact⟨t,R,rfl,by simpa [isN] using h⟩
set_option maxRecDepth 100000 in
set_option maxHeartbeats 1000000 in
theorem take_any (s:Bs) (hs:s≠[]) (r:Rdr) (w:World) (R:Ts) (hR:r.In w R) (hwf:r.wf) :
  Calls Tryz.prog 63 #[r.ptr,.string (bs s)] w fun e w'=>e=.returned (.bool (sees s R))∧r.In w' (if sees s R then R.tail else R)∧Kp r.b w w':=by
 have c:=sees_any s r w R hR hwf
 cases hq:sees s R with
 | false =>
  rw [hq] at c
  simp only [if_true,Bool.false_eq_true,if_false]
  go_enter Tryz.func63,Tryz.ntmps63
  go_wp2_with (go_at_call 31;refine c.mono ?_;rintro e w' ⟨rfl,hb⟩)
  go_ret
  exact⟨rfl,hR.below hb,Kp.of_below hb⟩
 | true =>
  rw [hq] at c
  simp only [if_true,Bool.false_eq_true,if_false]
  obtain⟨t,R',rfl,_⟩:=sees_cons hs hq
  have hl:=hwf.1
  go_enter Tryz.func63,Tryz.ntmps63
  go_wp2_with fail
  refine c.mono ?_
  rintro e w' ⟨rfl,hb⟩
  obtain⟨n,c1,hn,_,hI⟩:=(hR.below hb).pass
  have fz:=(hR.below hb).fz
  have hk:=(Kp.of_below (b:=r.b) hb).setCell (p:=⟨r.b,1,none⟩) (.inl rfl) (.int .i64 ((n:Int) + 1))
  clear c hR hq
  go_wp2_with fail
  go_ret
  exact⟨rfl,hI,hk⟩
set_option maxRecDepth 100000 in
set_option maxHeartbeats 1000000 in
theorem must_any (s:Bs) (hs:s≠[]) (r:Rdr) (w:World) (R:Ts) (hR:r.In w R) (hwf:r.wf) :
  Calls Tryz.prog 58 #[r.ptr,.string (bs s)] w (Out r w (fun _ _ v=>v=.tuple #[]) (mustP r.e s R)):=by
 have c:=take_any s hs r w R hR hwf
 unfold mustP
 cases hq:sees s R with
 | true =>
  rw [hq] at c
  simp only [if_true,Bool.false_eq_true,if_false] at c ⊢
  go_enter Tryz.func58,Tryz.ntmps58
  go_wp2_with (go_at_call 63;refine c.mono ?_;rintro e w' ⟨rfl,hI,hk⟩)
  go_end0
  exact⟨_,rfl,rfl,hI,hk⟩
 | false =>
  rw [hq] at c
  simp only [if_true,Bool.false_eq_true,if_false] at c ⊢
  go_enter Tryz.func58,Tryz.ntmps58
  go_wp2_with fail
  refine c.mono ?_
  rintro e w' ⟨rfl,hI,hk⟩
  have c2:=wrong_any 61 r w' R hI hwf
  clear c hq
  go_wp2_with fail
  refine c2.mono ?_
  rintro e w2 ⟨rfl,hb⟩
  exact⟨rfl,rfl,(hk.below (Nat.le_of_lt hR.lt.2)).trans (hI.ble hb)⟩
set_option maxRecDepth 100000 in
set_option maxHeartbeats 1000000 in
theorem name_any (r:Rdr) (w:World) (R:Ts) (hR:r.In w R) (hwf:r.wf) :
  Calls Tryz.prog 61 #[r.ptr] w (Out r w (fun n _ v=>v=.string (bs n)) (nameP r.e R)):=by
 have c:=seesName_any r w R hR hwf
 unfold nameP
 cases hq:isN R with
 | false =>
  rw [hq] at c
  simp only [if_true,Bool.false_eq_true,if_false] at c ⊢
  go_enter Tryz.func61,Tryz.ntmps61
  go_wp2_with fail
  refine c.mono ?_
  rintro e w' ⟨rfl,hb⟩
  have c2:=wrong_any 61 r w' R (hR.below hb) hwf
  clear c hq
  go_wp2_with fail
  refine c2.mono ?_
  rintro e w2 ⟨rfl,hb2⟩
  exact⟨rfl,rfl,(hR.ble hb).trans ((hR.below hb).ble hb2)⟩
 | true =>
  rw [hq] at c
  simp only [if_true,Bool.false_eq_true,if_false] at c ⊢
  obtain⟨t,R',rfl,_⟩:=isN_cons hq
  have hl:=hwf.1
  go_enter Tryz.func61,Tryz.ntmps61
  go_wp2_with fail
  refine c.mono ?_
  rintro e w' ⟨rfl,hb⟩
  have h':=hR.below hb
  obtain⟨n,c1,hn,hA,hI⟩:=h'.pass
  have fz:=h'.fz
  have hk:=(Kp.of_below (b:=r.b) hb).setCell (p:=⟨r.b,1,none⟩) (.inl rfl) (.int .i64 ((n:Int) + 1))
  have c0:=h'.c0
  have k1:w'.cell? ⟨r.g,n*3+1,none⟩=some (.string (bs t.text)):=by
   have:=(h'.toks n t (by rw [Rdr.all,List.getElem?_append_left hn];exact hA)).2.1
   simpa using this
  have hne:¬ r.g=r.b:=by have:=h'.lt;omega
  have hne2:¬ r.b=r.g:=by have:=h'.lt;omega
  clear c hR hq hA hb h'
  have c0':=hI.c0
  have c1':(w'.setCell ⟨r.b,1,none⟩ (.int .i64 ((n:Int) + 1))).cell? ⟨r.b,1,none⟩=some (.int .i64 ((n:Int) + 1)):=World.cell?_setCell_same w' _ _ c1
  have k1':(w'.setCell ⟨r.b,1,none⟩ (.int .i64 ((n:Int) + 1))).cell? ⟨r.g,n*3+1,none⟩=some (.string (bs t.text)):=by
   rw [World.cell?_setCell_other _ _ _ _ (fun hx=>hne2 (congrArg Addr.block hx))];exact k1
  have g1:IntKind.i64.wrap ((n:Int) + 1 - 1)=(n:Int):=by rw [wrap_in (by omega) (by omega)];omega
  have e1:(n:Int) < (r.A.length:Int) + 1:=by omega
  generalize r.A.length=N at *
  go_wp2_with fail
  generalize w'.setCell ⟨r.b,1,none⟩ (.int .i64 ((n:Int) + 1))=w2 at *
  clear c1 k1 c0 fz hne hne2
  go_quiet (fail)
  go_wp2
  go_ret
  exact⟨_,rfl,rfl,hI.below (below_drewN (Below.refl _ _) _),hk.trans (Kp.of_below (below_drewN (Below.refl _ _) _))⟩
end Go.Proofs.YtahnbigkdfmpbaaGreatDoor
namespace Go.Proofs.YtahnbigkdfmpbaaGreatDoor
open Go.RowKit
theorem chainK {b:Nat} {w1 w2 w3:World} (h:Kp b w1 w2) (h2:Below w2.heap.size w2 w3):Kp b w1 w3:=h.trans (Kp.of_below h2)
theorem drewN_below (w:World) (m:Nat):Below w.heap.size w (w.drewN m):=below_drewN (Below.refl _ _) _
def CellsS (w:World) (g:Nat) (l:List Bs):Prop:=∀ j n,l[j]? = some n→w.cell? ⟨g,j,none⟩=some (.string (bs n))
def posS (s:Bs) (k:Nat):List Bs→Int
 | []=>-1
 | x :: l=>if s=x then (k:Int) else posS s (k+1) l
theorem posS_mem (s:Bs) (l:List Bs):∀ k,(0≤posS s k l↔s∈l):=by
 induction l with
 | nil=>intro k;simp [posS]
 | cons x l ih =>
  intro k
  simp only [posS,List.mem_cons]
  by_cases h:s=x
  ·simp [h]
  ·simp only [h,if_false,false_or];exact ih (k+1)
theorem posS_drop {s:Bs} {l:List Bs} {k:Nat} {x:Bs} (hx:l[k]? = some x):posS s k (l.drop k)=if s=x then (k:Int) else posS s (k+1) (l.drop (k+1)):=by
 have hlt:k<l.length:=by
  rcases Nat.lt_or_ge k l.length with h|h
  ·exact h
  ·rw [List.getElem?_eq_none h] at hx;cases hx
 rw [List.drop_eq_getElem_cons hlt]
 rw [List.getElem?_eq_getElem hlt] at hx
 rw [posS,Option.some.inj hx]
set_option maxRecDepth 100000 in
set_option maxHeartbeats 1000000 in
theorem index_any (l:List Bs) (s:Bs) (g cap:Nat) (w:World) (hl:l.length≤1000) (hc:CellsS w g l) :
  Calls Tryz.prog 85 #[.slice (some ⟨g,0,none⟩) l.length cap,.string (bs s)] w fun e w'=>e=.returned (.int .i64 (posS s 0 l))∧w'=w:=by
 obtain⟨N,hN⟩:∃ N,N=l.length:=⟨_,rfl⟩
 have HN:Hid (N=l.length):=hN
 rw [← hN] at hl ⊢
 obtain⟨Q,hQ⟩:∃ Q,posS s 0 l=Q:=⟨_,rfl⟩
 rw [hQ]
 have HQ:Hid (posS s 0 l=Q):=hQ
 have HC:Hid (CellsS w g l):=hc
 clear hN hQ hc
 go_enter Tryz.func85,Tryz.ntmps85
 go_wp2
 go_loop [8] (fun i=>∃ k:Nat,k≤N∧i=.int .i64 k∧Hid (posS s k (l.drop k)=Q)) (fun i=>N - (intOf i).toNat)
 case atStart=>exact⟨0,by omega,rfl,HQ⟩
 case round =>
  obtain⟨k,hk,rfl,HK⟩:=hrel
  by_cases hlt:k<N
  ·obtain⟨x,hx⟩:∃ x,l[k]? = some x:=⟨l[k]'(by rw [← HN.out];exact hlt),List.getElem?_eq_getElem _⟩
   have c:=HC.out k x hx
   have hp:=posS_drop (s:=s) hx
   have hb:=bs_beq s x
   by_cases hq:s=x
   ·have HE:Hid (Q=k):=by rw [← HK.out,hp,if_pos hq];rfl
    rw [decide_eq_true hq] at hb
    clear hp hq hx
    generalize bs x=X at *
    generalize bs s=Y at *
    go_wp2
    go_ret
    exact⟨ret_int HE.out.symm,rfl⟩
   ·have HE:Hid (posS s (k+1) (l.drop (k+1))=Q):=by rw [← HK.out,hp,if_neg hq];rfl
    rw [decide_eq_false hq] at hb
    clear hp hq hx
    generalize bs x=X at *
    generalize bs s=Y at *
    go_wp2
    go_round
    case rel=>exact⟨k+1,by omega,by go_num,HE⟩
    case measure=>simp [intOf];omega
  ·have HE:Hid (Q = -1):=by rw [← HK.out,List.drop_of_length_le (by rw [← HN.out];omega)];rfl
   go_wp2
   go_ret
   exact⟨ret_int HE.out.symm,rfl⟩
set_option maxRecDepth 100000 in
theorem contains_any (l:List Bs) (s:Bs) (g cap:Nat) (w:World) (hl:l.length≤1000) (hc:CellsS w g l) :
  Calls Tryz.prog 57 #[.slice (some ⟨g,0,none⟩) l.length cap,.string (bs s)] w fun e w'=>e=.returned (.bool (decide (s∈l)))∧w'=w:=by
 have c:=index_any l s g cap w hl hc
 have h:=posS_mem s l 0
 have h2:decide (0≤posS s 0 l)=decide (s∈l):=by rw [decide_eq_decide];exact h
 rw [← h2]
 generalize posS s 0 l=p at *
 clear h h2
 generalize bs s=X at *
 go_enter Tryz.func57,Tryz.ntmps57
 go_wp2_with (go_at_call 85;refine c.mono ?_;rintro e w' ⟨rfl,hw⟩;rw [hw])
 go_ret
 exact⟨rfl,rfl⟩
set_option maxRecDepth 100000 in
set_option maxHeartbeats 1000000 in
theorem digit_any (r:Rdr) (w:World) (R:Ts) (hR:r.In w R) (hwf:r.wf) :
  Calls Tryz.prog 89 #[r.ptr] w (Out r w (fun n _ v=>v=.string (bs n)) (digitP r.e R)):=by
 have c:=take_any [48] (by simp) r w R hR hwf
 obtain⟨X,hX⟩:∃ X,digitP r.e R=X:=⟨_,rfl⟩
 rw [hX]
 unfold digitP at hX
 cases hq:sees [48] R with
 | true =>
  rw [hq] at c hX
  simp only [if_true] at c hX
  have HX:Hid (_=X):=hX
  clear hX
  go_enter Tryz.func89,Tryz.ntmps89
  go_wp2_with (go_at_call 63;refine c.mono ?_;rintro e w' ⟨rfl,hI,hk⟩)
  go_ret
  exact Out.ok_of HX.out.symm rfl hI hk
 | false =>
  rw [hq] at c hX
  simp only [Bool.false_eq_true,if_false] at c hX
  have c2:=fun w' (hI:r.In w' R)=>must_any [49] (by simp) r w' R hI hwf
  unfold mustP at c2
  cases hq2:sees [49] R with
  | true =>
   simp only [hq2,if_true] at c2 hX
   have HX:Hid (_=X):=hX
   clear hX hq hq2
   go_enter Tryz.func89,Tryz.ntmps89
   go_wp2_with fail
   refine c.mono ?_
   rintro e w' ⟨rfl,hI,hk⟩
   clear c
   go_wp2_with fail
   refine (c2 w' hI).mono ?_
   rintro e w2 ⟨v,rfl,rfl,hI2,hk2⟩
   clear c2
   go_wp2_with fail
   go_ret
   exact Out.ok_of HX.out.symm rfl hI2 (hk.trans hk2)
  | false =>
   simp only [hq2,Bool.false_eq_true,if_false] at c2 hX
   have HX:Hid (_=X):=hX
   clear hX hq hq2
   go_enter Tryz.func89,Tryz.ntmps89
   go_wp2_with fail
   refine c.mono ?_
   rintro e w' ⟨rfl,hI,hk⟩
   clear c
   go_wp2_with fail
   refine (c2 w' hI).mono ?_
   rintro e w2 ⟨rfl,hb⟩
   exact⟨rfl,Out.bad_of HX.out.symm ((hk.below (Nat.le_of_lt hR.lt.2)).trans hb)⟩
set_option maxRecDepth 100000 in
set_option maxHeartbeats 1000000 in
theorem arrow_any (r:Rdr) (w:World) (R:Ts) (hR:r.In w R) (hwf:r.wf) :
  Calls Tryz.prog 36 #[r.ptr] w fun e w'=>e=.returned (.tuple #[.int .i64 (arrK R:Nat),.bool (arrB R)])∧r.In w' (arrR R)∧Kp r.b w w':=by
 have c:=take_any [45,62] (by simp) r w R hR hwf
 obtain⟨K,hK⟩:∃ K,arrK R=K:=⟨_,rfl⟩
 obtain⟨B,hB⟩:∃ B,arrB R=B:=⟨_,rfl⟩
 obtain⟨S,hS⟩:∃ S,arrR R=S:=⟨_,rfl⟩
 rw [hK,hB,hS]
 unfold arrK at hK
 unfold arrR at hS
 rw [hB] at hS
 unfold arrB at hB
 cases hq:sees [45,62] R with
 | true =>
  rw [hq] at c hK hB
  simp only [if_true,Bool.true_or] at c hK hB
  subst hK hB
  simp only [if_true] at hS
  subst hS
  go_enter Tryz.func36,Tryz.ntmps36
  go_wp2_with (go_at_call 63;refine c.mono ?_;rintro e w' ⟨rfl,hI,hk⟩)
  go_ret2
  exact⟨rfl,hI,hk⟩
 | false =>
  rw [hq] at c hK hB
  simp only [Bool.false_eq_true,if_false,Bool.false_or] at c hK hB
  have c2:=fun w' (hI:r.In w' R)=>take_any [42] (by simp) r w' R hI hwf
  rw [hB] at c2
  rw [hS] at c2
  subst hK
  clear hq hB hS
  go_enter Tryz.func36,Tryz.ntmps36
  go_wp2_with fail
  refine c.mono ?_
  rintro e w' ⟨rfl,hI,hk⟩
  clear c
  go_wp2_with fail
  refine (c2 w' hI).mono ?_
  rintro e w2 ⟨rfl,hI2,hk2⟩
  clear c2
  go_wp2_with fail
  go_ret2
  exact⟨rfl,hI2,hk.trans hk2⟩
def enterU (e:Nat) (l:Nat) (signs:List Bs) (R:Ts):Rs Unit:=if isN R || decide (txt R∈signs) then (if 200<l then wrongP e 62 R else .ok () R) else wrongP e 61 R
theorem enterQ_eq (e l:Nat) (signs:List Bs) (R:Ts) (k:Rs Tr):enterQ e l signs R k=(enterU e l signs R).bnd fun _ _=>k:=by
 unfold enterQ enterU
 split
 ·split <;> rfl
 ·rfl
set_option maxRecDepth 100000 in
set_option maxHeartbeats 2000000 in
theorem enter_any (signs:List Bs) (l g cap:Nat) (r:Rdr) (w:World) (R:Ts) (hR:r.In w R) (hwf:r.wf) (hl:l≤1000) (hs:signs.length≤1000) (hc:CellsS w g signs) (hg:g<w.heap.size) :
  Calls Tryz.prog 30 #[r.ptr,.int .i64 (l:Nat),.slice (some ⟨g,0,none⟩) signs.length cap] w (Out r w (fun _ _ v=>v=.tuple #[]) (enterU r.e l signs R)):=by
 have cN:=fun m=>seesName_q r (w.drewN m) R (hR.below (drewN_below w m)) hwf
 have cS:=fun m=>contains_any signs (txt R) g cap (w.drewN m) hs (fun j n hj=>((drewN_below w m).cell hg).trans (hc j n hj))
 have cW:=fun x w' (h:r.In w' R)=>wrong_any x r w' R h hwf
 obtain⟨X,hX⟩:∃ X,enterU r.e l signs R=X:=⟨_,rfl⟩
 rw [hX]
 unfold enterU wrongP at hX
 have HX:Hid (_=X):=hX
 clear hX
 obtain⟨n,hn,c1,k0,k1,k2⟩:=hR.head
 have c0:=hR.c0
 rw [hd_txt] at k1
 have hA:=hwf.1
 have e1:(n:Int) < (r.A.length:Int) + 1:=by omega
 clear k0 k2
 by_cases hN:isN R=true
 ·rw [hN] at cN HX
  simp only [Bool.true_or,if_true] at HX
  clear hN
  by_cases h2:200<l
  ·have HX':Hid (X=.bad (atP r.e R) 62):=by rw [← HX.out,if_pos h2];rfl
   have h3:(200:Int) < (l:Int):=by omega
   clear HX h2
   go_enter Tryz.func30,Tryz.ntmps30
   go_wp2_with fail
   go_quiet (first | (go_at_call 56;exact Calls.quiet_of (cN _)) | (go_at_call 57;exact Calls.quiet_of_same (cS _)))
   clear cN cS
   go_wp2_with fail
   refine (cW 62 _ (hR.below (drewN_below w _))).mono ?_
   rintro e w2 ⟨rfl,hb⟩
   exact⟨rfl,Out.bad_of HX'.out (hR.ble (chain (drewN_below w _) hb))⟩
  ·have HX':Hid (X=.ok () R):=by rw [← HX.out,if_neg h2];rfl
   have h3:¬ (200:Int) < (l:Int):=by omega
   clear HX h2
   go_enter Tryz.func30,Tryz.ntmps30
   go_wp2_with fail
   go_quiet (first | (go_at_call 56;exact Calls.quiet_of (cN _)) | (go_at_call 57;exact Calls.quiet_of_same (cS _)))
   clear cN cS
   go_wp2_with fail
   go_end0
   exact Out.ok_of HX'.out rfl (hR.below (drewN_below w _)) (Kp.of_below (drewN_below w _))
 ·have hN:isN R=false:=by simpa using hN
  rw [hN] at cN HX
  simp only [Bool.false_or] at HX
  clear hN
  by_cases hS:txt R∈signs
  ·rw [decide_eq_true hS] at cS HX
   simp only [if_true] at HX
   clear hS
   by_cases h2:200<l
   ·have HX':Hid (X=.bad (atP r.e R) 62):=by rw [← HX.out,if_pos h2];rfl
    have h3:(200:Int) < (l:Int):=by omega
    clear HX h2
    go_enter Tryz.func30,Tryz.ntmps30
    go_wp2_with fail
    go_quiet (first | (go_at_call 56;exact Calls.quiet_of (cN _)) | (go_at_call 57;exact Calls.quiet_of_same (cS _)))
    clear cN cS
    go_wp2_with fail
    refine (cW 62 _ (hR.below (drewN_below w _))).mono ?_
    rintro e w2 ⟨rfl,hb⟩
    exact⟨rfl,Out.bad_of HX'.out (hR.ble (chain (drewN_below w _) hb))⟩
   ·have HX':Hid (X=.ok () R):=by rw [← HX.out,if_neg h2];rfl
    have h3:¬ (200:Int) < (l:Int):=by omega
    clear HX h2
    go_enter Tryz.func30,Tryz.ntmps30
    go_wp2_with fail
    go_quiet (first | (go_at_call 56;exact Calls.quiet_of (cN _)) | (go_at_call 57;exact Calls.quiet_of_same (cS _)))
    clear cN cS
    go_wp2_with fail
    go_end0
    exact Out.ok_of HX'.out rfl (hR.below (drewN_below w _)) (Kp.of_below (drewN_below w _))
  ·rw [decide_eq_false hS] at cS HX
   simp only [Bool.false_eq_true,if_false] at HX
   clear hS
   go_enter Tryz.func30,Tryz.ntmps30
   go_wp2_with fail
   go_quiet (first | (go_at_call 56;exact Calls.quiet_of (cN _)) | (go_at_call 57;exact Calls.quiet_of_same (cS _)))
   clear cN cS
   go_wp2_with fail
   refine (cW 61 _ (hR.below (drewN_below w _))).mono ?_
   rintro e w2 ⟨rfl,hb⟩
   exact⟨rfl,Out.bad_of HX.out.symm (hR.ble (chain (drewN_below w _) hb))⟩
end Go.Proofs.YtahnbigkdfmpbaaGreatDoor
namespace Go.Proofs.YtahnbigkdfmpbaaGreatDoor
open Go.RowKit
def encS (n:Bs):Value:=.string (bs n)
def OwnsS (w:World) (base:Nat) (v:Value) (ns:List Bs):Prop:=w.ownsRow base 9 1 v ns.length (ns.map encS)
theorem OwnsS.nm {w:World} {base:Nat} {v:Value} {ns:List Bs} (h:OwnsS w base v ns) (hL:ns.length≤3000000):NmIn (From base) w ns v:=by
 have h0:=h
 obtain⟨h1,⟨rfl,h2⟩ | ⟨g,cap,cur,rfl,hg,hh,hn,hc,hs,ht⟩⟩:=h
 ·obtain rfl:=List.length_eq_zero_iff.1 h2
  exact .nil _ _
 ·refine .row ns g 0 cap ⟨hL,hn⟩ hg (World.ownsRow.lt h0 g rfl).2 fun j n hj=>?_
  have hlt:j<ns.length:=by
   rcases Nat.lt_or_ge j ns.length with h1|h1
   ·exact h1
   ·rw [List.getElem?_eq_none h1] at hj;exact absurd hj (by simp)
  have e0:=World.ownsRow.cellAt h0 j (by omega)
  rw [List.getElem?_map,hj] at e0
  rw [Nat.zero_add]
  exact e0
theorem OwnsS.kp {w w':World} {b base:Nat} {v:Value} {ns:List Bs} (h:OwnsS w base v ns) (hk:Kp b w w') (hb:b<base):OwnsS w' base v ns:=by
 have hlt:=World.ownsRow.lt h
 obtain⟨h1,h2⟩:=h
 refine⟨h1,?_⟩
 rcases h2 with h2|⟨g,cap,cur,rfl,hg,hh,r⟩
 ·exact .inl h2
 ·exact .inr ⟨g,cap,cur,rfl,hg,(hk.block g (hlt g rfl).2 (by omega)).trans hh,r⟩
theorem owns_one (w:World) (base:Nat) (n:Bs) (hb:base≤w.heap.size):OwnsS (w.alloc (.cells #[.string (bs n)] 9)) base (.slice (some ⟨w.heap.size,0,none⟩) 1 1) [n] :=
 World.ownsRow_lit (size:=1) w #[.string (bs n)] 1 hb (by decide) rfl
theorem wpList_append_str {w:World} {ops:Array Oper} {rest:List Oper} {o:Oper} {a:Act} {Q:Exit→Act→World→Prop}
  (hgd:o.guard=none) (s x:Operand)
  (ho:o.op=.call { callee:=.builtin .append,args:=#[s,x],argTypes:=#[23,23] }) (base:Nat) (v:Value) (ad:Addr) (u:List Bs) (t:Bs) (hs:a.eval s=v) (hx:a.eval x=.slice (some ad) 1 1)
  (hO:OwnsS w base v u) (hr:w.cell? ad=some (.string (bs t))) (hn:u.length≤200000) (hb:base≤w.heap.size)
  (h:∀ v' w',OwnsS w' base v' (u ++ [t])→w.grownBy w' v.ownBlock→wpList Tryz.prog ops Q rest (a.put o.dst v') w'):wpList Tryz.prog ops Q (o :: rest) a w:=by
 refine wpList_plain hgd fun K hK'=>?_
 obtain⟨i0,hi,hz0,hz1,hz2⟩:=info_parts Tryz.infoStr
 obtain⟨v',w',hrun,r1,r2,_,r4⟩:=run_append_own_at (P:=Tryz.prog) w base 23 o.type 9 i0 _ 1 16 Tryz.underlying23 hi hz0 hz1 hz2 rfl (by decide) v u.length (u.map encS) hO ad 1 1 [encS t] rfl (by
  intro j x hj
  cases j with
  | zero =>
   obtain rfl:encS t=x:=by simpa using hj
   rw [show ad.add 0=ad from by cases ad;simp [Addr.add]];exact hr
  | succ j=>simp at hj) (by intro u hu;simp at hu;subst hu;rfl) (by unfold maxLen;omega) (by omega) hb
 have r1':OwnsS w' base v' (u ++ [t]):=by
  unfold OwnsS
  rw [List.map_append,List.length_append]
  exact r1
 unfold Oper.wp
 simp [execOp,ho,resolve,invoke,builtin,hs,hx,hrun,Result.andThen]
 exact hK' _ _ (h v' w' r1' r2)
theorem Kp.grown {b base:Nat} {w w':World} {v:Value} {u:List Bs} (hO:OwnsS w base v u) (hg:w.grownBy w' v.ownBlock):∀ w0,Kp b w0 w→w0.heap.size≤base→Kp b w0 w':=fun w0 h h0 =>
 ⟨hg.os.trans h.os,hg.tape.trans h.tape,hg.output.trans h.output,Nat.le_trans h.size hg.size,fun k hk hb=>(hg.block k (Nat.lt_of_lt_of_le hk h.size) (fun e=>by have:=(World.ownsRow.lt hO k e.symm).1;omega)).trans (h.block k hk hb)⟩
theorem Rdr.In.grown {r:Rdr} {base:Nat} {w w':World} {v:Value} {u:List Bs} {R:Ts} (h:r.In w R) (hO:OwnsS w base v u) (hg:w.grownBy w' v.ownBlock) (hb:r.b<base):r.In w' R:=by
 have hB:∀ k,k≤r.b→w'.heap[k]? = w.heap[k]?:=fun k hk=>hg.block k (by have:=h.lt;omega) (fun e=>by have:=(World.ownsRow.lt hO k e.symm).1;omega)
 have hBl:Below (r.b+1) w w':=⟨hg.os,hg.tape,hg.output,hg.size,fun k hk=>hB k (by omega)⟩
 exact⟨⟨h.lt.1,Nat.lt_of_lt_of_le h.lt.2 hg.size⟩,(hBl.cell (Nat.lt_succ_self _)).trans h.c0,let ⟨P,h1,h2⟩:=h.pre;⟨P,h1,(hBl.cell (Nat.lt_succ_self _)).trans h2⟩,(hBl.frozen (Nat.lt_succ_self _)).trans h.fz,h.toks.below hBl (by have:=h.lt;omega)⟩
set_option maxRecDepth 100000 in
set_option maxHeartbeats 2000000 in
theorem names_any (r:Rdr) (w:World) (R:Ts) (hR:r.In w R) (hwf:r.wf) :
  Calls Tryz.prog 59 #[r.ptr] w (Out r w (fun ns w' v=>NmIn (From w.heap.size) w' ns v) (namesP r.e R)):=by
 have c:=name_any r w R hR hwf
 obtain⟨X,hX⟩:∃ X,namesP r.e R=X:=⟨_,rfl⟩
 rw [hX]
 unfold namesP at hX
 cases hq:nameP r.e R using Rs.cs with
 | bad p x =>
  rw [hq] at c hX
  have HX:Hid (_=X):=hX
  clear hX hq
  go_enter Tryz.func59,Tryz.ntmps59
  go_wp2_with fail
  refine c.mono ?_
  rintro e w' ⟨rfl,hb⟩
  exact⟨rfl,Out.bad_of HX.out.symm hb⟩
 | ok n R1 =>
  rw [hq] at c hX
  have HX:Hid (namesL [n] R1=X):=hX
  clear hX hq
  have hlt:=hR.lt
  go_enter Tryz.func59,Tryz.ntmps59
  go_wp2_with fail
  refine c.mono ?_
  rintro e w1 ⟨v,rfl,rfl,hI,hk⟩
  have hsz:=hk.size
  go_wp2_with fail
  have hO:=owns_one w1 w.heap.size n hsz
  go_loopg [3] R1.length (fun m o wr=>∃ acc R',m=R'.length∧acc.length+R'.length≤65537∧OwnsS wr w.heap.size o acc∧r.In wr R'∧Kp r.b w wr∧Hid (namesL acc R'=X))
  case atStart =>
   refine⟨[n],R1,rfl,?_,hO,hI.below (below_alloc _ _),hk.alloc _,HX⟩
   obtain⟨P,hP,_⟩:=hI.pre
   have:=hwf.1
   rw [hP] at this
   simp at this ⊢
   omega
  case round =>
   obtain⟨acc,R',hm,hacc,hO',hI',hk',HK⟩:=hrel
   clear hO hI hk HX c hsz hR
   have cs:=seesName_any r wr R' hI' hwf
   cases hq:isN R' with
   | false =>
    rw [hq] at cs
    have HE:Hid (X=.ok acc R'):=by
     rw [← HK.out]
     cases R' with
     | nil=>rfl
     | cons t R'=>show _=_;simp [isN] at hq;simp [namesL,hq]
    clear HK hq
    go_wp2_with fail
    refine cs.mono ?_
    rintro e w2 ⟨rfl,hb⟩
    go_wp2_with fail
    go_ret
    exact Out.ok_of HE.out ((hO'.nm (by omega)).blw hb) (hI'.below hb) (chainK hk' hb)
   | true =>
    rw [hq] at cs
    obtain⟨t,R2,rfl,ht⟩:=isN_cons hq
    have HE:Hid (namesL (acc ++ [t.text]) R2=X):=by
     rw [← HK.out]
     show _=_
     simp [namesL,ht]
    have cn:=fun w (h:r.In w (t :: R2))=>name_any r w (t :: R2) h hwf
    simp only [nameP,hq,if_true,txt,List.tail_cons] at cn
    have hsz:=hk'.size
    have A:Aside (gk=(t :: R2).length∧acc.length+(t :: R2).length≤65537):=⟨hm,hacc⟩
    clear HK hq ht hm hacc
    go_wp2_with fail
    refine cs.mono ?_
    rintro e w2 ⟨rfl,hb⟩
    have cn2:=cn w2 (hI'.below hb)
    clear cn cs
    go_wp2_with fail
    refine cn2.mono ?_
    rintro e w3 ⟨v,rfl,rfl,hI3,hk3⟩
    clear cn2
    have hO3:OwnsS w3 w.heap.size _ acc:=(hO'.kp (Kp.of_below (b:=r.b) hb) (by omega)).kp hk3 (by omega)
    have hK3:=(chainK hk' hb).trans hk3
    have hal:=below_alloc w3 (.cells #[.string (bs t.text)] 9)
    have hO4:=hO3.kp (Kp.of_below (b:=r.b) hal) (by omega)
    have hsz3:=hK3.size
    obtain⟨Y,hY⟩:∃ Y,bs t.text=Y:=⟨_,rfl⟩
    have HY:Hid (bs t.text=Y):=hY
    simp only [hY] at hO4 hal ⊢
    clear hY
    go_wp2_with (at_builtin;refine wpList_append_str rfl _ _ rfl w.heap.size _ ⟨w3.heap.size,0,none⟩ acc t.text rfl rfl hO4 (by rw [HY.out];simp [go_sem]) (by have:=A.out.2;omega) (by simp;omega) ?_;intro v' w4 hO5 hg5)
    go_roundg R2.length
    case measure=>have:=A.out.1;simp at this;omega
    case rel=>exact⟨acc ++ [t.text],R2,rfl,by have:=A.out.2;simp at this ⊢; omega,hO5,(hI3.below hal).grown hO4 hg5 (by omega),Kp.grown hO4 hg5 w (hK3.trans (Kp.of_below hal)) (Nat.le_refl _),HE⟩
end Go.Proofs.YtahnbigkdfmpbaaGreatDoor
namespace Go.Proofs.YtahnbigkdfmpbaaGreatDoor
open Go.RowKit
theorem Tryz.sizeTok (w:World):(sizeOf (Tryz.prog.elem 59)).run Tryz.prog w=.ok 3 w:=by
 obtain⟨i0,hi,hz0,hz1,hz2⟩:=info_parts Tryz.infoT
 have he:Tryz.prog.elem 59=68:=by kernel_rfl
 rw [he]
 simp [sizeOf,typeInfo,hi,hz1]
theorem slice_toks (g n N cap:Nat) (h1:n≤N) (h2:N<cap) (w:World) :
  (Instr.slice 59 (.slice (some ⟨g,0,none⟩) (N+1) cap) (some (.int .i64 (n:Int))) none none).run Tryz.prog w=.ok (.slice (some ⟨g,n*3,none⟩) (N+1 - n) (cap - n)) w:=by
 rw [run_slice_l w 59 _ _ _ (by kernel_rfl) .i64 n (by omega) (by omega),Tryz.sizeTok]
 have:¬ cap=n:=by omega
 simp only [Result.andThen,sliced,this,if_false,Option.map_some,Int.toNat_natCast,Addr.add_lit,Nat.zero_add]
theorem tok_drop (R:Ts) (e k:Nat) (h:k≤R.length):(R ++ [⟨0,[],e⟩])[k]? = some (hd e (R.drop k)):=by
 rcases Nat.lt_or_ge k R.length with h1|h1
 ·rw [List.getElem?_append_left h1,List.drop_eq_getElem_cons h1,List.getElem?_eq_getElem h1];rfl
 ·obtain rfl:k=R.length:=by omega
  simp [hd]
theorem bs_beq1 (a b:Bs):((bs a).toList == b)=decide (a=b):=by
 rw [Lib.toList_data,tl_def,tl_bs,Bool.eq_iff_iff];simp
def stepT (o:Int) (T:Bs):Int:=if T=[40] then o+1 else if T=[41] then o - 1 else o
theorem sees_eq {s:Bs} {R:Ts}:(sees s R=true)=(txt R=s):=by rw [sees_txt];simp
theorem behind_drop {R:Ts} {k:Nat} (h:k<R.length) (z:Int):behindL z (R.drop k)=if stepT z (txt (R.drop k))=0 then txt (R.drop (k+1)) else behindL (stepT z (txt (R.drop k))) (R.drop (k+1)):=by
 rw [List.drop_eq_getElem_cons h];rfl
theorem behind_zero {R:Ts} {k L:Nat} {z y:Int} {X:Bs} (h1:1≤R.length) (hL:L=R.length) (h0:k=0∨z≠0) (hk:k≤L) (hx:behindL z (R.drop k)=X) (hs:stepT z (txt (R.drop k))=y) (hy:y=0):X=txt (R.drop (k+1))∧k+1≤L:=by
 rcases Nat.lt_or_ge k L with h|h
 ·rw [behind_drop (by omega),hs,if_pos hy] at hx
  exact⟨hx.symm,h⟩
 ·exfalso
  rw [List.drop_of_length_le (by omega)] at hs
  have:stepT z (txt [])=z:=rfl
  rw [this] at hs
  rcases h0 with h0|h0
  ·omega
  ·exact h0 (hs.trans hy)
theorem behind_more {R:Ts} {k L:Nat} {z y:Int} {X:Bs} (hL:L=R.length) (hk:k≤L) (hx:behindL z (R.drop k)=X) (hs:stepT z (txt (R.drop k))=y) (hy:¬ y=0):y≠0∧(k+1≤L→behindL y (R.drop (k+1))=X)∧(k=L→X=[]):=by
 refine⟨hy,fun h=>?_,fun h=>?_⟩
 ·rw [behind_drop (by omega),hs,if_neg hy] at hx
  exact hx
 ·rw [List.drop_of_length_le (by omega)] at hx
  exact hx.symm
set_option maxRecDepth 100000 in
set_option maxHeartbeats 4000000 in
theorem behind_any (r:Rdr) (w:World) (R:Ts) (hR:r.In w R) (hwf:r.wf) (hop:sees [40] R=true) :
  Calls Tryz.prog 60 #[r.ptr] w fun e w'=>e=.returned (.string (bs (behindL 0 R)))∧Below w.heap.size w w':=by
 obtain⟨P,hP,c1⟩:=hR.pre
 have c0:=hR.c0
 have hcap:=hwf.2.2.2
 have hA:=hwf.1
 have hlen:r.A.length=P.length+R.length:=by rw [hP];simp
 have hgl:r.g<w.heap.size:=by have:=hR.lt;omega
 have hbl:r.b<w.heap.size:=hR.lt.2
 have hT:∀ k,k≤R.length→∀ wr,Below w.heap.size w wr→wr.cell? ⟨r.g,(P.length+k) * 3,none⟩=some (.int .i64 ((hd r.e (R.drop k)).kind:Nat))∧wr.cell? ⟨r.g,(P.length+k) * 3+1,none⟩=some (.string (bs (txt (R.drop k))))∧wr.cell? ⟨r.g,(P.length+k) * 3+2,none⟩=some (.int .i64 ((hd r.e (R.drop k)).at_:Nat)):=by
  intro k hk wr hb
  have hj:r.all[P.length+k]? = some (hd r.e (R.drop k)):=by
   rw [Rdr.all,hP,List.append_assoc,List.getElem?_append_right (by omega),Nat.add_sub_cancel_left]
   exact tok_drop R r.e k hk
  obtain⟨a,b,c⟩:=hR.toks.below hb hgl _ _ hj
  simp only [Nat.zero_add,hd_txt] at a b c
  exact⟨a,b,c⟩
 have HT:Hid (_):=hT
 have HO:Hid (sees [40] R=true):=hop
 obtain⟨X,hX⟩:∃ X,behindL 0 R=X:=⟨_,rfl⟩
 rw [hX]
 have HX:Hid (behindL 0 R=X):=hX
 clear hX hT hop hR hP
 obtain⟨n,hn⟩:∃ n,n=P.length:=⟨_,rfl⟩
 rw [← hn] at c1 HT hlen
 obtain⟨L,hL⟩:∃ L,L=R.length:=⟨_,rfl⟩
 have HL:Hid (L=R.length):=hL
 rw [← hL] at hlen
 rw [hlen] at c0 hcap hA
 have sl:=slice_toks r.g n (n+L) r.cap (by omega) hcap
 have e2:n+L+1 - n=L+1:=by omega
 rw [e2] at sl
 clear hn hL e2 hwf
 go_enter Tryz.func60,Tryz.ntmps60
 go_wp2_with fail
 go_quiet (fail)
 obtain⟨w1,hw1⟩:∃ w1,w1=w.drewN nq:=⟨_,rfl⟩
 have hB1:Below w.heap.size w w1:=by rw [hw1];exact drewN_below _ _
 rw [← hw1]
 clear hw1
 go_wp2_with fail
 have HR1:Hid (1≤R.length):=by
  obtain⟨t,R',rfl,_⟩:=sees_cons (by simp) HO.out
  show 1≤_;simp
 go_loopg [3,16] (L+1) (fun m o i wr=>∃ (k:Nat) (z:Int),m=L+1 - k∧k≤L+1∧i=.int .i64 k∧o=.int .i64 z∧-(k:Int)≤z∧z≤(k:Int)∧Below w.heap.size w wr∧Hid ((k=0∨z≠0)∧(k≤L→behindL z (R.drop k)=X)∧(k=L+1→X=[])))
 case atStart=>exact⟨0,0,rfl,by omega,rfl,rfl,by omega,by omega,hB1,⟨.inl rfl,fun _=>HX.out,fun h=>by omega⟩⟩
 case round =>
  obtain⟨k,z,hm,hk,rfl,rfl,hz1,hz2,hB,HK⟩:=hrel
  clear hB1 HX
  by_cases hkl:k≤L
  ·obtain⟨t0,t1,t2⟩:=HT.out k (by rw [← HL.out];exact hkl) wr hB
   have c0':=(hB.cell (p:=⟨r.b,0,none⟩) hbl).trans c0
   have c1':=(hB.cell (p:=⟨r.b,1,none⟩) hbl).trans c1
   have A:Aside (gk=L+1 - k):=hm
   have hkI:(k:Int) < (L:Int) + 1:=by omega
   have t0':wr.cell? ⟨r.g,n*3+k*3,none⟩=some (.int .i64 ((hd r.e (R.drop k)).kind:Nat)):=by rw [← Nat.add_mul];exact t0
   have t1':wr.cell? ⟨r.g,n*3+k*3+1,none⟩=some (.string (bs (txt (R.drop k)))):=by rw [← Nat.add_mul];exact t1
   have t2':wr.cell? ⟨r.g,n*3+k*3+2,none⟩=some (.int .i64 ((hd r.e (R.drop k)).at_:Nat)):=by rw [← Nat.add_mul];exact t2
   clear t0 t1 t2 c0 c1 hm
   by_cases h40:txt (R.drop k)=[40]
   ·have q40:=bs_beq1 (txt (R.drop k)) [40]
    rw [decide_eq_true h40] at q40
    have hst:stepT z (txt (R.drop k))=z+1:=by rw [stepT,if_pos h40]
    have Hst:Hid (_=_):=hst
    clear h40 hst
    generalize (hd r.e (R.drop k)).kind=V0 at *
    generalize bs (txt (R.drop k))=V1 at *
    generalize (hd r.e (R.drop k)).at_=V2 at *
    by_cases hz:z+1=0
    ·have HV:Hid (X=txt (R.drop (k+1))∧k+1≤L):=by
      have hx:=HK.out.2.1 hkl
      exact behind_zero HR1.out HL.out HK.out.1 hkl hx (Hst.out) hz
     have hz':(z+1 == 0)=true:=by simp only [beq_iff_eq];exact hz
     obtain⟨s0,s1,s2⟩:=HT.out (k+1) (by rw [← HL.out];exact HV.out.2) _ (chain hB (below_alloc wr (.cells #[.int .i64 (V0:Nat),.string V1,.int .i64 (V2:Nat)] 68)))
     have s1':(wr.alloc (.cells #[.int .i64 (V0:Nat),.string V1,.int .i64 (V2:Nat)] 68)).cell? ⟨r.g,(n+k+1) * 3+1,none⟩=some (.string (bs X)):=by rw [HV.out.1];exact s1
     have g1:IntKind.i64.wrap ((n:Int) + (k:Int))=(n:Int) + (k:Int):=wrap_in (by omega) (by omega)
     have g2:IntKind.i64.wrap ((n:Int) + (k:Int) + 1)=(((n+k+1:Nat)):Int):=by rw [wrap_in (by omega) (by omega)];omega
     have g3:((n+k+1:Nat):Int) < (n:Int) + (L:Int) + 1:=by have:=HV.out.2;omega
     have c0'':=(alloc_cell (o:=.cells #[.int .i64 (V0:Nat),.string V1,.int .i64 (V2:Nat)] 68) (p:=⟨r.b,0,none⟩) (Nat.lt_of_lt_of_le hbl hB.size)).trans c0'
     have c1'':=(alloc_cell (o:=.cells #[.int .i64 (V0:Nat),.string V1,.int .i64 (V2:Nat)] 68) (p:=⟨r.b,1,none⟩) (Nat.lt_of_lt_of_le hbl hB.size)).trans c1'
     have hBn:=chain hB (below_alloc wr (.cells #[.int .i64 (V0:Nat),.string V1,.int .i64 (V2:Nat)] 68))
     clear s0 s1 s2 hz HK
     go_wp2_with fail
     generalize wr.alloc (.cells #[.int .i64 (V0:Nat),.string V1,.int .i64 (V2:Nat)] 68)=w5 at *
     clear t0' t1' t2' c0' c1'
     generalize n+k+1=q at *
     go_quiet (fail)
     go_wp2
     go_ret
     exact⟨rfl,chain hBn (drewN_below _ _)⟩
    ·have HV:Hid ((z+1≠0)∧(k+1≤L→behindL (z+1) (R.drop (k+1))=X)∧(k=L→X=[])):=by
      have hx:=HK.out.2.1 hkl
      exact behind_more HL.out hkl hx (Hst.out) hz
     have hz':(z+1 == 0)=false:=by simp only [beq_eq_false_iff_ne];exact hz
     clear hz HK
     go_wp2_with fail
     go_roundg (L+1 - (k+1))
     case measure=>have:=A.out;omega
     case rel=>exact⟨k+1,z+1,rfl,by omega,by go_num,rfl,by omega,by omega,chain hB (below_alloc _ _),⟨.inr HV.out.1,fun h=>HV.out.2.1 h,fun h=>HV.out.2.2 (by omega)⟩⟩
   ·have q40:=bs_beq1 (txt (R.drop k)) [40]
    rw [decide_eq_false h40] at q40
    by_cases h41:txt (R.drop k)=[41]
    ·have q41:=bs_beq1 (txt (R.drop k)) [41]
     rw [decide_eq_true h41] at q41
     have hst:stepT z (txt (R.drop k))=z - 1:=by rw [stepT,if_neg h40,if_pos h41]
     have Hst:Hid (_=_):=hst
     clear h40 h41 hst
     generalize (hd r.e (R.drop k)).kind=V0 at *
     generalize bs (txt (R.drop k))=V1 at *
     generalize (hd r.e (R.drop k)).at_=V2 at *
     by_cases hz:z - 1=0
     ·have HV:Hid (X=txt (R.drop (k+1))∧k+1≤L):=by
       have hx:=HK.out.2.1 hkl
       exact behind_zero HR1.out HL.out HK.out.1 hkl hx (Hst.out) hz
      have hz':(z - 1 == 0)=true:=by simp only [beq_iff_eq];exact hz
      obtain⟨s0,s1,s2⟩:=HT.out (k+1) (by rw [← HL.out];exact HV.out.2) _ (chain hB (below_alloc wr (.cells #[.int .i64 (V0:Nat),.string V1,.int .i64 (V2:Nat)] 68)))
      have s1':(wr.alloc (.cells #[.int .i64 (V0:Nat),.string V1,.int .i64 (V2:Nat)] 68)).cell? ⟨r.g,(n+k+1) * 3+1,none⟩=some (.string (bs X)):=by rw [HV.out.1];exact s1
      have g1:IntKind.i64.wrap ((n:Int) + (k:Int))=(n:Int) + (k:Int):=wrap_in (by omega) (by omega)
      have g2:IntKind.i64.wrap ((n:Int) + (k:Int) + 1)=(((n+k+1:Nat)):Int):=by rw [wrap_in (by omega) (by omega)];omega
      have g3:((n+k+1:Nat):Int) < (n:Int) + (L:Int) + 1:=by have:=HV.out.2;omega
      have c0'':=(alloc_cell (o:=.cells #[.int .i64 (V0:Nat),.string V1,.int .i64 (V2:Nat)] 68) (p:=⟨r.b,0,none⟩) (Nat.lt_of_lt_of_le hbl hB.size)).trans c0'
      have c1'':=(alloc_cell (o:=.cells #[.int .i64 (V0:Nat),.string V1,.int .i64 (V2:Nat)] 68) (p:=⟨r.b,1,none⟩) (Nat.lt_of_lt_of_le hbl hB.size)).trans c1'
      have hBn:=chain hB (below_alloc wr (.cells #[.int .i64 (V0:Nat),.string V1,.int .i64 (V2:Nat)] 68))
      clear s0 s1 s2 hz HK
      go_wp2_with fail
      generalize wr.alloc (.cells #[.int .i64 (V0:Nat),.string V1,.int .i64 (V2:Nat)] 68)=w5 at *
      clear t0' t1' t2' c0' c1'
      generalize n+k+1=q at *
      go_quiet (fail)
      go_wp2
      go_ret
      exact⟨rfl,chain hBn (drewN_below _ _)⟩
     ·have HV:Hid ((z - 1≠0)∧(k+1≤L→behindL (z - 1) (R.drop (k+1))=X)∧(k=L→X=[])):=by
       have hx:=HK.out.2.1 hkl
       exact behind_more HL.out hkl hx (Hst.out) hz
      have hz':(z - 1 == 0)=false:=by simp only [beq_eq_false_iff_ne];exact hz
      clear hz HK
      go_wp2_with fail
      go_roundg (L+1 - (k+1))
      case measure=>have:=A.out;omega
      case rel=>exact⟨k+1,z - 1,rfl,by omega,by go_num,rfl,by omega,by omega,chain hB (below_alloc _ _),⟨.inr HV.out.1,fun h=>HV.out.2.1 h,fun h=>HV.out.2.2 (by omega)⟩⟩
    ·have q41:=bs_beq1 (txt (R.drop k)) [41]
     rw [decide_eq_false h41] at q41
     have hst:stepT z (txt (R.drop k))=z:=by rw [stepT,if_neg h40,if_neg h41]
     have Hst:Hid (_=_):=hst
     clear hst
     by_cases hz:z=0
     ·exfalso
      have h0:k=0:=by
       rcases HK.out.1 with h|h
       ·exact h
       ·exact absurd hz h
      apply h40
      rw [h0,List.drop_zero,← sees_eq]
      exact HO.out
     ·clear h40 h41
      generalize (hd r.e (R.drop k)).kind=V0 at *
      generalize bs (txt (R.drop k))=V1 at *
      generalize (hd r.e (R.drop k)).at_=V2 at *
      have HV:Hid ((z≠0)∧(k+1≤L→behindL (z) (R.drop (k+1))=X)∧(k=L→X=[])):=by
       have hx:=HK.out.2.1 hkl
       exact behind_more HL.out hkl hx (Hst.out) hz
      have hz':(z == 0)=false:=by simp only [beq_eq_false_iff_ne];exact hz
      clear hz HK
      go_wp2_with fail
      go_roundg (L+1 - (k+1))
      case measure=>have:=A.out;omega
      case rel=>exact⟨k+1,z,rfl,by omega,by go_num,rfl,by omega,by omega,chain hB (below_alloc _ _),⟨.inr HV.out.1,fun h=>HV.out.2.1 h,fun h=>HV.out.2.2 (by omega)⟩⟩
  ·have HE:Hid (X=[]):=HK.out.2.2 (by omega)
   obtain rfl:k=L+1:=by omega
   have eb:bs []=⟨#[]⟩:=rfl
   clear HK
   go_wp2_with fail
   go_ret
   exact⟨by rw [HE.out];rfl,hB⟩
theorem Rdr.In.ahead {r:Rdr} {w:World} {R:Ts} (h:r.In w R):∃ n:Nat,n+R.length=r.A.length∧w.cell? ⟨r.b,1,none⟩=some (.int .i64 n)∧∀ k,k≤R.length→w.cell? ⟨r.g,(n+k) * 3,none⟩=some (.int .i64 ((hd r.e (R.drop k)).kind:Nat))∧w.cell? ⟨r.g,(n+k) * 3+1,none⟩=some (.string (bs (txt (R.drop k)))):=by
 obtain⟨P,hP,c1⟩:=h.pre
 refine⟨P.length,by rw [hP];simp,c1,fun k hk=>?_⟩
 have hj:r.all[P.length+k]? = some (hd r.e (R.drop k)):=by
  rw [Rdr.all,hP,List.append_assoc,List.getElem?_append_right (by omega),Nat.add_sub_cancel_left]
  exact tok_drop R r.e k hk
 obtain⟨a,b,c⟩:=h.toks _ _ hj
 simp only [Nat.zero_add,hd_txt] at a b c
 exact⟨a,b⟩
set_option maxRecDepth 100000 in
set_option maxHeartbeats 4000000 in
theorem seesBinder_any (r:Rdr) (w:World) (R:Ts) (hR:r.In w R) (hwf:r.wf) :
  Calls Tryz.prog 33 #[r.ptr] w fun e w'=>e=.returned (.bool (binderQ R))∧Below w.heap.size w w':=by
 have cS:=fun m=>sees_q [40] r (w.drewN m) R (hR.below (drewN_below w m)) hwf
 obtain⟨X,hX⟩:∃ X,binderQ R=X:=⟨_,rfl⟩
 rw [hX]
 unfold binderQ at hX
 have c0:=hR.c0
 obtain⟨n,hn,c1,hC⟩:=hR.ahead
 have hA:=hwf.1
 have g1:IntKind.i64.wrap ((n:Int) + 1)=((n+1:Nat):Int):=by rw [wrap_in (by omega) (by omega)];omega
 have g2:IntKind.i64.wrap ((n:Int) + 2)=((n+2:Nat):Int):=by rw [wrap_in (by omega) (by omega)];omega
 by_cases h0:sees [40] R=true
 ·have hB:=fun w' (h:r.In w' R)=>behind_any r w' R h hwf h0
  rw [h0] at cS hX
  obtain⟨t,R1,rfl,_⟩:=sees_cons (by simp) h0
  obtain⟨k0,k1⟩:=hC 1 (by simp)
  have e1:((n+1:Nat):Int) < (r.A.length:Int) + 1:=by simp at hn;omega
  simp only [List.tail_cons,Bool.true_and] at hX
  simp only [List.drop_succ_cons,List.drop_zero] at k0 k1
  by_cases hN:isN R1=true
  ·obtain⟨t1,R2,rfl,ht1⟩:=isN_cons hN
   obtain⟨j0,j1⟩:=hC 2 (by simp)
   have e2:((n+2:Nat):Int) < (r.A.length:Int) + 1:=by simp at hn;omega
   simp only [List.drop_succ_cons,List.drop_zero] at j0 j1
   rw [hN] at hX
   simp only [List.tail_cons,Bool.true_and] at hX
   have hK:(hd r.e (t1 :: R2)).kind=1:=ht1
   rw [hK] at k0
   have q1:=bs_beq1 (txt R2) [58]
   rw [← sees_txt] at q1
   by_cases h3:sees [58] R2=true
   ·rw [h3] at hX q1
    simp only [Bool.true_and] at hX
    have q2:=bs_beq1 (behindL 0 (t :: t1 :: R2)) [45,62]
    have q3:=bs_beq1 (behindL 0 (t :: t1 :: R2)) [42]
    clear hC h0 hN ht1 hK h3 j0 k1
    generalize bs (txt R2)=V at *
    generalize n+1=n1 at *
    generalize n+2=n2 at *
    generalize r.A.length=N at *
    go_enter Tryz.func33,Tryz.ntmps33
    go_wp2_with fail
    go_quiet (first | (go_at_call 31;exact Calls.quiet_of (cS _)))
    clear cS
    go_wp2_with fail
    refine (hB _ (hR.below (drewN_below w _))).mono ?_
    rintro e w2 ⟨rfl,hb⟩
    clear hB
    have hX2:X=(((bs (behindL 0 (t :: t1 :: R2))).toList == [45,62]) || ((bs (behindL 0 (t :: t1 :: R2))).toList == [42])):=by rw [q2,q3];exact hX.symm
    have HX:Hid (_=_):=hX2
    clear hX q2 q3 hX2
    generalize bs (behindL 0 (t :: t1 :: R2))=Y at *
    go_wp2_with fail
    all_goals
     go_ret
     refine⟨ret_bool ?_,chain (drewN_below w _) hb⟩
     rw [HX.out]
     try simp [*]
   ·have h3:sees [58] R2=false:=by simpa using h3
    rw [h3] at hX q1
    simp only [Bool.false_and] at hX
    subst hX
    clear hC h0 hN ht1 hK h3 j0 k1 hB
    generalize bs (txt R2)=V at *
    generalize n+1=n1 at *
    generalize n+2=n2 at *
    generalize r.A.length=N at *
    go_enter Tryz.func33,Tryz.ntmps33
    go_wp2_with fail
    go_quiet (first | (go_at_call 31;exact Calls.quiet_of (cS _)))
    clear cS
    go_wp2_with fail
    go_ret
    exact⟨rfl,drewN_below w _⟩
  ·have hN:isN R1=false:=by simpa using hN
   rw [hN] at hX
   simp only [Bool.false_and] at hX
   subst hX
   have hk:=hd_kind r.e R1
   rw [hN] at hk
   clear hC h0 hN hB k1
   generalize (hd r.e R1).kind=K at *
   have q1:((K:Int) == 1)=false:=by
    simp only [decide_eq_false_iff_not] at hk
    simp only [beq_eq_false_iff_ne];omega
   have q2:((K:Int) != 1)=true:=by simp only [bne,q1];rfl
   clear hk
   generalize n+1=n1 at *
   generalize n+2=n2 at *
   generalize r.A.length=N at *
   go_enter Tryz.func33,Tryz.ntmps33
   go_wp2_with fail
   go_quiet (first | (go_at_call 31;exact Calls.quiet_of (cS _)))
   clear cS
   go_wp2_with fail
   go_ret
   exact⟨rfl,drewN_below w _⟩
 ·have h0:sees [40] R=false:=by simpa using h0
  rw [h0] at cS hX
  simp only [Bool.false_and] at hX
  subst hX
  clear hC h0 g1 g2 hn
  go_enter Tryz.func33,Tryz.ntmps33
  go_wp2_with fail
  go_quiet (first | (go_at_call 31;exact Calls.quiet_of (cS _)))
  clear cS
  go_wp2_with fail
  go_ret
  exact⟨rfl,drewN_below w _⟩
end Go.Proofs.YtahnbigkdfmpbaaGreatDoor
namespace Go.Proofs.YtahnbigkdfmpbaaGreatDoor
open Go.RowKit
theorem new_cell (W:World) (cs:Array Value) (ty:TypeId) (g j:Nat) (x:Value) (hg:g=W.heap.size) (h:cs.toList[j]? = some x):(W.alloc (.cells cs ty)).cell? ⟨g,j,none⟩=some x:=by
 subst hg
 have h2:cs[j]? = some x:=by simpa using h
 simp [go_sem,h2]
theorem TrIn.pair {ok:Nat→Prop} {w:World} (k:Nat) (nm:Bs) (ns:List Bs) (p:Nat) {a b:Tr} {vn a0 a1 a2 a3 a4 b0 b1 b2 b3 b4:Value} {g cap:Nat} (ha:TrIn ok w a (.agg #[a0,a1,a2,a3,a4])) (hb:TrIn ok w b (.agg #[b0,b1,b2,b3,b4])) (hn:NmIn ok w ns vn) (hok:ok g) (hg:g<w.heap.size)
  (hc:∀ j x,[a0,a1,a2,a3,a4,b0,b1,b2,b3,b4][j]? = some x→w.cell? ⟨g,j,none⟩=some x) :
  TrIn ok w (.mk k nm [a,b] ns p) (.agg #[.int .i64 (k:Nat),.string (bs nm),.slice (some ⟨g,0,none⟩) 2 cap,vn,.int .i64 (p:Nat)]):=by
 refine .node k nm [a,b] ns p vn g 0 cap (fun j i=>[a0,a1,a2,a3,a4,b0,b1,b2,b3,b4].getD (j*5+i) undef) (by simp) hn hok hg ?_ ?_
 ·intro j hj i hi
  rw [Nat.zero_add]
  refine hc _ _ ?_
  have hlt:j*5+i<10:=by simp at hj;omega
  rw [List.getD_eq_getElem?_getD,List.getElem?_eq_getElem (by simpa using hlt)]
  rfl
 ·intro j kid hj
  match j,hj with
  | 0,hj=>simp at hj;subst hj;exact ha
  | 1,hj=>simp at hj;subst hj;exact hb
  | j+2,hj=>simp at hj
theorem TrIn.one {ok:Nat→Prop} {w:World} (k:Nat) (nm:Bs) (ns:List Bs) (p:Nat) {a:Tr} {vn a0 a1 a2 a3 a4:Value} {g cap:Nat} (ha:TrIn ok w a (.agg #[a0,a1,a2,a3,a4])) (hn:NmIn ok w ns vn) (hok:ok g) (hg:g<w.heap.size)
  (hc:∀ j x,[a0,a1,a2,a3,a4][j]? = some x→w.cell? ⟨g,j,none⟩=some x) :
  TrIn ok w (.mk k nm [a] ns p) (.agg #[.int .i64 (k:Nat),.string (bs nm),.slice (some ⟨g,0,none⟩) 1 cap,vn,.int .i64 (p:Nat)]):=by
 refine .node k nm [a] ns p vn g 0 cap (fun j i=>[a0,a1,a2,a3,a4].getD (j*5+i) undef) (by simp) hn hok hg ?_ ?_
 ·intro j hj i hi
  rw [Nat.zero_add]
  refine hc _ _ ?_
  have hlt:j*5+i<5:=by simp at hj;omega
  rw [List.getD_eq_getElem?_getD,List.getElem?_eq_getElem (by simpa using hlt)]
  rfl
 ·intro j kid hj
  match j,hj with
  | 0,hj=>simp at hj;subst hj;exact ha
  | j+1,hj=>simp at hj
theorem two_end {ok:Nat→Prop} {w W:World} (k:Nat) (nm:Bs) (ns:List Bs) (p:Nat) {a b:Tr} {vn a0 a1 a2 a3 a4 b0 b1 b2 b3 b4:Value} {g cap:Nat} (ha:TrIn ok w a (.agg #[a0,a1,a2,a3,a4])) (hb:TrIn ok w b (.agg #[b0,b1,b2,b3,b4])) (hn:NmIn ok w ns vn) (hB:Below w.heap.size w W) (hok:ok g) (hg:g<W.heap.size)
  (hc:∀ j x,[a0,a1,a2,a3,a4,b0,b1,b2,b3,b4][j]? = some x→W.cell? ⟨g,j,none⟩=some x) :
  TrIn ok W (.mk k nm [a,b] ns p) (.agg #[.int .i64 (k:Nat),.string (bs nm),.slice (some ⟨g,0,none⟩) 2 cap,vn,.int .i64 (p:Nat)])∧Below w.heap.size w W :=
 ⟨TrIn.pair k nm ns p (ha.blw hB) (hb.blw hB) (hn.blw hB) hok hg hc,hB⟩
set_option maxRecDepth 100000 in
set_option maxHeartbeats 4000000 in
theorem two_any (k:Nat) (a b:Tr) (va vb:Value) (ok:Nat→Prop) (w:World) (ha:TrIn ok w a va) (hb:TrIn ok w b vb) (hok:∀ g,w.heap.size≤g→ok g) :
  Calls Tryz.prog 37 #[.int .i64 (k:Nat),va,vb] w fun e w'=>∃ v,e=.returned v∧TrIn ok w' (two k a b) v∧Below w.heap.size w w':=by
 obtain⟨ak,an,rfl,hna,aka,akc,rfl⟩:=ha.form
 obtain⟨bk,bn,rfl,hnb,bka,bkc,rfl⟩:=hb.form
 obtain⟨ana,anc,rfl⟩:=hna.form
 obtain⟨bna,bnc,rfl⟩:=hnb.form
 clear hna hnb
 go_enter Tryz.func37,Tryz.ntmps37
 go_wp2
 refine⟨rfl,.agg #[.int .i64 (k:Nat),.string ⟨#[]⟩,.slice (some ⟨w.heap.size+1+1+1,0,none⟩) 2 2,.slice none 0 0,.int .i64 (a.at_:Nat)],by simp [results,Tryz.results37,go_sem],_,rfl,two_end k [] [] a.at_ ha hb (.nil _ _) (chain (chain (chain (below_alloc _ _) (below_alloc _ _)) (below_alloc _ _)) (below_alloc _ _)) (hok _ (by omega)) (by simp) (fun j x hj=>new_cell _ _ _ _ j x (by simp) hj)⟩
end Go.Proofs.YtahnbigkdfmpbaaGreatDoor
namespace Go.Proofs.YtahnbigkdfmpbaaGreatDoor
open Go.RowKit
def Blk (w:World) (n:Nat) (v0 v1 v2 v3 v4:Value):Prop:=w.heap[n]? = some (.cells #[v0,v1,v2,v3,v4] 26 (0,0))
abbrev Hole (w:World) (n:Nat):Prop:=Blk w n (.int .i64 0) (.string ⟨#[]⟩) (.slice none 0 0) (.slice none 0 0) (.int .i64 0)
theorem blk_new (w:World) (v0 v1 v2 v3 v4:Value):Blk (w.alloc (.cells #[v0,v1,v2,v3,v4] 26)) w.heap.size v0 v1 v2 v3 v4:=heap_alloc_new w _
theorem hole_new (w:World):Hole (w.alloc (.cells #[.int .i64 0,.string ⟨#[]⟩,.slice none 0 0,.slice none 0 0,.int .i64 0] 26)) w.heap.size:=heap_alloc_new w _
theorem Blk.kp {b n:Nat} {w w':World} {v0 v1 v2 v3 v4:Value} (h:Blk w n v0 v1 v2 v3 v4) (hk:Kp b w w') (hn:n<w.heap.size) (hb:b<n):Blk w' n v0 v1 v2 v3 v4:=(hk.block n hn (by omega)).trans h
theorem Blk.blw {n:Nat} {w w':World} {v0 v1 v2 v3 v4:Value} (h:Blk w n v0 v1 v2 v3 v4) (hk:Below w.heap.size w w') (hn:n<w.heap.size):Blk w' n v0 v1 v2 v3 v4:=(hk.block n hn).trans h
theorem Blk.lt {n:Nat} {w:World} {v0 v1 v2 v3 v4:Value} (h:Blk w n v0 v1 v2 v3 v4):n<w.heap.size:=by
 unfold Blk at h
 rcases Nat.lt_or_ge n w.heap.size with h1|h1
 ·exact h1
 ·rw [Array.getElem?_eq_none h1] at h;cases h
theorem Blk.cells {w:World} {n:Nat} {v0 v1 v2 v3 v4:Value} (h:Blk w n v0 v1 v2 v3 v4):w.cell? ⟨n,0,none⟩=some v0∧w.cell? ⟨n,1,none⟩=some v1∧w.cell? ⟨n,2,none⟩=some v2∧w.cell? ⟨n,3,none⟩=some v3∧w.cell? ⟨n,4,none⟩=some v4 ∧
  w.frozen? ⟨n,0,none⟩=false∧w.frozen? ⟨n,1,none⟩=false∧w.frozen? ⟨n,2,none⟩=false∧w.frozen? ⟨n,3,none⟩=false∧w.frozen? ⟨n,4,none⟩=false:=by
 unfold Blk at h
 simp [World.cell?,World.frozen?,h]
def TrV (n:Nat) (t:Tr) (w':World) (v:Value):Prop:=TrIn (From n) w' t v
def NF {α:Type} (x:Rs α):Prop:=∀ p,x≠.bad p 999
theorem NF.left {α β:Type} {x:Rs α} {k:α→Ts→Rs β} (h:NF (x.bnd k)):NF x:=fun p hp=>h p (by rw [hp];rfl)
theorem NF.right {α β:Type} {x:Rs α} {k:α→Ts→Rs β} {a:α} {R:Ts} (h:NF (x.bnd k)) (hx:x=.ok a R):NF (k a R):=by subst hx;exact h
def RuleC (r:Rdr) (fid:FuncId) (P:Nat→Ts→Rs Tr):Prop:=∀ (l:Nat) (R:Ts) (w:World),l≤201→r.In w R→NF (P l R)→Calls Tryz.prog fid #[r.ptr,.int .i64 (l:Nat)] w (Out r w (TrV w.heap.size) (P l R))
theorem cells_signs4 (w:World) (a b c d:Bs) (g:Nat) (hg:g=w.heap.size):CellsS (w.alloc (.cells #[.string (bs a),.string (bs b),.string (bs c),.string (bs d)] 9)) g [a,b,c,d]:=by
 intro j n hj
 refine new_cell _ _ _ _ j _ hg ?_
 match j,hj with
 | 0,hj=>simp at hj;subst hj;rfl
 | 1,hj=>simp at hj;subst hj;rfl
 | 2,hj=>simp at hj;subst hj;rfl
 | 3,hj=>simp at hj;subst hj;rfl
 | j+4,hj=>simp at hj
theorem Rdr.In.put {r:Rdr} {w:World} {R:Ts} {n i:Nat} (h:r.In w R) (hn:r.b<n) (u:Value):r.In (w.setCell ⟨n,i,none⟩ u) R:=by
 have hne:∀ k,k≤r.b→(w.setCell ⟨n,i,none⟩ u).heap[k]? = w.heap[k]?:=fun k hk=>Below.heap_setCell _ _ _ _ (by simp;omega)
 have hBl:Below (r.b+1) w (w.setCell ⟨n,i,none⟩ u):=⟨rfl,rfl,rfl,by simp [World.setCell],fun k hk=>hne k (by omega)⟩
 exact⟨⟨h.lt.1,by simpa [World.setCell] using h.lt.2⟩,(hBl.cell (Nat.lt_succ_self _)).trans h.c0,let ⟨P,h1,h2⟩:=h.pre;⟨P,h1,(hBl.cell (Nat.lt_succ_self _)).trans h2⟩,(hBl.frozen (Nat.lt_succ_self _)).trans h.fz,h.toks.below hBl (by have:=h.lt;omega)⟩
theorem TrIn.put {lo:Nat} {w:World} {t:Tr} {v:Value} {n i:Nat} (h:TrIn (From lo) w t v) (hn:n<lo) (u:Value):TrIn (From lo) (w.setCell ⟨n,i,none⟩ u) t v :=
 h.keep (by simp [World.setCell]) (fun _ h=>h) (fun g h1 _=>Below.heap_setCell _ _ _ _ (by unfold From at h1;simp;omega))
theorem NmIn.put {lo:Nat} {w:World} {t:List Bs} {v:Value} {n i:Nat} (h:NmIn (From lo) w t v) (hn:n<lo) (u:Value):NmIn (From lo) (w.setCell ⟨n,i,none⟩ u) t v :=
 h.keep (by simp [World.setCell]) (fun _ h=>h) (fun g h1 _=>Below.heap_setCell _ _ _ _ (by unfold From at h1;simp;omega))
def pu5 (w:World) (n:Nat) (u0 u1 u2 u3 u4:Value):World:=((((w.setCell ⟨n,0,none⟩ u0).setCell ⟨n,1,none⟩ u1).setCell ⟨n,2,none⟩ u2).setCell ⟨n,3,none⟩ u3).setCell ⟨n,4,none⟩ u4
theorem put5_size (w:World) (n:Nat) (u0 u1 u2 u3 u4:Value):(pu5 w n u0 u1 u2 u3 u4).heap.size=w.heap.size:=by simp [pu5,World.setCell]
theorem Rdr.In.put5 {r:Rdr} {w:World} {R:Ts} {n:Nat} (h:r.In w R) (hn:r.b<n) (u0 u1 u2 u3 u4:Value):r.In (pu5 w n u0 u1 u2 u3 u4) R:=((((h.put hn _).put hn _).put hn _).put hn _).put hn _
theorem TrIn.put5 {lo:Nat} {w:World} {t:Tr} {v:Value} {n:Nat} (h:TrIn (From lo) w t v) (hn:n<lo) (u0 u1 u2 u3 u4:Value):TrIn (From lo) (pu5 w n u0 u1 u2 u3 u4) t v:=((((h.put hn _).put hn _).put hn _).put hn _).put hn _
theorem NmIn.put5 {lo:Nat} {w:World} {t:List Bs} {v:Value} {n:Nat} (h:NmIn (From lo) w t v) (hn:n<lo) (u0 u1 u2 u3 u4:Value):NmIn (From lo) (pu5 w n u0 u1 u2 u3 u4) t v:=((((h.put hn _).put hn _).put hn _).put hn _).put hn _
theorem Kp.put5 {b n:Nat} {w1 w:World} (h:Kp b w1 w) (hn:w1.heap.size≤n) (u0 u1 u2 u3 u4:Value):Kp b w1 (pu5 w n u0 u1 u2 u3 u4) :=
 ((((h.setCell (.inr hn) _).setCell (.inr hn) _).setCell (.inr hn) _).setCell (.inr hn) _).setCell (.inr hn) _
theorem rule_end {r:Rdr} {w w1 w9:World} {n:Nat} {t:Tr} {v:Value} {R:Ts} {X:Rs Tr} (hX:X=.ok t R) (hB1:Below w.heap.size w w1) (hn:n=w.heap.size) (hn1:n<w1.heap.size) (hI:r.In w9 R) (hlt:r.b<n) (hK:Kp r.b w1 w9) (ht:TrIn (From w1.heap.size) w9 t v) (u0 u1 u2 u3 u4:Value) :
  Out r w (TrV w.heap.size) X (.returned v) (pu5 w9 n u0 u1 u2 u3 u4):=by
 subst hn
 exact Out.ok_of hX ((ht.put5 hn1 _ _ _ _ _).from (Nat.le_of_lt hn1)) (hI.put5 hlt _ _ _ _ _) (((Kp.of_below hB1).trans hK).put5 (Nat.le_refl _) _ _ _ _ _)
theorem rule_one {r:Rdr} {w w1 w9:World} {n:Nat} {k:Nat} {nm:Bs} {ns:List Bs} {p:Nat} {a:Tr} {vn a0 a1 a2 a3 a4:Value} {R:Ts} {X:Rs Tr} (hX:X=.ok (.mk k nm [a] ns p) R) (hB1:Below w.heap.size w w1) (hn:n=w.heap.size) (hn1:n<w1.heap.size) (hI:r.In w9 R) (hlt:r.b<n) (hK:Kp r.b w1 w9)
  (ha:TrIn (From w1.heap.size) w9 a (.agg #[a0,a1,a2,a3,a4])) (hm:NmIn (From w1.heap.size) w9 ns vn) (u0 u1 u2 u3 u4:Value) :
  Out r w (TrV w.heap.size) X (.returned (.agg #[.int .i64 (k:Nat),.string (bs nm),.slice (some ⟨w9.heap.size,0,none⟩) 1 1,vn,.int .i64 (p:Nat)])) (pu5 (w9.alloc (.cells #[a0,a1,a2,a3,a4] 26)) n u0 u1 u2 u3 u4):=by
 have hal:=below_alloc w9 (.cells #[a0,a1,a2,a3,a4] 26)
 exact rule_end hX hB1 hn hn1 (hI.below hal) hlt (hK.alloc _) (TrIn.one k nm ns p (ha.blw hal) (hm.blw hal) hK.size (by simp) (fun j x hj=>new_cell _ _ _ _ j x rfl hj)) u0 u1 u2 u3 u4
theorem rule_bad {r:Rdr} {w w1 w8 w9:World} {X:Rs Tr} {p x:Nat} {val:Tr→World→Value→Prop} (hX:X=.bad p x) (hB1:Below w.heap.size w w1) (hK:Kp r.b w1 w8) (hlt:r.b<w.heap.size) (hb:Below r.b w8 w9):Out r w val X (.panicked [flt p x]) w9 :=
 Out.bad_of hX (((hB1.mono (Nat.le_of_lt hlt)).trans (hK.below (Nat.le_trans (Nat.le_of_lt hlt) hB1.size))).trans hb)
theorem castS (l:Nat):(((l+1:Nat)):Int)=(l:Int) + 1:=by omega
theorem enterU_ok {e l:Nat} {S:List Bs} {R R':Ts} {a:Unit} (h:enterU e l S R=.ok a R'):R'=R∧l≤200:=by
 unfold enterU wrongP at h
 split at h
 ·split at h
  ·cases h
  ·cases h;exact⟨rfl,by omega⟩
 ·cases h
end Go.Proofs.YtahnbigkdfmpbaaGreatDoor
