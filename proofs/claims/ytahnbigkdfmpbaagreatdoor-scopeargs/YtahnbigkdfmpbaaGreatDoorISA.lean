/- Trees of any kind in memory: what they are, and what keeps them. What the small functions of show tell: letters, digits, names, trees without a name. What the rules of show tell: which trees may be; the functions that are handed rules. Rows of parts by rules: are, all. -/
import Derived.Test.YtahnbigkdfmpbaaGreatDoorILA
import Derived.Test.YtahnbigkdfmpbaaGreatDoorIMMath
import Derived.Deep.RegionWith
import Derived.Shelf.Abstract
set_option linter.unusedVariables false
set_option linter.unusedSimpArgs false
namespace Go.Proofs.YtahnbigkdfmpbaaGreatDoor
open Go.RowKit
def NmS (n:Nat) (w:World) (ns:List Bs) (v:Value):Prop :=
 ∃ a cap,v=.slice a ns.length cap∧ns.length≤cap∧∀ (j:Nat) (x:Bs),ns[j]? = some x→∃ g off,a=some ⟨g,off,none⟩∧g<n∧w.cell? ⟨g,off+j,none⟩=some (.string (bs x))
def KdP (n:Nat) (w:World) (P:Sx→Value→Prop) (kids:List Sx) (a:Option Addr):Prop :=
 ∀ (j:Nat) (x:Sx),kids[j]? = some x→∃ g off u0 u1 u2 u3 u4,a=some ⟨g,off,none⟩∧g<n∧P x (.agg #[u0,u1,u2,u3,u4])∧w.cell? ⟨g,off+j*5,none⟩=some u0∧w.cell? ⟨g,off+j*5+1,none⟩=some u1∧w.cell? ⟨g,off+j*5+2,none⟩=some u2∧w.cell? ⟨g,off+j*5+3,none⟩=some u3∧w.cell? ⟨g,off+j*5+4,none⟩=some u4
def SxCl (n:Nat) (w:World) (P:Sx→Value→Prop):Prop :=
 ∀ (k:Int) (nm:Bs) (kids:List Sx) (ns:List Bs) (p:Int) (vn:Value) (a:Option Addr) (cap:Nat),NmS n w ns vn→KdP n w P kids a→P (.mk k nm kids ns p) (.agg #[.int .i64 k,.string (bs nm),.slice a kids.length cap,vn,.int .i64 p])
def SxIn (n:Nat) (w:World) (t:Sx) (v:Value):Prop:=∀ P:Sx→Value→Prop,SxCl n w P→P t v
theorem KdP.mono {n:Nat} {w:World} {P Q:Sx→Value→Prop} {kids:List Sx} {a:Option Addr} (h:KdP n w P kids a) (hq:∀ x v,P x v→Q x v):KdP n w Q kids a:=by
 intro j x hx
 obtain⟨g,off,u0,u1,u2,u3,u4,h1,h2,h3,h4⟩:=h j x hx
 exact⟨g,off,u0,u1,u2,u3,u4,h1,h2,hq _ _ h3,h4⟩
theorem SxIn.mk {n:Nat} {w:World} (k:Int) (nm:Bs) (kids:List Sx) (ns:List Bs) (p:Int) (vn:Value) (a:Option Addr) (cap:Nat) (h1:NmS n w ns vn) (h2:KdP n w (SxIn n w) kids a) :
  SxIn n w (.mk k nm kids ns p) (.agg #[.int .i64 k,.string (bs nm),.slice a kids.length cap,vn,.int .i64 p]) :=
 fun P h=>h k nm kids ns p vn a cap h1 (h2.mono fun x v hx=>hx P h)
def SxTop (n:Nat) (w:World) (t:Sx) (v:Value):Prop :=
 ∃ a cap na nc,v=.agg #[.int .i64 t.kind,.string (bs t.name),.slice a t.kids.length cap,.slice na t.names.length nc,.int .i64 t.at_]∧NmS n w t.names (.slice na t.names.length nc)∧KdP n w (SxIn n w) t.kids a
theorem SxIn.form {n:Nat} {w:World} {t:Sx} {v:Value} (h:SxIn n w t v):SxTop n w t v:=by
 have h2:=h (fun t v=>SxIn n w t v∧SxTop n w t v) (fun k nm kids ns p vn a cap hn hk=>by
  refine⟨.mk k nm kids ns p vn a cap hn (hk.mono fun _ _ h=>h.1),?_⟩
  obtain⟨na,nc,rfl,hn2⟩:=hn
  exact⟨a,cap,na,nc,rfl,⟨na,nc,rfl,hn2⟩,hk.mono fun _ _ h=>h.1⟩)
 exact h2.2
theorem NmS.keep {n:Nat} {w w':World} {ns:List Bs} {v:Value} (h:NmS n w ns v) (hb:Below n w w'):NmS n w' ns v:=by
 obtain⟨a,cap,rfl,hc,h⟩:=h
 refine⟨a,cap,rfl,hc,fun j x hx=>?_⟩
 obtain⟨g,off,h1,h2,h3⟩:=h j x hx
 exact⟨g,off,h1,h2,(hb.cell (p:=⟨g,off+j,none⟩) h2).trans h3⟩
theorem KdP.keep {n:Nat} {w w':World} {P:Sx→Value→Prop} {kids:List Sx} {a:Option Addr} (h:KdP n w P kids a) (hb:Below n w w'):KdP n w' P kids a:=by
 intro j x hx
 obtain⟨g,off,u0,u1,u2,u3,u4,h1,h2,h3,c0,c1,c2,c3,c4⟩:=h j x hx
 exact⟨g,off,u0,u1,u2,u3,u4,h1,h2,h3,(hb.cell (p:=⟨g,off+j*5,none⟩) h2).trans c0,(hb.cell (p:=⟨g,off+j*5+1,none⟩) h2).trans c1,(hb.cell (p:=⟨g,off+j*5+2,none⟩) h2).trans c2,(hb.cell (p:=⟨g,off+j*5+3,none⟩) h2).trans c3,(hb.cell (p:=⟨g,off+j*5+4,none⟩) h2).trans c4⟩
theorem SxIn.keep {n:Nat} {w w':World} {t:Sx} {v:Value} (h:SxIn n w t v) (hb:Below n w w'):SxIn n w' t v :=
 h (SxIn n w') fun k nm kids ns p vn a cap hn hk=>.mk k nm kids ns p vn a cap (hn.keep hb) (hk.keep hb)
theorem NmS.up {n m:Nat} {w:World} {ns:List Bs} {v:Value} (h:NmS n w ns v) (hm:n≤m):NmS m w ns v:=by
 obtain⟨a,cap,rfl,hc,h⟩:=h
 refine⟨a,cap,rfl,hc,fun j x hx=>?_⟩
 obtain⟨g,off,h1,h2,h3⟩:=h j x hx
 exact⟨g,off,h1,by omega,h3⟩
theorem KdP.up {n m:Nat} {w:World} {P:Sx→Value→Prop} {kids:List Sx} {a:Option Addr} (h:KdP n w P kids a) (hm:n≤m):KdP m w P kids a:=by
 intro j x hx
 obtain⟨g,off,u0,u1,u2,u3,u4,h1,h2,h3,h4⟩:=h j x hx
 exact⟨g,off,u0,u1,u2,u3,u4,h1,by omega,h3,h4⟩
theorem SxIn.up {n m:Nat} {w:World} {t:Sx} {v:Value} (h:SxIn n w t v) (hm:n≤m):SxIn m w t v :=
 h (SxIn m w) fun k nm kids ns p vn a cap hn hk=>.mk k nm kids ns p vn a cap (hn.up hm) (hk.up hm)
theorem KdP.at {n:Nat} {w:World} {kids:List Sx} {a:Option Addr} (h:KdP n w (SxIn n w) kids a) {j:Nat} {x:Sx} (hx:kids[j]? = some x) :
  ∃ g off ka kc na nc,a=some ⟨g,off,none⟩∧g<n∧SxIn n w x (.agg #[.int .i64 x.kind,.string (bs x.name),.slice ka x.kids.length kc,.slice na x.names.length nc,.int .i64 x.at_]) ∧
   w.cell? ⟨g,off+j*5,none⟩=some (.int .i64 x.kind)∧w.cell? ⟨g,off+j*5+1,none⟩=some (.string (bs x.name))∧w.cell? ⟨g,off+j*5+2,none⟩=some (.slice ka x.kids.length kc)∧w.cell? ⟨g,off+j*5+3,none⟩=some (.slice na x.names.length nc)∧w.cell? ⟨g,off+j*5+4,none⟩=some (.int .i64 x.at_):=by
 obtain⟨g,off,u0,u1,u2,u3,u4,h1,h2,h3,c0,c1,c2,c3,c4⟩:=h j x hx
 obtain⟨ka,kc,na,nc,e,_,_⟩:=h3.form
 injection e with e
 simp only [Array.mk.injEq,List.cons.injEq,and_true] at e
 obtain⟨rfl,rfl,rfl,rfl,rfl⟩:=e
 exact⟨g,off,ka,kc,na,nc,h1,h2,h3,c0,c1,c2,c3,c4⟩
def Bx (w:World) (x:Nat) (v0 v1 v2 v3 v4:Value):Prop:=w.heap[x]? = some (.cells #[v0,v1,v2,v3,v4] 26 (0,0))
theorem bx_new (w:World) (v0 v1 v2 v3 v4:Value):Bx (w.alloc (.cells #[v0,v1,v2,v3,v4] 26)) w.heap.size v0 v1 v2 v3 v4:=heap_alloc_new w _
theorem Bx.lt {x:Nat} {w:World} {v0 v1 v2 v3 v4:Value} (h:Bx w x v0 v1 v2 v3 v4):x<w.heap.size:=by
 rcases Nat.lt_or_ge x w.heap.size with h1|h1
 ·exact h1
 ·unfold Bx at h;rw [Array.getElem?_eq_none h1] at h;cases h
theorem Bx.blw {x:Nat} {w w':World} {v0 v1 v2 v3 v4:Value} (h:Bx w x v0 v1 v2 v3 v4) (hb:Below w.heap.size w w'):Bx w' x v0 v1 v2 v3 v4:=(hb.block x h.lt).trans h
theorem Bx.cells {w:World} {x:Nat} {v0 v1 v2 v3 v4:Value} (h:Bx w x v0 v1 v2 v3 v4):w.cell? ⟨x,0,none⟩=some v0∧w.cell? ⟨x,1,none⟩=some v1∧w.cell? ⟨x,2,none⟩=some v2∧w.cell? ⟨x,3,none⟩=some v3∧w.cell? ⟨x,4,none⟩=some v4:=by
 unfold Bx at h
 refine⟨?_,?_,?_,?_,?_⟩ <;> simp [World.cell?,h]
theorem someS {α:Type} {l:List α} {k:Nat} (h:k<l.length):∃ c,l[k]? = some c:=⟨l[k],List.getElem?_eq_getElem h⟩
theorem bs_beqS (a b:Bs):((bs a).toList == b)=decide (a=b):=by
 rw [Lib.toList_data,tl_def,tl_bs,Bool.eq_iff_iff];simp
end Go.Proofs.YtahnbigkdfmpbaaGreatDoor
namespace Go.Proofs.YtahnbigkdfmpbaaGreatDoor
open Go.RowKit
set_option maxHeartbeats 400000 in
theorem sLetter_any (c:UInt8) (w:World):Calls Tryz.prog 108 #[.int .u8 (c.toNat:Int)] w fun e w'=>e=.returned (.bool (letterB c))∧w'=w:=by
 have hb:letterB c=decide ((97≤c.toNat∧c.toNat≤122)∨(65≤c.toNat∧c.toNat≤90)∨c.toNat=95):=rfl
 have H:Hid (_=_):=hb
 clear hb
 generalize letterB c=r at *
 generalize c.toNat=x at *
 go_enter Tryz.func108,Tryz.ntmps108
 go_wp2
 all_goals
  go_ret
  exact⟨ret_bool (by rw [H.out,Bool.eq_iff_iff];simp;omega),rfl⟩
theorem sDigit_any (s:Bs) (w:World):Calls Tryz.prog 91 #[.string (bs s)] w fun e w'=>e=.returned (.bool (digB s))∧w'=w:=by
 have h1:((bs s).toList == [48])=decide (s=[48]):=bs_beqS s _
 have h2:((bs s).toList == [49])=decide (s=[49]):=bs_beqS s _
 have H:Hid (digB s=(decide (s=[48]) || decide (s=[49]))):=rfl
 generalize digB s=r at *
 by_cases e1:s=[48]
 ·rw [decide_eq_true e1] at h1 H
  generalize bs s=X at *
  go_enter Tryz.func91,Tryz.ntmps91
  go_wp2
  go_ret
  exact⟨ret_bool H.out.symm,rfl⟩
 ·rw [decide_eq_false e1] at h1 H
  generalize decide (s=[49])=q at *
  generalize bs s=X at *
  clear e1
  go_enter Tryz.func91,Tryz.ntmps91
  go_wp2
  go_ret
  exact⟨ret_bool H.out.symm,rfl⟩
def charB (k:Nat) (c:UInt8):Bool:=letterB c || (decide (k≠0) && digitB c)
def restB (k:Nat) (l:Bs):Bool:=match l with | []=>true | c :: t=>charB k c && t.all (fun c=>letterB c || digitB c)
theorem restB_all {k:Nat} (hk:k≠0) (l:Bs):restB k l=l.all (fun c=>letterB c || digitB c):=by
 cases l with
 | nil=>rfl
 | cons c t=>simp [restB,charB,hk]
theorem restB_step {s:ByteArray} {k:Nat} (h:k<s.size):restB k ((tl s).drop k)=(charB k s[k] && restB (k+1) ((tl s).drop (k+1))):=by
 rw [tl_drop s k h,restB_all (k:=k+1) (by omega)];rfl
theorem nameB_rest (s:Bs):nameB s=(decide (s≠[]) && restB 0 s):=by
 cases s with
 | nil=>rfl
 | cons c t=>simp [nameB,restB,charB]
theorem tl_nil (s:ByteArray):(!s.toList.isEmpty)=decide (tl s≠[]):=by
 rw [Lib.toList_data,tl_def]
 cases tl s <;> rfl
theorem bs_nil (s:Bs):(bs s).toList.isEmpty=decide (s=[]):=by
 rw [Lib.toList_data,tl_def,tl_bs]
 cases s <;> rfl
set_option maxRecDepth 100000 in
set_option maxHeartbeats 2000000 in
theorem sNameA_any (s:ByteArray) (w:World) (hs:s.size≤1000000):Calls Tryz.prog 90 #[.string s] w fun e w'=>e=.returned (.bool (nameB (tl s)))∧w'=w:=by
 have h1:=tl_nil s
 obtain⟨r,hr⟩:∃ r,nameB (tl s)=r:=⟨_,rfl⟩
 rw [hr]
 have H0:Hid ((decide (tl s≠[]) && restB 0 ((tl s).drop 0))=r):=by rw [← hr];exact (nameB_rest _).symm
 have hpos:Hid (0<s.size→decide (tl s≠[])=true):=fun h=>by
  apply decide_eq_true
  intro e
  have:=tl_len s
  rw [e] at this
  simp at this
  omega
 have hzero:Hid (0=s.size→decide (tl s≠[])=false):=fun h=>by
  apply decide_eq_false
  have:=tl_len s
  have e:tl s=[]:=List.length_eq_zero_iff.1 (by omega)
  simp [e]
 generalize decide (tl s≠[])=q at *
 clear hr
 go_enter Tryz.func90,Tryz.ntmps90
 go_wp2
 go_loop [6] (fun i=>∃ k:Nat,k≤s.size∧i=.int .i64 k∧Hid ((q && restB k ((tl s).drop k))=r)) (fun i=>s.size - (intOf i).toNat)
 case atStart=>exact⟨0,Nat.zero_le _,rfl,H0⟩
 case round =>
  obtain⟨k,hk,rfl,HK⟩:=hrel
  by_cases hlt:k<s.size
  ·obtain rfl:q=true:=hpos.out (by omega)
   have hst:=restB_step hlt
   obtain⟨lb,hlb⟩:∃ r,letterB s[k]=r:=⟨_,rfl⟩
   have c1:=fun w=>sLetter_any s[k] w
   simp only [hlb] at c1
   have HS:Hid ((lb=true∨(k≠0∧¬ s[k].toNat<48∧¬ 57<s[k].toNat))→(true && restB (k+1) ((tl s).drop (k+1)))=r):=fun h=>by
    have h2:=HK.out
    rw [hst] at h2
    have:charB k s[k]=true:=by
     unfold charB
     rw [hlb]
     rcases h with h|⟨h3,h4,h5⟩
     ·rw [h];rfl
     ·have:digitB s[k]=true:=by unfold digitB;exact decide_eq_true (by omega)
      simp [h3,this]
    rw [this] at h2
    exact h2
   have HE:Hid ((lb=false∧(k=0∨s[k].toNat<48∨57<s[k].toNat))→false=r):=fun h=>by
    have h2:=HK.out
    rw [hst] at h2
    have:charB k s[k]=false:=by
     unfold charB
     rw [hlb,h.1]
     rcases h.2 with h3|h3
     ·simp [h3]
     ·have:digitB s[k]=false:=by unfold digitB;exact decide_eq_false (by omega)
      simp [this]
    rw [this] at h2
    exact h2
   clear HK hst hlb H0 hpos hzero
   generalize hx:s[k].toNat=x at HS HE
   have Hx:Hid (_=_):=hx
   cases lb
   ·by_cases hk0:k=0
    ·subst hk0
     clear hx
     go_wp2_with (go_at_call 108;refine (c1 _).mono ?_;rintro e w' ⟨rfl,hw⟩;rw [hw])
     go_ret
     exact⟨ret_bool (HE.out (by simp)),rfl⟩
    ·have hk1:((k:Int) == 0)=false:=by simp;omega
     by_cases h48:x<48
     ·have h48':decide ((s[k].toNat:Int) < 48)=true:=decide_eq_true (by omega)
      clear hx
      go_wp2_with (go_at_call 108;refine (c1 _).mono ?_;rintro e w' ⟨rfl,hw⟩;rw [hw])
      go_ret
      exact⟨ret_bool (HE.out (by simp [h48])),rfl⟩
     ·have h48':decide ((s[k].toNat:Int) < 48)=false:=decide_eq_false (by omega)
      by_cases h57:57<x
      ·have h57':decide ((57:Int) < (s[k].toNat:Int))=true:=decide_eq_true (by omega)
       clear hx
       go_wp2_with (go_at_call 108;refine (c1 _).mono ?_;rintro e w' ⟨rfl,hw⟩;rw [hw])
       go_ret
       exact⟨ret_bool (HE.out (by simp [h57])),rfl⟩
      ·have h57':decide ((57:Int) < (s[k].toNat:Int))=false:=decide_eq_false (by omega)
       clear hx
       go_wp2_with (go_at_call 108;refine (c1 _).mono ?_;rintro e w' ⟨rfl,hw⟩;rw [hw])
       go_round
       case rel=>exact⟨k+1,by omega,by go_num,HS.out (.inr ⟨hk0,h48,h57⟩)⟩
       case measure=>simp [intOf];omega
   ·clear hx
    go_wp2_with (go_at_call 108;refine (c1 _).mono ?_;rintro e w' ⟨rfl,hw⟩;rw [hw])
    go_round
    case rel=>exact⟨k+1,by omega,by go_num,HS.out (by simp)⟩
    case measure=>simp [intOf];omega
  ·have hR:Hid (q=r):=by
    have h2:=HK.out
    have:(tl s).drop k=[]:=List.drop_of_length_le (by rw [tl_len];omega)
    rw [this] at h2
    simp [restB] at h2
    exact h2
   have h3:Hid (_=_):=h1
   clear HK h1
   go_wp2
   go_ret
   exact⟨ret_bool (h3.out.trans hR.out),rfl⟩
theorem sName_any (s:Bs) (w:World) (hs:s.length≤1000000):Calls Tryz.prog 90 #[.string (bs s)] w fun e w'=>e=.returned (.bool (nameB s))∧w'=w:=by
 have h:=sNameA_any (bs s) w (by rw [bs_size];exact hs)
 rw [tl_bs] at h
 exact h
end Go.Proofs.YtahnbigkdfmpbaaGreatDoor
namespace Go.Proofs.YtahnbigkdfmpbaaGreatDoor
open Go.RowKit
theorem len_nil {α:Type} [DecidableEq α] (l:List α):((l.length:Int) == 0)=decide (l=[]):=by rw [Bool.eq_iff_iff];simp
theorem len_nilS (l:List Sx):((l.length:Int) == 0)=l.isEmpty:=by cases l <;> rfl
set_option maxRecDepth 100000 in
theorem sNameless_any (n:Nat) (w:World) (t:Sx) (v:Value) (h:SxIn n w t v):Calls Tryz.prog 69 #[v] w fun e w'=>e=.returned (.bool (namelessB t))∧Below w.heap.size w w':=by
 obtain⟨ka,kc,na,nc,rfl,_,_⟩:=h.form
 have e1:=bs_nil t.name
 have e2:=len_nil t.names
 have hal:=below_alloc w (.cells #[.int .i64 t.kind,.string (bs t.name),.slice ka t.kids.length kc,.slice na t.names.length nc,.int .i64 t.at_] 26)
 have H:Hid (namelessB t=(decide (t.name=[]) && decide (t.names=[]))):=rfl
 generalize namelessB t=r at *
 generalize decide (t.names=[])=q2 at *
 generalize bs t.name=X at *
 generalize t.names.length=M at *
 generalize t.kids.length=L at *
 cases hq:decide (t.name=[])
 all_goals
  rw [hq] at e1 H
  clear hq
  go_enter Tryz.func69,Tryz.ntmps69
  go_wp2
  go_ret
  exact⟨ret_bool (by rw [H.out];first | rfl | exact e2),hal⟩
set_option maxRecDepth 100000 in
theorem sNameTree_any (n:Nat) (w:World) (t:Sx) (v:Value) (h:SxIn n w t v) (hb:blk t≤1000000):Calls Tryz.prog 66 #[v] w fun e w'=>e=.returned (.bool (nameTreeB t))∧Below w.heap.size w w':=by
 obtain⟨ka,kc,na,nc,rfl,_,_⟩:=h.form
 have c1:=fun w=>sName_any t.name w (by have:=blk_name t;omega)
 have e2:=len_nil t.names
 have e3:=len_nilS t.kids
 have hal:=below_alloc w (.cells #[.int .i64 t.kind,.string (bs t.name),.slice ka t.kids.length kc,.slice na t.names.length nc,.int .i64 t.at_] 26)
 have H:Hid (nameTreeB t=(nameB t.name && (decide (t.names=[]) && t.kids.isEmpty))):=by
  have:decide (t.kids=[])=t.kids.isEmpty:=by cases t.kids <;> rfl
  rw [← this];rfl
 generalize nameTreeB t=r at *
 generalize bs t.name=X at *
 generalize t.names.length=M at *
 generalize t.kids.length=L at *
 generalize t.kids.isEmpty=q3 at *
 generalize nameB t.name=q1 at *
 cases q1
 ·go_enter Tryz.func66,Tryz.ntmps66
  go_wp2_with (go_at_call 90;refine (c1 _).mono ?_;rintro e w' ⟨rfl,hw⟩;rw [hw])
  go_ret
  exact⟨ret_bool (by rw [H.out];rfl),hal⟩
 ·cases hq:decide (t.names=[])
  all_goals
   rw [hq] at e2 H
   clear hq
   go_enter Tryz.func66,Tryz.ntmps66
   go_wp2_with (go_at_call 90;refine (c1 _).mono ?_;rintro e w' ⟨rfl,hw⟩;rw [hw])
   go_ret
   exact⟨ret_bool (by rw [H.out];first | rfl | exact e3),hal⟩
theorem NmS.at {n:Nat} {w:World} {ns:List Bs} {a:Option Addr} {m cap:Nat} (h:NmS n w ns (.slice a m cap)) {j:Nat} {x:Bs} (hx:ns[j]? = some x):∃ g off,a=some ⟨g,off,none⟩∧g<n∧w.cell? ⟨g,off+j,none⟩=some (.string (bs x)):=by
 obtain⟨a',cap',e,_,h⟩:=h
 cases e
 exact h j x hx
theorem NmS.room {n:Nat} {w:World} {ns:List Bs} {a:Option Addr} {m cap:Nat} (h:NmS n w ns (.slice a m cap)):m≤cap:=by
 obtain⟨a',cap',e,hc,_⟩:=h
 cases e
 exact hc
theorem all_drop {α:Type} {l:List α} {k:Nat} {x:α} (f:α→Bool) (h:l[k]? = some x):(l.drop k).all f=(f x && (l.drop (k+1)).all f):=by
 obtain⟨hlt,e⟩:=List.getElem?_eq_some_iff.1 h
 rw [List.drop_eq_getElem_cons hlt,e,List.all_cons]
set_option maxRecDepth 100000 in
set_option maxHeartbeats 1000000 in
theorem areNames_any (n:Nat) (w:World) (ns:List Bs) (v:Value) (h:NmS n w ns v) (hn:n≤w.heap.size) (hb:ns.length≤1000000) (hc:∀ x∈ns,x.length≤1000000):Calls Tryz.prog 67 #[v] w fun e w'=>e=.returned (.bool (ns.all nameB))∧Below w.heap.size w w':=by
 obtain⟨a,cap,rfl⟩:∃ a cap,v=.slice a ns.length cap:=let ⟨a,cap,e,_⟩:=h;⟨a,cap,e⟩
 obtain⟨L,hL⟩:∃ L,L=ns.length:=⟨_,rfl⟩
 have HL:Hid (L=ns.length):=hL
 rw [← hL] at h hb ⊢
 clear hL
 have HN:Hid (NmS n w ns (.slice a L cap)):=h
 clear h
 obtain⟨r,hr⟩:∃ r,ns.all nameB=r:=⟨_,rfl⟩
 rw [hr]
 have H0:Hid ((ns.drop 0).all nameB=r):=hr
 clear hr
 go_enter Tryz.func67,Tryz.ntmps67
 go_wp2
 go_loopw [7] (fun i wr=>∃ k:Nat,k≤L∧i=.int .i64 k∧Hid ((ns.drop k).all nameB=r)∧Below w.heap.size w wr) (fun i _=>L - (intOf i).toNat)
 case atStart=>exact⟨0,Nat.zero_le _,rfl,H0,Below.refl _ _⟩
 case round =>
  obtain⟨k,hk,rfl,HK,hB⟩:=hrel
  clear H0
  by_cases hlt:k<L
  ·obtain⟨x,hx⟩:=someS (l:=ns) (k:=k) (by rw [← HL.out];exact hlt)
   obtain⟨g,off,rfl,hg,c0⟩:=HN.out.at hx
   have c0':=(hB.cell (p:=⟨g,off+k,none⟩) (by show g<_;omega)).trans c0
   have cN:=fun w=>sName_any x w (hc x (List.mem_of_getElem? hx))
   have HS:Hid (((nameB x) && (ns.drop (k+1)).all nameB)=r):=by rw [← HK.out];exact (all_drop _ hx).symm
   clear HK c0 hx
   generalize bs x=X at *
   generalize nameB x=q at *
   cases q
   ·go_wp2_with (go_at_call 90;refine (cN _).mono ?_;rintro e w' ⟨rfl,hw⟩;rw [hw])
    go_ret
    exact⟨ret_bool (by have:=HS.out;simpa using this),hB⟩
   ·go_wp2_with (go_at_call 90;refine (cN _).mono ?_;rintro e w' ⟨rfl,hw⟩;rw [hw])
    go_roundw
    case rel=>exact⟨k+1,by omega,by go_num,(by have:=HS.out;simpa using this:(ns.drop (k+1)).all nameB=r),hB⟩
    case measure=>simp [intOf];omega
  ·have hR:Hid (true=r):=by
    have h:=HK.out
    rw [List.drop_of_length_le (by rw [← HL.out];omega)] at h
    exact h
   clear HK
   go_wp2
   go_ret
   exact⟨ret_bool hR.out,hB⟩
def fidOf (g:Nat):Nat:=if g=0 then 43 else if g=1 then 70 else if g=2 then 72 else if g=3 then 92 else 109
def fv (g:Nat):Value:=.func (.func (fidOf g)) #[] #[]
theorem eg_of (g:Nat) (hg:g<5):∀ args w,(callFunc (fidOf g) args).run Tryz.prog w=.ok (.enter (fidOf g) args) w:=by
 rcases (show g=0∨g=1∨g=2∨g=3∨g=4 by omega) with rfl|rfl|rfl|rfl|rfl
 ·exact enters_of Tryz.func43 (by kernel_rfl) rfl
 ·exact enters_of Tryz.func70 (by kernel_rfl) rfl
 ·exact enters_of Tryz.func72 (by kernel_rfl) rfl
 ·exact enters_of Tryz.func92 (by kernel_rfl) rfl
 ·exact enters_of Tryz.func109 (by kernel_rfl) rfl
def RuleS (f:Nat):Prop:=∀ (g n d:Nat) (t:Sx) (v:Value) (w:World),g<5→d+f=65537→1≤f→SxIn n w t v→n≤w.heap.size→blk t≤1000000 →
 Calls Tryz.prog (fidOf g) #[v,.int .i64 (d:Nat)] w fun e w'=>e=.returned (.bool (okF f g t))∧Below w.heap.size w w'
set_option maxRecDepth 100000 in
set_option maxHeartbeats 1000000 in
theorem fits_any (f:Nat) (hR:RuleS f) (g n d:Nat) (t:Sx) (v:Value) (w:World) (hg:g<5) (hd:d+f=65537) (h:SxIn n w t v) (hn:n≤w.heap.size) (hb:blk t≤1000000) :
  Calls Tryz.prog 42 #[v,fv g,.int .i64 (d:Nat)] w fun e w'=>e=.returned (.bool (okF f g t))∧Below w.heap.size w w':=by
 obtain⟨ka,kc,na,nc,rfl,_,_⟩:=h.form
 have hal:=below_alloc w (.cells #[.int .i64 t.kind,.string (bs t.name),.slice ka t.kids.length kc,.slice na t.names.length nc,.int .i64 t.at_] 26)
 by_cases hf:1≤f
 ·have eg:=eg_of g hg
  have c:=hR g n d t _ (w.alloc (.cells #[.int .i64 t.kind,.string (bs t.name),.slice ka t.kids.length kc,.slice na t.names.length nc,.int .i64 t.at_] 26)) hg hd hf (h.keep (hal.mono hn)) (Nat.le_trans hn hal.size) hb
  have e1:decide ((d:Int)≤65536)=true:=decide_eq_true (by omega)
  unfold fv
  generalize fidOf g=fid at *
  clear hR h hd hf hb
  go_enter Tryz.func42,Tryz.ntmps42
  go_wp2_with fail
  refine c.mono ?_
  rintro e w' ⟨rfl,hb2⟩
  go_wp2_with fail
  go_ret
  exact⟨rfl,chain hal hb2⟩
 ·obtain rfl:f=0:=by omega
  rw [okF_z]
  have e1:decide ((d:Int)≤65536)=false:=decide_eq_false (by omega)
  clear hd hR hf
  unfold fv
  go_enter Tryz.func42,Tryz.ntmps42
  go_wp2
  go_ret
  exact⟨rfl,hal⟩
end Go.Proofs.YtahnbigkdfmpbaaGreatDoor
namespace Go.Proofs.YtahnbigkdfmpbaaGreatDoor
open Go.RowKit
theorem are_len {ok:Nat→Sx→Bool} {l:List Sx} {gs:List Nat} (h:l.length≠gs.length):areB ok l gs=false:=by
 induction l generalizing gs with
 | nil=>cases gs with
  | nil=>exact absurd rfl h
  | cons g gs=>rfl
 | cons x l ih=>cases gs with
  | nil=>rfl
  | cons g gs=>rw [areB,ih (by simpa using h),Bool.and_false]
theorem are_drop {ok:Nat→Sx→Bool} {l:List Sx} {gs:List Nat} {k:Nat} {x:Sx} {g:Nat} (h:l[k]? = some x) (hg:gs[k]? = some g):areB ok (l.drop k) (gs.drop k)=(ok g x && areB ok (l.drop (k+1)) (gs.drop (k+1))):=by
 obtain⟨hlt,e⟩:=List.getElem?_eq_some_iff.1 h
 obtain⟨hlt2,e2⟩:=List.getElem?_eq_some_iff.1 hg
 rw [List.drop_eq_getElem_cons hlt,List.drop_eq_getElem_cons hlt2,e,e2];rfl
set_option maxRecDepth 100000 in
set_option maxHeartbeats 2000000 in
theorem are_any (f:Nat) (hR:RuleS f) (gs:List Nat) (hgs:∀ g∈gs,g<5) (n d:Nat) (kids:List Sx) (ka:Option Addr) (kc rb rc:Nat) (w:World) (hd:d+1+f=65537) (hK:KdP n w (SxIn n w) kids ka) (hn:n≤w.heap.size)
  (hkl:kids.length≤1000000) (hgl:gs.length≤100) (hb:∀ x∈kids,blk x≤1000000) (hrb:rb<w.heap.size) (hrc:∀ (j g:Nat),gs[j]? = some g→w.cell? ⟨rb,j,none⟩=some (fv g)) :
  Calls Tryz.prog 68 #[.slice ka kids.length kc,.int .i64 (d:Nat),.slice (some ⟨rb,0,none⟩) gs.length rc] w fun e w'=>e=.returned (.bool (areB (okF f) kids gs))∧Below w.heap.size w w':=by
 by_cases hlen:kids.length=gs.length
 ·obtain⟨L,hL⟩:∃ L,L=kids.length:=⟨_,rfl⟩
  have HL:Hid (L=kids.length∧L=gs.length):=⟨hL,hL.trans hlen⟩
  rw [← hlen,← hL]
  rw [← hL] at hkl
  clear hL hlen
  obtain⟨r,hr⟩:∃ r,areB (okF f) kids gs=r:=⟨_,rfl⟩
  rw [hr]
  have H0:Hid (areB (okF f) (kids.drop 0) (gs.drop 0)=r):=hr
  clear hr
  have HK0:Hid (KdP n w (SxIn n w) kids ka):=hK
  have HB:Hid (∀ x∈kids,blk x≤1000000):=hb
  have HR:Hid (RuleS f):=hR
  have HC:Hid (∀ (j g:Nat),gs[j]? = some g→w.cell? ⟨rb,j,none⟩=some (fv g)):=hrc
  have HG:Hid (∀ g∈gs,g<5):=hgs
  clear hK hb hR hrc hgs hgl
  go_enter Tryz.func68,Tryz.ntmps68
  go_wp2
  go_loopw [16] (fun i wr=>∃ k:Nat,k≤L∧i=.int .i64 k∧Hid (areB (okF f) (kids.drop k) (gs.drop k)=r)∧Below w.heap.size w wr) (fun i _=>L - (intOf i).toNat)
  case atStart=>exact⟨0,Nat.zero_le _,rfl,H0,Below.refl _ _⟩
  case round =>
   obtain⟨k,hk,rfl,HK,hB⟩:=hrel
   clear H0
   by_cases hlt:k<L
   ·obtain⟨x,hx⟩:=someS (l:=kids) (k:=k) (by rw [← HL.out.1];exact hlt)
    obtain⟨g,hg⟩:=someS (l:=gs) (k:=k) (by rw [← HL.out.2];exact hlt)
    have HKb:=HK0.out.keep (hB.mono hn)
    obtain⟨q,off,ka',kc',na,nc,rfl,hq,hxx,c0,c1,c2,c3,c4⟩:=(show KdP n wr (SxIn n wr) kids ka from HKb.mono fun _ _ h=>h.keep (hB.mono hn)).at hx
    have cr:=(hB.cell (p:=⟨rb,k,none⟩) hrb).trans (HC.out k g hg)
    have cF:=fits_any f HR.out g n (d+1) x _ wr (HG.out g (List.mem_of_getElem? hg)) hd hxx (Nat.le_trans hn hB.size) (HB.out x (List.mem_of_getElem? hx))
    rw [show ((d+1:Nat):Int)=(d:Int) + 1 by omega] at cF
    have HS:Hid ((okF f g x && areB (okF f) (kids.drop (k+1)) (gs.drop (k+1)))=r):=by rw [← HK.out];exact (are_drop hx hg).symm
    clear HK hx hg hxx HKb
    unfold fv at *
    generalize fidOf g=fid at *
    generalize okF f g x=q at *
    generalize bs x.name=X at *
    cases q
    ·go_wp2_with fail
     refine cF.mono ?_
     rintro e w' ⟨rfl,hb2⟩
     go_wp2_with fail
     go_ret
     exact⟨ret_bool (by have:=HS.out;simpa using this),chain hB hb2⟩
    ·go_wp2_with fail
     refine cF.mono ?_
     rintro e w' ⟨rfl,hb2⟩
     go_wp2_with fail
     go_roundw
     case rel=>exact⟨k+1,by omega,by go_num,(by have:=HS.out;simpa using this:areB (okF f) (kids.drop (k+1)) (gs.drop (k+1))=r),chain hB hb2⟩
     case measure=>simp [intOf];omega
   ·have hR:Hid (true=r):=by
     have h:=HK.out
     rw [List.drop_of_length_le (by rw [← HL.out.1];omega),List.drop_of_length_le (by rw [← HL.out.2];omega)] at h
     exact h
    clear HK
    go_wp2
    go_ret
    exact⟨ret_bool hR.out,hB⟩
 ·rw [are_len hlen]
  have e1:((kids.length:Int) != (gs.length:Int))=true:=by simp only [bne_iff_ne];omega
  generalize kids.length=L at *
  generalize gs.length=M at *
  clear hlen
  go_enter Tryz.func68,Tryz.ntmps68
  go_wp2
  go_ret
  exact⟨rfl,Below.refl _ _⟩
set_option maxRecDepth 100000 in
set_option maxHeartbeats 2000000 in
theorem all_any (f:Nat) (hR:RuleS f) (g:Nat) (hg:g<5) (n d:Nat) (kids:List Sx) (ka:Option Addr) (kc:Nat) (w:World) (hd:d+1+f=65537) (hK:KdP n w (SxIn n w) kids ka) (hn:n≤w.heap.size)
  (hkl:kids.length≤1000000) (hb:∀ x∈kids,blk x≤1000000) :
  Calls Tryz.prog 71 #[.slice ka kids.length kc,.int .i64 (d:Nat),fv g] w fun e w'=>e=.returned (.bool (kids.all (okF f g)))∧Below w.heap.size w w':=by
 obtain⟨L,hL⟩:∃ L,L=kids.length:=⟨_,rfl⟩
 have HL:Hid (L=kids.length):=hL
 rw [← hL]
 rw [← hL] at hkl
 clear hL
 obtain⟨r,hr⟩:∃ r,kids.all (okF f g)=r:=⟨_,rfl⟩
 rw [hr]
 have H0:Hid ((kids.drop 0).all (okF f g)=r):=hr
 clear hr
 have HK0:Hid (KdP n w (SxIn n w) kids ka):=hK
 have HB:Hid (∀ x∈kids,blk x≤1000000):=hb
 have HR:Hid (RuleS f):=hR
 clear hK hb hR
 unfold fv
 go_enter Tryz.func71,Tryz.ntmps71
 go_wp2
 go_loopw [11] (fun i wr=>∃ k:Nat,k≤L∧i=.int .i64 k∧Hid ((kids.drop k).all (okF f g)=r)∧Below w.heap.size w wr) (fun i _=>L - (intOf i).toNat)
 case atStart=>exact⟨0,Nat.zero_le _,rfl,H0,Below.refl _ _⟩
 case round =>
  obtain⟨k,hk,rfl,HK,hB⟩:=hrel
  clear H0
  by_cases hlt:k<L
  ·obtain⟨x,hx⟩:=someS (l:=kids) (k:=k) (by rw [← HL.out];exact hlt)
   have HKb:=HK0.out.keep (hB.mono hn)
   obtain⟨q,off,ka',kc',na,nc,rfl,hq,hxx,c0,c1,c2,c3,c4⟩:=(show KdP n wr (SxIn n wr) kids ka from HKb.mono fun _ _ h=>h.keep (hB.mono hn)).at hx
   have hal:=below_alloc wr (.cells #[.int .i64 x.kind,.string (bs x.name),.slice ka' x.kids.length kc',.slice na x.names.length nc,.int .i64 x.at_] 26)
   have hnw:=Nat.le_trans hn hB.size
   have cF:=fits_any f HR.out g n (d+1) x _ _ hg hd (hxx.keep (hal.mono hnw)) (Nat.le_trans hnw hal.size) (HB.out x (List.mem_of_getElem? hx))
   rw [show ((d+1:Nat):Int)=(d:Int) + 1 by omega] at cF
   have HS:Hid ((okF f g x && (kids.drop (k+1)).all (okF f g))=r):=by rw [← HK.out];exact (all_drop _ hx).symm
   clear HK hx hxx HKb
   unfold fv at cF
   generalize fidOf g=fid at *
   generalize okF f g x=q at *
   generalize bs x.name=X at *
   cases q
   ·go_wp2_with fail
    refine cF.mono ?_
    rintro e w' ⟨rfl,hb2⟩
    go_wp2_with fail
    go_ret
    exact⟨ret_bool (by have:=HS.out;simpa using this),chain (chain hB hal) hb2⟩
   ·go_wp2_with fail
    refine cF.mono ?_
    rintro e w' ⟨rfl,hb2⟩
    go_wp2_with fail
    go_roundw
    case rel=>exact⟨k+1,by omega,by go_num,(by have:=HS.out;simpa using this:(kids.drop (k+1)).all (okF f g)=r),chain (chain hB hal) hb2⟩
    case measure=>simp [intOf];omega
  ·have hR:Hid (true=r):=by
    have h:=HK.out
    rw [List.drop_of_length_le (by rw [← HL.out];omega)] at h
    exact h
   clear HK
   go_wp2
   go_ret
   exact⟨ret_bool hR.out,hB⟩
end Go.Proofs.YtahnbigkdfmpbaaGreatDoor
