/- Rows of what each element becomes. -/
import Derived.Laws.EntriesVeiled
import Derived.Laws.MakeOwn
import Derived.Deep.Cut
import Derived.Test.YtblbhmnahoiecaaGreatGG8
import Derived.Test.YtblbhmnahoiecaaGreatGG7
set_option linter.unusedVariables false
set_option linter.unusedSimpArgs false
set_option maxRecDepth 100000
set_option maxHeartbeats 4000000
namespace Go.Proofs.YtblbhmnahoiecaaGreat
open Go.RowKit
def atT (v:Value) (k:Nat) (p:Addr):Prop:=∃ g off n c,v=.slice (some ⟨g,off,none⟩) n c∧p=⟨g,off+k*6,none⟩
def atB (v:Value) (k:Nat) (p:Addr):Prop:=∃ g off n c,v=.slice (some ⟨g,off,none⟩) n c∧p=⟨g,off+k*2,none⟩
theorem lbecT_any (fid:FuncId) (caps:Array Value) (eg:∀ args w,(callFunc fid args).run Tryz.prog w=.ok (.enter fid args) w) (l res:List Tm) (ers:List Int) (hres:res.length=l.length) (hers:ers.length=l.length) (v:Value) (w:World) (hl:KdT Tt w (TmIn Tt w) l v) (hb:l.length≤100000)
  (hF:∀ (k:Nat) (x y:Tm) (e0:Int) (p:Addr) (W:World),l[k]? = some x→res[k]? = some y→ers[k]? = some e0→atT v k p→Below w.heap.size w W→Calls Tryz.prog fid (#[.int .i64 (k:Int),.pointer (some p)] ++ caps) W fun e w'=>LOut e0 (TmIn (OkN W.heap.size w') w' y) e∧Below W.heap.size W w') :
  Calls Tryz.prog 218 #[v,.func (.func fid) #[] caps] w fun e w'=>LOut (firstE ers) (fun v'=>KdT (OkN w.heap.size w') w' (TmIn (OkN w.heap.size w') w') res v') e∧Below w.heap.size w w':=by
 obtain⟨a,cap,rfl,_⟩:=id hl
 by_cases hz:l=[]
 ·subst hz
  obtain rfl:res=[]:=List.length_eq_zero_iff.1 hres
  obtain rfl:ers=[]:=List.length_eq_zero_iff.1 hers
  go_enter Tryz.func218,Tryz.ntmps218
  go_wp2
  go_ret
  exact⟨.ok firstE_nil (kt_nil _ _ _),Below.refl _ _⟩
 ·have hpos:0<l.length:=List.length_pos_iff.2 hz
  obtain⟨L,hL⟩:∃ L,L=l.length:=⟨_,rfl⟩
  have HL:Hid (L=l.length∧res.length=L∧ers.length=L):=⟨hL,by omega,by omega⟩
  have Hl:Hid (KdT Tt w (TmIn Tt w) l (.slice a L cap)):=by rw [hL];exact hl
  have HF:Hid (∀ (k:Nat) (x y:Tm) (e0:Int) (p:Addr) (W:World),l[k]? = some x→res[k]? = some y→ers[k]? = some e0→atT (.slice a L cap) k p→Below w.heap.size w W→Calls Tryz.prog fid (#[.int .i64 (k:Int),.pointer (some p)] ++ caps) W fun e w'=>LOut e0 (TmIn (OkN W.heap.size w') w' y) e∧Below W.heap.size W w'):=by rw [hL];exact hF
  rw [← hL] at hpos hb ⊢
  have q0:((L:Int) == 0)=false:=by simp;omega
  obtain⟨W,hmk,hBlk,hbW,sW⟩:=makeT L w (by omega)
  clear hL hl hz hF hres hers
  go_enter Tryz.func218,Tryz.ntmps218
  go_wp2
  go_loopw [15] (fun i wr=>∃ k:Nat,k≤L∧i=.int .i64 k∧PutT wr w.heap.size res k∧BlkC wr w.heap.size 26 (L*6)∧Below w.heap.size w wr∧Hid (firstE (ers.take k)=0)) (fun i _=>L - (intOf i).toNat)
  case atStart=>exact⟨0,Nat.zero_le _,rfl,fun j x hj=>by omega,hBlk,hbW,firstE_nil⟩
  case round =>
   obtain⟨wo,hwo⟩:∃ wo,wo=wr:=⟨_,rfl⟩
   subst hwo
   obtain⟨k,hk,rfl,hP,hBk,hB,HZ⟩:=hrel
   by_cases hlt:k<L
   ·have hkI:(k:Int) < (L:Int):=by omega
    obtain⟨x,hx⟩:=someL (l:=l) (k:=k) (by rw [← HL.out.1];exact hlt)
    obtain⟨y,hy⟩:=someL (l:=res) (k:=k) (by rw [HL.out.2.1];exact hlt)
    obtain⟨e0,he⟩:=someL (l:=ers) (k:=k) (by rw [HL.out.2.2];exact hlt)
    obtain⟨g1,o1,ra,rc,ka,kc,sa,sc,rfl,_,h6,ht⟩:=(Hl.out.blw hB).at hx
    have cc:=HF.out k x y e0 ⟨g1,o1+k*6,none⟩ wo hx hy he ⟨g1,o1,L,cap,rfl,rfl⟩ hB
    have HS:Hid (_=_):=firstE_step he
    have HT:Hid (firstE (ers.take (k+1))≠0→firstE ers=firstE (ers.take (k+1))):=fun h=>firstE_stuck h
    have HY:Hid (_=_):=hy
    have hGlt:=hBk.lt
    clear h6 ht hx hy he
    go_wp2_with fail
    refine cc.mono ?_
    rintro e w2 ⟨⟨h0,v2,rfl,hv2⟩ | ⟨hne,rfl⟩,hb2⟩
    ·clear cc
     obtain⟨ra2,rc2,ka2,kc2,sa2,sc2,rfl,ht2⟩:=hv2.form
     have hBk2:=hBk.kn (No:=fun _=>True) (Kn.of_below hb2) trivial
     have hP2:=hP.kn hb2 hBk.lt
     have hB2:=bchain hB hb2
     obtain⟨o0,e0⟩:=hBk2.cell (k*6) (by omega)
     obtain⟨o1,e1⟩:=hBk2.cell (k*6+1) (by omega)
     obtain⟨o2,e2⟩:=hBk2.cell (k*6+2) (by omega)
     obtain⟨o3,e3⟩:=hBk2.cell (k*6+3) (by omega)
     obtain⟨o4,e4⟩:=hBk2.cell (k*6+4) (by omega)
     obtain⟨o5,e5⟩:=hBk2.cell (k*6+5) (by omega)
     have f0:=hBk2.soft (k*6)
     have f1:=hBk2.soft (k*6+1)
     have f2:=hBk2.soft (k*6+2)
     have f3:=hBk2.soft (k*6+3)
     have f4:=hBk2.soft (k*6+4)
     have f5:=hBk2.soft (k*6+5)
     have hfin:=hP2.put hBk2 HY.out (by omega) _ _ _ _ _ _ (ht2.value.up fun q hq=>hq.mono (by omega))
     unfold set6 at hfin
     have HFn:Hid (_∧_∧_):=hfin
     have HZ':Hid (firstE (ers.take (k+1))=0):=(by rw [HS.out,if_pos HZ.out];exact h0:firstE (ers.take (k+1))=0)
     clear hfin h0
     go_wp2_with fail
     obtain⟨q1,q2,q3⟩:=HFn.out
     go_roundw
     case rel=>exact⟨k+1,by omega,by go_num,q1,q2,hB2.trans (q3.below (fun q hq=>by omega) hB2.size),HZ'⟩
     case measure=>simp [intOf];omega
    ·clear cc
     have hE:firstE (ers.take (k+1))=e0:=by rw [HS.out,if_pos HZ.out]
     have hE2:=HT.out (by rw [hE];exact hne)
     rw [hE] at hE2
     exact⟨rfl,.inr ⟨by rw [hE2];exact hne,by rw [hE2]⟩,bchain hB hb2⟩
   ·have hkI:¬ (k:Int) < (L:Int):=by omega
    obtain rfl:k=L:=by omega
    have hr:=PutT.row (base:=w.heap.size) (l:=res) (G:=w.heap.size) (by rw [HL.out.2.1];exact hP) (by rw [HL.out.2.1];exact hBk) (Nat.le_refl _)
    rw [HL.out.2.1] at hr
    have HZ2:Hid (firstE ers=0):=(by have:=HZ.out;rwa [List.take_of_length_le (by rw [HL.out.2.2];exact Nat.le_refl _)] at this:firstE ers=0)
    clear hP hBk HZ
    go_wp2_with fail
    go_ret
    exact⟨.ok HZ2.out hr,hB⟩
def BrIn (base:Nat) (w:World) (b:List C × List Tm) (v:Value):Prop:=∃ fa fc ka kc,v=.agg #[.slice fa b.1.length fc,.slice ka b.2.length kc]∧ClRow (OkN base w) w b.1 (.slice fa b.1.length fc)∧KdT (OkN base w) w (TmIn (OkN base w) w) b.2 (.slice ka b.2.length kc)
theorem lbecB_any (fid:FuncId) (caps:Array Value) (eg:∀ args w,(callFunc fid args).run Tryz.prog w=.ok (.enter fid args) w) (l res:List (List C × List Tm)) (ers:List Int) (hres:res.length=l.length) (hers:ers.length=l.length) (v:Value) (w:World) (hl:SyT Tt w (TmIn Tt w) l v) (hb:l.length≤100000)
  (hF:∀ (k:Nat) (x y:List C × List Tm) (e0:Int) (p:Addr) (W:World),l[k]? = some x→res[k]? = some y→ers[k]? = some e0→atB v k p→Below w.heap.size w W→Calls Tryz.prog fid (#[.int .i64 (k:Int),.pointer (some p)] ++ caps) W fun e w'=>LOut e0 (BrIn W.heap.size w' y) e∧Below W.heap.size W w') :
  Calls Tryz.prog 220 #[v,.func (.func fid) #[] caps] w fun e w'=>LOut (firstE ers) (fun v'=>SyT (OkN w.heap.size w') w' (TmIn (OkN w.heap.size w') w') res v') e∧Below w.heap.size w w':=by
 obtain⟨a,cap,rfl,_⟩:=id hl
 by_cases hz:l=[]
 ·subst hz
  obtain rfl:res=[]:=List.length_eq_zero_iff.1 hres
  obtain rfl:ers=[]:=List.length_eq_zero_iff.1 hers
  go_enter Tryz.func220,Tryz.ntmps220
  go_wp2
  go_ret
  exact⟨.ok firstE_nil (sy_nil _ _ _),Below.refl _ _⟩
 ·have hpos:0<l.length:=List.length_pos_iff.2 hz
  obtain⟨L,hL⟩:∃ L,L=l.length:=⟨_,rfl⟩
  have HL:Hid (L=l.length∧res.length=L∧ers.length=L):=⟨hL,by omega,by omega⟩
  have Hl:Hid (SyT Tt w (TmIn Tt w) l (.slice a L cap)):=by rw [hL];exact hl
  have HF:Hid (∀ (k:Nat) (x y:List C × List Tm) (e0:Int) (p:Addr) (W:World),l[k]? = some x→res[k]? = some y→ers[k]? = some e0→atB (.slice a L cap) k p→Below w.heap.size w W→Calls Tryz.prog fid (#[.int .i64 (k:Int),.pointer (some p)] ++ caps) W fun e w'=>LOut e0 (BrIn W.heap.size w' y) e∧Below W.heap.size W w'):=by rw [hL];exact hF
  rw [← hL] at hpos hb ⊢
  have q0:((L:Int) == 0)=false:=by simp;omega
  obtain⟨W,hmk,hBlk,hbW,sW⟩:=makeB L w (by omega)
  clear hL hl hz hF hres hers
  go_enter Tryz.func220,Tryz.ntmps220
  go_wp2
  go_loopw [15] (fun i wr=>∃ k:Nat,k≤L∧i=.int .i64 k∧PutB wr w.heap.size res k∧BlkC wr w.heap.size 40 (L*2)∧Below w.heap.size w wr∧Hid (firstE (ers.take k)=0)) (fun i _=>L - (intOf i).toNat)
  case atStart=>exact⟨0,Nat.zero_le _,rfl,fun j x hj=>by omega,hBlk,hbW,firstE_nil⟩
  case round =>
   obtain⟨wo,hwo⟩:∃ wo,wo=wr:=⟨_,rfl⟩
   subst hwo
   obtain⟨k,hk,rfl,hP,hBk,hB,HZ⟩:=hrel
   by_cases hlt:k<L
   ·have hkI:(k:Int) < (L:Int):=by omega
    obtain⟨x,hx⟩:=someL (l:=l) (k:=k) (by rw [← HL.out.1];exact hlt)
    obtain⟨y,hy⟩:=someL (l:=res) (k:=k) (by rw [HL.out.2.1];exact hlt)
    obtain⟨e0,he⟩:=someL (l:=ers) (k:=k) (by rw [HL.out.2.2];exact hlt)
    obtain⟨g1,o1,fa,fc,ka,kc,rfl,_,h6,hcl,ht⟩:=(Hl.out.blw hB).at hx
    have cc:=HF.out k x y e0 ⟨g1,o1+k*2,none⟩ wo hx hy he ⟨g1,o1,L,cap,rfl,rfl⟩ hB
    have HS:Hid (_=_):=firstE_step he
    have HT:Hid (firstE (ers.take (k+1))≠0→firstE ers=firstE (ers.take (k+1))):=fun h=>firstE_stuck h
    have HY:Hid (_=_):=hy
    have hGlt:=hBk.lt
    clear h6 hcl ht hx hy he
    go_wp2_with fail
    refine cc.mono ?_
    rintro e w2 ⟨⟨h0,v2,rfl,hv2⟩ | ⟨hne,rfl⟩,hb2⟩
    ·clear cc
     obtain⟨fa2,fc2,ka2,kc2,rfl,hc2,hk2⟩:=hv2
     have hBk2:=hBk.kn (No:=fun _=>True) (Kn.of_below hb2) trivial
     have hP2:=hP.kn hb2 hBk.lt
     have hB2:=bchain hB hb2
     obtain⟨o0,e0⟩:=hBk2.cell (k*2) (by omega)
     obtain⟨o1,e1⟩:=hBk2.cell (k*2+1) (by omega)
     have f0:=hBk2.soft (k*2)
     have f1:=hBk2.soft (k*2+1)
     have hfin:=hP2.put hBk2 HY.out (by omega) _ _ (hc2.keep (Nat.le_refl _) (fun q hq=>hq.mono (by omega)) (fun _ _ _=>rfl)) (hk2.all (Nat.le_refl _) (fun q hq=>hq.mono (by omega)) (fun _ _ _=>rfl))
     unfold set2 at hfin
     have HFn:Hid (_∧_∧_):=hfin
     have HZ':Hid (firstE (ers.take (k+1))=0):=(by rw [HS.out,if_pos HZ.out];exact h0:firstE (ers.take (k+1))=0)
     clear hfin h0
     go_wp2_with fail
     obtain⟨q1,q2,q3⟩:=HFn.out
     go_roundw
     case rel=>exact⟨k+1,by omega,by go_num,q1,q2,hB2.trans (q3.below (fun q hq=>by omega) hB2.size),HZ'⟩
     case measure=>simp [intOf];omega
    ·clear cc
     have hE:firstE (ers.take (k+1))=e0:=by rw [HS.out,if_pos HZ.out]
     have hE2:=HT.out (by rw [hE];exact hne)
     rw [hE] at hE2
     exact⟨rfl,.inr ⟨by rw [hE2];exact hne,by rw [hE2]⟩,bchain hB hb2⟩
   ·have hkI:¬ (k:Int) < (L:Int):=by omega
    obtain rfl:k=L:=by omega
    have hr:=PutB.row (base:=w.heap.size) (l:=res) (G:=w.heap.size) (by rw [HL.out.2.1];exact hP) (by rw [HL.out.2.1];exact hBk) (Nat.le_refl _)
    rw [HL.out.2.1] at hr
    have HZ2:Hid (firstE ers=0):=(by have:=HZ.out;rwa [List.take_of_length_le (by rw [HL.out.2.2];exact Nat.le_refl _)] at this:firstE ers=0)
    clear hP hBk HZ
    go_wp2_with fail
    go_ret
    exact⟨.ok HZ2.out hr,hB⟩
abbrev V6:=Value × Value × Value × Value × Value × Value
def flat6:List V6→List Value
 | []=>[]
 | u :: l=>u.1 :: u.2.1 :: u.2.2.1 :: u.2.2.2.1 :: u.2.2.2.2.1 :: u.2.2.2.2.2 :: flat6 l
def agg6 (u:V6):Value:=.agg #[u.1,u.2.1,u.2.2.1,u.2.2.2.1,u.2.2.2.2.1,u.2.2.2.2.2]
theorem flat6_length:∀ l:List V6,(flat6 l).length=l.length*6
 | []=>rfl
 | u :: l=>by simp only [flat6,List.length_cons,flat6_length l];omega
theorem flat6_append:∀ l m:List V6,flat6 (l++m)=flat6 l++flat6 m
 | [],m=>rfl
 | u :: l,m=>by simp only [List.cons_append,flat6,flat6_append l m]
theorem flat6_get:∀ (l:List V6) (j:Nat) (u:V6),l[j]? = some u→(flat6 l)[j*6]? = some u.1∧(flat6 l)[j*6+1]? = some u.2.1∧(flat6 l)[j*6+2]? = some u.2.2.1∧(flat6 l)[j*6+3]? = some u.2.2.2.1∧(flat6 l)[j*6+4]? = some u.2.2.2.2.1∧(flat6 l)[j*6+5]? = some u.2.2.2.2.2
 | [],j,u,h=>by simp at h
 | x :: l,0,u,h=>by
  simp only [List.getElem?_cons_zero,Option.some.injEq] at h
  subst h
  simp [flat6]
 | x :: l,j+1,u,h=>by
  have h':=flat6_get l j u (by simpa using h)
  have e:∀ i,(j+1) * 6+i=(j*6+i) + 6:=fun i=>by omega
  have e0:(j+1) * 6=j*6+6:=by omega
  simp only [flat6,e,e0,List.getElem?_cons_succ]
  exact h'
def flat2:List (Value × Value)→List Value
 | []=>[]
 | u :: l=>u.1 :: u.2 :: flat2 l
theorem flat2_length:∀ l:List (Value × Value),(flat2 l).length=l.length*2
 | []=>rfl
 | u :: l=>by simp only [flat2,List.length_cons,flat2_length l];omega
theorem flat2_append:∀ l m:List (Value × Value),flat2 (l++m)=flat2 l++flat2 m
 | [],m=>rfl
 | u :: l,m=>by simp only [List.cons_append,flat2,flat2_append l m]
theorem flat2_get:∀ (l:List (Value × Value)) (j:Nat) (u:Value × Value),l[j]? = some u→(flat2 l)[j*2]? = some u.1∧(flat2 l)[j*2+1]? = some u.2
 | [],j,u,h=>by simp at h
 | x :: l,0,u,h=>by
  simp only [List.getElem?_cons_zero,Option.some.injEq] at h
  subst h
  simp [flat2]
 | x :: l,j+1,u,h=>by
  have h':=flat2_get l j u (by simpa using h)
  have e:∀ i,(j+1) * 2+i=(j*2+i) + 2:=fun i=>by omega
  have e0:(j+1) * 2=j*2+2:=by omega
  simp only [flat2,e,e0,List.getElem?_cons_succ]
  exact h'
def OkR (base:Nat) (No:Nat→Prop) (w:World) (v:Value) (q:Nat):Prop:=OkN base w q∧some q≠v.ownBlock∧No q
theorem OkN.lt {base:Nat} {w:World} {q:Nat} (h:OkN base w q):q<w.heap.size:=by obtain⟨_,cs,ty,h2⟩:=h;exact (Array.getElem?_eq_some_iff.1 h2).1
theorem OkN.same {base:Nat} {w w':World} {q:Nat} (h:OkN base w q) (hb:w'.heap[q]? = w.heap[q]?):OkN base w' q:=by obtain⟨h1,cs,ty,h2⟩:=h;exact⟨h1,cs,ty,hb.trans h2⟩
def KOwn (base:Nat) (No:Nat→Prop) (w:World) (v:Value) (l:List Tm):Prop :=
 ∃ us:List V6,us.length=l.length∧w.ownsRow base 26 6 v l.length (flat6 us)∧(∀ k,v.ownBlock=some k→No k)∧∀ (j:Nat) (x:Tm) (u:V6),l[j]? = some x→us[j]? = some u→TmIn (OkR base No w v) w x (agg6 u)
def BOwn (base:Nat) (No:Nat→Prop) (w:World) (v:Value) (l:List (List C × List Tm)):Prop :=
 ∃ us:List (Value × Value),us.length=l.length∧w.ownsRow base 40 2 v l.length (flat2 us)∧(∀ k,v.ownBlock=some k→No k)∧∀ (j:Nat) (x:List C × List Tm) (u:Value × Value),l[j]? = some x→us[j]? = some u→ClRow (OkR base No w v) w x.1 u.1∧KdT (OkR base No w v) w (TmIn (OkR base No w v) w) x.2 u.2
theorem KOwn.nil (base:Nat) (No:Nat→Prop) (w:World):KOwn base No w (.slice none 0 0) []:=⟨[],rfl,World.ownsRow_nil _ _ _ _,fun k h=>(by cases h),fun j x u h=>by simp at h⟩
theorem BOwn.nil (base:Nat) (No:Nat→Prop) (w:World):BOwn base No w (.slice none 0 0) []:=⟨[],rfl,World.ownsRow_nil _ _ _ _,fun k h=>(by cases h),fun j x u h=>by simp at h⟩
theorem owns_keep {w w':World} {base:Nat} {e:TypeId} {size:Nat} {v:Value} {n:Nat} {xs:List Value} (h:w.ownsRow base e size v n xs) (hb:∀ k,v.ownBlock=some k→w'.heap[k]? = w.heap[k]?):w'.ownsRow base e size v n xs:=by
 refine⟨h.1,?_⟩
 rcases h.2 with h|⟨g,cap,cur,rfl,h1,h2,h3⟩
 ·exact .inl h
 ·exact .inr ⟨g,cap,cur,rfl,h1,(hb g rfl).trans h2,h3⟩
theorem KOwn.keep {base:Nat} {No No2:Nat→Prop} {w w':World} {v:Value} {l:List Tm} (h:KOwn base No w v l) (hk:Kn No2 w w') (hn:∀ q,base≤q→No q→No2 q):KOwn base No w' v l:=by
 obtain⟨us,h1,h2,h3,h4⟩:=h
 refine⟨us,h1,owns_keep h2 (fun k hk'=>hk.block k (hn k (World.ownsRow.lt h2 k hk').1 (h3 k hk')) (World.ownsRow.lt h2 k hk').2),h3,fun j x u hx hu=>(h4 j x u hx hu).keep hk.size (fun q hq=>?_) (fun q hq hs=>hk.block q (hn q hq.1.1 hq.2.2) hs)⟩
 exact⟨hq.1.same (hk.block q (hn q hq.1.1 hq.2.2) hq.1.lt),hq.2⟩
theorem BOwn.keep {base:Nat} {No No2:Nat→Prop} {w w':World} {v:Value} {l:List (List C × List Tm)} (h:BOwn base No w v l) (hk:Kn No2 w w') (hn:∀ q,base≤q→No q→No2 q):BOwn base No w' v l:=by
 obtain⟨us,h1,h2,h3,h4⟩:=h
 have ho:∀ q,OkR base No w v q→OkR base No w' v q:=fun q hq=>⟨hq.1.same (hk.block q (hn q hq.1.1 hq.2.2) hq.1.lt),hq.2⟩
 have hb:∀ q,OkR base No w v q→q<w.heap.size→w'.heap[q]? = w.heap[q]?:=fun q hq hs=>hk.block q (hn q hq.1.1 hq.2.2) hs
 refine⟨us,h1,owns_keep h2 (fun k hk'=>hk.block k (hn k (World.ownsRow.lt h2 k hk').1 (h3 k hk')) (World.ownsRow.lt h2 k hk').2),h3,fun j x u hx hu=>⟨(h4 j x u hx hu).1.keep hk.size ho hb,(h4 j x u hx hu).2.all hk.size ho hb⟩⟩
theorem KOwn.row {base:Nat} {No:Nat→Prop} {w:World} {v:Value} {l:List Tm} (h:KOwn base No w v l):KdT (fun q=>OkN base w q∧No q) w (TmIn (fun q=>OkN base w q∧No q) w) l v:=by
 obtain⟨us,h1,h2,h3,h4⟩:=h
 rcases h2.2 with ⟨rfl,hz⟩|⟨g,cap,cur,rfl,hb,hh,hn,_,_,hc⟩
 ·obtain rfl:l=[]:=List.length_eq_zero_iff.1 hz
  exact kt_nil _ _ _
 ·refine⟨_,_,rfl,hn,fun j x hx=>?_⟩
  obtain⟨u,hu⟩:=someL (l:=us) (k:=j) (by have:=some_lt hx;omega)
  have hcell:=h2.cells (g:=g) rfl
  obtain⟨f0,f1,f2,f3,f4,f5⟩:=flat6_get us j u hu
  refine⟨g,0,u.1,u.2.1,u.2.2.1,u.2.2.2.1,u.2.2.2.2.1,u.2.2.2.2.2,rfl,⟨⟨hb,cur,_,hh⟩,h3 g rfl⟩,(Array.getElem?_eq_some_iff.1 hh).1,(h4 j x u hx hu).up fun q hq=>⟨hq.1,hq.2.2⟩,?_,?_,?_,?_,?_,?_⟩
  ·have:=hcell _ _ f0;rw [Addr.add_lit] at this;simpa using this
  ·have:=hcell _ _ f1;rw [Addr.add_lit] at this;simpa using this
  ·have:=hcell _ _ f2;rw [Addr.add_lit] at this;simpa using this
  ·have:=hcell _ _ f3;rw [Addr.add_lit] at this;simpa using this
  ·have:=hcell _ _ f4;rw [Addr.add_lit] at this;simpa using this
  ·have:=hcell _ _ f5;rw [Addr.add_lit] at this;simpa using this
theorem BOwn.row {base:Nat} {No:Nat→Prop} {w:World} {v:Value} {l:List (List C × List Tm)} (h:BOwn base No w v l):SyT (fun q=>OkN base w q∧No q) w (TmIn (fun q=>OkN base w q∧No q) w) l v:=by
 obtain⟨us,h1,h2,h3,h4⟩:=h
 rcases h2.2 with ⟨rfl,hz⟩|⟨g,cap,cur,rfl,hb,hh,hn,_,_,hc⟩
 ·obtain rfl:l=[]:=List.length_eq_zero_iff.1 hz
  exact sy_nil _ _ _
 ·refine⟨_,_,rfl,hn,fun j x hx=>?_⟩
  obtain⟨u,hu⟩:=someL (l:=us) (k:=j) (by have:=some_lt hx;omega)
  have hcell:=h2.cells (g:=g) rfl
  obtain⟨f0,f1⟩:=flat2_get us j u hu
  obtain⟨p1,p2⟩:=h4 j x u hx hu
  refine⟨g,0,u.1,u.2,rfl,⟨⟨hb,cur,_,hh⟩,h3 g rfl⟩,(Array.getElem?_eq_some_iff.1 hh).1,p1.keep (Nat.le_refl _) (fun q hq=>⟨hq.1,hq.2.2⟩) (fun _ _ _=>rfl),p2.all (Nat.le_refl _) (fun q hq=>⟨hq.1,hq.2.2⟩) (fun _ _ _=>rfl),?_,?_⟩
  ·have:=hcell _ _ f0;rw [Addr.add_lit] at this;simpa using this
  ·have:=hcell _ _ f1;rw [Addr.add_lit] at this;simpa using this
theorem okr_grown {base:Nat} {No:Nat→Prop} {W W':World} {v v':Value} (hg:W.grownBy W' v.ownBlock) (hv:v'.ownBlock=v.ownBlock∨v'.ownBlock=some W.heap.size) (q:Nat) (hq:OkR base No W v q):OkR base No W' v' q:=by
 have hlt:=hq.1.lt
 refine⟨hq.1.same (hg.block q hlt hq.2.1),?_,hq.2.2⟩
 rcases hv with h|h
 ·rw [h];exact hq.2.1
 ·rw [h];intro e;injection e with e;omega
theorem append_T {base:Nat} {No:Nat→Prop} {W:World} {v:Value} {l:List Tm} {x:Tm} {u:V6} (ty:TypeId) (hO:KOwn base No W v l) (ad:Addr) (c:Nat) (hc:∀ (j:Nat) (y:Value),(flat6 [u])[j]? = some y→W.cell? (ad.add j)=some y) (hx:TmIn (OkR base No W v) W x (agg6 u)) (hn:l.length+1≤200000) (hb:base≤W.heap.size) (hN:No W.heap.size) :
  ∃ v' W',(Builtin.append_ #[23,23] ty #[v,.slice (some ad) 1 c]).run Tryz.prog W=.ok v' W'∧KOwn base No W' v' (l ++ [x])∧W.grownBy W' v.ownBlock∧(v'.ownBlock=v.ownBlock∨v'.ownBlock=some W.heap.size):=by
 obtain⟨i0,hi,hz0,hz1,hz2⟩:=info_parts infoT
 obtain⟨us,h1,h2,h3,h4⟩:=hO
 obtain⟨ra,rc,ka,kc,sa,sc,e,ht⟩:=hx.form
 have hone:∀ y∈flat6 [u],y.oneCell'=true:=by
  unfold agg6 at e
  injection e with e
  simp only [Array.mk.injEq,List.cons.injEq,and_true] at e
  obtain⟨e0,e1,e2,e3,e4,e5⟩:=e
  intro y hy
  simp only [flat6,List.mem_cons,List.not_mem_nil,or_false] at hy
  rcases hy with rfl|rfl|rfl|rfl|rfl|rfl
  ·rw [e0];rfl
  ·rw [e1];rfl
  ·rw [e2];rfl
  ·rw [e3];rfl
  ·rw [e4];rfl
  ·rw [e5];rfl
 obtain⟨v',W',hrun,r1,r2,_,r4⟩:=run_append_own_at (P:=Tryz.prog) W base 23 ty 26 i0 _ 6 104 Tryz.underlying23 hi hz0 hz1 hz2 rfl (by decide) v l.length (flat6 us) h2 ad 1 c (flat6 [u]) (flat6_length _) hc hone (by unfold maxLen;omega) (by omega) hb
 refine⟨v',W',hrun,⟨us ++ [u],by simp [h1],by rw [List.length_append,flat6_append];exact r1,fun k hk=>?_,fun j y z hy hz=>?_⟩,r2,r4⟩
 ·rcases r4 with h|h
  ·rw [h] at hk;exact h3 k hk
  ·rw [h] at hk;injection hk with hk;rw [← hk];exact hN
 ·have hkeep:∀ t z,TmIn (OkR base No W v) W t z→TmIn (OkR base No W' v') W' t z:=fun t z h=>h.keep r2.size (okr_grown r2 r4) (fun q hq hs=>r2.block q hs hq.2.1)
  rcases Nat.lt_or_ge j l.length with hj|hj
  ·rw [List.getElem?_append_left hj] at hy
   rw [List.getElem?_append_left (by omega)] at hz
   exact hkeep _ _ (h4 j y z hy hz)
  ·rw [List.getElem?_append_right hj] at hy
   rw [List.getElem?_append_right (by omega),h1] at hz
   obtain⟨e1,e2⟩:x=y∧u=z:=by
    cases hd:j - l.length with
    | zero=>rw [hd] at hy hz;simp at hy hz;exact⟨hy,hz⟩
    | succ d=>rw [hd] at hy;simp at hy
   subst e1 e2
   exact hkeep _ _ hx
theorem append_B {base:Nat} {No:Nat→Prop} {W:World} {v:Value} {l:List (List C × List Tm)} {x:List C × List Tm} {u:Value × Value} (ty:TypeId) (hO:BOwn base No W v l) (ad:Addr) (c:Nat) (hc:∀ (j:Nat) (y:Value),(flat2 [u])[j]? = some y→W.cell? (ad.add j)=some y) (hx:ClRow (OkR base No W v) W x.1 u.1∧KdT (OkR base No W v) W (TmIn (OkR base No W v) W) x.2 u.2) (hn:l.length+1≤200000) (hb:base≤W.heap.size) (hN:No W.heap.size) :
  ∃ v' W',(Builtin.append_ #[24,24] ty #[v,.slice (some ad) 1 c]).run Tryz.prog W=.ok v' W'∧BOwn base No W' v' (l ++ [x])∧W.grownBy W' v.ownBlock∧(v'.ownBlock=v.ownBlock∨v'.ownBlock=some W.heap.size):=by
 obtain⟨i0,hi,hz0,hz1,hz2⟩:=info_parts infoB
 obtain⟨us,h1,h2,h3,h4⟩:=hO
 have hone:∀ y∈flat2 [u],y.oneCell'=true:=by
  obtain⟨⟨a1,c1,e1,_⟩,⟨a2,c2,e2,_⟩⟩:=hx
  intro y hy
  simp only [flat2,List.mem_cons,List.not_mem_nil,or_false] at hy
  rcases hy with rfl|rfl
  ·rw [e1];rfl
  ·rw [e2];rfl
 obtain⟨v',W',hrun,r1,r2,_,r4⟩:=run_append_own_at (P:=Tryz.prog) W base 24 ty 40 i0 _ 2 48 Tryz.underlying24 hi hz0 hz1 hz2 rfl (by decide) v l.length (flat2 us) h2 ad 1 c (flat2 [u]) (flat2_length _) hc hone (by unfold maxLen;omega) (by omega) hb
 refine⟨v',W',hrun,⟨us ++ [u],by simp [h1],by rw [List.length_append,flat2_append];exact r1,fun k hk=>?_,fun j y z hy hz=>?_⟩,r2,r4⟩
 ·rcases r4 with h|h
  ·rw [h] at hk;exact h3 k hk
  ·rw [h] at hk;injection hk with hk;rw [← hk];exact hN
 ·have hkeep:∀ (y:List C × List Tm) (z:Value × Value),ClRow (OkR base No W v) W y.1 z.1∧KdT (OkR base No W v) W (TmIn (OkR base No W v) W) y.2 z.2→ClRow (OkR base No W' v') W' y.1 z.1∧KdT (OkR base No W' v') W' (TmIn (OkR base No W' v') W') y.2 z.2:=fun y z h =>
   ⟨h.1.keep r2.size (okr_grown r2 r4) (fun q hq hs=>r2.block q hs hq.2.1),h.2.all r2.size (okr_grown r2 r4) (fun q hq hs=>r2.block q hs hq.2.1)⟩
  rcases Nat.lt_or_ge j l.length with hj|hj
  ·rw [List.getElem?_append_left hj] at hy
   rw [List.getElem?_append_left (by omega)] at hz
   exact hkeep _ _ (h4 j y z hy hz)
  ·rw [List.getElem?_append_right hj] at hy
   rw [List.getElem?_append_right (by omega),h1] at hz
   obtain⟨e1,e2⟩:x=y∧u=z:=by
    cases hd:j - l.length with
    | zero=>rw [hd] at hy hz;simp at hy hz;exact⟨hy,hz⟩
    | succ d=>rw [hd] at hy;simp at hy
   subst e1 e2
   exact hkeep _ _ hx
theorem owns_len {w:World} {base:Nat} {e:TypeId} {size:Nat} {v:Value} {n:Nat} {xs:List Value} (h:w.ownsRow base e size v n xs):∃ a c,v=.slice a n c:=by
 rcases h.2 with ⟨rfl,rfl⟩|⟨g,cap,cur,rfl,_⟩
 ·exact⟨_,_,rfl⟩
 ·exact⟨_,_,rfl⟩
theorem KOwn.len {base:Nat} {No:Nat→Prop} {w:World} {v:Value} {l:List Tm} (h:KOwn base No w v l):∃ a c,v=.slice a l.length c:=by obtain⟨us,_,h2,_⟩:=h;exact owns_len h2
theorem BOwn.len {base:Nat} {No:Nat→Prop} {w:World} {v:Value} {l:List (List C × List Tm)} (h:BOwn base No w v l):∃ a c,v=.slice a l.length c:=by obtain⟨us,_,h2,_⟩:=h;exact owns_len h2
theorem step_append {ops:Array Oper} {o:Oper} {a:Act} {w:World} {K:Act→World→Prop} {Q:Exit→Act→World→Prop} {E:Prop} (hgd:o.guard=none) (s x:Operand) (ty:TypeId)
  (ho:o.op=.call { callee:=.builtin .append,args:=#[s,x],argTypes:=#[ty,ty] }) (v sv v':Value) (w':World) (hs:a.eval s=v) (hx:a.eval x=sv) (hrun:(Builtin.append_ #[ty,ty] o.type #[v,sv]).run Tryz.prog w=.ok v' w') (h:K (a.put o.dst v') w') :
  if Region.wanted o (yielded ops a.tmps)=true then Oper.wp Tryz.prog o a w K Q else E:=by
 have hw:Region.wanted o (yielded ops a.tmps)=true:=by simp [Region.wanted,hgd]
 rw [if_pos hw]
 unfold Oper.wp
 simp [execOp,ho,resolve,invoke,builtin,hs,hx,hrun,Result.andThen]
 exact h
theorem wpList_append_run {w:World} {ops:Array Oper} {rest:List Oper} {o:Oper} {a:Act} {Q:Exit→Act→World→Prop} (hgd:o.guard=none) (s x:Operand) (ty:TypeId)
  (ho:o.op=.call { callee:=.builtin .append,args:=#[s,x],argTypes:=#[ty,ty] }) (v sv v':Value) (w':World) (hs:a.eval s=v) (hx:a.eval x=sv) (hrun:(Builtin.append_ #[ty,ty] o.type #[v,sv]).run Tryz.prog w=.ok v' w') (h:wpList Tryz.prog ops Q rest (a.put o.dst v') w'):wpList Tryz.prog ops Q (o :: rest) a w:=by
 refine wpList_plain hgd fun K hK'=>?_
 unfold Oper.wp
 simp [execOp,ho,resolve,invoke,builtin,hs,hx,hrun,Result.andThen]
 exact hK' _ _ h
structure Two (w:World) (s:Nat) (v0 v1:Value):Prop where
 blk:w.heap[s]? = some (.cells #[v0,v1] 40 (0,0))
theorem Two.lt {w:World} {s:Nat} {v0 v1:Value} (h:Two w s v0 v1):s<w.heap.size:=(Array.getElem?_eq_some_iff.1 h.blk).1
theorem Two.cells {w:World} {s:Nat} {v0 v1:Value} (h:Two w s v0 v1):w.cell? ⟨s,0,none⟩=some v0∧w.cell? ⟨s,1,none⟩=some v1∧∀ i,w.frozen? ⟨s,i,none⟩=false:=by
 have h:=h.blk
 refine⟨?_,?_,fun i=>?_⟩ <;> simp [World.cell?,World.frozen?,h]
theorem Two.set1 {w:World} {s:Nat} {v0 v1:Value} (h:Two w s v0 v1) (u:Value):Two (w.setCell ⟨s,1,none⟩ u) s v0 u:=⟨set_blk h.blk u⟩
theorem Two.set2 {w:World} {s:Nat} {v0 v1:Value} (h:Two w s v0 v1) (u0 u1:Value):Two ((w.setCell ⟨s,0,none⟩ u0).setCell ⟨s,1,none⟩ u1) s u0 u1:=⟨set_blk (set_blk h.blk u0) u1⟩
theorem Two.blw {w w':World} {s:Nat} {v0 v1:Value} (h:Two w s v0 v1) (hb:Below w.heap.size w w'):Two w' s v0 v1:=⟨(hb.block s h.lt).trans h.blk⟩
theorem Six.grown {w w':World} {s:Nat} {v0 v1 v2 v3 v4 v5:Value} {r:Option Nat} (h:Six w s v0 v1 v2 v3 v4 v5) (hg:w.grownBy w' r) (hr:r≠some s):Six w' s v0 v1 v2 v3 v4 v5:=⟨(hg.block s h.lt (fun e=>hr e.symm)).trans h.blk⟩
theorem Two.grown {w w':World} {s:Nat} {v0 v1:Value} {r:Option Nat} (h:Two w s v0 v1) (hg:w.grownBy w' r) (hr:r≠some s):Two w' s v0 v1:=⟨(hg.block s h.lt (fun e=>hr e.symm)).trans h.blk⟩
theorem OwnsC.but {w:World} {base:Nat} {v:Value} {l:List C} {o:Nat} (h:OwnsC w base v l) (ho:v.ownBlock≠some o):ClRow (fun q=>OkN base w q∧q≠o) w l v:=by
 rcases h.2 with ⟨rfl,hz⟩|⟨g,cap,cur,rfl,hb,hh,hn,_⟩
 ·obtain rfl:l=[]:=List.length_eq_zero_iff.1 hz
  exact cl_nil _ _
 ·rcases h.form with ⟨e,_⟩|⟨g',cap',e,_,hg,hc⟩
  ·cases e
  ·cases e
   exact⟨_,_,rfl,hn,fun j c hj=>⟨g,0,rfl,⟨⟨hb,cur,_,hh⟩,fun e=>ho (by rw [← e];rfl)⟩,hg,hc j c hj⟩⟩
structure Half (n o:Nat) (r:List C) (l:List Tm) (W:World) (va vk:Value):Prop where
 row:ClRow (OkR n (fun q=>q≠o) W vk) W r va
 kids:KOwn n (fun q=>q≠o) W vk l
 ge:n≤o
theorem Half.keep {n o:Nat} {r:List C} {l:List Tm} {W W':World} {va vk:Value} (h:Half n o r l W va vk) (hk:Kn (fun q=>n≤q→q≠o→q<W.heap.size) W W'):Half n o r l W' va vk:=by
 refine⟨h.row.keep hk.size (fun q hq=>⟨hq.1.same (hk.block q (fun _ _=>hq.1.lt) hq.1.lt),hq.2⟩) (fun q hq hs=>hk.block q (fun _ _=>hs) hs),?_,h.ge⟩
 obtain⟨us,h1,h2,h3,h4⟩:=h.kids
 refine⟨us,h1,owns_keep h2 (fun k hk'=>hk.block k (fun _ _=>(World.ownsRow.lt h2 k hk').2) (World.ownsRow.lt h2 k hk').2),h3,fun j x u hx hu=>(h4 j x u hx hu).keep hk.size (fun q hq=>⟨hq.1.same (hk.block q (fun _ _=>hq.1.lt) hq.1.lt),hq.2⟩) (fun q hq hs=>hk.block q (fun _ _=>hs) hs)⟩
theorem Half.blw {n o:Nat} {r:List C} {l:List Tm} {W W':World} {va vk:Value} (h:Half n o r l W va vk) (hb:Below W.heap.size W W'):Half n o r l W' va vk:=h.keep (Kn.of_below hb)
theorem Half.set {n o:Nat} {r:List C} {l:List Tm} {W W':World} {va vk:Value} (h:Half n o r l W va vk) (hk:Kn (fun q=>q≠o) W W'):Half n o r l W' va vk:=by
 refine⟨h.row.keep hk.size (fun q hq=>⟨hq.1.same (hk.block q hq.2.2 hq.1.lt),hq.2⟩) (fun q hq hs=>hk.block q hq.2.2 hs),h.kids.keep hk (fun q _ h=>h),h.ge⟩
theorem Half.next {n o:Nat} {r:List C} {l:List Tm} {W W2:World} {va vk:Value} {x:Tm} {u:V6} (ty:TypeId) (h:Half n o r l W va vk) (hnW:n≤W.heap.size) (ho:o<W.heap.size) (hb:Below W.heap.size W W2) (hx:TmIn (OkN W.heap.size W2) W2 x (agg6 u)) (hl:l.length+1≤200000) :
  ∃ vk' W4,(Builtin.append_ #[23,23] ty #[vk,.slice (some ⟨W2.heap.size,0,none⟩) 1 1]).run Tryz.prog (W2.alloc (.cells #[u.1,u.2.1,u.2.2.1,u.2.2.2.1,u.2.2.2.2.1,u.2.2.2.2.2] 26))=.ok vk' W4∧Half n o r (l ++ [x]) W4 va vk'∧Below n W W4∧W4.heap[o]? = W.heap[o]?:=by
 obtain⟨W3,hW3⟩:∃ W3,W3=W2.alloc (.cells #[u.1,u.2.1,u.2.2.1,u.2.2.2.1,u.2.2.2.2.1,u.2.2.2.2.2] 26):=⟨_,rfl⟩
 have b3:Below W2.heap.size W2 W3:=by rw [hW3];exact belowA _ _
 have hn:=heapNew W2 (.cells #[u.1,u.2.1,u.2.2.1,u.2.2.2.1,u.2.2.2.2.1,u.2.2.2.2.2] 26)
 rw [← hW3] at hn ⊢
 have bb:=bchain hb b3
 have h3:=h.blw bb
 have hs3:W3.heap.size=W2.heap.size+1:=by rw [hW3];simp
 have hlt:∀ k,vk.ownBlock=some k→n≤k∧k<W.heap.size∧k≠o:=fun k hk=>by
  obtain⟨us,h1,h2,h4,_⟩:=h.kids
  exact⟨(World.ownsRow.lt h2 k hk).1,(World.ownsRow.lt h2 k hk).2,h4 k hk⟩
 have hs2:=hb.size
 have hx3:TmIn (OkR n (fun q=>q≠o) W3 vk) W3 x (agg6 u):=hx.keep b3.size (fun q hq=>⟨(hq.mono hnW).blw b3,fun e=>by have:=(hlt q e.symm).2.1;have:=hq.1;omega,by have:=hq.1;omega⟩) (fun q _ hs=>b3.block q hs)
 obtain⟨vk',W4,hrun,hO,hg,hv⟩:=append_T ty h3.kids ⟨W2.heap.size,0,none⟩ 1 (fun j y hy=>by
  rw [Addr.add_lit]
  match j with
  | 0=>simp [flat6] at hy;subst hy;simp [World.cell?,hn]
  | 1=>simp [flat6] at hy;subst hy;simp [World.cell?,hn]
  | 2=>simp [flat6] at hy;subst hy;simp [World.cell?,hn]
  | 3=>simp [flat6] at hy;subst hy;simp [World.cell?,hn]
  | 4=>simp [flat6] at hy;subst hy;simp [World.cell?,hn]
  | 5=>simp [flat6] at hy;subst hy;simp [World.cell?,hn]
  | j+6=>simp [flat6] at hy) hx3 hl (by omega) (by omega)
 refine⟨vk',W4,hrun,⟨h3.row.keep hg.size (okr_grown hg hv) (fun q hq hs=>hg.block q hs hq.2.1),hO,h.ge⟩,?_,?_⟩
 ·exact (bb.mono hnW).trans ((Below.refl n W3).grown hg (by omega) (fun k hk=>(hlt k hk).1))
 ·have ho3:W3.heap[o]? = W.heap[o]?:=bb.block o ho
  rw [← ho3]
  exact hg.block o (by omega) (fun e=>(hlt o e.symm).2.2 rfl)
structure Whole (n o:Nat) (t:Tm) (k:Nat) (W:World) (va vk vs:Value):Prop where
 row:ClRow (OkR n (fun q=>q≠o) W vs) W t.r va
 kids:KdT (OkR n (fun q=>q≠o) W vs) W (TmIn (OkR n (fun q=>q≠o) W vs) W) t.kids vk
 sys:BOwn n (fun q=>q≠o) W vs (t.sys.take k)
 ge:n≤o
theorem Half.all {n o:Nat} {t:Tm} {W:World} {va vk:Value} (h:Half n o t.r t.kids W va vk):Whole n o t 0 W va vk (.slice none 0 0):=by
 refine⟨h.row.keep (Nat.le_refl _) (fun q hq=>⟨hq.1,(fun e=>by cases e),hq.2.2⟩) (fun _ _ _=>rfl),h.kids.row.all (Nat.le_refl _) (fun q hq=>⟨hq.1,(fun e=>by cases e),hq.2⟩) (fun _ _ _=>rfl),BOwn.nil _ _ _,h.ge⟩
theorem Whole.blw {n o:Nat} {t:Tm} {k:Nat} {W W':World} {va vk vs:Value} (h:Whole n o t k W va vk vs) (hb:Below W.heap.size W W'):Whole n o t k W' va vk vs:=by
 have ho:∀ q,OkR n (fun q=>q≠o) W vs q→OkR n (fun q=>q≠o) W' vs q:=fun q hq=>⟨hq.1.blw hb,hq.2⟩
 exact⟨h.row.keep hb.size ho (fun q _ hs=>hb.block q hs),h.kids.all hb.size ho (fun q _ hs=>hb.block q hs),h.sys.keep (Kn.of_below (No:=fun _=>True) hb) (fun _ _ _=>trivial),h.ge⟩
theorem Whole.set {n o:Nat} {t:Tm} {k:Nat} {W W':World} {va vk vs:Value} (h:Whole n o t k W va vk vs) (hk:Kn (fun q=>q≠o) W W'):Whole n o t k W' va vk vs:=by
 have ho:∀ q,OkR n (fun q=>q≠o) W vs q→OkR n (fun q=>q≠o) W' vs q:=fun q hq=>⟨hq.1.same (hk.block q hq.2.2 hq.1.lt),hq.2⟩
 have hb:∀ q,OkR n (fun q=>q≠o) W vs q→q<W.heap.size→W'.heap[q]? = W.heap[q]?:=fun q hq hs=>hk.block q hq.2.2 hs
 exact⟨h.row.keep hk.size ho hb,h.kids.all hk.size ho hb,h.sys.keep hk (fun _ _ h=>h),h.ge⟩
theorem Whole.next {n o p:Nat} {t:Tm} {k:Nat} {W W2:World} {va vk vs vf vl:Value} {b:List C × List Tm} (ty:TypeId) (h:Whole n o t k W va vk vs) (hx:t.sys[k]? = some b) (hnW:n≤W.heap.size) (ho:o<W.heap.size) (hb:Below W.heap.size W W2) (hh:Half W.heap.size p b.1 b.2 W2 vf vl) (hl:k+1≤200000) :
  ∃ vs' W4,(Builtin.append_ #[24,24] ty #[vs,.slice (some ⟨W2.heap.size,0,none⟩) 1 1]).run Tryz.prog (W2.alloc (.cells #[vf,vl] 40))=.ok vs' W4∧Whole n o t (k+1) W4 va vk vs'∧Below n W W4∧W4.heap[o]? = W.heap[o]?:=by
 obtain⟨W3,hW3⟩:∃ W3,W3=W2.alloc (.cells #[vf,vl] 40):=⟨_,rfl⟩
 have b3:Below W2.heap.size W2 W3:=by rw [hW3];exact belowA _ _
 have hn:=heapNew W2 (.cells #[vf,vl] 40)
 rw [← hW3] at hn ⊢
 have bb:=bchain hb b3
 have h3:=h.blw bb
 have hs3:W3.heap.size=W2.heap.size+1:=by rw [hW3];simp
 have hlt:∀ k,vs.ownBlock=some k→n≤k∧k<W.heap.size∧k≠o:=fun k hk=>by
  obtain⟨us,h1,h2,h4,_⟩:=h.sys
  exact⟨(World.ownsRow.lt h2 k hk).1,(World.ownsRow.lt h2 k hk).2,h4 k hk⟩
 have hs2:=hb.size
 have up:∀ q,OkN W.heap.size W2 q→OkR n (fun q=>q≠o) W3 vs q:=fun q hq=>⟨(hq.mono hnW).blw b3,fun e=>by have:=(hlt q e.symm).2.1;have:=hq.1;omega,by have:=hq.1;omega⟩
 have hx3:ClRow (OkR n (fun q=>q≠o) W3 vs) W3 b.1 vf∧KdT (OkR n (fun q=>q≠o) W3 vs) W3 (TmIn (OkR n (fun q=>q≠o) W3 vs) W3) b.2 vl :=
  ⟨hh.row.keep b3.size (fun q hq=>up q hq.1) (fun q _ hs=>b3.block q hs),hh.kids.row.all b3.size (fun q hq=>up q hq.1) (fun q _ hs=>b3.block q hs)⟩
 have hkl:(t.sys.take k).length=k:=by rw [List.length_take];have:=some_lt hx;omega
 obtain⟨vs',W4,hrun,hO,hg,hv⟩:=append_B (x:=b) (u:=(vf,vl)) ty h3.sys ⟨W2.heap.size,0,none⟩ 1 (fun j y hy=>by
  rw [Addr.add_lit]
  match j with
  | 0=>simp [flat2] at hy;subst hy;simp [World.cell?,hn]
  | 1=>simp [flat2] at hy;subst hy;simp [World.cell?,hn]
  | j+2=>simp [flat2] at hy) hx3 (by rw [hkl];exact hl) (by omega) (by omega)
 rw [show t.sys.take k ++ [b]=t.sys.take (k+1) by rw [List.take_add_one,hx];rfl] at hO
 refine⟨vs',W4,hrun,⟨h3.row.keep hg.size (okr_grown hg hv) (fun q hq hs=>hg.block q hs hq.2.1),h3.kids.all hg.size (okr_grown hg hv) (fun q hq hs=>hg.block q hs hq.2.1),hO,h.ge⟩,?_,?_⟩
 ·exact (bb.mono hnW).trans ((Below.refl n W3).grown hg (by omega) (fun k hk=>(hlt k hk).1))
 ·have ho3:W3.heap[o]? = W.heap[o]?:=bb.block o ho
  rw [← ho3]
  exact hg.block o (by omega) (fun e=>(hlt o e.symm).2.2 rfl)
theorem Whole.term {n o:Nat} {t:Tm} {W:World} {va vk vs:Value} (h:Whole n o t t.sys.length W va vk vs) (hk:I64 t.kind) (hn:I64 t.n):TmIn (OkN n W) W t (.agg #[.int .i64 t.kind,.int .i64 t.n,.string t.name,va,vk,vs]):=by
 have h3:=h.sys
 rw [List.take_of_length_le (Nat.le_refl _)] at h3
 obtain⟨k0,n0,s0,r0,l0,y0⟩:=t
 exact TmIn.mk k0 n0 s0 r0 l0 y0 va vk vs hk hn (h.row.keep (Nat.le_refl _) (fun q hq=>hq.1) (fun _ _ _=>rfl)) (h.kids.all (Nat.le_refl _) (fun q hq=>hq.1) (fun _ _ _=>rfl)) (h3.row.all (Nat.le_refl _) (fun q hq=>hq.1) (fun _ _ _=>rfl))
end Go.Proofs.YtblbhmnahoiecaaGreat
