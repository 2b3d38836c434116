/- A part of the proof. -/
import Derived.Test.YtblbhmnahoiecaaGreatHG31
set_option linter.unusedVariables false
set_option linter.unusedSimpArgs false
set_option maxRecDepth 100000
set_option maxHeartbeats 4000000
namespace Go.Proofs.YtblbhmnahoiecaaGreat
open Go.RowKit
def badT (e:Int):Tm:=.mk (-e) 0 ⟨#[]⟩ [] [] []
theorem badT_in (ok:Nat->Prop) (w:World) {e:Int} (he:0<=e/\e<=1000):TmIn ok w (badT e) (.agg #[.int .i64 (-e),.int .i64 0,.string ⟨#[]⟩,.slice none 0 0,.slice none 0 0,.slice none 0 0]) :=
 TmIn.mk (-e) 0 ⟨#[]⟩ [] [] [] _ _ _ (by unfold I64;omega) (by unfold I64;omega) (cl_nil _ _) (kt_nil _ _ _) (sy_nil _ _ _)
def cutL (j:Int) (l:List C):List C:=(leastF (l.map (drC j))).1
def cutP (d:Bool) (j:Int) (p:List C × Int):List C × Int:=if d=true/\p.2=0 then (cutL j p.1,0) else p
def refOp (d:Bool) (i:Int) (r:List C):DOp:=⟨fun l bd=>cutP d (i+bd) (putRow putF i r l bd),fun l bd=>cutP d (i+bd) (putRow ptA i r l bd)⟩
def rpT (o:DOp) (t:Tm) (bd:Nat):Tm:=if eT o t bd=0 then dT o t bd else badT (eT o t bd)
def DOp.eb (o:DOp):Prop:=∀ l bd,(0<=(o.fn l bd).2/\(o.fn l bd).2<=1000)/\(0<=(o.fc l bd).2/\(o.fc l bd).2<=1000)
theorem firstE_bnd {l:List Int} (h:∀ x∈l,0<=x/\x<=1000):0<=firstE l/\firstE l<=1000:=by
 by_cases h0:firstE l=0
 ·rw [h0];omega
 ·exact h _ (firstE_mem h0)
theorem eT_bnd {o:DOp} (ho:o.eb):∀ (N:Nat) (t:Tm) (bd:Nat),blk t<=N->0<=eT o t bd/\eT o t bd<=1000
 | 0,t,bd,hN=>by have:=blk_pos t;omega
 | N+1,t,bd,hN=>by
  rw [e_eq]
  refine firstE_bnd fun x hx=>?_
  rcases List.mem_cons.1 hx with rfl|hx
  ·unfold ownP;split
   ·exact (ho _ _).2
   ·exact (ho _ _).1
  rcases List.mem_append.1 hx with hx|hx
  ·obtain⟨j,hj⟩:=List.mem_iff_getElem?.1 hx
   obtain⟨z,hz⟩:=someL (l:=t.kids) (k:=j) (by rw [<- eK_len o t.kind t.kids bd];exact some_lt hj)
   rw [eK_get hz] at hj
   injection hj with hj
   rw [<- hj];exact eT_bnd ho N z _ (by have:=blk_kid (List.mem_of_getElem? hz);omega)
  ·unfold eS at hx
   obtain⟨b,hb,rfl⟩:=List.mem_map.1 hx
   unfold eB
   refine firstE_bnd fun x hx=>?_
   rcases List.mem_cons.1 hx with rfl|hx
   ·exact (ho _ _).2
   ·split at hx
    ·unfold eBk at hx
     obtain⟨y,hy,rfl⟩:=List.mem_map.1 hx
     exact eT_bnd ho N y _ (by have:=blk_sub hb hy;omega)
    ·cases hx
theorem rpT_kind {o:DOp} (ho:o.eb) {t:Tm} {bd:Nat} (hk:1<=t.kind):(rpT o t bd).kind<0↔eT o t bd≠0:=by
 have hb:=eT_bnd ho _ t bd (Nat.le_refl _)
 unfold rpT
 by_cases h:eT o t bd=0
 ·rw [if_pos h,d_eq]
  show t.kind<0↔_
  constructor
  ·intro h2;omega
  ·intro h2;exact absurd h h2
 ·rw [if_neg h]
  show -(eT o t bd) < 0↔_
  constructor
  ·intro _;exact h
  ·intro _;omega
theorem told_er {a:List C × Int} (h:Told a):0<=a.2/\a.2<=1000:=by
 rcases h with h|h
 ·rw [h.1];decide
 ·rw [h];decide
theorem toldA_er {a:List C × Int} (h:ToldA a):0<=a.2/\a.2<=1000:=by
 rcases h with h|h
 ·rw [h.1];decide
 ·rw [h];decide
theorem putF_er (l:List C) (i:Int) (r:List C):0<=(putF l i r).2/\(putF l i r).2<=1000:=by
 unfold putF
 split
 ·exact told_er (Told.putR _ _ _)
 ·decide
theorem ptA_er (l:List C) (i:Int) (r:List C):0<=(ptA l i r).2/\(ptA l i r).2<=1000:=by
 unfold ptA
 split
 ·rename_i h
  simp only [Bool.and_eq_true] at h
  exact toldA_er (ToldA.pts i _ (rightA_ok h.1.1) (ToldA.ofZ h.2))
 ·decide
theorem leastF_er (l:List C):0<=(leastF l).2/\(leastF l).2<=1000:=by
 unfold leastF
 split
 ·split
  ·exact⟨Int.le_refl _,by show (0:Int)<=1000;decide⟩
  ·decide
 ·decide
theorem liftE_er (s:Nat) (a b:Int):0<=liftE s a b/\liftE s a b<=1000:=by
 unfold liftE
 repeat' split
 all_goals decide
theorem liftCE_er (c:C) (a b:Int):0<=liftCE c a b/\liftCE c a b<=1000:=by
 unfold liftCE
 split
 ·split
  ·exact liftE_er _ _ _
  ·exact liftE_er _ _ _
 ·decide
theorem liftS_er (a b:Int) (l:List C):0<=(liftS l a b).2/\(liftS l a b).2<=1000:=by
 induction l using snoc_ind with
 | nil=>exact⟨Int.le_refl _,by show (0:Int)<=1000;decide⟩
 | snoc l c ih =>
  rw [liftS_snoc]
  unfold stepL
  split
  ·split
   ·exact⟨Int.le_refl _,by show (0:Int)<=1000;decide⟩
   ·exact liftCE_er _ _ _
  ·exact ih
theorem liftFF_er (l:List C) (a b:Int):0<=(liftFF l a b).2/\(liftFF l a b).2<=1000:=by
 unfold liftFF
 split
 ·split
  ·exact leastF_er _
  ·exact liftS_er a b l
 ·decide
theorem putRow_er {PF:List C->Int->List C->List C × Int} (h:∀ l i r,0<=(PF l i r).2/\(PF l i r).2<=1000) (i:Int) (r l:List C) (bd:Nat):0<=(putRow PF i r l bd).2/\(putRow PF i r l bd).2<=1000:=by
 unfold putRow
 split
 ·split
  ·exact h _ _ _
  ·exact liftFF_er _ _ _
 ·exact⟨Int.le_refl _,by show (0:Int)<=1000;decide⟩
theorem cutP_er (d:Bool) (j:Int) (p:List C × Int):(cutP d j p).2=p.2:=by
 unfold cutP
 split
 ·rename_i h;exact h.2.symm
 ·rfl
theorem refOp_eb (d:Bool) (i:Int) (r:List C):(refOp d i r).eb:=fun l bd=>by
 refine⟨?_,?_⟩
 ·show 0<=(cutP d (i+bd) (putRow putF i r l bd)).2/\(cutP d (i+bd) (putRow putF i r l bd)).2<=1000
  rw [cutP_er];exact putRow_er putF_er i r l bd
 ·show 0<=(cutP d (i+bd) (putRow ptA i r l bd)).2/\(cutP d (i+bd) (putRow ptA i r l bd)).2<=1000
  rw [cutP_er];exact putRow_er ptA_er i r l bd
theorem drC_right (j:Int) (c:C):rightC (drC j c)=true:=rightC_iff.2 ⟨dropN_lt _ _,dropN_lt _ _⟩
theorem cut_least {j:Int} {l:List C} (h:l.length<=64):(leastF (l.map (drC j))).2=0 :=
 least_small (all_mem fun x hx=>by obtain⟨c,_,rfl⟩:=List.mem_map.1 hx;exact drC_right j c) (by rw [List.length_map];exact h)
theorem cut_empty {j:Int} {l:List C} (h:l.length<=64):(cutL j l).isEmpty=l.isEmpty:=by
 have h0:=cut_least (j:=j) h
 unfold cutL
 cases l with
 | nil =>
  have e:leastF ([]:List C)=([],0):=by decide
  rw [List.map_nil,e]
 | cons c l =>
  have hd:=(leastF_dn h0 (drC j c)).2 ⟨drC j c,by simp,belC_refl _⟩
  obtain⟨d,hd,_⟩:=hd
  cases hh:(leastF ((c :: l).map (drC j))).1 with
  | nil=>rw [hh] at hd;cases hd
  | cons _ _=>rfl
theorem cutL_len (j:Int) (l:List C):(cutL j l).length<=64:=leastF_len _
theorem ownsRow_less {w:World} {base base':Nat} {e:TypeId} {size:Nat} {v:Value} {n:Nat} {xs:List Value} (h:w.ownsRow base e size v n xs) (hb:base'<=base):w.ownsRow base' e size v n xs :=
 ⟨h.1,h.2.imp id (fun ⟨g,cap,cur,a,b,c⟩=>⟨g,cap,cur,a,Nat.le_trans hb b,c⟩)⟩
theorem refDrop_any (s:Nat) (i:Int) (w:World) (hs:s<4294967296) :
  Calls Tryz.prog 210 #[.int .u32 s,.int .i64 i] w fun e w'=>e=.returned (.int .u32 (dropN s i:Nat))/\Below w.heap.size w w':=by
 have HE:Hid (sumAll ((dimsOf (withoutN s i)).map (dnI i))=dropN s i):=drop_sum s i
 have H24:Hid (∀ k∈(dimsOf (withoutN s i)).map (dnI i),k<24):=dn_lt24 s i
 have HD24:Hid (∀ k∈dimsOf (withoutN s i),k<24):=dimsOf_lt
 have hdl:=dimsOf_length_le (withoutN s i)
 have hxl:withoutN s i<4294967296:=by have:=withoutN_lt s i;omega
 have hW:=refWithout_any s i w hs
 have hList:=fun w'=>refList_any (withoutN s i) w' hxl
 obtain⟨l,hl⟩:∃ l,l=dimsOf (withoutN s i):=⟨_,rfl⟩
 rw [<- hl] at HE H24 HD24 hdl hList
 clear hl
 obtain⟨y,hy⟩:∃ y,y=withoutN s i:=⟨_,rfl⟩
 rw [<- hy] at hxl hW hList
 clear hy
 go_enter Tryz.func210,Tryz.ntmps210
 go_wp2_with (first
  | (go_at_call 238;refine hW.mono ?_;rintro e w0 ⟨rfl,hB0⟩)
  | (go_at_call 233;refine (hList _).mono ?_;rintro e w1 ⟨v,rfl,hL,hB1⟩))
 have hB01:Below w.heap.size w w1:=hB0.trans (hB1.mono hB0.size)
 rcases nil_or_row hL with ⟨rfl,hnil⟩|⟨g,cap,rfl,hg⟩
 ·rw [hnil] at HE
  have H1:Hid (dropN s i=0):=HE.out.symm
  clear hnil
  go_loopw [6] (fun i wr=>i=.int .i64 0/\wr=w1) (fun _ _=>0)
  case atStart=>exact⟨rfl,rfl⟩
  case round =>
   obtain⟨rfl,rfl⟩:=hrel
   clear hW hList
   go_wp2_with (go_at_call 237;refine (refSet_any [] _ _ (.inl ⟨rfl,rfl⟩) (by simp) (by simp)).mono ?_;rintro e w' ⟨rfl,rfl⟩)
   go_ret
   exact⟨ret_int (by rw [H1.out];rfl),hB01⟩
 ·obtain⟨n,hn⟩:∃ n,n=l.length:=⟨_,rfl⟩
  unfold OwnsL at hL
  rw [<- hn] at hL hdl ⊢
  have HN:Hid (n=l.length):=hn
  clear hn hW hList
  have hgw:w.heap.size<=g:=Nat.le_trans hB0.size hg
  go_loopw [6] (fun i' wr=>∃ k:Nat,k<=n/\i'=.int .i64 k/\wr.ownsRow w.heap.size 3 1 (.slice (some ⟨g,0,none⟩) n cap) n ((midL (dnI i) l k).map encI)/\Below w.heap.size w wr) (fun i _=>n - (intOf i).toNat)
  case atStart=>exact⟨0,by omega,rfl,by rw [midL_zero];exact ownsRow_less hL hB0.size,hB01⟩
  case round =>
   obtain⟨k,hk,rfl,hown,hB⟩:=hrel
   by_cases hlt:k<n
   ·have hk':k<l.length:=by rw [<- HN.out];exact hlt
    have hck:wr.cell? ⟨g,k,none⟩=some (.int .i64 ((l[k]?.getD 0:Nat):Int)):=by
     rw [World.ownsRow.cellAt hown k (by omega),List.getElem?_map,midL_at _ _ _ hk'];rfl
    have hfk:=World.ownsRow.frozenAt hown k
    have hx24:l[k]?.getD 0<24:=getD_lt HD24.out hk'
    have hset:=midL_set (dnI i) l k hk'
    have hsame:=midL_same (dnI i) l k hk'
    obtain⟨x,hx⟩:∃ x,x=l[k]?.getD 0:=⟨_,rfl⟩
    rw [<- hx] at hck hx24 hset hsame
    clear hx hL
    by_cases h0:0<=i
    ·by_cases h1:i<(x:Int)
     ·have hst:=(World.ownsRow.stored hown k (.int .i64 ((x:Int) - 1))).1
      have e1:((midL (dnI i) l k).map encI).set k (.int .i64 ((x:Int) - 1))=(midL (dnI i) l (k+1)).map encI:=by
       rw [<- hset,dnI_yes h0 h1,<- encI_set]
       congr 1
       simp only [encI]
       congr 1
       omega
      rw [e1] at hst
      have hBs:Below w.heap.size w (wr.setCell ⟨g,k,none⟩ (.int .i64 ((x:Int) - 1))):=hB.setCell (p:=⟨g,k,none⟩) hgw _
      clear hset hsame e1 hown
      go_wp2
      go_roundw
      case rel=>exact⟨k+1,by omega,by go_num,hst,hBs⟩
      case measure=>simp [intOf];omega
     ·have HM:Hid (midL (dnI i) l (k+1)=midL (dnI i) l k):=hsame (dnI_no (by omega))
      clear hset hsame
      go_wp2
      go_roundw
      case rel=>exact⟨k+1,by omega,by go_num,by rw [HM.out];exact hown,hB⟩
      case measure=>simp [intOf];omega
    ·have HM:Hid (midL (dnI i) l (k+1)=midL (dnI i) l k):=hsame (dnI_no (by omega))
     clear hset hsame
     go_wp2
     go_roundw
     case rel=>exact⟨k+1,by omega,by go_num,by rw [HM.out];exact hown,hB⟩
     case measure=>simp [intOf];omega
   ·obtain rfl:k=n:=by omega
    have hL2:OwnsL wr w.heap.size (.slice (some ⟨g,0,none⟩) k cap) (l.map (dnI i)):=by
     unfold OwnsL
     have e:(l.map (dnI i)).length=k:=by rw [List.length_map];exact HN.out.symm
     have e2:midL (dnI i) l k=l.map (dnI i):=by rw [HN.out,midL_end]
     rw [e,<- e2];exact hown
    have hR:=hL2.rowAt
    have hlen:(l.map (dnI i)).length<=64:=by rw [List.length_map,<- HN.out];omega
    clear hL2 hown hL
    go_wp2_with (go_at_call 237;refine (refSet_any _ _ _ hR H24.out hlen).mono ?_;rintro e w' ⟨rfl,rfl⟩)
    go_ret
    exact⟨ret_int (by rw [HE.out]),hB⟩
attribute [local go_sem] Oper.semAt_some
theorem rbad_any (e:Int) (he:0<=e/\e<=1000) (w:World) :
  Calls Tryz.prog 123 #[.int .i64 e] w fun x w'=>x=.returned (.agg #[.int .i64 (-e),.int .i64 0,.string ⟨#[]⟩,.slice none 0 0,.slice none 0 0,.slice none 0 0])/\Below w.heap.size w w':=by
 obtain⟨w1,hw1⟩:∃ W,W=w.alloc (.cells #[.int .i64 0,.int .i64 0,.string ⟨#[]⟩,.slice none 0 0,.slice none 0 0,.slice none 0 0] 26):=⟨_,rfl⟩
 have b1:Below w.heap.size w w1:=by rw [hw1];exact belowA _ _
 obtain⟨X,hX⟩:∃ X,X=w.heap.size:=⟨_,rfl⟩
 have x1:Six w1 X (.int .i64 0) (.int .i64 0) (.string ⟨#[]⟩) (.slice none 0 0) (.slice none 0 0) (.slice none 0 0):=⟨by rw [hX,hw1];exact heapNew w _⟩
 have HW:Hid (_=_):=hw1
 have HX:Hid (X=w.heap.size):=hX
 have wr1:wrap64 (-e) = -e:=by simp [wrap64];omega
 obtain⟨w2,hw2,y8,k2,e0,e1,e2,e3,e4,e5,g0,g1,g2,g3,g4,g5⟩:=zst x1 (.int .i64 (-e)) (.int .i64 0) (.string ⟨#[]⟩) (.slice none 0 0) (.slice none 0 0) (.slice none 0 0)
 have Hb:Hid (Below w.heap.size w w2):=b1.trans (k2.below (fun q hq=>by omega) (by have:=b1.size;omega))
 obtain⟨h0,h1,h2,h3,h4,h5,_⟩:=y8.cells
 have H2:Hid (_=_):=hw2
 clear hw1 hw2 hX x1 y8 b1 k2
 go_enter Tryz.func123,Tryz.ntmps123
 go_upto_region 1 with fail
 rw [<- HW.out]
 simp only [<- HX.out]
 clear HW
 go_wp2_with fail
 rw [<- H2.out]
 exact bodyPost_ret (v:=.agg #[.int .i64 (-e),.int .i64 0,.string ⟨#[]⟩,.slice none 0 0,.slice none 0 0,.slice none 0 0]) (by simp only [results,Tryz.results123];simp [go_sem,h0,h1,h2,h3,h4,h5]) rfl ⟨rfl,Hb.out⟩
theorem map_take_stepR {l:List C} {k:Nat} {c:C} (f:C->C) (h:l[k]? = some c):(l.take (k+1)).map f=(l.take k).map f ++ [f c]:=by
 rw [List.take_add_one,h,List.map_append];rfl
theorem rcut_any (l:List C) (j:Int) (v:Value) (w:World) (hl:CRow w v l) (hll:l.length<=40000) :
  Calls Tryz.prog 165 #[v,.int .i64 j] w fun e w'=>∃ v',e=.returned v'/\OwnsC w' w.heap.size v' (cutL j l)/\Below w.heap.size w w':=by
 have Ha:Hid (∀ W,Below w.heap.size w W->CRow W v l):=fun W h=>hl.below h
 obtain⟨pa,ca,rfl⟩:=hl.len
 clear hl
 obtain⟨n,hn⟩:∃ n,n=l.length:=⟨_,rfl⟩
 have Hn:Hid (n=l.length):=hn
 rw [<- hn] at hll Ha ⊢
 clear hn
 go_enter Tryz.func165,Tryz.ntmps165
 go_wp2_with fail
 go_loopw [5,6] (fun v i wr=>∃ k:Nat,k<=n/\i=.int .i64 k/\OwnsC wr w.heap.size v ((l.take k).map (drC j))/\Below w.heap.size w wr) (fun _ i _=>n - (intOf i).toNat)
 case atStart=>exact⟨0,Nat.zero_le _,rfl,World.ownsRow_nil _ _ _ _,Below.refl _ _⟩
 case round =>
  obtain⟨k,hk,rfl,hO,hny⟩:=hrel
  have hlen:((l.take k).map (drC j)).length<=n:=by rw [List.length_map,List.length_take,<- Hn.out];omega
  have hlen0:(l.map (drC j)).length<=n:=by rw [List.length_map,<- Hn.out];exact Nat.le_refl _
  by_cases hlt:k<n
  ·obtain⟨c,hck⟩:=get_some (l:=l) (k:=k) (by rw [<- Hn.out];exact hlt)
   have hg0:=(Ha.out _ hny).at hck
   obtain⟨g,off,rfl,hg,x0,x1⟩:=hg0
   have hkI:(k:Int) < (n:Int):=by omega
   have HO:Hid (OwnsC wr w.heap.size _ ((l.take k).map (drC j))):=hO
   have hst:=map_take_stepR (drC j) hck
   obtain⟨D,hD⟩:∃ D,D=drC j c:=⟨_,rfl⟩
   have HD:Hid (D.1.val=dropN c.1.val j/\D.2.val=dropN c.2.val j):=by rw [hD];exact⟨rfl,rfl⟩
   rw [<- hD] at hst
   have Hst:Hid (_=_):=hst
   have HL:Hid (((l.take k).map (drC j)).length + [D].length<=200000):=by show ((l.take k).map (drC j)).length+1<=200000;omega
   obtain⟨p9,q9,rfl⟩:=OwnsC.len hO
   have c1:Hid (∀ V:World,Calls Tryz.prog 210 #[.int .u32 (c.1.val:Int),.int .i64 j] V fun e w'=>e=.returned (.int .u32 (D.1.val:Nat))/\Below V.heap.size V w'):=fun V=>by rw [HD.out.1];exact refDrop_any c.1.val j V c.1.isLt
   have c2:Hid (∀ V:World,Calls Tryz.prog 210 #[.int .u32 (c.2.val:Int),.int .i64 j] V fun e w'=>e=.returned (.int .u32 (D.2.val:Nat))/\Below V.heap.size V w'):=fun V=>by rw [HD.out.2];exact refDrop_any c.2.val j V c.2.isLt
   have HX:Hid (∀ V,Below w.heap.size w V->V.cell? ⟨g,off+k*2,none⟩=some (.int .u32 (c.1.val:Int))/\V.cell? ⟨g,off+k*2+1,none⟩=some (.int .u32 (c.2.val:Int))):=fun V q=>by
    obtain⟨g',off',e,hg',y0,y1⟩:=(Ha.out V q).at hck
    have e':g=g'/\off=off':=by simpa using e
    obtain⟨rfl,rfl⟩:=e'
    exact⟨y0,y1⟩
   clear hD hst hck x0 x1 hO hlen hlen0
   obtain⟨M,hM⟩:∃ M,M=(l.take k).map (drC j):=⟨_,rfl⟩
   rw [<- hM] at HO HL Hst
   simp only [<- hM]
   clear hM
   go_upto_region 5 with fail
   have hS1:Below wr.heap.size wr wr.drew:=(Below.refl _ _).drew
   have hO2:=OwnsC.below HO.out hS1
   refine wp_region_held_drew (S:=fun V=>Below w.heap.size w V) (by kernel_rfl) (hny.drew) (fun hS=>?_)
   obtain⟨wd,hwd⟩:∃ V,V=wr.drew:=⟨_,rfl⟩
   rw [<- hwd] at hS hO2 ⊢
   clear hwd hS1
   refine zk 0 (.slice p9 M.length q9) rfl (by rfl) (fun w hS=>by go_simp) hS ?_
   try simp only [Act.put,zg1,zg2,zg3,zs1,zs2,zs3]
   refine zk 1 (.slice (some ⟨g,off,none⟩) n ca) rfl (by rfl) (fun w hS=>by go_simp) hS ?_
   try simp only [Act.put,zg1,zg2,zg3,zs1,zs2,zs3]
   refine zk 2 (.int .i64 k) rfl (by rfl) (fun w hS=>by go_simp) hS ?_
   try simp only [Act.put,zg1,zg2,zg3,zs1,zs2,zs3]
   refine zk 3 (.pointer (some ⟨g,off+k*2,none⟩)) rfl (by rfl) (fun w hS=>by go_simp) hS ?_
   try simp only [Act.put,zg1,zg2,zg3,zs1,zs2,zs3]
   refine zk 4 (.pointer (some ⟨g,off+k*2,none⟩)) rfl (by rfl) (fun w hS=>by go_simp) hS ?_
   try simp only [Act.put,zg1,zg2,zg3,zs1,zs2,zs3]
   refine zk 5 (.int .u32 (c.1.val:Int)) rfl (by rfl) (fun w hS=>by have e:=(HX.out w hS).1;go_simp) hS ?_
   try simp only [Act.put,zg1,zg2,zg3,zs1,zs2,zs3]
   refine zk 6 (.int .i64 j) rfl (by rfl) (fun w hS=>by go_simp) hS ?_
   try simp only [Act.put,zg1,zg2,zg3,zs1,zs2,zs3]
   refine zk 8 (.slice (some ⟨g,off,none⟩) n ca) rfl (by rfl) (fun w hS=>by go_simp) hS ?_
   try simp only [Act.put,zg1,zg2,zg3,zs1,zs2,zs3]
   refine zk 9 (.int .i64 k) rfl (by rfl) (fun w hS=>by go_simp) hS ?_
   try simp only [Act.put,zg1,zg2,zg3,zs1,zs2,zs3]
   refine zk 10 (.pointer (some ⟨g,off+k*2,none⟩)) rfl (by rfl) (fun w hS=>by go_simp) hS ?_
   try simp only [Act.put,zg1,zg2,zg3,zs1,zs2,zs3]
   refine zk 11 (.pointer (some ⟨g,off+k*2+1,none⟩)) rfl (by rfl) (fun w hS=>by go_simp) hS ?_
   try simp only [Act.put,zg1,zg2,zg3,zs1,zs2,zs3]
   refine zk 12 (.int .u32 (c.2.val:Int)) rfl (by rfl) (fun w hS=>by have e:=(HX.out w hS).2;go_simp) hS ?_
   try simp only [Act.put,zg1,zg2,zg3,zs1,zs2,zs3]
   refine zk 13 (.int .i64 j) rfl (by rfl) (fun w hS=>by go_simp) hS ?_
   try simp only [Act.put,zg1,zg2,zg3,zs1,zs2,zs3]
   refine zr 7 rfl (fun KK hKK=>?_)
   refine⟨?_⟩
   have cc:=c1.out wd
   go_simp
   refine cc.mono ?_
   rintro e u1 ⟨rfl,hbP⟩
   have hSu1:Below w.heap.size w u1:=hS.trans (hbP.mono hS.size)
   replace hO2:=OwnsC.below hO2 hbP
   clear cc hbP
   refine hKK.out _ _ hSu1 (fun hS=>?_)
   clear hKK KK
   try simp only [Act.put,zg1,zg2,zg3,zs1,zs2,zs3]
   refine zr 14 rfl (fun KK hKK=>?_)
   refine⟨?_⟩
   have cc:=c2.out u1
   go_simp
   refine cc.mono ?_
   rintro e u2 ⟨rfl,hbP⟩
   have hSu2:Below w.heap.size w u2:=hS.trans (hbP.mono hS.size)
   replace hO2:=OwnsC.below hO2 hbP
   clear cc hbP
   refine hKK.out _ _ hSu2 (fun hS=>?_)
   clear hKK KK
   try simp only [Act.put,zg1,zg2,zg3,zs1,zs2,zs3]
   refine zk 15 (.agg #[.int .u32 (D.1.val:Int),.int .u32 (D.2.val:Int)]) rfl (by rfl) (fun w hS=>by go_simp) hS ?_
   try simp only [Act.put,zg1,zg2,zg3,zs1,zs2,zs3]
   refine zr 16 rfl (fun KK hKK=>?_)
   obtain⟨u3,hu3⟩:∃ W,W=u2.alloc (.cells #[.int .u32 (D.1.val:Int),.int .u32 (D.2.val:Int)] 38):=⟨_,rfl⟩
   have bu3:Below u2.heap.size u2 u3:=by rw [hu3];exact belowA _ _
   have hr3:CRow u3 (.slice (some ⟨u2.heap.size,0,none⟩) 1 1) [D]:=by rw [hu3];exact row_one _ _
   have hSu3:Below w.heap.size w u3:=hS.trans (bu3.mono hS.size)
   replace hO2:=OwnsC.below hO2 bu3
   have Hu3:Hid (_=_):=hu3
   clear hu3
   refine⟨?_⟩
   go_simp
   rw [<- Hu3.out]
   refine hKK.out _ _ hSu3 (fun hS=>?_)
   clear hKK KK
   try simp only [Act.put,zg1,zg2,zg3,zs1,zs2,zs3]
   refine zr 17 rfl (fun KK hKK=>?_)
   obtain⟨v4,w4,hrun,hO4,hg4,hv4⟩:=append_row 22 hO2 hr3 HL.out hS.size
   have hSw4:Below w.heap.size w w4:=hS.trans (own_grown hO2 hg4 hS.size)
   rw [<- Hst.out] at hO4
   clear hO2 hr3 hg4 hv4
   refine⟨step_append rfl _ _ _ rfl _ _ _ _ rfl rfl hrun ?_⟩
   refine hKK.out _ _ hSw4 (fun hS=>?_)
   clear hKK KK
   try simp only [Act.put,zg1,zg2,zg3,zs1,zs2,zs3]
   refine zk 18 (v4) rfl (by rfl) (fun w hS=>by go_simp) hS ?_
   try simp only [Act.put,zg1,zg2,zg3,zs1,zs2,zs3]
   refine wpAnyH_done (by kernel_rfl) ?_ _
   go_wp2_with fail
   go_roundw
   case rel=>exact⟨k+1,by omega,by go_num,hO4,hS⟩
   case measure=>simp [intOf];omega
  ·obtain rfl:k=n:=by omega
   have hkI:¬ (k:Int) < (k:Int):=by omega
   have e:l.take k=l:=List.take_of_length_le (by rw [<- Hn.out];exact Nat.le_refl _)
   rw [e] at hO
   have HE:Hid (cutL j l=(leastF (l.map (drC j))).1):=(rfl:_=_)
   obtain⟨M,hM⟩:∃ M,M=l.map (drC j):=⟨_,rfl⟩
   rw [<- hM] at hO HE hlen0
   have cL:=refleastC M _ wr (OwnsC.row hO) (by omega)
   obtain⟨p9,q9,rfl⟩:=OwnsC.len hO
   clear hM e
   go_wp2_with fail
   refine cL.mono ?_
   rintro e w3 ⟨v3,rfl,hO3,hB3⟩
   clear cL
   go_wp2_with fail
   go_ret
   exact⟨_,rfl,by rw [HE.out];exact OwnsC.mono hO3 hny.size,chain hny hB3⟩
end Go.Proofs.YtblbhmnahoiecaaGreat
