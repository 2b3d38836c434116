/- A part of the proof. -/
import Derived.Test.YtblbhmnahoiecaaGreatHG12
import Derived.StillTailTactics
set_option linter.unusedVariables false
set_option linter.unusedSimpArgs false
set_option maxRecDepth 100000
set_option maxHeartbeats 8000000
namespace Go.Proofs.YtblbhmnahoiecaaGreat
open Go.RowKit
attribute [local go_sem] Oper.semAt_some
theorem wrapId {z:Int} (h0 : -1000000000<=z) (h1:z<=1000000000):IntKind.i64.wrap z=z:=by
 simp [IntKind.wrap,IntKind.bits,IntKind.signed];omega
theorem flat_at {α β:Type} {l:List α} {f:α->List β} {j i:Nat} {b:α} {x:β} (hb:l[j]? = some b) (hx:(f b)[i]? = some x):(l.flatMap f)[((l.take j).flatMap f).length+i]? = some x:=by
 have e:l=l.take j++b :: l.drop (j+1):=by
  obtain⟨h1,h2⟩:=List.getElem?_eq_some_iff.1 hb
  rw [<- h2,List.getElem_cons_drop,List.take_append_drop]
 have hi:=some_lt hx
 rw [show l.flatMap f=(l.take j).flatMap f++(f b++(l.drop (j+1)).flatMap f) by rw [<- List.flatMap_cons,<- List.flatMap_append,<- e]]
 rw [List.getElem?_append_right (by omega),Nat.add_sub_cancel_left,List.getElem?_append_left hi]
 exact hx
theorem flat_step {α β:Type} {l:List α} {f:α->List β} {j:Nat} {b:α} (hb:l[j]? = some b):((l.take (j+1)).flatMap f).length=((l.take j).flatMap f).length+(f b).length:=by
 rw [List.take_add_one,hb];simp
def subs (t:Tm) (j:Nat):Nat:=((t.sys.take j).flatMap fun b=>b.2.map fun x=>(x,0,moreK t.kind)).length
theorem subs_step {t:Tm} {j:Nat} {b:List C × List Tm} (hb:t.sys[j]? = some b):subs t (j+1)=subs t j+b.2.length:=by
 unfold subs;rw [flat_step hb];simp
theorem pts_len (t:Tm):t.pts.length=t.kids.length+subs t t.sys.length:=by
 unfold Tm.pts ptsG subs;rw [List.length_append,List.take_of_length_le (Nat.le_refl _)];simp
theorem pts_at_kid {t:Tm} {i:Nat} {x:Tm} (h:t.kids[i]? = some x):t.pts[i]? = some (x,bvK t.kind i,bdK t.kind i):=by
 have hi:=some_lt h
 unfold Tm.pts ptsG
 rw [List.getElem?_append_left (by simpa using hi)]
 simp [h]
theorem pts_at_sub {t:Tm} {j i:Nat} {b:List C × List Tm} {x:Tm} (hb:t.sys[j]? = some b) (hx:b.2[i]? = some x):t.pts[t.kids.length+(subs t j+i)]? = some (x,0,moreK t.kind):=by
 unfold Tm.pts ptsG subs
 rw [List.getElem?_append_right (by simp)]
 simp only [List.length_map,List.length_zipIdx,Nat.add_sub_cancel_left]
 exact flat_at (f:=fun b:List C × List Tm=>b.2.map fun x=>(x,0,moreK t.kind)) hb (by simp [hx])
def PartA (ok:Nat->Prop) (w:World) (t:Tm) (bv bd k:Nat) (args:Array Value):Prop :=
 ∃ p g off ra rc ka kc sa sc,t.pts[k]? = some p/\args=#[.pointer (some ⟨g,off,none⟩),.agg #[.int .i64 ((bv+p.2.1:Nat):Int),.int .i64 ((bd+p.2.2:Nat):Int)]]/\ok g/\Cs6 w g off p.1 ra rc ka kc sa sc/\TmTop ok w p.1 ra rc ka kc sa sc
theorem parts_any (bv bd : Int) (p : Option Addr) (w : World) : Calls Tryz.prog 181 #[.agg #[.int .i64 bv, .int .i64 bd], .pointer p] w fun e w' =>
    e=.returned (.func (.func 229) #[] #[.pointer (some ⟨w.heap.size+1,0,none⟩),.pointer (some ⟨w.heap.size,0,none⟩)])/\w'=(w.alloc (.cells #[.int .i64 bv,.int .i64 bd] 144)).alloc (.cells #[.pointer p] 119):=by
  go_enter Tryz.func181,Tryz.ntmps181
  go_wp2
  go_ret
  exact⟨rfl,rfl⟩
theorem parts_iter (n : Nat) (hn : 1 <= n) (ok : Nat -> Prop) (t : Tm) (bv bd bt bx ab g off : Nat) (ra : Option Addr) (rc : Nat) (ka : Option Addr) (kc : Nat) (sa : Option Addr) (sc : Nat) (w : World)
    (h6:Cs6 w g off t ra rc ka kc sa sc) (ht:TmTop ok w t ra rc ka kc sa sc) (hok:∀ q,ok q->q≠bx/\q≠ab) (hg:ok g) (hbt:w.heap[bt]? = some (.cells #[.pointer (some ⟨g,off,none⟩)] 119 (0,0)))
    (hbx:w.heap[bx]? = some (.cells #[.int .i64 (bv:Int),.int .i64 (bd:Int)] 144 (0,0))) (htx:bt≠bx) (hta:bt≠ab) (hxa:bx≠ab) (hab:ab<w.heap.size) (hb1:bv<=1000000) (hb2:bd<=1000000) (hsz:blk t<=1000000) :
    IterC n Tryz.prog 229 #[.pointer (some ⟨bt,0,none⟩),.pointer (some ⟨bx,0,none⟩)] (PartA ok w t bv bd) t.pts.length bx ab w:=fun l J X W hW hJ hY h0=>by
  obtain⟨hl1,hl2,hl3,hl4⟩:=blk_lens t
  obtain⟨L,hL⟩:∃ L,L=t.kids.length:=⟨_,rfl⟩
  have HL:Hid (L=t.kids.length):=hL
  have c4:=h6.c4
  have c5:=h6.c5
  have c0:=h6.c0
  rw [<- hL] at c4
  have hLb:L<=1000000:=by omega
  clear hL
  have ctW:W.cell? ⟨bt,0,none⟩=some (.pointer (some ⟨g,off,none⟩)):=by
    have:=(hW.block bt (Array.getElem?_eq_some_iff.1 hbt).1).trans hbt
    unfold World.cell?; simp [this]
  refine callsIn_of_wp Tryz.func229 rfl trivial ?_ rfl
  simp only [Tryz.ntmps229,List.size_toArray,List.length_cons,List.length_nil,Nat.reduceAdd,Nat.reduceSub,Array.replicate_succ,Array.replicate_zero,List.push_toArray,List.append_toArray,List.nil_append,List.cons_append]
  have c4W:W.cell? ⟨g,off+4,none⟩=some (.slice ka L kc):=(hW.cell (p:=⟨g,off+4,none⟩) h6.lt).trans c4
  gi_wp2
  gi_loopw [15] (fun i wr=>∃ k:Nat,k<=L/\i=.int .i64 k/\J k wr/\Kn (fun q=>q≠ab) W wr) (fun i _=>L - (intOf i).toNat)
  case atStart=>exact⟨0,Nat.zero_le _,rfl,h0,Kn.refl _ _⟩
  case round =>
    obtain⟨k,hk,rfl,hJs,hKn⟩:=hrel
    by_cases hlt:k<L
    . obtain⟨x,hx⟩:=someL (l:=t.kids) (k:=k) (by rw [<- HL.out];exact hlt)
      obtain⟨kg,koff,ra',rc',ka',kc',sa',sc',rfl,hkg,h6x,htx'⟩:=ht.kids.at hx
      have hp:=pts_at_kid hx
      have hA:PartA ok w t bv bd k #[.pointer (some ⟨kg,koff+k*6,none⟩),.agg #[.int .i64 ((bv+bvK t.kind k:Nat):Int),.int .i64 ((bd+bdK t.kind k:Nat):Int)]]:=⟨_,kg,koff+k*6,ra',rc',ka',kc',sa',sc',hp,rfl,hkg,h6x,htx'⟩
      obtain⟨fn,tmps,assign,body,hy,hR⟩:=hY k _ wr.drew (some_lt hp) hA (hJ k wr _ hJs (Kn.refl _ _).drew)
      have cg:=fun (q o:Nat) (v:Value) (hq:q≠ab) (hqs:q<w.heap.size) (e:w.cell? ⟨q,o,none⟩=some v)=>(hKn.cell (p:=⟨q,o,none⟩) hq (Nat.lt_of_lt_of_le hqs hW.size)).trans ((hW.cell (p:=⟨q,o,none⟩) hqs).trans e)
      have d4:=cg g (off+4) _ (hok g hg).2 h6.lt c4
      have d0:=cg g off _ (hok g hg).2 h6.lt c0
      have dt:=(hKn.cell (p:=⟨bt,0,none⟩) hta (Nat.lt_of_lt_of_le (Array.getElem?_eq_some_iff.1 hbt).1 hW.size)).trans ctW
      have hxl:=(Array.getElem?_eq_some_iff.1 hbx).1
      have x0:=cg bx 0 _ hxa hxl (by unfold World.cell?; simp [hbx];rfl)
      have x1:=cg bx 1 _ hxa hxl (by unfold World.cell?; simp [hbx];rfl)
      have v1:=bvK_le t.kind k
      have v2:=bdK_le t.kind k
      have cB:=bindsC_any t.kind (k:Int) wr
      rw [bvI_nat,bdI_nat] at cB
      obtain⟨y1,hy1⟩:∃ y,y=bvK t.kind k:=⟨_,rfl⟩
      obtain⟨y2,hy2⟩:∃ y,y=bdK t.kind k:=⟨_,rfl⟩
      rw [<- hy1,<- hy2] at hy cB
      simp only [Int.natCast_add] at hy
      rw [<- hy1] at v1
      rw [<- hy2] at v2
      clear hy1 hy2 cg hA hp h6x htx' hx ht
      have wr1:IntKind.i64.wrap ((bv:Int) + (y1:Int))=(bv:Int) + (y1:Int):=wrapId (by omega) (by omega)
      have wr2:IntKind.i64.wrap ((bd:Int) + (y2:Int))=(bd:Int) + (y2:Int):=wrapId (by omega) (by omega)
      gi_wp2_with (refine⟨trivial,?_⟩;gi_at_call 112;refine (callsIn_wide.2 cB).mono ?_;rintro e w' ⟨rfl,rfl⟩)
      refine in_region_tail (fun _=>trivial) rfl (fun h=>callsIn_wide.2 h) 16 (by kernel_rfl) (by kernel_rfl) (by kernel_rfl) ?_
      simp only [List.take_succ_cons,List.take_zero,List.drop_succ_cons,List.drop_zero]
      repeat still_step
      refine wpStill_nil ?_
      gi_wp2
      refine hR.mono ?_
      rintro e W3 (⟨rfl,hJ3,hk3⟩ | ⟨rfl,hJx3⟩)
      . gi_wp2
        go_roundw
        case rel=>exact⟨k+1,by omega,by go_num,hJ3,hKn.trans ((Kn.refl _ _).drew.trans hk3)⟩
        case measure=>simp [intOf];omega
      . gi_wp2
        refine bodyPost_ret (results_none rfl _ _ _) rfl ?_
        exact⟨⟨_,rfl⟩,.inr hJx3⟩
    . obtain rfl:k=L:=by omega
      clear hlt
      have hsl:bx<w.heap.size:=(Array.getElem?_eq_some_iff.1 hbx).1
      have hsW:=hW.size
      have cg:=fun (q o:Nat) (v:Value) (hq:q≠ab) (hqs:q<w.heap.size) (e:w.cell? ⟨q,o,none⟩=some v)=>(hKn.cell (p:=⟨q,o,none⟩) hq (Nat.lt_of_lt_of_le hqs hW.size)).trans ((hW.cell (p:=⟨q,o,none⟩) hqs).trans e)
      have d0:=cg g off _ (hok g hg).2 h6.lt c0
      have d5:=cg g (off+5) _ (hok g hg).2 h6.lt c5
      have dt:=(hKn.cell (p:=⟨bt,0,none⟩) hta (Nat.lt_of_lt_of_le (Array.getElem?_eq_some_iff.1 hbt).1 hW.size)).trans ctW
      have x0:=cg bx 0 _ hxa hsl (by unfold World.cell?; simp [hbx];rfl)
      have x1:=cg bx 1 _ hxa hsl (by unfold World.cell?; simp [hbx];rfl)
      have xf:wr.frozen? ⟨bx,1,none⟩=false:=(hKn.frozen (p:=⟨bx,1,none⟩) hxa (by show bx<_;omega)).trans ((hW.frozen (p:=⟨bx,1,none⟩) hsl).trans (by unfold World.frozen?; simp [hbx]))
      obtain⟨S,hS⟩:∃ S,S=t.sys.length:=⟨_,rfl⟩
      rw [<- hS] at d5 hl4
      have HS:Hid (S=t.sys.length):=hS
      clear hS
      have hmk:=moreK_le t.kind
      obtain⟨M,hM⟩:∃ M,M=moreK t.kind:=⟨_,rfl⟩
      have HM:Hid (M=moreK t.kind):=hM
      have key:∃ W4,(t.kind=15->W4=wr.setCell ⟨bx,1,none⟩ (.int .i64 ((bd:Int) + 1)))/\(¬ t.kind=15->W4=wr)/\Kn (fun q=>q≠bx) wr W4/\W4.cell? ⟨bx,0,none⟩=some (.int .i64 (bv:Int))/\W4.cell? ⟨bx,1,none⟩=some (.int .i64 ((bd:Int) + (M:Int))):=by
        by_cases e15:t.kind=15
        . refine⟨_,fun _=>rfl,fun h=>absurd e15 h,(Kn.refl _ _).setCell (p:=⟨bx,1,none⟩) (.inl fun h=>h rfl) _,?_,?_⟩
          . rw [World.cell?_setCell_other _ _ _ _ (by simp)];exact x0
          . rw [World.cell?_setCell_same' _ _ _ (by rw [x1];rfl),hM];unfold moreK;rw [if_pos e15];rfl
        . refine⟨_,fun h=>absurd h e15,fun _=>rfl,Kn.refl _ _,x0,?_⟩
          rw [x1,hM];unfold moreK;rw [if_neg e15];simp
      obtain⟨W4,k1,k2,k3,z0,z1⟩:=key
      have hJ4:=hJ _ _ _ hJs k3
      have hK4:Kn (fun q=>q≠ab/\q≠bx) W W4:=(hKn.sub fun q h=>h.1).trans (k3.sub fun q h=>h.2)
      have e5:=(k3.cell (p:=⟨g,off+5,none⟩) (hok g hg).1 (by show g<_;have:=h6.lt;have:=hKn.size;omega)).trans d5
      have et:=(k3.cell (p:=⟨bt,0,none⟩) htx (by show bt<_;have:=(Array.getElem?_eq_some_iff.1 hbt).1;have:=hKn.size;omega)).trans dt
      have HW4:Hid ((t.kind=15->W4=wr.setCell ⟨bx,1,none⟩ (.int .i64 ((bd:Int) + 1)))/\(¬ t.kind=15->W4=wr)):=⟨k1,k2⟩
      clear hM k1 k2 cg k3
      by_cases e15:t.kind=15
      all_goals
        first
          | (have e4 := HW4.out.1 e15
             have H4:Hid (_=_):=e4
             clear e4
             rw [e15] at d0
             gi_wp2
             rw [<- H4.out]
             clear H4)
          | (have e4 := HW4.out.2 e15
             subst e4
             gi_wp2)
        clear HW4
        gi_loopw [60] (fun i wq=>∃ j:Nat,j<=S/\i=.int .i64 j/\J (k+subs t j) wq/\Kn (fun q=>q≠ab/\q≠bx) W wq/\wq.cell? ⟨bx,0,none⟩=some (.int .i64 (bv:Int))/\wq.cell? ⟨bx,1,none⟩=some (.int .i64 ((bd:Int) + (M:Int)))) (fun i _=>S - (intOf i).toNat)
        case atStart=>exact⟨0,Nat.zero_le _,rfl,hJ4,hK4,z0,z1⟩
        case round =>
          obtain⟨wo,hwo⟩:∃ wo,wo=wr:=⟨_,rfl⟩
          subst hwo
          clear hKn hJs hJ4 hK4 z0 z1 e5 et d0 d5 dt x0 x1 xf
          obtain⟨j,hj,rfl,hJj,hKj,z0,z1⟩:=hrel
          by_cases hlt:j<S
          . obtain⟨b,hb⟩:=someL (l:=t.sys) (k:=j) (by rw [<- HS.out];exact hlt)
            obtain⟨sg,soff,fa,fc,ka2,kc2,rfl,hsg,h2,hcl,hkd⟩:=ht.sys.at hb
            have hbl:=blk_br (List.mem_of_getElem? hb)
            have hbl2:=blkL_len b.2
            have q0:=(hKj.cell (p:=⟨sg,soff+j*2,none⟩) ⟨(hok sg hsg).2,(hok sg hsg).1⟩ (Nat.lt_of_lt_of_le h2.lt hW.size)).trans ((hW.cell (p:=⟨sg,soff+j*2,none⟩) h2.lt).trans h2.c0)
            have q1:=(hKj.cell (p:=⟨sg,soff+j*2+1,none⟩) ⟨(hok sg hsg).2,(hok sg hsg).1⟩ (Nat.lt_of_lt_of_le h2.lt hW.size)).trans ((hW.cell (p:=⟨sg,soff+j*2+1,none⟩) h2.lt).trans h2.c1)
            obtain⟨w5,hw5⟩:∃ w5,w5=wo.alloc (.cells #[.slice fa b.1.length fc,.slice ka2 b.2.length kc2] 40):=⟨_,rfl⟩
            have b5:Below wo.heap.size wo w5:=by rw [hw5];exact belowA _ _
            have n5:w5.heap[wo.heap.size]? = some (.cells #[.slice fa b.1.length fc,.slice ka2 b.2.length kc2] 40 (0,0)):=by rw [hw5];exact heapNew _ _
            have s5:wo.heap.size<w5.heap.size:=by rw [hw5];simp
            have H5:Hid (_=_):=hw5
            clear hw5
            obtain⟨Lb,hLb2⟩:∃ Lb,Lb=b.2.length:=⟨_,rfl⟩
            have HB:Hid (Lb=b.2.length):=hLb2
            rw [<- hLb2] at n5 H5 q1 hbl2
            clear hLb2
            have hLB:Lb<=1000000:=by omega
            have hso:w.heap.size<=wo.heap.size:=Nat.le_trans hW.size hKj.size
            have hJ5:=hJ _ _ _ hJj (Kn.of_below b5)
            have hK5:=hKj.trans (Kn.of_below b5)
            have z0':=(b5.cell (p:=⟨bx,0,none⟩) (by show bx<_;omega)).trans z0
            have z1':=(b5.cell (p:=⟨bx,1,none⟩) (by show bx<_;omega)).trans z1
            have v5:w5.cell? ⟨wo.heap.size,1,none⟩=some (.slice ka2 Lb kc2):=by unfold World.cell?; simp [n5]
            gi_wp2
            rw [<- H5.out]
            clear H5
            gi_wp2
            gi_loopw [67] (fun i wq=>∃ i':Nat,i'<=Lb/\i=.int .i64 i'/\J (k+(subs t j+i')) wq/\Kn (fun q=>q≠ab/\q≠bx) W wq/\Kn (fun q=>q≠ab) w5 wq/\wq.cell? ⟨bx,0,none⟩=some (.int .i64 (bv:Int))/\wq.cell? ⟨bx,1,none⟩=some (.int .i64 ((bd:Int) + (M:Int)))) (fun i _=>Lb - (intOf i).toNat)
            case atStart=>exact⟨0,Nat.zero_le _,rfl,hJ5,hK5,Kn.refl _ _,z0',z1'⟩
            case round =>
              obtain⟨wi,hwi⟩:∃ wi,wi=wr:=⟨_,rfl⟩
              subst hwi
              clear z0 z1 z0' z1' q0 q1
              obtain⟨i',hi',rfl,hJi,hKi,hK5i,z0,z1⟩:=hrel
              have v5i:=(hK5i.cell (p:=⟨wo.heap.size,1,none⟩) (by show wo.heap.size≠ab;omega) (by show wo.heap.size<_;omega)).trans v5
              by_cases hlti:i' < Lb
              . obtain⟨x,hx⟩:=someL (l:=b.2) (k:=i') (by rw [<- HB.out];exact hlti)
                obtain⟨kg,koff,ra',rc',ka',kc',sa',sc',rfl,hkg,h6x,htx'⟩:=hkd.at hx
                have hp:=pts_at_sub hb hx
                rw [<- HL.out,<- HM.out] at hp
                have hA:PartA ok w t bv bd (k+(subs t j+i')) #[.pointer (some ⟨kg,koff+i' * 6,none⟩),.agg #[.int .i64 ((bv+0:Nat):Int),.int .i64 ((bd+M:Nat):Int)]]:=⟨_,kg,koff+i' * 6,ra',rc',ka',kc',sa',sc',hp,rfl,hkg,h6x,htx'⟩
                obtain⟨fn,tmps,assign,body,hy,hR⟩:=hY _ _ wi.drew (some_lt hp) hA (hJ _ wi _ hJi (Kn.refl _ _).drew)
                simp only [Int.natCast_add,Nat.add_zero] at hy
                clear hA hp h6x htx' hx
                gi_wp2
                refine in_region_tail (fun _=>trivial) rfl (fun h=>callsIn_wide.2 h) 6 (by kernel_rfl) (by kernel_rfl) (by kernel_rfl) ?_
                simp only [List.take_succ_cons,List.take_zero,List.drop_succ_cons,List.drop_zero]
                repeat still_step
                refine wpStill_nil ?_
                gi_wp2
                refine hR.mono ?_
                rintro e W3 (⟨rfl,hJ3,hk3⟩ | ⟨rfl,hJx3⟩)
                . have hsi:bx<wi.heap.size:=by have:=hKi.size;omega
                  have y0:=(hk3.cell (p:=⟨bx,0,none⟩) hxa hsi).trans z0
                  have y1:=(hk3.cell (p:=⟨bx,1,none⟩) hxa hsi).trans z1
                  gi_wp2
                  go_roundw
                  case rel=>exact⟨i' + 1,by omega,by go_num,hJ3,hKi.trans ((Kn.refl _ _).drew.trans (hk3.sub fun q h=>h.1)),hK5i.trans ((Kn.refl _ _).drew.trans hk3),y0,y1⟩
                  case measure=>simp [intOf];omega
                . gi_wp2
                  refine bodyPost_ret (results_none rfl _ _ _) rfl ?_
                  exact⟨⟨_,rfl⟩,.inr hJx3⟩
              . obtain rfl:i'=Lb:=by omega
                have hst:=subs_step hb
                rw [<- HB.out] at hst
                gi_wp2
                go_roundw
                case rel=>exact⟨j+1,by omega,by go_num,by rw [hst];exact hJi,hKi,z0,z1⟩
                case measure=>simp [intOf];omega
          . obtain rfl:j=S:=by omega
            gi_wp2
            go_end0
            refine⟨⟨_,rfl⟩,.inl ?_⟩
            rw [pts_len,<- HL.out,<- HS.out]
            exact hJj
theorem letter_any (c:UInt8) (w:World):Calls Tryz.prog 248 #[.int .u8 (c.toNat:Int)] w fun e w'=>e=.returned (.bool (letterU c))/\w'=w:=by
 have hc:c.toNat<256:=c.toNat_lt
 have HL:Hid (letterU c=((97<=c.toNat && c.toNat<=122) || (65<=c.toNat && c.toNat<=90) || c.toNat == 95)):=rfl
 generalize c.toNat=n at *
 go_enter Tryz.func248,Tryz.ntmps248
 go_wp2
 all_goals
  go_ret
  refine⟨ret_bool ?_,rfl⟩
  rw [HL.out,Bool.eq_iff_iff]
  simp
  omega
theorem bdrewN {n:Nat} {w w':World} (h:Below n w w') (k:Nat):Below n w (w'.drewN k):=⟨h.os,h.tape,h.output,h.size,h.block⟩
theorem number_any (V:Int) (D:Nat) (o:Bool) (bv bd g off:Nat) (t:Tm) (w:World) (hl:g<w.heap.size) (h0:w.cell? ⟨g,off,none⟩=some (.int .i64 t.kind)) (h1:w.cell? ⟨g,off+1,none⟩=some (.int .i64 t.n)) (hn:I64 t.n) (hb:bv<=1000000) :
  Calls Tryz.prog 224 #[.agg #[.int .i64 V,.int .i64 (D:Int),.bool o],.pointer (some ⟨g,off,none⟩),.agg #[.int .i64 (bv:Int),.int .i64 (bd:Int)]] w fun e w'=>e=.returned (.bool (numB o V bv t.kind t.n))/\Below w.heap.size w w':=by
 obtain⟨k,hk⟩:∃ k,k=t.kind:=⟨_,rfl⟩
 obtain⟨n,hnn⟩:∃ n,n=t.n:=⟨_,rfl⟩
 rw [<- hk] at h0
 rw [<- hnn] at h1 hn
 have HR:Hid (numB o V bv t.kind t.n=if k=1 then decide (0<=n) && (o || decide (n - bv<V)) else decide (n=0)):=by show _=_;rw [hk,hnn];rfl
 clear hk hnn
 obtain⟨w2,hw2⟩:∃ w2,w2=(w.alloc (.cells #[.int .i64 V,.int .i64 (D:Int),.bool o] 101)).alloc (.cells #[.int .i64 (bv:Int),.int .i64 (bd:Int)] 144):=⟨_,rfl⟩
 have hb2:Below w.heap.size w w2:=by rw [hw2];exact bchain (belowA _ _) (belowA _ _)
 have m1:w2.heap[w.heap.size]? = some (.cells #[.int .i64 V,.int .i64 (D:Int),.bool o] 101 (0,0)):=by
  rw [hw2];exact (Below.heap_alloc _ _ _ (by simp)).trans (heapNew w _)
 have m2:w2.heap[w.heap.size+1]? = some (.cells #[.int .i64 (bv:Int),.int .i64 (bd:Int)] 144 (0,0)):=by
  rw [hw2];have:=heapNew (w.alloc (.cells #[.int .i64 V,.int .i64 (D:Int),.bool o] 101)) (.cells #[.int .i64 (bv:Int),.int .i64 (bd:Int)] 144);rwa [World.size_alloc] at this
 have x0:w2.cell? ⟨w.heap.size,0,none⟩=some (.int .i64 V):=by unfold World.cell?; simp [m1]
 have x2:w2.cell? ⟨w.heap.size,2,none⟩=some (.bool o):=by unfold World.cell?; simp [m1]
 have y0:w2.cell? ⟨w.heap.size+1,0,none⟩=some (.int .i64 (bv:Int)):=by unfold World.cell?; simp [m2]
 have d0:=(hb2.cell (p:=⟨g,off,none⟩) hl).trans h0
 have d1:=(hb2.cell (p:=⟨g,off+1,none⟩) hl).trans h1
 have H2:Hid (_=_):=hw2
 clear hw2 m1 m2
 unfold I64 at hn
 go_enter Tryz.func224,Tryz.ntmps224
 go_upto_region 1 with fail
 rw [<- H2.out]
 by_cases hk:k=1
 ·subst hk
  by_cases hn0:0<=n
  ·cases o with
   | true =>
    go_wp2
    go_quiet (fail)
    go_wp2
    go_ret
    exact⟨ret_bool (by rw [HR.out];simp [hn0]),bdrewN hb2 _⟩
   | false =>
    have wr1:IntKind.i64.wrap (n - (bv:Int))=n - (bv:Int):=by simp [IntKind.wrap,IntKind.bits,IntKind.signed];omega
    go_wp2
    go_quiet (fail)
    go_wp2
    go_ret
    exact⟨ret_bool (by rw [HR.out];simp [hn0]),bdrewN hb2 _⟩
  ·have hnf:decide (0<=n)=false:=by simpa using hn0
   go_wp2
   go_quiet (fail)
   go_wp2
   go_ret
   exact⟨ret_bool (by rw [HR.out];simp [hnf]),bdrewN hb2 _⟩
 ·go_wp2
  all_goals
   go_ret
   exact⟨ret_bool (by rw [HR.out,if_neg hk];rw [Bool.eq_iff_iff];simp),hb2⟩
theorem isEmptyB (s:ByteArray):s.toList.isEmpty=decide (s.size=0):=by
 rw [Lib.toList_data,Bool.eq_iff_iff]
 obtain⟨⟨x⟩⟩:=s
 simp [ByteArray.size]
theorem named_any (g off:Nat) (t:Tm) (w:World) (h0:w.cell? ⟨g,off,none⟩=some (.int .i64 t.kind)) (h2:w.cell? ⟨g,off+2,none⟩=some (.string t.name)) (hl:t.name.size<=1000000) :
  Calls Tryz.prog 225 #[.pointer (some ⟨g,off,none⟩)] w fun e w'=>e=.returned (.bool (nameB t.kind t.name))/\w'=w:=by
 obtain⟨k,hk⟩:∃ k,k=t.kind:=⟨_,rfl⟩
 obtain⟨s,hs⟩:∃ s,s=t.name:=⟨_,rfl⟩
 rw [<- hk] at h0 ⊢
 rw [<- hs] at h2 hl ⊢
 clear hk hs
 by_cases hk:k=2
 ·subst hk
  have HR:Hid (nameB 2 s=nmB s):=rfl
  go_enter Tryz.func225,Tryz.ntmps225
  go_wp2
  go_loop [20] (fun i=>∃ j:Nat,j<=s.size/\i=.int .i64 j/\nmTo s j) (fun i=>s.size - (intOf i).toNat)
  case atStart=>exact⟨0,Nat.zero_le _,rfl,nmTo_zero s⟩
  case round =>
   obtain⟨j,hj,rfl,hn⟩:=hrel
   by_cases hlt:j<s.size
   ·have cL:=letter_any s[j] w
    have hc:(s[j]).toNat<256:=(s[j]).toNat_lt
    cases hlet:letterU s[j] with
    | true =>
     have HS:Hid (nmTo s (j+1)):=nmTo_step hn hlt (by rw [hlet];rfl)
     rw [hlet] at cL
     go_wp2_with (go_at_call 248;refine cL.mono ?_;rintro e w' ⟨rfl,hw'⟩;subst hw')
     go_round
     case rel=>exact⟨j+1,by omega,by go_num,HS.out⟩
     case measure=>simp [intOf];omega
    | false =>
     rw [hlet] at cL
     by_cases hj0:j=0
     ·have HB:Hid (nmB s=false):=nmB_bad j hlt (by rw [hlet];simp [hj0])
      subst hj0
      go_wp2_with (go_at_call 248;refine cL.mono ?_;rintro e w' ⟨rfl,hw'⟩;subst hw')
      go_ret
      exact⟨ret_bool (by rw [HR.out,HB.out]),rfl⟩
     ·have hj1:((j:Int) == 0)=false:=by simpa using hj0
      cases hd:digitU s[j] with
      | true =>
       have HS:Hid (nmTo s (j+1)):=nmTo_step hn hlt (by rw [hlet,hd];simp;omega)
       unfold digitU at hd
       simp at hd
       have d1:decide (((s[j]).toNat:Int) < 48)=false:=by simp;omega
       have d2:decide ((57:Int) < ((s[j]).toNat:Int))=false:=by simp;omega
       clear hd
       go_wp2_with (go_at_call 248;refine cL.mono ?_;rintro e w' ⟨rfl,hw'⟩;subst hw')
       go_round
       case rel=>exact⟨j+1,by omega,by go_num,HS.out⟩
       case measure=>simp [intOf];omega
      | false =>
       have HB:Hid (nmB s=false):=nmB_bad j hlt (by rw [hlet,hd];simp)
       unfold digitU at hd
       simp at hd
       by_cases d1:((s[j]).toNat:Int) < 48
       ·have d3:decide (((s[j]).toNat:Int) < 48)=true:=by simpa using d1
        clear hd
        go_wp2_with (go_at_call 248;refine cL.mono ?_;rintro e w' ⟨rfl,hw'⟩;subst hw')
        go_ret
        exact⟨ret_bool (by rw [HR.out,HB.out]),rfl⟩
       ·have d2:(57:Int) < ((s[j]).toNat:Int):=by have:=hd (by omega);omega
        have d3:decide (((s[j]).toNat:Int) < 48)=false:=by simpa using d1
        have d4:decide ((57:Int) < ((s[j]).toNat:Int))=true:=by simpa using d2
        clear hd
        go_wp2_with (go_at_call 248;refine cL.mono ?_;rintro e w' ⟨rfl,hw'⟩;subst hw')
        go_ret
        exact⟨ret_bool (by rw [HR.out,HB.out]),rfl⟩
   ·obtain rfl:j=s.size:=by omega
    by_cases hz:s.size=0
    ·have HB:Hid (nmB s=false):=nmB_zero hz
     go_wp2
     go_ret
     exact⟨ret_bool (by rw [HR.out,HB.out,isEmptyB];simp [hz]),rfl⟩
    ·have HB:Hid (nmB s=true):=nmB_true (by omega) hn
     go_wp2
     go_ret
     exact⟨ret_bool (by rw [HR.out,HB.out,isEmptyB];simp [hz]),rfl⟩
 ·have HR:Hid (nameB k s=decide (s.size=0)):=by show _=_;unfold nameB;rw [if_neg hk]
  go_enter Tryz.func225,Tryz.ntmps225
  go_wp2
  go_ret
  exact⟨ret_bool (by rw [HR.out,isEmptyB]),rfl⟩
theorem shr_any (q e:Nat) (hq:q<16777216):Op.shift .shr .u32 (q:Int) .i64 (e:Int)=pure (.int .u32 ((q / 2 ^ e:Nat):Int)):=by
 have h32:q / 2 ^ 32=0:=Nat.div_eq_of_lt (by omega)
 have key:∀ m:Nat,Int.fdiv (q:Int) (2 ^ m)=((q / 2 ^ m:Nat):Int):=fun m=>by
  rw [Int.fdiv_eq_ediv_of_nonneg _ (Int.pow_nonneg (by decide))]
  simp
 have e1:q / 2 ^ (min e 32)=q / 2 ^ e:=by
  rcases Nat.le_total e 32 with h|h
  ·rw [Nat.min_eq_left h]
  ·rw [Nat.min_eq_right h,h32]
   exact (Nat.div_eq_of_lt (Nat.lt_of_lt_of_le (show q<2 ^ 32 by omega) (Nat.pow_le_pow_right (by decide) h))).symm
 rw [<- e1,<- key]
 simp [Op.shift,IntKind.bits]
 omega
theorem box_outs (w:World) (V D:Int) (o:Bool) (bv bd:Int):∃ w2,w2=(w.alloc (.cells #[.int .i64 V,.int .i64 D,.bool o] 101)).alloc (.cells #[.int .i64 bv,.int .i64 bd] 144)/\Below w.heap.size w w2/\w2.heap.size=w.heap.size+2 /\
  w2.heap[w.heap.size]? = some (.cells #[.int .i64 V,.int .i64 D,.bool o] 101 (0,0))/\w2.heap[w.heap.size+1]? = some (.cells #[.int .i64 bv,.int .i64 bd] 144 (0,0)):=by
 refine⟨_,rfl,bchain (belowA _ _) (belowA _ _),by simp,(Below.heap_alloc _ _ _ (by simp)).trans (heapNew w _),?_⟩
 have:=heapNew (w.alloc (.cells #[.int .i64 V,.int .i64 D,.bool o] 101)) (.cells #[.int .i64 bv,.int .i64 bd] 144)
 rwa [World.size_alloc] at this
theorem cells3 {w:World} {x:Nat} {a b c:Value} {ty:TypeId} (h:w.heap[x]? = some (.cells #[a,b,c] ty (0,0))):w.cell? ⟨x,0,none⟩=some a/\w.cell? ⟨x,1,none⟩=some b/\w.cell? ⟨x,2,none⟩=some c:=by
 refine⟨?_,?_,?_⟩ <;> (unfold World.cell?; simp [h])
theorem cells2 {w:World} {x:Nat} {a b:Value} {ty:TypeId} (h:w.heap[x]? = some (.cells #[a,b] ty (0,0))):w.cell? ⟨x,0,none⟩=some a/\w.cell? ⟨x,1,none⟩=some b:=by
 refine⟨?_,?_⟩ <;> (unfold World.cell?; simp [h])
theorem reaches_any (V:Int) (D:Nat) (o:Bool) (bv bd:Nat) (r:List C) (v:Value) (w:World) (hv:ClRow Tt w r v) (hl:r.length<=100000) (hD:D<=24) (hb:bd<=1000000) :
  Calls Tryz.prog 228 #[.agg #[.int .i64 V,.int .i64 (D:Int),.bool o],v,.agg #[.int .i64 (bv:Int),.int .i64 (bd:Int)]] w fun e w'=>e=.returned (.bool (reachB o (D+bd) r))/\Below w.heap.size w w':=by
 obtain⟨w2,hw2,hb2,s2,m1,m2⟩:=box_outs w V D o bv bd
 obtain⟨a,cap,rfl,_⟩:=id hv
 have hd:=dimsN_lt r
 have Hc:Hid (∀ u:Cw w2,Calls Tryz.prog 30 #[.slice a r.length cap] u.1 fun e w'=>e=.returned (.int .u32 ((dimsN r:Nat):Int))/\∃ u':Cw w2,w'=u'.1):=fun u=>cw_call u (Dims_any r _ u.1 ((hv.blw (bchain hb2 u.2)).row) hl)
 have x1:∀ u:Cw w2,u.1.cell? ⟨w.heap.size,1,none⟩=some (.int .i64 (D:Int)):=fun u=>(cells3 ((u.2.block _ (by omega)).trans m1)).2.1
 have x2:∀ u:Cw w2,u.1.cell? ⟨w.heap.size,2,none⟩=some (.bool o):=fun u=>(cells3 ((u.2.block _ (by omega)).trans m1)).2.2
 have y1:∀ u:Cw w2,u.1.cell? ⟨w.heap.size+1,1,none⟩=some (.int .i64 (bd:Int)):=fun u=>(cells2 ((u.2.block _ (by omega)).trans m2)).2
 have hne:=cw_any w2
 have H2:Hid (_=_):=hw2
 have HR:Hid (reachB o (D+bd) r=(o || decide (dimsN r / 2 ^ (D+bd)=0))):=rfl
 obtain⟨n,hn⟩:∃ n,n=r.length:=⟨_,rfl⟩
 rw [<- hn] at Hc ⊢
 obtain⟨q,hq⟩:∃ q,q=dimsN r:=⟨_,rfl⟩
 rw [<- hq] at Hc HR hd
 clear hw2 m1 m2 hv hn hl hq
 go_enter Tryz.func228,Tryz.ntmps228
 go_upto_region 1 with fail
 rw [<- H2.out]
 cases o with
 | true =>
  refine wp_region_cw (by kernel_rfl) (by kernel_rfl) ?_
  repeat (first | go_big_quiet_step (exact Hc.out _) | quiet_step (exact Hc.out _))
  refine wpQuiet_nil ?_
  rintro _ ⟨u,rfl⟩
  obtain⟨w5,hb5⟩:=u
  dsimp only
  have hal:=bchain hb2 hb5
  clear x1 x2 y1 hne Hc
  go_wp2
  go_ret
  exact⟨ret_bool (by rw [HR.out];rfl),hal⟩
 | false =>
  obtain⟨z,hz⟩:∃ z,z=q / 2 ^ (D+bd):=⟨_,rfl⟩
  have HZ:Hid (q / 2 ^ (D+bd)=z):=hz.symm
  have hsh:Op.shift .shr .u32 (q:Int) .i64 ((D:Int) + (bd:Int))=pure (.int .u32 (z:Int)):=by
   have:=shr_any q (D+bd) hd
   rw [hz];simpa using this
  clear hz
  have wr1:IntKind.i64.wrap ((D:Int) + (bd:Int))=(D:Int) + (bd:Int):=by simp [IntKind.wrap,IntKind.bits,IntKind.signed];omega
  refine wp_region_cw (by kernel_rfl) (by kernel_rfl) ?_
  repeat (first | go_big_quiet_step (exact Hc.out _) | quiet_step (exact Hc.out _))
  refine wpQuiet_nil ?_
  rintro _ ⟨u,rfl⟩
  obtain⟨w5,hb5⟩:=u
  dsimp only
  have hal:=bchain hb2 hb5
  clear x1 x2 y1 hne Hc
  go_wp2
  go_ret
  exact⟨ret_bool (by rw [HR.out,HZ.out,Bool.eq_iff_iff];simp),hal⟩
theorem row_any (V:Int) (D:Nat) (o:Bool) (bv bd g off:Nat) (t:Tm) (a:Option Addr) (cap:Nat) (w:World) (hlt:g<w.heap.size) (h0:w.cell? ⟨g,off,none⟩=some (.int .i64 t.kind)) (h3:w.cell? ⟨g,off+3,none⟩=some (.slice a t.r.length cap)) (hv:ClRow Tt w t.r (.slice a t.r.length cap)) (hl:t.r.length<=100000) (hD:D<=24) (hb:bd<=1000000) :
  Calls Tryz.prog 226 #[.agg #[.int .i64 V,.int .i64 (D:Int),.bool o],.pointer (some ⟨g,off,none⟩),.agg #[.int .i64 (bv:Int),.int .i64 (bd:Int)]] w fun e w'=>e=.returned (.bool (rowB o (D+bd) t.kind t.r))/\Below w.heap.size w w':=by
 obtain⟨w2,hw2,hb2,s2,m1,m2⟩:=box_outs w V D o bv bd
 obtain⟨f,hf⟩:∃ f,f=rightF t.r:=⟨_,rfl⟩
 obtain⟨fa,hfa⟩:∃ f,f=rightA t.r:=⟨_,rfl⟩
 obtain⟨rb,hrb⟩:∃ f,f=reachB o (D+bd) t.r:=⟨_,rfl⟩
 have HF:Hid (∀ u:Cw w2,Calls Tryz.prog 101 #[.slice a t.r.length cap] u.1 fun e w'=>e=.returned (.bool f)/\∃ u':Cw w2,w'=u'.1):=fun u=>cw_call u (by rw [hf];exact fright_any t.r _ u.1 ((hv.blw (bchain hb2 u.2)).frow) hl)
 have HA:Hid (∀ u:Cw w2,Calls Tryz.prog 96 #[.slice a t.r.length cap] u.1 fun e w'=>e=.returned (.bool fa)/\∃ u':Cw w2,w'=u'.1):=fun u=>cw_call u (by rw [hfa];exact aright_any t.r _ u.1 ((hv.blw (bchain hb2 u.2)).frow) hl)
 have HRc:Hid (∀ u:Cw w2,Calls Tryz.prog 228 #[.agg #[.int .i64 V,.int .i64 (D:Int),.bool o],.slice a t.r.length cap,.agg #[.int .i64 (bv:Int),.int .i64 (bd:Int)]] u.1 fun e w'=>e=.returned (.bool rb)/\∃ u':Cw w2,w'=u'.1):=fun u=>cw_call u (by rw [hrb];exact reaches_any V D o bv bd t.r _ u.1 (hv.blw (bchain hb2 u.2)) hl hD hb)
 have x0:∀ u:Cw w2,u.1.cell? ⟨w.heap.size,0,none⟩=some (.int .i64 V):=fun u=>(cells3 ((u.2.block _ (by omega)).trans m1)).1
 have x1:∀ u:Cw w2,u.1.cell? ⟨w.heap.size,1,none⟩=some (.int .i64 (D:Int)):=fun u=>(cells3 ((u.2.block _ (by omega)).trans m1)).2.1
 have x2:∀ u:Cw w2,u.1.cell? ⟨w.heap.size,2,none⟩=some (.bool o):=fun u=>(cells3 ((u.2.block _ (by omega)).trans m1)).2.2
 have y0:∀ u:Cw w2,u.1.cell? ⟨w.heap.size+1,0,none⟩=some (.int .i64 (bv:Int)):=fun u=>(cells2 ((u.2.block _ (by omega)).trans m2)).1
 have y1:∀ u:Cw w2,u.1.cell? ⟨w.heap.size+1,1,none⟩=some (.int .i64 (bd:Int)):=fun u=>(cells2 ((u.2.block _ (by omega)).trans m2)).2
 have k0:=(hb2.cell (p:=⟨g,off,none⟩) hlt).trans h0
 have k3:∀ u:Cw w2,u.1.cell? ⟨g,off+3,none⟩=some (.slice a t.r.length cap):=fun u=>((bchain hb2 u.2).cell (p:=⟨g,off+3,none⟩) hlt).trans h3
 have e3:=(hb2.cell (p:=⟨g,off+3,none⟩) hlt).trans h3
 have hne:=cw_any w2
 have H2:Hid (_=_):=hw2
 obtain⟨k,hk⟩:∃ k,k=t.kind:=⟨_,rfl⟩
 obtain⟨n,hn⟩:∃ n,n=t.r.length:=⟨_,rfl⟩
 have HR:Hid (rowB o (D+bd) t.kind t.r=if k=13\/k=21\/k=26 then f && rb else if k=14 then fa && rb else decide (n=0)):=by show _=_;rw [hf,hfa,hrb,hn,hk];rfl
 rw [<- hk] at k0
 rw [<- hn] at HF HA HRc k3 e3
 clear hw2 m1 m2 hv hn hl hf hfa hrb hk h0 h3 s2
 by_cases hk1:k=13\/k=21\/k=26
 ·rw [if_pos hk1] at HR
  rcases hk1 with rfl|rfl|rfl
  all_goals
   cases f with
   | true =>
    go_enter Tryz.func226,Tryz.ntmps226
    go_upto_region 1 with fail
    rw [<- H2.out]
    go_wp2_with fail
    refine wp_region_cw (by kernel_rfl) (by kernel_rfl) ?_
    repeat (first | go_big_quiet_step (fail) | quiet_step (fail))
    first | go_big_quiet_step (exact HF.out _) | quiet_step (exact HF.out _)
    repeat (first | go_big_quiet_step (fail) | quiet_step (fail))
    first | go_big_quiet_step (exact HRc.out _) | quiet_step (exact HRc.out _)
    repeat (first | go_big_quiet_step (fail) | quiet_step (fail))
    refine wpQuiet_nil ?_
    rintro _ ⟨u,rfl⟩
    obtain⟨w5,hb5⟩:=u
    dsimp only
    have hal:=bchain hb2 hb5
    clear x0 x1 x2 y0 y1 k0 k3 hne HF HA HRc
    go_wp2
    go_ret
    exact⟨ret_bool (by rw [HR.out];rfl),hal⟩
   | false =>
    go_enter Tryz.func226,Tryz.ntmps226
    go_upto_region 1 with fail
    rw [<- H2.out]
    go_wp2_with fail
    refine wp_region_cw (by kernel_rfl) (by kernel_rfl) ?_
    repeat (first | go_big_quiet_step (fail) | quiet_step (fail))
    first | go_big_quiet_step (exact HF.out _) | quiet_step (exact HF.out _)
    repeat (first | go_big_quiet_step (fail) | quiet_step (fail))
    refine wpQuiet_nil ?_
    rintro _ ⟨u,rfl⟩
    obtain⟨w5,hb5⟩:=u
    dsimp only
    have hal:=bchain hb2 hb5
    clear x0 x1 x2 y0 y1 k0 k3 hne HF HA HRc
    go_wp2
    go_ret
    exact⟨ret_bool (by rw [HR.out];rfl),hal⟩
 ·rw [if_neg hk1] at HR
  have q1:¬ k=13:=by omega
  have q2:¬ k=21:=by omega
  have q3:¬ k=26:=by omega
  clear hk1
  by_cases hk2:k=14
  ·rw [if_pos hk2] at HR
   subst hk2
   cases fa with
   | true =>
    go_enter Tryz.func226,Tryz.ntmps226
    go_upto_region 1 with fail
    rw [<- H2.out]
    go_wp2_with fail
    refine wp_region_cw (by kernel_rfl) (by kernel_rfl) ?_
    repeat (first | go_big_quiet_step (fail) | quiet_step (fail))
    first | go_big_quiet_step (exact HA.out _) | quiet_step (exact HA.out _)
    repeat (first | go_big_quiet_step (fail) | quiet_step (fail))
    first | go_big_quiet_step (exact HRc.out _) | quiet_step (exact HRc.out _)
    repeat (first | go_big_quiet_step (fail) | quiet_step (fail))
    refine wpQuiet_nil ?_
    rintro _ ⟨u,rfl⟩
    obtain⟨w5,hb5⟩:=u
    dsimp only
    have hal:=bchain hb2 hb5
    clear x0 x1 x2 y0 y1 k0 k3 hne HF HA HRc
    go_wp2
    go_ret
    exact⟨ret_bool (by rw [HR.out];rfl),hal⟩
   | false =>
    go_enter Tryz.func226,Tryz.ntmps226
    go_upto_region 1 with fail
    rw [<- H2.out]
    go_wp2_with fail
    refine wp_region_cw (by kernel_rfl) (by kernel_rfl) ?_
    repeat (first | go_big_quiet_step (fail) | quiet_step (fail))
    first | go_big_quiet_step (exact HA.out _) | quiet_step (exact HA.out _)
    repeat (first | go_big_quiet_step (fail) | quiet_step (fail))
    refine wpQuiet_nil ?_
    rintro _ ⟨u,rfl⟩
    obtain⟨w5,hb5⟩:=u
    dsimp only
    have hal:=bchain hb2 hb5
    clear x0 x1 x2 y0 y1 k0 k3 hne HF HA HRc
    go_wp2
    go_ret
    exact⟨ret_bool (by rw [HR.out];rfl),hal⟩
  ·rw [if_neg hk2] at HR
   clear x0 x1 x2 y0 y1 k3 hne HF HA HRc
   go_enter Tryz.func226,Tryz.ntmps226
   go_upto_region 1 with fail
   rw [<- H2.out]
   go_wp2
   go_ret
   exact⟨ret_bool (by rw [HR.out,Bool.eq_iff_iff];simp),hb2⟩
end Go.Proofs.YtblbhmnahoiecaaGreat
