/- A part of the proof. -/
import Derived.Test.YtblbhmnahoiecaaGreatHG13
set_option linter.unusedVariables false
set_option linter.unusedSimpArgs false
set_option maxRecDepth 100000
set_option maxHeartbeats 8000000
namespace Go.Proofs.YtblbhmnahoiecaaGreat
open Go.RowKit
theorem fields_any (V:Int) (D:Nat) (o:Bool) (bv bd g off:Nat) (t:Tm) (ra:Option Addr) (rc:Nat) (ka:Option Addr) (kc:Nat) (sa:Option Addr) (sc:Nat) (w:World) (h6:Cs6 w g off t ra rc ka kc sa sc) (ht:TmTop Tt w t ra rc ka kc sa sc) (hsz:blk t<=100000) (hD:D<=24) (hb1:bv<=1000000) (hb:bd<=1000000) :
  Calls Tryz.prog 179 #[.agg #[.int .i64 V,.int .i64 (D:Int),.bool o],.pointer (some ⟨g,off,none⟩),.agg #[.int .i64 (bv:Int),.int .i64 (bd:Int)]] w fun e w'=>e=.returned (.bool (numB o V bv t.kind t.n && nameB t.kind t.name && rowB o (D+bd) t.kind t.r))/\Below w.heap.size w w':=by
 obtain⟨w2,hw2,hb2,s2,m1,m2⟩:=box_outs w V D o bv bd
 obtain⟨hl1,hl2,hl3,hl4⟩:=blk_lens t
 have c6:=h6.blw hb2
 have c1:=number_any V D o bv bd g off t w2 c6.lt c6.c0 c6.c1 ht.inn hb1
 have H1:Hid (∀ w3,Below w2.heap.size w2 w3->Calls Tryz.prog 225 #[.pointer (some ⟨g,off,none⟩)] w3 fun e w'=>e=.returned (.bool (nameB t.kind t.name))/\w'=w3):=fun w3 q=>named_any g off t w3 (c6.blw q).c0 (c6.blw q).c2 (by omega)
 have H3:Hid (∀ w3,Below w2.heap.size w2 w3->Calls Tryz.prog 226 #[.agg #[.int .i64 V,.int .i64 (D:Int),.bool o],.pointer (some ⟨g,off,none⟩),.agg #[.int .i64 (bv:Int),.int .i64 (bd:Int)]] w3 fun e w'=>e=.returned (.bool (rowB o (D+bd) t.kind t.r))/\Below w3.heap.size w3 w'):=fun w3 q=>row_any V D o bv bd g off t ra rc w3 (c6.blw q).lt (c6.blw q).c0 (c6.blw q).c3 (ht.row.blw (bchain hb2 q)) (by omega) hD hb
 have X:Hid (∀ w3,Below w2.heap.size w2 w3->w3.cell? ⟨w.heap.size,0,none⟩=some (.int .i64 V)/\w3.cell? ⟨w.heap.size,1,none⟩=some (.int .i64 (D:Int))/\w3.cell? ⟨w.heap.size,2,none⟩=some (.bool o)/\w3.cell? ⟨w.heap.size+1,0,none⟩=some (.int .i64 (bv:Int))/\w3.cell? ⟨w.heap.size+1,1,none⟩=some (.int .i64 (bd:Int))):=fun w3 q=>by
  obtain⟨a1,a2,a3⟩:=cells3 ((q.block _ (by omega)).trans m1)
  obtain⟨a4,a5⟩:=cells2 ((q.block _ (by omega)).trans m2)
  exact⟨a1,a2,a3,a4,a5⟩
 obtain⟨x0,x1,x2,y0,y1⟩:=X.out w2 (Below.refl _ _)
 have H2:Hid (_=_):=hw2
 clear hw2 m1 m2 h6 ht c6 hl1 hl2 hl3 hl4 s2
 generalize numB o V bv t.kind t.n=b1 at *
 generalize nameB t.kind t.name=b2 at *
 generalize rowB o (D+bd) t.kind t.r=b3 at *
 go_enter Tryz.func179,Tryz.ntmps179
 go_upto_region 1 with fail
 rw [<- H2.out]
 clear H2
 cases b1 with
 | false =>
  go_wp2_with fail
  refine c1.mono ?_
  rintro e w3 ⟨rfl,hb3⟩
  clear c1 x0 x1 x2 y0 y1
  have q:=bchain hb2 hb3
  go_wp2
  go_ret
  exact⟨rfl,q⟩
 | true =>
  go_wp2_with fail
  refine c1.mono ?_
  rintro e w3 ⟨rfl,hb3⟩
  clear c1 x0 x1 x2 y0 y1
  have c2:=H1.out w3 hb3
  obtain⟨x0,x1,x2,y0,y1⟩:=X.out w3 hb3
  have q:=bchain hb2 hb3
  have c3:=H3.out w3 hb3
  clear H1 H3 X hb3
  cases b2 with
  | false =>
   go_wp2_with fail
   refine c2.mono ?_
   rintro e w4 ⟨rfl,hw4⟩
   replace hw4:=hw4.symm
   subst hw4
   clear c2 c3
   go_wp2
   go_ret
   exact⟨rfl,q⟩
  | true =>
   go_wp2_with fail
   refine c2.mono ?_
   rintro e w4 ⟨rfl,hw4⟩
   replace hw4:=hw4.symm
   subst hw4
   clear c2
   go_wp2_with fail
   refine c3.mono ?_
   rintro e w5 ⟨rfl,hb5⟩
   clear c3 x0 x1 x2 y0 y1
   have q5:=bchain q hb5
   go_wp2
   go_ret
   exact⟨rfl,q5⟩
theorem allT_step {α:Type} {f:α->Bool} {l:List α} {k:Nat} {x:α} (h:(l.take k).all f=true) (hx:l[k]? = some x) (hf:f x=true):(l.take (k+1)).all f=true:=by
 rw [List.take_add_one,hx];simp [h,hf]
theorem allT_bad {α:Type} {f:α->Bool} {l:List α} {k:Nat} {x:α} (hx:l[k]? = some x) (hf:f x=false):l.all f=false:=by
 rw [List.all_eq_false];exact⟨x,List.mem_of_getElem? hx,by simp [hf]⟩
theorem system_any (V:Int) (D:Nat) (o:Bool) (bv bd g off:Nat) (t:Tm) (ra:Option Addr) (rc:Nat) (ka:Option Addr) (kc:Nat) (sa:Option Addr) (sc:Nat) (w:World) (h6:Cs6 w g off t ra rc ka kc sa sc) (ht:TmTop Tt w t ra rc ka kc sa sc) (hsz:blk t<=100000) (hD:D<=24) (hb1:bv<=1000000) (hb:bd<=1000000) :
  Calls Tryz.prog 180 #[.agg #[.int .i64 V,.int .i64 (D:Int),.bool o],.pointer (some ⟨g,off,none⟩),.agg #[.int .i64 (bv:Int),.int .i64 (bd:Int)]] w fun e w'=>e=.returned (.bool ((t.sys.map fun b=>(b.1,b.2.length)).all (brB o (D+bd) t.kind)))/\Below w.heap.size w w':=by
 obtain⟨w2,hw2,hb2,s2,m1,m2⟩:=box_outs w V D o bv bd
 obtain⟨hl1,hl2,hl3,hl4⟩:=blk_lens t
 have c6:=h6.blw hb2
 have HT:=(ht.sys.blw hb2)
 have X:Hid (∀ w3,Below w2.heap.size w2 w3->w3.cell? ⟨w.heap.size,0,none⟩=some (.int .i64 V)/\w3.cell? ⟨w.heap.size,1,none⟩=some (.int .i64 (D:Int))/\w3.cell? ⟨w.heap.size,2,none⟩=some (.bool o)/\w3.cell? ⟨w.heap.size+1,0,none⟩=some (.int .i64 (bv:Int))/\w3.cell? ⟨w.heap.size+1,1,none⟩=some (.int .i64 (bd:Int))):=fun w3 q=>by
  obtain⟨a1,a2,a3⟩:=cells3 ((q.block _ (by omega)).trans m1)
  obtain⟨a4,a5⟩:=cells2 ((q.block _ (by omega)).trans m2)
  exact⟨a1,a2,a3,a4,a5⟩
 have c0:=c6.c0
 have c5:=c6.c5
 obtain⟨f,hf⟩:∃ f,f=brB o (D+bd) t.kind:=⟨_,rfl⟩
 have HF:Hid (∀ b:List C × List Tm,f (b.1,b.2.length)=(!decide (partsK t.kind=0) && decide ((b.2.length:Int)=partsK t.kind) && rightA b.1 && reachB o (D+bd) b.1)):=fun b=>by rw [hf];rfl
 rw [<- hf]
 clear hf
 obtain⟨l,hl⟩:∃ l,l=t.sys:=⟨_,rfl⟩
 have hbl:∀ b∈l,1+b.1.length+blkL b.2<100000:=fun b hb=>by rw [hl] at hb;have:=blk_br hb;omega
 rw [<- hl] at HT c5 hl4 ⊢
 obtain⟨p,hp⟩:∃ p,p=partsK t.kind:=⟨_,rfl⟩
 rw [<- hp] at HF
 have cP:=partsC_any t.kind w2
 rw [<- hp] at cP
 obtain⟨L,hL⟩:∃ L,L=l.length:=⟨_,rfl⟩
 have HL:Hid (L=l.length):=hL
 rw [<- hL] at HT c5 hl4
 have hLb:L<=100000:=by omega
 rw [List.all_map]
 obtain⟨ff,hff⟩:∃ ff:List C × List Tm->Bool,ff=f ∘ fun b=>(b.1,b.2.length):=⟨_,rfl⟩
 have HFF:Hid (∀ b:List C × List Tm,ff b=(!decide (p=0) && decide ((b.2.length:Int)=p) && rightA b.1 && reachB o (D+bd) b.1)):=fun b=>by rw [hff];exact HF.out b
 rw [<- hff]
 have H2:Hid (_=_):=hw2
 clear hw2 m1 m2 h6 ht c6 hl1 hl2 hl3 hl4 hl hL hff HF hp
 have HTT:Hid (SyT Tt w2 (TmIn Tt w2) l (.slice sa L sc)):=HT
 clear HT
 go_enter Tryz.func180,Tryz.ntmps180
 go_upto_region 1 with fail
 rw [<- H2.out]
 clear H2
 go_wp2_with (go_at_call 227;refine cP.mono ?_;rintro e w' ⟨rfl,hw'⟩;replace hw':=hw'.symm;subst hw'; clear cP)
 go_loopw [20] (fun i wr=>∃ k:Nat,k<=L/\i=.int .i64 k/\Hid ((l.take k).all ff=true)/\Below w2.heap.size w2 wr) (fun i _=>L - (intOf i).toNat)
 case atStart=>exact⟨0,Nat.zero_le _,rfl,rfl,Below.refl _ _⟩
 case round =>
  obtain⟨k,hk,rfl,HK,hB⟩:=hrel
  clear c0 c5
  by_cases hlt:k<L
  ·obtain⟨b,hb0⟩:=someL (l:=l) (k:=k) (by rw [<- HL.out];exact hlt)
   obtain⟨sg,so,fa,fc,ka2,kc2,rfl,_,h2,hcl,hkd⟩:=(HTT.out.blw hB).at hb0
   obtain⟨lt2,d0,d1⟩:=h2
   have hbb:=hbl b (List.mem_of_getElem? hb0)
   have hbn:=blkL_len b.2
   have HS:Hid (ff b=true->(l.take (k+1)).all ff=true):=fun e=>allT_step HK.out hb0 e
   have HN:Hid (ff b=false->l.all ff=false):=fun e=>allT_bad hb0 e
   have HV:Hid (ff b=_):=HFF.out b
   obtain⟨w4,hw4⟩:∃ w4,w4=wr.alloc (.cells #[.slice fa b.1.length fc,.slice ka2 b.2.length kc2] 40):=⟨_,rfl⟩
   have b4:Below wr.heap.size wr w4:=by rw [hw4];exact belowA _ _
   have n4:w4.heap[wr.heap.size]? = some (.cells #[.slice fa b.1.length fc,.slice ka2 b.2.length kc2] 40 (0,0)):=by rw [hw4];exact heapNew _ _
   have s4:wr.heap.size<w4.heap.size:=by rw [hw4];simp
   have hB4:=bchain hB b4
   have cA:=aright_any b.1 _ w4 (hcl.blw b4).frow (by omega)
   have HRr:Hid (∀ w5,Below w4.heap.size w4 w5->Calls Tryz.prog 228 #[.agg #[.int .i64 V,.int .i64 (D:Int),.bool o],.slice fa b.1.length fc,.agg #[.int .i64 (bv:Int),.int .i64 (bd:Int)]] w5 fun e w'=>e=.returned (.bool (reachB o (D+bd) b.1))/\Below w5.heap.size w5 w'):=fun w5 q=>reaches_any V D o bv bd b.1 _ w5 (hcl.blw (bchain b4 q)) (by omega) hD hb
   obtain⟨z1,hz1⟩:∃ z,z=b.1.length:=⟨_,rfl⟩
   obtain⟨z2,hz2⟩:∃ z,z=b.2.length:=⟨_,rfl⟩
   rw [<- hz1] at d0 hw4 n4 cA HRr
   rw [<- hz2] at d1 hw4 n4 HV
   have hz2b:z2<=100000:=by omega
   generalize rightA b.1=fA at *
   generalize reachB o (D+bd) b.1=fR at *
   obtain⟨v0,v1⟩:=cells2 n4
   have H4:Hid (_=_):=hw4
   clear hw4 hz1 hz2 hbb hbn hcl hkd HTT HFF hbl hb0 HL lt2
   by_cases hp0:p=0
   ·have Hf:Hid (ff b=false):=by show _=_;rw [HV.out];simp [hp0]
    subst hp0
    go_wp2_with fail
    go_ret
    exact⟨ret_bool (HN.out Hf.out).symm,by rw [<- H4.out];exact bchain hb2 hB4⟩
   ·by_cases hpz:(z2:Int)=p
    ·have q1:((z2:Int) != p)=false:=by simpa using hpz
     have q0:(p == 0)=false:=by simpa using hp0
     have HV2:Hid (ff b=(fA && fR)):=by show _=_;rw [HV.out];simp [hp0,hpz]
     clear HV
     cases fA with
     | false =>
      have Hf:Hid (ff b=false):=by show _=_;rw [HV2.out];rfl
      go_wp2_with fail
      rw [<- H4.out]
      clear H4
      go_wp2_with fail
      refine cA.mono ?_
      rintro e w5 ⟨rfl,hb5⟩
      have q5:=bchain hb2 (bchain hB4 hb5)
      clear cA d0 d1 v0 v1 n4
      go_wp2
      go_ret
      exact⟨ret_bool (HN.out Hf.out).symm,q5⟩
     | true =>
      go_wp2_with fail
      rw [<- H4.out]
      clear H4
      go_wp2_with fail
      refine cA.mono ?_
      rintro e w5 ⟨rfl,hb5⟩
      have cR:=HRr.out w5 hb5
      have hB5:=bchain hB4 hb5
      obtain⟨x0,x1,x2,y0,y1⟩:=X.out w5 hB5
      have v0':=(hb5.cell (p:=⟨wr.heap.size,0,none⟩) s4).trans v0
      clear cA d0 d1 v0 v1 n4 HRr
      go_wp2_with fail
      refine cR.mono ?_
      rintro e w6 ⟨rfl,hb6⟩
      have hB6:=bchain hB5 hb6
      have q6:=bchain hb2 hB6
      clear cR x0 x1 x2 y0 y1 v0'
      cases fR with
      | false =>
       have Hf:Hid (ff b=false):=by show _=_;rw [HV2.out];rfl
       go_wp2
       go_ret
       exact⟨ret_bool (HN.out Hf.out).symm,q6⟩
      | true =>
       have Hf:Hid (ff b=true):=by show _=_;rw [HV2.out];rfl
       go_wp2
       go_roundw
       case rel=>exact⟨k+1,by omega,by go_num,HS.out Hf.out,hB6⟩
       case measure=>simp [intOf];omega
    ·have q1:((z2:Int) != p)=true:=by simpa using hpz
     have q0:(p == 0)=false:=by simpa using hp0
     have Hf:Hid (ff b=false):=by show _=_;rw [HV.out];simp [hpz]
     go_wp2_with fail
     all_goals
      try rw [<- H4.out]
      try go_wp2_with fail
      go_ret
      exact⟨ret_bool (HN.out Hf.out).symm,bchain hb2 hB4⟩
  ·obtain rfl:k=L:=by omega
   have HK2:Hid (l.all ff=true):=by
    have h1:=HK.out
    rwa [List.take_of_length_le (by rw [<- HL.out];exact Nat.le_refl _)] at h1
   go_wp2
   go_ret
   exact⟨ret_bool HK2.out.symm,bchain hb2 hB⟩
end Go.Proofs.YtblbhmnahoiecaaGreat
