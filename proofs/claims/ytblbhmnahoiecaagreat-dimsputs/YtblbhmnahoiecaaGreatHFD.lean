/- A part of the proof. -/
import Derived.Test.YtblbhmnahoiecaaGreatHFC
import Derived.Test.YtblbhmnahoiecaaGreatHFMA
set_option linter.unusedVariables false
set_option linter.unusedSimpArgs false
set_option maxRecDepth 100000
set_option maxHeartbeats 4000000
namespace Go.Proofs.YtblbhmnahoiecaaGreat
open Go.RowKit
open Go.RowKit Go.Sort
open Go.RowKit Go.Shelf
open Go.RowKit Go.Shelf Go.Sort
open Go.RowKit Go.Maps
theorem without_bits (s j:Nat) (hs:s<4294967296) (hj:j<24):bits BinOp.andNot IntKind.u32 (bits BinOp.and IntKind.u32 (s:Int) 16777215) (2 ^ j % 4294967296)=((withoutN s (j:Int):Nat):Int):=by
 rw [and_low s hs,pow_mod32 j hj,bits_andNot32,withoutN,isDimB_nat hj]
 simp
theorem without_any (s:Nat) (i:Int) (w:World) (hs:s<4294967296) :
  Calls Tryz.prog 193 #[.int .u32 s,.int .i64 i] w fun e w'=>e=.returned (.int .u32 (withoutN s i:Nat))/\w'=w:=by
 by_cases hd:isDimB i=true
 ·have h':0<=i/\i<24:=by simpa [isDimB] using hd
  obtain⟨j,rfl⟩:=Int.eq_ofNat_of_zero_le h'.1
  have hj:j<24:=by omega
  have H:Hid (bits BinOp.andNot IntKind.u32 (bits BinOp.and IntKind.u32 (s:Int) 16777215) (2 ^ j % 4294967296)=((withoutN s (j:Int):Nat):Int)):=without_bits s j hs hj
  clear h'
  go_enter Tryz.func193,Tryz.ntmps193
  go_wp2_with (go_at_call 153;refine (isDim_any _ _).mono ?_;rintro e w' ⟨rfl,rfl⟩;rw [hd])
  go_ret
  exact⟨ret_int H.out,rfl⟩
 ·have hd:isDimB i=false:=by simpa using hd
  have H:Hid (bits BinOp.and IntKind.u32 (s:Int) 16777215=((withoutN s i:Nat):Int)):=(and_low s hs).trans (by rw [withoutN_no hd])
  go_enter Tryz.func193,Tryz.ntmps193
  go_wp2_with (go_at_call 153;refine (isDim_any _ _).mono ?_;rintro e w' ⟨rfl,rfl⟩;rw [hd])
  go_ret
  exact⟨ret_int H.out,rfl⟩
theorem meet_nat (p n q m:Nat) (w:World) (hp:p<4294967296) (hn:n<4294967296) (hq:q<4294967296) (hm:m<4294967296) :
  Calls Tryz.prog 177 #[.agg #[.int .u32 p,.int .u32 n],.agg #[.int .u32 q,.int .u32 m]] w fun e w'=>e=.returned (.agg #[.int .u32 ((p ||| q) &&& 16777215:Nat),.int .u32 ((n ||| m) &&& 16777215:Nat)])/\Grew w w':=by
 have h1:Hid (_=_):=or_low p q hp hq
 have h2:Hid (_=_):=or_low n m hn hm
 go_enter Tryz.func177,Tryz.ntmps177
 go_wp2
 exact bodyPost_ret (v:=.agg #[.int .u32 (bits BinOp.and IntKind.u32 (bits BinOp.or IntKind.u32 (p:Int) (q:Int)) 16777215),.int .u32 (bits BinOp.and IntKind.u32 (bits BinOp.or IntKind.u32 (n:Int) (m:Int)) 16777215)]) (by simp [results,Tryz.results177,go_sem]) rfl ⟨by rw [h1.out,h2.out],(((Grew.refl w).alloc _).alloc _).alloc _⟩
theorem meet_any (a b:C) (w:World):Calls Tryz.prog 177 #[clV a,clV b] w fun e w'=>e=.returned (clV (meetC a b))/\Grew w w' :=
 meet_nat a.1.val a.2.val b.1.val b.2.val w a.1.isLt a.2.isLt b.1.isLt b.2.isLt
theorem OwnsC.frow {w:World} {base:Nat} {v:Value} {l:List C} (h:OwnsC w base v l):FRow w v l :=
 ⟨OwnsC.row h,by
  rcases h.2 with ⟨rfl,hz⟩|⟨g,cap,cur,rfl,_,_,hn,_⟩
  ·exact⟨_,_,_,rfl,Nat.le_refl _⟩
  ·exact⟨_,_,_,rfl,hn⟩⟩
theorem At.far {W W':World} {g:Nat} {c:C} {row:Option Nat} (h:At W g c) (hg:W.grownBy W' row) (hne:some g≠row):At W' g c :=
 ⟨(hg.cell_far ⟨g,0,none⟩ h.2.2 hne).trans h.1,(hg.cell_far ⟨g,1,none⟩ h.2.2 hne).trans h.2.1,Nat.lt_of_lt_of_le h.2.2 hg.size⟩
theorem own_one1 (w:World) (c:C) (base:Nat) (hb:base<=w.heap.size):OwnsC (w.alloc (.cells #[.int .u32 (c.1.val:Int),.int .u32 (c.2.val:Int)] 38)) base (.slice (some ⟨w.heap.size,0,none⟩) 1 1) [c] :=
 World.ownsRow_lit (base:=base) (e:=38) (size:=2) w #[.int .u32 (c.1.val:Int),.int .u32 (c.2.val:Int)] 1 hb (by unfold maxLen;omega) rfl
theorem pairs_snoc (l m:List C) (c:C):pairsC (l ++ [c]) m=pairsC l m++m.map (meetC c):=by simp [pairsC]
theorem pairs_take_step {l m:List C} {k:Nat} {c:C} (h:l[k]? = some c):pairsC (l.take (k+1)) m=pairsC (l.take k) m++m.map (meetC c):=by
 have e:l.take (k+1)=l.take k ++ [c]:=by rw [List.take_add_one,h];rfl
 rw [e,pairs_snoc]
theorem map_take_step {m:List C} {j:Nat} {c d:C} (h:m[j]? = some d):(m.take (j+1)).map (meetC c)=(m.take j).map (meetC c) ++ [meetC c d]:=by
 have e:m.take (j+1)=m.take j ++ [d]:=by rw [List.take_add_one,h];rfl
 rw [e];simp
theorem pairs_take_le (l m:List C) (k:Nat) (hl:l.length<=300) (hm:m.length<=300):(pairsC (l.take k) m).length<=90000:=by
 rw [pairs_length]
 have h1:(l.take k).length<=300:=by rw [List.length_take];omega
 exact Nat.mul_le_mul h1 hm
theorem fmeet_any (l m:List C) (a b:Value) (w:World) (ha:CRow w a l) (hb:CRow w b m) (hl:l.length<=300) (hm:m.length<=300) :
  Calls Tryz.prog 134 #[a,b] w fun e w'=>∃ v,e=.returned (.tuple #[v,.int .i64 (meetR l m).2])/\OwnsC w' w.heap.size v (meetR l m).1/\Below w.heap.size w w':=by
 obtain⟨i0,hi,hz0,hz1,hz2⟩:=info_parts Tryz.infoC
 have hpl:=fun k=>pairs_take_le l m k hl hm
 obtain⟨pa,ca,rfl⟩:=ha.len
 obtain⟨pb,cb,rfl⟩:=hb.len
 have Ha:Hid (CRow w (.slice pa l.length ca) l):=ha
 have Hb:Hid (CRow w (.slice pb m.length cb) m):=hb
 clear ha hb
 obtain⟨n1,hn1⟩:∃ n1,n1=l.length:=⟨_,rfl⟩
 obtain⟨n2,hn2⟩:∃ n2,n2=m.length:=⟨_,rfl⟩
 have Hn1:Hid (n1=l.length):=hn1
 have Hn2:Hid (n2=m.length):=hn2
 rw [<- hn1] at hl Ha ⊢
 rw [<- hn2] at hm Hb ⊢
 clear hn1 hn2
 have hnm:n1*n2<=90000:=Nat.mul_le_mul hl hm
 have e1:wrap64 ((n1:Int) * (n2:Int))=((n1*n2:Nat):Int):=by rw [<- Int.natCast_mul];unfold wrap64;omega
 go_enter Tryz.func134,Tryz.ntmps134
 go_wp2_with (at_make;refine wpList_make_own _ rfl _ _ 22 rfl w.heap.size 38 i0 (.agg #[.int .u32 0,.int .u32 0]) 2 Tryz.underlying22 hi hz0 hz1 .i64 .i64 _ (n1*n2) rfl rfl (by first | rfl | exact e1) (by rw [hz2];omega) (by unfold maxLen;omega) (by simp) ?_;intro w1 hown1 hgrow1)
 go_loopw [6,19] (fun v i wr=>∃ k:Nat,k<=n1/\i=.int .i64 k/\OwnsC wr w.heap.size v (pairsC (l.take k) m)/\Below w.heap.size w wr) (fun _ i _=>n1 - (intOf i).toNat)
 case atStart=>exact⟨0,Nat.zero_le _,rfl,hown1,(Below.refl w.heap.size w).grown hgrow1 (Nat.le_refl _) (fun k h=>by cases h)⟩
 case round =>
  obtain⟨k,hk,rfl,hO,hny⟩:=hrel
  clear hown1 hgrow1
  by_cases hlt:k<n1
  ·obtain⟨c,hck⟩:=get_some (l:=l) (k:=k) (by rw [<- Hn1.out];exact hlt)
   obtain⟨g,off,rfl,hg,x0,x1⟩:=(Ha.out.below hny).at hck
   have HC:Hid (l[k]? = some c):=hck
   clear hck
   have hne0:=own_ne hO
   go_wp2
   go_loopw [6,25] (fun v i wr2=>∃ j:Nat,j<=n2/\i=.int .i64 j/\OwnsC wr2 w.heap.size v (pairsC (l.take k) m++(m.take j).map (meetC c))/\Below w.heap.size w wr2/\At wr2 wr.heap.size c/\v.ownBlock≠some wr.heap.size) (fun _ i _=>n2 - (intOf i).toNat)
   case atStart=>exact⟨0,Nat.zero_le _,rfl,by simp only [List.take_zero,List.map_nil,List.append_nil];exact OwnsC.below hO (below_alloc _ _),chain hny (below_alloc _ _),At.made _ _ _,hne0⟩
   case round =>
    obtain⟨j,hj,rfl,hO2,hny2,hat,hne⟩:=hrel
    by_cases hlt2:j<n2
    ·obtain⟨d,hdj⟩:=get_some (l:=m) (k:=j) (by rw [<- Hn2.out];exact hlt2)
     obtain⟨g2,off2,rfl,hg2,y0,y1⟩:=(Hb.out.below hny2).at hdj
     have hat0:=hat
     obtain⟨z0,z1,z2⟩:=hat0
     have HD:Hid (m[j]? = some d):=hdj
     have hlen:Hid ((pairsC (l.take k) m++(m.take j).map (meetC c)).length + [meetC c d].length<=200000):=by
      have h1:=hpl k
      have h2:=List.length_take_le j m
      show (pairsC (l.take k) m++(m.take j).map (meetC c)).length+1<=200000
      rw [List.length_append,List.length_map]
      omega
     clear hdj
     go_wp2_with (first
      | (go_at_call 177;refine (meet_any _ _ _).mono ?_;rintro e w3 ⟨rfl,hG⟩)
      | (at_builtin;refine wpList_append_row rfl _ _ rfl w.heap.size _ _ _ [meetC c d] rfl rfl (OwnsC.below (OwnsC.below (OwnsC.below hO2 (below_alloc _ _)) hG.below) (below_alloc _ _)) (row_one _ _) hlen.out (by have:=hny2.size;have:=hG.below.size;simp at *; omega) ?_;intro v4 w4 hO4 hg4 hv4))
     have hX:=chain (chain (chain hny2 (below_alloc _ _)) hG.below) (below_alloc w3 (.cells #[.int .u32 ((meetC c d).1.val:Int),.int .u32 ((meetC c d).2.val:Int)] 38))
     have hOX:=(OwnsC.below (OwnsC.below (OwnsC.below hO2 (below_alloc _ _)) hG.below) (below_alloc w3 (.cells #[.int .u32 ((meetC c d).1.val:Int),.int .u32 ((meetC c d).2.val:Int)] 38)))
     have hAX:=((hat.alloc _).below hG.below).alloc (.cells #[.int .u32 ((meetC c d).1.val:Int),.int .u32 ((meetC c d).2.val:Int)] 38)
     go_roundw
     case rel=>exact⟨j+1,by omega,by go_num,by rw [map_take_step HD.out,<- List.append_assoc];exact hO4,hX.trans (own_grown hOX hg4 hX.size),hAX.far hg4 hne.symm,own_next hv4 hne hAX.2.2⟩
     case measure=>simp [intOf];omega
    ·obtain rfl:j=n2:=by omega
     have e2:m.take j=m:=List.take_of_length_le (by rw [<- Hn2.out];exact Nat.le_refl _)
     rw [e2,<- pairs_take_step HC.out] at hO2
     go_wp2
     go_roundw
     case rel=>exact⟨k+1,by omega,by go_num,hO2,hny2⟩
     case measure=>simp [intOf];omega
  ·obtain rfl:k=n1:=by omega
   have e:l.take k=l:=List.take_of_length_le (by rw [<- Hn1.out];exact Nat.le_refl _)
   rw [e] at hO
   have hrl:(pairsC l m).length<=100000:=by have:=hpl k;rw [e] at this;omega
   go_wp2_with (go_at_call 119;refine (leastC _ _ _ (OwnsC.row hO) hrl).mono ?_;rintro e w2 ⟨v2,rfl,hO2,hB2⟩)
   go_ret2
   exact⟨_,rfl,OwnsC.mono hO2 hny.size,chain hny hB2⟩
attribute [local go_sem] Oper.semAt_some
theorem inS_length_le (s:Nat) (pre:List Dim):(inS s pre).length<=pre.length:=by
 have:=List.length_filter_le (fun k=>s.testBit k) (pre.map Fin.val)
 simpa [inS] using this
theorem list_any (s:Nat) (w:World) (hs:s<4294967296) :
  Calls Tryz.prog 145 #[.int .u32 s] w fun e W'=>∃ v,e=.returned v/\OwnsL W' w.heap.size v (dimsOf s)/\Below w.heap.size w W':=by
 obtain⟨i0,hi,hz0,hz1,hz2⟩:=info_parts Tryz.infoInt
 refine (callsIn_wide (n:=4)).1 ?_
 refine callsIn_of_wp_marks Tryz.func145 rfl trivial ?_ rfl
 simp only [Tryz.ntmps145,List.size_toArray,List.length_cons,List.length_nil,Nat.reduceAdd,Nat.reduceSub,Array.replicate_succ,Array.replicate_zero,List.push_toArray,List.append_toArray,List.nil_append,List.cons_append]
 gi_wp2
 have b0:=Boxed.new w 36 (.int .u32 s)
 have b1:=Boxed.new (w.alloc (.cells #[.int .u32 s] 36)) 147 (.slice none 0 0)
 rw [World.size_alloc] at b1
 have hB0:Below w.heap.size w ((w.alloc (.cells #[.int .u32 s] 36)).alloc (.cells #[.slice none 0 0] 147)):=((Below.refl _ w).alloc (Nat.le_refl _) _).alloc (by simp) _
 refine wpIn_rangeFunc_ownG rfl (by omega) (gf:=171) (lb:=#[]) rfl trivial (enters_of Tryz.func171 (by kernel_rfl) rfl)
  (dims_stops 3 (by omega) w.heap.size _) belowK_t (belowK_b (by simp;omega)) (Below.refl _ _) (fun _=>rfl)
  (fun pre W=>(Boxed W w.heap.size 36 (.int .u32 s)/\∃ v,Boxed W (w.heap.size+1) 147 v/\W.ownsRow w.heap.size 3 1 v (inS s pre).length ((inS s pre).map encI)/\True)/\Below w.heap.size w W)
  (fun _ _ _=>False)
  (OwnFrom.and (OwnFrom.and (Own.from (boxed_own _ _ _) _) (Own.from (holdsRow_own w.heap.size (w.heap.size+1) 147 3 1 (fun pre=>(inS s pre).length) (fun pre=>(inS s pre).map encI) (fun _ _=>True)) _)) (ownFrom_below (Nat.le_refl _) (by simp;omega)))
  (fun _ _ _ _ _ hs _ _=>hs)
  ⟨⟨b0.alloc _,_,b1,World.ownsRow_nil _ _ _ _,trivial⟩,hB0⟩
  (fun x=>{ tmps:=#[.int .u32 s,.pointer (some ⟨w.heap.size,0,none⟩),.slice none 0 0,.pointer (some ⟨w.heap.size+1,0,none⟩),.int .i64 ((x.1:Nat):Int),.int .i64 ((x.1:Nat):Int),undef,undef,undef,undef,undef,undef,undef,undef],defers:=[] }) ?assign ?body ?done ?stop
 case assign =>
  intro l x W K hK
  gi_wp2
  exact hK
 case body =>
  rintro l pre x W ⟨⟨hb0,v,hv,hrow,_⟩,hB⟩ hlt
  have hc0:=hb0.cell
  have hc1:=hv.cell
  have hx:=x.2
  have hul:=inS_length_le s pre
  by_cases hb:s.testBit x.1=true
  ·have hh:hasB s ((x.1:Nat):Int)=true:=by rw [hasB_nat hx];exact hb
   have HU:Hid (inS s (pre ++ [x])=inS s pre ++ [x.1]):=inS_hit hb
   clear hb
   gi_wp2_with (first
    | (refine⟨trivial,?_⟩;gi_at_call 104;refine (CallsIn.inRound l (callsIn_wide.2 (has_any _ _ _ hs))).mono ?_;rintro e w' ⟨rfl,rfl⟩;rw [hh])
    | (gi_at_builtin;refine wpListIn_append_own _ rfl _ _ 147 rfl w.heap.size 3 i0 (.int .i64 0) 1 8 Tryz.underlying147 hi hz0 hz1 hz2 rfl (by decide) _ _ _ rfl (hrow.alloc _) ⟨_,0,none⟩ 1 1 [.int .i64 ((x.1:Nat):Int)] rfl rfl (cell_one_new _ _ _) (by simp [Value.oneCell']) (by unfold maxLen;omega) (by omega) (by have:=hB.size;simp;omega) ?_;intro v' w1 hown' hgrow _;obtain⟨g',cap',rfl⟩:=ownsRow_succ hown'; obtain⟨hv1,hv2,hr2,hk2,hb2⟩:=hv.appended (by decide) hrow hB.size (by omega) hown' hgrow;have hb01:=(hb0.alloc (.cells #[.int .i64 ((x.1:Nat):Int)] 3)).kept hgrow (hb0.not_row (by decide) hrow);have hc1':=hv1.cell;have hf1:=hv1.frozen))
   exact⟨hk2.from _,hb2,⟨hb01.other (by omega) _,_,hv2,by rw [HU.out];simpa [encI] using hr2,trivial⟩,hB.trans hb2⟩
  ·have hb:s.testBit x.1=false:=by simpa using hb
   have hh:hasB s ((x.1:Nat):Int)=false:=by rw [hasB_nat hx];exact hb
   have HU:Hid (inS s (pre ++ [x])=inS s pre):=inS_miss hb
   clear hb
   gi_wp2_with (refine⟨trivial,?_⟩;gi_at_call 104;refine (CallsIn.inRound l (callsIn_wide.2 (has_any _ _ _ hs))).mono ?_;rintro e w' ⟨rfl,rfl⟩;rw [hh])
   exact⟨KeepsFrom.refl _ _,Below.refl _ _,⟨hb0,_,hv,by rw [HU.out];exact hrow,trivial⟩,hB⟩
 case done =>
  rintro D ys W hD hys ⟨⟨hb0,v,hv,hrow,_⟩,hB⟩ hK
  rw [inS_all hys] at hrow
  have hc:=hv.cell
  gi_wp2
  refine⟨by simp,.inl ⟨_,_,rfl,run_takeDeferred hK,?_⟩⟩
  exact⟨_,results_tmp rfl _ _ _,v,rfl,ownsRow_putObj hrow _ hK rfl,hB.trans (belowK_b (w:=w) (Nat.le_refl _) W D _ _ (by simp at hD;omega) hK rfl rfl)⟩
 case stop =>
  rintro D c pre W _ _ h _
  exact h.elim
theorem with0 (k:Nat) (hk:k<24) (w:World):Calls Tryz.prog 149 #[.int .u32 0,.int .i64 (k:Int)] w fun e w'=>e=.returned (.int .u32 ((bitF k).val:Int))/\w'=w:=by
 have h:=with_any 0 (k:Int) w (by decide)
 have e:withN 0 (k:Int)=(bitF k).val:=by
  rw [withN,isDimB_nat hk,bitF_val hk];simp
 rw [e] at h
 exact h
theorem row_neg (w:World) (k:Nat):CRow (w.alloc (.cells #[.int .u32 0,.int .u32 ((bitF k).val:Int)] 38)) (.slice (some ⟨w.heap.size,0,none⟩) 1 1) [negB k]:=row_one w (negB k)
theorem row_pos (w:World) (k:Nat):CRow (w.alloc (.cells #[.int .u32 ((bitF k).val:Int),.int .u32 0] 38)) (.slice (some ⟨w.heap.size,0,none⟩) 1 1) [posB k]:=row_one w (posB k)
theorem Reads.far {W W':World} {a:Option Addr} {n:Nat} {d:List Nat} {v v':Value} (h:Reads W a n d v) (hg:W.grownBy W' v.ownBlock) (hv:v'.ownBlock=v.ownBlock\/v'.ownBlock=some W.heap.size):Reads W' a n d v' :=
 h.imp id fun ⟨g,h1,h2,h3,h4⟩=>⟨g,h1,Nat.lt_of_lt_of_le h2 hg.size,own_next hv h3 h2,fun j hj=>(hg.cell_far ⟨g,j,none⟩ h2 h3.symm).trans (h4 j hj)⟩
theorem map_take_nat {d:List Nat} {f:Nat->C} {k:Nat} (h:k<d.length):(d.take (k+1)).map f=(d.take k).map f ++ [f (d[k]?.getD 0)]:=by
 have e:d[k]?.getD 0=d[k]:=by simp [h]
 rw [List.take_succ_eq_append_getElem h,List.map_append,e];rfl
theorem opp_any (c:C) (w:World) :
  Calls Tryz.prog 186 #[clV c] w fun e w'=>∃ v,e=.returned v/\OwnsC w' w.heap.size v (oppC c)/\Below w.heap.size w w':=by
 have hA:=At.made w c 38
 have hB:=below_alloc w (.cells #[.int .u32 (c.1.val:Int),.int .u32 (c.2.val:Int)] 38)
 have hc1:=c.1.isLt
 have hc2:=c.2.isLt
 have hd1:∀ {k},k<(dimsOf c.1.val).length->(dimsOf c.1.val)[k]?.getD 0<24:=fun h=>getD_lt dimsOf_lt h
 have hd2:∀ {k},k<(dimsOf c.2.val).length->(dimsOf c.2.val)[k]?.getD 0<24:=fun h=>getD_lt dimsOf_lt h
 have hl1:=dimsOf_length_le c.1.val
 have hl2:=dimsOf_length_le c.2.val
 go_enter Tryz.func186,Tryz.ntmps186
 go_wp2_with fail
 generalize w.alloc (.cells #[.int .u32 (c.1.val:Int),.int .u32 (c.2.val:Int)] 38)=wb at hA hB ⊢
 refine (list_any c.1.val wb hc1).mono ?_
 rintro e w1 ⟨vl,rfl,hOl,hB1⟩
 obtain⟨pa,ca,rfl,hR⟩:=Reads.of hOl
 replace hR:=hR (.slice none 0 0) (fun g h=>by cases h)
 obtain⟨n1,hn1⟩:∃ n1,n1=(dimsOf c.1.val).length:=⟨_,rfl⟩
 have Hn1:Hid (n1=(dimsOf c.1.val).length):=hn1
 rw [<- hn1] at hl1 hR ⊢
 clear hn1 hOl
 go_wp2
 go_loopw [3,12] (fun v i wr=>∃ k:Nat,k<=n1/\i=.int .i64 k/\OwnsC wr wb.heap.size v (((dimsOf c.1.val).take k).map negB)/\Reads wr pa n1 (dimsOf c.1.val) v/\Below wb.heap.size wb wr) (fun _ i _=>n1 - (intOf i).toNat)
 case atStart=>exact⟨0,Nat.zero_le _,rfl,World.ownsRow_nil _ _ _ _,hR,hB1⟩
 case round =>
  obtain⟨k,hk,rfl,hO,hRd,hny⟩:=hrel
  clear hR
  by_cases hlt:k<n1
  ·obtain⟨g,rfl,hg,hne,hcell⟩:=hRd.resolve_left (by omega)
   have hRd2:Reads wr (some ⟨g,0,none⟩) n1 (dimsOf c.1.val) _:=.inr ⟨g,rfl,hg,hne,hcell⟩
   have x0:=hcell k hlt
   have hx:=hd1 (k:=k) (by rw [<- Hn1.out];exact hlt)
   have HM:Hid (((dimsOf c.1.val).take (k+1)).map negB=((dimsOf c.1.val).take k).map negB ++ [negB ((dimsOf c.1.val)[k]?.getD 0)]):=map_take_nat (by rw [<- Hn1.out];exact hlt)
   have hlen:Hid ((((dimsOf c.1.val).take k).map negB).length + [negB ((dimsOf c.1.val)[k]?.getD 0)].length<=200000):=by
    have:=List.length_take_le k (dimsOf c.1.val)
    show (((dimsOf c.1.val).take k).map negB).length+1<=200000
    rw [List.length_map];omega
   clear hcell hne
   generalize (dimsOf c.1.val)[k]?.getD 0=x at x0 hx HM hlen
   go_wp2_with (first
    | (go_at_call 149;refine (with0 _ hx _).mono ?_;rintro e w3 ⟨rfl,rfl⟩)
    | (at_builtin;refine wpList_append_row rfl _ _ rfl wb.heap.size _ _ _ [negB x] rfl rfl (OwnsC.below hO (below_alloc _ _)) (row_neg _ _) hlen.out (by have:=hny.size;simp at *; omega) ?_;intro v4 w4 hO4 hg4 hv4))
   have hX:=chain hny (below_alloc w3 (.cells #[.int .u32 0,.int .u32 ((bitF x).val:Int)] 38))
   have hOX:=OwnsC.below hO (below_alloc w3 (.cells #[.int .u32 0,.int .u32 ((bitF x).val:Int)] 38))
   have hRX:=hRd2.below (below_alloc w3 (.cells #[.int .u32 0,.int .u32 ((bitF x).val:Int)] 38))
   go_roundw
   case rel=>exact⟨k+1,by omega,by go_num,by rw [HM.out];exact hO4,hRX.far hg4 hv4,hX.trans (own_grown hOX hg4 hX.size)⟩
   case measure=>simp [intOf];omega
  ·obtain rfl:k=n1:=by omega
   have e1:(dimsOf c.1.val).take k=dimsOf c.1.val:=List.take_of_length_le (by rw [<- Hn1.out];exact Nat.le_refl _)
   rw [e1] at hO
   clear hRd
   obtain⟨z0,z1,z2⟩:=hA.below hny
   go_wp2_with fail
   refine (list_any c.2.val wr hc2).mono ?_
   rintro e w5 ⟨vl,rfl,hOl,hB5⟩
   obtain⟨pb,cb,rfl,hR⟩:=Reads.of hOl
   have hOw:=hO
   have hRb:=hR _ (fun g h=>(World.ownsRow.lt hOw g h).2)
   clear hR
   have hO5:=OwnsC.below hO hB5
   have hny5:=chain hny hB5
   obtain⟨n2,hn2⟩:∃ n2,n2=(dimsOf c.2.val).length:=⟨_,rfl⟩
   have Hn2:Hid (n2=(dimsOf c.2.val).length):=hn2
   rw [<- hn2] at hl2 hRb ⊢
   clear hn2 hOl hO hOw hny z0 z1 z2
   go_wp2
   go_loopw [3,27] (fun v i wr=>∃ k:Nat,k<=n2/\i=.int .i64 k/\OwnsC wr wb.heap.size v ((dimsOf c.1.val).map negB++((dimsOf c.2.val).take k).map posB)/\Reads wr pb n2 (dimsOf c.2.val) v/\Below wb.heap.size wb wr) (fun _ i _=>n2 - (intOf i).toNat)
   case atStart=>exact⟨0,Nat.zero_le _,rfl,by simpa using hO5,hRb,hny5⟩
   case round =>
    obtain⟨j,hj,rfl,hO,hRd,hny⟩:=hrel
    clear hRb hO5 hny5
    by_cases hlt:j<n2
    ·obtain⟨g,rfl,hg,hne,hcell⟩:=hRd.resolve_left (by omega)
     have hRd2:Reads wr (some ⟨g,0,none⟩) n2 (dimsOf c.2.val) _:=.inr ⟨g,rfl,hg,hne,hcell⟩
     have x0:=hcell j hlt
     have hx:=hd2 (k:=j) (by rw [<- Hn2.out];exact hlt)
     have HM:Hid ((dimsOf c.1.val).map negB++((dimsOf c.2.val).take (j+1)).map posB=(dimsOf c.1.val).map negB++((dimsOf c.2.val).take j).map posB ++ [posB ((dimsOf c.2.val)[j]?.getD 0)]):=by
      show _=_
      rw [map_take_nat (by rw [<- Hn2.out];exact hlt),List.append_assoc]
     have hlen:Hid (((dimsOf c.1.val).map negB++((dimsOf c.2.val).take j).map posB).length + [posB ((dimsOf c.2.val)[j]?.getD 0)].length<=200000):=by
      have:=List.length_take_le j (dimsOf c.2.val)
      show ((dimsOf c.1.val).map negB++((dimsOf c.2.val).take j).map posB).length+1<=200000
      rw [List.length_append,List.length_map,List.length_map,<- Hn1.out];omega
     clear hcell hne
     generalize (dimsOf c.2.val)[j]?.getD 0=x at x0 hx HM hlen
     go_wp2_with (first
      | (go_at_call 149;refine (with0 _ hx _).mono ?_;rintro e w3 ⟨rfl,rfl⟩)
      | (at_builtin;refine wpList_append_row rfl _ _ rfl wb.heap.size _ _ _ [posB x] rfl rfl (OwnsC.below hO (below_alloc _ _)) (row_pos _ _) hlen.out (by have:=hny.size;simp at *; omega) ?_;intro v4 w4 hO4 hg4 hv4))
     have hX:=chain hny (below_alloc w3 (.cells #[.int .u32 ((bitF x).val:Int),.int .u32 0] 38))
     have hOX:=OwnsC.below hO (below_alloc w3 (.cells #[.int .u32 ((bitF x).val:Int),.int .u32 0] 38))
     have hRX:=hRd2.below (below_alloc w3 (.cells #[.int .u32 ((bitF x).val:Int),.int .u32 0] 38))
     go_roundw
     case rel=>exact⟨j+1,by omega,by go_num,by rw [HM.out];exact hO4,hRX.far hg4 hv4,hX.trans (own_grown hOX hg4 hX.size)⟩
     case measure=>simp [intOf];omega
    ·obtain rfl:j=n2:=by omega
     have e2:(dimsOf c.2.val).take j=dimsOf c.2.val:=List.take_of_length_le (by rw [<- Hn2.out];exact Nat.le_refl _)
     rw [e2] at hO
     go_wp2
     go_ret
     exact⟨_,rfl,OwnsC.mono hO hB.size,chain hB hny⟩
theorem zeroCells_size (z:Value) (k:Nat) (hz:z.cells.size=2):(Builtin.zeroCells z.cells k).size=k*2:=by
 rw [size_zeroCells,hz]
theorem wpList_append_zeros {w:World} {ops:Array Oper} {rest:List Oper} {o:Oper} {a:Act} {Q:Exit->Act->World->Prop} (hgd:o.guard=none) (s x:Operand)
  (ho:o.op=.call { callee:=.builtin .append,args:=#[s,x],argTypes:=#[22,3] }) (vs vx v':Value) (w':World) (hs:a.eval s=vs) (hx:a.eval x=vx)
  (hrun:∀ ty,(Builtin.append_ #[22,3] ty #[vs,vx]).run Tryz.prog w=.ok v' w') (h:wpList Tryz.prog ops Q rest (a.put o.dst v') w'):wpList Tryz.prog ops Q (o :: rest) a w:=by
 refine wpList_plain hgd fun K hK'=>?_
 unfold Oper.wp
 simp [execOp,ho,resolve,invoke,builtin,hs,hx,hrun,Result.andThen]
 exact hK' _ _ h
theorem grow_none (n:Nat) (w:World) (hn:n<=200000) :
  Calls Tryz.prog 230 #[.slice none 0 0,.int .i64 n] w fun e w'=>∃ v,e=.returned v/\OwnsC w' w.heap.size v []/\Below w.heap.size w w':=by
 obtain⟨i0,hi,hz0,hz1,hz2⟩:=info_parts Tryz.infoC
 have h1:¬ ((n:Int) < 0):=by omega
 have h2:wrap64 ((n:Int) - 0)=(n:Int):=by unfold wrap64;omega
 rcases Nat.eq_zero_or_pos n with rfl|h0
 ·go_enter Tryz.func230,Tryz.ntmps230
  go_wp2
  go_ret
  exact⟨_,rfl,World.ownsRow_nil _ _ _ _,Below.refl _ _⟩
 ·have h3:(n:Int) > 0:=by omega
  have hrz:=fun ty=>Lib.run_append_nil_zeros (P:=Tryz.prog) w 22 3 ty 38 i0 _ .i64 .i64 Tryz.underlying22 Tryz.underlying3 hi hz0 n h0 (by omega) (by omega) (by rw [hz2];omega)
  have hGn:n<=grownCap w n 0 38:=grownCap_ge w _ _ _
  have hG63:=grownCap_le_maxLen w n 0 38 (by unfold maxLen;omega)
  obtain⟨G,hG⟩:∃ G,G=grownCap w n 0 38:=⟨_,rfl⟩
  rw [<- hG] at hrz hGn hG63
  clear hG
  have hG0:G≠0:=by omega
  have hO:OwnsC (w.drew.alloc (.cells (Builtin.zeroCells (Value.agg #[.int .u32 0,.int .u32 0]).cells n++Builtin.zeroCells (Value.agg #[.int .u32 0,.int .u32 0]).cells (G - n)) 38)) w.heap.size (.slice (some ⟨w.heap.size,0,none⟩) 0 G) []:=by
   refine⟨rfl,.inr ⟨w.heap.size,G,_,rfl,Nat.le_refl _,(MapKept.heap_alloc w.drew _).1,Nat.zero_le _,hG63,?_,rfl⟩⟩
   rw [Array.size_append,zeroCells_size _ _ rfl,zeroCells_size _ _ rfl,<- Nat.add_mul]
   congr 1
   omega
  have hB:Below w.heap.size w (w.drew.alloc (.cells (Builtin.zeroCells (Value.agg #[.int .u32 0,.int .u32 0]).cells n++Builtin.zeroCells (Value.agg #[.int .u32 0,.int .u32 0]).cells (G - n)) 38)) :=
   (below_drewN (Below.refl w.heap.size w) 1).alloc (by simp) _
  have hG63':G<=9223372036854775807:=by unfold maxLen at hG63;omega
  generalize hW:w.drew.alloc (.cells (Builtin.zeroCells (Value.agg #[.int .u32 0,.int .u32 0]).cells n++Builtin.zeroCells (Value.agg #[.int .u32 0,.int .u32 0]).cells (G - n)) 38)=W at hrz hO hB
  go_enter Tryz.func230,Tryz.ntmps230
  go_wp2_with (at_builtin;refine wpList_append_zeros rfl _ _ rfl _ _ _ _ rfl rfl hrz ?_)
  go_ret
  exact⟨_,rfl,hO,hB⟩
theorem concat_any (l m:List C) (a b:Value) (g:Nat) (w:World) (ha:CRow w a l) (hb:CRow w b m) (h0:w.cell? ⟨g,0,none⟩=some a) (h1:w.cell? ⟨g,1,none⟩=some b) (hg:g<w.heap.size) (hl:l.length<=40000) (hm:m.length<=40000) :
  Calls Tryz.prog 182 #[.slice (some ⟨g,0,none⟩) 2 2] w fun e w'=>∃ v,e=.returned v/\OwnsC w' w.heap.size v (l++m)/\Below w.heap.size w w':=by
 obtain⟨pa,ca,rfl⟩:=ha.len
 obtain⟨pb,cb,rfl⟩:=hb.len
 have Ha:Hid (CRow w (.slice pa l.length ca) l):=ha
 have Hb:Hid (CRow w (.slice pb m.length cb) m):=hb
 clear ha hb
 obtain⟨n1,hn1⟩:∃ n1,n1=l.length:=⟨_,rfl⟩
 obtain⟨n2,hn2⟩:∃ n2,n2=m.length:=⟨_,rfl⟩
 have Hn1:Hid (n1=l.length):=hn1
 have Hn2:Hid (n2=m.length):=hn2
 rw [<- hn1] at hl h0 Ha
 rw [<- hn2] at hm h1 Hb
 clear hn1 hn2
 have e1:wrap64 (0+(n1:Int))=(n1:Int):=by unfold wrap64;omega
 have e2:wrap64 ((n1:Int) + (n2:Int))=((n1+n2:Nat):Int):=by unfold wrap64;omega
 have l1:¬ ((n1:Int) < 0):=by omega
 have l2:¬ (((n1+n2:Nat):Int) < 0):=by omega
 go_enter Tryz.func182,Tryz.ntmps182
 go_wp2
 go_loop [3,11] (fun s i=>(i=.int .i64 0/\s=.int .i64 0)\/(i=.int .i64 1/\s=.int .i64 (n1:Int))\/(i=.int .i64 2/\s=.int .i64 ((n1+n2:Nat):Int))) (fun _ i=>2 - (intOf i).toNat)
 case atStart=>exact .inl ⟨rfl,rfl⟩
 case round =>
  rcases hrel with ⟨rfl,rfl⟩|⟨rfl,rfl⟩|⟨rfl,rfl⟩
  ·go_wp2
   go_round
   case rel=>exact .inr (.inl ⟨rfl,rfl⟩)
   case measure=>simp [intOf]
  ·go_wp2
   go_round
   case rel=>exact .inr (.inr ⟨rfl,rfl⟩)
   case measure=>simp [intOf]
  ·go_wp2_with (go_at_call 230;refine (grow_none (n1+n2) _ (by omega)).mono ?_;rintro e w1 ⟨v1,rfl,hO1,hB1⟩)
   go_loopw [6,27] (fun v i wr=>Below w.heap.size w wr/\((i=.int .i64 0/\OwnsC wr w.heap.size v [])\/(i=.int .i64 1/\OwnsC wr w.heap.size v l)\/(i=.int .i64 2/\OwnsC wr w.heap.size v (l++m)))) (fun _ i _=>2 - (intOf i).toNat)
   case atStart=>exact⟨hB1,.inl ⟨rfl,hO1⟩⟩
   case round =>
    obtain⟨hny,⟨rfl,hO⟩ | ⟨rfl,hO⟩ | ⟨rfl,hO⟩⟩:=hrel
    ·have y0:=(hny.cell (p:=⟨g,0,none⟩) hg).trans h0
     have hr:=Ha.out.below hny
     go_wp2_with (at_builtin;refine wpList_append_row rfl _ _ rfl w.heap.size _ _ [] l rfl rfl hO hr (by rw [<- Hn1.out];simp;omega) hny.size ?_;intro v2 w2 hO2 hg2 hv2)
     have hB2:=hny.trans (own_grown hO hg2 hny.size)
     go_roundw
     case rel=>exact⟨hB2,.inr (.inl ⟨rfl,hO2⟩)⟩
     case measure=>simp [intOf]
    ·have y1:=(hny.cell (p:=⟨g,1,none⟩) hg).trans h1
     have hr:=Hb.out.below hny
     go_wp2_with (at_builtin;refine wpList_append_row rfl _ _ rfl w.heap.size _ _ l m rfl rfl hO hr (by rw [<- Hn1.out,<- Hn2.out];omega) hny.size ?_;intro v2 w2 hO2 hg2 hv2)
     have hB2:=hny.trans (own_grown hO hg2 hny.size)
     go_roundw
     case rel=>exact⟨hB2,.inr (.inr ⟨rfl,hO2⟩)⟩
     case measure=>simp [intOf]
    ·go_wp2
     go_ret
     exact⟨_,rfl,hO,hny⟩
theorem fjoin_any (l m:List C) (a b:Value) (w:World) (ha:CRow w a l) (hb:CRow w b m) (hl:l.length<=40000) (hm:m.length<=40000) :
  Calls Tryz.prog 138 #[a,b] w fun e w'=>∃ v,e=.returned (.tuple #[v,.int .i64 (joinR l m).2])/\OwnsC w' w.heap.size v (joinR l m).1/\Below w.heap.size w w':=by
 have hB0:=below_alloc w (.cells #[a,b] 22)
 have hC:=concat_any l m a b w.heap.size (w.alloc (.cells #[a,b] 22)) (ha.below hB0) (hb.below hB0) (by simp [go_sem]) (by simp [go_sem]) (by simp) hl hm
 have hlm:(l++m).length<=100000:=by rw [List.length_append];omega
 obtain⟨pa,ca,rfl⟩:=ha.len
 obtain⟨pb,cb,rfl⟩:=hb.len
 clear ha hb
 unfold joinR
 generalize l++m=lm at *
 generalize l.length=n1 at *
 generalize m.length=n2 at *
 go_enter Tryz.func138,Tryz.ntmps138
 go_wp2_with (first
  | (go_at_call 182;refine hC.mono ?_;rintro e w1 ⟨v1,rfl,hO1,hB1⟩)
  | (go_at_call 119;refine (leastC _ _ _ (OwnsC.row hO1) hlm).mono ?_;rintro e w2 ⟨v2,rfl,hO2,hB2⟩))
 go_ret2
 have hB:=chain (chain hB0 hB1) hB2
 exact⟨_,rfl,OwnsC.mono hO2 (by have:=(chain hB0 hB1).size;omega),hB⟩
theorem not1_any (M:List C) (v:Value) (c:C) (w:World) (hv:CRow w v M) (hM:M.length<=64) :
  Calls Tryz.prog 185 #[v,clV c] w fun e w'=>∃ v',e=.returned (.tuple #[v',.int .i64 (meetR M (turnF c)).2])/\OwnsC w' w.heap.size v' (meetR M (turnF c)).1/\Below w.heap.size w w':=by
 have hB0:=below_alloc w (.cells #[.int .u32 (c.1.val:Int),.int .u32 (c.2.val:Int)] 38)
 have hv1:=hv.below hB0
 have hop:(oppC c).length<=100000:=by have:=opp_length c;omega
 have htl:=turn_len c
 have Ht:Hid (leastF (oppC c)=(turnF c,0)):=turn_told c
 obtain⟨pa,ca,rfl⟩:=hv.len
 clear hv
 have HM:Hid (M.length<=64):=hM
 clear hM
 generalize M.length=n at hv1 ⊢
 go_enter Tryz.func185,Tryz.ntmps185
 go_wp2_with fail
 generalize w.alloc (.cells #[.int .u32 (c.1.val:Int),.int .u32 (c.2.val:Int)] 38)=wb at hB0 hv1 ⊢
 refine (opp_any c wb).mono ?_
 rintro e w1 ⟨v1,rfl,hO1,hB1⟩
 go_wp2_with fail
 refine (leastC _ _ w1 (OwnsC.row hO1) hop).mono ?_
 rintro e w2 ⟨v2,rfl,hO2,hB2⟩
 rw [Ht.out] at hO2 ⊢
 have hv2:=(hv1.below hB1).below hB2
 have cM:=fmeet_any M (turnF c) _ _ w2 hv2 (OwnsC.row hO2) (by have:=HM.out;omega) (by omega)
 obtain⟨pb,cb,rfl⟩:=OwnsC.len hO2
 clear hO1 hO2 hv1
 go_wp2_with fail
 refine cM.mono ?_
 rintro e w3 ⟨v3,rfl,hO3,hB3⟩
 clear cM
 go_wp2
 go_ret2
 have hB:=chain (chain (chain hB0 hB1) hB2) hB3
 exact⟨_,rfl,OwnsC.mono hO3 (by have:=(chain (chain hB0 hB1) hB2).size;omega),hB⟩
theorem notR_take_step {l:List C} {k:Nat} {c:C} (h:l[k]? = some c) (h0:(notR (l.take k)).2=0):notR (l.take (k+1))=meetR (notR (l.take k)).1 (turnF c):=by
 have e:l.take (k+1)=l.take k ++ [c]:=by rw [List.take_add_one,h];rfl
 rw [e,notR_snoc,stepN,if_pos h0]
theorem notR_stuck {l:List C} (k:Nat) (h:(notR (l.take k)).2≠0):notR l=([],3):=by
 have e:notR l=(l.drop k).foldl stepN (notR (l.take k)):=by
  unfold notR
  rw [<- List.foldl_append,List.take_append_drop]
 rw [e,foldl_stuck stepN (fun a c ha=>by unfold stepN;rw [if_neg ha]) h]
 exact (notR_cases (l.take k)).resolve_left (fun x=>h x.1)
theorem one_any (w:World):Calls Tryz.prog 84 #[] w fun e w'=>∃ v,e=.returned v/\OwnsC w' w.heap.size v [top0]/\Below w.heap.size w w':=by
 go_enter Tryz.func84,Tryz.ntmps84
 go_wp2
 go_ret
 exact⟨_,rfl,own_one1 w top0 _ (Nat.le_refl _),below_alloc _ _⟩
theorem zero_any (w:World):Calls Tryz.prog 99 #[] w fun e w'=>e=.returned (.slice none 0 0)/\w'=w:=by
 go_enter Tryz.func99,Tryz.ntmps99
 go_wp2
 go_ret
 exact⟨rfl,rfl⟩
theorem fnot_any (l:List C) (v:Value) (w:World) (hv:CRow w v l) (hl:l.length<=100000) :
  Calls Tryz.prog 142 #[v] w fun e w'=>∃ v',e=.returned (.tuple #[v',.int .i64 (notR l).2])/\OwnsC w' w.heap.size v' (notR l).1/\Below w.heap.size w w':=by
 have eg:∀ args w,(callFunc 185 args).run Tryz.prog w=.ok (.enter 185 args) w:=enters_of Tryz.func185 (by kernel_rfl) rfl
 have hF:∀ (w1:World) (v1:Value),OwnsC w1 w.heap.size v1 [top0]->Below w.heap.size w w1->Calls Tryz.prog 116 #[v,v1,.func (.func 185) #[] #[]] w1 fun e w'=>Below w.heap.size w w'/\∃ v' er,e=.returned (.tuple #[v',.int .i64 er])/\((er=0/\(OwnsC w' w.heap.size v' (notR (l.take l.length)).1/\(notR (l.take l.length)).2=0))\/(er≠0/\v'=.slice none 0 0/\notR l=([],er))) :=
  fun w1 v1 h1 hB=>foldCR_any 185 #[] eg l v v1 w w1 hv hl (fun k v W=>OwnsC W w.heap.size v (notR (l.take k)).1/\(notR (l.take k)).2=0) (fun er=>notR l=([],er)) (fun k v W W' h hb=>⟨OwnsC.below h.1 hb,h.2⟩) hB ⟨h1,rfl⟩ (fun k c v W hk hW hI=>by
   refine (not1_any _ v c W (OwnsC.row hI.1) (notR_len _)).mono ?_
   rintro e w' ⟨v',rfl,hO,hB'⟩
   rw [<- notR_take_step hk hI.2] at hO ⊢
   refine⟨chain hW hB',v',_,rfl,?_⟩
   by_cases h0:(notR (l.take (k+1))).2=0
   ·exact .inl ⟨h0,OwnsC.mono hO hW.size,h0⟩
   ·refine .inr ⟨h0,?_⟩
    have h3:=(notR_cases (l.take (k+1))).resolve_left (fun x=>h0 x.1)
    rw [notR_stuck (k+1) h0,h3])
 obtain⟨pa,ca,rfl⟩:=hv.len
 clear hv
 rw [List.take_length] at hF
 generalize l.length=n at *
 go_enter Tryz.func142,Tryz.ntmps142
 go_wp2_with fail
 refine (one_any w).mono ?_
 rintro e w1 ⟨v1,rfl,hO1,hB1⟩
 replace hF:=hF w1 v1 hO1 hB1
 go_wp2_with fail
 refine hF.mono ?_
 rintro e w2 ⟨hB2,v2,er,rfl,⟨rfl,hO2,hz⟩ | ⟨hne,rfl,hq⟩⟩
 ·clear hF
  go_wp2
  go_ret2
  rw [hz]
  exact⟨_,rfl,hO2,hB2⟩
 ·clear hF
  go_wp2
  go_ret2
  rw [hq]
  exact⟨_,rfl,World.ownsRow_nil _ _ _ _,hB2⟩
theorem has_all (i:Int) (w:World):Calls Tryz.prog 104 #[.int .u32 16777215,.int .i64 i] w fun e w'=>e=.returned (.bool (isDimB i))/\w'=w:=by
 have h:=has_any 16777215 i w (by decide)
 have e:hasB 16777215 i=isDimB i:=by
  unfold hasB
  cases hd:isDimB i
  ·rfl
  ·simp [isDimB] at hd
   rw [full_bit];simp;omega
 rw [e] at h
 exact h
theorem Not_any (l:List C) (a:Value) (w:World) (ha:FRow w a l) (hl:l.length<=40000) :
  Calls Tryz.prog 95 #[a] w fun e w'=>∃ v,e=.returned (.tuple #[v,.int .i64 (notF l).2])/\OwnsC w' w.heap.size v (notF l).1/\Below w.heap.size w w':=by
 have c1:=fright_any l a w ha (by omega)
 have c3:=fun w1 (h:Below w.heap.size w w1)=>fnot_any l a w1 (ha.row.below h) (by omega)
 obtain⟨pa,ca,rfl⟩:=ha.len
 have HJ:Hid (notF l=if rightF l then notR l else ([],2)):=rfl
 clear ha
 generalize l.length=n1 at *
 cases hf:rightF l
 ·rw [hf] at c1 HJ
  go_enter Tryz.func95,Tryz.ntmps95
  go_wp2_with fail
  refine c1.mono ?_
  rintro e w1 ⟨rfl,hB1⟩
  clear c1
  go_wp2
  go_ret2
  rw [HJ.out]
  exact⟨_,rfl,World.ownsRow_nil _ _ _ _,hB1⟩
 ·rw [hf] at c1 HJ
  go_enter Tryz.func95,Tryz.ntmps95
  go_wp2_with fail
  refine c1.mono ?_
  rintro e w1 ⟨rfl,hB1⟩
  clear c1
  replace c3:=c3 w1 hB1
  go_wp2_with fail
  refine c3.mono ?_
  rintro e w3 ⟨v3,rfl,hO3,hB3⟩
  clear c3
  go_wp2
  go_ret2
  rw [HJ.out]
  exact⟨_,rfl,OwnsC.mono hO3 hB1.size,chain hB1 hB3⟩
theorem foldRR_any (fid:Nat) (cap:Array Value) (eg:∀ args w,(callFunc fid args).run Tryz.prog w=.ok (.enter fid args) w) (rs:List Value) (pa:Option Addr) (ca:Nat) (first:Value) (wb w:World)
  (hcell:∀ k x,rs[k]? = some x->∃ g,pa=some ⟨g,0,none⟩/\g<wb.heap.size/\wb.cell? ⟨g,k,none⟩=some x) (hl:rs.length<=100000)
  (I:Nat->Value->World->Prop) (Q:Int->Prop) (hB:Below wb.heap.size wb w) (h0:I 0 first w)
  (hn:∀ k x v W,rs[k]? = some x->Below wb.heap.size wb W->I k v W->Calls Tryz.prog fid (#[v,x] ++ cap) W fun e w'=>Below wb.heap.size wb w'/\∃ v' er,e=.returned (.tuple #[v',.int .i64 er])/\((er=0/\I (k+1) v' w')\/(er≠0/\Q er))) :
  Calls Tryz.prog 194 #[.slice pa rs.length ca,first,.func (.func fid) #[] cap] w fun e w'=>Below wb.heap.size wb w'/\∃ v' er,e=.returned (.tuple #[v',.int .i64 er])/\((er=0/\I rs.length v' w')\/(er≠0/\v'=.slice none 0 0/\Q er)):=by
 obtain⟨n,hn1⟩:∃ n,n=rs.length:=⟨_,rfl⟩
 have Hn:Hid (n=rs.length):=hn1
 rw [<- hn1] at hl ⊢
 clear hn1
 have H0:Hid (I 0 first w):=h0
 have Ha:Hid (∀ k x,rs[k]? = some x->∃ g,pa=some ⟨g,0,none⟩/\g<wb.heap.size/\wb.cell? ⟨g,k,none⟩=some x):=hcell
 have HN:Hid (∀ k x v W,rs[k]? = some x->Below wb.heap.size wb W->I k v W->Calls Tryz.prog fid (#[v,x] ++ cap) W fun e w'=>Below wb.heap.size wb w'/\∃ v' er,e=.returned (.tuple #[v',.int .i64 er])/\((er=0/\I (k+1) v' w')\/(er≠0/\Q er))):=hn
 clear h0 hn hcell
 go_enter Tryz.func194,Tryz.ntmps194
 go_wp2
 go_loopw [8,16] (fun v i wr=>∃ k:Nat,k<=n/\i=.int .i64 k/\Hid (I k v wr)/\Below wb.heap.size wb wr) (fun _ i _=>n - (intOf i).toNat)
 case atStart=>exact⟨0,Nat.zero_le _,rfl,H0,hB⟩
 case round =>
  obtain⟨k,hk,rfl,hIk,hny⟩:=hrel
  by_cases hlt:k<n
  ·obtain⟨x,hck⟩:=get_some (l:=rs) (k:=k) (by rw [<- Hn.out];exact hlt)
   obtain⟨g,rfl,hg,x0⟩:=Ha.out k x hck
   replace x0:=(hny.cell (p:=⟨g,k,none⟩) hg).trans x0
   have HC:=HN.out k x _ wr hck hny hIk.out
   clear hck
   go_wp2_with fail
   refine HC.mono ?_
   rintro e w2 ⟨hB2,v2,er,rfl,⟨rfl,hI2⟩ | ⟨hne,hq⟩⟩
   ·have HI2:Hid (I (k+1) v2 w2):=hI2
    clear hI2 HC
    go_wp2
    go_roundw
    case rel=>exact⟨k+1,by omega,by go_num,HI2,hB2⟩
    case measure=>simp [intOf];omega
   ·have HQ:Hid (Q er):=hq
    clear hq HC
    go_wp2
    go_ret2
    exact⟨hB2,_,er,rfl,.inr ⟨hne,rfl,HQ.out⟩⟩
  ·obtain rfl:k=n:=by omega
   go_wp2
   go_ret2
   exact⟨hny,_,0,rfl,.inl ⟨rfl,hIk.out⟩⟩
theorem Tryz.infoR:(Tryz.prog.info? 22).map (fun i=>(i.zero,i.size,i.bytes))=some (some (.slice none 0 0),1,24):=by kernel_rfl
def stepM (a:List C × Int) (m:List C):List C × Int:=if a.2=0 then meetR a.1 m else a
def meets (a:List C × Int) (ms:List (List C)):List C × Int:=ms.foldl stepM a
theorem meets_snoc (a:List C × Int) (ms:List (List C)) (m:List C):meets a (ms ++ [m])=stepM (meets a ms) m:=by simp [meets]
theorem Told.meets {a:List C × Int} (h:Told a) (ms:List (List C)):Told (meets a ms):=by
 induction ms using snoc_ind with
 | nil=>exact h
 | snoc ms m ih =>
  rw [meets_snoc]
  unfold stepM
  exact Told.ite (Told.meet _ _) ih
theorem meets_take_step {a:List C × Int} {ms:List (List C)} {k:Nat} {m:List C} (h:ms[k]? = some m) (h0:(meets a (ms.take k)).2=0):meets a (ms.take (k+1))=meetR (meets a (ms.take k)).1 m:=by
 have e:ms.take (k+1)=ms.take k ++ [m]:=by rw [List.take_add_one,h];rfl
 rw [e,meets_snoc,stepM,if_pos h0]
theorem meets_stuck {a:List C × Int} {ms:List (List C)} (ha:Told a) (k:Nat) (h:(meets a (ms.take k)).2≠0):meets a ms=([],3):=by
 have e:meets a ms=(ms.drop k).foldl stepM (meets a (ms.take k)):=by
  unfold meets
  rw [<- List.foldl_append,List.take_append_drop]
 have st:∀ (r:List (List C)) (b:List C × Int),b.2≠0->r.foldl stepM b=b:=by
  intro r
  induction r with
  | nil=>intro b _;rfl
  | cons c r ih=>intro b hb;rw [List.foldl_cons];have e:stepM b c=b:=if_neg hb;rw [e];exact ih b hb
 rw [e,st _ _ h]
 exact (ha.meets (ms.take k)).no h
theorem part_meets (c:C) (i:Int) (r n:List C):partF c i r (n,0)=meets ([outC c i],0) ((if hasB c.1.val i then [r] else []) ++ (if hasB c.2.val i then [n] else [])):=by
 unfold partF partA meets
 cases hasB c.1.val i <;> cases hasB c.2.val i <;> simp [stepM]
theorem fold_meets (rs:List Value) (ms:List (List C)) (pa:Option Addr) (ca:Nat) (first:Value) (M0:List C) (base:Nat) (wb w:World) (hcell:∀ k x,rs[k]? = some x->∃ g,pa=some ⟨g,0,none⟩/\g<wb.heap.size/\wb.cell? ⟨g,k,none⟩=some x) (hl:rs.length<=100000)
  (hms:ms.length=rs.length) (hrow:∀ (k:Nat) (x:Value) (m:List C),rs[k]? = some x->ms[k]? = some m->CRow wb x m/\m.length<=64) (hB:Below wb.heap.size wb w) (h0:OwnsC w base first M0) (hb:base<=wb.heap.size) (hM:rightF M0=true) :
  Calls Tryz.prog 194 #[.slice pa rs.length ca,first,.func (.func 134) #[] #[]] w fun e w'=>∃ v,e=.returned (.tuple #[v,.int .i64 (meets (M0,0) ms).2])/\OwnsC w' base v (meets (M0,0) ms).1/\Below wb.heap.size wb w':=by
 have eg:∀ args w,(callFunc 134 args).run Tryz.prog w=.ok (.enter 134 args) w:=enters_of Tryz.func134 (by kernel_rfl) rfl
 have hT:Told (M0,0):=.inl ⟨rfl,hM⟩
 refine (foldRR_any 134 #[] eg rs pa ca first wb w hcell hl (fun k v W=>OwnsC W base v (meets (M0,0) (ms.take k)).1/\(meets (M0,0) (ms.take k)).2=0) (fun er=>meets (M0,0) ms=([],er)) hB ⟨h0,rfl⟩ (fun k x v W hk hW hI=>?_)).mono ?_
 ·obtain⟨m,hm⟩:∃ m,ms[k]? = some m:=get_some (by
   rw [hms]
   rcases Nat.lt_or_ge k rs.length with h1|h1
   ·exact h1
   ·rw [List.getElem?_eq_none h1] at hk;exact absurd hk (by simp))
  obtain⟨hr,hlen⟩:=hrow k x m hk hm
  have hTk:=hT.meets (ms.take k)
  refine (fmeet_any _ m v x W (OwnsC.row hI.1) (hr.below hW) (by have:=hTk.len;omega) (by omega)).mono ?_
  rintro e w' ⟨v',rfl,hO,hB'⟩
  rw [<- meets_take_step hm hI.2] at hO ⊢
  refine⟨chain hW hB',v',_,rfl,?_⟩
  by_cases h0:(meets (M0,0) (ms.take (k+1))).2=0
  ·exact .inl ⟨h0,OwnsC.mono hO (Nat.le_trans hb hW.size),h0⟩
  ·refine .inr ⟨h0,?_⟩
   rw [meets_stuck hT (k+1) h0,(hT.meets (ms.take (k+1))).no h0]
 ·rintro e w' ⟨hB',v',er,rfl,⟨rfl,hO,hz⟩ | ⟨hne,rfl,hq⟩⟩
  ·rw [<- hms,List.take_length] at hO hz
   exact⟨v',by rw [hz],hO,hB'⟩
  ·rw [hq]
   exact⟨_,rfl,World.ownsRow_nil _ _ _ _,hB'⟩
theorem new_one (w:World) (x:Value) (t:TypeId):∀ j u,[x][j]? = some u->(w.alloc (.cells #[x] t)).cell? ((⟨w.heap.size,0,none⟩:Addr).add j)=some u :=
 World.news_of_block (cs:=#[x]) (MapKept.heap_alloc w _).1
theorem slice_oneCell (a:Option Addr) (n c:Nat):∀ u∈[Value.slice a n c],u.oneCell'=true:=by intro u hu;rw [List.mem_singleton.1 hu];rfl
theorem below_drew (w:World):Below w.heap.size w w.drew:=below_drewN (Below.refl _ w) 1
theorem putC_fold (c:C) (i:Int) (X w:World) (hX:Below w.heap.size w X) (base:Nat) (v:Value) (rs:List Value) (ms:List (List C)) (hO:OwnsR X base v rs) (hl:rs.length<=2) (hms:ms.length=rs.length) (hrow:∀ (k:Nat) (x:Value) (m:List C),rs[k]? = some x->ms[k]? = some m->CRow X x m/\m.length<=64) :
  Calls Tryz.prog 194 #[v,.slice (some ⟨X.heap.size,0,none⟩) 1 1,.func (.func 134) #[] #[]] (X.alloc (.cells #[.int .u32 (withoutN c.1.val i:Nat),.int .u32 (withoutN c.2.val i:Nat)] 38)).drew
   fun e w'=>∃ v',e=.returned (.tuple #[v',.int .i64 (meets ([outC c i],0) ms).2])/\OwnsC w' w.heap.size v' (meets ([outC c i],0) ms).1/\Below w.heap.size w w':=by
 have hB1:=chain (below_alloc X (.cells #[.int .u32 (withoutN c.1.val i:Nat),.int .u32 (withoutN c.2.val i:Nat)] 38)) (below_drew _)
 obtain⟨pa,ca,rfl,hcell⟩:=OwnsR.read (OwnsR.below hO hB1)
 have hone:OwnsC (X.alloc (.cells #[.int .u32 (withoutN c.1.val i:Nat),.int .u32 (withoutN c.2.val i:Nat)] 38)).drew w.heap.size (.slice (some ⟨X.heap.size,0,none⟩) 1 1) [outC c i]:=OwnsC.below (own_one1 X (outC c i) _ hX.size) (below_drew _)
 refine (fold_meets rs ms pa ca _ [outC c i] w.heap.size _ _ hcell (by omega) hms (fun k x m hk hm=>⟨(hrow k x m hk hm).1.below hB1,(hrow k x m hk hm).2⟩) (Below.refl _ _) hone (by have:=(chain hX hB1).size;exact this) (rightF_one (out_right c i))).mono ?_
 rintro e w' ⟨v',rfl,hO',hB'⟩
 exact⟨v',rfl,hO',chain (chain hX hB1) hB'⟩
theorem putC_ff (c:C) (i:Int) (r n:List C) (vr vn:Value) (w:World) (hr:CRow w vr r) (hn:CRow w vn n) (lr:r.length<=64) (ln:n.length<=64) (hp:hasB c.1.val i=false) (hq:hasB c.2.val i=false) :
  Calls Tryz.prog 156 #[clV c,.int .i64 i,vr,vn] w fun e w'=>∃ v,e=.returned (.tuple #[v,.int .i64 (partF c i r (n,0)).2])/\OwnsC w' w.heap.size v (partF c i r (n,0)).1/\Below w.heap.size w w':=by
 have HP:Hid (partF c i r (n,0)=meets ([outC c i],0) []):=by
  show _=_
  rw [part_meets,hp,hq];rfl
 obtain⟨i1,hi,hz0,hz1,hz2⟩:=info_parts Tryz.infoR
 have hc1:=c.1.isLt
 have hc2:=c.2.isLt
 have hA:=At.made w c 38
 have hB:=below_alloc w (.cells #[.int .u32 (c.1.val:Int),.int .u32 (c.2.val:Int)] 38)
 obtain⟨pr,cr,rfl⟩:=hr.len
 obtain⟨pn,cn,rfl⟩:=hn.len
 replace hr:=hr.below hB
 replace hn:=hn.below hB
 have Hr:Hid (CRow (w.alloc (.cells #[.int .u32 (c.1.val:Int),.int .u32 (c.2.val:Int)] 38)) (.slice pr r.length cr) r):=hr
 have Hn:Hid (CRow (w.alloc (.cells #[.int .u32 (c.1.val:Int),.int .u32 (c.2.val:Int)] 38)) (.slice pn n.length cn) n):=hn
 have HA:Hid (At (w.alloc (.cells #[.int .u32 (c.1.val:Int),.int .u32 (c.2.val:Int)] 38)) w.heap.size c):=hA
 clear hr hn hA
 go_enter Tryz.func156,Tryz.ntmps156
 go_wp2_with fail
 generalize (w.alloc (.cells #[.int .u32 (c.1.val:Int),.int .u32 (c.2.val:Int)] 38))=wb at Hr Hn HA hB ⊢
 have hA0:=HA.out
 have z0:=hA0.1
 have z1:=hA0.2.1
 refine (has_any _ _ _ (by assumption)).mono ?_
 rintro e w0 ⟨rfl,hw0⟩
 replace hw0:=hw0.symm
 subst hw0
 rw [hp]
 go_wp2_with (first
  | (go_at_call 104;refine (has_any _ _ _ (by assumption)).mono ?_;rintro e w0 ⟨rfl,hw0⟩;replace hw0:=hw0.symm;subst hw0;first | rw [hp] | rw [hq]))
 have hX:=hB
 have hOR:OwnsR wb wb.heap.size (.slice none 0 0) []:=World.ownsRow_nil _ _ _ _
 have hB4:Below wb.heap.size wb wb:=Below.refl _ _
 have cF:=putC_fold c i wb w hX _ (.slice none 0 0) _ [] hOR (by simp) rfl (fun k x m hk hm=>by simp at hk)
 go_region_held3 (fun w'=>w'.cell? ⟨w.heap.size,0,none⟩=some (.int .u32 (c.1.val:Int))/\w'.cell? ⟨w.heap.size,1,none⟩=some (.int .u32 (c.2.val:Int))) (go_keep)
  (first | (go_at_call 193;refine (without_any _ _ _ (by assumption)).mono ?_;rintro e w1 ⟨rfl,hw1⟩;replace hw1:=hw1.symm;subst hw1))
 go_wp2_with fail
 refine cF.mono ?_
 rintro e w7 ⟨v7,rfl,hO7,hB7⟩
 clear cF
 go_wp2
 go_ret2
 rw [HP.out]
 exact⟨_,rfl,hO7,hB7⟩
theorem putC_ft (c:C) (i:Int) (r n:List C) (vr vn:Value) (w:World) (hr:CRow w vr r) (hn:CRow w vn n) (lr:r.length<=64) (ln:n.length<=64) (hp:hasB c.1.val i=false) (hq:hasB c.2.val i=true) :
  Calls Tryz.prog 156 #[clV c,.int .i64 i,vr,vn] w fun e w'=>∃ v,e=.returned (.tuple #[v,.int .i64 (partF c i r (n,0)).2])/\OwnsC w' w.heap.size v (partF c i r (n,0)).1/\Below w.heap.size w w':=by
 have HP:Hid (partF c i r (n,0)=meets ([outC c i],0) [n]):=by
  show _=_
  rw [part_meets,hp,hq];rfl
 obtain⟨i1,hi,hz0,hz1,hz2⟩:=info_parts Tryz.infoR
 have hc1:=c.1.isLt
 have hc2:=c.2.isLt
 have hA:=At.made w c 38
 have hB:=below_alloc w (.cells #[.int .u32 (c.1.val:Int),.int .u32 (c.2.val:Int)] 38)
 obtain⟨pr,cr,rfl⟩:=hr.len
 obtain⟨pn,cn,rfl⟩:=hn.len
 replace hr:=hr.below hB
 replace hn:=hn.below hB
 have Hr:Hid (CRow (w.alloc (.cells #[.int .u32 (c.1.val:Int),.int .u32 (c.2.val:Int)] 38)) (.slice pr r.length cr) r):=hr
 have Hn:Hid (CRow (w.alloc (.cells #[.int .u32 (c.1.val:Int),.int .u32 (c.2.val:Int)] 38)) (.slice pn n.length cn) n):=hn
 have HA:Hid (At (w.alloc (.cells #[.int .u32 (c.1.val:Int),.int .u32 (c.2.val:Int)] 38)) w.heap.size c):=hA
 clear hr hn hA
 go_enter Tryz.func156,Tryz.ntmps156
 go_wp2_with fail
 generalize (w.alloc (.cells #[.int .u32 (c.1.val:Int),.int .u32 (c.2.val:Int)] 38))=wb at Hr Hn HA hB ⊢
 have hA0:=HA.out
 have z0:=hA0.1
 have z1:=hA0.2.1
 refine (has_any _ _ _ (by assumption)).mono ?_
 rintro e w0 ⟨rfl,hw0⟩
 replace hw0:=hw0.symm
 subst hw0
 rw [hp]
 go_wp2_with (first
  | (go_at_call 104;refine (has_any _ _ _ (by assumption)).mono ?_;rintro e w0 ⟨rfl,hw0⟩;replace hw0:=hw0.symm;subst hw0;first | rw [hp] | rw [hq])
  | (at_builtin;refine wpList_append_own _ rfl _ _ 180 rfl wb.heap.size 22 i1 (.slice none 0 0) 1 24 Tryz.underlying180 hi hz0 hz1 hz2 rfl (by decide) (.slice none 0 0) 0 [] rfl (World.ownsRow_nil _ _ _ _) ⟨wb.heap.size,0,none⟩ 1 1 [(.slice pn n.length cn)] rfl rfl (new_one _ _ _) (slice_oneCell _ _ _) (by unfold maxLen;omega) (by omega) (by simp) ?_;intro v4 w4 hown4 hgrow4 hnil4;have hB4:Below wb.heap.size wb w4:=(below_alloc wb (.cells #[(.slice pn n.length cn)] 22)).grown hgrow4 (by simp) (fun k h=>by cases h);have hA4:=HA.out.below hB4;have z0:=hA4.1;have z1:=hA4.2.1))
 have hOR:OwnsR w4 wb.heap.size v4 [(.slice pn n.length cn)]:=hown4
 have hX:=chain hB hB4
 have cF:=putC_fold c i w4 w hX _ v4 _ [n] hOR (by simp) rfl (fun k x m hk hm=>by match k,hk,hm with | 0,hk,hm=>simp at hk hm;rw [<- hk,<- hm];exact⟨Hn.out.below hB4,ln⟩ | k+1,hk,hm=>simp at hk)
 go_region_held3 (fun w'=>w'.cell? ⟨w.heap.size,0,none⟩=some (.int .u32 (c.1.val:Int))/\w'.cell? ⟨w.heap.size,1,none⟩=some (.int .u32 (c.2.val:Int))) (go_keep)
  (first | (go_at_call 193;refine (without_any _ _ _ (by assumption)).mono ?_;rintro e w1 ⟨rfl,hw1⟩;replace hw1:=hw1.symm;subst hw1))
 go_wp2_with fail
 refine cF.mono ?_
 rintro e w7 ⟨v7,rfl,hO7,hB7⟩
 clear cF
 go_wp2
 go_ret2
 rw [HP.out]
 exact⟨_,rfl,hO7,hB7⟩
theorem putC_tf (c:C) (i:Int) (r n:List C) (vr vn:Value) (w:World) (hr:CRow w vr r) (hn:CRow w vn n) (lr:r.length<=64) (ln:n.length<=64) (hp:hasB c.1.val i=true) (hq:hasB c.2.val i=false) :
  Calls Tryz.prog 156 #[clV c,.int .i64 i,vr,vn] w fun e w'=>∃ v,e=.returned (.tuple #[v,.int .i64 (partF c i r (n,0)).2])/\OwnsC w' w.heap.size v (partF c i r (n,0)).1/\Below w.heap.size w w':=by
 have HP:Hid (partF c i r (n,0)=meets ([outC c i],0) [r]):=by
  show _=_
  rw [part_meets,hp,hq];rfl
 obtain⟨i1,hi,hz0,hz1,hz2⟩:=info_parts Tryz.infoR
 have hc1:=c.1.isLt
 have hc2:=c.2.isLt
 have hA:=At.made w c 38
 have hB:=below_alloc w (.cells #[.int .u32 (c.1.val:Int),.int .u32 (c.2.val:Int)] 38)
 obtain⟨pr,cr,rfl⟩:=hr.len
 obtain⟨pn,cn,rfl⟩:=hn.len
 replace hr:=hr.below hB
 replace hn:=hn.below hB
 have Hr:Hid (CRow (w.alloc (.cells #[.int .u32 (c.1.val:Int),.int .u32 (c.2.val:Int)] 38)) (.slice pr r.length cr) r):=hr
 have Hn:Hid (CRow (w.alloc (.cells #[.int .u32 (c.1.val:Int),.int .u32 (c.2.val:Int)] 38)) (.slice pn n.length cn) n):=hn
 have HA:Hid (At (w.alloc (.cells #[.int .u32 (c.1.val:Int),.int .u32 (c.2.val:Int)] 38)) w.heap.size c):=hA
 clear hr hn hA
 go_enter Tryz.func156,Tryz.ntmps156
 go_wp2_with fail
 generalize (w.alloc (.cells #[.int .u32 (c.1.val:Int),.int .u32 (c.2.val:Int)] 38))=wb at Hr Hn HA hB ⊢
 have hA0:=HA.out
 have z0:=hA0.1
 have z1:=hA0.2.1
 refine (has_any _ _ _ (by assumption)).mono ?_
 rintro e w0 ⟨rfl,hw0⟩
 replace hw0:=hw0.symm
 subst hw0
 rw [hp]
 go_wp2_with (first
  | (go_at_call 104;refine (has_any _ _ _ (by assumption)).mono ?_;rintro e w0 ⟨rfl,hw0⟩;replace hw0:=hw0.symm;subst hw0;first | rw [hp] | rw [hq])
  | (at_builtin;refine wpList_append_own _ rfl _ _ 180 rfl wb.heap.size 22 i1 (.slice none 0 0) 1 24 Tryz.underlying180 hi hz0 hz1 hz2 rfl (by decide) (.slice none 0 0) 0 [] rfl (World.ownsRow_nil _ _ _ _) ⟨wb.heap.size,0,none⟩ 1 1 [(.slice pr r.length cr)] rfl rfl (new_one _ _ _) (slice_oneCell _ _ _) (by unfold maxLen;omega) (by omega) (by simp) ?_;intro v4 w4 hown4 hgrow4 hnil4;have hB4:Below wb.heap.size wb w4:=(below_alloc wb (.cells #[(.slice pr r.length cr)] 22)).grown hgrow4 (by simp) (fun k h=>by cases h);have hA4:=HA.out.below hB4;have z0:=hA4.1;have z1:=hA4.2.1))
 have hOR:OwnsR w4 wb.heap.size v4 [(.slice pr r.length cr)]:=hown4
 have hX:=chain hB hB4
 have cF:=putC_fold c i w4 w hX _ v4 _ [r] hOR (by simp) rfl (fun k x m hk hm=>by match k,hk,hm with | 0,hk,hm=>simp at hk hm;rw [<- hk,<- hm];exact⟨Hr.out.below hB4,lr⟩ | k+1,hk,hm=>simp at hk)
 go_region_held3 (fun w'=>w'.cell? ⟨w.heap.size,0,none⟩=some (.int .u32 (c.1.val:Int))/\w'.cell? ⟨w.heap.size,1,none⟩=some (.int .u32 (c.2.val:Int))) (go_keep)
  (first | (go_at_call 193;refine (without_any _ _ _ (by assumption)).mono ?_;rintro e w1 ⟨rfl,hw1⟩;replace hw1:=hw1.symm;subst hw1))
 go_wp2_with fail
 refine cF.mono ?_
 rintro e w7 ⟨v7,rfl,hO7,hB7⟩
 clear cF
 go_wp2
 go_ret2
 rw [HP.out]
 exact⟨_,rfl,hO7,hB7⟩
theorem putC_tt (c:C) (i:Int) (r n:List C) (vr vn:Value) (w:World) (hr:CRow w vr r) (hn:CRow w vn n) (lr:r.length<=64) (ln:n.length<=64) (hp:hasB c.1.val i=true) (hq:hasB c.2.val i=true) :
  Calls Tryz.prog 156 #[clV c,.int .i64 i,vr,vn] w fun e w'=>∃ v,e=.returned (.tuple #[v,.int .i64 (partF c i r (n,0)).2])/\OwnsC w' w.heap.size v (partF c i r (n,0)).1/\Below w.heap.size w w':=by
 have HP:Hid (partF c i r (n,0)=meets ([outC c i],0) [r,n]):=by
  show _=_
  rw [part_meets,hp,hq];rfl
 obtain⟨i1,hi,hz0,hz1,hz2⟩:=info_parts Tryz.infoR
 have hc1:=c.1.isLt
 have hc2:=c.2.isLt
 have hA:=At.made w c 38
 have hB:=below_alloc w (.cells #[.int .u32 (c.1.val:Int),.int .u32 (c.2.val:Int)] 38)
 obtain⟨pr,cr,rfl⟩:=hr.len
 obtain⟨pn,cn,rfl⟩:=hn.len
 replace hr:=hr.below hB
 replace hn:=hn.below hB
 have Hr:Hid (CRow (w.alloc (.cells #[.int .u32 (c.1.val:Int),.int .u32 (c.2.val:Int)] 38)) (.slice pr r.length cr) r):=hr
 have Hn:Hid (CRow (w.alloc (.cells #[.int .u32 (c.1.val:Int),.int .u32 (c.2.val:Int)] 38)) (.slice pn n.length cn) n):=hn
 have HA:Hid (At (w.alloc (.cells #[.int .u32 (c.1.val:Int),.int .u32 (c.2.val:Int)] 38)) w.heap.size c):=hA
 clear hr hn hA
 go_enter Tryz.func156,Tryz.ntmps156
 go_wp2_with fail
 generalize (w.alloc (.cells #[.int .u32 (c.1.val:Int),.int .u32 (c.2.val:Int)] 38))=wb at Hr Hn HA hB ⊢
 have hA0:=HA.out
 have z0:=hA0.1
 have z1:=hA0.2.1
 refine (has_any _ _ _ (by assumption)).mono ?_
 rintro e w0 ⟨rfl,hw0⟩
 replace hw0:=hw0.symm
 subst hw0
 rw [hp]
 go_wp2_with (first
  | (go_at_call 104;refine (has_any _ _ _ (by assumption)).mono ?_;rintro e w0 ⟨rfl,hw0⟩;replace hw0:=hw0.symm;subst hw0;first | rw [hp] | rw [hq])
  | (at_builtin;refine wpList_append_own _ rfl _ _ 180 rfl wb.heap.size 22 i1 (.slice none 0 0) 1 24 Tryz.underlying180 hi hz0 hz1 hz2 rfl (by decide) (.slice none 0 0) 0 [] rfl (World.ownsRow_nil _ _ _ _) ⟨wb.heap.size,0,none⟩ 1 1 [(.slice pr r.length cr)] rfl rfl (new_one _ _ _) (slice_oneCell _ _ _) (by unfold maxLen;omega) (by omega) (by simp) ?_;intro v4 w4 hown4 hgrow4 hnil4;have hB4:Below wb.heap.size wb w4:=(below_alloc wb (.cells #[(.slice pr r.length cr)] 22)).grown hgrow4 (by simp) (fun k h=>by cases h);have hA4:=HA.out.below hB4;have z0:=hA4.1;have z1:=hA4.2.1)
  | (at_builtin;refine wpList_append_own _ rfl _ _ 180 rfl wb.heap.size 22 i1 (.slice none 0 0) 1 24 Tryz.underlying180 hi hz0 hz1 hz2 rfl (by decide) v4 1 [(.slice pr r.length cr)] rfl (OwnsR.below hown4 (below_alloc _ _)) ⟨w4.heap.size,0,none⟩ 1 1 [(.slice pn n.length cn)] rfl rfl (new_one _ _ _) (slice_oneCell _ _ _) (by unfold maxLen;omega) (by omega) (Nat.le_trans hB4.size (by simp)) ?_;intro v5 w5 hown5 hgrow5 hnil5))
 have hlow:=World.ownsRow.lt hown4
 have hB5:Below wb.heap.size w4 w5:=((Below.refl _ w4).alloc hB4.size (.cells #[(.slice pn n.length cn)] 22)).grown hgrow5 (Nat.le_trans hB4.size (by simp)) (fun k h=>(hlow k h).1)
 have hB45:=hB4.trans hB5
 have hOR:OwnsR w5 wb.heap.size v5 [(.slice pr r.length cr),(.slice pn n.length cn)]:=hown5
 have hX:=chain hB hB45
 have hA5:=HA.out.below hB45
 clear z0 z1
 have z0:=hA5.1
 have z1:=hA5.2.1
 have cF:=putC_fold c i w5 w hX _ v5 _ [r,n] hOR (by simp) rfl (fun k x m hk hm=>by match k,hk,hm with | 0,hk,hm=>simp at hk hm;rw [<- hk,<- hm];exact⟨Hr.out.below hB45,lr⟩ | 1,hk,hm=>simp at hk hm;rw [<- hk,<- hm];exact⟨Hn.out.below hB45,ln⟩ | k+2,hk,hm=>simp at hk)
 go_region_held3 (fun w'=>w'.cell? ⟨w.heap.size,0,none⟩=some (.int .u32 (c.1.val:Int))/\w'.cell? ⟨w.heap.size,1,none⟩=some (.int .u32 (c.2.val:Int))) (go_keep)
  (first | (go_at_call 193;refine (without_any _ _ _ (by assumption)).mono ?_;rintro e w1 ⟨rfl,hw1⟩;replace hw1:=hw1.symm;subst hw1))
 go_wp2_with fail
 refine cF.mono ?_
 rintro e w7 ⟨v7,rfl,hO7,hB7⟩
 clear cF
 go_wp2
 go_ret2
 rw [HP.out]
 exact⟨_,rfl,hO7,hB7⟩
theorem putC_any (c:C) (i:Int) (r n:List C) (vr vn:Value) (w:World) (hr:CRow w vr r) (hn:CRow w vn n) (lr:r.length<=64) (ln:n.length<=64) :
  Calls Tryz.prog 156 #[clV c,.int .i64 i,vr,vn] w fun e w'=>∃ v,e=.returned (.tuple #[v,.int .i64 (partF c i r (n,0)).2])/\OwnsC w' w.heap.size v (partF c i r (n,0)).1/\Below w.heap.size w w':=by
 cases hp:hasB c.1.val i
 ·cases hq:hasB c.2.val i
  ·exact putC_ff c i r n vr vn w hr hn lr ln hp hq
  ·exact putC_ft c i r n vr vn w hr hn lr ln hp hq
 ·cases hq:hasB c.2.val i
  ·exact putC_tf c i r n vr vn w hr hn lr ln hp hq
  ·exact putC_tt c i r n vr vn w hr hn lr ln hp hq
theorem pred_put (i:Int) (B:Nat) (w:World) (hB:Boxed w B 3 (.int .i64 i)) :
  PredBelow Tryz.prog 154 #[.pointer (some ⟨B,0,none⟩)] (fun x=>.agg (encC x).toArray) (fun x=>hasB x.2.val i) w:=fun W x hb=>by
 have hBW:=boxed_below hB hb
 have g0:=hBW.cell
 have hlt:=hBW.lt
 have hne:B≠W.heap.size:=by omega
 have hx:=x.2.isLt
 show Calls Tryz.prog 154 #[clV x,.pointer (some ⟨B,0,none⟩)] W _
 go_enter Tryz.func154,Tryz.ntmps154
 go_wp2_with (go_at_call 104;refine (has_any _ _ _ (by assumption)).mono ?_;rintro e w' ⟨rfl,hw⟩;replace hw:=hw.symm;subst hw)
 go_ret
 exact⟨rfl,hb.alloc hb.size _⟩
theorem stepP_some (i:Int) (r:List C) (s:List C × Int) (M:List C) (c:C):stepP i r s (M,0) c=if (partF c i r s).2=0 then joinR M (partF c i r s).1 else ([],(partF c i r s).2):=by simp [stepP]
theorem put2_any (M:List C) (v:Value) (c:C) (i:Int) (r n:List C) (vr vn:Value) (B1 B2 B3:Nat) (w:World) (h1:Boxed w B1 3 (.int .i64 i)) (h2:Boxed w B2 22 vr) (h3:Boxed w B3 22 vn)
  (hv:CRow w v M) (hr:CRow w vr r) (hn:CRow w vn n) (hM:M.length<=64) (lr:r.length<=64) (ln:n.length<=64) :
  Calls Tryz.prog 155 #[v,clV c,.pointer (some ⟨B1,0,none⟩),.pointer (some ⟨B2,0,none⟩),.pointer (some ⟨B3,0,none⟩)] w
   fun e w'=>∃ v',e=.returned (.tuple #[v',.int .i64 (stepP i r (n,0) (M,0) c).2])/\OwnsC w' w.heap.size v' (stepP i r (n,0) (M,0) c).1/\Below w.heap.size w w':=by
 have hB0:=below_alloc w (.cells #[.int .u32 (c.1.val:Int),.int .u32 (c.2.val:Int)] 38)
 have y1:=(boxed_below h1 hB0).cell
 have y2:=(boxed_below h2 hB0).cell
 have y3:=(boxed_below h3 hB0).cell
 have n1:B1≠w.heap.size:=by have:=h1.lt;omega
 have n2:B2≠w.heap.size:=by have:=h2.lt;omega
 have n3:B3≠w.heap.size:=by have:=h3.lt;omega
 replace hv:=hv.below hB0
 have cP:=putC_any c i r n vr vn _ (hr.below hB0) (hn.below hB0) lr ln
 have hpl:(partF c i r (n,0)).2=0->(partF c i r (n,0)).1.length<=64:=fun _=>by
  rw [part_meets];exact ((Told.one (out_right c i)).meets _).len
 have HS:Hid (stepP i r (n,0) (M,0) c=if (partF c i r (n,0)).2=0 then joinR M (partF c i r (n,0)).1 else ([],(partF c i r (n,0)).2)):=stepP_some i r (n,0) M c
 obtain⟨pr,cr,rfl⟩:=hr.len
 obtain⟨pn,cn,rfl⟩:=hn.len
 obtain⟨pv,cv,rfl⟩:=hv.len
 have HV:Hid (CRow (w.alloc (.cells #[.int .u32 (c.1.val:Int),.int .u32 (c.2.val:Int)] 38)) (.slice pv M.length cv) M):=hv
 have HM:Hid (M.length<=64):=hM
 clear hr hn hv h1 h2 h3 hM
 generalize partF c i r (n,0)=P at *
 go_enter Tryz.func155,Tryz.ntmps155
 go_wp2_with fail
 generalize w.alloc (.cells #[.int .u32 (c.1.val:Int),.int .u32 (c.2.val:Int)] 38)=wb at hB0 y1 y2 y3 HV cP ⊢
 refine cP.mono ?_
 rintro e w1 ⟨v1,rfl,hO1,hB1⟩
 clear cP y1 y2 y3
 by_cases h0:P.2=0
 ·have hpl2:=hpl h0
  have cJ:=fjoin_any M P.1 _ v1 w1 (HV.out.below hB1) (OwnsC.row hO1) (by have:=HM.out;omega) (by omega)
  rw [h0]
  have HS2:Hid (stepP i r (n,0) (M,0) c=joinR M P.1):=HS.out.trans (if_pos h0)
  clear hpl
  obtain⟨q1,c1,rfl⟩:=OwnsC.len hO1
  go_wp2_with fail
  refine cJ.mono ?_
  rintro e w2 ⟨v2,rfl,hO2,hB2⟩
  clear cJ
  go_wp2
  go_ret2
  rw [HS2.out]
  exact⟨_,rfl,OwnsC.mono hO2 (chain hB0 hB1).size,chain (chain hB0 hB1) hB2⟩
 ·have HS2:Hid (stepP i r (n,0) (M,0) c=([],P.2)):=HS.out.trans (if_neg h0)
  clear hpl
  obtain⟨q1,c1,rfl⟩:=OwnsC.len hO1
  go_wp2
  go_ret2
  rw [HS2.out]
  exact⟨_,rfl,World.ownsRow_nil _ _ _ _,chain hB0 hB1⟩
theorem putS_take_step {l:List C} {i:Int} {r:List C} {s:List C × Int} {k:Nat} {c:C} (h:l[k]? = some c) (h0:(putS (l.take k) i r s).2=0):putS (l.take (k+1)) i r s=stepP i r s ((putS (l.take k) i r s).1,0) c:=by
 have e:l.take (k+1)=l.take k ++ [c]:=by rw [List.take_add_one,h];rfl
 rw [e,putS_snoc,<- h0]
theorem putS_stuck {l:List C} {i:Int} {r:List C} {s:List C × Int} (hs:Told s) (k:Nat) (h:(putS (l.take k) i r s).2≠0):putS l i r s=([],3):=by
 have e:putS l i r s=(l.drop k).foldl (stepP i r s) (putS (l.take k) i r s):=by
  unfold putS
  rw [<- List.foldl_append,List.take_append_drop]
 rw [e,foldl_stuck (stepP i r s) (fun a c ha=>by unfold stepP;rw [if_neg ha]) h]
 exact (Told.put (l.take k) i r hs).no h
theorem fold_put (l:List C) (vl:Value) (i:Int) (r n:List C) (vr vn:Value) (B1 B2 B3:Nat) (w:World) (hl:CRow w vl l) (hll:l.length<=100000) (h1:Boxed w B1 3 (.int .i64 i)) (h2:Boxed w B2 22 vr) (h3:Boxed w B3 22 vn)
  (hr:CRow w vr r) (hn:CRow w vn n) (lr:r.length<=64) (rn:rightF n=true) :
  Calls Tryz.prog 116 #[vl,.slice none 0 0,.func (.func 155) #[] #[.pointer (some ⟨B1,0,none⟩),.pointer (some ⟨B2,0,none⟩),.pointer (some ⟨B3,0,none⟩)]] w
   fun e w'=>∃ v',e=.returned (.tuple #[v',.int .i64 (putS l i r (n,0)).2])/\OwnsC w' w.heap.size v' (putS l i r (n,0)).1/\Below w.heap.size w w':=by
 have eg:∀ args w,(callFunc 155 args).run Tryz.prog w=.ok (.enter 155 args) w:=enters_of Tryz.func155 (by kernel_rfl) rfl
 have hs:Told (n,0):=.inl ⟨rfl,rn⟩
 refine (foldCR_any 155 _ eg l vl _ w w hl hll (fun k v W=>OwnsC W w.heap.size v (putS (l.take k) i r (n,0)).1/\(putS (l.take k) i r (n,0)).2=0) (fun er=>putS l i r (n,0)=([],er)) (fun k v W W' h hb=>⟨OwnsC.below h.1 hb,h.2⟩) (Below.refl _ _) ⟨World.ownsRow_nil _ _ _ _,rfl⟩ (fun k c v W hk hW hI=>?_)).mono ?_
 ·have hT:=Told.put (l.take k) i r hs
  refine (put2_any _ v c i r n vr vn B1 B2 B3 W (boxed_below h1 hW) (boxed_below h2 hW) (boxed_below h3 hW) (OwnsC.row hI.1) (hr.below hW) (hn.below hW) hT.len lr (rightF_len rn)).mono ?_
  rintro e w' ⟨v',rfl,hO,hB'⟩
  rw [<- putS_take_step hk hI.2] at hO ⊢
  refine⟨chain hW hB',v',_,rfl,?_⟩
  by_cases h0:(putS (l.take (k+1)) i r (n,0)).2=0
  ·exact .inl ⟨h0,OwnsC.mono hO hW.size,h0⟩
  ·refine .inr ⟨h0,?_⟩
   rw [putS_stuck hs (k+1) h0,(Told.put (l.take (k+1)) i r hs).no h0]
 ·rintro e w' ⟨hB',v',er,rfl,⟨rfl,hO,hz⟩ | ⟨hne,rfl,hq⟩⟩
  ·rw [List.take_length] at hO hz
   exact⟨v',by rw [hz],hO,hB'⟩
  ·rw [hq]
   exact⟨_,rfl,World.ownsRow_nil _ _ _ _,hB'⟩
theorem OwnsC.set {W:World} {base:Nat} {v:Value} {u:List C} (h:OwnsC W base v u) {b:Nat} (hne:v.ownBlock≠some b) (x:Value):OwnsC (W.setCell ⟨b,0,none⟩ x) base v u :=
 World.ownsRow.kept h (grownBy_setCell' W b x) (.inr hne)
theorem Put_any (l r:List C) (i:Int) (vl vr:Value) (w:World) (hl:FRow w vl l) (hr:FRow w vr r) (hll:l.length<=40000) (hrl:r.length<=40000) :
  Calls Tryz.prog 107 #[vl,.int .i64 i,vr] w fun e w'=>∃ v,e=.returned (.tuple #[v,.int .i64 (putF l i r).2])/\OwnsC w' w.heap.size v (putF l i r).1/\Below w.heap.size w w':=by
 have HJ:Hid (putF l i r=if rightF l && rightF r && isDimB i then putR l i r else ([],2)):=rfl
 have HLen:Hid (rightF r=true->r.length<=64):=fun h=>rightF_len h
 have eg:∀ args w,(callFunc 154 args).run Tryz.prog w=.ok (.enter 154 args) w:=enters_of Tryz.func154 (by kernel_rfl) rfl
 have hB:Below w.heap.size w ((w.alloc (.cells #[.int .i64 i] 3)).alloc (.cells #[vr] 22)):=(below_alloc w _).alloc (by simp) _
 have b1:Boxed ((w.alloc (.cells #[.int .i64 i] 3)).alloc (.cells #[vr] 22)) w.heap.size 3 (.int .i64 i):=(Boxed.new w _ _).alloc _
 have b2:Boxed ((w.alloc (.cells #[.int .i64 i] 3)).alloc (.cells #[vr] 22)) (w.heap.size+1) 22 vr:=by
  have h:=Boxed.new (w.alloc (.cells #[.int .i64 i] 3)) 22 vr
  rw [World.size_alloc] at h
  exact h
 have c1:=fun W (h:Below w.heap.size w W)=>fright_any l vl W (hl.below h) (by omega)
 have c2:=fun W (h:Below w.heap.size w W)=>fright_any r vr W (hr.below h) (by omega)
 have c3:=has_all i
 have c4:=fun W (h:Below w.heap.size w W) (hp:PredBelow Tryz.prog 154 #[.pointer (some ⟨w.heap.size,0,none⟩)] (fun x=>.agg (encC x).toArray) (fun x=>hasB x.2.val i) W)=>has_row l vl W (hl.row.below h) (by omega) _ _ _ eg hp
 have c5:=fun W (h:Below w.heap.size w W)=>fnot_any r vr W (hr.row.below h) (by omega)
 have c6:=fun (n:List C) (vn:Value) (B3:Nat) W (h:Below w.heap.size w W) (b1:Boxed W w.heap.size 3 (.int .i64 i)) (b2:Boxed W (w.heap.size+1) 22 vr) (b3:Boxed W B3 22 vn) (hn:CRow W vn n) (lr:r.length<=64) (rn:rightF n=true) =>
  fold_put l vl i r n vr vn w.heap.size (w.heap.size+1) B3 W (hl.row.below h) (by omega) b1 b2 b3 (hr.row.below h) hn lr rn
 obtain⟨pl,cl,rfl⟩:=hl.len
 obtain⟨pr,cr,rfl⟩:=hr.len
 clear hl hr eg
 generalize l.length=n1 at *
 generalize hn2:r.length=n2 at *
 clear hn2
 cases hf:rightF l
 ·rw [hf] at HJ
  go_enter Tryz.func107,Tryz.ntmps107
  go_wp2_with fail
  generalize ((w.alloc (.cells #[.int .i64 i] 3)).alloc (.cells #[Value.slice pr n2 cr] 22))=wb at hB b1 b2 ⊢
  refine (c1 wb hB).mono ?_
  rintro e w1 ⟨rfl,hB1⟩
  rw [hf]
  clear c1
  replace b1:=boxed_below b1 hB1
  replace b2:=boxed_below b2 hB1
  replace hB:=chain hB hB1
  have y1:=b1.cell
  have y2:=b2.cell
  go_wp2
  go_ret2
  rw [HJ.out]
  exact⟨_,rfl,World.ownsRow_nil _ _ _ _,hB⟩
 ·cases hg:rightF r
  ·rw [hf,hg] at HJ
   go_enter Tryz.func107,Tryz.ntmps107
   go_wp2_with fail
   generalize ((w.alloc (.cells #[.int .i64 i] 3)).alloc (.cells #[Value.slice pr n2 cr] 22))=wb at hB b1 b2 ⊢
   refine (c1 wb hB).mono ?_
   rintro e w1 ⟨rfl,hB1⟩
   rw [hf]
   clear c1
   replace b1:=boxed_below b1 hB1
   replace b2:=boxed_below b2 hB1
   replace hB:=chain hB hB1
   have y1:=b1.cell
   have y2:=b2.cell
   go_wp2_with fail
   refine (c2 w1 hB).mono ?_
   rintro e w2 ⟨rfl,hB2⟩
   rw [hg]
   clear c2 y1 y2
   replace b1:=boxed_below b1 hB2
   replace b2:=boxed_below b2 hB2
   replace hB:=chain hB hB2
   have y1:=b1.cell
   have y2:=b2.cell
   go_wp2
   go_ret2
   rw [HJ.out]
   exact⟨_,rfl,World.ownsRow_nil _ _ _ _,hB⟩
  ·cases hd:isDimB i
   ·rw [hf,hg,hd] at HJ
    go_enter Tryz.func107,Tryz.ntmps107
    go_wp2_with fail
    generalize ((w.alloc (.cells #[.int .i64 i] 3)).alloc (.cells #[Value.slice pr n2 cr] 22))=wb at hB b1 b2 ⊢
    refine (c1 wb hB).mono ?_
    rintro e w1 ⟨rfl,hB1⟩
    rw [hf]
    clear c1
    replace b1:=boxed_below b1 hB1
    replace b2:=boxed_below b2 hB1
    replace hB:=chain hB hB1
    have y1:=b1.cell
    have y2:=b2.cell
    go_wp2_with fail
    refine (c2 w1 hB).mono ?_
    rintro e w2 ⟨rfl,hB2⟩
    rw [hg]
    clear c2 y1 y2
    replace b1:=boxed_below b1 hB2
    replace b2:=boxed_below b2 hB2
    replace hB:=chain hB hB2
    have y1:=b1.cell
    have y2:=b2.cell
    go_wp2_with fail
    refine (c3 w2).mono ?_
    rintro e w0 ⟨rfl,hw0⟩
    replace hw0:=hw0.symm
    subst hw0
    rw [hd]
    clear c3
    go_wp2
    go_ret2
    rw [HJ.out]
    exact⟨_,rfl,World.ownsRow_nil _ _ _ _,hB⟩
   ·have lr:=HLen.out hg
    have HJ2:Hid (putF l i r=putR l i r):=by rw [hf,hg,hd] at HJ;exact HJ.out
    cases ha:l.any (fun x=>hasB x.2.val i)
    ·have HE:Hid (putF l i r=putS l i r ([],0)):=HJ2.out.trans (putS_off ha)
     go_enter Tryz.func107,Tryz.ntmps107
     go_wp2_with fail
     generalize ((w.alloc (.cells #[.int .i64 i] 3)).alloc (.cells #[Value.slice pr n2 cr] 22))=wb at hB b1 b2 ⊢
     refine (c1 wb hB).mono ?_
     rintro e w1 ⟨rfl,hB1⟩
     rw [hf]
     clear c1
     replace b1:=boxed_below b1 hB1
     replace b2:=boxed_below b2 hB1
     replace hB:=chain hB hB1
     have y1:=b1.cell
     have y2:=b2.cell
     go_wp2_with fail
     refine (c2 w1 hB).mono ?_
     rintro e w2 ⟨rfl,hB2⟩
     rw [hg]
     clear c2 y1 y2
     replace b1:=boxed_below b1 hB2
     replace b2:=boxed_below b2 hB2
     replace hB:=chain hB hB2
     have y1:=b1.cell
     have y2:=b2.cell
     go_wp2_with fail
     refine (c3 w2).mono ?_
     rintro e w0 ⟨rfl,hw0⟩
     replace hw0:=hw0.symm
     subst hw0
     rw [hd]
     clear c3
     have b2':=b2
     have hB3:=below_alloc w2 (.cells #[Value.slice none 0 0] 22)
     have b3:=Boxed.new w2 22 (.slice none 0 0)
     replace b1:=boxed_below b1 hB3
     replace b2:=boxed_below b2 hB3
     replace hB:=chain hB hB3
     have hlt2:w.heap.size+1<w2.heap.size:=b2'.lt
     go_wp2_with fail
     generalize w2.alloc (.cells #[Value.slice none 0 0] 22)=w3 at hB3 b1 b2 b3 hB ⊢
     refine (c4 w3 hB (pred_put i _ w3 b1)).mono ?_
     rintro e w4 ⟨rfl,hB4⟩
     rw [ha]
     clear c4 y1 y2
     replace b1:=boxed_below b1 hB4
     replace b2:=boxed_below b2 hB4
     replace b3:=boxed_below b3 hB4
     replace hB:=chain hB hB4
     have y1:=b1.cell
     have y2:=b2.cell
     have y3:=b3.cell
     go_wp2_with fail
     refine (zero_any w4).mono ?_
     rintro e w0 ⟨rfl,hw0⟩
     replace hw0:=hw0.symm
     subst hw0
     go_wp2_with fail
     refine (c6 [] (.slice none 0 0) _ w4 hB b1 b2 b3 (.inl ⟨_,_,rfl,rfl⟩) lr rightF_nil).mono ?_
     rintro e w7 ⟨v7,rfl,hO7,hB7⟩
     clear c6
     go_wp2
     go_ret2
     rw [HE.out]
     exact⟨_,rfl,OwnsC.mono hO7 hB.size,chain hB hB7⟩
    ·rcases notR_cases r with ⟨hz,hzr⟩|hz
     ·have HE:Hid (putF l i r=putS l i r ((notR r).1,0)):=HJ2.out.trans (by unfold putR;rw [<- hz])
      go_enter Tryz.func107,Tryz.ntmps107
      go_wp2_with fail
      generalize ((w.alloc (.cells #[.int .i64 i] 3)).alloc (.cells #[Value.slice pr n2 cr] 22))=wb at hB b1 b2 ⊢
      refine (c1 wb hB).mono ?_
      rintro e w1 ⟨rfl,hB1⟩
      rw [hf]
      clear c1
      replace b1:=boxed_below b1 hB1
      replace b2:=boxed_below b2 hB1
      replace hB:=chain hB hB1
      have y1:=b1.cell
      have y2:=b2.cell
      go_wp2_with fail
      refine (c2 w1 hB).mono ?_
      rintro e w2 ⟨rfl,hB2⟩
      rw [hg]
      clear c2 y1 y2
      replace b1:=boxed_below b1 hB2
      replace b2:=boxed_below b2 hB2
      replace hB:=chain hB hB2
      have y1:=b1.cell
      have y2:=b2.cell
      go_wp2_with fail
      refine (c3 w2).mono ?_
      rintro e w0 ⟨rfl,hw0⟩
      replace hw0:=hw0.symm
      subst hw0
      rw [hd]
      clear c3
      have b2':=b2
      have hB3:=below_alloc w2 (.cells #[Value.slice none 0 0] 22)
      have b3:=Boxed.new w2 22 (.slice none 0 0)
      replace b1:=boxed_below b1 hB3
      replace b2:=boxed_below b2 hB3
      replace hB:=chain hB hB3
      have hlt2:w.heap.size+1<w2.heap.size:=b2'.lt
      go_wp2_with fail
      generalize w2.alloc (.cells #[Value.slice none 0 0] 22)=w3 at hB3 b1 b2 b3 hB ⊢
      refine (c4 w3 hB (pred_put i _ w3 b1)).mono ?_
      rintro e w4 ⟨rfl,hB4⟩
      rw [ha]
      clear c4 y1 y2
      replace b1:=boxed_below b1 hB4
      replace b2:=boxed_below b2 hB4
      replace b3:=boxed_below b3 hB4
      replace hB:=chain hB hB4
      have y1:=b1.cell
      have y2:=b2.cell
      have y3:=b3.cell
      go_wp2_with fail
      refine (c5 w4 hB).mono ?_
      rintro e w5 ⟨v5,rfl,hO5,hB5⟩
      rw [hz]
      clear c5 y1 y2 y3
      have hne5:v5.ownBlock≠some w2.heap.size:=fun h=>by
       have h1:=(World.ownsRow.lt hO5 _ h).1
       have h2:=b3.lt
       omega
      obtain⟨p5,c5,rfl⟩:=OwnsC.len hO5
      replace b1:=boxed_below b1 hB5
      replace b2:=boxed_below b2 hB5
      replace b3:=boxed_below b3 hB5
      replace hB:=chain hB hB5
      have y1:=b1.cell
      have y2:=b2.cell
      have y3:=b3.cell
      have z3:=b3.frozen
      go_wp2_with fail
      generalize hW:w5.setCell ⟨w2.heap.size,0,none⟩ (.slice p5 (notR r).1.length c5)=w6
      have g6:w5.grownBy w6 (some w2.heap.size):=by rw [<- hW];exact grownBy_setCell' _ _ _
      have b3':Boxed w6 w2.heap.size 22 (.slice p5 (notR r).1.length c5):=by rw [<- hW];exact b3.set _
      have b1':=b1.kept g6 (by simp;omega)
      have b2'':=b2.kept g6 (by simp;omega)
      have hO6:OwnsC w6 w4.heap.size (.slice p5 (notR r).1.length c5) (notR r).1:=by rw [<- hW];exact OwnsC.set hO5 hne5 _
      have hB6:Below w.heap.size w w6:=by rw [<- hW];exact hB.setCell (by show w.heap.size<=w2.heap.size;omega) _
      clear hW
      refine (zero_any w6).mono ?_
      rintro e w0 ⟨rfl,hw0⟩
      replace hw0:=hw0.symm
      subst hw0
      go_wp2_with fail
      refine (c6 _ _ _ w6 hB6 b1' b2'' b3' (OwnsC.row hO6) lr hzr).mono ?_
      rintro e w7 ⟨v7,rfl,hO7,hB7⟩
      clear c6
      go_wp2
      go_ret2
      rw [HE.out]
      exact⟨_,rfl,OwnsC.mono hO7 hB6.size,chain hB6 hB7⟩
     ·have HE:Hid (putF l i r=([],3)):=HJ2.out.trans (putS_no (Told.not r) (by rw [hz];simp) ha)
      go_enter Tryz.func107,Tryz.ntmps107
      go_wp2_with fail
      generalize ((w.alloc (.cells #[.int .i64 i] 3)).alloc (.cells #[Value.slice pr n2 cr] 22))=wb at hB b1 b2 ⊢
      refine (c1 wb hB).mono ?_
      rintro e w1 ⟨rfl,hB1⟩
      rw [hf]
      clear c1
      replace b1:=boxed_below b1 hB1
      replace b2:=boxed_below b2 hB1
      replace hB:=chain hB hB1
      have y1:=b1.cell
      have y2:=b2.cell
      go_wp2_with fail
      refine (c2 w1 hB).mono ?_
      rintro e w2 ⟨rfl,hB2⟩
      rw [hg]
      clear c2 y1 y2
      replace b1:=boxed_below b1 hB2
      replace b2:=boxed_below b2 hB2
      replace hB:=chain hB hB2
      have y1:=b1.cell
      have y2:=b2.cell
      go_wp2_with fail
      refine (c3 w2).mono ?_
      rintro e w0 ⟨rfl,hw0⟩
      replace hw0:=hw0.symm
      subst hw0
      rw [hd]
      clear c3
      have b2':=b2
      have hB3:=below_alloc w2 (.cells #[Value.slice none 0 0] 22)
      have b3:=Boxed.new w2 22 (.slice none 0 0)
      replace b1:=boxed_below b1 hB3
      replace b2:=boxed_below b2 hB3
      replace hB:=chain hB hB3
      have hlt2:w.heap.size+1<w2.heap.size:=b2'.lt
      go_wp2_with fail
      generalize w2.alloc (.cells #[Value.slice none 0 0] 22)=w3 at hB3 b1 b2 b3 hB ⊢
      refine (c4 w3 hB (pred_put i _ w3 b1)).mono ?_
      rintro e w4 ⟨rfl,hB4⟩
      rw [ha]
      clear c4 y1 y2
      replace b1:=boxed_below b1 hB4
      replace b2:=boxed_below b2 hB4
      replace b3:=boxed_below b3 hB4
      replace hB:=chain hB hB4
      have y1:=b1.cell
      have y2:=b2.cell
      have y3:=b3.cell
      go_wp2_with fail
      refine (c5 w4 hB).mono ?_
      rintro e w5 ⟨v5,rfl,hO5,hB5⟩
      rw [hz] at hO5 ⊢
      clear c5 y1 y2 y3
      have hne5:v5.ownBlock≠some w2.heap.size:=fun h=>by
       have h1:=(World.ownsRow.lt hO5 _ h).1
       have h2:=b3.lt
       omega
      obtain⟨p5,c5,rfl⟩:=OwnsC.len hO5
      replace b1:=boxed_below b1 hB5
      replace b2:=boxed_below b2 hB5
      replace b3:=boxed_below b3 hB5
      replace hB:=chain hB hB5
      have y1:=b1.cell
      have y2:=b2.cell
      have y3:=b3.cell
      have z3:=b3.frozen
      go_wp2
      go_ret2
      rw [HE.out]
      exact⟨_,rfl,World.ownsRow_nil _ _ _ _,hB.setCell (by show w.heap.size<=w2.heap.size;omega) _⟩
theorem filt_step {l:List C} {k:Nat} {c:C} (p:C->Bool) (h:l[k]? = some c):(l.take (k+1)).filter p=(l.take k).filter p++if p c then [c] else []:=by
 have e:l.take (k+1)=l.take k ++ [c]:=by rw [List.take_add_one,h];rfl
 rw [e,List.filter_append]
 cases hp:p c <;> simp [hp]
theorem filt_len (l:List C) (p:C->Bool) (k:Nat):((l.take k).filter p).length<=l.length:=Nat.le_trans (List.length_filter_le _ _) (by rw [List.length_take];omega)
theorem kept_any (fid:Nat) (cap:Array Value) (eg:∀ args w,(callFunc fid args).run Tryz.prog w=.ok (.enter fid args) w) (l:List C) (vs:Value) (p:C->Bool) (w:World) (hv:CRow w vs l) (hl:l.length<=100000) (hp:PredC fid cap p w) :
  Calls Tryz.prog 183 #[vs,.func (.func fid) #[] cap] w fun e w'=>∃ v,e=.returned v/\OwnsC w' w.heap.size v (l.filter p)/\Below w.heap.size w w':=by
 obtain⟨pa,ca,rfl⟩:=hv.len
 have Ha:Hid (CRow w (.slice pa l.length ca) l):=hv
 have hfl:=fun k=>filt_len l p k
 clear hv
 obtain⟨n,hn1⟩:∃ n,n=l.length:=⟨_,rfl⟩
 have Hn:Hid (n=l.length):=hn1
 rw [<- hn1] at hl Ha hfl ⊢
 clear hn1
 have HP:Hid (PredC fid cap p w):=hp
 clear hp
 go_enter Tryz.func183,Tryz.ntmps183
 go_wp2
 go_loopw [5,10] (fun v i wr=>∃ k:Nat,k<=n/\i=.int .i64 k/\OwnsC wr w.heap.size v ((l.take k).filter p)/\Below w.heap.size w wr) (fun _ i _=>n - (intOf i).toNat)
 case atStart=>exact⟨0,Nat.zero_le _,rfl,World.ownsRow_nil _ _ _ _,Below.refl _ _⟩
 case round =>
  obtain⟨k,hk,rfl,hO,hny⟩:=hrel
  by_cases hlt:k<n
  ·obtain⟨c,hck⟩:=get_some (l:=l) (k:=k) (by rw [<- Hn.out];exact hlt)
   obtain⟨g,off,rfl,hg,x0,x1⟩:=(Ha.out.below hny).at hck
   have HS:Hid ((l.take (k+1)).filter p=(l.take k).filter p++if p c then [c] else []):=filt_step p hck
   have hX:=chain hny (below_alloc wr (.cells #[.int .u32 (c.1.val:Int),.int .u32 (c.2.val:Int)] 38))
   have HC:=HP.out (wr.alloc (.cells #[.int .u32 (c.1.val:Int),.int .u32 (c.2.val:Int)] 38)) c hX
   have hA:=At.made wr c 38
   have hOX:=OwnsC.below hO (below_alloc wr (.cells #[.int .u32 (c.1.val:Int),.int .u32 (c.2.val:Int)] 38))
   have hlen:Hid (((l.take k).filter p).length + [c].length<=200000):=by
    have:=hfl k
    show ((l.take k).filter p).length+1<=200000
    omega
   clear hck hO
   go_wp2_with fail
   refine HC.mono ?_
   rintro e w2 ⟨rfl,hB2⟩
   clear HC
   replace hX:=chain hX hB2
   replace hOX:=OwnsC.below hOX hB2
   replace hA:=hA.below hB2
   cases hpc:p c
   ·rw [hpc] at HS
    go_wp2
    go_roundw
    case rel=>exact⟨k+1,by omega,by go_num,by rw [HS.out];simpa using hOX,hX⟩
    case measure=>simp [intOf];omega
   ·rw [hpc] at HS
    obtain⟨z0,z1,z2⟩:=hA
    go_wp2_with (at_builtin;refine wpList_append_row rfl _ _ rfl w.heap.size _ _ _ [c] rfl rfl (OwnsC.below hOX (below_alloc _ _)) (row_one _ _) hlen.out (by have:=hX.size;simp at *; omega) ?_;intro v4 w4 hO4 hg4 hv4)
    have hX2:=chain hX (below_alloc w2 (.cells #[.int .u32 (c.1.val:Int),.int .u32 (c.2.val:Int)] 38))
    have hOX2:=OwnsC.below hOX (below_alloc w2 (.cells #[.int .u32 (c.1.val:Int),.int .u32 (c.2.val:Int)] 38))
    go_roundw
    case rel=>exact⟨k+1,by omega,by go_num,by rw [HS.out];exact hO4,hX2.trans (own_grown hOX2 hg4 hX2.size)⟩
    case measure=>simp [intOf];omega
  ·obtain rfl:k=n:=by omega
   have e:l.take k=l:=List.take_of_length_le (by rw [<- Hn.out];exact Nat.le_refl _)
   rw [e] at hO
   go_wp2
   go_ret
   exact⟨_,rfl,hO,hny⟩
theorem can_any (c:C) (w:World):Calls Tryz.prog 184 #[clV c] w fun e w'=>e=.returned (.bool (okC c))/\Below w.heap.size w w':=by
 go_enter Tryz.func184,Tryz.ntmps184
 go_wp2_with (go_at_call 144;refine (clash_any c _).mono ?_;rintro e w' ⟨rfl,hG⟩)
 go_ret
 exact⟨rfl,chain (below_alloc w _) hG.below⟩
theorem can_pred (w:World):PredC 184 #[] okC w:=fun W c _=>can_any c W
theorem can_eg:∀ args w,(callFunc 184 args).run Tryz.prog w=.ok (.enter 184 args) w:=enters_of Tryz.func184 (by kernel_rfl) rfl
theorem with_zero {i:Int}:((withN 0 i:Nat):Int)≠0↔isDimB i=true:=by
 have e:((withN 0 i:Nat):Int)≠0↔withN 0 i≠0:=by omega
 rw [e]
 by_cases hi:isDimB i=true
 ·simp only [withN,hi,if_true]
  simp
 ·simp only [withN,hi]
  simp
theorem aisDim_any (i:Int) (w:World):Calls Tryz.prog 157 #[.int .i64 i] w fun e w'=>e=.returned (.bool (isDimB i))/\w'=w:=by
 have h:=with_any 0 i w (by decide)
 have HZ:Hid (((withN 0 i:Nat):Int)≠0↔isDimB i=true):=with_zero
 generalize ((withN 0 i:Nat):Int)=z at h HZ
 have HZ2:Hid ((z != 0)=isDimB i):=by
  have h1:=HZ.out
  show _=_
  rw [Bool.eq_iff_iff,<- h1];simp
 clear HZ
 go_enter Tryz.func157,Tryz.ntmps157
 go_wp2_with fail
 refine h.mono ?_
 rintro e w1 ⟨rfl,hw1⟩
 replace hw1:=hw1.symm
 subst hw1
 clear h
 go_wp2
 go_ret
 exact⟨ret_bool HZ2.out,rfl⟩
theorem Of_any (l:List C) (v:Value) (w:World) (hv:FRow w v l) (hl:l.length<=40000) :
  Calls Tryz.prog 141 #[v] w fun e w'=>∃ v',e=.returned (.tuple #[v',.int .i64 (ofF l).2])/\OwnsC w' w.heap.size v' (ofF l).1/\Below w.heap.size w w':=by
 have c1:=fright_any l v w hv (by omega)
 have c2:=fun w1 (h:Below w.heap.size w w1)=>kept_any 184 #[] can_eg l v okC w1 (hv.row.below h) (by omega) (can_pred w1)
 have hcl:(calmC l).length<=100000:=Nat.le_trans (calm_len _) (by omega)
 have HM:Hid (ofF l=if rightF l then leastF (calmC l) else ([],2)):=rfl
 have hK:l.filter okC=calmC l:=rfl
 rw [hK] at c2
 clear hK
 generalize calmC l=K at c2 hcl HM
 obtain⟨pa,ca,rfl⟩:=hv.len
 clear hv
 generalize l.length=n at *
 cases hf:rightF l
 ·rw [hf] at c1 HM
  go_enter Tryz.func141,Tryz.ntmps141
  go_wp2_with fail
  refine c1.mono ?_
  rintro e w1 ⟨rfl,hB1⟩
  clear c1
  go_wp2
  go_ret2
  rw [HM.out]
  exact⟨_,rfl,World.ownsRow_nil _ _ _ _,hB1⟩
 ·rw [hf] at c1 HM
  go_enter Tryz.func141,Tryz.ntmps141
  go_wp2_with fail
  refine c1.mono ?_
  rintro e w1 ⟨rfl,hB1⟩
  clear c1
  replace c2:=c2 w1 hB1
  go_wp2_with fail
  refine c2.mono ?_
  rintro e w2 ⟨v2,rfl,hO2,hB2⟩
  clear c2
  have cL:=leastC K v2 w2 (OwnsC.row hO2) hcl
  obtain⟨p8,q8,rfl⟩:=OwnsC.len hO2
  go_wp2_with fail
  refine cL.mono ?_
  rintro e w3 ⟨v3,rfl,hO3,hB3⟩
  clear cL
  have hB:=chain (chain hB1 hB2) hB3
  go_wp2
  go_ret2
  rw [HM.out]
  exact⟨_,rfl,OwnsC.mono hO3 (chain hB1 hB2).size,hB⟩
theorem ofZ_ok {l:List C} (h:(notF l).2=0):ofZ l=ofF (notF l).1:=by simp [ofZ,h,ofF,notF_right l]
theorem ofZ_no {l:List C} (h:(notF l).2≠0):ofZ l=([],(notF l).2):=by simp [ofZ,h]
theorem OfZero_any (l:List C) (v:Value) (w:World) (hv:FRow w v l) (hl:l.length<=40000) :
  Calls Tryz.prog 139 #[v] w fun e w'=>∃ v',e=.returned (.tuple #[v',.int .i64 (ofZ l).2])/\OwnsC w' w.heap.size v' (ofZ l).1/\Below w.heap.size w w':=by
 have c1:=Not_any l v w hv hl
 have hLen:=notF_len l
 have HY:Hid ((notF l).2=0->ofZ l=ofF (notF l).1):=ofZ_ok
 have HN:Hid ((notF l).2≠0->ofZ l=([],(notF l).2)):=ofZ_no
 obtain⟨pa,ca,rfl⟩:=hv.len
 clear hv
 generalize notF l=P at c1 hLen HY HN
 obtain⟨M,er⟩:=P
 dsimp only at c1 hLen HY HN
 generalize l.length=n at *
 by_cases h0:er=0
 ·subst h0
  have HE:Hid (ofZ l=ofF M):=HY.out rfl
  clear HY HN
  go_enter Tryz.func139,Tryz.ntmps139
  go_wp2_with fail
  refine c1.mono ?_
  rintro e w1 ⟨v1,rfl,hO1,hB1⟩
  clear c1
  have c2:=Of_any M v1 w1 (OwnsC.frow hO1) (by omega)
  obtain⟨p8,q8,rfl⟩:=OwnsC.len hO1
  go_wp2_with fail
  refine c2.mono ?_
  rintro e w2 ⟨v2,rfl,hO2,hB2⟩
  clear c2
  go_wp2
  go_ret2
  rw [HE.out]
  exact⟨_,rfl,OwnsC.mono hO2 hB1.size,chain hB1 hB2⟩
 ·have HE:Hid (ofZ l=([],er)):=HN.out h0
  clear HY HN
  have h1:(er == 0)=false:=by simpa using h0
  go_enter Tryz.func139,Tryz.ntmps139
  go_wp2_with fail
  refine c1.mono ?_
  rintro e w1 ⟨v1,rfl,hO1,hB1⟩
  clear c1
  obtain⟨p8,q8,rfl⟩:=OwnsC.len hO1
  go_wp2
  go_ret2
  rw [HE.out]
  exact⟨_,rfl,World.ownsRow_nil _ _ _ _,hB1⟩
theorem ajoin_any (l m:List C) (a b:Value) (w:World) (ha:CRow w a l) (hb:CRow w b m) (hl:l.length<=40000) (hm:m.length<=40000) :
  Calls Tryz.prog 160 #[a,b] w fun e w'=>∃ v,e=.returned (.tuple #[v,.int .i64 (leastF (l++m)).2])/\OwnsC w' w.heap.size v (leastF (l++m)).1/\Below w.heap.size w w':=by
 have hB0:=below_alloc w (.cells #[a,b] 22)
 have hC:=concat_any l m a b w.heap.size (w.alloc (.cells #[a,b] 22)) (ha.below hB0) (hb.below hB0) (by simp [go_sem]) (by simp [go_sem]) (by simp) hl hm
 have hlm:(l++m).length<=100000:=by rw [List.length_append];omega
 obtain⟨pa,ca,rfl⟩:=ha.len
 obtain⟨pb,cb,rfl⟩:=hb.len
 clear ha hb
 generalize l++m=lm at *
 generalize l.length=n1 at *
 generalize m.length=n2 at *
 go_enter Tryz.func160,Tryz.ntmps160
 go_wp2_with (first
  | (go_at_call 182;refine hC.mono ?_;rintro e w1 ⟨v1,rfl,hO1,hB1⟩)
  | (go_at_call 119;refine (leastC _ _ _ (OwnsC.row hO1) hlm).mono ?_;rintro e w2 ⟨v2,rfl,hO2,hB2⟩))
 go_ret2
 have hB:=chain (chain hB0 hB1) hB2
 exact⟨_,rfl,OwnsC.mono hO2 (by have:=(chain hB0 hB1).size;omega),hB⟩
theorem ameet_any (l m:List C) (a b:Value) (w:World) (ha:CRow w a l) (hb:CRow w b m) (hl:l.length<=300) (hm:m.length<=300) :
  Calls Tryz.prog 195 #[a,b] w fun e w'=>∃ v,e=.returned (.tuple #[v,.int .i64 (mtR l m).2])/\OwnsC w' w.heap.size v (mtR l m).1/\Below w.heap.size w w':=by
 obtain⟨i0,hi,hz0,hz1,hz2⟩:=info_parts Tryz.infoC
 have hpl:=fun k=>pairs_take_le l m k hl hm
 obtain⟨pa,ca,rfl⟩:=ha.len
 obtain⟨pb,cb,rfl⟩:=hb.len
 have Ha:Hid (CRow w (.slice pa l.length ca) l):=ha
 have Hb:Hid (CRow w (.slice pb m.length cb) m):=hb
 clear ha hb
 obtain⟨n1,hn1⟩:∃ n1,n1=l.length:=⟨_,rfl⟩
 obtain⟨n2,hn2⟩:∃ n2,n2=m.length:=⟨_,rfl⟩
 have Hn1:Hid (n1=l.length):=hn1
 have Hn2:Hid (n2=m.length):=hn2
 rw [<- hn1] at hl Ha ⊢
 rw [<- hn2] at hm Hb ⊢
 clear hn1 hn2
 have hnm:n1*n2<=90000:=Nat.mul_le_mul hl hm
 have e1:wrap64 ((n1:Int) * (n2:Int))=((n1*n2:Nat):Int):=by rw [<- Int.natCast_mul];unfold wrap64;omega
 go_enter Tryz.func195,Tryz.ntmps195
 go_wp2_with (at_make;refine wpList_make_own _ rfl _ _ 22 rfl w.heap.size 38 i0 (.agg #[.int .u32 0,.int .u32 0]) 2 Tryz.underlying22 hi hz0 hz1 .i64 .i64 _ (n1*n2) rfl rfl (by first | rfl | exact e1) (by rw [hz2];omega) (by unfold maxLen;omega) (by simp) ?_;intro w1 hown1 hgrow1)
 go_loopw [6,19] (fun v i wr=>∃ k:Nat,k<=n1/\i=.int .i64 k/\OwnsC wr w.heap.size v (pairsC (l.take k) m)/\Below w.heap.size w wr) (fun _ i _=>n1 - (intOf i).toNat)
 case atStart=>exact⟨0,Nat.zero_le _,rfl,hown1,(Below.refl w.heap.size w).grown hgrow1 (Nat.le_refl _) (fun k h=>by cases h)⟩
 case round =>
  obtain⟨k,hk,rfl,hO,hny⟩:=hrel
  clear hown1 hgrow1
  by_cases hlt:k<n1
  ·obtain⟨c,hck⟩:=get_some (l:=l) (k:=k) (by rw [<- Hn1.out];exact hlt)
   obtain⟨g,off,rfl,hg,x0,x1⟩:=(Ha.out.below hny).at hck
   have HC:Hid (l[k]? = some c):=hck
   clear hck
   have hne0:=own_ne hO
   go_wp2
   go_loopw [6,25] (fun v i wr2=>∃ j:Nat,j<=n2/\i=.int .i64 j/\OwnsC wr2 w.heap.size v (pairsC (l.take k) m++(m.take j).map (meetC c))/\Below w.heap.size w wr2/\At wr2 wr.heap.size c/\v.ownBlock≠some wr.heap.size) (fun _ i _=>n2 - (intOf i).toNat)
   case atStart=>exact⟨0,Nat.zero_le _,rfl,by simp only [List.take_zero,List.map_nil,List.append_nil];exact OwnsC.below hO (below_alloc _ _),chain hny (below_alloc _ _),At.made _ _ _,hne0⟩
   case round =>
    obtain⟨j,hj,rfl,hO2,hny2,hat,hne⟩:=hrel
    by_cases hlt2:j<n2
    ·obtain⟨d,hdj⟩:=get_some (l:=m) (k:=j) (by rw [<- Hn2.out];exact hlt2)
     obtain⟨g2,off2,rfl,hg2,y0,y1⟩:=(Hb.out.below hny2).at hdj
     have hat0:=hat
     obtain⟨z0,z1,z2⟩:=hat0
     have HD:Hid (m[j]? = some d):=hdj
     have hlen:Hid ((pairsC (l.take k) m++(m.take j).map (meetC c)).length + [meetC c d].length<=200000):=by
      have h1:=hpl k
      have h2:=List.length_take_le j m
      show (pairsC (l.take k) m++(m.take j).map (meetC c)).length+1<=200000
      rw [List.length_append,List.length_map]
      omega
     clear hdj
     go_wp2_with (first
      | (go_at_call 177;refine (meet_any _ _ _).mono ?_;rintro e w3 ⟨rfl,hG⟩)
      | (at_builtin;refine wpList_append_row rfl _ _ rfl w.heap.size _ _ _ [meetC c d] rfl rfl (OwnsC.below (OwnsC.below (OwnsC.below hO2 (below_alloc _ _)) hG.below) (below_alloc _ _)) (row_one _ _) hlen.out (by have:=hny2.size;have:=hG.below.size;simp at *; omega) ?_;intro v4 w4 hO4 hg4 hv4))
     have hX:=chain (chain (chain hny2 (below_alloc _ _)) hG.below) (below_alloc w3 (.cells #[.int .u32 ((meetC c d).1.val:Int),.int .u32 ((meetC c d).2.val:Int)] 38))
     have hOX:=(OwnsC.below (OwnsC.below (OwnsC.below hO2 (below_alloc _ _)) hG.below) (below_alloc w3 (.cells #[.int .u32 ((meetC c d).1.val:Int),.int .u32 ((meetC c d).2.val:Int)] 38)))
     have hAX:=((hat.alloc _).below hG.below).alloc (.cells #[.int .u32 ((meetC c d).1.val:Int),.int .u32 ((meetC c d).2.val:Int)] 38)
     go_roundw
     case rel=>exact⟨j+1,by omega,by go_num,by rw [map_take_step HD.out,<- List.append_assoc];exact hO4,hX.trans (own_grown hOX hg4 hX.size),hAX.far hg4 hne.symm,own_next hv4 hne hAX.2.2⟩
     case measure=>simp [intOf];omega
    ·obtain rfl:j=n2:=by omega
     have e2:m.take j=m:=List.take_of_length_le (by rw [<- Hn2.out];exact Nat.le_refl _)
     rw [e2,<- pairs_take_step HC.out] at hO2
     go_wp2
     go_roundw
     case rel=>exact⟨k+1,by omega,by go_num,hO2,hny2⟩
     case measure=>simp [intOf];omega
  ·obtain rfl:k=n1:=by omega
   have e:l.take k=l:=List.take_of_length_le (by rw [<- Hn1.out];exact Nat.le_refl _)
   rw [e] at hO
   have hrl:(pairsC l m).length<=100000:=by have:=hpl k;rw [e] at this;omega
   have cK:=kept_any 184 #[] can_eg (pairsC l m) _ okC wr (OwnsC.row hO) hrl (can_pred wr)
   have hcl:(calmC (pairsC l m)).length<=100000:=Nat.le_trans (calm_len _) hrl
   have HM:Hid (mtR l m=leastF (calmC (pairsC l m))):=rfl
   have hK:(pairsC l m).filter okC=calmC (pairsC l m):=rfl
   rw [hK] at cK
   clear hK
   generalize calmC (pairsC l m)=K at cK hcl HM
   obtain⟨p9,q9,rfl⟩:=OwnsC.len hO
   generalize (pairsC l m).length=n9 at *
   go_wp2_with fail
   refine cK.mono ?_
   rintro e w2 ⟨v2,rfl,hO2,hB2⟩
   clear cK
   have cL:=leastC K v2 w2 (OwnsC.row hO2) hcl
   obtain⟨p8,q8,rfl⟩:=OwnsC.len hO2
   go_wp2_with fail
   refine cL.mono ?_
   rintro e w3 ⟨v3,rfl,hO3,hB3⟩
   clear cL
   have hB:=chain (chain hny hB2) hB3
   go_wp2
   go_ret2
   rw [HM.out]
   exact⟨_,rfl,OwnsC.mono hO3 (chain hny hB2).size,hB⟩
theorem ptS_take_step {l:List C} {i:Int} {one:List C} {z:List C × Int} {k:Nat} {c:C} (h:l[k]? = some c) (h0:(ptS (l.take k) i one z).2=0):ptS (l.take (k+1)) i one z=stpA i one z ((ptS (l.take k) i one z).1,0) c:=by
 have e:l.take (k+1)=l.take k ++ [c]:=by rw [List.take_add_one,h];rfl
 rw [e,ptS_snoc,<- h0]
theorem stuckA {i:Int} {one:List C} {z:List C × Int}:∀ (l:List C) (a:List C × Int),a.2≠0->l.foldl (stpA i one z) a=a
 | [],_,_=>rfl
 | c :: l,a,h=>by
  rw [List.foldl_cons]
  have e:stpA i one z a c=a:=by unfold stpA;rw [if_neg h]
  rw [e];exact stuckA l a h
theorem ptS_stuck {l:List C} {i:Int} {one:List C} {z:List C × Int} (hl:∀ c∈l,okC c=true) (hz:ToldA z) (k:Nat) (h:(ptS (l.take k) i one z).2≠0):ptS (l.take k) i one z=([],3)/\ptS l i one z=([],3):=by
 have ht:=(ToldA.pts (f:=l.take k) i one (fun c hc=>hl c (List.mem_of_mem_take hc)) hz).no h
 have e:ptS l i one z=(l.drop k).foldl (stpA i one z) (ptS (l.take k) i one z):=by
  unfold ptS
  rw [<- List.foldl_append,List.take_append_drop]
 refine⟨ht,?_⟩
 rw [e,stuckA _ _ h,ht]
theorem stpA_some (i:Int) (one:List C) (z:List C × Int) (M:List C) (c:C):stpA i one z (M,0) c=if (prtA c i one z).2=0 then leastF (M++(prtA c i one z).1) else ([],(prtA c i one z).2):=by simp [stpA]
theorem prt_p {c:C} {i:Int} {one:List C} {z:List C × Int} (h:hasB c.1.val i=true):prtA c i one z=mtR [outC c i] one:=by simp [prtA,h]
theorem prt_n {c:C} {i:Int} {one:List C} {z:List C × Int} (h:hasB c.1.val i=false) (h2:hasB c.2.val i=true):prtA c i one z=if z.2=0 then mtR [outC c i] z.1 else z:=by simp [prtA,h,h2]
theorem prt_o {c:C} {i:Int} {one:List C} {z:List C × Int} (h:hasB c.1.val i=false) (h2:hasB c.2.val i=false):prtA c i one z=([outC c i],0):=by simp [prtA,h,h2]
theorem below_drewA (w:World):Below w.heap.size w w.drew:=below_drewN (Below.refl _ w) 1
theorem put1_any (i:Int) (B:Nat) (w:World) (hb:Boxed w B 3 (.int .i64 i)):PredC 158 #[.pointer (some ⟨B,0,none⟩)] (fun x=>hasB x.2.val i) w:=fun W c hW=>by
 have b0:=boxed_below hb hW
 have hne:B≠W.heap.size:=by have:=b0.lt;omega
 have y:=(b0.alloc (.cells #[.int .u32 (c.1.val:Int),.int .u32 (c.2.val:Int)] 38)).cell
 have hx:=c.2.isLt
 clear b0 hb
 show Calls Tryz.prog 158 #[clV c,.pointer (some ⟨B,0,none⟩)] W _
 go_enter Tryz.func158,Tryz.ntmps158
 go_wp2_with (go_at_call 104;refine (has_any _ _ _ (by assumption)).mono ?_;rintro e w' ⟨rfl,hw⟩;replace hw:=hw.symm;subst hw)
 go_ret
 exact⟨rfl,below_alloc _ _⟩
theorem aputC_p (c:C) (i:Int) (one zero:List C) (vo vz:Value) (w:World) (ho:CRow w vo one) (hz:CRow w vz zero) (lo:one.length<=64) (lz:zero.length<=64) (hp:hasB c.1.val i=true) :
  Calls Tryz.prog 159 #[clV c,.int .i64 i,vo,vz] w fun e w'=>∃ v,e=.returned (.tuple #[v,.int .i64 (prtA c i one (zero,0)).2])/\OwnsC w' w.heap.size v (prtA c i one (zero,0)).1/\Below w.heap.size w w':=by
 have HP:Hid (prtA c i one (zero,0)=mtR [outC c i] one):=prt_p hp
 have hc1:=c.1.isLt
 have hc2:=c.2.isLt
 have hA:=At.made w c 38
 have hB:=below_alloc w (.cells #[.int .u32 (c.1.val:Int),.int .u32 (c.2.val:Int)] 38)
 obtain⟨pr,cr,rfl⟩:=ho.len
 obtain⟨pn,cn,rfl⟩:=hz.len
 have Hr:Hid (∀ W,Below w.heap.size w W->CRow W (.slice pr one.length cr) one):=fun W h=>ho.below h
 have Hn:Hid (∀ W,Below w.heap.size w W->CRow W (.slice pn zero.length cn) zero):=fun W h=>hz.below h
 have HA:Hid (At (w.alloc (.cells #[.int .u32 (c.1.val:Int),.int .u32 (c.2.val:Int)] 38)) w.heap.size c):=hA
 clear ho hz hA
 go_enter Tryz.func159,Tryz.ntmps159
 go_wp2_with fail
 generalize (w.alloc (.cells #[.int .u32 (c.1.val:Int),.int .u32 (c.2.val:Int)] 38))=wb at HA hB ⊢
 have hA0:=HA.out
 have z0:=hA0.1
 have z1:=hA0.2.1
 go_region_held3 (fun w'=>w'.cell? ⟨w.heap.size,0,none⟩=some (.int .u32 (c.1.val:Int))/\w'.cell? ⟨w.heap.size,1,none⟩=some (.int .u32 (c.2.val:Int))) (go_keep)
  (first | (go_at_call 193;refine (without_any _ _ _ (by assumption)).mono ?_;rintro e w1 ⟨rfl,hw1⟩;replace hw1:=hw1.symm;subst hw1))
 have hX:=chain (below_alloc wb (.cells #[.int .u32 (withoutN c.1.val i:Nat),.int .u32 (withoutN c.2.val i:Nat)] 38)) (below_drewA (wb.alloc (.cells #[.int .u32 (withoutN c.1.val i:Nat),.int .u32 (withoutN c.2.val i:Nat)] 38)))
 have hB7:=chain hB hX
 have hA7:=hA0.below hX
 have hOg:OwnsC (wb.alloc (.cells #[.int .u32 (withoutN c.1.val i:Nat),.int .u32 (withoutN c.2.val i:Nat)] 38)).drew w.heap.size (.slice (some ⟨wb.heap.size,0,none⟩) 1 1) [outC c i]:=OwnsC.below (own_one1 wb (outC c i) _ hB.size) (below_drewA _)
 clear z0 z1 hA0 HA hX
 go_wp2_with fail
 generalize (wb.alloc (.cells #[.int .u32 (withoutN c.1.val i:Nat),.int .u32 (withoutN c.2.val i:Nat)] 38)).drew=w7 at hB7 hA7 hOg ⊢
 refine (has_any _ _ _ (by assumption)).mono ?_
 rintro e w0 ⟨rfl,hw0⟩
 replace hw0:=hw0.symm
 subst hw0
 rw [hp]
 have cM:=ameet_any [outC c i] one _ _ w7 (OwnsC.row hOg) (Hr.out w7 hB7) (by simp) (by omega)
 go_wp2_with fail
 refine cM.mono ?_
 rintro e w8 ⟨v8,rfl,hO8,hB8⟩
 clear cM
 go_wp2
 go_ret2
 rw [HP.out]
 exact⟨_,rfl,OwnsC.mono hO8 hB7.size,chain hB7 hB8⟩
theorem aputC_n (c:C) (i:Int) (one zero:List C) (vo vz:Value) (w:World) (ho:CRow w vo one) (hz:CRow w vz zero) (lo:one.length<=64) (lz:zero.length<=64) (hp:hasB c.1.val i=false) (hq:hasB c.2.val i=true) :
  Calls Tryz.prog 159 #[clV c,.int .i64 i,vo,vz] w fun e w'=>∃ v,e=.returned (.tuple #[v,.int .i64 (prtA c i one (zero,0)).2])/\OwnsC w' w.heap.size v (prtA c i one (zero,0)).1/\Below w.heap.size w w':=by
 have HP:Hid (prtA c i one (zero,0)=mtR [outC c i] zero):=(prt_n hp hq).trans (if_pos rfl)
 have hc1:=c.1.isLt
 have hc2:=c.2.isLt
 have hA:=At.made w c 38
 have hB:=below_alloc w (.cells #[.int .u32 (c.1.val:Int),.int .u32 (c.2.val:Int)] 38)
 obtain⟨pr,cr,rfl⟩:=ho.len
 obtain⟨pn,cn,rfl⟩:=hz.len
 have Hr:Hid (∀ W,Below w.heap.size w W->CRow W (.slice pr one.length cr) one):=fun W h=>ho.below h
 have Hn:Hid (∀ W,Below w.heap.size w W->CRow W (.slice pn zero.length cn) zero):=fun W h=>hz.below h
 have HA:Hid (At (w.alloc (.cells #[.int .u32 (c.1.val:Int),.int .u32 (c.2.val:Int)] 38)) w.heap.size c):=hA
 clear ho hz hA
 go_enter Tryz.func159,Tryz.ntmps159
 go_wp2_with fail
 generalize (w.alloc (.cells #[.int .u32 (c.1.val:Int),.int .u32 (c.2.val:Int)] 38))=wb at HA hB ⊢
 have hA0:=HA.out
 have z0:=hA0.1
 have z1:=hA0.2.1
 go_region_held3 (fun w'=>w'.cell? ⟨w.heap.size,0,none⟩=some (.int .u32 (c.1.val:Int))/\w'.cell? ⟨w.heap.size,1,none⟩=some (.int .u32 (c.2.val:Int))) (go_keep)
  (first | (go_at_call 193;refine (without_any _ _ _ (by assumption)).mono ?_;rintro e w1 ⟨rfl,hw1⟩;replace hw1:=hw1.symm;subst hw1))
 have hX:=chain (below_alloc wb (.cells #[.int .u32 (withoutN c.1.val i:Nat),.int .u32 (withoutN c.2.val i:Nat)] 38)) (below_drewA (wb.alloc (.cells #[.int .u32 (withoutN c.1.val i:Nat),.int .u32 (withoutN c.2.val i:Nat)] 38)))
 have hB7:=chain hB hX
 have hA7:=hA0.below hX
 have hOg:OwnsC (wb.alloc (.cells #[.int .u32 (withoutN c.1.val i:Nat),.int .u32 (withoutN c.2.val i:Nat)] 38)).drew w.heap.size (.slice (some ⟨wb.heap.size,0,none⟩) 1 1) [outC c i]:=OwnsC.below (own_one1 wb (outC c i) _ hB.size) (below_drewA _)
 clear z0 z1 hA0 HA hX
 go_wp2_with fail
 generalize (wb.alloc (.cells #[.int .u32 (withoutN c.1.val i:Nat),.int .u32 (withoutN c.2.val i:Nat)] 38)).drew=w7 at hB7 hA7 hOg ⊢
 refine (has_any _ _ _ (by assumption)).mono ?_
 rintro e w0 ⟨rfl,hw0⟩
 replace hw0:=hw0.symm
 subst hw0
 rw [hp]
 obtain⟨z0,z1,z2⟩:=hA7
 go_wp2_with fail
 refine (has_any _ _ _ (by assumption)).mono ?_
 rintro e w0 ⟨rfl,hw0⟩
 replace hw0:=hw0.symm
 subst hw0
 rw [hq]
 have cM:=ameet_any [outC c i] zero _ _ w7 (OwnsC.row hOg) (Hn.out w7 hB7) (by simp) (by omega)
 go_wp2_with fail
 refine cM.mono ?_
 rintro e w8 ⟨v8,rfl,hO8,hB8⟩
 clear cM
 go_wp2
 go_ret2
 rw [HP.out]
 exact⟨_,rfl,OwnsC.mono hO8 hB7.size,chain hB7 hB8⟩
theorem aputC_o (c:C) (i:Int) (one zero:List C) (vo vz:Value) (w:World) (ho:CRow w vo one) (hz:CRow w vz zero) (lo:one.length<=64) (lz:zero.length<=64) (hp:hasB c.1.val i=false) (hq:hasB c.2.val i=false) :
  Calls Tryz.prog 159 #[clV c,.int .i64 i,vo,vz] w fun e w'=>∃ v,e=.returned (.tuple #[v,.int .i64 (prtA c i one (zero,0)).2])/\OwnsC w' w.heap.size v (prtA c i one (zero,0)).1/\Below w.heap.size w w':=by
 have HP:Hid (prtA c i one (zero,0)=([outC c i],0)):=prt_o hp hq
 have hc1:=c.1.isLt
 have hc2:=c.2.isLt
 have hA:=At.made w c 38
 have hB:=below_alloc w (.cells #[.int .u32 (c.1.val:Int),.int .u32 (c.2.val:Int)] 38)
 obtain⟨pr,cr,rfl⟩:=ho.len
 obtain⟨pn,cn,rfl⟩:=hz.len
 have Hr:Hid (∀ W,Below w.heap.size w W->CRow W (.slice pr one.length cr) one):=fun W h=>ho.below h
 have Hn:Hid (∀ W,Below w.heap.size w W->CRow W (.slice pn zero.length cn) zero):=fun W h=>hz.below h
 have HA:Hid (At (w.alloc (.cells #[.int .u32 (c.1.val:Int),.int .u32 (c.2.val:Int)] 38)) w.heap.size c):=hA
 clear ho hz hA
 go_enter Tryz.func159,Tryz.ntmps159
 go_wp2_with fail
 generalize (w.alloc (.cells #[.int .u32 (c.1.val:Int),.int .u32 (c.2.val:Int)] 38))=wb at HA hB ⊢
 have hA0:=HA.out
 have z0:=hA0.1
 have z1:=hA0.2.1
 go_region_held3 (fun w'=>w'.cell? ⟨w.heap.size,0,none⟩=some (.int .u32 (c.1.val:Int))/\w'.cell? ⟨w.heap.size,1,none⟩=some (.int .u32 (c.2.val:Int))) (go_keep)
  (first | (go_at_call 193;refine (without_any _ _ _ (by assumption)).mono ?_;rintro e w1 ⟨rfl,hw1⟩;replace hw1:=hw1.symm;subst hw1))
 have hX:=chain (below_alloc wb (.cells #[.int .u32 (withoutN c.1.val i:Nat),.int .u32 (withoutN c.2.val i:Nat)] 38)) (below_drewA (wb.alloc (.cells #[.int .u32 (withoutN c.1.val i:Nat),.int .u32 (withoutN c.2.val i:Nat)] 38)))
 have hB7:=chain hB hX
 have hA7:=hA0.below hX
 have hOg:OwnsC (wb.alloc (.cells #[.int .u32 (withoutN c.1.val i:Nat),.int .u32 (withoutN c.2.val i:Nat)] 38)).drew w.heap.size (.slice (some ⟨wb.heap.size,0,none⟩) 1 1) [outC c i]:=OwnsC.below (own_one1 wb (outC c i) _ hB.size) (below_drewA _)
 clear z0 z1 hA0 HA hX
 go_wp2_with fail
 generalize (wb.alloc (.cells #[.int .u32 (withoutN c.1.val i:Nat),.int .u32 (withoutN c.2.val i:Nat)] 38)).drew=w7 at hB7 hA7 hOg ⊢
 refine (has_any _ _ _ (by assumption)).mono ?_
 rintro e w0 ⟨rfl,hw0⟩
 replace hw0:=hw0.symm
 subst hw0
 rw [hp]
 obtain⟨z0,z1,z2⟩:=hA7
 go_wp2_with fail
 refine (has_any _ _ _ (by assumption)).mono ?_
 rintro e w0 ⟨rfl,hw0⟩
 replace hw0:=hw0.symm
 subst hw0
 rw [hq]
 go_wp2
 go_ret2
 rw [HP.out]
 exact⟨_,rfl,hOg,hB7⟩
theorem aputC_any (c:C) (i:Int) (one zero:List C) (vo vz:Value) (w:World) (ho:CRow w vo one) (hz:CRow w vz zero) (lo:one.length<=64) (lz:zero.length<=64) :
  Calls Tryz.prog 159 #[clV c,.int .i64 i,vo,vz] w fun e w'=>∃ v,e=.returned (.tuple #[v,.int .i64 (prtA c i one (zero,0)).2])/\OwnsC w' w.heap.size v (prtA c i one (zero,0)).1/\Below w.heap.size w w':=by
 cases hp:hasB c.1.val i
 ·cases hq:hasB c.2.val i
  ·exact aputC_o c i one zero vo vz w ho hz lo lz hp hq
  ·exact aputC_n c i one zero vo vz w ho hz lo lz hp hq
 ·exact aputC_p c i one zero vo vz w ho hz lo lz hp
theorem APut_any (l r:List C) (i:Int) (vl vr:Value) (w:World) (hl:FRow w vl l) (hr:FRow w vr r) (hll:l.length<=40000) (hrl:r.length<=40000) :
  Calls Tryz.prog 108 #[vl,.int .i64 i,vr] w fun e w'=>∃ v,e=.returned (.tuple #[v,.int .i64 (ptA l i r).2])/\OwnsC w' w.heap.size v (ptA l i r).1/\Below w.heap.size w w':=by
 have eg:∀ args w,(callFunc 158 args).run Tryz.prog w=.ok (.enter 158 args) w:=enters_of Tryz.func158 (by kernel_rfl) rfl
 have HJ:Hid (ptA l i r=if rightA l && isDimB i && rightF r then ptS l i (ofF r).1 (ofZ r) else ([],2)):=rfl
 have hB:=below_alloc w (.cells #[.int .i64 i] 3)
 have b1:=Boxed.new w 3 (.int .i64 i)
 have c1:=fun W (h:Below w.heap.size w W)=>aright_any l vl W (hl.below h) (by omega)
 have c2:=fun W=>aisDim_any i W
 have c3:=fun W (h:Below w.heap.size w W)=>Of_any r vr W (hr.below h) hrl
 have c4:=fun W (h:Below w.heap.size w W) (hx:Boxed W w.heap.size 3 (.int .i64 i))=>has_row l vl W (hl.row.below h) (by omega) _ 158 _ eg (put1_any i w.heap.size W hx).pred
 have c5:=fun W (h:Below w.heap.size w W)=>OfZero_any r vr W (hr.below h) hrl
 have Hl:Hid (∀ W,Below w.heap.size w W->FRow W vl l):=fun W h=>hl.below h
 have hOl:=rightA_len (ofF_right r)
 have hZl:=rightA_len (ofZ_right r)
 obtain⟨pl,cl,rfl⟩:=hl.len
 obtain⟨pr,cr,rfl⟩:=hr.len
 clear hl hr eg
 obtain⟨n,hn⟩:∃ n,n=l.length:=⟨_,rfl⟩
 have Hn:Hid (n=l.length):=hn
 rw [<- hn] at hll Hl c1 c4 ⊢
 clear hn
 generalize r.length=n2 at *
 cases hf:rightA l
 ·rw [hf] at HJ
  go_enter Tryz.func108,Tryz.ntmps108
  go_wp2_with fail
  generalize w.alloc (.cells #[Value.int .i64 i] 3)=wb at hB b1 ⊢
  refine (c1 wb hB).mono ?_
  rintro e w1 ⟨rfl,hB1⟩
  rw [hf]
  clear c1
  go_wp2
  go_ret2
  rw [HJ.out]
  exact⟨_,rfl,World.ownsRow_nil _ _ _ _,chain hB hB1⟩
 ·have HOk:Hid (∀ c∈l,okC c=true):=rightA_ok hf
  go_enter Tryz.func108,Tryz.ntmps108
  go_wp2_with fail
  generalize w.alloc (.cells #[Value.int .i64 i] 3)=wb at hB b1 ⊢
  refine (c1 wb hB).mono ?_
  rintro e w1 ⟨rfl,hB1⟩
  rw [hf] at HJ ⊢
  clear c1
  replace hB:=chain hB hB1
  replace b1:=boxed_below b1 hB1
  clear hB1
  have y:=b1.cell
  replace c2:=c2 w1
  cases hi:isDimB i
  ·rw [hi] at HJ c2
   go_wp2_with fail
   refine c2.mono ?_
   rintro e w2 ⟨rfl,hw2⟩
   replace hw2:=hw2.symm
   subst hw2
   clear c2
   go_wp2
   go_ret2
   rw [HJ.out]
   exact⟨_,rfl,World.ownsRow_nil _ _ _ _,hB⟩
  ·rw [hi] at HJ c2
   go_wp2_with fail
   refine c2.mono ?_
   rintro e w2 ⟨rfl,hw2⟩
   replace hw2:=hw2.symm
   subst hw2
   clear c2 y
   replace c3:=c3 w1 hB
   cases hg:rightF r
   ·have hE:ofF r=([],2):=by simp [ofF,hg]
    rw [hg] at HJ
    rw [hE] at c3
    clear hE hOl
    dsimp only at c3
    go_wp2_with fail
    refine c3.mono ?_
    rintro e w3 ⟨v3,rfl,hO3,hB3⟩
    clear c3
    obtain⟨p3,q3,rfl⟩:=OwnsC.len hO3
    go_wp2
    go_ret2
    rw [HJ.out]
    exact⟨_,rfl,World.ownsRow_nil _ _ _ _,chain hB hB3⟩
   ·rw [hg] at HJ
    have HT:Hid (ToldA (ofZ r)):=ToldA.ofZ hg
    have hO2:=ofF_told hg
    have HJ2:Hid (ptA l i r=ptS l i (ofF r).1 (ofZ r)):=HJ.out
    clear HJ
    generalize ofF r=PO at c3 hO2 HJ2 hOl
    obtain⟨O,oe⟩:=PO
    obtain rfl:oe=0:=hO2
    dsimp only at c3 HJ2 hOl
    go_wp2_with fail
    refine c3.mono ?_
    rintro e w3 ⟨v3,rfl,hO3,hB3⟩
    clear c3
    replace hB:=chain hB hB3
    replace b1:=boxed_below b1 hB3
    have RO:=OwnsC.row hO3
    obtain⟨p3,q3,rfl⟩:=OwnsC.len hO3
    clear hO3 hB3
    replace c4:=c4 w3 hB b1
    cases ha:l.any (fun x=>hasB x.2.val i)
    ·have HE0:Hid (ptA l i r=ptS l i O ([],0)):=HJ2.out.trans (ptS_off ha)
     rw [ha] at c4
     go_wp2_with fail
     refine c4.mono ?_
     rintro e wL ⟨rfl,hB4⟩
     clear c4
     replace hB:=chain hB hB4
     replace b1:=boxed_below b1 hB4
     replace RO:=RO.below hB4
     clear hB4 HJ2 HT c5
     have TZ:Hid (ToldA (([]:List C),0)):=.inl ⟨rfl,rightA_nil⟩
     have RZ:CRow wL (.slice none 0 0) []:=.inl ⟨_,_,rfl,rfl⟩
     have hB0:=hB
     go_wp2
     go_loopw [11,45] (fun v j wr=>∃ k:Nat,k<=n/\j=.int .i64 k/\(ptS (l.take k) i O (([]:List C),0)).2=0/\OwnsC wr w.heap.size v (ptS (l.take k) i O (([]:List C),0)).1/\Below wL.heap.size wL wr) (fun _ j _=>n - (intOf j).toNat)
     case atStart=>exact⟨0,Nat.zero_le _,rfl,rfl,World.ownsRow_nil _ _ _ _,Below.refl _ _⟩
     case round =>
      obtain⟨k,hk,rfl,hz,hO,hny⟩:=hrel
      have HZ:Hid ((ptS (l.take k) i O (([]:List C),0)).2=0):=hz
      have HM:Hid (rightA (ptS (l.take k) i O (([]:List C),0)).1=true):=(ToldA.pts i O (fun c hc=>HOk.out c (List.mem_of_mem_take hc)) TZ.out).right
      clear hz
      by_cases hlt:k<n
      ·obtain⟨c,hck⟩:=get_some (l:=l) (k:=k) (by rw [<- Hn.out];exact hlt)
       obtain⟨g,off,rfl,hg,x0,x1⟩:=(Hl.out _ (chain hB hny)).row.at hck
       have HStep:Hid (ptS (l.take (k+1)) i O (([]:List C),0)=stpA i O (([]:List C),0) ((ptS (l.take k) i O (([]:List C),0)).1,0) c):=ptS_take_step hck HZ.out
       have HStuck:Hid ((ptS (l.take (k+1)) i O (([]:List C),0)).2≠0->ptS (l.take (k+1)) i O (([]:List C),0)=([],3)/\ptS l i O (([]:List C),0)=([],3)):=fun h=>ptS_stuck HOk.out TZ.out (k+1) h
       have hPl:=(ToldA.prt (c:=c) i O (HOk.out c (List.mem_of_getElem? hck)) TZ.out).len
       clear hck
       generalize (ptS (l.take k) i O (([]:List C),0)).1=M at hO HM HStep
       have hMl:=rightA_len HM.out
       have hBb:=below_alloc wr (.cells #[.int .u32 (c.1.val:Int),.int .u32 (c.2.val:Int)] 38)
       have y1:=(boxed_below b1 (chain hny hBb)).cell
       have hnb:w.heap.size≠wr.heap.size:=by have h1:=b1.lt;have h2:=hny.size;omega
       have cP:=aputC_any c i O [] _ _ (wr.alloc (.cells #[.int .u32 (c.1.val:Int),.int .u32 (c.2.val:Int)] 38)) (RO.below (chain hny hBb)) (RZ.below (chain hny hBb)) (by omega) (by first | omega | simp)
       have hOM:=OwnsC.below hO hBb
       obtain⟨pM,qM,rfl⟩:=OwnsC.len hO
       clear hO
       generalize hPP:prtA c i O (([]:List C),0)=PP at cP hPl
       have HPP:Hid (prtA c i O (([]:List C),0)=PP):=hPP
       clear hPP
       obtain⟨P1,pe⟩:=PP
       dsimp only at cP hPl
       go_wp2_with fail
       refine cP.mono ?_
       rintro e w8 ⟨v8,rfl,hO8,hB8⟩
       clear cP
       have hB9:=chain (chain hny hBb) hB8
       replace hOM:=OwnsC.below hOM hB8
       by_cases p0:pe=0
       ·subst p0
        have HST:Hid (ptS (l.take (k+1)) i O (([]:List C),0)=leastF (M++P1)):=HStep.out.trans (by rw [stpA_some,HPP.out];simp)
        have cJ:=ajoin_any M P1 _ v8 w8 (OwnsC.row hOM) (OwnsC.row hO8) (by omega) (by omega)
        obtain⟨p8,q8,rfl⟩:=OwnsC.len hO8
        generalize leastF (M++P1)=PJ at cJ HST
        obtain⟨J,je⟩:=PJ
        dsimp only at cJ HST
        go_wp2_with fail
        refine cJ.mono ?_
        rintro e w10 ⟨v10,rfl,hO10,hB10⟩
        clear cJ
        have hBf:=chain hB9 hB10
        obtain⟨p10,q10,rfl⟩:=OwnsC.len hO10
        by_cases j0:je=0
        ·subst j0
         go_wp2
         go_roundw
         case rel=>exact⟨k+1,by omega,by go_num,by rw [HST.out],by rw [HST.out];exact OwnsC.mono hO10 (chain hB hB9).size,hBf⟩
         case measure=>simp [intOf];omega
        ·have HE:=HStuck.out (by rw [HST.out];exact j0)
         have h3:je=3:=by have:=HST.out;rw [HE.1] at this;injection this with _ h;exact h.symm
         have HE2:Hid (ptS l i O (([]:List C),0)=([],3)):=HE.2
         clear HE
         subst h3
         go_wp2
         go_ret2
         rw [HE0.out,HE2.out]
         exact⟨_,rfl,World.ownsRow_nil _ _ _ _,chain hB hBf⟩
       ·have HST:Hid (ptS (l.take (k+1)) i O (([]:List C),0)=([],pe)):=HStep.out.trans (by rw [stpA_some,HPP.out];simp [p0])
        have HE:=HStuck.out (by rw [HST.out];exact p0)
        have h3:pe=3:=by have:=HST.out;rw [HE.1] at this;injection this with _ h;exact h.symm
        have HE2:Hid (ptS l i O (([]:List C),0)=([],3)):=HE.2
        clear HE
        subst h3
        obtain⟨p8,q8,rfl⟩:=OwnsC.len hO8
        go_wp2
        go_ret2
        rw [HE0.out,HE2.out]
        exact⟨_,rfl,World.ownsRow_nil _ _ _ _,chain hB hB9⟩
      ·obtain rfl:k=n:=by omega
       have e:l.take k=l:=List.take_of_length_le (by rw [<- Hn.out];exact Nat.le_refl _)
       have HZ2:Hid ((ptS l i O (([]:List C),0)).2=0):=by rw [<- e];exact HZ.out
       rw [e] at hO
       go_wp2
       go_ret2
       rw [HE0.out,HZ2.out]
       exact⟨_,rfl,hO,chain hB hny⟩
    ·rw [ha] at c4
     go_wp2_with fail
     refine c4.mono ?_
     rintro e w4 ⟨rfl,hB4⟩
     clear c4
     replace hB:=chain hB hB4
     replace b1:=boxed_below b1 hB4
     replace RO:=RO.below hB4
     clear hB4
     replace c5:=c5 w4 hB
     generalize ofZ r=PZ at c5 HT HJ2 hZl
     obtain⟨Z,ze⟩:=PZ
     dsimp only at c5 hZl
     by_cases z0:ze=0
     ·subst z0
      have HE0:Hid (ptA l i r=ptS l i O (Z,0)):=HJ2.out
      have TZ:Hid (ToldA (Z,0)):=HT.out
      go_wp2_with fail
      refine c5.mono ?_
      rintro e wL ⟨v5,rfl,hO5,hB5⟩
      clear c5
      replace hB:=chain hB hB5
      replace b1:=boxed_below b1 hB5
      replace RO:=RO.below hB5
      have RZ:=OwnsC.row hO5
      obtain⟨p5,q5,rfl⟩:=OwnsC.len hO5
      clear hO5 hB5 HJ2 HT
      have hB0:=hB
      go_wp2
      go_loopw [11,45] (fun v j wr=>∃ k:Nat,k<=n/\j=.int .i64 k/\(ptS (l.take k) i O (Z,0)).2=0/\OwnsC wr w.heap.size v (ptS (l.take k) i O (Z,0)).1/\Below wL.heap.size wL wr) (fun _ j _=>n - (intOf j).toNat)
      case atStart=>exact⟨0,Nat.zero_le _,rfl,rfl,World.ownsRow_nil _ _ _ _,Below.refl _ _⟩
      case round =>
       obtain⟨k,hk,rfl,hz,hO,hny⟩:=hrel
       have HZ:Hid ((ptS (l.take k) i O (Z,0)).2=0):=hz
       have HM:Hid (rightA (ptS (l.take k) i O (Z,0)).1=true):=(ToldA.pts i O (fun c hc=>HOk.out c (List.mem_of_mem_take hc)) TZ.out).right
       clear hz
       by_cases hlt:k<n
       ·obtain⟨c,hck⟩:=get_some (l:=l) (k:=k) (by rw [<- Hn.out];exact hlt)
        obtain⟨g,off,rfl,hg,x0,x1⟩:=(Hl.out _ (chain hB hny)).row.at hck
        have HStep:Hid (ptS (l.take (k+1)) i O (Z,0)=stpA i O (Z,0) ((ptS (l.take k) i O (Z,0)).1,0) c):=ptS_take_step hck HZ.out
        have HStuck:Hid ((ptS (l.take (k+1)) i O (Z,0)).2≠0->ptS (l.take (k+1)) i O (Z,0)=([],3)/\ptS l i O (Z,0)=([],3)):=fun h=>ptS_stuck HOk.out TZ.out (k+1) h
        have hPl:=(ToldA.prt (c:=c) i O (HOk.out c (List.mem_of_getElem? hck)) TZ.out).len
        clear hck
        generalize (ptS (l.take k) i O (Z,0)).1=M at hO HM HStep
        have hMl:=rightA_len HM.out
        have hBb:=below_alloc wr (.cells #[.int .u32 (c.1.val:Int),.int .u32 (c.2.val:Int)] 38)
        have y1:=(boxed_below b1 (chain hny hBb)).cell
        have hnb:w.heap.size≠wr.heap.size:=by have h1:=b1.lt;have h2:=hny.size;omega
        have cP:=aputC_any c i O Z _ _ (wr.alloc (.cells #[.int .u32 (c.1.val:Int),.int .u32 (c.2.val:Int)] 38)) (RO.below (chain hny hBb)) (RZ.below (chain hny hBb)) (by omega) (by first | omega | simp)
        have hOM:=OwnsC.below hO hBb
        obtain⟨pM,qM,rfl⟩:=OwnsC.len hO
        clear hO
        generalize hPP:prtA c i O (Z,0)=PP at cP hPl
        have HPP:Hid (prtA c i O (Z,0)=PP):=hPP
        clear hPP
        obtain⟨P1,pe⟩:=PP
        dsimp only at cP hPl
        go_wp2_with fail
        refine cP.mono ?_
        rintro e w8 ⟨v8,rfl,hO8,hB8⟩
        clear cP
        have hB9:=chain (chain hny hBb) hB8
        replace hOM:=OwnsC.below hOM hB8
        by_cases p0:pe=0
        ·subst p0
         have HST:Hid (ptS (l.take (k+1)) i O (Z,0)=leastF (M++P1)):=HStep.out.trans (by rw [stpA_some,HPP.out];simp)
         have cJ:=ajoin_any M P1 _ v8 w8 (OwnsC.row hOM) (OwnsC.row hO8) (by omega) (by omega)
         obtain⟨p8,q8,rfl⟩:=OwnsC.len hO8
         generalize leastF (M++P1)=PJ at cJ HST
         obtain⟨J,je⟩:=PJ
         dsimp only at cJ HST
         go_wp2_with fail
         refine cJ.mono ?_
         rintro e w10 ⟨v10,rfl,hO10,hB10⟩
         clear cJ
         have hBf:=chain hB9 hB10
         obtain⟨p10,q10,rfl⟩:=OwnsC.len hO10
         by_cases j0:je=0
         ·subst j0
          go_wp2
          go_roundw
          case rel=>exact⟨k+1,by omega,by go_num,by rw [HST.out],by rw [HST.out];exact OwnsC.mono hO10 (chain hB hB9).size,hBf⟩
          case measure=>simp [intOf];omega
         ·have HE:=HStuck.out (by rw [HST.out];exact j0)
          have h3:je=3:=by have:=HST.out;rw [HE.1] at this;injection this with _ h;exact h.symm
          have HE2:Hid (ptS l i O (Z,0)=([],3)):=HE.2
          clear HE
          subst h3
          go_wp2
          go_ret2
          rw [HE0.out,HE2.out]
          exact⟨_,rfl,World.ownsRow_nil _ _ _ _,chain hB hBf⟩
        ·have HST:Hid (ptS (l.take (k+1)) i O (Z,0)=([],pe)):=HStep.out.trans (by rw [stpA_some,HPP.out];simp [p0])
         have HE:=HStuck.out (by rw [HST.out];exact p0)
         have h3:pe=3:=by have:=HST.out;rw [HE.1] at this;injection this with _ h;exact h.symm
         have HE2:Hid (ptS l i O (Z,0)=([],3)):=HE.2
         clear HE
         subst h3
         obtain⟨p8,q8,rfl⟩:=OwnsC.len hO8
         go_wp2
         go_ret2
         rw [HE0.out,HE2.out]
         exact⟨_,rfl,World.ownsRow_nil _ _ _ _,chain hB hB9⟩
       ·obtain rfl:k=n:=by omega
        have e:l.take k=l:=List.take_of_length_le (by rw [<- Hn.out];exact Nat.le_refl _)
        have HZ2:Hid ((ptS l i O (Z,0)).2=0):=by rw [<- e];exact HZ.out
        rw [e] at hO
        go_wp2
        go_ret2
        rw [HE0.out,HZ2.out]
        exact⟨_,rfl,hO,chain hB hny⟩
     ·have HN:Hid (ptA l i r=([],3)):=HJ2.out.trans (ptS_no HOk.out HT.out z0 ha)
      have h3:ze=3:=by have:=HT.out.no z0;injection this with _ h
      subst h3
      go_wp2_with fail
      refine c5.mono ?_
      rintro e w5 ⟨v5,rfl,hO5,hB5⟩
      clear c5
      obtain⟨p5,q5,rfl⟩:=OwnsC.len hO5
      go_wp2
      go_ret2
      rw [HN.out]
      exact⟨_,rfl,World.ownsRow_nil _ _ _ _,chain hB hB5⟩
theorem flat_set (l:List C) (k:Nat) (d:C) (hk:k<l.length):flat (l.set k d)=((flat l).set (k*2) (.int .u32 (d.1.val:Int))).set (k*2+1) (.int .u32 (d.2.val:Int)):=by
 have hL:=flat_length l
 generalize hx:Value.int .u32 (d.1.val:Int)=x
 generalize hy:Value.int .u32 (d.2.val:Int)=y
 refine List.ext_getElem? (fun q=>?_)
 rcases Nat.mod_two_eq_zero_or_one q with hm|hm
 ·obtain⟨j,rfl⟩:∃ j,q=j*2:=⟨q / 2,by omega⟩
  have e0:(((flat l).set (k*2) x).set (k*2+1) y)[j*2]? = ((flat l).set (k*2) x)[j*2]?:=List.getElem?_set_ne (by omega)
  rw [e0,flat_get0]
  by_cases e:k=j
  ·subst e
   have e1:((flat l).set (k*2) x)[k*2]? = some x:=List.getElem?_set_self (by omega)
   rw [e1,List.getElem?_set_self hk,<- hx];rfl
  ·have e1:((flat l).set (k*2) x)[j*2]? = (flat l)[j*2]?:=List.getElem?_set_ne (by omega)
   rw [e1,List.getElem?_set_ne e,flat_get0]
 ·obtain⟨j,rfl⟩:∃ j,q=j*2+1:=⟨q / 2,by omega⟩
  rw [flat_get1]
  by_cases e:k=j
  ·subst e
   have e1:(((flat l).set (k*2) x).set (k*2+1) y)[k*2+1]? = some y:=List.getElem?_set_self (by rw [List.length_set];omega)
   rw [e1,List.getElem?_set_self hk,<- hy];rfl
  ·have e0:(((flat l).set (k*2) x).set (k*2+1) y)[j*2+1]? = ((flat l).set (k*2) x)[j*2+1]?:=List.getElem?_set_ne (by omega)
   have e1:((flat l).set (k*2) x)[j*2+1]? = (flat l)[j*2+1]?:=List.getElem?_set_ne (by omega)
   rw [e0,e1,List.getElem?_set_ne e,flat_get1]
attribute [local go_sem] Oper.semAt_some
attribute [local go_sem] Oper.semAt_some
attribute [local go_sem] Oper.semAt_some
def dnL (s j:Nat) (pre:List Dim):List Nat:=((inS s pre).filter (notI (j:Int))).map (downK j)
def dnN (s j:Nat) (pre:List Dim):Nat:=orAll (dnL s j pre)
theorem dnL_miss {s j:Nat} {pre:List Dim} {x:Dim} (h:s.testBit x.1=false):dnL s j (pre ++ [x])=dnL s j pre:=by rw [dnL,inS_miss h];rfl
theorem dnL_self {s j:Nat} {pre:List Dim} {x:Dim} (h:s.testBit x.1=true) (e:x.1=j):dnL s j (pre ++ [x])=dnL s j pre:=by
 rw [dnL,inS_hit h,List.filter_append]
 have:notI (j:Int) x.1=false:=by simp [notI,e]
 simp [this,dnL]
theorem dnL_hit {s j:Nat} {pre:List Dim} {x:Dim} (h:s.testBit x.1=true) (e:x.1≠j):dnL s j (pre ++ [x])=dnL s j pre ++ [downK j x.1]:=by
 rw [dnL,inS_hit h,List.filter_append]
 have:notI (j:Int) x.1=true:=by simp [notI];omega
 simp [this,dnL]
theorem dnL_lt (s j:Nat) (pre:List Dim):∀ k∈dnL s j pre,k<24:=by
 intro k hk
 obtain⟨x,hx,rfl⟩:=List.mem_map.1 hk
 have:=inS_lt s pre x (List.mem_filter.1 hx).1
 unfold downK;split <;> omega
theorem dnN_all {s j:Nat} {ys:List Dim} (hj:j<24) (h:ys.map Fin.val=List.range 24):dnN s j ys=dropN s (j:Int):=by
 rw [dnN,dnL,inS_all h,dropN,isDimB_nat hj];simp
theorem drop_loop (s j:Nat) (w:World) (hs:s<4294967296) (hj:j<24) :
  Calls Tryz.prog 121 #[.int .u32 s,.int .i64 j] w fun e W'=>e=.returned (.int .u32 (dropN s (j:Int):Nat))/\Below w.heap.size w W':=by
 have h0:isDimB (j:Int)=true:=isDimB_nat hj
 refine (callsIn_wide (n:=4)).1 ?_
 refine callsIn_of_wp_marks Tryz.func121 rfl trivial ?_ rfl
 simp only [Tryz.ntmps121,List.size_toArray,List.length_cons,List.length_nil,Nat.reduceAdd,Nat.reduceSub,Array.replicate_succ,Array.replicate_zero,List.push_toArray,List.append_toArray,List.nil_append,List.cons_append]
 gi_wp2_with (refine⟨trivial,?_⟩;gi_at_call 153;refine (callsIn_wide.2 (isDim_any _ _)).mono ?_;rintro e w' ⟨rfl,rfl⟩;rw [h0])
 have b0:=Boxed.new w 36 (.int .u32 s)
 have b1:=Boxed.new (w.alloc (.cells #[.int .u32 s] 36)) 3 (.int .i64 j)
 have b2:=Boxed.new ((w.alloc (.cells #[.int .u32 s] 36)).alloc (.cells #[.int .i64 j] 3)) 36 (.int .u32 0)
 have hB0:Below w.heap.size w (((w.alloc (.cells #[.int .u32 s] 36)).alloc (.cells #[.int .i64 j] 3)).alloc (.cells #[.int .u32 0] 36)):=(((Below.refl _ w).alloc (Nat.le_refl _) _).alloc (by simp) _).alloc (by simp;omega) _
 simp only [World.size_alloc] at b1 b2
 refine wpIn_rangeFunc_ownG rfl (by omega) (gf:=171) (lb:=#[]) rfl trivial (enters_of Tryz.func171 (by kernel_rfl) rfl)
  (dims_stops 3 (by omega) w.heap.size _) belowK_t (belowK_b (by simp;omega)) (Below.refl _ _) (fun _=>rfl)
  (fun pre W=>(Boxed W w.heap.size 36 (.int .u32 s)/\Boxed W (w.heap.size+1) 3 (.int .i64 j)/\Boxed W (w.heap.size+1+1) 36 (.int .u32 (dnN s j pre:Nat)))/\Below w.heap.size w W)
  (fun _ _ _=>False)
  (OwnFrom.and (OwnFrom.and (Own.from (boxed_own _ _ _) _) (OwnFrom.and (Own.from (boxed_own _ _ _) _) (Own.from (boxed_own _ _ (fun pre=>.int .u32 (dnN s j pre:Nat))) _))) (ownFrom_below (Nat.le_refl _) (by simp;omega)))
  (fun _ _ _ _ _ hs _ _=>hs)
  ⟨⟨(b0.alloc _).alloc _,b1.alloc _,b2⟩,hB0⟩
  (fun x=>{ tmps:=#[.int .u32 s,.int .i64 j,.pointer (some ⟨w.heap.size,0,none⟩),.pointer (some ⟨w.heap.size+1,0,none⟩),.int .u32 0,.pointer (some ⟨w.heap.size+1+1,0,none⟩),.int .i64 ((x.1:Nat):Int),.int .i64 j,.bool true,.bool false,undef,undef,.int .i64 ((x.1:Nat):Int),undef,undef,undef,undef,undef,undef,undef,undef,undef,undef,undef,undef,undef,undef,undef,undef,undef,undef,undef,undef,undef,undef],defers:=[] }) ?assign ?body ?done ?stop
 case assign =>
  intro l x W K hK
  gi_wp2
  exact hK
 case body =>
  rintro l pre x W ⟨⟨hb0,hb1,hb2⟩,hB⟩ hlt
  have hc0:=hb0.cell
  have hc1:=hb1.cell
  have hc2:=hb2.cell
  have hf2:=hb2.frozen
  have hx:=x.2
  have hy:dnN s j pre<16777216:=orAll_lt (dnL_lt s j pre)
  have hy':dnN s j pre<4294967296:=by omega
  clear h0
  by_cases hb:s.testBit x.1=true
  ·have hh:hasB s ((x.1:Nat):Int)=true:=by rw [hasB_nat hx];exact hb
   by_cases he:x.1=j
   ·have HU:Hid (dnL s j (pre ++ [x])=dnL s j pre):=dnL_self hb he
    have hq:(((x.1:Nat):Int) == (j:Int))=true:=by simp [he]
    have HQ:Hid (x.1=j):=he
    clear hb he
    gi_wp2_with (refine⟨trivial,?_⟩;gi_at_call 104;refine (CallsIn.inRound l (callsIn_wide.2 (has_any _ _ _ hs))).mono ?_;rintro e w' ⟨rfl,rfl⟩;rw [hh])
    exact⟨KeepsFrom.refl _ _,Below.refl _ _,⟨hb0,hb1,by unfold dnN;rw [HU.out];exact hb2⟩,hB⟩
   ·have hq:(((x.1:Nat):Int) == (j:Int))=false:=by simp;omega
    have HU:Hid (dnL s j (pre ++ [x])=dnL s j pre ++ [downK j x.1]):=dnL_hit hb he
    have HQ:Hid (x.1≠j):=he
    clear hb he
    by_cases hlo:((x.1:Nat):Int) < (j:Int)
    ·have HW:Hid (withN (dnN s j pre) ((x.1:Nat):Int)=dnN s j (pre ++ [x])):=by
      show withN (dnN s j pre) _=_
      unfold dnN
      have e:downK j x.1=x.1:=by simp [downK];omega
      rw [HU.out,e]
      exact withN_orAll (dnL_lt s j pre) hx
     gi_wp2_with (first
      | (refine⟨trivial,?_⟩;gi_at_call 104;refine (CallsIn.inRound l (callsIn_wide.2 (has_any _ _ _ hs))).mono ?_;rintro e w' ⟨rfl,rfl⟩;rw [hh])
      | (refine⟨trivial,?_⟩;gi_at_call 149;refine (CallsIn.inRound l (callsIn_wide.2 (with_any _ _ _ hy'))).mono ?_;rintro e w' ⟨rfl,rfl⟩))
     refine⟨(KeepsOthers.setCell _ _ _).from _,(Below.refl _ _).setCell (p:=⟨w.heap.size+1+1,0,none⟩) (by simp;omega) _,⟨hb0.other (by omega) _,hb1.other (by omega) _,?_⟩,hB.setCell (p:=⟨w.heap.size+1+1,0,none⟩) (by simp;omega) _⟩
     rw [<- HW.out];exact hb2.set _
    ·have hpos:1<=((x.1:Nat):Int):=by have:=HQ.out;omega
     have HW:Hid (withN (dnN s j pre) (((x.1:Nat):Int) - 1)=dnN s j (pre ++ [x])):=by
      show withN (dnN s j pre) _=_
      unfold dnN
      have e:downK j x.1=x.1 - 1:=by simp [downK];omega
      have e2:((x.1:Nat):Int) - 1=((x.1 - 1:Nat):Int):=by omega
      rw [HU.out,e,e2]
      exact withN_orAll (dnL_lt s j pre) (by omega)
     gi_wp2_with (first
      | (refine⟨trivial,?_⟩;gi_at_call 104;refine (CallsIn.inRound l (callsIn_wide.2 (has_any _ _ _ hs))).mono ?_;rintro e w' ⟨rfl,rfl⟩;rw [hh])
      | (refine⟨trivial,?_⟩;gi_at_call 149;refine (CallsIn.inRound l (callsIn_wide.2 (with_any _ _ _ hy'))).mono ?_;rintro e w' ⟨rfl,rfl⟩))
     refine⟨(KeepsOthers.setCell _ _ _).from _,(Below.refl _ _).setCell (p:=⟨w.heap.size+1+1,0,none⟩) (by simp;omega) _,⟨hb0.other (by omega) _,hb1.other (by omega) _,?_⟩,hB.setCell (p:=⟨w.heap.size+1+1,0,none⟩) (by simp;omega) _⟩
     rw [<- HW.out];exact hb2.set _
  ·have hb:s.testBit x.1=false:=by simpa using hb
   have hh:hasB s ((x.1:Nat):Int)=false:=by rw [hasB_nat hx];exact hb
   have HU:Hid (dnL s j (pre ++ [x])=dnL s j pre):=dnL_miss hb
   clear hb
   gi_wp2_with (refine⟨trivial,?_⟩;gi_at_call 104;refine (CallsIn.inRound l (callsIn_wide.2 (has_any _ _ _ hs))).mono ?_;rintro e w' ⟨rfl,rfl⟩;rw [hh])
   exact⟨KeepsFrom.refl _ _,Below.refl _ _,⟨hb0,hb1,by unfold dnN;rw [HU.out];exact hb2⟩,hB⟩
 case done =>
  rintro D ys W hD hys ⟨⟨hb0,hb1,hb2⟩,hB⟩ hK
  rw [dnN_all hj hys] at hb2
  have hc2:=hb2.cell
  gi_wp2
  refine⟨by simp,.inl ⟨_,_,rfl,run_takeDeferred hK,?_⟩⟩
  exact⟨_,results_tmp rfl _ _ _,rfl,hB.trans (belowK_b (w:=w) (Nat.le_refl _) W D _ _ (by simp at hD;omega) hK rfl rfl)⟩
 case stop =>
  rintro D c pre W _ _ h _
  exact h.elim
theorem drop_any (s:Nat) (i:Int) (w:World) (hs:s<4294967296) :
  Calls Tryz.prog 121 #[.int .u32 s,.int .i64 i] w fun e W'=>e=.returned (.int .u32 (dropN s i:Nat))/\Below w.heap.size w W':=by
 by_cases hd:isDimB i=true
 ·have h':0<=i/\i<24:=by simpa [isDimB] using hd
  obtain⟨j,rfl⟩:=Int.eq_ofNat_of_zero_le h'.1
  exact drop_loop s j w hs (by omega)
 ·have hd:isDimB i=false:=by simpa using hd
  have H:Hid (bits BinOp.and IntKind.u32 (s:Int) 16777215=((dropN s i:Nat):Int)):=(and_low s hs).trans (by simp [dropN,hd])
  go_enter Tryz.func121,Tryz.ntmps121
  go_wp2_with (go_at_call 153;refine (isDim_any _ _).mono ?_;rintro e w' ⟨rfl,rfl⟩;rw [hd])
  go_ret
  exact⟨ret_int H.out,((Below.refl _ _).alloc (Nat.le_refl _) _).alloc (by simp) _⟩
end Go.Proofs.YtblbhmnahoiecaaGreat
