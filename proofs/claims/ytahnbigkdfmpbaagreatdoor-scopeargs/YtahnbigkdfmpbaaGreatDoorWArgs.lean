/- The walk of ScopeArgs. -/
import Derived.Test.YtahnbigkdfmpbaaGreatDoorIZN
set_option linter.unusedVariables false
set_option linter.unusedSimpArgs false
namespace Go.Proofs.YtahnbigkdfmpbaaGreatDoor
open Go.RowKit
theorem wpList_addZ {w:World} {ops:Array Oper} {rest:List Oper} {o:Oper} {a:Act} {Q:Exit→Act→World→Prop} (hgd:o.guard=none) (x y:Operand) (ho:o.op=.binOp .add 9 x y 9)
  (A B S:ByteArray) (hx:a.eval x=.string A) (hy:a.eval y=.string B) (hS:∀ w,(Op.stringOp .add A B).run Tryz.prog w=.ok (.string S) w)
  (h:wpList Tryz.prog ops Q rest (a.put o.dst (.string S)) w):wpList Tryz.prog ops Q (o :: rest) a w:=by
 refine wpList_plain hgd fun K hK'=>?_
 unfold Oper.wp
 have e:(binOp .add 9 (.string A) (.string B)).run Tryz.prog w=.ok (.string S) w:=by rw [binOp_string_add];exact hS w
 simp [execOp,ho,hx,hy,eqGuard,e,Result.andThen]
 exact hK' _ _ h
theorem add_asZ {a b c:Bs} (h:a++b=c) (hl:c.length≤100000000) (w:World):(Op.stringOp .add (bs a) (bs b)).run Tryz.prog w=.ok (.string (bs c)) w:=by
 subst h
 have z:(bs a).size+(bs b).size=(a++b).length:=by rw [bs_size,bs_size,List.length_append]
 rw [run_string_add_sum w _ _ (by omega)]
 have e:bs a++bs b=bs (a++b):=by
  rw [← bs_tl (bs a++bs b)]
  congr 1
  try simp [tl,bs]
 rw [e]
theorem nms_row (w W:World) (ns:List Bs) (cs:Array Value) (hcs:cs.toList=ns.map fun x=>Value.string (bs x)) (hW:W=w.alloc (.cells cs 9)):NmS W.heap.size W ns (.slice (some ⟨w.heap.size,0,none⟩) ns.length ns.length):=by
 refine⟨_,_,rfl,Nat.le_refl _,fun j x hx=>⟨w.heap.size,0,rfl,by rw [hW];simp,?_⟩⟩
 rw [Nat.zero_add,hW]
 exact new_cell w cs 9 _ j (.string (bs x)) rfl (by rw [hcs,List.getElem?_map,hx];rfl)
theorem wd_num (a:Int):∃ z:Nat,z<4∧wrap64 ((IntKind.u64.wrap a).tmod 4)=(z:Int):=by
 have h0:0≤IntKind.u64.wrap a:=by
  simp [IntKind.wrap,IntKind.bits,IntKind.signed]
  omega
 generalize IntKind.u64.wrap a=b at h0
 have h1:b.tmod 4=b % 4:=Int.tmod_eq_emod_of_nonneg h0
 refine⟨(b % 4).toNat,by omega,?_⟩
 rw [h1]
 simp [wrap64]
 omega
theorem kid_snd {ok:Nat→Prop} {w:World} {k:Nat} {a b:Tm} {v0 v1 v2 v3 v5:Value} {g off n c:Nat} (h:TmIn ok w (tmK k [a,b]) (.agg #[v0,v1,v2,v3,.slice (some ⟨g,off,none⟩) n c,v5])):w.cell? ⟨g,off+6+1,none⟩=some (.int .i64 (b.n:Nat)):=by
 obtain⟨ra,rc,qa,qc,sa,sc,e,_,h2,_⟩:=h.form
 simp only [Value.agg.injEq,Array.mk.injEq,List.cons.injEq,Value.slice.injEq,and_true,true_and] at e
 obtain⟨_,_,_,_,⟨rfl,_,_⟩,_⟩:=e
 obtain⟨a',cap',e,_,hl⟩:=h2
 injection e with e1 e2 e3
 subst e1
 obtain⟨g',off',u0,u1,u2,u3,u4,u5,e,hg,hgl,hT,c0,c1,_⟩:=hl 1 b rfl
 injection e with e
 injection e with e4 e5
 subst e4 e5
 obtain⟨_,_,_,_,_,_,e,_⟩:=hT.form
 simp only [Value.agg.injEq,Array.mk.injEq,List.cons.injEq,and_true] at e
 obtain⟨rfl,rfl,_⟩:=e
 exact c1
set_option maxRecDepth 100000 in
set_option maxHeartbeats 8000000 in
theorem walk_ScopeArgs (a:Int) (ha:(Lit.int .i64 a).wf=true) (W:World) (hT:Tabs W):Calls Tryz.prog 5 #[.int .i64 a] W fun e w'=>e=.returned (.bool true)∧Below W.heap.size W w':=by
 have cW:=worksZ_any W hT
 have HT:Hid (Tabs W):=hT
 clear hT ha
 obtain⟨z,hz4,hz⟩:=wd_num a
 obtain⟨wd,k,F,hF⟩:=wd_all z hz4
 obtain⟨hl,hv⟩:=List.getElem?_eq_some_iff.1 hF
 have hzi:(z:Int) < 4:=by omega
 have hwl:=F.len
 have HF:Hid (WdF wd k∧wd.length≤6):=⟨F,hwl⟩
 have ad1:∀ w,(Op.stringOp .add (bs wd) (⟨#[32,120]⟩)).run Tryz.prog w=.ok (.string (bs (wd ++ [32,120]))) w:=add_asZ (a:=wd) (b:=[32,120]) rfl (by simp;omega)
 have ad2:∀ w,(Op.stringOp .add (bs wd) (⟨#[32,120,32,121]⟩)).run Tryz.prog w=.ok (.string (bs (wd ++ [32,120,32,121]))) w:=add_asZ (a:=wd) (b:=[32,120,32,121]) rfl (by simp;omega)
 have ad3:∀ w,(Op.stringOp .add (⟨#[102,32]⟩) (bs wd)).run Tryz.prog w=.ok (.string (bs (102 :: 32 :: wd))) w:=add_asZ (a:=[102,32]) (b:=wd) rfl (by simp;omega)
 clear F hF hwl
 go_enter Tryz.func5,Tryz.ntmps5
 go_wp2_with fail
 refine cW.mono ?_
 rintro e w1 ⟨rfl,h01⟩
 clear cW
 obtain⟨v1,hv1⟩:∃ v,v=w1.alloc (.cells #[.string ⟨#[102,115,116]⟩,.string ⟨#[115,110,100]⟩,.string ⟨#[83,117,115,112]⟩,.string ⟨#[117,110,103,108,117,101]⟩] 9):=⟨_,rfl⟩
 obtain⟨v2,hv2⟩:∃ v,v=v1.alloc (.cells #[.string ⟨#[120]⟩,.string ⟨#[121]⟩] 9):=⟨_,rfl⟩
 obtain⟨v3,hv3⟩:∃ v,v=v2.alloc (.cells #[.slice none 0 0,.slice (some ⟨w1.heap.size+1,0,none⟩) 2 2,.slice none 0 0] 32):=⟨_,rfl⟩
 have f1:Below w1.heap.size w1 v1:=by rw [hv1];exact below_alloc _ _
 have f2:Below v1.heap.size v1 v2:=by rw [hv2];exact below_alloc _ _
 have f3:Below v2.heap.size v2 v3:=by rw [hv3];exact below_alloc _ _
 have sv1:v1.heap.size=w1.heap.size+1:=by rw [hv1];simp
 have sv2:v2.heap.size=w1.heap.size+1+1:=by rw [hv2];simp [sv1]
 have sv3:v3.heap.size=w1.heap.size+1+1+1:=by rw [hv3];simp [sv2]
 have n2:=nms_row v1 v2 [[120],[121]] #[.string ⟨#[120]⟩,.string ⟨#[121]⟩] rfl hv2
 rw [sv1] at n2
 have n3:=(n2.keep f3).up f3.size
 have B3:Below W.heap.size W v3:=((h01.trans (f1.mono h01.size)).trans (f2.mono (by have:=h01.size;omega))).trans (f3.mono (by have:=h01.size;omega))
 have m0:v3.cell? ⟨w1.heap.size+1+1,0,none⟩=some (.slice none 0 0):=by rw [hv3,← sv2];simp [go_sem]
 have m1:v3.cell? ⟨w1.heap.size+1+1,1,none⟩=some (.slice (some ⟨w1.heap.size+1,0,none⟩) 2 2):=by rw [hv3,← sv2];simp [go_sem]
 have m2:v3.cell? ⟨w1.heap.size+1+1,2,none⟩=some (.slice none 0 0):=by rw [hv3,← sv2];simp [go_sem]
 obtain⟨F,hwl⟩:=HF.out
 obtain⟨T1,ha1,hn1,hb1,hk1,hr1⟩:=F.one
 have o1:=of_any PN call_few 10 (by omega) (bs (wd ++ [32,120])) T1 [] [[120],[121]] [] none (some ⟨w1.heap.size+1,0,none⟩) none 0 2 0 v3 (HT.out.below B3) (by rw [bs_size];simp;unfold maxLen;omega) (by rw [tl_bs];exact ha1) (nms_nil _ _) n3 (nms_nil _ _) hn1 hb1 hk1 (by simp) (by simp) (by simp) (by simp) (by simp) (by simp) rfl (by decide) rfl _ hr1 (by simp)
 have K0:Hid (v1=_∧v2=_∧v3=_∧v3.heap.size=w1.heap.size+1+1+1∧NmS v3.heap.size v3 [[120],[121]] (.slice (some ⟨w1.heap.size+1,0,none⟩) 2 2)∧Below W.heap.size W v3∧v3.cell? ⟨w1.heap.size+1+1,0,none⟩=some (.slice none 0 0)∧v3.cell? ⟨w1.heap.size+1+1,1,none⟩=some (.slice (some ⟨w1.heap.size+1,0,none⟩) 2 2)∧v3.cell? ⟨w1.heap.size+1+1,2,none⟩=some (.slice none 0 0)):=⟨hv1,hv2,hv3,sv3,n3,B3,m0,m1,m2⟩
 rw [hv3,hv2,hv1] at o1
 clear hv1 hv2 hv3 f1 f2 f3 sv1 sv2 sv3 n2 n3 B3 m0 m1 m2 F hwl ha1 hn1 hb1 hk1 hr1 h01
 go_wp2_with (refine wpList_addZ rfl _ _ rfl (bs wd) (⟨#[32,120]⟩) (bs (wd ++ [32,120])) rfl rfl ad1 ?_)
 refine o1.mono ?_
 rintro e q1 ⟨hb1,va,rfl,hm1⟩
 obtain⟨hv1,hv2,hv3,sv3,n3,B3,m0,m1,m2⟩:=K0.out
 rw [← hv1,← hv2,← hv3] at hb1
 obtain⟨ra,rc,qa,qc,sa,sc,rfl⟩:=formK hm1 (k:Nat) rfl 1 rfl
 obtain⟨u1,hu1⟩:∃ u,u=q1.alloc (.cells #[.int .i64 (k:Nat),.int .i64 0,.string ⟨#[]⟩,.slice ra 0 rc,.slice qa 1 qc,.slice sa 0 sc] 37):=⟨_,rfl⟩
 have b1:Below q1.heap.size q1 u1:=by rw [hu1];exact below_alloc _ _
 have t1:Tx u1 q1.heap.size (.int .i64 (k:Nat)) (.int .i64 0) (.string ⟨#[]⟩) (.slice ra 0 rc) (.slice qa 1 qc) (.slice sa 0 sc):=by rw [hu1];exact tx_new _ _ _ _ _ _ _
 have E01:Below v3.heap.size v3 u1:=hb1.trans (b1.mono hb1.size)
 have B1:Below W.heap.size W u1:=B3.trans (E01.mono B3.size)
 have M1:=hm1.blw b1
 have m0:=(E01.cell (p:=⟨w1.heap.size+1+1,0,none⟩) (by show w1.heap.size+1+1<_;omega)).trans m0
 have m1:=(E01.cell (p:=⟨w1.heap.size+1+1,1,none⟩) (by show w1.heap.size+1+1<_;omega)).trans m1
 have m2:=(E01.cell (p:=⟨w1.heap.size+1+1,2,none⟩) (by show w1.heap.size+1+1<_;omega)).trans m2
 obtain⟨F,hwl⟩:=HF.out
 obtain⟨T2,ha2,hn2,hb2,hk2,hr2⟩:=F.two
 have o2:=of_any PN call_few 10 (by omega) (bs (wd ++ [32,120,32,121])) T2 [] [[120],[121]] [] none (some ⟨w1.heap.size+1,0,none⟩) none 0 2 0 u1 (HT.out.below B1) (by rw [bs_size];simp;unfold maxLen;omega) (by rw [tl_bs];exact ha2) (nms_nil _ _) ((n3.keep E01).up E01.size) (nms_nil _ _) hn2 hb2 hk2 (by simp) (by simp) (by simp) (by simp) (by simp) (by simp) rfl (by decide) rfl _ hr2 (by simp)
 have K1:Hid (u1=_∧Tx u1 q1.heap.size (.int .i64 (k:Nat)) (.int .i64 0) (.string ⟨#[]⟩) (.slice ra 0 rc) (.slice qa 1 qc) (.slice sa 0 sc)∧TmIn _ u1 (tmK k [.mk 1 0 [] [] [] []]) (.agg #[.int .i64 (k:Nat),.int .i64 0,.string ⟨#[]⟩,.slice ra 0 rc,.slice qa 1 qc,.slice sa 0 sc])∧Below W.heap.size W u1∧u1.heap.size=q1.heap.size+1):=⟨hu1,t1,M1,B1,by rw [hu1];simp⟩
 rw [hu1] at o2 m0 m1 m2
 clear hv1 hv2 hv3 sv3 n3 B3 hb1 hm1 o1 hu1 b1 t1 E01 B1 M1 F hwl ha2 hn2 hb2 hk2 hr2
 go_wp2_with (refine wpList_addZ rfl _ _ rfl (bs wd) (⟨#[32,120,32,121]⟩) (bs (wd ++ [32,120,32,121])) rfl rfl ad2 ?_)
 refine o2.mono ?_
 rintro e q2 ⟨hb2,vb,rfl,hm2⟩
 obtain⟨hu1,t1,M1,B1,su1⟩:=K1.out
 rw [← hu1] at hb2
 obtain⟨rb,rbc,qb,qbc,sb,sbc,rfl⟩:=formK hm2 6 rfl 2 rfl
 obtain⟨u2,hu2⟩:∃ u,u=q2.alloc (.cells #[.int .i64 6,.int .i64 0,.string ⟨#[]⟩,.slice rb 0 rbc,.slice qb 2 qbc,.slice sb 0 sbc] 37):=⟨_,rfl⟩
 have b2:Below q2.heap.size q2 u2:=by rw [hu2];exact below_alloc _ _
 have t2:Tx u2 q2.heap.size (.int .i64 6) (.int .i64 0) (.string ⟨#[]⟩) (.slice rb 0 rbc) (.slice qb 2 qbc) (.slice sb 0 sbc):=by rw [hu2];exact tx_new _ _ _ _ _ _ _
 have su2:u2.heap.size=q2.heap.size+1:=by rw [hu2];simp
 have E12:Below u1.heap.size u1 u2:=hb2.trans (b2.mono hb2.size)
 have B2:Below W.heap.size W u2:=B1.trans (E12.mono B1.size)
 have M2:=hm2.blw b2
 obtain⟨v4,hv4⟩:∃ v,v=u2.alloc (.cells #[.string ⟨#[102]⟩] 9):=⟨_,rfl⟩
 have f4:Below u2.heap.size u2 v4:=by rw [hv4];exact below_alloc _ _
 have n4:=nms_row u2 v4 [[102]] #[.string ⟨#[102]⟩] rfl hv4
 have B4:Below W.heap.size W v4:=B2.trans (f4.mono B2.size)
 obtain⟨F,hwl⟩:=HF.out
 obtain⟨T3,ha3,hn3,hb3,hk3,hr3⟩:=F.few
 have o3:=of_any PN call_few 10 (by omega) (bs (102 :: 32 :: wd)) T3 [] [[102]] [] none (some ⟨u2.heap.size,0,none⟩) none 0 1 0 v4 (HT.out.below B4) (by rw [bs_size];simp;unfold maxLen;omega) (by rw [tl_bs];exact ha3) (nms_nil _ _) n4 (nms_nil _ _) hn3 hb3 hk3 (by simp) (by simp) (by simp) (by simp) (by simp) (by simp) rfl (by decide) rfl _ hr3 (by simp)
 have K2:Hid (u2=_∧v4=_∧Tx u2 q2.heap.size (.int .i64 6) (.int .i64 0) (.string ⟨#[]⟩) (.slice rb 0 rbc) (.slice qb 2 qbc) (.slice sb 0 sbc)∧TmIn _ u2 (tmK 6 [tmK k [.mk 1 0 [] [] [] []],.mk 1 1 [] [] [] []]) (.agg #[.int .i64 6,.int .i64 0,.string ⟨#[]⟩,.slice rb 0 rbc,.slice qb 2 qbc,.slice sb 0 sbc])∧Below W.heap.size W v4∧Below u1.heap.size u1 u2∧Below u2.heap.size u2 v4):=⟨hu2,hv4,t2,M2,B4,E12,f4⟩
 rw [su2,hv4,hu2] at o3
 clear hu1 t1 M1 B1 su1 hb2 hm2 o2 hu2 b2 t2 su2 E12 B2 M2 hv4 f4 n4 B4 F hwl ha3 hn3 hb3 hk3 hr3 m0 m1 m2
 go_wp2_with (refine wpList_addZ rfl _ _ rfl (⟨#[102,32]⟩) (bs wd) (bs (102 :: 32 :: wd)) rfl rfl ad3 ?_)
 refine o3.mono ?_
 rintro e q3 ⟨hb3,rfl⟩
 obtain⟨hu2,hv4,t2,M2,B4,E12,f4⟩:=K2.out
 obtain⟨hu1,t1,M1,B1,su1⟩:=K1.out
 rw [← hu2,← hv4] at hb3
 obtain⟨u3,hu3⟩:∃ u,u=q3.alloc (.cells #[.int .i64 0,.int .i64 0,.string ⟨#[]⟩,.slice none 0 0,.slice none 0 0,.slice none 0 0] 37):=⟨_,rfl⟩
 have b3:Below q3.heap.size q3 u3:=by rw [hu3];exact below_alloc _ _
 have E23:Below u2.heap.size u2 u3:=(f4.trans (hb3.mono f4.size)).trans (b3.mono (Nat.le_trans f4.size hb3.size))
 have D3:Below W.heap.size W u3:=(B4.trans (hb3.mono B4.size)).trans (b3.mono (Nat.le_trans B4.size hb3.size))
 have E13:Below u1.heap.size u1 u3:=E12.trans (E23.mono E12.size)
 have Tx1:=t1.blw E13
 have Tx2:=t2.blw E23
 have N1:=M1.blw E13
 have N2:=M2.blw E23
 obtain⟨g1,f1,r1',rc1,k1,kc1,s1',sc1,rfl,_,hg1,Q1,d0,d1,d2,d3,d4,d5⟩:=kid_of (b:=tmK k [.mk 1 0 [] [] [] []]) (ks:=[.mk 1 1 [] [] [] []]) N2 rfl
 have y1:=kid_snd N2
 have cS:Hid (∀ u:ClsZ u3,Calls Tryz.prog 11 #[.agg #[.int .i64 (k:Nat),.int .i64 0,.string ⟨#[]⟩,.slice r1' 0 rc1,.slice k1 1 kc1,.slice s1' 0 sc1],.agg #[.int .i64 (k:Nat),.int .i64 0,.string ⟨#[]⟩,.slice ra 0 rc,.slice qa 1 qc,.slice sa 0 sc]] u.1 fun e w'=>e=.returned (.bool true)∧∃ u':ClsZ u3,w'=u'.1):=fun u=>clsZ_call u (sameT_any 3 (tmK k [.mk 1 0 [] [] [] []]) _ _ _ _ u.1 ⟨rfl,Nat.zero_le _,(by show (1:Nat)≤_;omega),fun x hx=>by obtain rfl:=List.mem_singleton.1 hx;exact⟨rfl,Nat.zero_le _,Nat.zero_le _,fun y hy=>by cases hy⟩⟩ (Q1.blw u.2) (N1.blw u.2))
 have kc:∀ (u:ClsZ u3) (i:Nat) (v:Value),u3.cell? ⟨g1,i,none⟩=some v→u.1.cell? ⟨g1,i,none⟩=some v:=fun u i v h=>(u.2.cell (p:=⟨g1,i,none⟩) hg1).trans h
 have p0:∀ u:ClsZ u3,u.1.cell? ⟨g1,f1,none⟩=some (.int .i64 (k:Nat)):=fun u=>kc u _ _ d0
 have p1:∀ u:ClsZ u3,u.1.cell? ⟨g1,f1+1,none⟩=some (.int .i64 0):=fun u=>kc u _ _ d1
 have p2:∀ u:ClsZ u3,u.1.cell? ⟨g1,f1+2,none⟩=some (.string ⟨#[]⟩):=fun u=>kc u _ _ d2
 have p3:∀ u:ClsZ u3,u.1.cell? ⟨g1,f1+3,none⟩=some (.slice r1' 0 rc1):=fun u=>kc u _ _ d3
 have p4:∀ u:ClsZ u3,u.1.cell? ⟨g1,f1+4,none⟩=some (.slice k1 1 kc1):=fun u=>kc u _ _ d4
 have p5:∀ u:ClsZ u3,u.1.cell? ⟨g1,f1+5,none⟩=some (.slice s1' 0 sc1):=fun u=>kc u _ _ d5
 have p6:∀ u:ClsZ u3,u.1.cell? ⟨g1,f1+6+1,none⟩=some (.int .i64 1):=fun u=>kc u _ _ y1
 have x0:=fun u:ClsZ u3=>(Tx1.blw u.2).cells.1
 have x1:=fun u:ClsZ u3=>(Tx1.blw u.2).cells.2.1
 have x2:=fun u:ClsZ u3=>(Tx1.blw u.2).cells.2.2.1
 have x3:=fun u:ClsZ u3=>(Tx1.blw u.2).cells.2.2.2.1
 have x4:=fun u:ClsZ u3=>(Tx1.blw u.2).cells.2.2.2.2.1
 have x5:=fun u:ClsZ u3=>(Tx1.blw u.2).cells.2.2.2.2.2
 have y0:=fun u:ClsZ u3=>(Tx2.blw u.2).cells.1
 have y4:=fun u:ClsZ u3=>(Tx2.blw u.2).cells.2.2.2.2.1
 have hne:=clsZ_any u3
 have HU:Hid (u3=_∧Below W.heap.size W u3):=⟨hu3,D3⟩
 clear hu2 hv4 t2 M2 B4 E12 f4 hu1 t1 M1 B1 su1 hb3 hu3 b3 E23 D3 E13 Tx1 Tx2 N1 N2 hg1 Q1 d0 d1 d2 d3 d4 d5 y1 kc o3 K0 K1 K2 ad1 ad2 ad3 HF hz hv hl hzi hz4
 go_wp2_with fail
 rw [← HU.out.1]
 refine wp_region_clsZ (by kernel_rfl) (by kernel_rfl) ?_
 repeat (quiet_step (exact cS.out _))
 refine wpQuiet_nil ?_
 rintro _ ⟨u,rfl⟩
 obtain⟨w5,hb5⟩:=u
 have HB5:Hid (Below W.heap.size W w5):=HU.out.2.trans (hb5.mono HU.out.2.size)
 dsimp only
 clear p0 p1 p2 p3 p4 p5 p6 x0 x1 x2 x3 x4 x5 y0 y4 cS HU hb5 hne
 go_wp2_with fail
 go_ret
 exact⟨rfl,HB5.out⟩
end Go.Proofs.YtahnbigkdfmpbaaGreatDoor
