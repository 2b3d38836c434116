/- A part of the proof. -/
import Derived.Test.YtblbhmnahoiecaaGreatHYOkD
set_option linter.unusedVariables false
set_option linter.unusedSimpArgs false
set_option maxRecDepth 100000
set_option maxHeartbeats 8000000
namespace Go.Proofs.YtblbhmnahoiecaaGreat
open Go.RowKit
attribute [local go_sem] Oper.semAt_some
def AlC (V:Int) (D:Nat) (o:Bool) (N:Nat):Prop:=∀ (t:Tm) (bv bd g off:Nat) (ra:Option Addr) (rc:Nat) (ka:Option Addr) (kc:Nat) (sa:Option Addr) (sc:Nat) (w:World),
 Cs6 w g off t ra rc ka kc sa sc->TmTop Tt w t ra rc ka kc sa sc->blk t<=N->bv+blk t<=100000->bd+blk t<=100000 ->
 Calls Tryz.prog 136 #[.agg #[.int .i64 V,.int .i64 (D:Int),.bool o],.pointer (some ⟨g,off,none⟩),.agg #[.int .i64 (bv:Int),.int .i64 (bd:Int)]] w fun e w'=>e=.returned (.bool (okT o V D t bv bd))/\Below w.heap.size w w'
theorem box_res (w:World) (V D:Int) (o:Bool) (bv bd:Int):∃ w2,w2=((w.alloc (.cells #[.int .i64 V,.int .i64 D,.bool o] 101)).alloc (.cells #[.int .i64 bv,.int .i64 bd] 144)).alloc (.cells #[.bool false] 4)/\Below w.heap.size w w2/\w2.heap.size=w.heap.size+3 /\
  w2.heap[w.heap.size]? = some (.cells #[.int .i64 V,.int .i64 D,.bool o] 101 (0,0))/\w2.heap[w.heap.size+1]? = some (.cells #[.int .i64 bv,.int .i64 bd] 144 (0,0))/\w2.heap[w.heap.size+2]? = some (.cells #[.bool false] 4 (0,0)):=by
 obtain⟨w1,h1,b1,s1,m1,m2⟩:=box_outs w V D o bv bd
 refine⟨w1.alloc (.cells #[.bool false] 4),by rw [h1],bchain b1 (belowA _ _),by simp [s1],?_,?_,?_⟩
 ·exact (Below.heap_alloc _ _ _ (by omega)).trans m1
 ·exact (Below.heap_alloc _ _ _ (by omega)).trans m2
 ·have:=heapNew w1 (.cells #[.bool false] 4);rwa [s1] at this
theorem cells1 {w:World} {x:Nat} {a:Value} {ty:TypeId} (h:w.heap[x]? = some (.cells #[a] ty (0,0))):w.cell? ⟨x,0,none⟩=some a/\w.frozen? ⟨x,0,none⟩=false:=by
 refine⟨?_,?_⟩
 ·unfold World.cell?; simp [h]
 ·unfold World.frozen?; simp [h]
theorem node_eq (o:Bool) (V:Int) (D:Nat) (t:Tm) (bv bd:Nat):t.node o V D bv bd=((o || decide (bd+D<=24)) && decide ((t.kids.length:Int)=kidsK t.kind) && (numB o V bv t.kind t.n && nameB t.kind t.name && rowB o (D+bd) t.kind t.r) && (t.sys.map fun b=>(b.1,b.2.length)).all (brB o (D+bd) t.kind)):=by
 unfold Tm.node nodeB
 simp only [Bool.and_assoc]
def AlI (o:Bool) (V:Int) (D:Nat) (t:Tm) (bv bd:Nat) (w4:World) (s s3:Nat) (k:Nat) (W:World):Prop :=
 (∀ j p,j<k->t.pts[j]? = some p->okT o V D p.1 (bv+p.2.1) (bd+p.2.2)=true)/\Kn (fun q=>q<w4.heap.size/\q≠s3/\q≠s+2) w4 W/\W.heap[s+2]? = some (.cells #[.bool false] 4 (0,0))
def AlX (o:Bool) (V:Int) (D:Nat) (t:Tm) (bv bd:Nat) (w4:World) (s s3:Nat) (W:World):Prop :=
 Kn (fun q=>q<w4.heap.size/\q≠s3/\q≠s+2) w4 W/\W.heap[s+2]? = some (.cells #[.bool false] 4 (0,0))/\okT o V D t bv bd=false
theorem AlI.keep {o:Bool} {V:Int} {D:Nat} {t:Tm} {bv bd:Nat} {w4:World} {s s3:Nat} (hs:s+2<w4.heap.size/\s+2≠s3):∀ k W1 W2,AlI o V D t bv bd w4 s s3 k W1->Kn (fun g=>g<w4.heap.size/\g≠s3) W1 W2->AlI o V D t bv bd w4 s s3 k W2 :=
 fun k W1 W2 ⟨a,b,c⟩ h=>⟨a,b.trans (h.sub fun q hq=>⟨hq.1,hq.2.1⟩),(h.block (s+2) hs (Array.getElem?_eq_some_iff.1 c).1).trans c⟩
theorem AlX.keep {o:Bool} {V:Int} {D:Nat} {t:Tm} {bv bd:Nat} {w4:World} {s s3:Nat} (hs:s+2<w4.heap.size/\s+2≠s3):∀ W1 W2,AlX o V D t bv bd w4 s s3 W1->Kn (fun g=>g<w4.heap.size/\g≠s3) W1 W2->AlX o V D t bv bd w4 s s3 W2 :=
 fun W1 W2 ⟨b,c,a⟩ h=>⟨b.trans (h.sub fun q hq=>⟨hq.1,hq.2.1⟩),(h.block (s+2) hs (Array.getElem?_eq_some_iff.1 c).1).trans c,a⟩
theorem allW {w3 w4:World} {b0 b1:Value} {p:Option Addr} {x y:Nat} {o1 o2:Obj} (hw:w4=(w3.alloc (.cells #[b0,b1] 144)).alloc (.cells #[.pointer p] 119)) (h1:w3.heap[x]? = some o1) (h2:w3.heap[y]? = some o2) :
  Below w3.heap.size w3 w4/\w4.heap.size=w3.heap.size+2/\w4.heap[x]? = some o1/\w4.heap[y]? = some o2/\w4.heap[w3.heap.size]? = some (.cells #[b0,b1] 144 (0,0))/\w4.heap[w3.heap.size+1]? = some (.cells #[.pointer p] 119 (0,0)):=by
 have b:Below w3.heap.size w3 w4:=by rw [hw];exact bchain (belowA _ _) (belowA _ _)
 refine⟨b,by rw [hw];simp,(b.block x (Array.getElem?_eq_some_iff.1 h1).1).trans h1,(b.block y (Array.getElem?_eq_some_iff.1 h2).1).trans h2,?_,?_⟩
 ·rw [hw];exact (Below.heap_alloc _ _ _ (by simp)).trans (heapNew w3 _)
 ·rw [hw];have:=heapNew (w3.alloc (.cells #[b0,b1] 144)) (.cells #[.pointer p] 119);rwa [World.size_alloc] at this
theorem allows_step (V:Int) (D:Nat) (o:Bool) (hD:D<=24) (N:Nat) (IH:AlC V D o N):AlC V D o (N+1):=by
  intro t bv bd g off ra rc ka kc sa sc w h6 ht hN hbv hbd
  have hpos:=blk_pos t
  obtain⟨w2,hw2,hb2,s2,m1,m2,m3⟩:=box_res w V D o bv bd
  have HO:Hid (_=_):=ok_eq o V D t bv bd
  rw [node_eq] at HO
  have c6:=h6.blw hb2
  have t6:=ht.blw hb2
  obtain⟨f1,hf1⟩:∃ f,f=(numB o V bv t.kind t.n && nameB t.kind t.name && rowB o (D+bd) t.kind t.r):=⟨_,rfl⟩
  obtain⟨f2,hf2⟩:∃ f,f=(t.sys.map fun b=>(b.1,b.2.length)).all (brB o (D+bd) t.kind):=⟨_,rfl⟩
  obtain⟨kk,hkk⟩:∃ k,k=kidsK t.kind:=⟨_,rfl⟩
  obtain⟨L,hL⟩:∃ L,L=t.kids.length:=⟨_,rfl⟩
  have H1:Hid (∀ u:Cw w2,Calls Tryz.prog 179 #[.agg #[.int .i64 V,.int .i64 (D:Int),.bool o],.pointer (some ⟨g,off,none⟩),.agg #[.int .i64 (bv:Int),.int .i64 (bd:Int)]] u.1 fun e w'=>e=.returned (.bool f1)/\∃ u':Cw w2,w'=u'.1):=fun u=>cw_call u (by rw [hf1];exact fields_any V D o bv bd g off t ra rc ka kc sa sc u.1 (c6.blw u.2) (t6.blw u.2) (by omega) hD (by omega) (by omega))
  have H2:Hid (∀ u:Cw w2,Calls Tryz.prog 180 #[.agg #[.int .i64 V,.int .i64 (D:Int),.bool o],.pointer (some ⟨g,off,none⟩),.agg #[.int .i64 (bv:Int),.int .i64 (bd:Int)]] u.1 fun e w'=>e=.returned (.bool f2)/\∃ u':Cw w2,w'=u'.1):=fun u=>cw_call u (by rw [hf2];exact system_any V D o bv bd g off t ra rc ka kc sa sc u.1 (c6.blw u.2) (t6.blw u.2) (by omega) hD (by omega) (by omega))
  have H0:Hid (∀ u:Cw w2,Calls Tryz.prog 178 #[.int .i64 t.kind] u.1 fun e w'=>e=.returned (.int .i64 kk)/\∃ u':Cw w2,w'=u'.1):=fun u=>cw_call u (by rw [hkk];exact (kids_any t.kind u.1).mono fun e w' ⟨a,b⟩=>⟨a,by rw [b];exact Below.refl _ _⟩)
  rw [<- hf1,<- hf2,<- hkk,<- hL] at HO
  have x0:∀ u:Cw w2,u.1.cell? ⟨w.heap.size,0,none⟩=some (.int .i64 V):=fun u=>(cells3 ((u.2.block _ (by omega)).trans m1)).1
  have x1:∀ u:Cw w2,u.1.cell? ⟨w.heap.size,1,none⟩=some (.int .i64 (D:Int)):=fun u=>(cells3 ((u.2.block _ (by omega)).trans m1)).2.1
  have x2:∀ u:Cw w2,u.1.cell? ⟨w.heap.size,2,none⟩=some (.bool o):=fun u=>(cells3 ((u.2.block _ (by omega)).trans m1)).2.2
  have y0:∀ u:Cw w2,u.1.cell? ⟨w.heap.size+1,0,none⟩=some (.int .i64 (bv:Int)):=fun u=>(cells2 ((u.2.block _ (by omega)).trans m2)).1
  have y1:∀ u:Cw w2,u.1.cell? ⟨w.heap.size+1,1,none⟩=some (.int .i64 (bd:Int)):=fun u=>(cells2 ((u.2.block _ (by omega)).trans m2)).2
  have k0:∀ u:Cw w2,u.1.cell? ⟨g,off,none⟩=some (.int .i64 t.kind):=fun u=>(c6.blw u.2).c0
  have k4:∀ u:Cw w2,u.1.cell? ⟨g,off+4,none⟩=some (.slice ka L kc):=fun u=>by rw [hL];exact (c6.blw u.2).c4
  have z:=fun u:Cw w2=>cells1 ((u.2.block _ (by omega)).trans m3)
  have x1':=x1 ⟨w2,Below.refl _ _⟩
  have x2':=x2 ⟨w2,Below.refl _ _⟩
  have y1':=y1 ⟨w2,Below.refl _ _⟩
  have z1':=(z ⟨w2,Below.refl _ _⟩).1
  have z2':=(z ⟨w2,Below.refl _ _⟩).2
  dsimp only at x1' x2' y1' z1' z2'
  have hne:=cw_any w2
  have HW:Hid (_=_):=hw2
  have HLL:Hid (L=t.kids.length):=hL
  clear hw2 hf1 hf2 hkk hL
  have sb:∀ (u:World),w2.heap.size<=u.heap.size->Below w.heap.size u (u.setCell ⟨w.heap.size+2,0,none⟩ (.bool false)):=fun u _=>(Below.refl _ _).setCell (p:=⟨w.heap.size+2,0,none⟩) (by show _<=w.heap.size+2;omega) _
  by_cases hopen:o=false/\24<bd+D
  . obtain⟨rfl,hgt⟩:=hopen
    have g1:((24:Int) - (D:Int) < (bd:Int)):=by omega
    have Hf:Hid (okT false V D t bv bd=false):=by
      show _=_
      rw [HO.out,show decide (bd+D<=24)=false by simp;omega];simp
    clear x0 x1 x2 y0 y1 k0 k4 H0 H1 H2 HO
    go_enter Tryz.func136,Tryz.ntmps136
    go_upto_region 1 with fail
    rw [<- HW.out]
    simp only [Nat.add_assoc,Nat.reduceAdd]
    go_wp2
    exact bodyPost_ret (v:=.bool false) (by simp [results,Tryz.results136,go_sem,z1']) rfl ⟨ret_bool Hf.out.symm,hb2.trans (sb _ (Nat.le_refl _))⟩
  . have hnb:(!o && decide ((24:Int) - (D:Int) < (bd:Int)))=false:=by
      cases o with
      | true=>rfl
      | false => have h2 : ¬ 24 < bd + D := fun h => hopen ⟨rfl, h⟩
                 simp;omega
    have Hob:Hid ((o || decide (bd+D<=24))=true):=by
      show _=_
      cases o with
      | true=>rfl
      | false => have h2 : ¬ 24 < bd + D := fun h => hopen ⟨rfl, h⟩
                 simp;omega
    rw [Hob.out] at HO
    clear hopen
    have early:∀ fl:Bool,fl=false->True:=fun _ _=>trivial
    by_cases hlk:(L:Int)=kk
    . have q1:((L:Int) != kk)=false:=by simpa using hlk
      rw [decide_eq_true hlk] at HO
      cases f1 with
      | false =>
        have Hf:Hid (okT o V D t bv bd=false):=by show _=_;rw [HO.out];simp
        clear early
        go_enter Tryz.func136,Tryz.ntmps136
        go_upto_region 1 with fail
        rw [<- HW.out]
        simp only [Nat.add_assoc,Nat.reduceAdd]
        cases o with
        | true =>
          go_wp2_with fail
          refine wp_region_cw (by kernel_rfl) (by kernel_rfl) ?_
          repeat (first | go_big_quiet_step (fail) | quiet_step (fail))
          first | go_big_quiet_step (exact H0.out _) | quiet_step (exact H0.out _)
          repeat (first | go_big_quiet_step (fail) | quiet_step (fail))
          first | go_big_quiet_step (exact H1.out _) | quiet_step (exact H1.out _)
          repeat (first | go_big_quiet_step (fail) | quiet_step (fail))
          refine wpQuiet_nil ?_
          rintro _ ⟨u,rfl⟩
          have z1:=(z u).1
          have z2:=(z u).2
          obtain⟨w5,hb5⟩:=u
          dsimp only at z1 z2 ⊢
          have hal:=bchain hb2 hb5
          have sb5:=sb w5 hb5.size
          clear x0 x1 x2 y0 y1 k0 k4 hne H0 H1 H2 x1' x2' y1' z1' z2' z sb
          go_wp2
          exact bodyPost_ret (v:=.bool false) (by simp [results,Tryz.results136,go_sem,z1]) rfl ⟨ret_bool Hf.out.symm,hal.trans sb5⟩
        | false =>
          have gg:decide ((24:Int) - (D:Int) < (bd:Int))=false:=by simpa using hnb
          go_wp2_with fail
          refine wp_region_cw (by kernel_rfl) (by kernel_rfl) ?_
          repeat (first | go_big_quiet_step (fail) | quiet_step (fail))
          first | go_big_quiet_step (exact H0.out _) | quiet_step (exact H0.out _)
          repeat (first | go_big_quiet_step (fail) | quiet_step (fail))
          first | go_big_quiet_step (exact H1.out _) | quiet_step (exact H1.out _)
          repeat (first | go_big_quiet_step (fail) | quiet_step (fail))
          refine wpQuiet_nil ?_
          rintro _ ⟨u,rfl⟩
          have z1:=(z u).1
          have z2:=(z u).2
          obtain⟨w5,hb5⟩:=u
          dsimp only at z1 z2 ⊢
          have hal:=bchain hb2 hb5
          have sb5:=sb w5 hb5.size
          clear x0 x1 x2 y0 y1 k0 k4 hne H0 H1 H2 x1' x2' y1' z1' z2' z sb
          go_wp2
          exact bodyPost_ret (v:=.bool false) (by simp [results,Tryz.results136,go_sem,z1]) rfl ⟨ret_bool Hf.out.symm,hal.trans sb5⟩
      | true =>
        cases f2 with
        | false =>
          have Hf:Hid (okT o V D t bv bd=false):=by show _=_;rw [HO.out];simp
          clear early
          go_enter Tryz.func136,Tryz.ntmps136
          go_upto_region 1 with fail
          rw [<- HW.out]
          simp only [Nat.add_assoc,Nat.reduceAdd]
          cases o with
          | true =>
            go_wp2_with fail
            refine wp_region_cw (by kernel_rfl) (by kernel_rfl) ?_
            repeat (first | go_big_quiet_step (fail) | quiet_step (fail))
            first | go_big_quiet_step (exact H0.out _) | quiet_step (exact H0.out _)
            repeat (first | go_big_quiet_step (fail) | quiet_step (fail))
            first | go_big_quiet_step (exact H1.out _) | quiet_step (exact H1.out _)
            repeat (first | go_big_quiet_step (fail) | quiet_step (fail))
            first | go_big_quiet_step (exact H2.out _) | quiet_step (exact H2.out _)
            repeat (first | go_big_quiet_step (fail) | quiet_step (fail))
            refine wpQuiet_nil ?_
            rintro _ ⟨u,rfl⟩
            have z1:=(z u).1
            have z2:=(z u).2
            obtain⟨w5,hb5⟩:=u
            dsimp only at z1 z2 ⊢
            have hal:=bchain hb2 hb5
            have sb5:=sb w5 hb5.size
            clear x0 x1 x2 y0 y1 k0 k4 hne H0 H1 H2 x1' x2' y1' z1' z2' z sb
            go_wp2
            exact bodyPost_ret (v:=.bool false) (by simp [results,Tryz.results136,go_sem,z1]) rfl ⟨ret_bool Hf.out.symm,hal.trans sb5⟩
          | false =>
            have gg:decide ((24:Int) - (D:Int) < (bd:Int))=false:=by simpa using hnb
            go_wp2_with fail
            refine wp_region_cw (by kernel_rfl) (by kernel_rfl) ?_
            repeat (first | go_big_quiet_step (fail) | quiet_step (fail))
            first | go_big_quiet_step (exact H0.out _) | quiet_step (exact H0.out _)
            repeat (first | go_big_quiet_step (fail) | quiet_step (fail))
            first | go_big_quiet_step (exact H1.out _) | quiet_step (exact H1.out _)
            repeat (first | go_big_quiet_step (fail) | quiet_step (fail))
            first | go_big_quiet_step (exact H2.out _) | quiet_step (exact H2.out _)
            repeat (first | go_big_quiet_step (fail) | quiet_step (fail))
            refine wpQuiet_nil ?_
            rintro _ ⟨u,rfl⟩
            have z1:=(z u).1
            have z2:=(z u).2
            obtain⟨w5,hb5⟩:=u
            dsimp only at z1 z2 ⊢
            have hal:=bchain hb2 hb5
            have sb5:=sb w5 hb5.size
            clear x0 x1 x2 y0 y1 k0 k4 hne H0 H1 H2 x1' x2' y1' z1' z2' z sb
            go_wp2
            exact bodyPost_ret (v:=.bool false) (by simp [results,Tryz.results136,go_sem,z1]) rfl ⟨ret_bool Hf.out.symm,hal.trans sb5⟩
        | true =>
          have HA:Hid (okT o V D t bv bd=t.pts.all fun p=>okT o V D p.1 (bv+p.2.1) (bd+p.2.2)):=by show _=_;rw [HO.out];simp
          clear HO early Hob
          refine (callsIn_wide (n:=4)).1 ?_
          refine callsIn_of_wp_marks Tryz.func136 rfl trivial ?_ rfl
          simp only [Tryz.ntmps136,List.size_toArray,List.length_cons,List.length_nil,Nat.reduceAdd,Nat.reduceSub,Array.replicate_succ,Array.replicate_zero,List.push_toArray,List.append_toArray,List.nil_append,List.cons_append]
          refine wpIn_wide.2 ?_
          go_upto_region 1 with fail
          rw [<- HW.out]
          simp only [Nat.add_assoc,Nat.reduceAdd]
          cases o with
          | true =>
            go_wp2_with fail
            refine wp_region_cw (by kernel_rfl) (by kernel_rfl) ?_
            repeat (first | go_big_quiet_step (fail) | quiet_step (fail))
            first | go_big_quiet_step (exact H0.out _) | quiet_step (exact H0.out _)
            repeat (first | go_big_quiet_step (fail) | quiet_step (fail))
            first | go_big_quiet_step (exact H1.out _) | quiet_step (exact H1.out _)
            repeat (first | go_big_quiet_step (fail) | quiet_step (fail))
            first | go_big_quiet_step (exact H2.out _) | quiet_step (exact H2.out _)
            repeat (first | go_big_quiet_step (fail) | quiet_step (fail))
            refine wpQuiet_nil ?_
            rintro _ ⟨u,rfl⟩
            have z1:=(z u).1
            have z2:=(z u).2
            have v0:=y0 u
            have v1:=y1 u
            have q0:=x0 u
            have q1:=x1 u
            have q2:=x2 u
            obtain⟨w3,hb3⟩:=u
            dsimp only at z1 z2 v0 v1 q0 q1 q2 ⊢
            clear x0 x1 x2 y0 y1 k0 k4 hne H0 H1 H2 x1' x2' y1' z1' z2' z sb
            have cP:=parts_any (bv:Int) (bd:Int) (some ⟨g,off,none⟩) w3
            go_wp2_with fail
            refine cP.mono ?_
            rintro e w4 ⟨rfl,hw4⟩
            clear cP
            have n1:=(hb3.block _ (by omega)).trans m1
            have n3:=(hb3.block _ (by omega)).trans m3
            obtain⟨b4,sz4,p1,p3,pb,pp⟩:=allW hw4 n1 n3
            have hb4:=bchain (bchain hb2 hb3) b4
            have hs3:w.heap.size+3<=w3.heap.size:=by have:=hb3.size;omega
            have H4:Hid (_=_):=hw4
            clear hw4 n1 n3 z1 z2 v0 v1 q0 q1 q2
            go_wp2_with fail
            obtain⟨s3,hs3e⟩:∃ s3,s3=w3.heap.size:=⟨_,rfl⟩
            simp only [<- hs3e] at pb pp sz4 hs3 ⊢
            obtain⟨s,hse⟩:∃ s,s=w.heap.size:=⟨_,rfl⟩
            have ht4:TmTop (fun q=>q<s) w4 t ra rc ka kc sa sc:=by rw [hse];exact ht.lo.keep hb4.size (fun _ h=>h) (fun q _ hs=>hb4.block q hs)
            have hg4:g<s:=by rw [hse];exact h6.lt
            have h64:=h6.blw hb4
            simp only [<- hse] at p1 p3 hs3 ⊢
            have HB:Hid (Below s w w4):=by rw [hse];exact hb4
            have Hse:Hid (s=w.heap.size):=hse
            clear hs3e hse hb4 b4 hb3 hb2 m1 m2 m3 s2 c6 t6
            refine (wpIn_wide (n:=4)).1 ?_
            refine range_own (n:=4) (by omega) rfl (enters_of Tryz.func229 (by kernel_rfl) rfl) (PartA (fun q=>q<s) w4 t bv bd) t.pts.length s3 (s+2) (by omega) (by omega)
              (parts_iter 3 (by omega) (fun q=>q<s) t bv bd (s3+1) s3 (s+2) g off ra rc ka kc sa sc w4 h64 ht4 (fun q hq=>⟨by omega,by omega⟩) hg4 pp pb (by omega) (by omega) (by omega) (by omega) (by omega) (by omega) (by omega))
              (fun k args hA=>by obtain⟨_,_,_,_,_,_,_,_,_,_,rfl,_⟩:=hA;rfl)
              (AlI true V D t bv bd w4 s s3) (AlX true V D t bv bd w4 s s3) (AlI.keep (by omega)) (AlX.keep (by omega)) ⟨fun j p hj=>by omega,Kn.refl _ _,p3⟩ ?round ?done ?stop
            case round =>
              intro l k args W hk hA hI hl1 hl2
              obtain⟨p,pg,poff,ra1,rc1,ka1,kc1,sa1,sc1,hp,rfl,hpg,p6,pt⟩:=hA
              have hmem:=List.mem_of_getElem? hp
              have hbp:=blk_pts hmem
              have hpl:=pts_le hmem
              gi_wp2
              refine⟨(Kn.refl _ _).alloc _,fun W2 hK2=>?_⟩
              have hI2:=hI
              obtain⟨hI1,hKw,hres⟩:=hI
              have hWs:w4.heap.size<=W.heap.size:=hKw.size
              have kk2:Kn (fun q=>q<w4.heap.size/\q≠s3/\q≠s+2) w4 W2:=hKw.trans (((Kn.refl (fun q=>q<w4.heap.size/\q≠s3/\q≠s+2) W).alloc _).trans (hK2.sub fun q h=>by omega))
              have r2:W2.heap[s+2]? = some (.cells #[.bool false] 4 (0,0)):=(hK2.block (s+2) (by omega) (by simp;omega)).trans ((Below.heap_alloc _ _ _ (by omega)).trans hres)
              have o2:W2.heap[s]? = some (.cells #[.int .i64 V,.int .i64 (D:Int),.bool true] 101 (0,0)):=(kk2.block s ⟨by omega,by omega,by omega⟩ (by omega)).trans p1
              have x2:W2.heap[W.heap.size]? = some (.cells #[.int .i64 ((bv+p.2.1:Nat):Int),.int .i64 ((bd+p.2.2:Nat):Int)] 144 (0,0)):=(hK2.block W.heap.size (by omega) (by simp)).trans (heapNew W _)
              obtain⟨o20,o21,o22⟩:=cells3 o2
              obtain⟨x20,x21⟩:=cells2 x2
              obtain⟨r20,r21⟩:=cells1 r2
              have cI:=IH p.1 (bv+p.2.1) (bd+p.2.2) pg poff ra1 rc1 ka1 kc1 sa1 sc1 W2 (p6.kn kk2 ⟨by omega,by omega,by omega⟩) ((pt.kn kk2 (fun q hq=>⟨by omega,by omega,by omega⟩)).tt) (by omega) (by omega) (by omega)
              have hW2s:w4.heap.size<=W2.heap.size:=kk2.size
              clear o2 x2 p6 pt hK2
              obtain⟨y1,hy1⟩:∃ y,y=bv+p.2.1:=⟨_,rfl⟩
              obtain⟨y2,hy2⟩:∃ y,y=bd+p.2.2:=⟨_,rfl⟩
              rw [<- hy1,<- hy2] at cI
              rw [<- hy1] at x20
              rw [<- hy2] at x21
              have HP:Hid (∀ b:Bool,okT true V D p.1 y1 y2=b->okT true V D p.1 (bv+p.2.1) (bd+p.2.2)=b):=fun b h=>by rw [<- hy1,<- hy2];exact h
              have Hy1:Hid (y1=bv+p.2.1):=hy1
              have Hy2:Hid (y2=bd+p.2.2):=hy2
              clear hy1 hy2
              clear Hy1 Hy2
              cases hok:okT true V D p.1 y1 y2 with
              | true =>
                rw [hok] at cI
                have hok2:=HP.out true hok
                clear HP hok
                gi_wp2_with (refine⟨trivial,?_⟩;gi_at_call 136;refine (CallsIn.inRound l (callsIn_wide.2 cI)).mono ?_;rintro e w' ⟨rfl,hbb⟩)
                refine⟨Kn.of_below hbb,fun j q hj hq=>?_,kk2.trans (Kn.of_below hbb),(hbb.block (s+2) (by omega)).trans r2⟩
                rcases Nat.lt_or_ge j k with h|h
                . exact hI1 j q h hq
                . obtain rfl:j=k:=by omega
                  rw [hp] at hq;cases hq;exact hok2
              | false =>
                rw [hok] at cI
                have hok2:=HP.out false hok
                clear HP hok
                gi_wp2_with (refine⟨trivial,?_⟩;gi_at_call 136;refine (CallsIn.inRound l (callsIn_wide.2 cI)).mono ?_;rintro e w' ⟨rfl,hbb⟩;have r30:=(cells1 ((hbb.block (s+2) (by omega)).trans r2)).1;have r31:=(cells1 ((hbb.block (s+2) (by omega)).trans r2)).2;have hb3:=(hbb.block (s+2) (by omega)).trans r2)
                refine⟨(Kn.of_below hbb).setCell (p:=⟨s+2,0,none⟩) (.inl fun h=>h rfl) _,(kk2.trans (Kn.of_below hbb)).trans ((Kn.refl _ _).setCell (p:=⟨s+2,0,none⟩) (.inl fun h=>h.2.2 rfl) _),Boxed.set (t:=4) _ hb3,?_⟩
                rw [HA.out,List.all_eq_false]
                exact⟨p,hmem,by simp [hok2]⟩
            case done =>
              intro D' W hD' hI hK
              obtain⟨hI1,hKw,hres⟩:=hI
              obtain⟨r20,r21⟩:=cells1 hres
              have hok:okT true V D t bv bd=true:=by
                rw [HA.out,List.all_eq_true]
                intro p hp
                obtain⟨j,hj⟩:=List.mem_iff_getElem?.1 hp
                exact hI1 j p (some_lt hj) hj
              have hDl:D' < W.heap.size:=(Array.getElem?_eq_some_iff.1 hK).1
              have hws:=hKw.size
              have HBW:Hid (Below s w W):=HB.out.trans (hKw.below (fun q hq=>⟨by omega,by omega,by omega⟩) (by omega))
              go_wp2
              have hK5:=(Below.heap_setCell W ⟨s+2,0,none⟩ (.bool true) D' (by show D'≠s+2;omega)).trans hK
              refine⟨by simp,.inl ⟨_,_,rfl,run_takeDeferred hK5,?_⟩⟩
              have c9:((W.setCell ⟨s+2,0,none⟩ (.bool true)).putObj D' (.deferred none)).cell? ⟨s+2,0,none⟩=some (.bool true):=(cells1 (((kn_put _).block (s+2) (by omega) (by simp [World.setCell];omega)).trans (Boxed.set (t:=4) (.bool true) hres))).1
              refine⟨.bool true,by simp only [results,Tryz.results136];simp [go_sem,c9],ret_bool hok.symm,?_⟩
              rw [<- Hse.out]
              exact (HBW.out.setCell (p:=⟨s+2,0,none⟩) (by show s<=s+2;omega) _).trans ((kn_put (W:=W.setCell ⟨s+2,0,none⟩ (.bool true)) (l:=D') (.deferred none)).below (fun q hq=>by omega) (by simp [World.setCell];omega))
            case stop =>
              intro D' W hD' hX hK
              obtain⟨hKw,hres,hok⟩:=hX
              have hDl:D' < W.heap.size:=(Array.getElem?_eq_some_iff.1 hK).1
              have hws:=hKw.size
              have HBW:Hid (Below s w W):=HB.out.trans (hKw.below (fun q hq=>⟨by omega,by omega,by omega⟩) (by omega))
              gi_wp2
              refine⟨by simp,.inl ⟨_,_,rfl,run_takeDeferred hK,?_⟩⟩
              have c9:(W.putObj D' (.deferred none)).cell? ⟨s+2,0,none⟩=some (.bool false):=(cells1 (((kn_put _).block (s+2) (by omega) (by omega)).trans hres)).1
              refine⟨.bool false,by simp only [results,Tryz.results136];simp [go_sem,c9],ret_bool hok.symm,?_⟩
              rw [<- Hse.out]
              exact HBW.out.trans ((kn_put (W:=W) (l:=D') (.deferred none)).below (fun q hq=>by omega) (by omega))
          | false =>
            have gg:decide ((24:Int) - (D:Int) < (bd:Int))=false:=by simpa using hnb
            go_wp2_with fail
            refine wp_region_cw (by kernel_rfl) (by kernel_rfl) ?_
            repeat (first | go_big_quiet_step (fail) | quiet_step (fail))
            first | go_big_quiet_step (exact H0.out _) | quiet_step (exact H0.out _)
            repeat (first | go_big_quiet_step (fail) | quiet_step (fail))
            first | go_big_quiet_step (exact H1.out _) | quiet_step (exact H1.out _)
            repeat (first | go_big_quiet_step (fail) | quiet_step (fail))
            first | go_big_quiet_step (exact H2.out _) | quiet_step (exact H2.out _)
            repeat (first | go_big_quiet_step (fail) | quiet_step (fail))
            refine wpQuiet_nil ?_
            rintro _ ⟨u,rfl⟩
            have z1:=(z u).1
            have z2:=(z u).2
            have v0:=y0 u
            have v1:=y1 u
            have q0:=x0 u
            have q1:=x1 u
            have q2:=x2 u
            obtain⟨w3,hb3⟩:=u
            dsimp only at z1 z2 v0 v1 q0 q1 q2 ⊢
            clear x0 x1 x2 y0 y1 k0 k4 hne H0 H1 H2 x1' x2' y1' z1' z2' z sb
            have cP:=parts_any (bv:Int) (bd:Int) (some ⟨g,off,none⟩) w3
            go_wp2_with fail
            refine cP.mono ?_
            rintro e w4 ⟨rfl,hw4⟩
            clear cP
            have n1:=(hb3.block _ (by omega)).trans m1
            have n3:=(hb3.block _ (by omega)).trans m3
            obtain⟨b4,sz4,p1,p3,pb,pp⟩:=allW hw4 n1 n3
            have hb4:=bchain (bchain hb2 hb3) b4
            have hs3:w.heap.size+3<=w3.heap.size:=by have:=hb3.size;omega
            have H4:Hid (_=_):=hw4
            clear hw4 n1 n3 z1 z2 v0 v1 q0 q1 q2
            go_wp2_with fail
            obtain⟨s3,hs3e⟩:∃ s3,s3=w3.heap.size:=⟨_,rfl⟩
            simp only [<- hs3e] at pb pp sz4 hs3 ⊢
            obtain⟨s,hse⟩:∃ s,s=w.heap.size:=⟨_,rfl⟩
            have ht4:TmTop (fun q=>q<s) w4 t ra rc ka kc sa sc:=by rw [hse];exact ht.lo.keep hb4.size (fun _ h=>h) (fun q _ hs=>hb4.block q hs)
            have hg4:g<s:=by rw [hse];exact h6.lt
            have h64:=h6.blw hb4
            simp only [<- hse] at p1 p3 hs3 ⊢
            have HB:Hid (Below s w w4):=by rw [hse];exact hb4
            have Hse:Hid (s=w.heap.size):=hse
            clear hs3e hse hb4 b4 hb3 hb2 m1 m2 m3 s2 c6 t6
            refine (wpIn_wide (n:=4)).1 ?_
            refine range_own (n:=4) (by omega) rfl (enters_of Tryz.func229 (by kernel_rfl) rfl) (PartA (fun q=>q<s) w4 t bv bd) t.pts.length s3 (s+2) (by omega) (by omega)
              (parts_iter 3 (by omega) (fun q=>q<s) t bv bd (s3+1) s3 (s+2) g off ra rc ka kc sa sc w4 h64 ht4 (fun q hq=>⟨by omega,by omega⟩) hg4 pp pb (by omega) (by omega) (by omega) (by omega) (by omega) (by omega) (by omega))
              (fun k args hA=>by obtain⟨_,_,_,_,_,_,_,_,_,_,rfl,_⟩:=hA;rfl)
              (AlI false V D t bv bd w4 s s3) (AlX false V D t bv bd w4 s s3) (AlI.keep (by omega)) (AlX.keep (by omega)) ⟨fun j p hj=>by omega,Kn.refl _ _,p3⟩ ?round ?done ?stop
            case round =>
              intro l k args W hk hA hI hl1 hl2
              obtain⟨p,pg,poff,ra1,rc1,ka1,kc1,sa1,sc1,hp,rfl,hpg,p6,pt⟩:=hA
              have hmem:=List.mem_of_getElem? hp
              have hbp:=blk_pts hmem
              have hpl:=pts_le hmem
              gi_wp2
              refine⟨(Kn.refl _ _).alloc _,fun W2 hK2=>?_⟩
              have hI2:=hI
              obtain⟨hI1,hKw,hres⟩:=hI
              have hWs:w4.heap.size<=W.heap.size:=hKw.size
              have kk2:Kn (fun q=>q<w4.heap.size/\q≠s3/\q≠s+2) w4 W2:=hKw.trans (((Kn.refl (fun q=>q<w4.heap.size/\q≠s3/\q≠s+2) W).alloc _).trans (hK2.sub fun q h=>by omega))
              have r2:W2.heap[s+2]? = some (.cells #[.bool false] 4 (0,0)):=(hK2.block (s+2) (by omega) (by simp;omega)).trans ((Below.heap_alloc _ _ _ (by omega)).trans hres)
              have o2:W2.heap[s]? = some (.cells #[.int .i64 V,.int .i64 (D:Int),.bool false] 101 (0,0)):=(kk2.block s ⟨by omega,by omega,by omega⟩ (by omega)).trans p1
              have x2:W2.heap[W.heap.size]? = some (.cells #[.int .i64 ((bv+p.2.1:Nat):Int),.int .i64 ((bd+p.2.2:Nat):Int)] 144 (0,0)):=(hK2.block W.heap.size (by omega) (by simp)).trans (heapNew W _)
              obtain⟨o20,o21,o22⟩:=cells3 o2
              obtain⟨x20,x21⟩:=cells2 x2
              obtain⟨r20,r21⟩:=cells1 r2
              have cI:=IH p.1 (bv+p.2.1) (bd+p.2.2) pg poff ra1 rc1 ka1 kc1 sa1 sc1 W2 (p6.kn kk2 ⟨by omega,by omega,by omega⟩) ((pt.kn kk2 (fun q hq=>⟨by omega,by omega,by omega⟩)).tt) (by omega) (by omega) (by omega)
              have hW2s:w4.heap.size<=W2.heap.size:=kk2.size
              clear o2 x2 p6 pt hK2
              obtain⟨y1,hy1⟩:∃ y,y=bv+p.2.1:=⟨_,rfl⟩
              obtain⟨y2,hy2⟩:∃ y,y=bd+p.2.2:=⟨_,rfl⟩
              rw [<- hy1,<- hy2] at cI
              rw [<- hy1] at x20
              rw [<- hy2] at x21
              have HP:Hid (∀ b:Bool,okT false V D p.1 y1 y2=b->okT false V D p.1 (bv+p.2.1) (bd+p.2.2)=b):=fun b h=>by rw [<- hy1,<- hy2];exact h
              have Hy1:Hid (y1=bv+p.2.1):=hy1
              have Hy2:Hid (y2=bd+p.2.2):=hy2
              clear hy1 hy2
              clear Hy1 Hy2
              cases hok:okT false V D p.1 y1 y2 with
              | true =>
                rw [hok] at cI
                have hok2:=HP.out true hok
                clear HP hok
                gi_wp2_with (refine⟨trivial,?_⟩;gi_at_call 136;refine (CallsIn.inRound l (callsIn_wide.2 cI)).mono ?_;rintro e w' ⟨rfl,hbb⟩)
                refine⟨Kn.of_below hbb,fun j q hj hq=>?_,kk2.trans (Kn.of_below hbb),(hbb.block (s+2) (by omega)).trans r2⟩
                rcases Nat.lt_or_ge j k with h|h
                . exact hI1 j q h hq
                . obtain rfl:j=k:=by omega
                  rw [hp] at hq;cases hq;exact hok2
              | false =>
                rw [hok] at cI
                have hok2:=HP.out false hok
                clear HP hok
                gi_wp2_with (refine⟨trivial,?_⟩;gi_at_call 136;refine (CallsIn.inRound l (callsIn_wide.2 cI)).mono ?_;rintro e w' ⟨rfl,hbb⟩;have r30:=(cells1 ((hbb.block (s+2) (by omega)).trans r2)).1;have r31:=(cells1 ((hbb.block (s+2) (by omega)).trans r2)).2;have hb3:=(hbb.block (s+2) (by omega)).trans r2)
                refine⟨(Kn.of_below hbb).setCell (p:=⟨s+2,0,none⟩) (.inl fun h=>h rfl) _,(kk2.trans (Kn.of_below hbb)).trans ((Kn.refl _ _).setCell (p:=⟨s+2,0,none⟩) (.inl fun h=>h.2.2 rfl) _),Boxed.set (t:=4) _ hb3,?_⟩
                rw [HA.out,List.all_eq_false]
                exact⟨p,hmem,by simp [hok2]⟩
            case done =>
              intro D' W hD' hI hK
              obtain⟨hI1,hKw,hres⟩:=hI
              obtain⟨r20,r21⟩:=cells1 hres
              have hok:okT false V D t bv bd=true:=by
                rw [HA.out,List.all_eq_true]
                intro p hp
                obtain⟨j,hj⟩:=List.mem_iff_getElem?.1 hp
                exact hI1 j p (some_lt hj) hj
              have hDl:D' < W.heap.size:=(Array.getElem?_eq_some_iff.1 hK).1
              have hws:=hKw.size
              have HBW:Hid (Below s w W):=HB.out.trans (hKw.below (fun q hq=>⟨by omega,by omega,by omega⟩) (by omega))
              go_wp2
              have hK5:=(Below.heap_setCell W ⟨s+2,0,none⟩ (.bool true) D' (by show D'≠s+2;omega)).trans hK
              refine⟨by simp,.inl ⟨_,_,rfl,run_takeDeferred hK5,?_⟩⟩
              have c9:((W.setCell ⟨s+2,0,none⟩ (.bool true)).putObj D' (.deferred none)).cell? ⟨s+2,0,none⟩=some (.bool true):=(cells1 (((kn_put _).block (s+2) (by omega) (by simp [World.setCell];omega)).trans (Boxed.set (t:=4) (.bool true) hres))).1
              refine⟨.bool true,by simp only [results,Tryz.results136];simp [go_sem,c9],ret_bool hok.symm,?_⟩
              rw [<- Hse.out]
              exact (HBW.out.setCell (p:=⟨s+2,0,none⟩) (by show s<=s+2;omega) _).trans ((kn_put (W:=W.setCell ⟨s+2,0,none⟩ (.bool true)) (l:=D') (.deferred none)).below (fun q hq=>by omega) (by simp [World.setCell];omega))
            case stop =>
              intro D' W hD' hX hK
              obtain⟨hKw,hres,hok⟩:=hX
              have hDl:D' < W.heap.size:=(Array.getElem?_eq_some_iff.1 hK).1
              have hws:=hKw.size
              have HBW:Hid (Below s w W):=HB.out.trans (hKw.below (fun q hq=>⟨by omega,by omega,by omega⟩) (by omega))
              gi_wp2
              refine⟨by simp,.inl ⟨_,_,rfl,run_takeDeferred hK,?_⟩⟩
              have c9:(W.putObj D' (.deferred none)).cell? ⟨s+2,0,none⟩=some (.bool false):=(cells1 (((kn_put _).block (s+2) (by omega) (by omega)).trans hres)).1
              refine⟨.bool false,by simp only [results,Tryz.results136];simp [go_sem,c9],ret_bool hok.symm,?_⟩
              rw [<- Hse.out]
              exact HBW.out.trans ((kn_put (W:=W) (l:=D') (.deferred none)).below (fun q hq=>by omega) (by omega))
    . have q1:((L:Int) != kk)=true:=by simpa using hlk
      have Hf:Hid (okT o V D t bv bd=false):=by show _=_;rw [HO.out,decide_eq_false hlk];simp
      clear early
      go_enter Tryz.func136,Tryz.ntmps136
      go_upto_region 1 with fail
      rw [<- HW.out]
      simp only [Nat.add_assoc,Nat.reduceAdd]
      cases o with
      | true =>
        go_wp2_with fail
        refine wp_region_cw (by kernel_rfl) (by kernel_rfl) ?_
        repeat (first | go_big_quiet_step (fail) | quiet_step (fail))
        first | go_big_quiet_step (exact H0.out _) | quiet_step (exact H0.out _)
        repeat (first | go_big_quiet_step (fail) | quiet_step (fail))
        refine wpQuiet_nil ?_
        rintro _ ⟨u,rfl⟩
        have z1:=(z u).1
        have z2:=(z u).2
        obtain⟨w5,hb5⟩:=u
        dsimp only at z1 z2 ⊢
        have hal:=bchain hb2 hb5
        have sb5:=sb w5 hb5.size
        clear x0 x1 x2 y0 y1 k0 k4 hne H0 H1 H2 x1' x2' y1' z1' z2' z sb
        go_wp2
        exact bodyPost_ret (v:=.bool false) (by simp [results,Tryz.results136,go_sem,z1]) rfl ⟨ret_bool Hf.out.symm,hal.trans sb5⟩
      | false =>
        have gg:decide ((24:Int) - (D:Int) < (bd:Int))=false:=by simpa using hnb
        go_wp2_with fail
        refine wp_region_cw (by kernel_rfl) (by kernel_rfl) ?_
        repeat (first | go_big_quiet_step (fail) | quiet_step (fail))
        first | go_big_quiet_step (exact H0.out _) | quiet_step (exact H0.out _)
        repeat (first | go_big_quiet_step (fail) | quiet_step (fail))
        refine wpQuiet_nil ?_
        rintro _ ⟨u,rfl⟩
        have z1:=(z u).1
        have z2:=(z u).2
        obtain⟨w5,hb5⟩:=u
        dsimp only at z1 z2 ⊢
        have hal:=bchain hb2 hb5
        have sb5:=sb w5 hb5.size
        clear x0 x1 x2 y0 y1 k0 k4 hne H0 H1 H2 x1' x2' y1' z1' z2' z sb
        go_wp2
        exact bodyPost_ret (v:=.bool false) (by simp [results,Tryz.results136,go_sem,z1]) rfl ⟨ret_bool Hf.out.symm,hal.trans sb5⟩
theorem allows_any (V:Int) (D:Nat) (o:Bool) (hD:D<=24) (N:Nat):AlC V D o N:=by
 induction N with
 | zero=>intro t bv bd g off ra rc ka kc sa sc w _ _ h;have:=blk_pos t;omega
 | succ N ih=>exact allows_step V D o hD N ih
end Go.Proofs.YtblbhmnahoiecaaGreat
