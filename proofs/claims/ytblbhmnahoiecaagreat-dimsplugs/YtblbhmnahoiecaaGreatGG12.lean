/- What is asked of a node: its name, its row. -/
import Derived.Deep.Cut
import Derived.Lib.Strings
import Derived.Test.YtblbhmnahoiecaaGreatGG8
import Derived.Test.YtblbhmnahoiecaaGreatGG6
set_option linter.unusedVariables false
set_option linter.unusedSimpArgs false
set_option maxRecDepth 100000
set_option maxHeartbeats 8000000
namespace Go.Proofs.YtblbhmnahoiecaaGreat
open Go.RowKit
theorem isEmptyB (s:ByteArray):s.toList.isEmpty=decide (s.size=0):=by
 rw [Lib.toList_data,Bool.eq_iff_iff]
 obtain⟨⟨x⟩⟩:=s
 simp [ByteArray.size]
theorem named_any (g off:Nat) (t:Tm) (w:World) (h0:w.cell? ⟨g,off,none⟩=some (.int .i64 t.kind)) (h2:w.cell? ⟨g,off+2,none⟩=some (.string t.name)) (hl:t.name.size≤1000000) :
  Calls Tryz.prog 225 #[.pointer (some ⟨g,off,none⟩)] w fun e w'=>e=.returned (.bool (nameB t.kind t.name))∧w'=w:=by
 obtain⟨k,hk⟩:∃ k,k=t.kind:=⟨_,rfl⟩
 obtain⟨s,hs⟩:∃ s,s=t.name:=⟨_,rfl⟩
 rw [← hk] at h0 ⊢
 rw [← hs] at h2 hl ⊢
 clear hk hs
 by_cases hk:k=2
 ·subst hk
  have HR:Hid (nameB 2 s=nmB s):=rfl
  go_enter Tryz.func225,Tryz.ntmps225
  go_wp2
  go_loop [20] (fun i=>∃ j:Nat,j≤s.size∧i=.int .i64 j∧nmTo s j) (fun i=>s.size - (intOf i).toNat)
  case atStart=>exact⟨0,Nat.zero_le _,rfl,nmTo_zero s⟩
  case round =>
   obtain⟨j,hj,rfl,hn⟩:=hrel
   by_cases hlt:j<s.size
   ·have cL:=letter_any s[j] w
    have hc:(s[j]).toNat<256:=(s[j]).toNat_lt
    cases hlet:letterU s[j] with
    | true =>
     have HS:Hid (nmTo s (j+1)):=nmTo_step hn hlt (by rw [hlet];rfl)
     rw [hlet] at cL
     go_wp2_with (go_at_call 248;refine cL.mono ?_;rintro e w' ⟨rfl,hw'⟩;subst hw')
     go_round
     case rel=>exact⟨j+1,by omega,by go_num,HS.out⟩
     case measure=>simp [intOf];omega
    | false =>
     rw [hlet] at cL
     by_cases hj0:j=0
     ·have HB:Hid (nmB s=false):=nmB_bad j hlt (by rw [hlet];simp [hj0])
      subst hj0
      go_wp2_with (go_at_call 248;refine cL.mono ?_;rintro e w' ⟨rfl,hw'⟩;subst hw')
      go_ret
      exact⟨ret_bool (by rw [HR.out,HB.out]),rfl⟩
     ·have hj1:((j:Int) == 0)=false:=by simpa using hj0
      cases hd:digitU s[j] with
      | true =>
       have HS:Hid (nmTo s (j+1)):=nmTo_step hn hlt (by rw [hlet,hd];simp;omega)
       unfold digitU at hd
       simp at hd
       have d1:decide (((s[j]).toNat:Int) < 48)=false:=by simp;omega
       have d2:decide ((57:Int) < ((s[j]).toNat:Int))=false:=by simp;omega
       clear hd
       go_wp2_with (go_at_call 248;refine cL.mono ?_;rintro e w' ⟨rfl,hw'⟩;subst hw')
       go_round
       case rel=>exact⟨j+1,by omega,by go_num,HS.out⟩
       case measure=>simp [intOf];omega
      | false =>
       have HB:Hid (nmB s=false):=nmB_bad j hlt (by rw [hlet,hd];simp)
       unfold digitU at hd
       simp at hd
       by_cases d1:((s[j]).toNat:Int) < 48
       ·have d3:decide (((s[j]).toNat:Int) < 48)=true:=by simpa using d1
        clear hd
        go_wp2_with (go_at_call 248;refine cL.mono ?_;rintro e w' ⟨rfl,hw'⟩;subst hw')
        go_ret
        exact⟨ret_bool (by rw [HR.out,HB.out]),rfl⟩
       ·have d2:(57:Int) < ((s[j]).toNat:Int):=by have:=hd (by omega);omega
        have d3:decide (((s[j]).toNat:Int) < 48)=false:=by simpa using d1
        have d4:decide ((57:Int) < ((s[j]).toNat:Int))=true:=by simpa using d2
        clear hd
        go_wp2_with (go_at_call 248;refine cL.mono ?_;rintro e w' ⟨rfl,hw'⟩;subst hw')
        go_ret
        exact⟨ret_bool (by rw [HR.out,HB.out]),rfl⟩
   ·obtain rfl:j=s.size:=by omega
    by_cases hz:s.size=0
    ·have HB:Hid (nmB s=false):=nmB_zero hz
     go_wp2
     go_ret
     exact⟨ret_bool (by rw [HR.out,HB.out,isEmptyB];simp [hz]),rfl⟩
    ·have HB:Hid (nmB s=true):=nmB_true (by omega) hn
     go_wp2
     go_ret
     exact⟨ret_bool (by rw [HR.out,HB.out,isEmptyB];simp [hz]),rfl⟩
 ·have HR:Hid (nameB k s=decide (s.size=0)):=by show _=_;unfold nameB;rw [if_neg hk]
  go_enter Tryz.func225,Tryz.ntmps225
  go_wp2
  go_ret
  exact⟨ret_bool (by rw [HR.out,isEmptyB]),rfl⟩
theorem shr_any (q e:Nat) (hq:q<16777216):Op.shift .shr .u32 (q:Int) .i64 (e:Int)=pure (.int .u32 ((q / 2 ^ e:Nat):Int)):=by
 have h32:q / 2 ^ 32=0:=Nat.div_eq_of_lt (by omega)
 have key:∀ m:Nat,Int.fdiv (q:Int) (2 ^ m)=((q / 2 ^ m:Nat):Int):=fun m=>by
  rw [Int.fdiv_eq_ediv_of_nonneg _ (Int.pow_nonneg (by decide))]
  simp
 have e1:q / 2 ^ (min e 32)=q / 2 ^ e:=by
  rcases Nat.le_total e 32 with h|h
  ·rw [Nat.min_eq_left h]
  ·rw [Nat.min_eq_right h,h32]
   exact (Nat.div_eq_of_lt (Nat.lt_of_lt_of_le (show q<2 ^ 32 by omega) (Nat.pow_le_pow_right (by decide) h))).symm
 rw [← e1,← key]
 simp [Op.shift,IntKind.bits]
 omega
theorem box_outs (w:World) (V D:Int) (o:Bool) (bv bd:Int):∃ w2,w2=(w.alloc (.cells #[.int .i64 V,.int .i64 D,.bool o] 101)).alloc (.cells #[.int .i64 bv,.int .i64 bd] 144)∧Below w.heap.size w w2∧w2.heap.size=w.heap.size+2 ∧
  w2.heap[w.heap.size]? = some (.cells #[.int .i64 V,.int .i64 D,.bool o] 101 (0,0))∧w2.heap[w.heap.size+1]? = some (.cells #[.int .i64 bv,.int .i64 bd] 144 (0,0)):=by
 refine⟨_,rfl,bchain (belowA _ _) (belowA _ _),by simp,(Below.heap_alloc _ _ _ (by simp)).trans (heapNew w _),?_⟩
 have:=heapNew (w.alloc (.cells #[.int .i64 V,.int .i64 D,.bool o] 101)) (.cells #[.int .i64 bv,.int .i64 bd] 144)
 rwa [World.size_alloc] at this
theorem cells3 {w:World} {x:Nat} {a b c:Value} {ty:TypeId} (h:w.heap[x]? = some (.cells #[a,b,c] ty (0,0))):w.cell? ⟨x,0,none⟩=some a∧w.cell? ⟨x,1,none⟩=some b∧w.cell? ⟨x,2,none⟩=some c:=by
 refine⟨?_,?_,?_⟩ <;> (unfold World.cell?; simp [h])
theorem cells2 {w:World} {x:Nat} {a b:Value} {ty:TypeId} (h:w.heap[x]? = some (.cells #[a,b] ty (0,0))):w.cell? ⟨x,0,none⟩=some a∧w.cell? ⟨x,1,none⟩=some b:=by
 refine⟨?_,?_⟩ <;> (unfold World.cell?; simp [h])
theorem reaches_any (V:Int) (D:Nat) (o:Bool) (bv bd:Nat) (r:List C) (v:Value) (w:World) (hv:ClRow Tt w r v) (hl:r.length≤100000) (hD:D≤24) (hb:bd≤1000000) :
  Calls Tryz.prog 228 #[.agg #[.int .i64 V,.int .i64 (D:Int),.bool o],v,.agg #[.int .i64 (bv:Int),.int .i64 (bd:Int)]] w fun e w'=>e=.returned (.bool (reachB o (D+bd) r))∧Below w.heap.size w w':=by
 obtain⟨w2,hw2,hb2,s2,m1,m2⟩:=box_outs w V D o bv bd
 obtain⟨a,cap,rfl,_⟩:=id hv
 have hd:=dimsN_lt r
 have Hc:Hid (∀ u:Cw w2,Calls Tryz.prog 30 #[.slice a r.length cap] u.1 fun e w'=>e=.returned (.int .u32 ((dimsN r:Nat):Int))∧∃ u':Cw w2,w'=u'.1):=fun u=>cw_call u (Dims_any r _ u.1 ((hv.blw (bchain hb2 u.2)).row) hl)
 have x1:∀ u:Cw w2,u.1.cell? ⟨w.heap.size,1,none⟩=some (.int .i64 (D:Int)):=fun u=>(cells3 ((u.2.block _ (by omega)).trans m1)).2.1
 have x2:∀ u:Cw w2,u.1.cell? ⟨w.heap.size,2,none⟩=some (.bool o):=fun u=>(cells3 ((u.2.block _ (by omega)).trans m1)).2.2
 have y1:∀ u:Cw w2,u.1.cell? ⟨w.heap.size+1,1,none⟩=some (.int .i64 (bd:Int)):=fun u=>(cells2 ((u.2.block _ (by omega)).trans m2)).2
 have hne:=cw_any w2
 have H2:Hid (_=_):=hw2
 have HR:Hid (reachB o (D+bd) r=(o || decide (dimsN r / 2 ^ (D+bd)=0))):=rfl
 obtain⟨n,hn⟩:∃ n,n=r.length:=⟨_,rfl⟩
 rw [← hn] at Hc ⊢
 obtain⟨q,hq⟩:∃ q,q=dimsN r:=⟨_,rfl⟩
 rw [← hq] at Hc HR hd
 clear hw2 m1 m2 hv hn hl hq
 go_enter Tryz.func228,Tryz.ntmps228
 go_upto_region 1 with fail
 rw [← H2.out]
 cases o with
 | true =>
  refine wp_region_cw (by kernel_rfl) (by kernel_rfl) ?_
  repeat (first | go_big_quiet_step (exact Hc.out _) | quiet_step (exact Hc.out _))
  refine wpQuiet_nil ?_
  rintro _ ⟨u,rfl⟩
  obtain⟨w5,hb5⟩:=u
  dsimp only
  have hal:=bchain hb2 hb5
  clear x1 x2 y1 hne Hc
  go_wp2
  go_ret
  exact⟨ret_bool (by rw [HR.out];rfl),hal⟩
 | false =>
  obtain⟨z,hz⟩:∃ z,z=q / 2 ^ (D+bd):=⟨_,rfl⟩
  have HZ:Hid (q / 2 ^ (D+bd)=z):=hz.symm
  have hsh:Op.shift .shr .u32 (q:Int) .i64 ((D:Int) + (bd:Int))=pure (.int .u32 (z:Int)):=by
   have:=shr_any q (D+bd) hd
   rw [hz];simpa using this
  clear hz
  have wr1:IntKind.i64.wrap ((D:Int) + (bd:Int))=(D:Int) + (bd:Int):=by simp [IntKind.wrap,IntKind.bits,IntKind.signed];omega
  refine wp_region_cw (by kernel_rfl) (by kernel_rfl) ?_
  repeat (first | go_big_quiet_step (exact Hc.out _) | quiet_step (exact Hc.out _))
  refine wpQuiet_nil ?_
  rintro _ ⟨u,rfl⟩
  obtain⟨w5,hb5⟩:=u
  dsimp only
  have hal:=bchain hb2 hb5
  clear x1 x2 y1 hne Hc
  go_wp2
  go_ret
  exact⟨ret_bool (by rw [HR.out,HZ.out,Bool.eq_iff_iff];simp),hal⟩
theorem row_any (V:Int) (D:Nat) (o:Bool) (bv bd g off:Nat) (t:Tm) (a:Option Addr) (cap:Nat) (w:World) (hlt:g<w.heap.size) (h0:w.cell? ⟨g,off,none⟩=some (.int .i64 t.kind)) (h3:w.cell? ⟨g,off+3,none⟩=some (.slice a t.r.length cap)) (hv:ClRow Tt w t.r (.slice a t.r.length cap)) (hl:t.r.length≤100000) (hD:D≤24) (hb:bd≤1000000) :
  Calls Tryz.prog 226 #[.agg #[.int .i64 V,.int .i64 (D:Int),.bool o],.pointer (some ⟨g,off,none⟩),.agg #[.int .i64 (bv:Int),.int .i64 (bd:Int)]] w fun e w'=>e=.returned (.bool (rowB o (D+bd) t.kind t.r))∧Below w.heap.size w w':=by
 obtain⟨w2,hw2,hb2,s2,m1,m2⟩:=box_outs w V D o bv bd
 obtain⟨f,hf⟩:∃ f,f=rightF t.r:=⟨_,rfl⟩
 obtain⟨fa,hfa⟩:∃ f,f=rightA t.r:=⟨_,rfl⟩
 obtain⟨rb,hrb⟩:∃ f,f=reachB o (D+bd) t.r:=⟨_,rfl⟩
 have HF:Hid (∀ u:Cw w2,Calls Tryz.prog 101 #[.slice a t.r.length cap] u.1 fun e w'=>e=.returned (.bool f)∧∃ u':Cw w2,w'=u'.1):=fun u=>cw_call u (by rw [hf];exact fright_any t.r _ u.1 ((hv.blw (bchain hb2 u.2)).frow) hl)
 have HA:Hid (∀ u:Cw w2,Calls Tryz.prog 96 #[.slice a t.r.length cap] u.1 fun e w'=>e=.returned (.bool fa)∧∃ u':Cw w2,w'=u'.1):=fun u=>cw_call u (by rw [hfa];exact aright_any t.r _ u.1 ((hv.blw (bchain hb2 u.2)).frow) hl)
 have HRc:Hid (∀ u:Cw w2,Calls Tryz.prog 228 #[.agg #[.int .i64 V,.int .i64 (D:Int),.bool o],.slice a t.r.length cap,.agg #[.int .i64 (bv:Int),.int .i64 (bd:Int)]] u.1 fun e w'=>e=.returned (.bool rb)∧∃ u':Cw w2,w'=u'.1):=fun u=>cw_call u (by rw [hrb];exact reaches_any V D o bv bd t.r _ u.1 (hv.blw (bchain hb2 u.2)) hl hD hb)
 have x0:∀ u:Cw w2,u.1.cell? ⟨w.heap.size,0,none⟩=some (.int .i64 V):=fun u=>(cells3 ((u.2.block _ (by omega)).trans m1)).1
 have x1:∀ u:Cw w2,u.1.cell? ⟨w.heap.size,1,none⟩=some (.int .i64 (D:Int)):=fun u=>(cells3 ((u.2.block _ (by omega)).trans m1)).2.1
 have x2:∀ u:Cw w2,u.1.cell? ⟨w.heap.size,2,none⟩=some (.bool o):=fun u=>(cells3 ((u.2.block _ (by omega)).trans m1)).2.2
 have y0:∀ u:Cw w2,u.1.cell? ⟨w.heap.size+1,0,none⟩=some (.int .i64 (bv:Int)):=fun u=>(cells2 ((u.2.block _ (by omega)).trans m2)).1
 have y1:∀ u:Cw w2,u.1.cell? ⟨w.heap.size+1,1,none⟩=some (.int .i64 (bd:Int)):=fun u=>(cells2 ((u.2.block _ (by omega)).trans m2)).2
 have k0:=(hb2.cell (p:=⟨g,off,none⟩) hlt).trans h0
 have k3:∀ u:Cw w2,u.1.cell? ⟨g,off+3,none⟩=some (.slice a t.r.length cap):=fun u=>((bchain hb2 u.2).cell (p:=⟨g,off+3,none⟩) hlt).trans h3
 have e3:=(hb2.cell (p:=⟨g,off+3,none⟩) hlt).trans h3
 have hne:=cw_any w2
 have H2:Hid (_=_):=hw2
 obtain⟨k,hk⟩:∃ k,k=t.kind:=⟨_,rfl⟩
 obtain⟨n,hn⟩:∃ n,n=t.r.length:=⟨_,rfl⟩
 have HR:Hid (rowB o (D+bd) t.kind t.r=if k=13∨k=21∨k=26 then f && rb else if k=14 then fa && rb else decide (n=0)):=by show _=_;rw [hf,hfa,hrb,hn,hk];rfl
 rw [← hk] at k0
 rw [← hn] at HF HA HRc k3 e3
 clear hw2 m1 m2 hv hn hl hf hfa hrb hk h0 h3 s2
 by_cases hk1:k=13∨k=21∨k=26
 ·rw [if_pos hk1] at HR
  rcases hk1 with rfl|rfl|rfl
  all_goals
   cases f with
   | true =>
    go_enter Tryz.func226,Tryz.ntmps226
    go_upto_region 1 with fail
    rw [← H2.out]
    go_wp2_with fail
    refine wp_region_cw (by kernel_rfl) (by kernel_rfl) ?_
    repeat (first | go_big_quiet_step (fail) | quiet_step (fail))
    first | go_big_quiet_step (exact HF.out _) | quiet_step (exact HF.out _)
    repeat (first | go_big_quiet_step (fail) | quiet_step (fail))
    first | go_big_quiet_step (exact HRc.out _) | quiet_step (exact HRc.out _)
    repeat (first | go_big_quiet_step (fail) | quiet_step (fail))
    refine wpQuiet_nil ?_
    rintro _ ⟨u,rfl⟩
    obtain⟨w5,hb5⟩:=u
    dsimp only
    have hal:=bchain hb2 hb5
    clear x0 x1 x2 y0 y1 k0 k3 hne HF HA HRc
    go_wp2
    go_ret
    exact⟨ret_bool (by rw [HR.out];rfl),hal⟩
   | false =>
    go_enter Tryz.func226,Tryz.ntmps226
    go_upto_region 1 with fail
    rw [← H2.out]
    go_wp2_with fail
    refine wp_region_cw (by kernel_rfl) (by kernel_rfl) ?_
    repeat (first | go_big_quiet_step (fail) | quiet_step (fail))
    first | go_big_quiet_step (exact HF.out _) | quiet_step (exact HF.out _)
    repeat (first | go_big_quiet_step (fail) | quiet_step (fail))
    refine wpQuiet_nil ?_
    rintro _ ⟨u,rfl⟩
    obtain⟨w5,hb5⟩:=u
    dsimp only
    have hal:=bchain hb2 hb5
    clear x0 x1 x2 y0 y1 k0 k3 hne HF HA HRc
    go_wp2
    go_ret
    exact⟨ret_bool (by rw [HR.out];rfl),hal⟩
 ·rw [if_neg hk1] at HR
  have q1:¬ k=13:=by omega
  have q2:¬ k=21:=by omega
  have q3:¬ k=26:=by omega
  clear hk1
  by_cases hk2:k=14
  ·rw [if_pos hk2] at HR
   subst hk2
   cases fa with
   | true =>
    go_enter Tryz.func226,Tryz.ntmps226
    go_upto_region 1 with fail
    rw [← H2.out]
    go_wp2_with fail
    refine wp_region_cw (by kernel_rfl) (by kernel_rfl) ?_
    repeat (first | go_big_quiet_step (fail) | quiet_step (fail))
    first | go_big_quiet_step (exact HA.out _) | quiet_step (exact HA.out _)
    repeat (first | go_big_quiet_step (fail) | quiet_step (fail))
    first | go_big_quiet_step (exact HRc.out _) | quiet_step (exact HRc.out _)
    repeat (first | go_big_quiet_step (fail) | quiet_step (fail))
    refine wpQuiet_nil ?_
    rintro _ ⟨u,rfl⟩
    obtain⟨w5,hb5⟩:=u
    dsimp only
    have hal:=bchain hb2 hb5
    clear x0 x1 x2 y0 y1 k0 k3 hne HF HA HRc
    go_wp2
    go_ret
    exact⟨ret_bool (by rw [HR.out];rfl),hal⟩
   | false =>
    go_enter Tryz.func226,Tryz.ntmps226
    go_upto_region 1 with fail
    rw [← H2.out]
    go_wp2_with fail
    refine wp_region_cw (by kernel_rfl) (by kernel_rfl) ?_
    repeat (first | go_big_quiet_step (fail) | quiet_step (fail))
    first | go_big_quiet_step (exact HA.out _) | quiet_step (exact HA.out _)
    repeat (first | go_big_quiet_step (fail) | quiet_step (fail))
    refine wpQuiet_nil ?_
    rintro _ ⟨u,rfl⟩
    obtain⟨w5,hb5⟩:=u
    dsimp only
    have hal:=bchain hb2 hb5
    clear x0 x1 x2 y0 y1 k0 k3 hne HF HA HRc
    go_wp2
    go_ret
    exact⟨ret_bool (by rw [HR.out];rfl),hal⟩
  ·rw [if_neg hk2] at HR
   clear x0 x1 x2 y0 y1 k3 hne HF HA HRc
   go_enter Tryz.func226,Tryz.ntmps226
   go_upto_region 1 with fail
   rw [← H2.out]
   go_wp2
   go_ret
   exact⟨ret_bool (by rw [HR.out,Bool.eq_iff_iff];simp),hb2⟩
theorem fields_any (V:Int) (D:Nat) (o:Bool) (bv bd g off:Nat) (t:Tm) (ra:Option Addr) (rc:Nat) (ka:Option Addr) (kc:Nat) (sa:Option Addr) (sc:Nat) (w:World) (h6:Cs6 w g off t ra rc ka kc sa sc) (ht:TmTop Tt w t ra rc ka kc sa sc) (hsz:blk t≤100000) (hD:D≤24) (hb1:bv≤1000000) (hb:bd≤1000000) :
  Calls Tryz.prog 179 #[.agg #[.int .i64 V,.int .i64 (D:Int),.bool o],.pointer (some ⟨g,off,none⟩),.agg #[.int .i64 (bv:Int),.int .i64 (bd:Int)]] w fun e w'=>e=.returned (.bool (numB o V bv t.kind t.n && nameB t.kind t.name && rowB o (D+bd) t.kind t.r))∧Below w.heap.size w w':=by
 obtain⟨w2,hw2,hb2,s2,m1,m2⟩:=box_outs w V D o bv bd
 obtain⟨hl1,hl2,hl3,hl4⟩:=blk_lens t
 have c6:=h6.blw hb2
 have c1:=number_any V D o bv bd g off t w2 c6.lt c6.c0 c6.c1 ht.inn hb1
 have H1:Hid (∀ w3,Below w2.heap.size w2 w3→Calls Tryz.prog 225 #[.pointer (some ⟨g,off,none⟩)] w3 fun e w'=>e=.returned (.bool (nameB t.kind t.name))∧w'=w3):=fun w3 q=>named_any g off t w3 (c6.blw q).c0 (c6.blw q).c2 (by omega)
 have H3:Hid (∀ w3,Below w2.heap.size w2 w3→Calls Tryz.prog 226 #[.agg #[.int .i64 V,.int .i64 (D:Int),.bool o],.pointer (some ⟨g,off,none⟩),.agg #[.int .i64 (bv:Int),.int .i64 (bd:Int)]] w3 fun e w'=>e=.returned (.bool (rowB o (D+bd) t.kind t.r))∧Below w3.heap.size w3 w'):=fun w3 q=>row_any V D o bv bd g off t ra rc w3 (c6.blw q).lt (c6.blw q).c0 (c6.blw q).c3 (ht.row.blw (bchain hb2 q)) (by omega) hD hb
 have X:Hid (∀ w3,Below w2.heap.size w2 w3→w3.cell? ⟨w.heap.size,0,none⟩=some (.int .i64 V)∧w3.cell? ⟨w.heap.size,1,none⟩=some (.int .i64 (D:Int))∧w3.cell? ⟨w.heap.size,2,none⟩=some (.bool o)∧w3.cell? ⟨w.heap.size+1,0,none⟩=some (.int .i64 (bv:Int))∧w3.cell? ⟨w.heap.size+1,1,none⟩=some (.int .i64 (bd:Int))):=fun w3 q=>by
  obtain⟨a1,a2,a3⟩:=cells3 ((q.block _ (by omega)).trans m1)
  obtain⟨a4,a5⟩:=cells2 ((q.block _ (by omega)).trans m2)
  exact⟨a1,a2,a3,a4,a5⟩
 obtain⟨x0,x1,x2,y0,y1⟩:=X.out w2 (Below.refl _ _)
 have H2:Hid (_=_):=hw2
 clear hw2 m1 m2 h6 ht c6 hl1 hl2 hl3 hl4 s2
 generalize numB o V bv t.kind t.n=b1 at *
 generalize nameB t.kind t.name=b2 at *
 generalize rowB o (D+bd) t.kind t.r=b3 at *
 go_enter Tryz.func179,Tryz.ntmps179
 go_upto_region 1 with fail
 rw [← H2.out]
 clear H2
 cases b1 with
 | false =>
  go_wp2_with fail
  refine c1.mono ?_
  rintro e w3 ⟨rfl,hb3⟩
  clear c1 x0 x1 x2 y0 y1
  have q:=bchain hb2 hb3
  go_wp2
  go_ret
  exact⟨rfl,q⟩
 | true =>
  go_wp2_with fail
  refine c1.mono ?_
  rintro e w3 ⟨rfl,hb3⟩
  clear c1 x0 x1 x2 y0 y1
  have c2:=H1.out w3 hb3
  obtain⟨x0,x1,x2,y0,y1⟩:=X.out w3 hb3
  have q:=bchain hb2 hb3
  have c3:=H3.out w3 hb3
  clear H1 H3 X hb3
  cases b2 with
  | false =>
   go_wp2_with fail
   refine c2.mono ?_
   rintro e w4 ⟨rfl,hw4⟩
   replace hw4:=hw4.symm
   subst hw4
   clear c2 c3
   go_wp2
   go_ret
   exact⟨rfl,q⟩
  | true =>
   go_wp2_with fail
   refine c2.mono ?_
   rintro e w4 ⟨rfl,hw4⟩
   replace hw4:=hw4.symm
   subst hw4
   clear c2
   go_wp2_with fail
   refine c3.mono ?_
   rintro e w5 ⟨rfl,hb5⟩
   clear c3 x0 x1 x2 y0 y1
   have q5:=bchain q hb5
   go_wp2
   go_ret
   exact⟨rfl,q5⟩
theorem allT_step {α:Type} {f:α→Bool} {l:List α} {k:Nat} {x:α} (h:(l.take k).all f=true) (hx:l[k]? = some x) (hf:f x=true):(l.take (k+1)).all f=true:=by
 rw [List.take_add_one,hx];simp [h,hf]
theorem allT_bad {α:Type} {f:α→Bool} {l:List α} {k:Nat} {x:α} (hx:l[k]? = some x) (hf:f x=false):l.all f=false:=by
 rw [List.all_eq_false];exact⟨x,List.mem_of_getElem? hx,by simp [hf]⟩
theorem system_any (V:Int) (D:Nat) (o:Bool) (bv bd g off:Nat) (t:Tm) (ra:Option Addr) (rc:Nat) (ka:Option Addr) (kc:Nat) (sa:Option Addr) (sc:Nat) (w:World) (h6:Cs6 w g off t ra rc ka kc sa sc) (ht:TmTop Tt w t ra rc ka kc sa sc) (hsz:blk t≤100000) (hD:D≤24) (hb1:bv≤1000000) (hb:bd≤1000000) :
  Calls Tryz.prog 180 #[.agg #[.int .i64 V,.int .i64 (D:Int),.bool o],.pointer (some ⟨g,off,none⟩),.agg #[.int .i64 (bv:Int),.int .i64 (bd:Int)]] w fun e w'=>e=.returned (.bool ((t.sys.map fun b=>(b.1,b.2.length)).all (brB o (D+bd) t.kind)))∧Below w.heap.size w w':=by
 obtain⟨w2,hw2,hb2,s2,m1,m2⟩:=box_outs w V D o bv bd
 obtain⟨hl1,hl2,hl3,hl4⟩:=blk_lens t
 have c6:=h6.blw hb2
 have HT:=(ht.sys.blw hb2)
 have X:Hid (∀ w3,Below w2.heap.size w2 w3→w3.cell? ⟨w.heap.size,0,none⟩=some (.int .i64 V)∧w3.cell? ⟨w.heap.size,1,none⟩=some (.int .i64 (D:Int))∧w3.cell? ⟨w.heap.size,2,none⟩=some (.bool o)∧w3.cell? ⟨w.heap.size+1,0,none⟩=some (.int .i64 (bv:Int))∧w3.cell? ⟨w.heap.size+1,1,none⟩=some (.int .i64 (bd:Int))):=fun w3 q=>by
  obtain⟨a1,a2,a3⟩:=cells3 ((q.block _ (by omega)).trans m1)
  obtain⟨a4,a5⟩:=cells2 ((q.block _ (by omega)).trans m2)
  exact⟨a1,a2,a3,a4,a5⟩
 have c0:=c6.c0
 have c5:=c6.c5
 obtain⟨f,hf⟩:∃ f,f=brB o (D+bd) t.kind:=⟨_,rfl⟩
 have HF:Hid (∀ b:List C × List Tm,f (b.1,b.2.length)=(!decide (partsK t.kind=0) && decide ((b.2.length:Int)=partsK t.kind) && rightA b.1 && reachB o (D+bd) b.1)):=fun b=>by rw [hf];rfl
 rw [← hf]
 clear hf
 obtain⟨l,hl⟩:∃ l,l=t.sys:=⟨_,rfl⟩
 have hbl:∀ b∈l,1+b.1.length+blkL b.2<100000:=fun b hb=>by rw [hl] at hb;have:=blk_br hb;omega
 rw [← hl] at HT c5 hl4 ⊢
 obtain⟨p,hp⟩:∃ p,p=partsK t.kind:=⟨_,rfl⟩
 rw [← hp] at HF
 have cP:=partsC_any t.kind w2
 rw [← hp] at cP
 obtain⟨L,hL⟩:∃ L,L=l.length:=⟨_,rfl⟩
 have HL:Hid (L=l.length):=hL
 rw [← hL] at HT c5 hl4
 have hLb:L≤100000:=by omega
 rw [List.all_map]
 obtain⟨ff,hff⟩:∃ ff:List C × List Tm→Bool,ff=f ∘ fun b=>(b.1,b.2.length):=⟨_,rfl⟩
 have HFF:Hid (∀ b:List C × List Tm,ff b=(!decide (p=0) && decide ((b.2.length:Int)=p) && rightA b.1 && reachB o (D+bd) b.1)):=fun b=>by rw [hff];exact HF.out b
 rw [← hff]
 have H2:Hid (_=_):=hw2
 clear hw2 m1 m2 h6 ht c6 hl1 hl2 hl3 hl4 hl hL hff HF hp
 have HTT:Hid (SyT Tt w2 (TmIn Tt w2) l (.slice sa L sc)):=HT
 clear HT
 go_enter Tryz.func180,Tryz.ntmps180
 go_upto_region 1 with fail
 rw [← H2.out]
 clear H2
 go_wp2_with (go_at_call 227;refine cP.mono ?_;rintro e w' ⟨rfl,hw'⟩;replace hw':=hw'.symm;subst hw'; clear cP)
 go_loopw [20] (fun i wr=>∃ k:Nat,k≤L∧i=.int .i64 k∧Hid ((l.take k).all ff=true)∧Below w2.heap.size w2 wr) (fun i _=>L - (intOf i).toNat)
 case atStart=>exact⟨0,Nat.zero_le _,rfl,rfl,Below.refl _ _⟩
 case round =>
  obtain⟨k,hk,rfl,HK,hB⟩:=hrel
  clear c0 c5
  by_cases hlt:k<L
  ·obtain⟨b,hb0⟩:=someL (l:=l) (k:=k) (by rw [← HL.out];exact hlt)
   obtain⟨sg,so,fa,fc,ka2,kc2,rfl,_,h2,hcl,hkd⟩:=(HTT.out.blw hB).at hb0
   obtain⟨lt2,d0,d1⟩:=h2
   have hbb:=hbl b (List.mem_of_getElem? hb0)
   have hbn:=blkL_len b.2
   have HS:Hid (ff b=true→(l.take (k+1)).all ff=true):=fun e=>allT_step HK.out hb0 e
   have HN:Hid (ff b=false→l.all ff=false):=fun e=>allT_bad hb0 e
   have HV:Hid (ff b=_):=HFF.out b
   obtain⟨w4,hw4⟩:∃ w4,w4=wr.alloc (.cells #[.slice fa b.1.length fc,.slice ka2 b.2.length kc2] 40):=⟨_,rfl⟩
   have b4:Below wr.heap.size wr w4:=by rw [hw4];exact belowA _ _
   have n4:w4.heap[wr.heap.size]? = some (.cells #[.slice fa b.1.length fc,.slice ka2 b.2.length kc2] 40 (0,0)):=by rw [hw4];exact heapNew _ _
   have s4:wr.heap.size<w4.heap.size:=by rw [hw4];simp
   have hB4:=bchain hB b4
   have cA:=aright_any b.1 _ w4 (hcl.blw b4).frow (by omega)
   have HRr:Hid (∀ w5,Below w4.heap.size w4 w5→Calls Tryz.prog 228 #[.agg #[.int .i64 V,.int .i64 (D:Int),.bool o],.slice fa b.1.length fc,.agg #[.int .i64 (bv:Int),.int .i64 (bd:Int)]] w5 fun e w'=>e=.returned (.bool (reachB o (D+bd) b.1))∧Below w5.heap.size w5 w'):=fun w5 q=>reaches_any V D o bv bd b.1 _ w5 (hcl.blw (bchain b4 q)) (by omega) hD hb
   obtain⟨z1,hz1⟩:∃ z,z=b.1.length:=⟨_,rfl⟩
   obtain⟨z2,hz2⟩:∃ z,z=b.2.length:=⟨_,rfl⟩
   rw [← hz1] at d0 hw4 n4 cA HRr
   rw [← hz2] at d1 hw4 n4 HV
   have hz2b:z2≤100000:=by omega
   generalize rightA b.1=fA at *
   generalize reachB o (D+bd) b.1=fR at *
   obtain⟨v0,v1⟩:=cells2 n4
   have H4:Hid (_=_):=hw4
   clear hw4 hz1 hz2 hbb hbn hcl hkd HTT HFF hbl hb0 HL lt2
   by_cases hp0:p=0
   ·have Hf:Hid (ff b=false):=by show _=_;rw [HV.out];simp [hp0]
    subst hp0
    go_wp2_with fail
    go_ret
    exact⟨ret_bool (HN.out Hf.out).symm,by rw [← H4.out];exact bchain hb2 hB4⟩
   ·by_cases hpz:(z2:Int)=p
    ·have q1:((z2:Int) != p)=false:=by simpa using hpz
     have q0:(p == 0)=false:=by simpa using hp0
     have HV2:Hid (ff b=(fA && fR)):=by show _=_;rw [HV.out];simp [hp0,hpz]
     clear HV
     cases fA with
     | false =>
      have Hf:Hid (ff b=false):=by show _=_;rw [HV2.out];rfl
      go_wp2_with fail
      rw [← H4.out]
      clear H4
      go_wp2_with fail
      refine cA.mono ?_
      rintro e w5 ⟨rfl,hb5⟩
      have q5:=bchain hb2 (bchain hB4 hb5)
      clear cA d0 d1 v0 v1 n4
      go_wp2
      go_ret
      exact⟨ret_bool (HN.out Hf.out).symm,q5⟩
     | true =>
      go_wp2_with fail
      rw [← H4.out]
      clear H4
      go_wp2_with fail
      refine cA.mono ?_
      rintro e w5 ⟨rfl,hb5⟩
      have cR:=HRr.out w5 hb5
      have hB5:=bchain hB4 hb5
      obtain⟨x0,x1,x2,y0,y1⟩:=X.out w5 hB5
      have v0':=(hb5.cell (p:=⟨wr.heap.size,0,none⟩) s4).trans v0
      clear cA d0 d1 v0 v1 n4 HRr
      go_wp2_with fail
      refine cR.mono ?_
      rintro e w6 ⟨rfl,hb6⟩
      have hB6:=bchain hB5 hb6
      have q6:=bchain hb2 hB6
      clear cR x0 x1 x2 y0 y1 v0'
      cases fR with
      | false =>
       have Hf:Hid (ff b=false):=by show _=_;rw [HV2.out];rfl
       go_wp2
       go_ret
       exact⟨ret_bool (HN.out Hf.out).symm,q6⟩
      | true =>
       have Hf:Hid (ff b=true):=by show _=_;rw [HV2.out];rfl
       go_wp2
       go_roundw
       case rel=>exact⟨k+1,by omega,by go_num,HS.out Hf.out,hB6⟩
       case measure=>simp [intOf];omega
    ·have q1:((z2:Int) != p)=true:=by simpa using hpz
     have q0:(p == 0)=false:=by simpa using hp0
     have Hf:Hid (ff b=false):=by show _=_;rw [HV.out];simp [hpz]
     go_wp2_with fail
     all_goals
      try rw [← H4.out]
      try go_wp2_with fail
      go_ret
      exact⟨ret_bool (HN.out Hf.out).symm,bchain hb2 hB4⟩
  ·obtain rfl:k=L:=by omega
   have HK2:Hid (l.all ff=true):=by
    have h1:=HK.out
    rwa [List.take_of_length_le (by rw [← HL.out];exact Nat.le_refl _)] at h1
   go_wp2
   go_ret
   exact⟨ret_bool HK2.out.symm,bchain hb2 hB⟩
end Go.Proofs.YtblbhmnahoiecaaGreat
