/- A dimension by its name; a variable or a constant by its name. -/
import Derived.Deep.QuietTactic
import Derived.BigQuiet
import Derived.WalkSmall
import Derived.Test.YtahnbigkdfmpbaaGreatDoorIZSpine
import Derived.Test.YtahnbigkdfmpbaaGreatDoorIZB
set_option linter.unusedVariables false
set_option linter.unusedSimpArgs false
namespace Go.Proofs.YtahnbigkdfmpbaaGreatDoor
open Go.RowKit Go.Maps Go.WideMaps
def ClsZ (w:World):Type:={ w':World // Below w.heap.size w w' }
theorem clsZ_any (w:World):Nonempty (ClsZ w):=⟨⟨w,Below.refl _ _⟩⟩
theorem wp_region_clsZ {id:Nat} {Q:Exit→Act→World→Prop} {a:Act} {w:World} {l:List Oper} (hm:Tryz.prog.follows .mixedOrders=true) (hB:Region.lexB .any l.toArray=true)
  (h:wpQuiet Tryz.prog l.toArray (fun w'=>∃ u:ClsZ w,w'=u.1) (fun a'=>∀ w',(∃ u:ClsZ w,w'=u.1)→Q .normal a' w') l a):(Code.region id l.toArray true).wp Tryz.prog Q a w :=
 wp_region_quiet (C:=fun w'=>∃ u:ClsZ w,w'=u.1) hm hB ⟨⟨_,Below.drew (Below.refl _ _)⟩,rfl⟩ (by simpa using h)
theorem clsZ_call {w:World} {f:FuncId} {args:Array Value} {v:Value} (u:ClsZ w) (h:Calls Tryz.prog f args u.1 fun e w'=>e=.returned v∧Below u.1.heap.size u.1 w'):Calls Tryz.prog f args u.1 fun e w'=>e=.returned v∧∃ u':ClsZ w,w'=u'.1 :=
 h.mono fun e w' ⟨he,hb⟩=>⟨he,⟨w',u.2.trans (hb.mono u.2.size)⟩,rfl⟩
theorem Rsv.In.nv {R:Rsv} {w:World} {σ:Sg} {n:Nat} (h:R.In w σ n):NmB w R.r 2 R.bv σ.v.length (R.cells σ.v.length σ.d.length) 80:=⟨h.blk,rfl,by show 2<6;decide⟩
theorem Rsv.In.nd {R:Rsv} {w:World} {σ:Sg} {n:Nat} (h:R.In w σ n):NmB w R.r 4 R.bd σ.d.length (R.cells σ.v.length σ.d.length) 80:=⟨h.blk,rfl,by show 4<6;decide⟩
theorem Rsv.In.fv {R:Rsv} {w:World} {σ:Sg} {n:Nat} (h:R.In w σ n) (s:Bs) (hs:s.length≤1000000):Calls Tryz.prog 97 #[.pointer (some ⟨R.r,2,none⟩),.string (bs s)] w fun e w'=>e=.returned (fndV (fndR s σ.v))∧Below w.heap.size w w' :=
 find_any _ _ _ _ _ _ _ _ s w h.nv h.vs (by have:=h.few.1;omega) (by have:=h.few.2.1;omega) hs
theorem Rsv.In.fd {R:Rsv} {w:World} {σ:Sg} {n:Nat} (h:R.In w σ n) (s:Bs) (hs:s.length≤1000000):Calls Tryz.prog 97 #[.pointer (some ⟨R.r,4,none⟩),.string (bs s)] w fun e w'=>e=.returned (fndV (fndR s σ.d))∧Below w.heap.size w w' :=
 find_any _ _ _ _ _ _ _ _ s w h.nd h.ds (by have:=h.few.1;omega) (by have:=h.few.2.2;omega) hs
def dimR (σ:Sg) (t:Sx):Rz Nat:=match fndR t.name σ.d with
 | some i=>some (.inr i)
 | none=>refuse t 90
set_option maxRecDepth 100000 in
set_option maxHeartbeats 2000000 in
theorem dimZ_any (R:Rsv) (σ:Sg) (n m:Nat) (t:Sx) (v:Value) (w:World) (h:R.In w σ n) (ht:SxIn m w t v) (hm:m≤w.heap.size) (hl:t.name.length≤1000000) :
  Calls Tryz.prog 100 #[R.ptr,v] w fun e w'=>(match fndR t.name σ.d with | some i=>e=.returned (.int .i64 (i:Nat)) | none=>e=.panicked [fltS t.at_ 90])∧Below w.heap.size w w':=by
 obtain⟨ka,kc,na,nc,rfl,hN,hK⟩:=ht.form
 have q:=below_alloc w (.cells #[.int .i64 t.kind,.string (bs t.name),.slice ka t.kids.length kc,.slice na t.names.length nc,.int .i64 t.at_] 26)
 have bx:=bx_new w (.int .i64 t.kind) (.string (bs t.name)) (.slice ka t.kids.length kc) (.slice na t.names.length nc) (.int .i64 t.at_)
 obtain⟨w1,hw1⟩:∃ w1,w1=w.alloc (.cells #[.int .i64 t.kind,.string (bs t.name),.slice ka t.kids.length kc,.slice na t.names.length nc,.int .i64 t.at_] 26):=⟨_,rfl⟩
 rw [← hw1] at q bx
 have Hc:Hid (∀ u:ClsZ w1,Calls Tryz.prog 97 #[.pointer (some ⟨R.r,4,none⟩),.string (bs t.name)] u.1 fun e w'=>e=.returned (fndV (fndR t.name σ.d))∧∃ u':ClsZ w1,w'=u'.1):=fun u=>clsZ_call u (((h.keep q).keep u.2).fd t.name hl)
 have hx:(∀ u:ClsZ w1,u.1.cell? ⟨w.heap.size,1,none⟩=some (.string (bs t.name))):=fun u=>(bx.blw u.2).cells.2.1
 have Hg:Hid (∀ u:ClsZ w1,SxIn m u.1 t (.agg #[.int .i64 t.kind,.string (bs t.name),.slice ka t.kids.length kc,.slice na t.names.length nc,.int .i64 t.at_])∧Bx u.1 w.heap.size (.int .i64 t.kind) (.string (bs t.name)) (.slice ka t.kids.length kc) (.slice na t.names.length nc) (.int .i64 t.at_)):=fun u=>⟨ht.keep ((q.trans (u.2.mono q.size)).mono hm),bx.blw u.2⟩
 unfold Rsv.ptr
 have Hq:Hid (Below w.heap.size w w1):=q
 clear h hN hK ht q bx
 obtain⟨s,hs⟩:∃ s,s=w.heap.size:=⟨_,rfl⟩
 rw [← hs] at Hg hx Hq ⊢
 cases hF:fndR t.name σ.d with
 | some i =>
  rw [hF] at Hc
  go_enter Tryz.func100,Tryz.ntmps100
  go_wp2
  rw [← hw1]
  simp only [← hs]
  have Hs:Hid (s=w.heap.size):=hs
  clear hw1 hs
  have hne:=clsZ_any w1
  unfold fndV at Hc
  simp only [Option.getD_some,Option.isSome_some] at Hc
  refine wp_region_clsZ (by kernel_rfl) (by kernel_rfl) ?_
  repeat (quiet_step (exact Hc.out _))
  refine wpQuiet_nil ?_
  rintro _ ⟨u,rfl⟩
  obtain⟨w2,hb2⟩:=u
  have hal:=Hq.out.trans (hb2.mono (by rw [Hs.out];exact Hq.out.size))
  go_wp2
  go_ret
  exact⟨rfl,hal⟩
 | none =>
  rw [hF] at Hc
  go_enter Tryz.func100,Tryz.ntmps100
  go_wp2
  rw [← hw1]
  simp only [← hs]
  have Hs:Hid (s=w.heap.size):=hs
  clear hw1 hs
  have hne:=clsZ_any w1
  unfold fndV at Hc
  simp only [Option.getD_none,Option.isSome_none] at Hc
  refine wp_region_clsZ (by kernel_rfl) (by kernel_rfl) ?_
  repeat (quiet_step (exact Hc.out _))
  refine wpQuiet_nil ?_
  rintro _ ⟨u,rfl⟩
  obtain⟨g1,g2⟩:=Hg.out u
  obtain⟨w2,hb2⟩:=u
  have hal:=Hq.out.trans (hb2.mono (by rw [Hs.out];exact Hq.out.size))
  have hgu:=giveUp_any m t _ 90 w2 g1
  obtain⟨c0,c1,c2,c3,c4⟩:=g2.cells
  go_wp2_with (go_at_call 50;refine hgu.mono ?_;rintro e w3 ⟨rfl,hb3⟩)
  exact⟨rfl,rfl,hal.trans (hb3.mono (by rw [Hs.out];exact Nat.le_trans Hq.out.size hb2.size))⟩
set_option maxRecDepth 100000 in
set_option maxHeartbeats 2000000 in
theorem namedV_any (R:Rsv) (σ:Sg) (n m i:Nat) (t:Sx) (v:Value) (w:World) (h:R.In w σ n) (ht:SxIn m w t v) (hm:m≤w.heap.size) (hl:t.name.length≤1000000) (hF:fndR t.name σ.v=some i) :
  Calls Tryz.prog 76 #[R.ptr,v] w fun e w'=>e=.returned (.agg #[.int .i64 1,.int .i64 (i:Nat),.string ⟨#[]⟩,.slice none 0 0,.slice none 0 0,.slice none 0 0])∧Below w.heap.size w w':=by
 obtain⟨ka,kc,na,nc,rfl,hN,hK⟩:=ht.form
 obtain⟨w1,hw1⟩:∃ w1,w1=w.alloc (.cells #[.int .i64 t.kind,.string (bs t.name),.slice ka t.kids.length kc,.slice na t.names.length nc,.int .i64 t.at_] 26):=⟨_,rfl⟩
 have q:Below w.heap.size w w1:=by rw [hw1];exact below_alloc _ _
 have bx:Bx w1 w.heap.size (.int .i64 t.kind) (.string (bs t.name)) (.slice ka t.kids.length kc) (.slice na t.names.length nc) (.int .i64 t.at_):=by rw [hw1];exact bx_new _ _ _ _ _ _
 have s1:w1.heap.size=w.heap.size+1:=by rw [hw1];simp
 obtain⟨w2,hw2⟩:∃ w2,w2=w1.alloc (.cells #[.int .i64 0,.int .i64 0,.string ⟨#[]⟩,.slice none 0 0,.slice none 0 0,.slice none 0 0] 37):=⟨_,rfl⟩
 have q2:Below w1.heap.size w1 w2:=by rw [hw2];exact below_alloc _ _
 have tx:Tx w2 (w.heap.size+1) (.int .i64 0) (.int .i64 0) (.string ⟨#[]⟩) (.slice none 0 0) (.slice none 0 0) (.slice none 0 0):=by rw [hw2,← s1];exact tx_new _ _ _ _ _ _ _
 have qq:Below w.heap.size w w2:=q.trans (q2.mono q.size)
 rw [hw1] at hw2
 have Hc:Hid (∀ u:ClsZ w2,Calls Tryz.prog 97 #[.pointer (some ⟨R.r,2,none⟩),.string (bs t.name)] u.1 fun e w'=>e=.returned (fndV (some i))∧∃ u':ClsZ w2,w'=u'.1):=fun u=>clsZ_call u (by have:=((h.keep qq).keep u.2).fv t.name hl;rw [hF] at this;exact this)
 have hx:(∀ u:ClsZ w2,u.1.cell? ⟨w.heap.size,1,none⟩=some (.string (bs t.name))):=fun u=>((bx.blw q2).blw u.2).cells.2.1
 have Hg:Hid (∀ u:ClsZ w2,Tx u.1 (w.heap.size+1) (.int .i64 0) (.int .i64 0) (.string ⟨#[]⟩) (.slice none 0 0) (.slice none 0 0) (.slice none 0 0)):=fun u=>tx.blw u.2
 unfold Rsv.ptr
 have Hq:Hid (Below w.heap.size w w2):=qq
 clear h hN hK ht q bx q2 tx qq s1 hw1
 obtain⟨s,hs⟩:∃ s,s=w.heap.size:=⟨_,rfl⟩
 rw [← hs] at Hg hx Hq ⊢
 go_enter Tryz.func76,Tryz.ntmps76
 go_wp2
 rw [← hw2]
 simp only [← hs]
 have Hs:Hid (s=w.heap.size):=hs
 clear hw2 hs
 have hne:=clsZ_any w2
 unfold fndV at Hc
 simp only [Option.getD_some,Option.isSome_some] at Hc
 refine wp_region_clsZ (by kernel_rfl) (by kernel_rfl) ?_
 repeat (quiet_step (exact Hc.out _))
 refine wpQuiet_nil ?_
 rintro _ ⟨u,rfl⟩
 have g1:=Hg.out u
 obtain⟨w3,hb2⟩:=u
 have hal:=Hq.out.trans (hb2.mono (by rw [Hs.out];exact Hq.out.size))
 have g2:=g1.put (.int .i64 1) (.int .i64 (i:Nat)) (.string ⟨#[]⟩) (.slice none 0 0) (.slice none 0 0) (.slice none 0 0)
 have hal2:Below s w (pu6 w3 (s+1) (.int .i64 1) (.int .i64 (i:Nat)) (.string ⟨#[]⟩) (.slice none 0 0) (.slice none 0 0) (.slice none 0 0)):=Below.put6 hal (by omega) _ _ _ _ _ _
 obtain⟨c0,c1,c2,c3,c4,c5⟩:=g1.cells
 have f0:=g1.cold 0
 have f1:=g1.cold 1
 have f2:=g1.cold 2
 have f3:=g1.cold 3
 have f4:=g1.cold 4
 have f5:=g1.cold 5
 have H2:Hid (_∧_):=⟨g2,hal2⟩
 clear g2 hal2
 go_wp2
 obtain⟨g2,hal2⟩:=H2.out
 unfold pu6 at g2 hal2
 obtain⟨d0,d1,d2,d3,d4,d5⟩:=g2.cells
 exact⟨rfl,.agg #[.int .i64 1,.int .i64 (i:Nat),.string ⟨#[]⟩,.slice none 0 0,.slice none 0 0,.slice none 0 0],by simp only [results,Tryz.results76];simp [go_sem,d0,d1,d2,d3,d4,d5],rfl,hal2⟩
set_option maxRecDepth 100000 in
set_option maxHeartbeats 2000000 in
theorem namedN_any (R:Rsv) (σ:Sg) (n m:Nat) (t:Sx) (v:Value) (w:World) (h:R.In w σ n) (ht:SxIn m w t v) (hm:m≤w.heap.size) (hl:t.name.length≤1000000) (hF:fndR t.name σ.v=none) :
  Calls Tryz.prog 76 #[R.ptr,v] w fun e w'=>(if t.name∈σ.g then e=.returned (.agg #[.int .i64 2,.int .i64 0,.string (bs t.name),.slice none 0 0,.slice none 0 0,.slice none 0 0]) else e=.panicked [fltS t.at_ 90])∧Below w.heap.size w w':=by
 obtain⟨ka,kc,na,nc,rfl,hN,hK⟩:=ht.form
 obtain⟨w1,hw1⟩:∃ w1,w1=w.alloc (.cells #[.int .i64 t.kind,.string (bs t.name),.slice ka t.kids.length kc,.slice na t.names.length nc,.int .i64 t.at_] 26):=⟨_,rfl⟩
 have q:Below w.heap.size w w1:=by rw [hw1];exact below_alloc _ _
 have bx:Bx w1 w.heap.size (.int .i64 t.kind) (.string (bs t.name)) (.slice ka t.kids.length kc) (.slice na t.names.length nc) (.int .i64 t.at_):=by rw [hw1];exact bx_new _ _ _ _ _ _
 have s1:w1.heap.size=w.heap.size+1:=by rw [hw1];simp
 obtain⟨w2,hw2⟩:∃ w2,w2=w1.alloc (.cells #[.int .i64 0,.int .i64 0,.string ⟨#[]⟩,.slice none 0 0,.slice none 0 0,.slice none 0 0] 37):=⟨_,rfl⟩
 have q2:Below w1.heap.size w1 w2:=by rw [hw2];exact below_alloc _ _
 have tx:Tx w2 (w.heap.size+1) (.int .i64 0) (.int .i64 0) (.string ⟨#[]⟩) (.slice none 0 0) (.slice none 0 0) (.slice none 0 0):=by rw [hw2,← s1];exact tx_new _ _ _ _ _ _ _
 have qq:Below w.heap.size w w2:=q.trans (q2.mono q.size)
 rw [hw1] at hw2
 have Hc:Hid (∀ u:ClsZ w2,Calls Tryz.prog 97 #[.pointer (some ⟨R.r,2,none⟩),.string (bs t.name)] u.1 fun e w'=>e=.returned (fndV none)∧∃ u':ClsZ w2,w'=u'.1):=fun u=>clsZ_call u (by have:=((h.keep qq).keep u.2).fv t.name hl;rw [hF] at this;exact this)
 have hx:(∀ u:ClsZ w2,u.1.cell? ⟨w.heap.size,1,none⟩=some (.string (bs t.name))):=fun u=>((bx.blw q2).blw u.2).cells.2.1
 have Hg:Hid (∀ u:ClsZ w2,Tx u.1 (w.heap.size+1) (.int .i64 0) (.int .i64 0) (.string ⟨#[]⟩) (.slice none 0 0) (.slice none 0 0) (.slice none 0 0)∧R.In u.1 σ n∧SxIn m u.1 t (.agg #[.int .i64 t.kind,.string (bs t.name),.slice ka t.kids.length kc,.slice na t.names.length nc,.int .i64 t.at_])∧Bx u.1 w.heap.size (.int .i64 t.kind) (.string (bs t.name)) (.slice ka t.kids.length kc) (.slice na t.names.length nc) (.int .i64 t.at_)):=fun u=>⟨tx.blw u.2,(h.keep qq).keep u.2,ht.keep ((qq.trans (u.2.mono qq.size)).mono hm),(bx.blw q2).blw u.2⟩
 unfold Rsv.ptr
 have Hq:Hid (Below w.heap.size w w2):=qq
 clear h hN hK ht q bx q2 tx qq s1 hw1
 obtain⟨s,hs⟩:∃ s,s=w.heap.size:=⟨_,rfl⟩
 rw [← hs] at Hg hx Hq ⊢
 go_enter Tryz.func76,Tryz.ntmps76
 go_wp2
 rw [← hw2]
 simp only [← hs]
 have Hs:Hid (s=w.heap.size):=hs
 clear hw2 hs
 have hne:=clsZ_any w2
 unfold fndV at Hc
 simp only [Option.getD_none,Option.isSome_none] at Hc
 refine wp_region_clsZ (by kernel_rfl) (by kernel_rfl) ?_
 repeat (quiet_step (exact Hc.out _))
 refine wpQuiet_nil ?_
 rintro _ ⟨u,rfl⟩
 obtain⟨g1,gR,gS,gB⟩:=Hg.out u
 obtain⟨w3,hb2⟩:=u
 have hal:=Hq.out.trans (hb2.mono (by rw [Hs.out];exact Hq.out.size))
 have Hal:Hid (Below s w w3):=hal
 obtain⟨b0,b1,b2,b3,b4⟩:=gB.cells
 obtain⟨_,rc1,_⟩:=gR.c
 have hlk:=fun w4 (hb:Below w3.heap.size w3 w4)=>(gR.keep hb).gl.look t.name hl
 clear hal hx Hg Hc hne
 have hrl:R.r<w3.heap.size:=gR.rlt
 have hsl:s<w3.heap.size:=gB.lt
 obtain⟨q,hq⟩:∃ q,q=decide (t.name∈σ.g):=⟨_,rfl⟩
 rw [← hq] at hlk
 have HL:Hid (∀ w4,Below w3.heap.size w3 w4→Sem.run Tryz.prog (Instr.lookup 73 (.map (some R.bg)) (.string (bs t.name)) true) w4=.ok (.tuple #[.agg #[],.bool q]) w4):=hlk
 have HA:Hid (∀ w4,Below w3.heap.size w3 w4→w4.cell? ⟨R.r,1,none⟩=some (.map (some R.bg))∧w4.cell? ⟨s,1,none⟩=some (.string (bs t.name))):=fun w4 hb=>⟨(hb.cell (p:=⟨R.r,1,none⟩) hrl).trans rc1,(hb.cell (p:=⟨s,1,none⟩) hsl).trans b1⟩
 have HG:Hid (SxIn m w3 t (.agg #[.int .i64 t.kind,.string (bs t.name),.slice ka t.kids.length kc,.slice na t.names.length nc,.int .i64 t.at_])∧Bx w3 s (.int .i64 t.kind) (.string (bs t.name)) (.slice ka t.kids.length kc) (.slice na t.names.length nc) (.int .i64 t.at_)∧Tx w3 (s+1) (.int .i64 0) (.int .i64 0) (.string ⟨#[]⟩) (.slice none 0 0) (.slice none 0 0) (.slice none 0 0)):=⟨gS,gB,g1⟩
 have HQ:Hid (q=decide (t.name∈σ.g)):=hq
 clear hlk hq g1 gR gS gB b0 b1 b2 b3 b4 rc1
 go_wp2
 refine wp_region_held_drew (S:=fun w9=>Below w3.heap.size w3 w9) (by kernel_rfl) (Below.drew (Below.refl _ _)) (fun hS=>?_)
 refine wpAnyH_take (i:=0) (v:=.pointer (some ⟨R.r,0,none⟩)) rfl (by kernel_rfl) (by kernel_rfl) (by kernel_rfl) (fun _ _ _ h=>h) (Or.inl ⟨by rfl,fun w hS=>by go_simp⟩) hS ?_
 simp only [Act.put,List.getElem_toArray,List.getElem_cons_zero,List.getElem_cons_succ,List.setIfInBounds_toArray,List.set_cons_zero,List.set_cons_succ]
 refine wpAnyH_take (i:=1) (v:=.pointer (some ⟨R.r,0,none⟩)) rfl (by kernel_rfl) (by kernel_rfl) (by kernel_rfl) (fun _ _ _ h=>h) (Or.inl ⟨by rfl,fun w hS=>by go_simp⟩) hS ?_
 simp only [Act.put,List.getElem_toArray,List.getElem_cons_zero,List.getElem_cons_succ,List.setIfInBounds_toArray,List.set_cons_zero,List.set_cons_succ]
 refine wpAnyH_take (i:=2) (v:=.pointer (some ⟨R.r,1,none⟩)) rfl (by kernel_rfl) (by kernel_rfl) (by kernel_rfl) (fun _ _ _ h=>h) (Or.inl ⟨by rfl,fun w hS=>by go_simp⟩) hS ?_
 simp only [Act.put,List.getElem_toArray,List.getElem_cons_zero,List.getElem_cons_succ,List.setIfInBounds_toArray,List.set_cons_zero,List.set_cons_succ]
 refine wpAnyH_take (i:=3) (v:=.map (some R.bg)) rfl (by kernel_rfl) (by kernel_rfl) (by kernel_rfl) (fun _ _ _ h=>h) (Or.inl ⟨by rfl,fun w hS=>by have e:=(HA.out w hS).1;go_simp⟩) hS ?_
 simp only [Act.put,List.getElem_toArray,List.getElem_cons_zero,List.getElem_cons_succ,List.setIfInBounds_toArray,List.set_cons_zero,List.set_cons_succ]
 refine wpAnyH_take (i:=4) (v:=.pointer (some ⟨s,1,none⟩)) rfl (by kernel_rfl) (by kernel_rfl) (by kernel_rfl) (fun _ _ _ h=>h) (Or.inl ⟨by rfl,fun w hS=>by go_simp⟩) hS ?_
 simp only [Act.put,List.getElem_toArray,List.getElem_cons_zero,List.getElem_cons_succ,List.setIfInBounds_toArray,List.set_cons_zero,List.set_cons_succ]
 refine wpAnyH_take (i:=5) (v:=.string (bs t.name)) rfl (by kernel_rfl) (by kernel_rfl) (by kernel_rfl) (fun _ _ _ h=>h) (Or.inl ⟨by rfl,fun w hS=>by have e:=(HA.out w hS).2;go_simp⟩) hS ?_
 simp only [Act.put,List.getElem_toArray,List.getElem_cons_zero,List.getElem_cons_succ,List.setIfInBounds_toArray,List.set_cons_zero,List.set_cons_succ]
 refine wpAnyH_take (i:=6) (v:=.tuple #[.agg #[],.bool q]) rfl (by kernel_rfl) (by kernel_rfl) (by kernel_rfl) (fun _ _ _ h=>h) (Or.inl ⟨by rfl,fun w hS=>by have e:=HL.out w hS;go_simp⟩) hS ?_
 simp only [Act.put,List.getElem_toArray,List.getElem_cons_zero,List.getElem_cons_succ,List.setIfInBounds_toArray,List.set_cons_zero,List.set_cons_succ]
 refine wpAnyH_take (i:=7) (v:=.tuple #[.agg #[],.bool q]) rfl (by kernel_rfl) (by kernel_rfl) (by kernel_rfl) (fun _ _ _ h=>h) (Or.inl ⟨by rfl,fun w hS=>by go_simp⟩) hS ?_
 simp only [Act.put,List.getElem_toArray,List.getElem_cons_zero,List.getElem_cons_succ,List.setIfInBounds_toArray,List.set_cons_zero,List.set_cons_succ]
 refine wpAnyH_take (i:=8) (v:=.agg #[]) rfl (by kernel_rfl) (by kernel_rfl) (by kernel_rfl) (fun _ _ _ h=>h) (Or.inl ⟨by rfl,fun w hS=>by go_simp⟩) hS ?_
 simp only [Act.put,List.getElem_toArray,List.getElem_cons_zero,List.getElem_cons_succ,List.setIfInBounds_toArray,List.set_cons_zero,List.set_cons_succ]
 refine wpAnyH_take (i:=9) (v:=.bool q) rfl (by kernel_rfl) (by kernel_rfl) (by kernel_rfl) (fun _ _ _ h=>h) (Or.inl ⟨by rfl,fun w hS=>by go_simp⟩) hS ?_
 simp only [Act.put,List.getElem_toArray,List.getElem_cons_zero,List.getElem_cons_succ,List.setIfInBounds_toArray,List.set_cons_zero,List.set_cons_succ]
 refine wpAnyH_ready (rs:=[10]) (by kernel_rfl) (by simp) ?_
 refine ready_cons rfl (fun KK hKK=>?_) AllReadyH.nil
 refine⟨?_⟩
 go_simp
 have hS2:Below w3.heap.size w3 (w3.alloc (.cells #[] 99)).drew:=Below.drew (below_alloc w3 _)
 obtain⟨w4,hw4⟩:∃ w4,w4=(w3.alloc (.cells #[] 99)).drew:=⟨_,rfl⟩
 rw [← hw4] at hS2 ⊢
 clear hS hw4
 refine hKK.out _ _ hS2 (fun hS=>?_)
 clear hKK KK
 try simp only [Act.put,List.getElem_toArray,List.getElem_cons_zero,List.getElem_cons_succ,List.setIfInBounds_toArray,List.set_cons_zero,List.set_cons_succ]
 refine wpAnyH_ready (rs:=[11]) (by kernel_rfl) (by simp) ?_
 refine ready_cons rfl (fun KK hKK=>?_) AllReadyH.nil
 refine⟨?_⟩
 go_simp
 refine hKK.out _ _ hS (fun hS=>?_)
 clear hKK KK
 try simp only [Act.put,List.getElem_toArray,List.getElem_cons_zero,List.getElem_cons_succ,List.setIfInBounds_toArray,List.set_cons_zero,List.set_cons_succ]
 refine wpAnyH_ready (rs:=[12]) (by kernel_rfl) (by simp) ?_
 refine ready_cons rfl (fun KK hKK=>?_) AllReadyH.nil
 refine⟨?_⟩
 go_simp
 refine hKK.out _ _ hS (fun hS=>?_)
 clear hKK KK
 try simp only [Act.put,List.getElem_toArray,List.getElem_cons_zero,List.getElem_cons_succ,List.setIfInBounds_toArray,List.set_cons_zero,List.set_cons_succ]
 refine wpAnyH_done (by kernel_rfl) ?_ _
 obtain⟨gS,gB,g1⟩:=HG.out
 have gS:=gS.keep (hS.mono (Nat.le_trans hm (by have:=Hs.out;omega)))
 have gB:=gB.blw hS
 have g1:=g1.blw hS
 have hal:Below s w w4:=Hal.out.trans (hS.mono (by omega))
 obtain⟨b0,b1,b2,b3,b4⟩:=gB.cells
 cases q with
 | false =>
  have hni:Hid (¬ (t.name∈σ.g)):=by have:=HQ.out;show ¬ _;simpa using this.symm
  have hgu:=giveUp_any m t _ 90 w4 gS
  clear HG HA HL hS
  go_wp2_with (go_at_call 50;refine hgu.mono ?_;rintro e w5 ⟨rfl,hb5⟩)
  exact⟨rfl,by first | rfl | rw [if_neg hni.out],hal.trans (hb5.mono (by have:=gB.lt;omega))⟩
 | true =>
  have hni:Hid (t.name∈σ.g):=by have:=HQ.out;show _∈_;simpa using this.symm
  have g2:=g1.put (.int .i64 2) (.int .i64 0) (.string (bs t.name)) (.slice none 0 0) (.slice none 0 0) (.slice none 0 0)
  have hal2:Below s w (pu6 w4 (s+1) (.int .i64 2) (.int .i64 0) (.string (bs t.name)) (.slice none 0 0) (.slice none 0 0) (.slice none 0 0)):=Below.put6 hal (by omega) _ _ _ _ _ _
  obtain⟨c0,c1,c2,c3,c4,c5⟩:=g1.cells
  have f0:=g1.cold 0
  have f1:=g1.cold 1
  have f2:=g1.cold 2
  have f3:=g1.cold 3
  have f4:=g1.cold 4
  have f5:=g1.cold 5
  have H2:Hid (_∧_):=⟨g2,hal2⟩
  clear g2 hal2 HG HA HL hS
  go_wp2
  obtain⟨g2,hal2⟩:=H2.out
  unfold pu6 at g2 hal2
  obtain⟨d0,d1,d2,d3,d4,d5⟩:=g2.cells
  exact⟨rfl,.agg #[.int .i64 2,.int .i64 0,.string (bs t.name),.slice none 0 0,.slice none 0 0,.slice none 0 0],by simp only [results,Tryz.results76];simp [go_sem,d0,d1,d2,d3,d4,d5],by first | rfl | rw [if_pos hni.out],hal2⟩
def EndZ {α:Type} (r:Rz α) (P:α→Value→World→Prop) (e:Ending) (w':World):Prop:=match r with
 | none=>True
 | some (.inl p)=>e=.panicked [fltS p.1 p.2]
 | some (.inr a)=>∃ v,e=.returned v∧P a v w'
theorem tm_leafN {ok:Nat→Prop} {w:World} (k n:Nat) (nm:Bs):TmIn ok w (.mk k n nm [] [] []) (.agg #[.int .i64 (k:Nat),.int .i64 (n:Nat),.string (bs nm),.slice none 0 0,.slice none 0 0,.slice none 0 0]) :=
 TmIn.mk k n nm [] [] [] _ _ _ (cl_nil _ _) (kt_nil _ _ _) (sy_nil _ _ _)
theorem named_any (R:Rsv) (σ:Sg) (n m:Nat) (t:Sx) (v:Value) (w:World) (h:R.In w σ n) (ht:SxIn m w t v) (hm:m≤w.heap.size) (hl:t.name.length≤1000000) :
  Calls Tryz.prog 76 #[R.ptr,v] w fun e w'=>EndZ (namedF σ t) (fun a v w'=>TmIn (fun _=>False) w' a v) e w'∧Below w.heap.size w w':=by
 unfold namedF
 cases hF:fndR t.name σ.v with
 | some i =>
  refine (namedV_any R σ n m i t v w h ht hm hl hF).mono ?_
  rintro e w' ⟨rfl,hb⟩
  exact⟨⟨_,rfl,tm_leafN 1 i []⟩,hb⟩
 | none =>
  refine (namedN_any R σ n m t v w h ht hm hl hF).mono ?_
  rintro e w' ⟨he,hb⟩
  refine⟨?_,hb⟩
  by_cases hg:t.name∈σ.g
  ·rw [if_pos hg] at he
   simp only [hg,if_true]
   exact⟨_,he,tm_leafN 2 0 t.name⟩
  ·rw [if_neg hg] at he
   simp only [hg,if_false]
   exact he
end Go.Proofs.YtahnbigkdfmpbaaGreatDoor
