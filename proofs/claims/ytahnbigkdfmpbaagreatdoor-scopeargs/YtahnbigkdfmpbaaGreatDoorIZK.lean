/- Trees that were read, as trees of any kind; the reference's Same of two of these, but for places. The term of a text. -/
import Derived.Deep.QuietTactic
import Derived.BigQuiet
import Derived.WalkSmall
import Derived.StillTailTactics
import Derived.Test.YtahnbigkdfmpbaaGreatDoorIPRow
import Derived.Test.YtahnbigkdfmpbaaGreatDoorIMMath
import Derived.Test.YtahnbigkdfmpbaaGreatDoorISA
import Derived.Test.YtahnbigkdfmpbaaGreatDoorIZJ
import Derived.Test.YtahnbigkdfmpbaaGreatDoorIPC
set_option linter.unusedVariables false
set_option linter.unusedSimpArgs false
namespace Go.Proofs.YtahnbigkdfmpbaaGreatDoor
open Go.RowKit
def ofTr:Tr→Sx
 | .mk k n kids ns a=>.mk (k:Int) n (kids.map fun x=>ofTr x) ns (a:Int)
theorem ofTr_mk (k:Nat) (n:Bs) (kids:List Tr) (ns:List Bs) (a:Nat):ofTr (.mk k n kids ns a)=.mk (k:Int) n (kids.map ofTr) ns (a:Int):=by rw [ofTr]
theorem NmIn.nms {ok:Nat→Prop} {w:World} {ns:List Bs} {v:Value} (h:NmIn ok w ns v):NmS w.heap.size w ns v:=by
 rcases h with ⟨a,cap,rfl,rfl⟩|⟨g,off,cap,hL,hok,hg,hc,rfl⟩
 ·exact⟨a,cap,rfl,Nat.zero_le _,fun j x hx=>by simp at hx⟩
 ·exact⟨_,cap,rfl,hL.2,fun j x hx=>⟨g,off,rfl,hg,hc j x hx⟩⟩
theorem TrIn.sx {ok:Nat→Prop} {w:World} {t:Tr} {v:Value} (h:TrIn ok w t v):SxIn w.heap.size w (ofTr t) v:=by
 refine h (fun t v=>SxIn w.heap.size w (ofTr t) v) ⟨fun k nm ns p a cap vn hn=>?_,fun k nm kids ns p vn g off cap U hL hn hok hg hc ih=>?_⟩
 ·rw [ofTr_mk]
  exact .mk _ nm [] ns _ vn a cap hn.nms (fun j x hx=>by simp at hx)
 ·rw [ofTr_mk]
  have h9:=SxIn.mk (n:=w.heap.size) (w:=w) (k:Int) nm (kids.map ofTr) ns (p:Int) vn (some ⟨g,off,none⟩) cap hn.nms (fun j x hx=>by
   rw [List.getElem?_map] at hx
   cases hk:kids[j]? with
   | none=>rw [hk] at hx;cases hx
   | some y =>
    rw [hk] at hx
    injection hx with hx
    subst hx
    have hlt:j<kids.length:=by
     rcases Nat.lt_or_ge j kids.length with h1|h1
     ·exact h1
     ·rw [List.getElem?_eq_none h1] at hk;cases hk
    have:=ih j y hk
    exact⟨g,off,U j 0,U j 1,U j 2,U j 3,U j 4,rfl,hg,this,hc j hlt 0 (by omega),hc j hlt 1 (by omega),hc j hlt 2 (by omega),hc j hlt 3 (by omega),hc j hlt 4 (by omega)⟩)
  rw [List.length_map] at h9
  exact h9
end Go.Proofs.YtahnbigkdfmpbaaGreatDoor
namespace Go.Proofs.YtahnbigkdfmpbaaGreatDoor
open Go.RowKit
set_option maxRecDepth 100000 in
set_option maxHeartbeats 4000000 in
theorem of_any (PA:List Sx→Prop) (hCP:∀ R,CallsP R PA) (f:Nat) (hf:f≤1000000) (s:ByteArray) (T:Tr) (g vs ds:List Bs) (ga xa da:Option Addr) (gc xc dc:Nat) (w:World) (hT:Tabs w) (hs:s.size≤4*maxLen) (hA:termA 700000 (tl s)=(T,0,0)) (hg:NmS w.heap.size w g (.slice ga g.length gc)) (hv:NmS w.heap.size w vs (.slice xa vs.length xc)) (hd:NmS w.heap.size w ds (.slice da ds.length dc))
  (hNi:Nice PA f (ofTr T)) (hb:blk (ofTr T)≤1000000) (hok:okF 65536 0 (ofTr T)=true) (hlg:g.length≤1000) (hlv:vs.length≤1000) (hld:ds.length≤24) (hcg:∀ x∈g,x.length≤1000000) (hcv:∀ x∈vs,x.length≤1000000) (hcd:∀ x∈ds,x.length≤1000000) (hwg:g.any isWd=false) (hwv:vs.any isWd=false) (hwd:ds.any isWd=false) (r:Rz Tm) (hrr:termR f ⟨g,vs.reverse,ds.reverse⟩ (ofTr T)=r) (hr:r≠none) :
  Calls Tryz.prog 9 #[.string s,.agg #[.slice ga g.length gc,.slice xa vs.length xc,.slice da ds.length dc]] w (ResP r w):=by
 obtain⟨w1,hw1⟩:∃ w1,w1=(w.alloc (.cells #[.slice ga g.length gc,.slice xa vs.length xc,.slice da ds.length dc] 32)).alloc (.cells #[.int .i64 0,.int .i64 0,.string ⟨#[]⟩,.slice none 0 0,.slice none 0 0,.slice none 0 0] 37):=⟨_,rfl⟩
 have q1:Below w.heap.size w w1:=by rw [hw1];exact chain (below_alloc _ _) (below_alloc _ _)
 have s1:w1.heap.size=w.heap.size+1+1:=by rw [hw1];simp
 have n0:w1.cell? ⟨w.heap.size,0,none⟩=some (.slice ga g.length gc):=by rw [hw1];simp [go_sem]
 have n1:w1.cell? ⟨w.heap.size,1,none⟩=some (.slice xa vs.length xc):=by rw [hw1];simp [go_sem]
 have n2:w1.cell? ⟨w.heap.size,2,none⟩=some (.slice da ds.length dc):=by rw [hw1];simp [go_sem]
 have tx1:Tx w1 (w.heap.size+1) (.int .i64 0) (.int .i64 0) (.string ⟨#[]⟩) (.slice none 0 0) (.slice none 0 0) (.slice none 0 0):=by
  rw [hw1]
  have:=tx_new (w.alloc (.cells #[.slice ga g.length gc,.slice xa vs.length xc,.slice da ds.length dc] 32)) (.int .i64 0) (.int .i64 0) (.string ⟨#[]⟩) (.slice none 0 0) (.slice none 0 0) (.slice none 0 0)
  simpa using this
 have cT:=term_any 700000 (by omega) (by omega) s w1 hs (hT.below q1)
 rw [hA] at cT
 simp only at cT
 have Hw1:Hid (w1=_):=hw1
 have H1:Hid (Below w.heap.size w w1∧w1.heap.size=w.heap.size+1+1∧w1.cell? ⟨w.heap.size,0,none⟩=some (.slice ga g.length gc)∧w1.cell? ⟨w.heap.size,1,none⟩=some (.slice xa vs.length xc)∧w1.cell? ⟨w.heap.size,2,none⟩=some (.slice da ds.length dc)∧Tx w1 (w.heap.size+1) (.int .i64 0) (.int .i64 0) (.string ⟨#[]⟩) (.slice none 0 0) (.slice none 0 0) (.slice none 0 0)):=⟨q1,s1,n0,n1,n2,tx1⟩
 clear q1 s1 n0 n1 n2 tx1 hw1 hA hT
 go_enter Tryz.func9,Tryz.ntmps9
 go_wp2_with fail
 rw [← Hw1.out]
 refine cT.mono ?_
 rintro e w2 ⟨v,rfl,hTr,h12⟩
 obtain⟨q1,s1,n0,n1,n2,tx1⟩:=H1.out
 have hsx:=hTr.sx
 obtain⟨ka,kc,na,nc,rfl,_,_⟩:=hsx.form
 obtain⟨w3,hw3⟩:∃ w3,w3=w2.alloc (.cells #[.int .i64 (ofTr T).kind,.string (bs (ofTr T).name),.slice ka (ofTr T).kids.length kc,.slice na (ofTr T).names.length nc,.int .i64 (ofTr T).at_] 26):=⟨_,rfl⟩
 have h23:Below w2.heap.size w2 w3:=by rw [hw3];exact below_alloc _ _
 have bx3:Bx w3 w2.heap.size (.int .i64 (ofTr T).kind) (.string (bs (ofTr T).name)) (.slice ka (ofTr T).kids.length kc) (.slice na (ofTr T).names.length nc) (.int .i64 (ofTr T).at_):=by rw [hw3];exact bx_new _ _ _ _ _ _
 have B13:Below w1.heap.size w1 w3:=h12.trans (h23.mono h12.size)
 have Q3:Below w.heap.size w w3:=q1.trans (B13.mono q1.size)
 have m0:=(B13.cell (p:=⟨w.heap.size,0,none⟩) (by show w.heap.size<_;omega)).trans n0
 have m1:=(B13.cell (p:=⟨w.heap.size,1,none⟩) (by show w.heap.size<_;omega)).trans n1
 have m2:=(B13.cell (p:=⟨w.heap.size,2,none⟩) (by show w.heap.size<_;omega)).trans n2
 have tx3:=tx1.blw B13
 have hz12:w.heap.size≤w2.heap.size:=by have:=h12.size;omega
 have cR:=resolve_any PA hCP f w2.heap.size hf (ofTr T) _ g vs ds _ _ _ w3 (hsx.keep h23) ((hg.keep Q3).up hz12) ((hv.keep Q3).up hz12) ((hd.keep Q3).up hz12) h23.size hNi hb hok hlg hlv hld hcg hcv hcd hwg hwv hwd (by rw [hrr];exact hr)
 rw [hrr] at cR
 generalize ofTr T=t at *
 obtain⟨x0,x1,x2,x3,x4⟩:=bx3.cells
 have H3:Hid (w3=_∧Below w.heap.size w w3∧Tx w3 (w.heap.size+1) _ _ _ _ _ _∧w.heap.size+1<w3.heap.size):=⟨hw3,Q3,tx3,by have:=B13.size;omega⟩
 rw [hw3] at cR x0 x1 x2 x3 x4 m0 m1 m2
 clear q1 s1 n0 n1 n2 tx1 hTr h12 hsx hw3 h23 bx3 B13 Q3 tx3 hNi hrr H1 Hw1 cT hz12
 go_wp2_with fail
 refine cR.mono ?_
 rintro e w4 ⟨h34,hE⟩
 obtain⟨hw3,Q3,tx3,hsz⟩:=H3.out
 rw [← hw3] at h34 hE
 have Q4:Below w.heap.size w w4:=Q3.trans (h34.mono Q3.size)
 have tx4:=tx3.blw h34
 have hsz4:=h34.size
 have hz3:=Q3.size
 clear x0 x1 x2 x3 x4 m0 m1 m2 cR hw3 H3 tx3
 cases r with
 | none=>exact absurd rfl hr
 | some y =>
  obtain⟨c0,c1,c2,c3,c4,c5⟩:=tx4.cells
  have g0:=tx4.cold 0
  have g1:=tx4.cold 1
  have g2:=tx4.cold 2
  have g3:=tx4.cold 3
  have g4:=tx4.cold 4
  have g5:=tx4.cold 5
  cases y with
  | inl p =>
   obtain rfl:e=_:=hE
   have t8:=tx4.put (.int .i64 0) (.int .i64 0) (.string ⟨#[]⟩) (.slice none 0 0) (.slice none 0 0) (.slice none 0 0)
   have hal2:Below w.heap.size w (pu6 w4 (w.heap.size+1) (.int .i64 0) (.int .i64 0) (.string ⟨#[]⟩) (.slice none 0 0) (.slice none 0 0) (.slice none 0 0)):=Below.put6 Q4 (by omega) _ _ _ _ _ _
   have H8:Hid (_∧_):=⟨t8,hal2⟩
   clear t8 hal2 tx4
   go_wp2
   obtain⟨t8,hal2⟩:=H8.out
   unfold pu6 at t8 hal2
   obtain⟨d0,d1,d2,d3,d4,d5⟩:=t8.cells
   exact⟨rfl,.tuple #[.agg #[.int .i64 0,.int .i64 0,.string ⟨#[]⟩,.slice none 0 0,.slice none 0 0,.slice none 0 0],.int .i64 p.1,.int .i64 (p.2:Nat)],by simp only [results,Tryz.results9];simp [go_sem,d0,d1,d2,d3,d4,d5],hal2,rfl⟩
  | inr a =>
   obtain⟨va,rfl,hTm⟩:=hE
   obtain⟨ra,rc,qa,qc,sa,sc,rfl,_⟩:=hTm.form
   have t8:=tx4.put (.int .i64 (a.kind:Nat)) (.int .i64 (a.n:Nat)) (.string (bs a.name)) (.slice ra a.r.length rc) (.slice qa a.kids.length qc) (.slice sa a.sys.length sc)
   have k8:Kn (fun k=>k≠w.heap.size+1) w4 (pu6 w4 (w.heap.size+1) (.int .i64 (a.kind:Nat)) (.int .i64 (a.n:Nat)) (.string (bs a.name)) (.slice ra a.r.length rc) (.slice qa a.kids.length qc) (.slice sa a.sys.length sc)):=pu6_kn
   have hT8:=(hTm.kn k8 fun k hk=>by omega).up (ok':=fun k=>w.heap.size≤k∧k<(pu6 w4 (w.heap.size+1) (.int .i64 (a.kind:Nat)) (.int .i64 (a.n:Nat)) (.string (bs a.name)) (.slice ra a.r.length rc) (.slice qa a.kids.length qc) (.slice sa a.sys.length sc)).heap.size) fun k hk=>by have:=k8.size;omega
   have hal2:Below w.heap.size w (pu6 w4 (w.heap.size+1) (.int .i64 (a.kind:Nat)) (.int .i64 (a.n:Nat)) (.string (bs a.name)) (.slice ra a.r.length rc) (.slice qa a.kids.length qc) (.slice sa a.sys.length sc)):=Below.put6 Q4 (by omega) _ _ _ _ _ _
   have H8:Hid (_∧_∧_):=⟨t8,hal2,hT8⟩
   clear t8 hal2 hT8 k8 tx4 hTm
   go_wp2
   obtain⟨t8,hal2,hT8⟩:=H8.out
   unfold pu6 at t8 hal2 hT8
   obtain⟨d0,d1,d2,d3,d4,d5⟩:=t8.cells
   exact⟨rfl,.tuple #[.agg #[.int .i64 (a.kind:Nat),.int .i64 (a.n:Nat),.string (bs a.name),.slice ra a.r.length rc,.slice qa a.kids.length qc,.slice sa a.sys.length sc],.int .i64 0,.int .i64 0],by simp only [results,Tryz.results9];simp [go_sem,d0,d1,d2,d3,d4,d5],hal2,_,rfl,hT8⟩
end Go.Proofs.YtahnbigkdfmpbaaGreatDoor
